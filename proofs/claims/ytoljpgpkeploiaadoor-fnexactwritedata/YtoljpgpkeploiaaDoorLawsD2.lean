/-
  The exact law of PartsOf answers true at every slice of data and every place, if the program's own function answers what the plain one tells; nothing that was there is turned.
-/
import Derived.Test.YtoljpgpkeploiaaDoorSpecSubD
import Derived.Test.YtoljpgpkeploiaaDoorResIntsResult
import Derived.Test.YtoljpgpkeploiaaDoorMkDatum
namespace Go.Proofs.YtoljpgpkeploiaaDoor
open Go.RowKit Go.Extern.Stop Go.Stop Go.Extern Num Go.Lib

def outP (l : List Dat) (z : Int) : List Int := if askD l z = 0 then partsD l z else []
theorem outP_len (l : List Dat) (z : Int) : (outP l z).length ≤ 80 := by
  unfold outP
  split
  · rename_i h
    have h1 := (ask_zero h).1.len
    have h2 := partsTo_len l z l.length
    unfold partsD; omega
  · simp
theorem specParts_ans (ao : Option Addr) (cap base : Nat) (l : List Dat) (z : Int) (w : World) (h : w.ownsRow base 51 4 (.slice ao l.length cap) l.length (cellsD l)) (hl : l.length ≤ 1048576) (hz : ∀ (k : Nat) (h : k < l.length), l[k].name.size ≤ 9223372036854775807) :
    Calls Tryd.prog 21 #[.slice ao l.length cap, .int .i64 z] w fun e w' => ∃ ao c, e = .returned (.agg #[.int .i64 (askD l z), .slice ao (outP l z).length c]) ∧ w'.ownsRow w.heap.size 2 1 (.slice ao (outP l z).length c) (outP l z).length (cellsI (outP l z)) ∧ Below w.heap.size w w' := specParts_any ao cap base l z w h hl hz
set_option maxRecDepth 100000 in
set_option maxHeartbeats 4000000 in
theorem lawParts_of (a : Option Addr) (cp : Nat) (l : List Dat) (z : Int) (w : World) (G : World → Prop) (hG : ∀ u, Below w.heap.size w u → G u) (hl : l.length ≤ 9223372036854775807) (h : MemD w a l) (hz : ∀ (k : Nat) (h : k < l.length), l[k].name.size ≤ 9223372036854775807)
    (hi : (∀ (k : Nat) (h : k < l.length), l[k].name.size ≤ 1048576) → l.length ≤ 1048576 → ∀ (u : World) (g c base : Nat), G u → u.ownsRow base 51 4 (.slice (some ⟨g, 0, none⟩) l.length c) l.length (cellsD l) → Calls Tryd.prog 22 #[.slice (some ⟨g, 0, none⟩) l.length c, .int .i64 z] u fun e w' => ∃ ao c, e = .returned (.agg #[.int .i64 (askD l z), .slice ao (outP l z).length c]) ∧ w'.ownsRow u.heap.size 2 1 (.slice ao (outP l z).length c) (outP l z).length (cellsI (outP l z)) ∧ Below u.heap.size u w') :
    Calls Tryd.prog 6 #[.slice a l.length cp, .int .i64 z] w fun e w' => e = .returned (.bool true) ∧ Below w.heap.size w w' := by
  have HS : Hid (Calls Tryd.prog 8 #[.slice a l.length cp, .int .i64 1048576] w fun e w' => SZD l w e w') := szDS_any a cp l w 1048576 (Nat.le_refl _) hl h hz
  have HT : Hid (MemD w a l) := h
  have HG : Hid (∀ u, Below w.heap.size w u → G u) := hG
  have HP0 : Hid (l.length ≤ 1048576 → (∀ (k : Nat) (h : k < l.length), l[k].name.size ≤ 9223372036854775807) → ∀ (u : World) (g c base : Nat), u.ownsRow base 51 4 (.slice (some ⟨g, 0, none⟩) l.length c) l.length (cellsD l) → Calls Tryd.prog 21 #[.slice (some ⟨g, 0, none⟩) l.length c, .int .i64 z] u fun e w' => ∃ ao c, e = .returned (.agg #[.int .i64 (askD l z), .slice ao (outP l z).length c]) ∧ w'.ownsRow u.heap.size 2 1 (.slice ao (outP l z).length c) (outP l z).length (cellsI (outP l z)) ∧ Below u.heap.size u w') := fun h1 h2 u g c base ho => specParts_ans (some ⟨g, 0, none⟩) c base l z u ho h1 h2
  have HI0 : Hid _ := hi
  have hM := outP_len l z
  clear h hz hl hG hi
  generalize outP l z = M at HI0 HP0 hM
  generalize askD l z = c0 at HI0 HP0
  go_enter Tryd.func6, Tryd.ntmps6
  go_wp2_with fail
  refine HS.out.mono ?_
  rintro e w1 ⟨h1, b1⟩
  have B1 : Hid (Below w.heap.size w w1) := b1
  clear b1
  rcases h1 with rfl | ⟨q, hq, rfl, hl, hz⟩
  · go_wp2
    go_ret
    exact ⟨rfl, B1.out⟩
  have HI : Hid _ := HI0.out hz hl
  have HP : Hid _ := HP0.out hl (name_le hz)
  have HN : Hid (l.length ≤ 1048576) := hl
  have HU : Hid (∀ wx, Below w.heap.size w wx → Calls Tryd.prog 10 #[.slice a l.length cp] wx fun e w' => ∃ g, e = .returned (.slice (some ⟨g, 0, none⟩) l.length l.length) ∧ w'.ownsRow wx.heap.size 51 4 (.slice (some ⟨g, 0, none⟩) l.length l.length) l.length (cellsD l) ∧ Below wx.heap.size wx w') := fun wx hx => toDS_any a cp l wx hl (HT.out.below hx)
  clear hz hl HI0 HP0 hq
  go_wp2_with fail
  refine (HU.out _ B1.out).mono ?_
  rintro e w2 ⟨g2, rfl, o2, b2⟩
  have O2 : Hid (w2.ownsRow _ 51 4 (.slice (some ⟨g2, 0, none⟩) l.length l.length) l.length (cellsD l)) := o2
  have B2 : Hid (Below w.heap.size w w2) := B1.out.trans (b2.mono B1.out.size)
  clear o2 b2
  go_wp2_with fail
  refine (HP.out w2 g2 _ _ O2.out).mono ?_
  rintro e w3 ⟨ao, ca, rfl, o3, b3⟩
  have O3 : Hid (w3.ownsRow w2.heap.size 2 1 (.slice ao M.length ca) M.length (cellsI M)) := o3
  have B3 : Hid (Below w.heap.size w w3) := B2.out.trans (b3.mono B2.out.size)
  have s3 : w.heap.size ≤ w3.heap.size := B3.out.size
  have hg3 : ∀ g, (Value.slice ao M.length ca).ownBlock = some g → g < w3.heap.size := fun g hg => (O3.out.lt g hg).2
  clear o3 b3 O2
  have B3a : Hid (Below w.heap.size w (w3.alloc (.cells #[.int .i64 c0, .slice ao M.length ca] 41))) := B3.out.alloc s3 _
  go_wp2_with fail
  refine (HU.out _ B3a.out).mono ?_
  rintro e w4 ⟨g4, rfl, o4, b4⟩
  have O4 : Hid (w4.ownsRow _ 51 4 (.slice (some ⟨g4, 0, none⟩) l.length l.length) l.length (cellsD l)) := o4
  have P4 : Hid (w4.ownsRow w2.heap.size 2 1 (.slice ao M.length ca) M.length (cellsI M)) := own_below (O3.out.alloc _) b4
  have B4 : Hid (Below w.heap.size w w4) := B3a.out.trans (b4.mono B3a.out.size)
  have X4 : Hid (Below (w3.alloc (.cells #[.int .i64 c0, .slice ao M.length ca] 41)).heap.size (w3.alloc (.cells #[.int .i64 c0, .slice ao M.length ca] 41)) w4) := b4
  have hg4 : w3.heap.size < g4 ∧ g4 < w4.heap.size := by have := o4.lt g4 rfl; simp at this; omega
  have s4 : w3.heap.size < w4.heap.size := by omega
  clear o4 b4
  go_wp2_with fail
  refine (HI.out w4 g4 _ _ (HG.out _ B4.out) O4.out).mono ?_
  rintro e w5 ⟨bo, cb, rfl, o5, b5⟩
  have O5 : Hid (w5.ownsRow w4.heap.size 2 1 (.slice bo M.length cb) M.length (cellsI M)) := o5
  have B5 : Hid (Below w.heap.size w w5) := B4.out.trans (b5.mono B4.out.size)
  have hg5 : ∀ g, (Value.slice bo M.length cb).ownBlock = some g → w4.heap.size ≤ g ∧ g < w5.heap.size := fun g hg => O5.out.lt g hg
  have X5 : Hid (BoxI w3.heap.size w5.heap.size c0 ao bo M.length ca cb (w5.alloc (.cells #[.int .i64 c0, .slice bo M.length cb] 41))) := BoxI.mk' (X4.out.trans (b5.mono X4.out.size))
  have O5w : Hid (World.ownsRow (w5.alloc (.cells #[.int .i64 c0, .slice bo M.length cb] 41)) w2.heap.size 2 1 (.slice ao M.length ca) M.length (cellsI M)) := (own_below P4.out b5).alloc _
  have O5x : Hid (World.ownsRow (w5.alloc (.cells #[.int .i64 c0, .slice bo M.length cb] 41)) _ 51 4 (.slice (some ⟨g4, 0, none⟩) l.length l.length) l.length (cellsD l)) := (own_below O4.out b5).alloc _
  have O5g : Hid (World.ownsRow (w5.alloc (.cells #[.int .i64 c0, .slice bo M.length cb] 41)) w4.heap.size 2 1 (.slice bo M.length cb) M.length (cellsI M)) := O5.out.alloc _
  have s5 : w4.heap.size ≤ w5.heap.size := b5.size
  have B5a : Hid (Below w.heap.size w (w5.alloc (.cells #[.int .i64 c0, .slice bo M.length cb] 41))) := B5.out.alloc B5.out.size _
  clear o5 b5 O4 P4 X4 O5
  have p0 := X5.out.p0
  have p1 := X5.out.p1
  have q0 := X5.out.q0
  have q1 := X5.out.q1
  go_wp2_with fail
  clear p0 p1 q0 q1
  refine (eqRI_same c0 bo ao cb ca _ _ M _ (by omega) O5g.out O5w.out).mono ?_
  rintro e w6 ⟨rfl, b6⟩
  have X6 : Hid (BoxI w3.heap.size w5.heap.size c0 ao bo M.length ca cb w6) := X5.out.below b6
  have B6 : Hid (Below w.heap.size w w6) := B5a.out.trans (b6.mono B5a.out.size)
  have O6w : Hid (w6.ownsRow w2.heap.size 2 1 (.slice ao M.length ca) M.length (cellsI M)) := own_below O5w.out b6
  have O6x : Hid (w6.ownsRow _ 51 4 (.slice (some ⟨g4, 0, none⟩) l.length l.length) l.length (cellsD l)) := own_below O5x.out b6
  have O6g : Hid (w6.ownsRow w4.heap.size 2 1 (.slice bo M.length cb) M.length (cellsI M)) := own_below O5g.out b6
  have s6 : w5.heap.size < w6.heap.size := by have := b6.size; simp at this; omega
  clear b6 X5 O5w O5x O5g
  go_wp2_with fail
  refine (HU.out _ B6.out).mono ?_
  rintro e w7 ⟨g7, rfl, o7, b7⟩
  have O7 : Hid (w7.ownsRow _ 51 4 (.slice (some ⟨g7, 0, none⟩) l.length l.length) l.length (cellsD l)) := o7
  have X7 : Hid (BoxI w3.heap.size w5.heap.size c0 ao bo M.length ca cb w7) := X6.out.below b7
  have B7 : Hid (Below w.heap.size w w7) := B6.out.trans (b7.mono B6.out.size)
  have O7w : Hid (w7.ownsRow w2.heap.size 2 1 (.slice ao M.length ca) M.length (cellsI M)) := own_below O6w.out b7
  have O7x : Hid (w7.ownsRow _ 51 4 (.slice (some ⟨g4, 0, none⟩) l.length l.length) l.length (cellsD l)) := own_below O6x.out b7
  have O7g : Hid (w7.ownsRow w4.heap.size 2 1 (.slice bo M.length cb) M.length (cellsI M)) := own_below O6g.out b7
  have s7 : w6.heap.size ≤ w7.heap.size := b7.size
  clear o7 b7 X6 O6w O6x O6g
  go_wp2_with fail
  refine (eqDS_same _ _ _ _ l w7 HN.out O7x.out O7.out).mono ?_
  rintro e w8 ⟨rfl, b8⟩
  have X8 : Hid (BoxI w3.heap.size w5.heap.size c0 ao bo M.length ca cb w8) := X7.out.below b8
  have B8 : Hid (Below w.heap.size w w8) := B7.out.trans (b8.mono B7.out.size)
  have O8w : Hid (w8.ownsRow w2.heap.size 2 1 (.slice ao M.length ca) M.length (cellsI M)) := own_below O7w.out b8
  have O8x : Hid (w8.ownsRow _ 51 4 (.slice (some ⟨g4, 0, none⟩) l.length l.length) l.length (cellsD l)) := own_below O7x.out b8
  have O8g : Hid (w8.ownsRow w4.heap.size 2 1 (.slice bo M.length cb) M.length (cellsI M)) := own_below O7g.out b8
  have s8 : w7.heap.size ≤ w8.heap.size := b8.size
  clear b8 X7 O7 O7w O7x O7g
  obtain ⟨kx, hkx⟩ : ∃ kx : Nat, kx = 1 + 4 * l.length := ⟨_, rfl⟩
  have HK : Hid (Calls Tryd.prog 24 #[.slice (some ⟨g4, 0, none⟩) l.length l.length, .int .i64 1] w8 fun e w' => e = .returned (.int .i64 (kx : Int)) ∧ w8.grownBy w' (some g4)) := by
    rw [hkx]
    refine (markDS_any (some ⟨g4, 0, none⟩) l.length _ 1 l w8 HN.out (Nat.le_refl _) (by omega) O8x.out).mono ?_
    rintro e w' ⟨rfl, _, hg⟩
    exact ⟨rfl, hg⟩
  clear hkx O8x
  go_wp2_with fail
  refine HK.out.mono ?_
  rintro e w9 ⟨rfl, g9⟩
  have X9 : Hid (BoxI w3.heap.size w5.heap.size c0 ao bo M.length ca cb w9) := X8.out.grown g9 (by simp; omega) (by simp; omega)
  have B9 : Hid (Below w.heap.size w w9) := B8.out.trans (below_of_grown g9 B8.out.size (fun k hk => by have := Option.some.inj hk; omega))
  have O9w : Hid (w9.ownsRow w2.heap.size 2 1 (.slice ao M.length ca) M.length (cellsI M)) := own_apart O8w.out g9 (fun g hg e => by have := hg3 g hg; have := Option.some.inj e; omega)
  have O9g : Hid (w9.ownsRow w4.heap.size 2 1 (.slice bo M.length cb) M.length (cellsI M)) := own_apart O8g.out g9 (fun g hg e => by have := hg5 g hg; have := Option.some.inj e; omega)
  have s9 : w8.heap.size ≤ w9.heap.size := g9.size
  clear g9 X8 O8w O8g HK
  have p0 := X9.out.p0
  have p1 := X9.out.p1
  have q0 := X9.out.q0
  have q1 := X9.out.q1
  go_wp2_with fail
  clear p0 p1 q0 q1
  refine (eqRI_same c0 bo ao cb ca _ _ M _ (by omega) O9g.out O9w.out).mono ?_
  rintro e w10 ⟨rfl, b10⟩
  have X10 : Hid (BoxI w3.heap.size w5.heap.size c0 ao bo M.length ca cb w10) := X9.out.below b10
  have B10 : Hid (Below w.heap.size w w10) := B9.out.trans (b10.mono B9.out.size)
  have O10w : Hid (w10.ownsRow w2.heap.size 2 1 (.slice ao M.length ca) M.length (cellsI M)) := own_below O9w.out b10
  have O10g : Hid (w10.ownsRow w4.heap.size 2 1 (.slice bo M.length cb) M.length (cellsI M)) := own_below O9g.out b10
  have s10 : w9.heap.size ≤ w10.heap.size := b10.size
  clear b10 X9 O9w O9g
  have q0 := X10.out.q0
  have q1 := X10.out.q1
  go_wp2_with fail
  clear q0 q1
  refine (markRI_any c0 bo cb _ M _ (by omega) O10g.out).mono ?_
  rintro e w11 ⟨rfl, o11, g11⟩
  have O11 : Hid (w11.ownsRow w4.heap.size 2 1 (.slice bo M.length cb) M.length (cellsI (marksI 1 M.length))) := o11
  have X11 : Hid (BoxI w3.heap.size w5.heap.size c0 ao bo M.length ca cb w11) := X10.out.grown g11 (fun e => by have := hg5 _ e.symm; omega) (fun e => by have := hg5 _ e.symm; omega)
  have B11 : Hid (Below w.heap.size w w11) := B10.out.trans (below_of_grown g11 B10.out.size (fun k hk => by have := hg5 k hk; omega))
  have O11w : Hid (w11.ownsRow w2.heap.size 2 1 (.slice ao M.length ca) M.length (cellsI M)) := own_apart O10w.out g11 (fun g hg e => by have h1 := hg3 g hg; have h2 := hg5 g e; omega)
  have s11 : w10.heap.size ≤ w11.heap.size := g11.size
  clear o11 g11 X10 O10w O10g
  have q0 := X11.out.q0
  have q1 := X11.out.q1
  obtain ⟨m, hm⟩ : ∃ m : Nat, m = 1 + M.length := ⟨_, rfl⟩
  have HM : Hid (∀ (u : World) (base : Nat), u.ownsRow base 2 1 (.slice bo M.length cb) M.length (cellsI (marksI 1 M.length)) → Calls Tryd.prog 26 #[.agg #[.int .i64 c0, .slice bo M.length cb], .int .i64 1] u fun e w' => e = .returned (.int .i64 (m : Int)) ∧ Below u.heap.size u w') := fun u base ho => by rw [hm]; exact heldRI_any c0 bo cb base M.length u (by omega) ho
  rw [← hm]
  clear hm
  go_wp2_with fail
  clear q0 q1
  refine (HM.out _ _ O11.out).mono ?_
  rintro e w12 ⟨rfl, b12⟩
  have X12 : Hid (BoxI w3.heap.size w5.heap.size c0 ao bo M.length ca cb w12) := X11.out.below b12
  have B12 : Hid (Below w.heap.size w w12) := B11.out.trans (b12.mono B11.out.size)
  have O12w : Hid (w12.ownsRow w2.heap.size 2 1 (.slice ao M.length ca) M.length (cellsI M)) := own_below O11w.out b12
  have O12 : Hid (w12.ownsRow w4.heap.size 2 1 (.slice bo M.length cb) M.length (cellsI (marksI 1 M.length))) := own_below O11.out b12
  have s12 : w11.heap.size ≤ w12.heap.size := b12.size
  clear b12 X11 O11 O11w
  go_wp2_with fail
  refine (HU.out _ B12.out).mono ?_
  rintro e w13 ⟨g13, rfl, o13, b13⟩
  have O13x : Hid (w13.ownsRow _ 51 4 (.slice (some ⟨g13, 0, none⟩) l.length l.length) l.length (cellsD l)) := o13
  have X13 : Hid (BoxI w3.heap.size w5.heap.size c0 ao bo M.length ca cb w13) := X12.out.below b13
  have B13 : Hid (Below w.heap.size w w13) := B12.out.trans (b13.mono B12.out.size)
  have O13w : Hid (w13.ownsRow w2.heap.size 2 1 (.slice ao M.length ca) M.length (cellsI M)) := own_below O12w.out b13
  have O13 : Hid (w13.ownsRow w4.heap.size 2 1 (.slice bo M.length cb) M.length (cellsI (marksI 1 M.length))) := own_below O12.out b13
  have s13 : w12.heap.size ≤ w13.heap.size := b13.size
  clear o13 b13 X12 O12 O12w
  go_wp2_with fail
  refine (HI.out w13 g13 _ _ (HG.out _ B13.out) O13x.out).mono ?_
  rintro e w14 ⟨ho, ch, rfl, o14, b14⟩
  have O14h : Hid (w14.ownsRow w13.heap.size 2 1 (.slice ho M.length ch) M.length (cellsI M)) := o14
  have X14 : Hid (BoxI w3.heap.size w5.heap.size c0 ao bo M.length ca cb w14) := X13.out.below b14
  have B14 : Hid (Below w.heap.size w w14) := B13.out.trans (b14.mono B13.out.size)
  have O14w : Hid (w14.ownsRow w2.heap.size 2 1 (.slice ao M.length ca) M.length (cellsI M)) := own_below O13w.out b14
  have O14 : Hid (w14.ownsRow w4.heap.size 2 1 (.slice bo M.length cb) M.length (cellsI (marksI 1 M.length))) := own_below O13.out b14
  have s14 : w13.heap.size ≤ w14.heap.size := b14.size
  have l14 : w3.heap.size < w14.heap.size := by omega
  clear o14 b14 X13 O13 O13w O13x
  have p0 := X14.out.p0
  have p1 := X14.out.p1
  go_wp2_with fail
  clear p0 p1
  refine (eqRI_same c0 ho ao ch ca _ _ M _ (by omega) (O14h.out.alloc _) (O14w.out.alloc _)).mono ?_
  rintro e w15 ⟨rfl, b15⟩
  have X15 : Hid (BoxI w3.heap.size w5.heap.size c0 ao bo M.length ca cb w15) := (X14.out.below ((Below.refl _ _).alloc (Nat.le_refl _) _)).below b15
  have B15 : Hid (Below w.heap.size w w15) := (B14.out.alloc B14.out.size _).trans (b15.mono (by have := B14.out.size; simp; omega))
  have O15 : Hid (w15.ownsRow w4.heap.size 2 1 (.slice bo M.length cb) M.length (cellsI (marksI 1 M.length))) := own_below (O14.out.alloc _) b15
  clear b15 X14 O14 O14w O14h
  have q0 := X15.out.q0
  have q1 := X15.out.q1
  go_wp2_with fail
  clear q0 q1
  refine (HM.out _ _ O15.out).mono ?_
  rintro e w16 ⟨rfl, b16⟩
  have B16 : Hid (Below w.heap.size w w16) := B15.out.trans (b16.mono B15.out.size)
  clear b16
  go_wp2
  go_ret
  exact ⟨rfl, B16.out⟩
end Go.Proofs.YtoljpgpkeploiaaDoor
