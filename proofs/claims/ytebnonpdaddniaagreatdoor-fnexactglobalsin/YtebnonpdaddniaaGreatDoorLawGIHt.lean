/-
  Parts of the proof laid into one text, one behind the other; each says at its head what is proved in it.
-/
import Derived.Test.YtebnonpdaddniaaGreatDoorSpecGIHt
import Derived.Test.YtebnonpdaddniaaGreatDoorMkCoreHt
import Derived.Test.YtebnonpdaddniaaGreatDoorMkStrHt
import Derived.Test.YtebnonpdaddniaaGreatDoorEqCoreHt
/-
  The exact law of GlobalsIn answers true at every slice of cores; nothing that was there is turned.
-/
namespace Go.Proofs.YtebnonpdaddniaaGreatDoor
open Go.RowKit Go.Extern.Stop Go.Stop Go.Extern Num Go.Lib

theorem Within.oldBC {lo hi B : Nat} {a w w' : World} (hw : Within lo hi w w') (h : Below B a w) (hB : B ≤ w.heap.size) (hl : B ≤ lo) : Below B a w' :=
  ⟨hw.os.trans h.os, hw.tape.trans h.tape, hw.output.trans h.output, Nat.le_trans h.size hw.size, fun k hk => (hw.block k (by omega) (.inl (by omega))).trans (h.block k hk)⟩
/-- Cores that can be marked: their rows and those of their data lie between two numbers. -/
def MkS (w : World) (B g hi : Nat) (l : List Cor) : Prop := ∃ (P : List (Cor × Value)) (xs : List Value), P.length = l.length ∧ w.ownsRow B 85 6 (.slice (some ⟨g, 0, none⟩) l.length l.length) l.length xs ∧ At5 xs P ∧ DatOkC w B g hi P
theorem MkS.of {w : World} {B g : Nat} {l : List Cor} (h : IsC w B g l.length l) (hs : ∀ (k : Nat) (h : k < l.length), l[k].small) : MkS w B g w.heap.size l := by
  obtain ⟨P, h1, h2, h3, h4⟩ := h.datOk hs
  exact ⟨P, _, by rw [← h1, List.length_map], h2, h3, h4⟩
theorem MkS.below {w w' : World} {B g hi : Nat} {l : List Cor} (h : MkS w B g hi l) (hb : Below w.heap.size w w') : MkS w' B g hi l := by
  obtain ⟨P, xs, h1, h2, h3, h4⟩ := h
  exact ⟨P, xs, h1, own_below h2 hb, h3, h4.below hb⟩
theorem MkS.mark {w : World} {B g hi : Nat} {l : List Cor} (h : MkS w B g hi l) (hl : l.length ≤ 1048576) (hg : g < hi) :
    Calls Tryz.prog 36 #[.slice (some ⟨g, 0, none⟩) l.length l.length, .int .i64 1] w fun e w' => ∃ kx : Nat, e = .returned (.int .i64 (kx : Int)) ∧ kx ≤ 5000000000000 ∧ Within B hi w w' := by
  obtain ⟨P, xs, h1, h2, h3, h4⟩ := h
  rw [← h1] at h2 hl ⊢
  refine (markCS_any P xs B g hi _ B 1 w (Nat.le_refl _) (by omega) hl h2 h3 h4 (Nat.le_refl _) hg).mono ?_
  rintro e w' ⟨q, rfl, -, hq, hw⟩
  have hq9 : P.length * 4194310 ≤ 1048576 * 4194310 := Nat.mul_le_mul_right _ hl
  exact ⟨q, rfl, by omega, hw⟩
/-- The names that GlobalsIn answers. -/
def gN (l : List Cor) : List ByteArray := if coreF l = 0 then namesTo l l.length else []
theorem gN_len (l : List Cor) : (gN l).length ≤ 160 := by
  unfold gN
  by_cases h : coreF l = 0
  · rw [if_pos h]
    have := namesTo_len l l.length
    have := (fineC_of' h).len
    omega
  · rw [if_neg h]; simp
theorem AnsGI.form {l : List Cor} {w w' : World} {e : Ending} (h : AnsGI l w e w') : ∃ ao c, e = .returned (.agg #[.int .i64 (coreF l), .slice ao (gN l).length c]) ∧ w'.ownsRow w.heap.size 9 1 (.slice ao (gN l).length c) (gN l).length (cellsT (gN l)) ∧ Below w.heap.size w w' := by
  obtain ⟨⟨h0, rfl⟩ | ⟨h0, ao, ca, rfl, ho⟩, hb⟩ := h
  · have e1 : gN l = [] := by unfold gN; rw [if_neg h0]
    rw [e1]
    exact ⟨none, 0, rfl, World.ownsRow_nil _ _ _ _, hb⟩
  · have e1 : gN l = namesTo l l.length := by unfold gN; rw [if_pos h0]
    rw [e1, h0]
    exact ⟨ao, ca, rfl, ho, hb⟩
set_option maxRecDepth 100000 in
set_option maxHeartbeats 4000000 in
theorem lawGI_any (w : World) (hG : LT w) (a : Option Addr) (cp : Nat) (l : List Cor) (hl : l.length ≤ 9223372036854775807) (h : MemC w a l) (hz : ∀ (k : Nat) (h : k < l.length), l[k].able) :
    Calls Tryz.prog 7 #[.slice a l.length cp] w fun e w' => e = .returned (.bool true) ∧ Below w.heap.size w w' := by
  have HS : Hid (Calls Tryz.prog 16 #[.slice a l.length cp, .int .i64 1048576] w fun e w' => SZC l w e w') := szCS_any a cp l w 1048576 (Nat.le_refl _) hl h hz
  have HT : Hid (MemC w a l) := h
  have HG : Hid (∀ u, Below w.heap.size w u → LT u) := fun u hu => hG.below hu
  have HP0 : Hid ((∀ (k : Nat) (h : k < l.length), l[k].small) → ∀ (u : World) (g c B : Nat), RowC u B g l → Calls Tryz.prog 33 #[.slice (some ⟨g, 0, none⟩) l.length c] u fun e w' => ∃ ao c, e = .returned (.agg #[.int .i64 (coreF l), .slice ao (gN l).length c]) ∧ w'.ownsRow u.heap.size 9 1 (.slice ao (gN l).length c) (gN l).length (cellsT (gN l)) ∧ Below u.heap.size u w') := fun hs u g c B hr => (specGI_any B g c l u hr hs).mono fun e w' h => h.form
  have HI0 : Hid ((∀ (k : Nat) (h : k < l.length), l[k].small) → ∀ (u : World) (g c B : Nat), LT u → IsC u B g c l → Calls Tryz.prog 34 #[.slice (some ⟨g, 0, none⟩) l.length c] u fun e w' => ∃ ao c, e = .returned (.agg #[.int .i64 (coreF l), .slice ao (gN l).length c]) ∧ w'.ownsRow u.heap.size 9 1 (.slice ao (gN l).length c) (gN l).length (cellsT (gN l)) ∧ Below u.heap.size u w') := fun hs u g c B hL hr => (implGI_any B g c l u hr hs hL).mono fun e w' h => h.form
  have hM := gN_len l
  clear h hz hl hG
  generalize gN l = M at HI0 HP0 hM
  generalize coreF l = c0 at HI0 HP0
  go_enter Tryz.func7, Tryz.ntmps7
  go_wp2_with fail
  refine HS.out.mono ?_
  rintro e w1 ⟨h1, b1⟩
  have B1 : Hid (Below w.heap.size w w1) := b1
  clear b1
  rcases h1 with rfl | ⟨q, hq, rfl, hl, hz⟩
  · go_wp2
    go_ret
    exact ⟨rfl, B1.out⟩
  have HN : Hid (l.length ≤ 1048576 ∧ ∀ (k : Nat) (h : k < l.length), l[k].small) := ⟨hl, hz⟩
  have HP : Hid (∀ (u : World) (g c B : Nat), RowC u B g l → Calls Tryz.prog 33 #[.slice (some ⟨g, 0, none⟩) l.length c] u fun e w' => ∃ ao c, e = .returned (.agg #[.int .i64 c0, .slice ao M.length c]) ∧ w'.ownsRow u.heap.size 9 1 (.slice ao M.length c) M.length (cellsT M) ∧ Below u.heap.size u w') := HP0.out hz
  have HI : Hid (∀ (u : World) (g c B : Nat), LT u → IsC u B g c l → Calls Tryz.prog 34 #[.slice (some ⟨g, 0, none⟩) l.length c] u fun e w' => ∃ ao c, e = .returned (.agg #[.int .i64 c0, .slice ao M.length c]) ∧ w'.ownsRow u.heap.size 9 1 (.slice ao M.length c) M.length (cellsT M) ∧ Below u.heap.size u w') := HI0.out hz
  have HU : Hid (∀ wx, Below w.heap.size w wx → Calls Tryz.prog 18 #[.slice a l.length cp] wx fun e w' => ∃ g, e = .returned (.slice (some ⟨g, 0, none⟩) l.length l.length) ∧ (IsC w' wx.heap.size g l.length l ∧ wx.heap.size ≤ g ∧ g < w'.heap.size) ∧ Below wx.heap.size wx w') := fun wx hx => (toCS_any a cp l wx hl hz (HT.out.below hx)).mono fun e w' ⟨h1, h2, h3⟩ => ⟨_, h1, ⟨h2, Nat.le_refl _, (h2.choose_spec.2.1.lt _ rfl).2⟩, h3⟩
  clear hz hl HI0 HP0 hq
  go_wp2_with fail
  refine (HU.out _ B1.out).mono ?_
  rintro e w2 ⟨g2, rfl, o2, b2⟩
  have O2 : Hid (RowC w2 w1.heap.size g2 l) := o2.1.row
  have B2 : Hid (Below w.heap.size w w2) := B1.out.trans (b2.mono B1.out.size)
  clear o2 b2
  go_wp2_with fail
  refine (HP.out w2 g2 _ _ O2.out).mono ?_
  rintro e w3 ⟨ao, ca, rfl, o3, b3⟩
  have O3 : Hid (w3.ownsRow w2.heap.size 9 1 (.slice ao M.length ca) M.length (cellsT M)) := o3
  have B3 : Hid (Below w.heap.size w w3) := B2.out.trans (b3.mono B2.out.size)
  have s3 : w.heap.size ≤ w3.heap.size := B3.out.size
  have hg3 : ∀ g, (Value.slice ao M.length ca).ownBlock = some g → g < w3.heap.size := fun g hg => (O3.out.lt g hg).2
  clear o3 b3 O2
  have B3a : Hid (Below w.heap.size w (w3.alloc (.cells #[.int .i64 c0, .slice ao M.length ca] 58))) := B3.out.alloc s3 _
  go_wp2_with fail
  refine (HU.out _ B3a.out).mono ?_
  rintro e w4 ⟨g4, rfl, o4, b4⟩
  obtain ⟨o4a, o4b, o4c⟩ := o4
  have O4 : Hid (IsC w4 (w3.heap.size + 1) g4 l.length l) := by show IsC _ _ _ _ _; simpa using o4a
  have HMk : Hid (MkS w4 (w3.heap.size + 1) g4 w4.heap.size l) := MkS.of O4.out HN.out.2
  have P4 : Hid (w4.ownsRow w2.heap.size 9 1 (.slice ao M.length ca) M.length (cellsT M)) := own_below (O3.out.alloc _) b4
  have B4 : Hid (Below w.heap.size w w4) := B3a.out.trans (b4.mono B3a.out.size)
  have X4 : Hid (Below (w3.alloc (.cells #[.int .i64 c0, .slice ao M.length ca] 58)).heap.size (w3.alloc (.cells #[.int .i64 c0, .slice ao M.length ca] 58)) w4) := b4
  have hg4 : w3.heap.size < g4 ∧ g4 < w4.heap.size := by simp at o4b; omega
  have s4 : w3.heap.size < w4.heap.size := by omega
  clear o4a o4b o4c b4
  go_wp2_with fail
  refine (HI.out w4 g4 _ _ (HG.out _ B4.out) O4.out).mono ?_
  rintro e w5 ⟨bo, cb, rfl, o5, b5⟩
  have O5 : Hid (w5.ownsRow w4.heap.size 9 1 (.slice bo M.length cb) M.length (cellsT M)) := o5
  have B5 : Hid (Below w.heap.size w w5) := B4.out.trans (b5.mono B4.out.size)
  have hg5 : ∀ g, (Value.slice bo M.length cb).ownBlock = some g → w4.heap.size ≤ g ∧ g < w5.heap.size := fun g hg => O5.out.lt g hg
  have X5 : Hid (BoxT w3.heap.size w5.heap.size c0 ao bo M.length ca cb (w5.alloc (.cells #[.int .i64 c0, .slice bo M.length cb] 58))) := BoxT.mk' (X4.out.trans (b5.mono X4.out.size))
  have O5w : Hid (World.ownsRow (w5.alloc (.cells #[.int .i64 c0, .slice bo M.length cb] 58)) w2.heap.size 9 1 (.slice ao M.length ca) M.length (cellsT M)) := (own_below P4.out b5).alloc _
  have O5x : Hid (RowC (w5.alloc (.cells #[.int .i64 c0, .slice bo M.length cb] 58)) (w3.heap.size + 1) g4 l ∧ MkS (w5.alloc (.cells #[.int .i64 c0, .slice bo M.length cb] 58)) (w3.heap.size + 1) g4 w4.heap.size l) := ⟨(O4.out.row.below b5).below ((Below.refl _ w5).alloc (Nat.le_refl _) _), (HMk.out.below b5).below ((Below.refl _ w5).alloc (Nat.le_refl _) _)⟩
  have O5g : Hid (World.ownsRow (w5.alloc (.cells #[.int .i64 c0, .slice bo M.length cb] 58)) w4.heap.size 9 1 (.slice bo M.length cb) M.length (cellsT M)) := O5.out.alloc _
  have s5 : w4.heap.size ≤ w5.heap.size := b5.size
  have B5a : Hid (Below w.heap.size w (w5.alloc (.cells #[.int .i64 c0, .slice bo M.length cb] 58))) := B5.out.alloc B5.out.size _
  clear o5 b5 O4 P4 X4 O5
  have p0 := X5.out.p0
  have p1 := X5.out.p1
  have q0 := X5.out.q0
  have q1 := X5.out.q1
  go_wp2_with fail
  clear p0 p1 q0 q1
  refine (eqRT_same c0 bo ao cb ca _ _ M _ (by omega) O5g.out O5w.out).mono ?_
  rintro e w6 ⟨rfl, b6⟩
  have X6 : Hid (BoxT w3.heap.size w5.heap.size c0 ao bo M.length ca cb w6) := X5.out.below b6
  have B6 : Hid (Below w.heap.size w w6) := B5a.out.trans (b6.mono B5a.out.size)
  have O6w : Hid (w6.ownsRow w2.heap.size 9 1 (.slice ao M.length ca) M.length (cellsT M)) := own_below O5w.out b6
  have O6x : Hid (RowC w6 (w3.heap.size + 1) g4 l ∧ MkS w6 (w3.heap.size + 1) g4 w4.heap.size l) := ⟨O5x.out.1.below b6, O5x.out.2.below b6⟩
  have O6g : Hid (w6.ownsRow w4.heap.size 9 1 (.slice bo M.length cb) M.length (cellsT M)) := own_below O5g.out b6
  have s6 : w5.heap.size < w6.heap.size := by have := b6.size; simp at this; omega
  clear b6 X5 O5w O5x O5g
  go_wp2_with fail
  refine (HU.out _ B6.out).mono ?_
  rintro e w7 ⟨g7, rfl, o7, b7⟩
  have O7 : Hid (RowC w7 w6.heap.size g7 l) := o7.1.row
  have X7 : Hid (BoxT w3.heap.size w5.heap.size c0 ao bo M.length ca cb w7) := X6.out.below b7
  have B7 : Hid (Below w.heap.size w w7) := B6.out.trans (b7.mono B6.out.size)
  have O7w : Hid (w7.ownsRow w2.heap.size 9 1 (.slice ao M.length ca) M.length (cellsT M)) := own_below O6w.out b7
  have O7x : Hid (RowC w7 (w3.heap.size + 1) g4 l ∧ MkS w7 (w3.heap.size + 1) g4 w4.heap.size l) := ⟨O6x.out.1.below b7, O6x.out.2.below b7⟩
  have O7g : Hid (w7.ownsRow w4.heap.size 9 1 (.slice bo M.length cb) M.length (cellsT M)) := own_below O6g.out b7
  have s7 : w6.heap.size ≤ w7.heap.size := b7.size
  clear o7 b7 X6 O6w O6x O6g
  go_wp2_with fail
  refine (eqCS_same _ _ _ _ _ _ l w7 HN.out.1 HN.out.2 O7x.out.1 O7.out).mono ?_
  rintro e w8 ⟨rfl, b8⟩
  have X8 : Hid (BoxT w3.heap.size w5.heap.size c0 ao bo M.length ca cb w8) := X7.out.below b8
  have B8 : Hid (Below w.heap.size w w8) := B7.out.trans (b8.mono B7.out.size)
  have O8w : Hid (w8.ownsRow w2.heap.size 9 1 (.slice ao M.length ca) M.length (cellsT M)) := own_below O7w.out b8
  have O8x : Hid (RowC w8 (w3.heap.size + 1) g4 l ∧ MkS w8 (w3.heap.size + 1) g4 w4.heap.size l) := ⟨O7x.out.1.below b8, O7x.out.2.below b8⟩
  have O8g : Hid (w8.ownsRow w4.heap.size 9 1 (.slice bo M.length cb) M.length (cellsT M)) := own_below O7g.out b8
  have s8 : w7.heap.size ≤ w8.heap.size := b8.size
  clear b8 X7 O7 O7w O7x O7g
  have HK : Hid (Calls Tryz.prog 36 #[.slice (some ⟨g4, 0, none⟩) l.length l.length, .int .i64 1] w8 fun e w' => ∃ kx : Nat, e = .returned (.int .i64 (kx : Int)) ∧ kx ≤ 5000000000000 ∧ Within (w3.heap.size + 1) w4.heap.size w8 w') := MkS.mark O8x.out.2 HN.out.1 hg4.2
  clear O8x
  go_wp2_with fail
  refine HK.out.mono ?_
  rintro e w9 ⟨kx, rfl, hkx, g9⟩
  have X9 : Hid (BoxT w3.heap.size w5.heap.size c0 ao bo M.length ca cb w9) := ⟨g9.cell X8.out.p0 (.inl (by show w3.heap.size < _; omega)), g9.cell X8.out.p1 (.inl (by show w3.heap.size < _; omega)), g9.cell X8.out.q0 (.inr (by show _ ≤ w5.heap.size; omega)), g9.cell X8.out.q1 (.inr (by show _ ≤ w5.heap.size; omega))⟩
  have B9 : Hid (Below w.heap.size w w9) := g9.oldBC B8.out B8.out.size (by omega)
  have O9w : Hid (w9.ownsRow w2.heap.size 9 1 (.slice ao M.length ca) M.length (cellsT M)) := g9.own O8w.out (fun g hg => .inl (by have := hg3 g hg; omega))
  have O9g : Hid (w9.ownsRow w4.heap.size 9 1 (.slice bo M.length cb) M.length (cellsT M)) := g9.own O8g.out (fun g hg => .inr (by have := hg5 g hg; omega))
  have s9 : w8.heap.size ≤ w9.heap.size := g9.size
  clear g9 X8 O8w O8g HK
  have p0 := X9.out.p0
  have p1 := X9.out.p1
  have q0 := X9.out.q0
  have q1 := X9.out.q1
  go_wp2_with fail
  clear p0 p1 q0 q1
  refine (eqRT_same c0 bo ao cb ca _ _ M _ (by omega) O9g.out O9w.out).mono ?_
  rintro e w10 ⟨rfl, b10⟩
  have X10 : Hid (BoxT w3.heap.size w5.heap.size c0 ao bo M.length ca cb w10) := X9.out.below b10
  have B10 : Hid (Below w.heap.size w w10) := B9.out.trans (b10.mono B9.out.size)
  have O10w : Hid (w10.ownsRow w2.heap.size 9 1 (.slice ao M.length ca) M.length (cellsT M)) := own_below O9w.out b10
  have O10g : Hid (w10.ownsRow w4.heap.size 9 1 (.slice bo M.length cb) M.length (cellsT M)) := own_below O9g.out b10
  have s10 : w9.heap.size ≤ w10.heap.size := b10.size
  clear b10 X9 O9w O9g
  have q0 := X10.out.q0
  have q1 := X10.out.q1
  go_wp2_with fail
  clear q0 q1
  refine (markRT_any c0 bo cb _ M _ (by omega) O10g.out).mono ?_
  rintro e w11 ⟨rfl, o11, g11⟩
  have O11 : Hid (w11.ownsRow w4.heap.size 9 1 (.slice bo M.length cb) M.length (cellsT (marksT 1 M.length))) := o11
  have X11 : Hid (BoxT w3.heap.size w5.heap.size c0 ao bo M.length ca cb w11) := X10.out.grown g11 (fun e => by have := hg5 _ e.symm; omega) (fun e => by have := hg5 _ e.symm; omega)
  have B11 : Hid (Below w.heap.size w w11) := B10.out.trans (below_of_grown g11 B10.out.size (fun k hk => by have := hg5 k hk; omega))
  have O11w : Hid (w11.ownsRow w2.heap.size 9 1 (.slice ao M.length ca) M.length (cellsT M)) := own_apart O10w.out g11 (fun g hg e => by have h1 := hg3 g hg; have h2 := hg5 g e; omega)
  have s11 : w10.heap.size ≤ w11.heap.size := g11.size
  clear o11 g11 X10 O10w O10g
  have q0 := X11.out.q0
  have q1 := X11.out.q1
  obtain ⟨m, hm⟩ : ∃ m : Nat, m = 1 + M.length := ⟨_, rfl⟩
  have HM : Hid (∀ (u : World) (base : Nat), u.ownsRow base 9 1 (.slice bo M.length cb) M.length (cellsT (marksT 1 M.length)) → Calls Tryz.prog 38 #[.agg #[.int .i64 c0, .slice bo M.length cb], .int .i64 1] u fun e w' => e = .returned (.int .i64 (m : Int)) ∧ Below u.heap.size u w') := fun u base ho => by rw [hm]; exact heldRT_any c0 bo cb base M.length u (by omega) ho
  rw [← hm]
  clear hm
  go_wp2_with fail
  clear q0 q1
  refine (HM.out _ _ O11.out).mono ?_
  rintro e w12 ⟨rfl, b12⟩
  have X12 : Hid (BoxT w3.heap.size w5.heap.size c0 ao bo M.length ca cb w12) := X11.out.below b12
  have B12 : Hid (Below w.heap.size w w12) := B11.out.trans (b12.mono B11.out.size)
  have O12w : Hid (w12.ownsRow w2.heap.size 9 1 (.slice ao M.length ca) M.length (cellsT M)) := own_below O11w.out b12
  have O12 : Hid (w12.ownsRow w4.heap.size 9 1 (.slice bo M.length cb) M.length (cellsT (marksT 1 M.length))) := own_below O11.out b12
  have s12 : w11.heap.size ≤ w12.heap.size := b12.size
  clear b12 X11 O11 O11w
  go_wp2_with fail
  refine (HU.out _ B12.out).mono ?_
  rintro e w13 ⟨g13, rfl, o13, b13⟩
  have O13x : Hid (IsC w13 w12.heap.size g13 l.length l) := o13.1
  have X13 : Hid (BoxT w3.heap.size w5.heap.size c0 ao bo M.length ca cb w13) := X12.out.below b13
  have B13 : Hid (Below w.heap.size w w13) := B12.out.trans (b13.mono B12.out.size)
  have O13w : Hid (w13.ownsRow w2.heap.size 9 1 (.slice ao M.length ca) M.length (cellsT M)) := own_below O12w.out b13
  have O13 : Hid (w13.ownsRow w4.heap.size 9 1 (.slice bo M.length cb) M.length (cellsT (marksT 1 M.length))) := own_below O12.out b13
  have s13 : w12.heap.size ≤ w13.heap.size := b13.size
  clear o13 b13 X12 O12 O12w
  go_wp2_with fail
  refine (HI.out w13 g13 _ _ (HG.out _ B13.out) O13x.out).mono ?_
  rintro e w14 ⟨ho, ch, rfl, o14, b14⟩
  have O14h : Hid (w14.ownsRow w13.heap.size 9 1 (.slice ho M.length ch) M.length (cellsT M)) := o14
  have X14 : Hid (BoxT w3.heap.size w5.heap.size c0 ao bo M.length ca cb w14) := X13.out.below b14
  have B14 : Hid (Below w.heap.size w w14) := B13.out.trans (b14.mono B13.out.size)
  have O14w : Hid (w14.ownsRow w2.heap.size 9 1 (.slice ao M.length ca) M.length (cellsT M)) := own_below O13w.out b14
  have O14 : Hid (w14.ownsRow w4.heap.size 9 1 (.slice bo M.length cb) M.length (cellsT (marksT 1 M.length))) := own_below O13.out b14
  have s14 : w13.heap.size ≤ w14.heap.size := b14.size
  have l14 : w3.heap.size < w14.heap.size := by omega
  clear o14 b14 X13 O13 O13w O13x
  have p0 := X14.out.p0
  have p1 := X14.out.p1
  go_wp2_with fail
  clear p0 p1
  refine (eqRT_same c0 ho ao ch ca _ _ M _ (by omega) (O14h.out.alloc _) (O14w.out.alloc _)).mono ?_
  rintro e w15 ⟨rfl, b15⟩
  have X15 : Hid (BoxT w3.heap.size w5.heap.size c0 ao bo M.length ca cb w15) := (X14.out.below ((Below.refl _ _).alloc (Nat.le_refl _) _)).below b15
  have B15 : Hid (Below w.heap.size w w15) := (B14.out.alloc B14.out.size _).trans (b15.mono (by have := B14.out.size; simp; omega))
  have O15 : Hid (w15.ownsRow w4.heap.size 9 1 (.slice bo M.length cb) M.length (cellsT (marksT 1 M.length))) := own_below (O14.out.alloc _) b15
  clear b15 X14 O14 O14w O14h
  have q0 := X15.out.q0
  have q1 := X15.out.q1
  go_wp2_with fail
  clear q0 q1
  refine (HM.out _ _ O15.out).mono ?_
  rintro e w16 ⟨rfl, b16⟩
  have B16 : Hid (Below w.heap.size w w16) := B15.out.trans (b16.mono B15.out.size)
  clear b16
  go_wp2
  go_ret
  exact ⟨rfl, B16.out⟩
end Go.Proofs.YtebnonpdaddniaaGreatDoor
