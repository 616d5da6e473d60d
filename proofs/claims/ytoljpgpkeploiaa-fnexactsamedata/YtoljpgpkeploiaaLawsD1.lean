/-
  The exact laws of DataFault and SameData answer true at every slice of data, if the program's own functions answer what the plain ones tell; nothing that was there is turned.
-/
import Derived.Test.YtoljpgpkeploiaaSpecFaultD
import Derived.Test.YtoljpgpkeploiaaSpecSameD
namespace Go.Proofs.Ytoljpgpkeploiaa
open Go.RowKit Go.Extern.Stop Go.Stop Go.Extern Num Go.Lib

set_option maxHeartbeats 2000000 in
theorem lawSame_of (a b : Option Addr) (ca cb : Nat) (l m : List Dat) (w : World) (G : World → Prop) (hG : ∀ u, Below w.heap.size w u → G u) (hl : l.length ≤ 9223372036854775807) (hm : m.length ≤ 9223372036854775807) (h : MemD w a l) (h2 : MemD w b m) (hz : ∀ (k : Nat) (h : k < l.length), l[k].name.size ≤ 9223372036854775807) (hz2 : ∀ (k : Nat) (h : k < m.length), m[k].name.size ≤ 9223372036854775807)
    (hi : l.length ≤ 1048576 → m.length ≤ 1048576 → ∀ (u : World) (g c base g' c' base' : Nat), G u → u.ownsRow base 31 4 (.slice (some ⟨g, 0, none⟩) l.length c) l.length (cellsD l) → u.ownsRow base' 31 4 (.slice (some ⟨g', 0, none⟩) m.length c') m.length (cellsD m) → Calls Try.prog 7 #[.slice (some ⟨g, 0, none⟩) l.length c, .slice (some ⟨g', 0, none⟩) m.length c'] u fun e w' => e = .returned (.bool (sameB l m)) ∧ Below u.heap.size u w') :
    Calls Try.prog 3 #[.slice a l.length ca, .slice b m.length cb] w fun e w' => e = .returned (.bool true) ∧ Below w.heap.size w w' := by
  have HS : Hid (Calls Try.prog 4 #[.slice a l.length ca, .int .i64 1048576] w fun e w' => SZD l w e w') := szDS_any a ca l w 1048576 (Nat.le_refl _) hl h hz
  have HS2 : Hid (∀ (u : World) (n : Nat), n ≤ 1048576 → Below w.heap.size w u → Calls Try.prog 4 #[.slice b m.length cb, .int .i64 (n : Int)] u fun e w' => SZD m u e w') := fun u n hn hu => szDS_any b cb m u n hn hm (h2.below hu) hz2
  have HT : Hid (MemD w a l) := h
  have HT2 : Hid (MemD w b m) := h2
  have HG : Hid (∀ u, Below w.heap.size w u → G u) := hG
  have HI0 : Hid _ := hi
  clear h h2 hz hz2 hl hm hG hi
  obtain ⟨sb, hsb⟩ : ∃ sb, sb = sameB l m := ⟨_, rfl⟩
  have HSb : Hid (sb = sameB l m) := hsb
  clear hsb
  go_enter Try.func3, Try.ntmps3
  go_wp2_with fail
  refine HS.out.mono ?_
  rintro e w1 ⟨h1, b1⟩
  have B1 : Hid (Below w.heap.size w w1) := b1
  clear b1
  rcases h1 with rfl | ⟨q, hq, rfl, hl, -⟩
  · go_wp2
    go_ret
    exact ⟨rfl, B1.out⟩
  go_wp2_with fail
  refine (HS2.out w1 q hq B1.out).mono ?_
  rintro e w2 ⟨h2, b2⟩
  have B2 : Hid (Below w.heap.size w w2) := B1.out.trans (b2.mono B1.out.size)
  clear b2
  rcases h2 with rfl | ⟨q2, hq2, rfl, hm, -⟩
  · go_wp2
    go_ret
    exact ⟨rfl, B2.out⟩
  have HI : Hid _ := HI0.out hl hm
  have HN : Hid (l.length ≤ 1048576) := hl
  have HM : Hid (m.length ≤ 1048576) := hm
  have HU : Hid (∀ wx, Below w.heap.size w wx → Calls Try.prog 6 #[.slice a l.length ca] wx fun e w' => ∃ g, e = .returned (.slice (some ⟨g, 0, none⟩) l.length l.length) ∧ w'.ownsRow wx.heap.size 31 4 (.slice (some ⟨g, 0, none⟩) l.length l.length) l.length (cellsD l) ∧ Below wx.heap.size wx w') := fun wx hx => toDS_any a ca l wx hl (HT.out.below hx)
  have HV : Hid (∀ wx, Below w.heap.size w wx → Calls Try.prog 6 #[.slice b m.length cb] wx fun e w' => ∃ g, e = .returned (.slice (some ⟨g, 0, none⟩) m.length m.length) ∧ w'.ownsRow wx.heap.size 31 4 (.slice (some ⟨g, 0, none⟩) m.length m.length) m.length (cellsD m) ∧ Below wx.heap.size wx w') := fun wx hx => toDS_any b cb m wx hm (HT2.out.below hx)
  clear hl hm HI0 hq hq2
  go_wp2_with fail
  refine (HU.out _ B2.out).mono ?_
  rintro e w3 ⟨g3, rfl, o3, b3⟩
  have O3 : Hid (w3.ownsRow _ 31 4 (.slice (some ⟨g3, 0, none⟩) l.length l.length) l.length (cellsD l)) := o3
  have B3 : Hid (Below w.heap.size w w3) := B2.out.trans (b3.mono B2.out.size)
  clear o3 b3
  go_wp2_with fail
  refine (HV.out _ B3.out).mono ?_
  rintro e w4 ⟨g4, rfl, o4, b4⟩
  have O4 : Hid (w4.ownsRow _ 31 4 (.slice (some ⟨g4, 0, none⟩) m.length m.length) m.length (cellsD m)) := o4
  have P4 : Hid (w4.ownsRow _ 31 4 (.slice (some ⟨g3, 0, none⟩) l.length l.length) l.length (cellsD l)) := own_below O3.out b4
  have B4 : Hid (Below w.heap.size w w4) := B3.out.trans (b4.mono B3.out.size)
  clear o4 b4 O3
  go_wp2_with fail
  refine (specSame_any _ _ _ _ _ _ l m w4 HN.out P4.out O4.out).mono ?_
  rw [← HSb.out]
  rintro e w5 ⟨rfl, b5⟩
  have B5 : Hid (Below w.heap.size w w5) := B4.out.trans (b5.mono B4.out.size)
  clear b5 O4 P4
  go_wp2_with fail
  refine (HU.out _ B5.out).mono ?_
  rintro e w6 ⟨g6, rfl, o6, b6⟩
  have O6 : Hid (w6.ownsRow _ 31 4 (.slice (some ⟨g6, 0, none⟩) l.length l.length) l.length (cellsD l)) := o6
  have B6 : Hid (Below w.heap.size w w6) := B5.out.trans (b6.mono B5.out.size)
  clear o6 b6
  go_wp2_with fail
  refine (HV.out _ B6.out).mono ?_
  rintro e w7 ⟨g7, rfl, o7, b7⟩
  have O7 : Hid (w7.ownsRow _ 31 4 (.slice (some ⟨g7, 0, none⟩) m.length m.length) m.length (cellsD m)) := o7
  have P7 : Hid (w7.ownsRow _ 31 4 (.slice (some ⟨g6, 0, none⟩) l.length l.length) l.length (cellsD l)) := own_below O6.out b7
  have B7 : Hid (Below w.heap.size w w7) := B6.out.trans (b7.mono B6.out.size)
  clear o7 b7 O6
  go_wp2_with fail
  refine (HI.out w7 g6 _ _ g7 _ _ (HG.out _ B7.out) P7.out O7.out).mono ?_
  rw [← HSb.out]
  rintro e w8 ⟨rfl, b8⟩
  have O8 : Hid (w8.ownsRow _ 31 4 (.slice (some ⟨g7, 0, none⟩) m.length m.length) m.length (cellsD m)) := own_below O7.out b8
  have P8 : Hid (w8.ownsRow _ 31 4 (.slice (some ⟨g6, 0, none⟩) l.length l.length) l.length (cellsD l)) := own_below P7.out b8
  have B8 : Hid (Below w.heap.size w w8) := B7.out.trans (b8.mono B7.out.size)
  clear b8 O7 P7
  have hsb : (sb != sb) = false := by simp
  go_wp2_with fail
  refine (HU.out _ B8.out).mono ?_
  rintro e w9 ⟨g9, rfl, o9, b9⟩
  have O9 : Hid (w9.ownsRow _ 31 4 (.slice (some ⟨g9, 0, none⟩) l.length l.length) l.length (cellsD l)) := o9
  have P9 : Hid (w9.ownsRow _ 31 4 (.slice (some ⟨g6, 0, none⟩) l.length l.length) l.length (cellsD l)) := own_below P8.out b9
  have Q9 : Hid (w9.ownsRow _ 31 4 (.slice (some ⟨g7, 0, none⟩) m.length m.length) m.length (cellsD m)) := own_below O8.out b9
  have B9 : Hid (Below w.heap.size w w9) := B8.out.trans (b9.mono B8.out.size)
  clear o9 b9 O8 P8
  go_wp2_with fail
  refine (eqDS_same _ _ _ _ l w9 HN.out P9.out O9.out).mono ?_
  rintro e w10 ⟨rfl, b10⟩
  have Q10 : Hid (w10.ownsRow _ 31 4 (.slice (some ⟨g7, 0, none⟩) m.length m.length) m.length (cellsD m)) := own_below Q9.out b10
  have B10 : Hid (Below w.heap.size w w10) := B9.out.trans (b10.mono B9.out.size)
  clear b10 O9 P9 Q9
  go_wp2_with fail
  refine (HV.out _ B10.out).mono ?_
  rintro e w11 ⟨g11, rfl, o11, b11⟩
  have O11 : Hid (w11.ownsRow _ 31 4 (.slice (some ⟨g11, 0, none⟩) m.length m.length) m.length (cellsD m)) := o11
  have P11 : Hid (w11.ownsRow _ 31 4 (.slice (some ⟨g7, 0, none⟩) m.length m.length) m.length (cellsD m)) := own_below Q10.out b11
  have B11 : Hid (Below w.heap.size w w11) := B10.out.trans (b11.mono B10.out.size)
  clear o11 b11 Q10
  go_wp2_with fail
  refine (eqDS_same _ _ _ _ m w11 HM.out P11.out O11.out).mono ?_
  rintro e w12 ⟨rfl, b12⟩
  go_wp2
  go_ret
  exact ⟨rfl, B11.out.trans (b12.mono B11.out.size)⟩
end Go.Proofs.Ytoljpgpkeploiaa
