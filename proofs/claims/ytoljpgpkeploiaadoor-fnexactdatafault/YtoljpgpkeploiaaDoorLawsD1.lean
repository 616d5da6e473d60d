/-
  The exact laws of DataFault and SameData answer true at every slice of data, if the program's own functions answer what the plain ones tell; nothing that was there is turned.
-/
import Derived.Test.YtoljpgpkeploiaaDoorSpecFaultD
import Derived.Test.YtoljpgpkeploiaaDoorSpecSameD
namespace Go.Proofs.YtoljpgpkeploiaaDoor
open Go.RowKit Go.Extern.Stop Go.Stop Go.Extern Num Go.Lib

set_option maxHeartbeats 1000000 in
theorem lawDF_of (a : Option Addr) (cp : Nat) (l : List Dat) (w : World) (G : World → Prop) (hG : ∀ u, Below w.heap.size w u → G u) (hl : l.length ≤ 9223372036854775807) (h : MemD w a l) (hz : ∀ (k : Nat) (h : k < l.length), l[k].name.size ≤ 9223372036854775807)
    (hi : (∀ (k : Nat) (h : k < l.length), l[k].name.size ≤ 1048576) → l.length ≤ 1048576 → ∀ (u : World) (g c base : Nat), G u → u.ownsRow base 51 4 (.slice (some ⟨g, 0, none⟩) l.length c) l.length (cellsD l) → Calls Tryd.prog 11 #[.slice (some ⟨g, 0, none⟩) l.length c] u fun e w' => e = .returned (.int .i64 (dataFault l)) ∧ Below u.heap.size u w') :
    Calls Tryd.prog 3 #[.slice a l.length cp] w fun e w' => e = .returned (.bool true) ∧ Below w.heap.size w w' := by
  have HS : Hid (Calls Tryd.prog 8 #[.slice a l.length cp, .int .i64 1048576] w fun e w' => SZD l w e w') := szDS_any a cp l w 1048576 (Nat.le_refl _) hl h hz
  have HT : Hid (MemD w a l) := h
  have HG : Hid (∀ u, Below w.heap.size w u → G u) := hG
  have HI0 : Hid _ := hi
  clear h hz hl hG hi
  obtain ⟨df, hdf⟩ : ∃ df, df = dataFault l := ⟨_, rfl⟩
  have HDf : Hid (df = dataFault l) := hdf
  clear hdf
  go_enter Tryd.func3, Tryd.ntmps3
  go_wp2_with fail
  refine HS.out.mono ?_
  rintro e w1 ⟨h1, b1⟩
  have B1 : Hid (Below w.heap.size w w1) := b1
  clear b1
  rcases h1 with rfl | ⟨q, hq, rfl, hl, hz⟩
  · go_wp2
    go_ret
    exact ⟨rfl, B1.out⟩
  have HI : Hid _ := HI0.out hz hl
  have HZ : Hid (∀ (k : Nat) (h : k < l.length), l[k].name.size ≤ 1048576) := hz
  have HN : Hid (l.length ≤ 1048576) := hl
  have HU : Hid (∀ wx, Below w.heap.size w wx → Calls Tryd.prog 10 #[.slice a l.length cp] wx fun e w' => ∃ g, e = .returned (.slice (some ⟨g, 0, none⟩) l.length l.length) ∧ w'.ownsRow wx.heap.size 51 4 (.slice (some ⟨g, 0, none⟩) l.length l.length) l.length (cellsD l) ∧ Below wx.heap.size wx w') := fun wx hx => toDS_any a cp l wx hl (HT.out.below hx)
  clear hz hl HI0
  go_wp2_with fail
  refine (HU.out _ B1.out).mono ?_
  rintro e w2 ⟨g2, rfl, o2, b2⟩
  have O2 : Hid _ := o2
  have B2 : Hid (Below w.heap.size w w2) := B1.out.trans (b2.mono B1.out.size)
  clear o2 b2
  go_wp2_with fail
  refine (specDF_any _ _ _ l w2 O2.out (name_le HZ.out)).mono ?_
  rw [← HDf.out]
  rintro e w3 ⟨rfl, hw3⟩
  replace hw3 := hw3.symm
  subst hw3
  clear O2
  go_wp2_with fail
  refine (HU.out _ B2.out).mono ?_
  rintro e w4 ⟨g4, rfl, o4, b4⟩
  have O4 : Hid (w4.ownsRow _ 51 4 (.slice (some ⟨g4, 0, none⟩) l.length l.length) l.length (cellsD l)) := o4
  have B4 : Hid (Below w.heap.size w w4) := B2.out.trans (b4.mono B2.out.size)
  clear o4 b4
  go_wp2_with fail
  refine (HI.out w4 g4 _ _ (HG.out _ B4.out) O4.out).mono ?_
  rw [← HDf.out]
  rintro e w5 ⟨rfl, b5⟩
  have O5 : Hid (w5.ownsRow _ 51 4 (.slice (some ⟨g4, 0, none⟩) l.length l.length) l.length (cellsD l)) := own_below O4.out b5
  have B5 : Hid (Below w.heap.size w w5) := B4.out.trans (b5.mono B4.out.size)
  clear b5 O4
  go_wp2_with fail
  refine (HU.out _ B5.out).mono ?_
  rintro e w7 ⟨g7, rfl, o7, b7⟩
  have O7 : Hid (w7.ownsRow _ 51 4 (.slice (some ⟨g7, 0, none⟩) l.length l.length) l.length (cellsD l)) := o7
  have P7 : Hid (w7.ownsRow _ 51 4 (.slice (some ⟨g4, 0, none⟩) l.length l.length) l.length (cellsD l)) := own_below O5.out b7
  have B7 : Hid (Below w.heap.size w w7) := B5.out.trans (b7.mono B5.out.size)
  clear o7 b7 O5
  go_wp2_with fail
  refine (eqDS_same _ _ _ _ l w7 HN.out P7.out O7.out).mono ?_
  rintro e w8 ⟨rfl, b8⟩
  go_wp2
  go_ret
  exact ⟨rfl, B7.out.trans (b8.mono B7.out.size)⟩
end Go.Proofs.YtoljpgpkeploiaaDoor
