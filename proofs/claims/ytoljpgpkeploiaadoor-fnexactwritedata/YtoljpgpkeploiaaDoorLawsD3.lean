/-
  The exact law of WriteData answers true at every slice of data, if the program's own function answers what the plain one tells; nothing that was there is turned.
-/
import Derived.Test.YtoljpgpkeploiaaDoorWrC
import Derived.Test.YtoljpgpkeploiaaDoorOpDatum
import Derived.Test.YtoljpgpkeploiaaDoorEqText
namespace Go.Proofs.YtoljpgpkeploiaaDoor
open Go.RowKit Go.Extern.Stop Go.Stop Go.Extern Num Go.Lib

theorem WD_form (l : List Dat) : ∃ c x, WD l = .agg #[.int .i64 c, .string x] := by
  unfold WD
  split
  · split
    · exact ⟨_, _, rfl⟩
    · exact ⟨_, _, rfl⟩
  · exact ⟨_, _, rfl⟩
set_option maxHeartbeats 1000000 in
theorem lawWrite_of (a : Option Addr) (cp : Nat) (l : List Dat) (w : World) (G : World → Prop) (hG : ∀ u, Below w.heap.size w u → G u) (hl : l.length ≤ 9223372036854775807) (h : MemD w a l) (hz : ∀ (k : Nat) (h : k < l.length), l[k].name.size ≤ 9223372036854775807)
    (hi : (∀ (k : Nat) (h : k < l.length), l[k].name.size ≤ 1048576) → l.length ≤ 1048576 → ∀ (u : World) (g c base : Nat), G u → u.ownsRow base 51 4 (.slice (some ⟨g, 0, none⟩) l.length c) l.length (cellsD l) → Calls Tryd.prog 19 #[.slice (some ⟨g, 0, none⟩) l.length c] u fun e w' => e = .returned (WD l) ∧ Below u.heap.size u w') :
    Calls Tryd.prog 5 #[.slice a l.length cp] w fun e w' => e = .returned (.bool true) ∧ Below w.heap.size w w' := by
  have HS : Hid (Calls Tryd.prog 8 #[.slice a l.length cp, .int .i64 1048576] w fun e w' => SZD l w e w') := szDS_any a cp l w 1048576 (Nat.le_refl _) hl h hz
  have HT : Hid (MemD w a l) := h
  have HG : Hid (∀ u, Below w.heap.size w u → G u) := hG
  have HI0 : Hid _ := hi
  obtain ⟨c, x, hWD⟩ := WD_form l
  have HE : Hid (WD l = .agg #[.int .i64 c, .string x]) := hWD
  clear h hz hG hi hWD hl
  go_enter Tryd.func5, Tryd.ntmps5
  go_wp2_with fail
  refine HS.out.mono ?_
  rintro e w1 ⟨h1, b1⟩
  have B1 : Hid (Below w.heap.size w w1) := b1
  clear b1
  rcases h1 with rfl | ⟨q, hq, rfl, hl, hz⟩
  · go_wp2
    go_ret
    exact ⟨rfl, B1.out⟩
  have HI : Hid _ := HI0.out hz hl
  have HZ : Hid (∀ (k : Nat) (h : k < l.length), l[k].name.size ≤ 1048576) := hz
  have HN : Hid (l.length ≤ 1048576) := hl
  have HU : Hid (∀ wx, Below w.heap.size w wx → Calls Tryd.prog 10 #[.slice a l.length cp] wx fun e w' => ∃ g, e = .returned (.slice (some ⟨g, 0, none⟩) l.length l.length) ∧ w'.ownsRow wx.heap.size 51 4 (.slice (some ⟨g, 0, none⟩) l.length l.length) l.length (cellsD l) ∧ Below wx.heap.size wx w') := fun wx hx => toDS_any a cp l wx hl (HT.out.below hx)
  clear hz hl HI0
  go_wp2_with fail
  refine (HU.out _ B1.out).mono ?_
  rintro e w2 ⟨g2, rfl, o2, b2⟩
  have O2 : Hid _ := o2
  have B2 : Hid (Below w.heap.size w w2) := B1.out.trans (b2.mono B1.out.size)
  clear o2 b2
  go_wp2_with fail
  refine (specWrite_any _ _ _ l w2 O2.out (fun k hk => Nat.le_trans (HZ.out k hk) (by omega))).mono ?_
  rw [HE.out]
  rintro e w3 ⟨rfl, b3⟩
  have B3 : Hid (Below w.heap.size w w3) := B2.out.trans (b3.mono B2.out.size)
  have z3 : w.heap.size ≤ w3.heap.size := B3.out.size
  clear b3 O2
  go_wp2_with fail
  refine (HU.out _ (B3.out.alloc z3 _)).mono ?_
  rintro e w4 ⟨g4, rfl, o4, b4⟩
  have O4 : Hid (w4.ownsRow _ 51 4 (.slice (some ⟨g4, 0, none⟩) l.length l.length) l.length (cellsD l)) := o4
  have B4 : Hid (Below w.heap.size w w4) := (B3.out.alloc z3 _).trans (b4.mono (by simp; omega))
  obtain ⟨c4, f4⟩ := bcell b4
  have z4 : w3.heap.size < w4.heap.size := by have := b4.size; simp at this; omega
  clear o4 b4
  go_wp2_with fail
  refine (HI.out w4 g4 _ _ (HG.out _ B4.out) O4.out).mono ?_
  rw [HE.out]
  rintro e w5 ⟨rfl, b5⟩
  obtain ⟨c5, f5⟩ := bcell b5
  have O5 : Hid (w5.ownsRow _ 51 4 (.slice (some ⟨g4, 0, none⟩) l.length l.length) l.length (cellsD l)) := own_below O4.out b5
  have z5 : w3.heap.size < w5.heap.size := by have := b5.size; omega
  have B5 : Hid (Below w.heap.size w w5) := B4.out.trans (b5.mono (by omega))
  clear b5 O4
  go_wp2_with fail
  refine (eqText_same _ _ _).mono ?_
  rintro e w6 ⟨rfl, b6⟩
  have O6 : Hid (w6.ownsRow _ 51 4 (.slice (some ⟨g4, 0, none⟩) l.length l.length) l.length (cellsD l)) := own_below (O5.out.alloc _) b6
  have B6 : Hid (Below w.heap.size w w6) := (B5.out.alloc (by omega) _).trans (b6.mono (by simp; omega))
  clear b6 O5 c4 f4 c5 f5
  go_wp2_with fail
  refine (HU.out _ B6.out).mono ?_
  rintro e w7 ⟨g7, rfl, o7, b7⟩
  have O7 : Hid (w7.ownsRow _ 51 4 (.slice (some ⟨g7, 0, none⟩) l.length l.length) l.length (cellsD l)) := o7
  have P7 : Hid (w7.ownsRow _ 51 4 (.slice (some ⟨g4, 0, none⟩) l.length l.length) l.length (cellsD l)) := own_below O6.out b7
  have B7 : Hid (Below w.heap.size w w7) := B6.out.trans (b7.mono B6.out.size)
  clear o7 b7 O6
  go_wp2_with fail
  refine (eqDS_same _ _ _ _ l w7 HN.out P7.out O7.out).mono ?_
  rintro e w8 ⟨rfl, b8⟩
  go_wp2
  go_ret
  exact ⟨rfl, B7.out.trans (b8.mono B7.out.size)⟩
end Go.Proofs.YtoljpgpkeploiaaDoor
