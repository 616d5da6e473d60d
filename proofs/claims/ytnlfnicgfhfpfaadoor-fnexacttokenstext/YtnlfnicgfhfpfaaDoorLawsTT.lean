/-
  The exact law of TokenText answers true at every token, in every world in which the listed variables hold what the program's text lays; nothing that was there is turned.
-/
import Derived.Test.YtnlfnicgfhfpfaaDoorTText
namespace Go.Proofs.YtnlfnicgfhfpfaaDoor
open Go.RowKit Go.Extern.Stop Go.Stop Go.Extern Num Go.Lib

theorem toToken_any (t : Tok) (w : World) :
    Calls Tryd.prog 14 #[t.val] w fun e w' => e = .returned t.val ∧ Below w.heap.size w w' := by
  go_enter Tryd.func14, Tryd.ntmps14
  go_wp2
  exact bodyPost_ret (v := t.val) (by simp [results, Tryd.results14, go_sem]) rfl ⟨rfl, by
    repeat (first | exact Below.refl _ _ | refine Below.setCell ?_ (by simp) _ | refine Below.alloc ?_ (by simp <;> omega) _)⟩
theorem szToken_far (t : Tok) (n : Nat) (w : World) (hz : t.name.size ≤ 9223372036854775807) (hn : n ≤ 1048576) (h : n < t.name.size) :
    Calls Tryd.prog 12 #[t.val, .int .i64 (n : Int)] w fun e w' => e = .returned (.int .i64 (-1)) ∧ Below w.heap.size w w' := by
  go_enter Tryd.func12, Tryd.ntmps12
  go_wp2
  go_ret
  exact ⟨rfl, by repeat (first | exact Below.refl _ _ | refine Below.setCell ?_ (by simp) _ | refine Below.alloc ?_ (by simp <;> omega) _)⟩
theorem szToken_near (t : Tok) (n : Nat) (w : World) (hn : n ≤ 1048576) (h : t.name.size ≤ n) :
    Calls Tryd.prog 12 #[t.val, .int .i64 (n : Int)] w fun e w' => e = .returned (.int .i64 ((n - t.name.size : Nat) : Int)) ∧ Below w.heap.size w w' := by
  have e : ((n - t.name.size : Nat) : Int) = (n : Int) - (t.name.size : Int) := by omega
  rw [e]
  clear e
  go_enter Tryd.func12, Tryd.ntmps12
  go_wp2
  go_ret
  exact ⟨rfl, by repeat (first | exact Below.refl _ _ | refine Below.setCell ?_ (by simp) _ | refine Below.alloc ?_ (by simp <;> omega) _)⟩
theorem eqTT_same (c : Int) (x : ByteArray) (w : World) :
    Calls Tryd.prog 16 #[.agg #[.int .i64 c, .string x], .agg #[.int .i64 c, .string x]] w fun e w' => e = .returned (.bool true) ∧ Below w.heap.size w w' := by
  go_enter Tryd.func16, Tryd.ntmps16
  go_wp2
  go_ret
  refine ⟨rfl, ?_⟩
  repeat (first | exact Below.refl _ _ | refine Below.alloc ?_ (by simp <;> omega) _ | refine Below.drew ?_)
theorem lawTT_far (t : Tok) (w : World) (hz : t.name.size ≤ 9223372036854775807) (h : 1048576 < t.name.size) :
    Calls Tryd.prog 4 #[t.val] w fun e w' => e = .returned (.bool true) ∧ Below w.heap.size w w' := by
  have HZ : Hid (∀ w, Calls Tryd.prog 12 #[t.val, .int .i64 1048576] w fun e w' => e = .returned (.int .i64 (-1)) ∧ Below w.heap.size w w') := fun w => szToken_far t 1048576 w hz (Nat.le_refl _) h
  clear h hz
  go_enter Tryd.func4, Tryd.ntmps4
  go_wp2_with (go_at_call 12; refine (HZ.out _).mono ?_; rintro e w1 ⟨rfl, hq⟩)
  go_ret
  exact ⟨rfl, ((Below.refl _ _).alloc (Nat.le_refl _) _).trans (hq.mono (by simp))⟩
set_option maxHeartbeats 1000000 in
theorem lawTT_near (t : Tok) (w : World) (hL : LT w) (h : t.name.size ≤ 1048576) :
    Calls Tryd.prog 4 #[t.val] w fun e w' => e = .returned (.bool true) ∧ Below w.heap.size w w' := by
  obtain ⟨q, hq⟩ : ∃ q : Nat, q = 1048576 - t.name.size := ⟨_, rfl⟩
  have HZ : Hid (∀ w, Calls Tryd.prog 12 #[t.val, .int .i64 1048576] w fun e w' => e = .returned (.int .i64 (q : Int)) ∧ Below w.heap.size w w') := fun w => by rw [hq]; exact szToken_near t 1048576 w (Nat.le_refl _) h
  obtain ⟨c, x, hTT⟩ : ∃ c x, TT t = .agg #[.int .i64 c, .string x] := ⟨_, _, rfl⟩
  have HS : Hid (∀ w, Calls Tryd.prog 13 #[t.val] w fun e w' => e = .returned (.agg #[.int .i64 c, .string x]) ∧ Below w.heap.size w w') := fun w => by rw [← hTT]; exact specTT_any t w (by omega)
  have HI : Hid (∀ w, LT w → Calls Tryd.prog 15 #[t.val] w fun e w' => e = .returned (.agg #[.int .i64 c, .string x]) ∧ Below w.heap.size w w') := fun w hL => by rw [← hTT]; exact implTT_any t w hL (by omega)
  have HT : Hid (∀ w, Calls Tryd.prog 14 #[t.val] w fun e w' => e = .returned t.val ∧ Below w.heap.size w w') := fun w => toToken_any t w
  clear h hq hTT
  go_enter Tryd.func4, Tryd.ntmps4
  go_wp2_with fail
  refine (HZ.out _).mono ?_
  rintro e w1 ⟨rfl, b1⟩
  obtain ⟨c1, f1⟩ := bcell b1
  have z1 : w.heap.size < w1.heap.size := by have := b1.size; simp at this; omega
  have B1 : Hid (Below w.heap.size w w1) := ((Below.refl _ _).alloc (Nat.le_refl _) _).trans (b1.mono (by simp))
  clear b1
  go_wp2_with fail
  refine (HT.out _).mono ?_
  rintro e w2 ⟨rfl, b2⟩
  obtain ⟨c2, f2⟩ := bcell b2
  have z2 : w.heap.size < w2.heap.size := by have := b2.size; omega
  have B2 : Hid (Below w.heap.size w w2) := B1.out.trans (b2.mono (by omega))
  clear b2
  go_wp2_with fail
  refine (HS.out _).mono ?_
  rintro e w3 ⟨rfl, b3⟩
  obtain ⟨c3, f3⟩ := bcell b3
  have z3 : w.heap.size < w3.heap.size := by have := b3.size; omega
  have B3 : Hid (Below w.heap.size w w3) := B2.out.trans (b3.mono (by omega))
  clear b3
  go_wp2_with fail
  refine (HT.out _).mono ?_
  rintro e w4 ⟨rfl, b4⟩
  obtain ⟨c4, f4⟩ := bcell b4
  have z4 : w3.heap.size < w4.heap.size := by have := b4.size; simp at this; omega
  have B4 : Hid (Below w.heap.size w w4) := (B3.out.alloc (by omega) _).trans (b4.mono (by simp; omega))
  clear b4
  go_wp2_with fail
  refine (HI.out _ (hL.below B4.out)).mono ?_
  rintro e w5 ⟨rfl, b5⟩
  obtain ⟨c5, f5⟩ := bcell b5
  have z5 : w3.heap.size < w5.heap.size := by have := b5.size; omega
  have B5 : Hid (Below w.heap.size w w5) := B4.out.trans (b5.mono (by omega))
  clear b5
  go_wp2_with (go_at_call 16; refine (eqTT_same _ _ _).mono ?_; rintro e w6 ⟨rfl, b6⟩)
  go_ret
  exact ⟨rfl, (B5.out.alloc (by omega) _).trans (b6.mono (by simp; omega))⟩
theorem lawTT_any (t : Tok) (w : World) (hL : LT w) (hz : t.name.size ≤ 9223372036854775807) :
    Calls Tryd.prog 4 #[t.val] w fun e w' => e = .returned (.bool true) ∧ Below w.heap.size w w' := by
  by_cases h : 1048576 < t.name.size
  · exact lawTT_far t w hz h
  · exact lawTT_near t w hL (by omega)
end Go.Proofs.YtnlfnicgfhfpfaaDoor
