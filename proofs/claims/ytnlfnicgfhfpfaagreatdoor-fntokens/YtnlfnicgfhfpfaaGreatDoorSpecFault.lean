/-
  The model's l2Fault and l2Text: what is wrong with a token, and the text of one with which nothing is wrong; nothing that was there is turned.
-/
import Derived.Test.YtnlfnicgfhfpfaaGreatDoorTok
import Derived.Test.YtnlfnicgfhfpfaaGreatDoorRowKit0
import Derived.Test.YtnlfnicgfhfpfaaGreatDoorSpecSymF
namespace Go.Proofs.YtnlfnicgfhfpfaaGreatDoor
open Go.RowKit Go.Extern.Stop Go.Stop Go.Extern Num Go.Lib

/-- The cells of a token behind a pointer. -/
structure TokAt (b o : Nat) (t : Tok) (w : World) : Prop where
  c0 : w.cell? ⟨b, o, none⟩ = some (.int .i64 t.kind)
  c1 : w.cell? ⟨b, o + 1, none⟩ = some (.int .i64 t.num)
  c2 : w.cell? ⟨b, o + 2, none⟩ = some (.string t.name)
/-- What is wrong with a token. -/
def tokFault (t : Tok) : Int :=
  if ¬ (1 ≤ t.kind ∧ t.kind ≤ 6) then 1
  else if (t.kind ≠ 4 ∧ t.kind ≠ 5) ∧ t.num ≠ 0 then 1
  else if t.kind ≠ 6 ∧ t.name.data.toList ≠ [] then 1
  else if t.kind = 4 then (if inB t.num = true then 0 else 3)
  else if t.kind = 5 then (if 0 ≤ t.num ∧ t.num ≤ 1 then 0 else 3)
  else if t.kind = 6 then (if symL t.name.data.toList = true then 0 else 5)
  else 0
theorem numFault_any (n : Int) (w : World) :
    Calls Tryz.prog 42 #[.int .i64 n] w fun e w' => e = .returned (.int .i64 (if inB n = true then 0 else 3)) ∧ w' = w := by
  cases h : inB n
  · exact specFault_no n w h
  · exact specFault_yes n w h
theorem fault_kind (b o : Nat) (n : Int) (z : ByteArray) (w : World) (k : Int) (hz : z.size ≤ 9223372036854775807) (hk : (decide (1 ≤ k) && decide (k ≤ 6)) = false) (k4 : (k == 4) = false) (k5 : (k == 5) = false) (h : TokAt b o ⟨k, n, z⟩ w) :
    Calls Tryz.prog 23 #[.pointer (some ⟨b, o, none⟩)] w fun e w' => e = .returned (.int .i64 1) ∧ w' = w := by
  obtain ⟨c0, c1, c2⟩ := h
  simp only at c0 c1 c2
  have HN : Hid (∀ w, Calls Tryz.prog 42 #[.int .i64 n] w fun e w' => e = .returned (.int .i64 (if inB n = true then 0 else 3)) ∧ w' = w) := fun w => numFault_any n w
  have HS : Hid (∀ w, Calls Tryz.prog 43 #[.string z] w fun e w' => e = .returned (.int .i64 (if symL z.data.toList = true then 0 else 5)) ∧ w' = w) := fun w => specSym_any z w hz
  go_enter Tryz.func23, Tryz.ntmps23
  go_wp2_with (first | (go_at_call 41; refine (l1In_any _ _ _ _).mono ?_; rintro e w' ⟨rfl, rfl⟩) | (go_at_call 42; refine (HN.out _).mono ?_; rintro e w' ⟨rfl, rfl⟩) | (go_at_call 43; refine (HS.out _).mono ?_; rintro e w' ⟨rfl, rfl⟩))
  all_goals
    go_ret
    exact ⟨rfl, rfl⟩
theorem fault_num1 (b o : Nat) (n : Int) (z : ByteArray) (w : World) (hz : z.size ≤ 9223372036854775807) (hn : (n != 0) = true) (h : TokAt b o ⟨1, n, z⟩ w) :
    Calls Tryz.prog 23 #[.pointer (some ⟨b, o, none⟩)] w fun e w' => e = .returned (.int .i64 1) ∧ w' = w := by
  obtain ⟨c0, c1, c2⟩ := h
  simp only at c0 c1 c2
  have HN : Hid (∀ w, Calls Tryz.prog 42 #[.int .i64 n] w fun e w' => e = .returned (.int .i64 (if inB n = true then 0 else 3)) ∧ w' = w) := fun w => numFault_any n w
  have HS : Hid (∀ w, Calls Tryz.prog 43 #[.string z] w fun e w' => e = .returned (.int .i64 (if symL z.data.toList = true then 0 else 5)) ∧ w' = w) := fun w => specSym_any z w hz
  go_enter Tryz.func23, Tryz.ntmps23
  go_wp2_with (first | (go_at_call 41; refine (l1In_any _ _ _ _).mono ?_; rintro e w' ⟨rfl, rfl⟩) | (go_at_call 42; refine (HN.out _).mono ?_; rintro e w' ⟨rfl, rfl⟩) | (go_at_call 43; refine (HS.out _).mono ?_; rintro e w' ⟨rfl, rfl⟩))
  all_goals
    go_ret
    exact ⟨rfl, rfl⟩
theorem fault_name1 (b o : Nat) (n : Int) (z : ByteArray) (w : World) (hz : z.size ≤ 9223372036854775807) (h0 : n = 0) (hm : (z.toList == []) = false) (h : TokAt b o ⟨1, n, z⟩ w) :
    Calls Tryz.prog 23 #[.pointer (some ⟨b, o, none⟩)] w fun e w' => e = .returned (.int .i64 1) ∧ w' = w := by
  obtain ⟨c0, c1, c2⟩ := h
  simp only at c0 c1 c2
  have HN : Hid (∀ w, Calls Tryz.prog 42 #[.int .i64 n] w fun e w' => e = .returned (.int .i64 (if inB n = true then 0 else 3)) ∧ w' = w) := fun w => numFault_any n w
  have HS : Hid (∀ w, Calls Tryz.prog 43 #[.string z] w fun e w' => e = .returned (.int .i64 (if symL z.data.toList = true then 0 else 5)) ∧ w' = w) := fun w => specSym_any z w hz
  subst h0
  go_enter Tryz.func23, Tryz.ntmps23
  go_wp2_with (first | (go_at_call 41; refine (l1In_any _ _ _ _).mono ?_; rintro e w' ⟨rfl, rfl⟩) | (go_at_call 42; refine (HN.out _).mono ?_; rintro e w' ⟨rfl, rfl⟩) | (go_at_call 43; refine (HS.out _).mono ?_; rintro e w' ⟨rfl, rfl⟩))
  all_goals
    go_ret
    exact ⟨rfl, rfl⟩
theorem fault_ok1 (b o : Nat) (n : Int) (z : ByteArray) (w : World) (hz : z.size ≤ 9223372036854775807) (h0 : n = 0) (hm : (z.toList == []) = true) (h : TokAt b o ⟨1, n, z⟩ w) :
    Calls Tryz.prog 23 #[.pointer (some ⟨b, o, none⟩)] w fun e w' => e = .returned (.int .i64 0) ∧ w' = w := by
  obtain ⟨c0, c1, c2⟩ := h
  simp only at c0 c1 c2
  have HN : Hid (∀ w, Calls Tryz.prog 42 #[.int .i64 n] w fun e w' => e = .returned (.int .i64 (if inB n = true then 0 else 3)) ∧ w' = w) := fun w => numFault_any n w
  have HS : Hid (∀ w, Calls Tryz.prog 43 #[.string z] w fun e w' => e = .returned (.int .i64 (if symL z.data.toList = true then 0 else 5)) ∧ w' = w) := fun w => specSym_any z w hz
  subst h0
  go_enter Tryz.func23, Tryz.ntmps23
  go_wp2_with (first | (go_at_call 41; refine (l1In_any _ _ _ _).mono ?_; rintro e w' ⟨rfl, rfl⟩) | (go_at_call 42; refine (HN.out _).mono ?_; rintro e w' ⟨rfl, rfl⟩) | (go_at_call 43; refine (HS.out _).mono ?_; rintro e w' ⟨rfl, rfl⟩))
  all_goals
    go_ret
    exact ⟨rfl, rfl⟩
theorem fault_num2 (b o : Nat) (n : Int) (z : ByteArray) (w : World) (hz : z.size ≤ 9223372036854775807) (hn : (n != 0) = true) (h : TokAt b o ⟨2, n, z⟩ w) :
    Calls Tryz.prog 23 #[.pointer (some ⟨b, o, none⟩)] w fun e w' => e = .returned (.int .i64 1) ∧ w' = w := by
  obtain ⟨c0, c1, c2⟩ := h
  simp only at c0 c1 c2
  have HN : Hid (∀ w, Calls Tryz.prog 42 #[.int .i64 n] w fun e w' => e = .returned (.int .i64 (if inB n = true then 0 else 3)) ∧ w' = w) := fun w => numFault_any n w
  have HS : Hid (∀ w, Calls Tryz.prog 43 #[.string z] w fun e w' => e = .returned (.int .i64 (if symL z.data.toList = true then 0 else 5)) ∧ w' = w) := fun w => specSym_any z w hz
  go_enter Tryz.func23, Tryz.ntmps23
  go_wp2_with (first | (go_at_call 41; refine (l1In_any _ _ _ _).mono ?_; rintro e w' ⟨rfl, rfl⟩) | (go_at_call 42; refine (HN.out _).mono ?_; rintro e w' ⟨rfl, rfl⟩) | (go_at_call 43; refine (HS.out _).mono ?_; rintro e w' ⟨rfl, rfl⟩))
  all_goals
    go_ret
    exact ⟨rfl, rfl⟩
theorem fault_name2 (b o : Nat) (n : Int) (z : ByteArray) (w : World) (hz : z.size ≤ 9223372036854775807) (h0 : n = 0) (hm : (z.toList == []) = false) (h : TokAt b o ⟨2, n, z⟩ w) :
    Calls Tryz.prog 23 #[.pointer (some ⟨b, o, none⟩)] w fun e w' => e = .returned (.int .i64 1) ∧ w' = w := by
  obtain ⟨c0, c1, c2⟩ := h
  simp only at c0 c1 c2
  have HN : Hid (∀ w, Calls Tryz.prog 42 #[.int .i64 n] w fun e w' => e = .returned (.int .i64 (if inB n = true then 0 else 3)) ∧ w' = w) := fun w => numFault_any n w
  have HS : Hid (∀ w, Calls Tryz.prog 43 #[.string z] w fun e w' => e = .returned (.int .i64 (if symL z.data.toList = true then 0 else 5)) ∧ w' = w) := fun w => specSym_any z w hz
  subst h0
  go_enter Tryz.func23, Tryz.ntmps23
  go_wp2_with (first | (go_at_call 41; refine (l1In_any _ _ _ _).mono ?_; rintro e w' ⟨rfl, rfl⟩) | (go_at_call 42; refine (HN.out _).mono ?_; rintro e w' ⟨rfl, rfl⟩) | (go_at_call 43; refine (HS.out _).mono ?_; rintro e w' ⟨rfl, rfl⟩))
  all_goals
    go_ret
    exact ⟨rfl, rfl⟩
theorem fault_ok2 (b o : Nat) (n : Int) (z : ByteArray) (w : World) (hz : z.size ≤ 9223372036854775807) (h0 : n = 0) (hm : (z.toList == []) = true) (h : TokAt b o ⟨2, n, z⟩ w) :
    Calls Tryz.prog 23 #[.pointer (some ⟨b, o, none⟩)] w fun e w' => e = .returned (.int .i64 0) ∧ w' = w := by
  obtain ⟨c0, c1, c2⟩ := h
  simp only at c0 c1 c2
  have HN : Hid (∀ w, Calls Tryz.prog 42 #[.int .i64 n] w fun e w' => e = .returned (.int .i64 (if inB n = true then 0 else 3)) ∧ w' = w) := fun w => numFault_any n w
  have HS : Hid (∀ w, Calls Tryz.prog 43 #[.string z] w fun e w' => e = .returned (.int .i64 (if symL z.data.toList = true then 0 else 5)) ∧ w' = w) := fun w => specSym_any z w hz
  subst h0
  go_enter Tryz.func23, Tryz.ntmps23
  go_wp2_with (first | (go_at_call 41; refine (l1In_any _ _ _ _).mono ?_; rintro e w' ⟨rfl, rfl⟩) | (go_at_call 42; refine (HN.out _).mono ?_; rintro e w' ⟨rfl, rfl⟩) | (go_at_call 43; refine (HS.out _).mono ?_; rintro e w' ⟨rfl, rfl⟩))
  all_goals
    go_ret
    exact ⟨rfl, rfl⟩
theorem fault_num3 (b o : Nat) (n : Int) (z : ByteArray) (w : World) (hz : z.size ≤ 9223372036854775807) (hn : (n != 0) = true) (h : TokAt b o ⟨3, n, z⟩ w) :
    Calls Tryz.prog 23 #[.pointer (some ⟨b, o, none⟩)] w fun e w' => e = .returned (.int .i64 1) ∧ w' = w := by
  obtain ⟨c0, c1, c2⟩ := h
  simp only at c0 c1 c2
  have HN : Hid (∀ w, Calls Tryz.prog 42 #[.int .i64 n] w fun e w' => e = .returned (.int .i64 (if inB n = true then 0 else 3)) ∧ w' = w) := fun w => numFault_any n w
  have HS : Hid (∀ w, Calls Tryz.prog 43 #[.string z] w fun e w' => e = .returned (.int .i64 (if symL z.data.toList = true then 0 else 5)) ∧ w' = w) := fun w => specSym_any z w hz
  go_enter Tryz.func23, Tryz.ntmps23
  go_wp2_with (first | (go_at_call 41; refine (l1In_any _ _ _ _).mono ?_; rintro e w' ⟨rfl, rfl⟩) | (go_at_call 42; refine (HN.out _).mono ?_; rintro e w' ⟨rfl, rfl⟩) | (go_at_call 43; refine (HS.out _).mono ?_; rintro e w' ⟨rfl, rfl⟩))
  all_goals
    go_ret
    exact ⟨rfl, rfl⟩
theorem fault_name3 (b o : Nat) (n : Int) (z : ByteArray) (w : World) (hz : z.size ≤ 9223372036854775807) (h0 : n = 0) (hm : (z.toList == []) = false) (h : TokAt b o ⟨3, n, z⟩ w) :
    Calls Tryz.prog 23 #[.pointer (some ⟨b, o, none⟩)] w fun e w' => e = .returned (.int .i64 1) ∧ w' = w := by
  obtain ⟨c0, c1, c2⟩ := h
  simp only at c0 c1 c2
  have HN : Hid (∀ w, Calls Tryz.prog 42 #[.int .i64 n] w fun e w' => e = .returned (.int .i64 (if inB n = true then 0 else 3)) ∧ w' = w) := fun w => numFault_any n w
  have HS : Hid (∀ w, Calls Tryz.prog 43 #[.string z] w fun e w' => e = .returned (.int .i64 (if symL z.data.toList = true then 0 else 5)) ∧ w' = w) := fun w => specSym_any z w hz
  subst h0
  go_enter Tryz.func23, Tryz.ntmps23
  go_wp2_with (first | (go_at_call 41; refine (l1In_any _ _ _ _).mono ?_; rintro e w' ⟨rfl, rfl⟩) | (go_at_call 42; refine (HN.out _).mono ?_; rintro e w' ⟨rfl, rfl⟩) | (go_at_call 43; refine (HS.out _).mono ?_; rintro e w' ⟨rfl, rfl⟩))
  all_goals
    go_ret
    exact ⟨rfl, rfl⟩
theorem fault_ok3 (b o : Nat) (n : Int) (z : ByteArray) (w : World) (hz : z.size ≤ 9223372036854775807) (h0 : n = 0) (hm : (z.toList == []) = true) (h : TokAt b o ⟨3, n, z⟩ w) :
    Calls Tryz.prog 23 #[.pointer (some ⟨b, o, none⟩)] w fun e w' => e = .returned (.int .i64 0) ∧ w' = w := by
  obtain ⟨c0, c1, c2⟩ := h
  simp only at c0 c1 c2
  have HN : Hid (∀ w, Calls Tryz.prog 42 #[.int .i64 n] w fun e w' => e = .returned (.int .i64 (if inB n = true then 0 else 3)) ∧ w' = w) := fun w => numFault_any n w
  have HS : Hid (∀ w, Calls Tryz.prog 43 #[.string z] w fun e w' => e = .returned (.int .i64 (if symL z.data.toList = true then 0 else 5)) ∧ w' = w) := fun w => specSym_any z w hz
  subst h0
  go_enter Tryz.func23, Tryz.ntmps23
  go_wp2_with (first | (go_at_call 41; refine (l1In_any _ _ _ _).mono ?_; rintro e w' ⟨rfl, rfl⟩) | (go_at_call 42; refine (HN.out _).mono ?_; rintro e w' ⟨rfl, rfl⟩) | (go_at_call 43; refine (HS.out _).mono ?_; rintro e w' ⟨rfl, rfl⟩))
  all_goals
    go_ret
    exact ⟨rfl, rfl⟩
theorem fault_name4 (b o : Nat) (n : Int) (z : ByteArray) (w : World) (hz : z.size ≤ 9223372036854775807) (hm : (z.toList == []) = false) (h : TokAt b o ⟨4, n, z⟩ w) :
    Calls Tryz.prog 23 #[.pointer (some ⟨b, o, none⟩)] w fun e w' => e = .returned (.int .i64 1) ∧ w' = w := by
  obtain ⟨c0, c1, c2⟩ := h
  simp only at c0 c1 c2
  have HN : Hid (∀ w, Calls Tryz.prog 42 #[.int .i64 n] w fun e w' => e = .returned (.int .i64 (if inB n = true then 0 else 3)) ∧ w' = w) := fun w => numFault_any n w
  have HS : Hid (∀ w, Calls Tryz.prog 43 #[.string z] w fun e w' => e = .returned (.int .i64 (if symL z.data.toList = true then 0 else 5)) ∧ w' = w) := fun w => specSym_any z w hz
  go_enter Tryz.func23, Tryz.ntmps23
  go_wp2_with (first | (go_at_call 41; refine (l1In_any _ _ _ _).mono ?_; rintro e w' ⟨rfl, rfl⟩) | (go_at_call 42; refine (HN.out _).mono ?_; rintro e w' ⟨rfl, rfl⟩) | (go_at_call 43; refine (HS.out _).mono ?_; rintro e w' ⟨rfl, rfl⟩))
  all_goals
    go_ret
    exact ⟨rfl, rfl⟩
theorem fault_num4 (b o : Nat) (n : Int) (z : ByteArray) (w : World) (hz : z.size ≤ 9223372036854775807) (hm : (z.toList == []) = true) (h : TokAt b o ⟨4, n, z⟩ w) :
    Calls Tryz.prog 23 #[.pointer (some ⟨b, o, none⟩)] w fun e w' => e = .returned (.int .i64 (if inB n = true then 0 else 3)) ∧ w' = w := by
  obtain ⟨c0, c1, c2⟩ := h
  simp only at c0 c1 c2
  have HN : Hid (∀ w, Calls Tryz.prog 42 #[.int .i64 n] w fun e w' => e = .returned (.int .i64 (if inB n = true then 0 else 3)) ∧ w' = w) := fun w => numFault_any n w
  have HS : Hid (∀ w, Calls Tryz.prog 43 #[.string z] w fun e w' => e = .returned (.int .i64 (if symL z.data.toList = true then 0 else 5)) ∧ w' = w) := fun w => specSym_any z w hz
  go_enter Tryz.func23, Tryz.ntmps23
  go_wp2_with (first | (go_at_call 41; refine (l1In_any _ _ _ _).mono ?_; rintro e w' ⟨rfl, rfl⟩) | (go_at_call 42; refine (HN.out _).mono ?_; rintro e w' ⟨rfl, rfl⟩) | (go_at_call 43; refine (HS.out _).mono ?_; rintro e w' ⟨rfl, rfl⟩))
  all_goals
    go_ret
    exact ⟨rfl, rfl⟩
theorem fault_name5 (b o : Nat) (n : Int) (z : ByteArray) (w : World) (hz : z.size ≤ 9223372036854775807) (hm : (z.toList == []) = false) (h : TokAt b o ⟨5, n, z⟩ w) :
    Calls Tryz.prog 23 #[.pointer (some ⟨b, o, none⟩)] w fun e w' => e = .returned (.int .i64 1) ∧ w' = w := by
  obtain ⟨c0, c1, c2⟩ := h
  simp only at c0 c1 c2
  have HN : Hid (∀ w, Calls Tryz.prog 42 #[.int .i64 n] w fun e w' => e = .returned (.int .i64 (if inB n = true then 0 else 3)) ∧ w' = w) := fun w => numFault_any n w
  have HS : Hid (∀ w, Calls Tryz.prog 43 #[.string z] w fun e w' => e = .returned (.int .i64 (if symL z.data.toList = true then 0 else 5)) ∧ w' = w) := fun w => specSym_any z w hz
  go_enter Tryz.func23, Tryz.ntmps23
  go_wp2_with (first | (go_at_call 41; refine (l1In_any _ _ _ _).mono ?_; rintro e w' ⟨rfl, rfl⟩) | (go_at_call 42; refine (HN.out _).mono ?_; rintro e w' ⟨rfl, rfl⟩) | (go_at_call 43; refine (HS.out _).mono ?_; rintro e w' ⟨rfl, rfl⟩))
  all_goals
    go_ret
    exact ⟨rfl, rfl⟩
theorem fault_num5 (b o : Nat) (n : Int) (z : ByteArray) (w : World) (hz : z.size ≤ 9223372036854775807) (hm : (z.toList == []) = true) (hr : (decide (0 ≤ n) && decide (n ≤ 1)) = false) (h : TokAt b o ⟨5, n, z⟩ w) :
    Calls Tryz.prog 23 #[.pointer (some ⟨b, o, none⟩)] w fun e w' => e = .returned (.int .i64 3) ∧ w' = w := by
  obtain ⟨c0, c1, c2⟩ := h
  simp only at c0 c1 c2
  have HN : Hid (∀ w, Calls Tryz.prog 42 #[.int .i64 n] w fun e w' => e = .returned (.int .i64 (if inB n = true then 0 else 3)) ∧ w' = w) := fun w => numFault_any n w
  have HS : Hid (∀ w, Calls Tryz.prog 43 #[.string z] w fun e w' => e = .returned (.int .i64 (if symL z.data.toList = true then 0 else 5)) ∧ w' = w) := fun w => specSym_any z w hz
  go_enter Tryz.func23, Tryz.ntmps23
  go_wp2_with (first | (go_at_call 41; refine (l1In_any _ _ _ _).mono ?_; rintro e w' ⟨rfl, rfl⟩) | (go_at_call 42; refine (HN.out _).mono ?_; rintro e w' ⟨rfl, rfl⟩) | (go_at_call 43; refine (HS.out _).mono ?_; rintro e w' ⟨rfl, rfl⟩))
  all_goals
    go_ret
    exact ⟨rfl, rfl⟩
theorem fault_ok5 (b o : Nat) (n : Int) (z : ByteArray) (w : World) (hz : z.size ≤ 9223372036854775807) (hm : (z.toList == []) = true) (hr : (decide (0 ≤ n) && decide (n ≤ 1)) = true) (h : TokAt b o ⟨5, n, z⟩ w) :
    Calls Tryz.prog 23 #[.pointer (some ⟨b, o, none⟩)] w fun e w' => e = .returned (.int .i64 0) ∧ w' = w := by
  obtain ⟨c0, c1, c2⟩ := h
  simp only at c0 c1 c2
  have HN : Hid (∀ w, Calls Tryz.prog 42 #[.int .i64 n] w fun e w' => e = .returned (.int .i64 (if inB n = true then 0 else 3)) ∧ w' = w) := fun w => numFault_any n w
  have HS : Hid (∀ w, Calls Tryz.prog 43 #[.string z] w fun e w' => e = .returned (.int .i64 (if symL z.data.toList = true then 0 else 5)) ∧ w' = w) := fun w => specSym_any z w hz
  go_enter Tryz.func23, Tryz.ntmps23
  go_wp2_with (first | (go_at_call 41; refine (l1In_any _ _ _ _).mono ?_; rintro e w' ⟨rfl, rfl⟩) | (go_at_call 42; refine (HN.out _).mono ?_; rintro e w' ⟨rfl, rfl⟩) | (go_at_call 43; refine (HS.out _).mono ?_; rintro e w' ⟨rfl, rfl⟩))
  all_goals
    go_ret
    exact ⟨rfl, rfl⟩
theorem fault_num6 (b o : Nat) (n : Int) (z : ByteArray) (w : World) (hz : z.size ≤ 9223372036854775807) (hn : (n != 0) = true) (h : TokAt b o ⟨6, n, z⟩ w) :
    Calls Tryz.prog 23 #[.pointer (some ⟨b, o, none⟩)] w fun e w' => e = .returned (.int .i64 1) ∧ w' = w := by
  obtain ⟨c0, c1, c2⟩ := h
  simp only at c0 c1 c2
  have HN : Hid (∀ w, Calls Tryz.prog 42 #[.int .i64 n] w fun e w' => e = .returned (.int .i64 (if inB n = true then 0 else 3)) ∧ w' = w) := fun w => numFault_any n w
  have HS : Hid (∀ w, Calls Tryz.prog 43 #[.string z] w fun e w' => e = .returned (.int .i64 (if symL z.data.toList = true then 0 else 5)) ∧ w' = w) := fun w => specSym_any z w hz
  go_enter Tryz.func23, Tryz.ntmps23
  go_wp2_with (first | (go_at_call 41; refine (l1In_any _ _ _ _).mono ?_; rintro e w' ⟨rfl, rfl⟩) | (go_at_call 42; refine (HN.out _).mono ?_; rintro e w' ⟨rfl, rfl⟩) | (go_at_call 43; refine (HS.out _).mono ?_; rintro e w' ⟨rfl, rfl⟩))
  all_goals
    go_ret
    exact ⟨rfl, rfl⟩
theorem fault_sym6 (b o : Nat) (n : Int) (z : ByteArray) (w : World) (hz : z.size ≤ 9223372036854775807) (h0 : n = 0) (h : TokAt b o ⟨6, n, z⟩ w) :
    Calls Tryz.prog 23 #[.pointer (some ⟨b, o, none⟩)] w fun e w' => e = .returned (.int .i64 (if symL z.data.toList = true then 0 else 5)) ∧ w' = w := by
  obtain ⟨c0, c1, c2⟩ := h
  simp only at c0 c1 c2
  have HN : Hid (∀ w, Calls Tryz.prog 42 #[.int .i64 n] w fun e w' => e = .returned (.int .i64 (if inB n = true then 0 else 3)) ∧ w' = w) := fun w => numFault_any n w
  have HS : Hid (∀ w, Calls Tryz.prog 43 #[.string z] w fun e w' => e = .returned (.int .i64 (if symL z.data.toList = true then 0 else 5)) ∧ w' = w) := fun w => specSym_any z w hz
  subst h0
  go_enter Tryz.func23, Tryz.ntmps23
  go_wp2_with (first | (go_at_call 41; refine (l1In_any _ _ _ _).mono ?_; rintro e w' ⟨rfl, rfl⟩) | (go_at_call 42; refine (HN.out _).mono ?_; rintro e w' ⟨rfl, rfl⟩) | (go_at_call 43; refine (HS.out _).mono ?_; rintro e w' ⟨rfl, rfl⟩))
  all_goals
    go_ret
    exact ⟨rfl, rfl⟩
end Go.Proofs.YtnlfnicgfhfpfaaGreatDoor
