/-
  The model's l5Placed and l5Fault: what is wrong with a value behind a pointer; nothing is turned.
-/
import Derived.Test.YtgfienijabkpjaaVMath
import Derived.Test.YtgfienijabkpjaaVBox
namespace Go.Proofs.Ytgfienijabkpjaa
open Go.RowKit Go.Extern.Stop Go.Stop Go.Extern Num Go.Lib

theorem l5Placed_any (k : Int) (w : World) :
    Calls Try.prog 71 #[.int .i64 k] w fun e w' => e = .returned (.bool (decide (5 ≤ k) && decide (k ≤ 8))) ∧ w' = w := by
  go_enter Try.func71, Try.ntmps71
  go_wp2_with (go_at_call 61; refine (l1In_any _ _ _ _).mono ?_; rintro e w' ⟨rfl, rfl⟩)
  go_ret
  exact ⟨rfl, rfl⟩
theorem vf_out (b o : Nat) (n : Int) (z : ByteArray) (w : World) (k : Int) (hz : z.size ≤ 9223372036854775807) (k19 : (decide (1 ≤ k) && decide (k ≤ 9)) = false) (k58 : (decide (5 ≤ k) && decide (k ≤ 8)) = false) (k1 : (k == 1) = false) (k2 : (k == 2) = false) (h : VluAt b o ⟨k, n, z⟩ w) :
    Calls Try.prog 42 #[.pointer (some ⟨b, o, none⟩)] w fun e w' => e = .returned (.int .i64 1) ∧ w' = w := by
  obtain ⟨c0, c1, c2⟩ := h
  simp only at c0 c1 c2
  have HS : Hid (∀ w, Calls Try.prog 73 #[.string z] w fun e w' => e = .returned (.bool (symL z.data.toList)) ∧ w' = w) := fun w => sym_any z w hz
  go_enter Try.func42, Try.ntmps42
  go_wp2_with (first | (go_at_call 61; refine (l1In_any _ _ _ _).mono ?_; rintro e w' ⟨rfl, rfl⟩) | (go_at_call 71; refine (l5Placed_any _ _).mono ?_; rintro e w' ⟨rfl, rfl⟩) | (go_at_call 72; refine (l1Num_any _ _).mono ?_; rintro e w' ⟨rfl, rfl⟩) | (go_at_call 73; refine (HS.out _).mono ?_; rintro e w' ⟨rfl, rfl⟩))
  all_goals
    go_ret
    exact ⟨rfl, rfl⟩
theorem vf_name1 (b o : Nat) (n : Int) (z : ByteArray) (w : World) (hz : z.size ≤ 9223372036854775807) (hm : (z.toList == []) = false) (h : VluAt b o ⟨1, n, z⟩ w) :
    Calls Try.prog 42 #[.pointer (some ⟨b, o, none⟩)] w fun e w' => e = .returned (.int .i64 1) ∧ w' = w := by
  obtain ⟨c0, c1, c2⟩ := h
  simp only at c0 c1 c2
  have HS : Hid (∀ w, Calls Try.prog 73 #[.string z] w fun e w' => e = .returned (.bool (symL z.data.toList)) ∧ w' = w) := fun w => sym_any z w hz
  go_enter Try.func42, Try.ntmps42
  go_wp2_with (first | (go_at_call 61; refine (l1In_any _ _ _ _).mono ?_; rintro e w' ⟨rfl, rfl⟩) | (go_at_call 71; refine (l5Placed_any _ _).mono ?_; rintro e w' ⟨rfl, rfl⟩) | (go_at_call 72; refine (l1Num_any _ _).mono ?_; rintro e w' ⟨rfl, rfl⟩) | (go_at_call 73; refine (HS.out _).mono ?_; rintro e w' ⟨rfl, rfl⟩))
  all_goals
    go_ret
    exact ⟨rfl, rfl⟩
theorem vf_no1 (b o : Nat) (n : Int) (z : ByteArray) (w : World) (hz : z.size ≤ 9223372036854775807) (hm : (z.toList == []) = true) (hr : inB n = false) (h : VluAt b o ⟨1, n, z⟩ w) :
    Calls Try.prog 42 #[.pointer (some ⟨b, o, none⟩)] w fun e w' => e = .returned (.int .i64 3) ∧ w' = w := by
  obtain ⟨c0, c1, c2⟩ := h
  simp only at c0 c1 c2
  have HS : Hid (∀ w, Calls Try.prog 73 #[.string z] w fun e w' => e = .returned (.bool (symL z.data.toList)) ∧ w' = w) := fun w => sym_any z w hz
  go_enter Try.func42, Try.ntmps42
  go_wp2_with (first | (go_at_call 61; refine (l1In_any _ _ _ _).mono ?_; rintro e w' ⟨rfl, rfl⟩) | (go_at_call 71; refine (l5Placed_any _ _).mono ?_; rintro e w' ⟨rfl, rfl⟩) | (go_at_call 72; refine (l1Num_any _ _).mono ?_; rintro e w' ⟨rfl, rfl⟩) | (go_at_call 73; refine (HS.out _).mono ?_; rintro e w' ⟨rfl, rfl⟩))
  all_goals
    go_ret
    exact ⟨rfl, rfl⟩
theorem vf_ok1 (b o : Nat) (n : Int) (z : ByteArray) (w : World) (hz : z.size ≤ 9223372036854775807) (hm : (z.toList == []) = true) (hr : inB n = true) (h : VluAt b o ⟨1, n, z⟩ w) :
    Calls Try.prog 42 #[.pointer (some ⟨b, o, none⟩)] w fun e w' => e = .returned (.int .i64 0) ∧ w' = w := by
  obtain ⟨c0, c1, c2⟩ := h
  simp only at c0 c1 c2
  have HS : Hid (∀ w, Calls Try.prog 73 #[.string z] w fun e w' => e = .returned (.bool (symL z.data.toList)) ∧ w' = w) := fun w => sym_any z w hz
  go_enter Try.func42, Try.ntmps42
  go_wp2_with (first | (go_at_call 61; refine (l1In_any _ _ _ _).mono ?_; rintro e w' ⟨rfl, rfl⟩) | (go_at_call 71; refine (l5Placed_any _ _).mono ?_; rintro e w' ⟨rfl, rfl⟩) | (go_at_call 72; refine (l1Num_any _ _).mono ?_; rintro e w' ⟨rfl, rfl⟩) | (go_at_call 73; refine (HS.out _).mono ?_; rintro e w' ⟨rfl, rfl⟩))
  all_goals
    go_ret
    exact ⟨rfl, rfl⟩
theorem vf_name2 (b o : Nat) (n : Int) (z : ByteArray) (w : World) (hz : z.size ≤ 9223372036854775807) (hm : (z.toList == []) = false) (h : VluAt b o ⟨2, n, z⟩ w) :
    Calls Try.prog 42 #[.pointer (some ⟨b, o, none⟩)] w fun e w' => e = .returned (.int .i64 1) ∧ w' = w := by
  obtain ⟨c0, c1, c2⟩ := h
  simp only at c0 c1 c2
  have HS : Hid (∀ w, Calls Try.prog 73 #[.string z] w fun e w' => e = .returned (.bool (symL z.data.toList)) ∧ w' = w) := fun w => sym_any z w hz
  go_enter Try.func42, Try.ntmps42
  go_wp2_with (first | (go_at_call 61; refine (l1In_any _ _ _ _).mono ?_; rintro e w' ⟨rfl, rfl⟩) | (go_at_call 71; refine (l5Placed_any _ _).mono ?_; rintro e w' ⟨rfl, rfl⟩) | (go_at_call 72; refine (l1Num_any _ _).mono ?_; rintro e w' ⟨rfl, rfl⟩) | (go_at_call 73; refine (HS.out _).mono ?_; rintro e w' ⟨rfl, rfl⟩))
  all_goals
    go_ret
    exact ⟨rfl, rfl⟩
theorem vf_no2 (b o : Nat) (n : Int) (z : ByteArray) (w : World) (hz : z.size ≤ 9223372036854775807) (hm : (z.toList == []) = true) (hr : (decide (0 ≤ n) && decide (n ≤ 1)) = false) (h : VluAt b o ⟨2, n, z⟩ w) :
    Calls Try.prog 42 #[.pointer (some ⟨b, o, none⟩)] w fun e w' => e = .returned (.int .i64 3) ∧ w' = w := by
  obtain ⟨c0, c1, c2⟩ := h
  simp only at c0 c1 c2
  have HS : Hid (∀ w, Calls Try.prog 73 #[.string z] w fun e w' => e = .returned (.bool (symL z.data.toList)) ∧ w' = w) := fun w => sym_any z w hz
  go_enter Try.func42, Try.ntmps42
  go_wp2_with (first | (go_at_call 61; refine (l1In_any _ _ _ _).mono ?_; rintro e w' ⟨rfl, rfl⟩) | (go_at_call 71; refine (l5Placed_any _ _).mono ?_; rintro e w' ⟨rfl, rfl⟩) | (go_at_call 72; refine (l1Num_any _ _).mono ?_; rintro e w' ⟨rfl, rfl⟩) | (go_at_call 73; refine (HS.out _).mono ?_; rintro e w' ⟨rfl, rfl⟩))
  all_goals
    go_ret
    exact ⟨rfl, rfl⟩
theorem vf_ok2 (b o : Nat) (n : Int) (z : ByteArray) (w : World) (hz : z.size ≤ 9223372036854775807) (hm : (z.toList == []) = true) (hr : (decide (0 ≤ n) && decide (n ≤ 1)) = true) (h : VluAt b o ⟨2, n, z⟩ w) :
    Calls Try.prog 42 #[.pointer (some ⟨b, o, none⟩)] w fun e w' => e = .returned (.int .i64 0) ∧ w' = w := by
  obtain ⟨c0, c1, c2⟩ := h
  simp only at c0 c1 c2
  have HS : Hid (∀ w, Calls Try.prog 73 #[.string z] w fun e w' => e = .returned (.bool (symL z.data.toList)) ∧ w' = w) := fun w => sym_any z w hz
  go_enter Try.func42, Try.ntmps42
  go_wp2_with (first | (go_at_call 61; refine (l1In_any _ _ _ _).mono ?_; rintro e w' ⟨rfl, rfl⟩) | (go_at_call 71; refine (l5Placed_any _ _).mono ?_; rintro e w' ⟨rfl, rfl⟩) | (go_at_call 72; refine (l1Num_any _ _).mono ?_; rintro e w' ⟨rfl, rfl⟩) | (go_at_call 73; refine (HS.out _).mono ?_; rintro e w' ⟨rfl, rfl⟩))
  all_goals
    go_ret
    exact ⟨rfl, rfl⟩
theorem vf_name5 (b o : Nat) (n : Int) (z : ByteArray) (w : World) (hz : z.size ≤ 9223372036854775807) (hm : (z.toList == []) = false) (h : VluAt b o ⟨5, n, z⟩ w) :
    Calls Try.prog 42 #[.pointer (some ⟨b, o, none⟩)] w fun e w' => e = .returned (.int .i64 1) ∧ w' = w := by
  obtain ⟨c0, c1, c2⟩ := h
  simp only at c0 c1 c2
  have HS : Hid (∀ w, Calls Try.prog 73 #[.string z] w fun e w' => e = .returned (.bool (symL z.data.toList)) ∧ w' = w) := fun w => sym_any z w hz
  go_enter Try.func42, Try.ntmps42
  go_wp2_with (first | (go_at_call 61; refine (l1In_any _ _ _ _).mono ?_; rintro e w' ⟨rfl, rfl⟩) | (go_at_call 71; refine (l5Placed_any _ _).mono ?_; rintro e w' ⟨rfl, rfl⟩) | (go_at_call 72; refine (l1Num_any _ _).mono ?_; rintro e w' ⟨rfl, rfl⟩) | (go_at_call 73; refine (HS.out _).mono ?_; rintro e w' ⟨rfl, rfl⟩))
  all_goals
    go_ret
    exact ⟨rfl, rfl⟩
theorem vf_no5 (b o : Nat) (n : Int) (z : ByteArray) (w : World) (hz : z.size ≤ 9223372036854775807) (hm : (z.toList == []) = true) (hr : (decide (0 ≤ n) && decide (n ≤ 99999)) = false) (h : VluAt b o ⟨5, n, z⟩ w) :
    Calls Try.prog 42 #[.pointer (some ⟨b, o, none⟩)] w fun e w' => e = .returned (.int .i64 3) ∧ w' = w := by
  obtain ⟨c0, c1, c2⟩ := h
  simp only at c0 c1 c2
  have HS : Hid (∀ w, Calls Try.prog 73 #[.string z] w fun e w' => e = .returned (.bool (symL z.data.toList)) ∧ w' = w) := fun w => sym_any z w hz
  go_enter Try.func42, Try.ntmps42
  go_wp2_with (first | (go_at_call 61; refine (l1In_any _ _ _ _).mono ?_; rintro e w' ⟨rfl, rfl⟩) | (go_at_call 71; refine (l5Placed_any _ _).mono ?_; rintro e w' ⟨rfl, rfl⟩) | (go_at_call 72; refine (l1Num_any _ _).mono ?_; rintro e w' ⟨rfl, rfl⟩) | (go_at_call 73; refine (HS.out _).mono ?_; rintro e w' ⟨rfl, rfl⟩))
  all_goals
    go_ret
    exact ⟨rfl, rfl⟩
theorem vf_ok5 (b o : Nat) (n : Int) (z : ByteArray) (w : World) (hz : z.size ≤ 9223372036854775807) (hm : (z.toList == []) = true) (hr : (decide (0 ≤ n) && decide (n ≤ 99999)) = true) (h : VluAt b o ⟨5, n, z⟩ w) :
    Calls Try.prog 42 #[.pointer (some ⟨b, o, none⟩)] w fun e w' => e = .returned (.int .i64 0) ∧ w' = w := by
  obtain ⟨c0, c1, c2⟩ := h
  simp only at c0 c1 c2
  have HS : Hid (∀ w, Calls Try.prog 73 #[.string z] w fun e w' => e = .returned (.bool (symL z.data.toList)) ∧ w' = w) := fun w => sym_any z w hz
  go_enter Try.func42, Try.ntmps42
  go_wp2_with (first | (go_at_call 61; refine (l1In_any _ _ _ _).mono ?_; rintro e w' ⟨rfl, rfl⟩) | (go_at_call 71; refine (l5Placed_any _ _).mono ?_; rintro e w' ⟨rfl, rfl⟩) | (go_at_call 72; refine (l1Num_any _ _).mono ?_; rintro e w' ⟨rfl, rfl⟩) | (go_at_call 73; refine (HS.out _).mono ?_; rintro e w' ⟨rfl, rfl⟩))
  all_goals
    go_ret
    exact ⟨rfl, rfl⟩
theorem vf_name6 (b o : Nat) (n : Int) (z : ByteArray) (w : World) (hz : z.size ≤ 9223372036854775807) (hm : (z.toList == []) = false) (h : VluAt b o ⟨6, n, z⟩ w) :
    Calls Try.prog 42 #[.pointer (some ⟨b, o, none⟩)] w fun e w' => e = .returned (.int .i64 1) ∧ w' = w := by
  obtain ⟨c0, c1, c2⟩ := h
  simp only at c0 c1 c2
  have HS : Hid (∀ w, Calls Try.prog 73 #[.string z] w fun e w' => e = .returned (.bool (symL z.data.toList)) ∧ w' = w) := fun w => sym_any z w hz
  go_enter Try.func42, Try.ntmps42
  go_wp2_with (first | (go_at_call 61; refine (l1In_any _ _ _ _).mono ?_; rintro e w' ⟨rfl, rfl⟩) | (go_at_call 71; refine (l5Placed_any _ _).mono ?_; rintro e w' ⟨rfl, rfl⟩) | (go_at_call 72; refine (l1Num_any _ _).mono ?_; rintro e w' ⟨rfl, rfl⟩) | (go_at_call 73; refine (HS.out _).mono ?_; rintro e w' ⟨rfl, rfl⟩))
  all_goals
    go_ret
    exact ⟨rfl, rfl⟩
theorem vf_no6 (b o : Nat) (n : Int) (z : ByteArray) (w : World) (hz : z.size ≤ 9223372036854775807) (hm : (z.toList == []) = true) (hr : (decide (0 ≤ n) && decide (n ≤ 99999)) = false) (h : VluAt b o ⟨6, n, z⟩ w) :
    Calls Try.prog 42 #[.pointer (some ⟨b, o, none⟩)] w fun e w' => e = .returned (.int .i64 3) ∧ w' = w := by
  obtain ⟨c0, c1, c2⟩ := h
  simp only at c0 c1 c2
  have HS : Hid (∀ w, Calls Try.prog 73 #[.string z] w fun e w' => e = .returned (.bool (symL z.data.toList)) ∧ w' = w) := fun w => sym_any z w hz
  go_enter Try.func42, Try.ntmps42
  go_wp2_with (first | (go_at_call 61; refine (l1In_any _ _ _ _).mono ?_; rintro e w' ⟨rfl, rfl⟩) | (go_at_call 71; refine (l5Placed_any _ _).mono ?_; rintro e w' ⟨rfl, rfl⟩) | (go_at_call 72; refine (l1Num_any _ _).mono ?_; rintro e w' ⟨rfl, rfl⟩) | (go_at_call 73; refine (HS.out _).mono ?_; rintro e w' ⟨rfl, rfl⟩))
  all_goals
    go_ret
    exact ⟨rfl, rfl⟩
theorem vf_ok6 (b o : Nat) (n : Int) (z : ByteArray) (w : World) (hz : z.size ≤ 9223372036854775807) (hm : (z.toList == []) = true) (hr : (decide (0 ≤ n) && decide (n ≤ 99999)) = true) (h : VluAt b o ⟨6, n, z⟩ w) :
    Calls Try.prog 42 #[.pointer (some ⟨b, o, none⟩)] w fun e w' => e = .returned (.int .i64 0) ∧ w' = w := by
  obtain ⟨c0, c1, c2⟩ := h
  simp only at c0 c1 c2
  have HS : Hid (∀ w, Calls Try.prog 73 #[.string z] w fun e w' => e = .returned (.bool (symL z.data.toList)) ∧ w' = w) := fun w => sym_any z w hz
  go_enter Try.func42, Try.ntmps42
  go_wp2_with (first | (go_at_call 61; refine (l1In_any _ _ _ _).mono ?_; rintro e w' ⟨rfl, rfl⟩) | (go_at_call 71; refine (l5Placed_any _ _).mono ?_; rintro e w' ⟨rfl, rfl⟩) | (go_at_call 72; refine (l1Num_any _ _).mono ?_; rintro e w' ⟨rfl, rfl⟩) | (go_at_call 73; refine (HS.out _).mono ?_; rintro e w' ⟨rfl, rfl⟩))
  all_goals
    go_ret
    exact ⟨rfl, rfl⟩
theorem vf_name7 (b o : Nat) (n : Int) (z : ByteArray) (w : World) (hz : z.size ≤ 9223372036854775807) (hm : (z.toList == []) = false) (h : VluAt b o ⟨7, n, z⟩ w) :
    Calls Try.prog 42 #[.pointer (some ⟨b, o, none⟩)] w fun e w' => e = .returned (.int .i64 1) ∧ w' = w := by
  obtain ⟨c0, c1, c2⟩ := h
  simp only at c0 c1 c2
  have HS : Hid (∀ w, Calls Try.prog 73 #[.string z] w fun e w' => e = .returned (.bool (symL z.data.toList)) ∧ w' = w) := fun w => sym_any z w hz
  go_enter Try.func42, Try.ntmps42
  go_wp2_with (first | (go_at_call 61; refine (l1In_any _ _ _ _).mono ?_; rintro e w' ⟨rfl, rfl⟩) | (go_at_call 71; refine (l5Placed_any _ _).mono ?_; rintro e w' ⟨rfl, rfl⟩) | (go_at_call 72; refine (l1Num_any _ _).mono ?_; rintro e w' ⟨rfl, rfl⟩) | (go_at_call 73; refine (HS.out _).mono ?_; rintro e w' ⟨rfl, rfl⟩))
  all_goals
    go_ret
    exact ⟨rfl, rfl⟩
theorem vf_no7 (b o : Nat) (n : Int) (z : ByteArray) (w : World) (hz : z.size ≤ 9223372036854775807) (hm : (z.toList == []) = true) (hr : (decide (0 ≤ n) && decide (n ≤ 99999)) = false) (h : VluAt b o ⟨7, n, z⟩ w) :
    Calls Try.prog 42 #[.pointer (some ⟨b, o, none⟩)] w fun e w' => e = .returned (.int .i64 3) ∧ w' = w := by
  obtain ⟨c0, c1, c2⟩ := h
  simp only at c0 c1 c2
  have HS : Hid (∀ w, Calls Try.prog 73 #[.string z] w fun e w' => e = .returned (.bool (symL z.data.toList)) ∧ w' = w) := fun w => sym_any z w hz
  go_enter Try.func42, Try.ntmps42
  go_wp2_with (first | (go_at_call 61; refine (l1In_any _ _ _ _).mono ?_; rintro e w' ⟨rfl, rfl⟩) | (go_at_call 71; refine (l5Placed_any _ _).mono ?_; rintro e w' ⟨rfl, rfl⟩) | (go_at_call 72; refine (l1Num_any _ _).mono ?_; rintro e w' ⟨rfl, rfl⟩) | (go_at_call 73; refine (HS.out _).mono ?_; rintro e w' ⟨rfl, rfl⟩))
  all_goals
    go_ret
    exact ⟨rfl, rfl⟩
theorem vf_ok7 (b o : Nat) (n : Int) (z : ByteArray) (w : World) (hz : z.size ≤ 9223372036854775807) (hm : (z.toList == []) = true) (hr : (decide (0 ≤ n) && decide (n ≤ 99999)) = true) (h : VluAt b o ⟨7, n, z⟩ w) :
    Calls Try.prog 42 #[.pointer (some ⟨b, o, none⟩)] w fun e w' => e = .returned (.int .i64 0) ∧ w' = w := by
  obtain ⟨c0, c1, c2⟩ := h
  simp only at c0 c1 c2
  have HS : Hid (∀ w, Calls Try.prog 73 #[.string z] w fun e w' => e = .returned (.bool (symL z.data.toList)) ∧ w' = w) := fun w => sym_any z w hz
  go_enter Try.func42, Try.ntmps42
  go_wp2_with (first | (go_at_call 61; refine (l1In_any _ _ _ _).mono ?_; rintro e w' ⟨rfl, rfl⟩) | (go_at_call 71; refine (l5Placed_any _ _).mono ?_; rintro e w' ⟨rfl, rfl⟩) | (go_at_call 72; refine (l1Num_any _ _).mono ?_; rintro e w' ⟨rfl, rfl⟩) | (go_at_call 73; refine (HS.out _).mono ?_; rintro e w' ⟨rfl, rfl⟩))
  all_goals
    go_ret
    exact ⟨rfl, rfl⟩
theorem vf_name8 (b o : Nat) (n : Int) (z : ByteArray) (w : World) (hz : z.size ≤ 9223372036854775807) (hm : (z.toList == []) = false) (h : VluAt b o ⟨8, n, z⟩ w) :
    Calls Try.prog 42 #[.pointer (some ⟨b, o, none⟩)] w fun e w' => e = .returned (.int .i64 1) ∧ w' = w := by
  obtain ⟨c0, c1, c2⟩ := h
  simp only at c0 c1 c2
  have HS : Hid (∀ w, Calls Try.prog 73 #[.string z] w fun e w' => e = .returned (.bool (symL z.data.toList)) ∧ w' = w) := fun w => sym_any z w hz
  go_enter Try.func42, Try.ntmps42
  go_wp2_with (first | (go_at_call 61; refine (l1In_any _ _ _ _).mono ?_; rintro e w' ⟨rfl, rfl⟩) | (go_at_call 71; refine (l5Placed_any _ _).mono ?_; rintro e w' ⟨rfl, rfl⟩) | (go_at_call 72; refine (l1Num_any _ _).mono ?_; rintro e w' ⟨rfl, rfl⟩) | (go_at_call 73; refine (HS.out _).mono ?_; rintro e w' ⟨rfl, rfl⟩))
  all_goals
    go_ret
    exact ⟨rfl, rfl⟩
theorem vf_no8 (b o : Nat) (n : Int) (z : ByteArray) (w : World) (hz : z.size ≤ 9223372036854775807) (hm : (z.toList == []) = true) (hr : (decide (0 ≤ n) && decide (n ≤ 99999)) = false) (h : VluAt b o ⟨8, n, z⟩ w) :
    Calls Try.prog 42 #[.pointer (some ⟨b, o, none⟩)] w fun e w' => e = .returned (.int .i64 3) ∧ w' = w := by
  obtain ⟨c0, c1, c2⟩ := h
  simp only at c0 c1 c2
  have HS : Hid (∀ w, Calls Try.prog 73 #[.string z] w fun e w' => e = .returned (.bool (symL z.data.toList)) ∧ w' = w) := fun w => sym_any z w hz
  go_enter Try.func42, Try.ntmps42
  go_wp2_with (first | (go_at_call 61; refine (l1In_any _ _ _ _).mono ?_; rintro e w' ⟨rfl, rfl⟩) | (go_at_call 71; refine (l5Placed_any _ _).mono ?_; rintro e w' ⟨rfl, rfl⟩) | (go_at_call 72; refine (l1Num_any _ _).mono ?_; rintro e w' ⟨rfl, rfl⟩) | (go_at_call 73; refine (HS.out _).mono ?_; rintro e w' ⟨rfl, rfl⟩))
  all_goals
    go_ret
    exact ⟨rfl, rfl⟩
theorem vf_ok8 (b o : Nat) (n : Int) (z : ByteArray) (w : World) (hz : z.size ≤ 9223372036854775807) (hm : (z.toList == []) = true) (hr : (decide (0 ≤ n) && decide (n ≤ 99999)) = true) (h : VluAt b o ⟨8, n, z⟩ w) :
    Calls Try.prog 42 #[.pointer (some ⟨b, o, none⟩)] w fun e w' => e = .returned (.int .i64 0) ∧ w' = w := by
  obtain ⟨c0, c1, c2⟩ := h
  simp only at c0 c1 c2
  have HS : Hid (∀ w, Calls Try.prog 73 #[.string z] w fun e w' => e = .returned (.bool (symL z.data.toList)) ∧ w' = w) := fun w => sym_any z w hz
  go_enter Try.func42, Try.ntmps42
  go_wp2_with (first | (go_at_call 61; refine (l1In_any _ _ _ _).mono ?_; rintro e w' ⟨rfl, rfl⟩) | (go_at_call 71; refine (l5Placed_any _ _).mono ?_; rintro e w' ⟨rfl, rfl⟩) | (go_at_call 72; refine (l1Num_any _ _).mono ?_; rintro e w' ⟨rfl, rfl⟩) | (go_at_call 73; refine (HS.out _).mono ?_; rintro e w' ⟨rfl, rfl⟩))
  all_goals
    go_ret
    exact ⟨rfl, rfl⟩
theorem vf_num3 (b o : Nat) (n : Int) (z : ByteArray) (w : World) (hz : z.size ≤ 9223372036854775807) (hn : (n != 0) = true) (h : VluAt b o ⟨3, n, z⟩ w) :
    Calls Try.prog 42 #[.pointer (some ⟨b, o, none⟩)] w fun e w' => e = .returned (.int .i64 1) ∧ w' = w := by
  obtain ⟨c0, c1, c2⟩ := h
  simp only at c0 c1 c2
  have HS : Hid (∀ w, Calls Try.prog 73 #[.string z] w fun e w' => e = .returned (.bool (symL z.data.toList)) ∧ w' = w) := fun w => sym_any z w hz
  go_enter Try.func42, Try.ntmps42
  go_wp2_with (first | (go_at_call 61; refine (l1In_any _ _ _ _).mono ?_; rintro e w' ⟨rfl, rfl⟩) | (go_at_call 71; refine (l5Placed_any _ _).mono ?_; rintro e w' ⟨rfl, rfl⟩) | (go_at_call 72; refine (l1Num_any _ _).mono ?_; rintro e w' ⟨rfl, rfl⟩) | (go_at_call 73; refine (HS.out _).mono ?_; rintro e w' ⟨rfl, rfl⟩))
  all_goals
    go_ret
    exact ⟨rfl, rfl⟩
theorem vf_name3 (b o : Nat) (n : Int) (z : ByteArray) (w : World) (hz : z.size ≤ 9223372036854775807) (h0 : n = 0) (hm : (z.toList == []) = false) (h : VluAt b o ⟨3, n, z⟩ w) :
    Calls Try.prog 42 #[.pointer (some ⟨b, o, none⟩)] w fun e w' => e = .returned (.int .i64 1) ∧ w' = w := by
  obtain ⟨c0, c1, c2⟩ := h
  simp only at c0 c1 c2
  have HS : Hid (∀ w, Calls Try.prog 73 #[.string z] w fun e w' => e = .returned (.bool (symL z.data.toList)) ∧ w' = w) := fun w => sym_any z w hz
  subst h0
  go_enter Try.func42, Try.ntmps42
  go_wp2_with (first | (go_at_call 61; refine (l1In_any _ _ _ _).mono ?_; rintro e w' ⟨rfl, rfl⟩) | (go_at_call 71; refine (l5Placed_any _ _).mono ?_; rintro e w' ⟨rfl, rfl⟩) | (go_at_call 72; refine (l1Num_any _ _).mono ?_; rintro e w' ⟨rfl, rfl⟩) | (go_at_call 73; refine (HS.out _).mono ?_; rintro e w' ⟨rfl, rfl⟩))
  all_goals
    go_ret
    exact ⟨rfl, rfl⟩
theorem vf_ok3 (b o : Nat) (n : Int) (z : ByteArray) (w : World) (hz : z.size ≤ 9223372036854775807) (h0 : n = 0) (hm : (z.toList == []) = true) (h : VluAt b o ⟨3, n, z⟩ w) :
    Calls Try.prog 42 #[.pointer (some ⟨b, o, none⟩)] w fun e w' => e = .returned (.int .i64 0) ∧ w' = w := by
  obtain ⟨c0, c1, c2⟩ := h
  simp only at c0 c1 c2
  have HS : Hid (∀ w, Calls Try.prog 73 #[.string z] w fun e w' => e = .returned (.bool (symL z.data.toList)) ∧ w' = w) := fun w => sym_any z w hz
  subst h0
  go_enter Try.func42, Try.ntmps42
  go_wp2_with (first | (go_at_call 61; refine (l1In_any _ _ _ _).mono ?_; rintro e w' ⟨rfl, rfl⟩) | (go_at_call 71; refine (l5Placed_any _ _).mono ?_; rintro e w' ⟨rfl, rfl⟩) | (go_at_call 72; refine (l1Num_any _ _).mono ?_; rintro e w' ⟨rfl, rfl⟩) | (go_at_call 73; refine (HS.out _).mono ?_; rintro e w' ⟨rfl, rfl⟩))
  all_goals
    go_ret
    exact ⟨rfl, rfl⟩
theorem vf_num9 (b o : Nat) (n : Int) (z : ByteArray) (w : World) (hz : z.size ≤ 9223372036854775807) (hn : (n != 0) = true) (h : VluAt b o ⟨9, n, z⟩ w) :
    Calls Try.prog 42 #[.pointer (some ⟨b, o, none⟩)] w fun e w' => e = .returned (.int .i64 1) ∧ w' = w := by
  obtain ⟨c0, c1, c2⟩ := h
  simp only at c0 c1 c2
  have HS : Hid (∀ w, Calls Try.prog 73 #[.string z] w fun e w' => e = .returned (.bool (symL z.data.toList)) ∧ w' = w) := fun w => sym_any z w hz
  go_enter Try.func42, Try.ntmps42
  go_wp2_with (first | (go_at_call 61; refine (l1In_any _ _ _ _).mono ?_; rintro e w' ⟨rfl, rfl⟩) | (go_at_call 71; refine (l5Placed_any _ _).mono ?_; rintro e w' ⟨rfl, rfl⟩) | (go_at_call 72; refine (l1Num_any _ _).mono ?_; rintro e w' ⟨rfl, rfl⟩) | (go_at_call 73; refine (HS.out _).mono ?_; rintro e w' ⟨rfl, rfl⟩))
  all_goals
    go_ret
    exact ⟨rfl, rfl⟩
theorem vf_name9 (b o : Nat) (n : Int) (z : ByteArray) (w : World) (hz : z.size ≤ 9223372036854775807) (h0 : n = 0) (hm : (z.toList == []) = false) (h : VluAt b o ⟨9, n, z⟩ w) :
    Calls Try.prog 42 #[.pointer (some ⟨b, o, none⟩)] w fun e w' => e = .returned (.int .i64 1) ∧ w' = w := by
  obtain ⟨c0, c1, c2⟩ := h
  simp only at c0 c1 c2
  have HS : Hid (∀ w, Calls Try.prog 73 #[.string z] w fun e w' => e = .returned (.bool (symL z.data.toList)) ∧ w' = w) := fun w => sym_any z w hz
  subst h0
  go_enter Try.func42, Try.ntmps42
  go_wp2_with (first | (go_at_call 61; refine (l1In_any _ _ _ _).mono ?_; rintro e w' ⟨rfl, rfl⟩) | (go_at_call 71; refine (l5Placed_any _ _).mono ?_; rintro e w' ⟨rfl, rfl⟩) | (go_at_call 72; refine (l1Num_any _ _).mono ?_; rintro e w' ⟨rfl, rfl⟩) | (go_at_call 73; refine (HS.out _).mono ?_; rintro e w' ⟨rfl, rfl⟩))
  all_goals
    go_ret
    exact ⟨rfl, rfl⟩
theorem vf_ok9 (b o : Nat) (n : Int) (z : ByteArray) (w : World) (hz : z.size ≤ 9223372036854775807) (h0 : n = 0) (hm : (z.toList == []) = true) (h : VluAt b o ⟨9, n, z⟩ w) :
    Calls Try.prog 42 #[.pointer (some ⟨b, o, none⟩)] w fun e w' => e = .returned (.int .i64 0) ∧ w' = w := by
  obtain ⟨c0, c1, c2⟩ := h
  simp only at c0 c1 c2
  have HS : Hid (∀ w, Calls Try.prog 73 #[.string z] w fun e w' => e = .returned (.bool (symL z.data.toList)) ∧ w' = w) := fun w => sym_any z w hz
  subst h0
  go_enter Try.func42, Try.ntmps42
  go_wp2_with (first | (go_at_call 61; refine (l1In_any _ _ _ _).mono ?_; rintro e w' ⟨rfl, rfl⟩) | (go_at_call 71; refine (l5Placed_any _ _).mono ?_; rintro e w' ⟨rfl, rfl⟩) | (go_at_call 72; refine (l1Num_any _ _).mono ?_; rintro e w' ⟨rfl, rfl⟩) | (go_at_call 73; refine (HS.out _).mono ?_; rintro e w' ⟨rfl, rfl⟩))
  all_goals
    go_ret
    exact ⟨rfl, rfl⟩
theorem vf_num4 (b o : Nat) (n : Int) (z : ByteArray) (w : World) (hz : z.size ≤ 9223372036854775807) (hn : (n != 0) = true) (h : VluAt b o ⟨4, n, z⟩ w) :
    Calls Try.prog 42 #[.pointer (some ⟨b, o, none⟩)] w fun e w' => e = .returned (.int .i64 1) ∧ w' = w := by
  obtain ⟨c0, c1, c2⟩ := h
  simp only at c0 c1 c2
  have HS : Hid (∀ w, Calls Try.prog 73 #[.string z] w fun e w' => e = .returned (.bool (symL z.data.toList)) ∧ w' = w) := fun w => sym_any z w hz
  go_enter Try.func42, Try.ntmps42
  go_wp2_with (first | (go_at_call 61; refine (l1In_any _ _ _ _).mono ?_; rintro e w' ⟨rfl, rfl⟩) | (go_at_call 71; refine (l5Placed_any _ _).mono ?_; rintro e w' ⟨rfl, rfl⟩) | (go_at_call 72; refine (l1Num_any _ _).mono ?_; rintro e w' ⟨rfl, rfl⟩) | (go_at_call 73; refine (HS.out _).mono ?_; rintro e w' ⟨rfl, rfl⟩))
  all_goals
    go_ret
    exact ⟨rfl, rfl⟩
theorem vf_no4 (b o : Nat) (n : Int) (z : ByteArray) (w : World) (hz : z.size ≤ 9223372036854775807) (h0 : n = 0) (hy : symL z.data.toList = false) (h : VluAt b o ⟨4, n, z⟩ w) :
    Calls Try.prog 42 #[.pointer (some ⟨b, o, none⟩)] w fun e w' => e = .returned (.int .i64 5) ∧ w' = w := by
  obtain ⟨c0, c1, c2⟩ := h
  simp only at c0 c1 c2
  have HS : Hid (∀ w, Calls Try.prog 73 #[.string z] w fun e w' => e = .returned (.bool (symL z.data.toList)) ∧ w' = w) := fun w => sym_any z w hz
  subst h0
  go_enter Try.func42, Try.ntmps42
  go_wp2_with (first | (go_at_call 61; refine (l1In_any _ _ _ _).mono ?_; rintro e w' ⟨rfl, rfl⟩) | (go_at_call 71; refine (l5Placed_any _ _).mono ?_; rintro e w' ⟨rfl, rfl⟩) | (go_at_call 72; refine (l1Num_any _ _).mono ?_; rintro e w' ⟨rfl, rfl⟩) | (go_at_call 73; refine (HS.out _).mono ?_; rintro e w' ⟨rfl, rfl⟩))
  all_goals
    go_ret
    exact ⟨rfl, rfl⟩
theorem vf_ok4 (b o : Nat) (n : Int) (z : ByteArray) (w : World) (hz : z.size ≤ 9223372036854775807) (h0 : n = 0) (hy : symL z.data.toList = true) (h : VluAt b o ⟨4, n, z⟩ w) :
    Calls Try.prog 42 #[.pointer (some ⟨b, o, none⟩)] w fun e w' => e = .returned (.int .i64 0) ∧ w' = w := by
  obtain ⟨c0, c1, c2⟩ := h
  simp only at c0 c1 c2
  have HS : Hid (∀ w, Calls Try.prog 73 #[.string z] w fun e w' => e = .returned (.bool (symL z.data.toList)) ∧ w' = w) := fun w => sym_any z w hz
  subst h0
  go_enter Try.func42, Try.ntmps42
  go_wp2_with (first | (go_at_call 61; refine (l1In_any _ _ _ _).mono ?_; rintro e w' ⟨rfl, rfl⟩) | (go_at_call 71; refine (l5Placed_any _ _).mono ?_; rintro e w' ⟨rfl, rfl⟩) | (go_at_call 72; refine (l1Num_any _ _).mono ?_; rintro e w' ⟨rfl, rfl⟩) | (go_at_call 73; refine (HS.out _).mono ?_; rintro e w' ⟨rfl, rfl⟩))
  all_goals
    go_ret
    exact ⟨rfl, rfl⟩
theorem l5Fault_any (b o : Nat) (t : Vlu) (w : World) (hz : t.name.size ≤ 9223372036854775807) (h : VluAt b o t w) :
    Calls Try.prog 42 #[.pointer (some ⟨b, o, none⟩)] w fun e w' => e = .returned (.int .i64 (vfault t)) ∧ w' = w := by
  obtain ⟨k, n, z⟩ := t
  simp only at hz
  rcases vkinds k with rfl | rfl | rfl | rfl | rfl | rfl | rfl | rfl | rfl | hk
  · cases hm : (z.toList == [])
    · have hm' := (name_not z).1 hm
      have e : vfault ⟨1, n, z⟩ = 1 := by simp [vfault, hm']
      rw [e]; exact vf_name1 b o n z w hz hm h
    · have hm' := (name_nil z).1 hm
      cases hr : inB n
      · have e : vfault ⟨1, n, z⟩ = 3 := by simp [vfault, hm', hr]
        rw [e]; exact vf_no1 b o n z w hz hm hr h
      · have e : vfault ⟨1, n, z⟩ = 0 := by simp [vfault, hm', hr]
        rw [e]; exact vf_ok1 b o n z w hz hm hr h
  · cases hm : (z.toList == [])
    · have hm' := (name_not z).1 hm
      have e : vfault ⟨2, n, z⟩ = 1 := by simp [vfault, hm']
      rw [e]; exact vf_name2 b o n z w hz hm h
    · have hm' := (name_nil z).1 hm
      cases hr : (decide (0 ≤ n) && decide (n ≤ 1))
      · have e : vfault ⟨2, n, z⟩ = 3 := by
          have : ¬ (0 ≤ n ∧ n ≤ 1) := by simpa [Bool.and_eq_false_iff] using hr
          simp [vfault, hm', this]
        rw [e]; exact vf_no2 b o n z w hz hm hr h
      · have e : vfault ⟨2, n, z⟩ = 0 := by
          have : 0 ≤ n ∧ n ≤ 1 := by simpa using hr
          simp [vfault, hm', this]
        rw [e]; exact vf_ok2 b o n z w hz hm hr h
  · by_cases h0 : n = 0
    · cases hm : (z.toList == [])
      · have hm' := (name_not z).1 hm
        have e : vfault ⟨3, n, z⟩ = 1 := by simp [vfault, hm']
        rw [e]; exact vf_name3 b o n z w hz h0 hm h
      · have hm' := (name_nil z).1 hm
        have e : vfault ⟨3, n, z⟩ = 0 := by simp [vfault, hm', h0]
        rw [e]; exact vf_ok3 b o n z w hz h0 hm h
    · have e : vfault ⟨3, n, z⟩ = 1 := by simp [vfault, h0]
      rw [e]; exact vf_num3 b o n z w hz (by simpa using h0) h
  · by_cases h0 : n = 0
    · cases hy : symL z.data.toList
      · have e : vfault ⟨4, n, z⟩ = 5 := by simp [vfault, h0, hy]
        rw [e]; exact vf_no4 b o n z w hz h0 hy h
      · have e : vfault ⟨4, n, z⟩ = 0 := by simp [vfault, h0, hy]
        rw [e]; exact vf_ok4 b o n z w hz h0 hy h
    · have e : vfault ⟨4, n, z⟩ = 1 := by simp [vfault, h0]
      rw [e]; exact vf_num4 b o n z w hz (by simpa using h0) h
  · cases hm : (z.toList == [])
    · have hm' := (name_not z).1 hm
      have e : vfault ⟨5, n, z⟩ = 1 := by simp [vfault, hm']
      rw [e]; exact vf_name5 b o n z w hz hm h
    · have hm' := (name_nil z).1 hm
      cases hr : (decide (0 ≤ n) && decide (n ≤ 99999))
      · have e : vfault ⟨5, n, z⟩ = 3 := by
          have : ¬ (0 ≤ n ∧ n ≤ 99999) := by simpa [Bool.and_eq_false_iff] using hr
          simp [vfault, hm', this]
        rw [e]; exact vf_no5 b o n z w hz hm hr h
      · have e : vfault ⟨5, n, z⟩ = 0 := by
          have : 0 ≤ n ∧ n ≤ 99999 := by simpa using hr
          simp [vfault, hm', this]
        rw [e]; exact vf_ok5 b o n z w hz hm hr h
  · cases hm : (z.toList == [])
    · have hm' := (name_not z).1 hm
      have e : vfault ⟨6, n, z⟩ = 1 := by simp [vfault, hm']
      rw [e]; exact vf_name6 b o n z w hz hm h
    · have hm' := (name_nil z).1 hm
      cases hr : (decide (0 ≤ n) && decide (n ≤ 99999))
      · have e : vfault ⟨6, n, z⟩ = 3 := by
          have : ¬ (0 ≤ n ∧ n ≤ 99999) := by simpa [Bool.and_eq_false_iff] using hr
          simp [vfault, hm', this]
        rw [e]; exact vf_no6 b o n z w hz hm hr h
      · have e : vfault ⟨6, n, z⟩ = 0 := by
          have : 0 ≤ n ∧ n ≤ 99999 := by simpa using hr
          simp [vfault, hm', this]
        rw [e]; exact vf_ok6 b o n z w hz hm hr h
  · cases hm : (z.toList == [])
    · have hm' := (name_not z).1 hm
      have e : vfault ⟨7, n, z⟩ = 1 := by simp [vfault, hm']
      rw [e]; exact vf_name7 b o n z w hz hm h
    · have hm' := (name_nil z).1 hm
      cases hr : (decide (0 ≤ n) && decide (n ≤ 99999))
      · have e : vfault ⟨7, n, z⟩ = 3 := by
          have : ¬ (0 ≤ n ∧ n ≤ 99999) := by simpa [Bool.and_eq_false_iff] using hr
          simp [vfault, hm', this]
        rw [e]; exact vf_no7 b o n z w hz hm hr h
      · have e : vfault ⟨7, n, z⟩ = 0 := by
          have : 0 ≤ n ∧ n ≤ 99999 := by simpa using hr
          simp [vfault, hm', this]
        rw [e]; exact vf_ok7 b o n z w hz hm hr h
  · cases hm : (z.toList == [])
    · have hm' := (name_not z).1 hm
      have e : vfault ⟨8, n, z⟩ = 1 := by simp [vfault, hm']
      rw [e]; exact vf_name8 b o n z w hz hm h
    · have hm' := (name_nil z).1 hm
      cases hr : (decide (0 ≤ n) && decide (n ≤ 99999))
      · have e : vfault ⟨8, n, z⟩ = 3 := by
          have : ¬ (0 ≤ n ∧ n ≤ 99999) := by simpa [Bool.and_eq_false_iff] using hr
          simp [vfault, hm', this]
        rw [e]; exact vf_no8 b o n z w hz hm hr h
      · have e : vfault ⟨8, n, z⟩ = 0 := by
          have : 0 ≤ n ∧ n ≤ 99999 := by simpa using hr
          simp [vfault, hm', this]
        rw [e]; exact vf_ok8 b o n z w hz hm hr h
  · by_cases h0 : n = 0
    · cases hm : (z.toList == [])
      · have hm' := (name_not z).1 hm
        have e : vfault ⟨9, n, z⟩ = 1 := by simp [vfault, hm']
        rw [e]; exact vf_name9 b o n z w hz h0 hm h
      · have hm' := (name_nil z).1 hm
        have e : vfault ⟨9, n, z⟩ = 0 := by simp [vfault, hm', h0]
        rw [e]; exact vf_ok9 b o n z w hz h0 hm h
    · have e : vfault ⟨9, n, z⟩ = 1 := by simp [vfault, h0]
      rw [e]; exact vf_num9 b o n z w hz (by simpa using h0) h
  · have e : vfault ⟨k, n, z⟩ = 1 := by simp only [vfault]; rw [if_pos hk]
    obtain ⟨k19, k58, k1, k2, _⟩ := vout k hk
    rw [e]; exact vf_out b o n z w k hz k19 k58 k1 k2 h
end Go.Proofs.Ytgfienijabkpjaa
