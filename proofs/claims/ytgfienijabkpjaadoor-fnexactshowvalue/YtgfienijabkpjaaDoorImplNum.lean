/-
  The program's NumFault, intAnswer and combine, and the five operations that combine is called with: what each answers at every argument; nothing that was there is turned.
-/
import Derived.Test.YtgfienijabkpjaaDoorSpecNum2
namespace Go.Proofs.YtgfienijabkpjaaDoor
open Go.RowKit Go.Extern.Stop Go.Stop Go.Extern Num

theorem intAnswer_nil (n : Int) (w : World) :
    Calls Tryd.prog 68 #[.int .i64 n, .nilIface] w fun e w' => e = .returned (IR 0 n) ∧ Below w.heap.size w w' := by
  go_enter Tryd.func68, Tryd.ntmps68
  go_wp2_with (first | (go_at_call 94; refine (numCode_nil _).mono ?_; rintro e w1 ⟨rfl, hq⟩; obtain ⟨hc, hf⟩ := bcell hq))
  exact bodyPost_ret (v := IR 0 n) (by simp [results, Tryd.results68, go_sem, hc]) rfl ⟨rfl, by
    repeat (first | exact Below.refl _ _ | refine Below.setCell ?_ (by simp) _ | refine Below.alloc ?_ (by simp <;> omega) _ | refine Below.trans ?_ (hq.mono (by simp)))⟩
theorem intAnswer_hit (n x : Int) (w : World) (hx : (x != 0) = true) (hE : ET w) :
    Calls Tryd.prog 68 #[.int .i64 n, .iface 144 (.agg #[.int .i64 x])] w fun e w' => e = .returned (IR x 0) ∧ Below w.heap.size w w' := by
  go_enter Tryd.func68, Tryd.ntmps68
  go_wp2_with (first | (go_at_call 94; refine (numCode_hit _ _ (hE.alloc _)).mono ?_; rintro e w1 ⟨rfl, hq⟩; obtain ⟨hc, hf⟩ := bcell hq))
  exact bodyPost_ret (v := IR x 0) (by simp [results, Tryd.results68, go_sem, hc]) rfl ⟨rfl, by
    repeat (first | exact Below.refl _ _ | refine Below.setCell ?_ (by simp) _ | refine Below.alloc ?_ (by simp <;> omega) _ | refine Below.trans ?_ (hq.mono (by simp)))⟩

theorem plus_in (a b : Int) (w : World) (a1 : -1000000000 ≤ a) (a2 : a ≤ 1000000000) (b1 : -1000000000 ≤ b) (b2 : b ≤ 1000000000) :
    Calls Tryd.prog 70 #[.int .i64 a, .int .i64 b] w fun e w' => e = .returned (.tuple #[.int .i64 (a + b), .nilIface]) ∧ w' = w := by
  go_enter Tryd.func70, Tryd.ntmps70
  go_wp2
  go_ret2
  exact ⟨rfl, rfl⟩
theorem minus_in (a b : Int) (w : World) (a1 : -1000000000 ≤ a) (a2 : a ≤ 1000000000) (b1 : -1000000000 ≤ b) (b2 : b ≤ 1000000000) :
    Calls Tryd.prog 71 #[.int .i64 a, .int .i64 b] w fun e w' => e = .returned (.tuple #[.int .i64 (a - b), .nilIface]) ∧ w' = w := by
  go_enter Tryd.func71, Tryd.ntmps71
  go_wp2
  go_ret2
  exact ⟨rfl, rfl⟩
theorem times_in (a b : Int) (w : World) (a1 : -1000000000 ≤ a) (a2 : a ≤ 1000000000) (b1 : -1000000000 ≤ b) (b2 : b ≤ 1000000000) :
    Calls Tryd.prog 72 #[.int .i64 a, .int .i64 b] w fun e w' => e = .returned (.tuple #[.int .i64 (a * b), .nilIface]) ∧ w' = w := by
  have m1 := mul_lo a b a1 a2 b1 b2; have m2 := mul_hi a b a1 a2 b1 b2
  go_enter Tryd.func72, Tryd.ntmps72
  go_wp2
  go_ret2
  exact ⟨rfl, rfl⟩
theorem ret_tup {a b : Int} (h : a = b) : Ending.returned (.tuple #[.int .i64 a, .nilIface]) = .returned (.tuple #[.int .i64 b, .nilIface]) := by rw [h]
theorem floorQ_zero (a : Int) (w : World) :
    Calls Tryd.prog 73 #[.int .i64 a, .int .i64 0] w fun e w' => e = .returned (.tuple #[.int .i64 0, .iface 144 (.agg #[.int .i64 7])]) ∧ w' = w := by
  go_enter Tryd.func73, Tryd.ntmps73
  go_wp2
  go_ret2
  exact ⟨rfl, rfl⟩
theorem floorQ_in (a b : Int) (w : World) (a1 : -1000000000 ≤ a) (a2 : a ≤ 1000000000) (b1 : -1000000000 ≤ b) (b2 : b ≤ 1000000000) (h0 : b ≠ 0) :
    Calls Tryd.prog 73 #[.int .i64 a, .int .i64 b] w fun e w' => e = .returned (.tuple #[.int .i64 (fq a b), .nilIface]) ∧ w' = w := by
  have d1 := (tdiv_bd a b a1 a2).1; have d2 := (tdiv_bd a b a1 a2).2
  have h0' : (b == 0) = false := by simp [h0]
  by_cases hm : a.tmod b = 0
  · go_enter Tryd.func73, Tryd.ntmps73
    go_wp2
    go_ret2
    exact ⟨ret_tup (fq_zero hm).symm, rfl⟩
  · have hm' : (a.tmod b != 0) = true := by simp [hm]
    by_cases n1 : a < 0 <;> by_cases n2 : b < 0
    · go_enter Tryd.func73, Tryd.ntmps73
      go_wp2
      go_ret2
      exact ⟨ret_tup (fq_same (by simp [n1, n2])).symm, rfl⟩
    · go_enter Tryd.func73, Tryd.ntmps73
      go_wp2
      go_ret2
      exact ⟨ret_tup (fq_apart hm (by simp [n1]; omega)).symm, rfl⟩
    · have hm2 : (a % b != 0) = true := by rw [← Int.tmod_eq_emod_of_nonneg (by omega)]; exact hm'
      go_enter Tryd.func73, Tryd.ntmps73
      go_wp2
      go_ret2
      exact ⟨ret_tup (fq_apart hm (by simp [n2]; omega)).symm, rfl⟩
    · have hm2 : (a % b != 0) = true := by rw [← Int.tmod_eq_emod_of_nonneg (by omega)]; exact hm'
      go_enter Tryd.func73, Tryd.ntmps73
      go_wp2
      go_ret2
      exact ⟨ret_tup (fq_same (by rw [decide_eq_false (by omega), decide_eq_false (by omega)])).symm, rfl⟩
theorem floorR_zero (a : Int) (w : World) :
    Calls Tryd.prog 74 #[.int .i64 a, .int .i64 0] w fun e w' => e = .returned (.tuple #[.int .i64 0, .iface 144 (.agg #[.int .i64 7])]) ∧ w' = w := by
  go_enter Tryd.func74, Tryd.ntmps74
  go_wp2_with (go_at_call 73; refine (floorQ_zero _ _).mono ?_; rintro e w' ⟨rfl, rfl⟩)
  go_ret2
  exact ⟨rfl, rfl⟩
theorem floorR_in (a b : Int) (w : World) (a1 : -1000000000 ≤ a) (a2 : a ≤ 1000000000) (b1 : -1000000000 ≤ b) (b2 : b ≤ 1000000000) (h0 : b ≠ 0) :
    Calls Tryd.prog 74 #[.int .i64 a, .int .i64 b] w fun e w' => e = .returned (.tuple #[.int .i64 (a - b * fq a b), .nilIface]) ∧ w' = w := by
  have m1 := (fqm_bd a b a1 a2 b1 b2).1; have m2 := (fqm_bd a b a1 a2 b1 b2).2
  go_enter Tryd.func74, Tryd.ntmps74
  go_wp2_with (go_at_call 73; refine (floorQ_in _ _ _ a1 a2 b1 b2 h0).mono ?_; rintro e w' ⟨rfl, rfl⟩)
  go_ret2
  exact ⟨rfl, rfl⟩
end Go.Proofs.YtgfienijabkpjaaDoor
