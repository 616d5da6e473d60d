/-
  The model's functions of chapter 1 on two numbers answer what the plain functions below tell, whatever the world; nothing that was there is turned.
-/
import Derived.Test.YtomkdofagjkfiaaDoorCodes
namespace Go.Proofs.YtomkdofagjkfiaaDoor
open Go.RowKit Go.Extern.Stop Go.Stop Go.Extern Num

/-- Behind a call that turned nothing old: all that was there reads as before. -/
theorem bcell {W w1 : World} (hb : Below W.heap.size W w1) : (∀ b o, b < W.heap.size → w1.cell? ⟨b, o, none⟩ = W.cell? ⟨b, o, none⟩) ∧ (∀ b o, b < W.heap.size → w1.frozen? ⟨b, o, none⟩ = W.frozen? ⟨b, o, none⟩) :=
  ⟨fun b o h => hb.cell (p := ⟨b, o, none⟩) h, fun b o h => hb.frozen (p := ⟨b, o, none⟩) h⟩
/-- An IntResult as a value. -/
abbrev IR (c v : Int) : Value := .agg #[.int .i64 c, .int .i64 v]

theorem l1In_any (v lo hi : Int) (w : World) :
    Calls Tryd.prog 61 #[.int .i64 v, .int .i64 lo, .int .i64 hi] w fun e w' => e = .returned (.bool (decide (lo ≤ v) && decide (v ≤ hi))) ∧ w' = w := by
  by_cases h1 : lo ≤ v
  · go_enter Tryd.func61, Tryd.ntmps61
    go_wp2
    go_ret
    exact ⟨by simp [h1], rfl⟩
  · go_enter Tryd.func61, Tryd.ntmps61
    go_wp2
    go_ret
    exact ⟨by simp; omega, rfl⟩
theorem l1Num_any (v : Int) (w : World) :
    Calls Tryd.prog 50 #[.int .i64 v] w fun e w' => e = .returned (.bool (inB v)) ∧ w' = w := by
  have he : inB v = (decide (-1000000000 ≤ v) && decide (v ≤ 1000000000)) := by simp [inB]
  rw [he]
  clear he
  go_enter Tryd.func50, Tryd.ntmps50
  go_wp2_with (go_at_call 61; refine (l1In_any _ _ _ _).mono ?_; rintro e w' ⟨rfl, rfl⟩)
  go_ret
  exact ⟨rfl, rfl⟩

theorem specFault_yes (n : Int) (w : World) (h : inB n = true) :
    Calls Tryd.prog 22 #[.int .i64 n] w fun e w' => e = .returned (.int .i64 0) ∧ w' = w := by
  go_enter Tryd.func22, Tryd.ntmps22
  go_wp2_with (go_at_call 50; refine (l1Num_any _ _).mono ?_; rintro e w' ⟨rfl, rfl⟩)
  go_ret
  exact ⟨rfl, rfl⟩
theorem specFault_no (n : Int) (w : World) (h : inB n = false) :
    Calls Tryd.prog 22 #[.int .i64 n] w fun e w' => e = .returned (.int .i64 3) ∧ w' = w := by
  go_enter Tryd.func22, Tryd.ntmps22
  go_wp2_with (go_at_call 50; refine (l1Num_any _ _).mono ?_; rintro e w' ⟨rfl, rfl⟩)
  go_ret
  exact ⟨rfl, rfl⟩
theorem l1Two_any (a b : Int) (w : World) :
    Calls Tryd.prog 47 #[.int .i64 a, .int .i64 b] w fun e w' => e = .returned (.bool (inB a && inB b)) ∧ w' = w := by
  cases h : inB a
  all_goals
    go_enter Tryd.func47, Tryd.ntmps47
    go_wp2_with (go_at_call 50; refine (l1Num_any _ _).mono ?_; rintro e w' ⟨rfl, rfl⟩)
    go_ret
    exact ⟨by simp, rfl⟩
theorem l1Of_yes (v : Int) (w : World) (h : inB v = true) :
    Calls Tryd.prog 48 #[.int .i64 v] w fun e w' => e = .returned (IR 0 v) ∧ Below w.heap.size w w' := by
  go_enter Tryd.func48, Tryd.ntmps48
  go_wp2_with (go_at_call 50; refine (l1Num_any _ _).mono ?_; rintro e w' ⟨rfl, rfl⟩)
  exact bodyPost_ret (v := IR 0 v) (by simp [results, Tryd.results48, go_sem]) rfl ⟨rfl, (Below.refl _ _).alloc (Nat.le_refl _) _⟩
theorem l1Of_no (v : Int) (w : World) (h : inB v = false) :
    Calls Tryd.prog 48 #[.int .i64 v] w fun e w' => e = .returned (IR 7 0) ∧ Below w.heap.size w w' := by
  go_enter Tryd.func48, Tryd.ntmps48
  go_wp2_with (go_at_call 50; refine (l1Num_any _ _).mono ?_; rintro e w' ⟨rfl, rfl⟩)
  exact bodyPost_ret (v := IR 7 0) (by simp [results, Tryd.results48, go_sem]) rfl ⟨rfl, (Below.refl _ _).alloc (Nat.le_refl _) _⟩

theorem mul_hi (a b : Int) (a1 : -1000000000 ≤ a) (a2 : a ≤ 1000000000) (b1 : -1000000000 ≤ b) (b2 : b ≤ 1000000000) : a * b ≤ 1000000000000000000 := by
  have h : a.natAbs * b.natAbs ≤ 1000000000 * 1000000000 := Nat.mul_le_mul (by omega) (by omega)
  have h2 : (a * b).natAbs ≤ 1000000000 * 1000000000 := by rw [Int.natAbs_mul]; exact h
  omega
theorem mul_lo (a b : Int) (a1 : -1000000000 ≤ a) (a2 : a ≤ 1000000000) (b1 : -1000000000 ≤ b) (b2 : b ≤ 1000000000) : -1000000000000000000 ≤ a * b := by
  have h : a.natAbs * b.natAbs ≤ 1000000000 * 1000000000 := Nat.mul_le_mul (by omega) (by omega)
  have h2 : (a * b).natAbs ≤ 1000000000 * 1000000000 := by rw [Int.natAbs_mul]; exact h
  omega
/-- The code and the value of a number that came of two right ones. -/
def oC (v : Int) : Int := if inB v = true then 0 else 7
def oV (v : Int) : Int := if inB v = true then v else 0
theorem l1Of_any (v : Int) (w : World) :
    Calls Tryd.prog 48 #[.int .i64 v] w fun e w' => e = .returned (IR (oC v) (oV v)) ∧ Below w.heap.size w w' := by
  cases h : inB v
  · have e1 : oC v = 7 := by simp [oC, h]
    have e2 : oV v = 0 := by simp [oV, h]
    rw [e1, e2]; exact l1Of_no v w h
  · have e1 : oC v = 0 := by simp [oC, h]
    have e2 : oV v = v := by simp [oV, h]
    rw [e1, e2]; exact l1Of_yes v w h
/-- A number's quotient, rounded down, as the program reckons it. -/
def fq (a b : Int) : Int := if a.tmod b ≠ 0 ∧ (decide (a < 0)) ≠ (decide (b < 0)) then a.tdiv b - 1 else a.tdiv b

theorem specAdd_range (a b : Int) (w : World) (h : (inB a && inB b) = false) :
    Calls Tryd.prog 20 #[.int .i64 a, .int .i64 b] w fun e w' => e = .returned (IR 3 0) ∧ Below w.heap.size w w' := by
  go_enter Tryd.func20, Tryd.ntmps20
  go_wp2_with (go_at_call 47; refine (l1Two_any _ _ _).mono ?_; rintro e w' ⟨rfl, rfl⟩)
  exact bodyPost_ret (v := IR 3 0) (by simp [results, Tryd.results20, go_sem]) rfl ⟨rfl, (Below.refl _ _).alloc (Nat.le_refl _) _⟩

theorem specSub_range (a b : Int) (w : World) (h : (inB a && inB b) = false) :
    Calls Tryd.prog 31 #[.int .i64 a, .int .i64 b] w fun e w' => e = .returned (IR 3 0) ∧ Below w.heap.size w w' := by
  go_enter Tryd.func31, Tryd.ntmps31
  go_wp2_with (go_at_call 47; refine (l1Two_any _ _ _).mono ?_; rintro e w' ⟨rfl, rfl⟩)
  exact bodyPost_ret (v := IR 3 0) (by simp [results, Tryd.results31, go_sem]) rfl ⟨rfl, (Below.refl _ _).alloc (Nat.le_refl _) _⟩

theorem specMul_range (a b : Int) (w : World) (h : (inB a && inB b) = false) :
    Calls Tryd.prog 32 #[.int .i64 a, .int .i64 b] w fun e w' => e = .returned (IR 3 0) ∧ Below w.heap.size w w' := by
  go_enter Tryd.func32, Tryd.ntmps32
  go_wp2_with (go_at_call 47; refine (l1Two_any _ _ _).mono ?_; rintro e w' ⟨rfl, rfl⟩)
  exact bodyPost_ret (v := IR 3 0) (by simp [results, Tryd.results32, go_sem]) rfl ⟨rfl, (Below.refl _ _).alloc (Nat.le_refl _) _⟩

theorem specQuo_range (a b : Int) (w : World) (h : (inB a && inB b) = false) :
    Calls Tryd.prog 26 #[.int .i64 a, .int .i64 b] w fun e w' => e = .returned (IR 3 0) ∧ Below w.heap.size w w' := by
  go_enter Tryd.func26, Tryd.ntmps26
  go_wp2_with (go_at_call 47; refine (l1Two_any _ _ _).mono ?_; rintro e w' ⟨rfl, rfl⟩)
  exact bodyPost_ret (v := IR 3 0) (by simp [results, Tryd.results26, go_sem]) rfl ⟨rfl, (Below.refl _ _).alloc (Nat.le_refl _) _⟩

theorem specRem_range (a b : Int) (w : World) (h : (inB a && inB b) = false) :
    Calls Tryd.prog 27 #[.int .i64 a, .int .i64 b] w fun e w' => e = .returned (IR 3 0) ∧ Below w.heap.size w w' := by
  go_enter Tryd.func27, Tryd.ntmps27
  go_wp2_with (go_at_call 47; refine (l1Two_any _ _ _).mono ?_; rintro e w' ⟨rfl, rfl⟩)
  exact bodyPost_ret (v := IR 3 0) (by simp [results, Tryd.results27, go_sem]) rfl ⟨rfl, (Below.refl _ _).alloc (Nat.le_refl _) _⟩

theorem specAdd_in (a b : Int) (w : World) (ha : inB a = true) (hb : inB b = true) :
    Calls Tryd.prog 20 #[.int .i64 a, .int .i64 b] w fun e w' => e = .returned (IR (oC (a + b)) (oV (a + b))) ∧ Below w.heap.size w w' := by
  have a1 := ((inB_iff a).1 ha).1; have a2 := ((inB_iff a).1 ha).2; have b1 := ((inB_iff b).1 hb).1; have b2 := ((inB_iff b).1 hb).2
  have h2 : (inB a && inB b) = true := by simp [ha, hb]
  clear ha hb
  go_enter Tryd.func20, Tryd.ntmps20
  go_wp2_with (first | (go_at_call 47; refine (l1Two_any _ _ _).mono ?_; rintro e w' ⟨rfl, rfl⟩) | (go_at_call 48; refine (l1Of_any _ _).mono ?_; rintro e w1 ⟨rfl, hq⟩; obtain ⟨hc, hf⟩ := bcell hq))
  exact bodyPost_ret (v := IR (oC (a + b)) (oV (a + b))) (by simp [results, Tryd.results20, go_sem, hc]) rfl ⟨rfl, by
    repeat (first | exact Below.refl _ _ | refine Below.setCell ?_ (by simp) _ | refine Below.alloc ?_ (by simp <;> omega) _ | refine Below.trans ?_ (hq.mono (by simp)))⟩

theorem specMul_in (a b : Int) (w : World) (ha : inB a = true) (hb : inB b = true) :
    Calls Tryd.prog 32 #[.int .i64 a, .int .i64 b] w fun e w' => e = .returned (IR (oC (a * b)) (oV (a * b))) ∧ Below w.heap.size w w' := by
  have a1 := ((inB_iff a).1 ha).1; have a2 := ((inB_iff a).1 ha).2; have b1 := ((inB_iff b).1 hb).1; have b2 := ((inB_iff b).1 hb).2
  have h2 : (inB a && inB b) = true := by simp [ha, hb]
  have m1 := mul_lo a b a1 a2 b1 b2; have m2 := mul_hi a b a1 a2 b1 b2
  clear ha hb
  go_enter Tryd.func32, Tryd.ntmps32
  go_wp2_with (first | (go_at_call 47; refine (l1Two_any _ _ _).mono ?_; rintro e w' ⟨rfl, rfl⟩) | (go_at_call 48; refine (l1Of_any _ _).mono ?_; rintro e w1 ⟨rfl, hq⟩; obtain ⟨hc, hf⟩ := bcell hq))
  exact bodyPost_ret (v := IR (oC (a * b)) (oV (a * b))) (by simp [results, Tryd.results32, go_sem, hc]) rfl ⟨rfl, by
    repeat (first | exact Below.refl _ _ | refine Below.setCell ?_ (by simp) _ | refine Below.alloc ?_ (by simp <;> omega) _ | refine Below.trans ?_ (hq.mono (by simp)))⟩

theorem ret_int {k : IntKind} {a b : Int} (h : a = b) : Ending.returned (.int k a) = .returned (.int k b) := by rw [h]
theorem tdiv_bd (a b : Int) (a1 : -1000000000 ≤ a) (a2 : a ≤ 1000000000) : -1000000000 ≤ a.tdiv b ∧ a.tdiv b ≤ 1000000000 := by
  have h : (a.tdiv b).natAbs ≤ a.natAbs := by rw [Int.natAbs_tdiv]; exact Nat.div_le_self _ _
  omega
theorem fq_zero {a b : Int} (h : a.tmod b = 0) : fq a b = a.tdiv b := by simp [fq, h]
theorem fq_same {a b : Int} (h : decide (a < 0) = decide (b < 0)) : fq a b = a.tdiv b := by simp [fq, h]
theorem fq_apart {a b : Int} (hm : ¬ a.tmod b = 0) (h : decide (a < 0) ≠ decide (b < 0)) : fq a b = a.tdiv b - 1 := by
  unfold fq; rw [if_pos ⟨hm, h⟩]

theorem l1Quo_any (a b : Int) (w : World) (ha : inB a = true) (hb : inB b = true) (h0 : b ≠ 0) :
    Calls Tryd.prog 53 #[.int .i64 a, .int .i64 b] w fun e w' => e = .returned (.int .i64 (fq a b)) ∧ w' = w := by
  have a1 := ((inB_iff a).1 ha).1; have a2 := ((inB_iff a).1 ha).2; have b1 := ((inB_iff b).1 hb).1; have b2 := ((inB_iff b).1 hb).2
  have d1 := (tdiv_bd a b a1 a2).1; have d2 := (tdiv_bd a b a1 a2).2
  clear ha hb
  by_cases hm : a.tmod b = 0
  · go_enter Tryd.func53, Tryd.ntmps53
    go_wp2
    go_ret
    exact ⟨ret_int (fq_zero hm).symm, rfl⟩
  · have hm' : (a.tmod b != 0) = true := by simp [hm]
    by_cases n1 : a < 0 <;> by_cases n2 : b < 0
    · go_enter Tryd.func53, Tryd.ntmps53
      go_wp2
      go_ret
      exact ⟨ret_int (fq_same (by simp [n1, n2])).symm, rfl⟩
    · go_enter Tryd.func53, Tryd.ntmps53
      go_wp2
      go_ret
      exact ⟨ret_int (fq_apart hm (by simp [n1]; omega)).symm, rfl⟩
    · have hm2 : (a % b != 0) = true := by rw [← Int.tmod_eq_emod_of_nonneg (by omega)]; exact hm'
      go_enter Tryd.func53, Tryd.ntmps53
      go_wp2
      go_ret
      exact ⟨ret_int (fq_apart hm (by simp [n2]; omega)).symm, rfl⟩
    · have hm2 : (a % b != 0) = true := by rw [← Int.tmod_eq_emod_of_nonneg (by omega)]; exact hm'
      go_enter Tryd.func53, Tryd.ntmps53
      go_wp2
      go_ret
      exact ⟨ret_int (fq_same (by rw [decide_eq_false (by omega), decide_eq_false (by omega)])).symm, rfl⟩
end Go.Proofs.YtomkdofagjkfiaaDoor
