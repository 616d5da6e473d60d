/-
  A quotient that is rounded down and its rest: the rest is nearer to 0 than what is divided by, on its side, and both make the number again; what the program answers of them.
-/
import Derived.Test.YtomkdofagjkfiaaDoorDraw3
import Derived.Test.YtomkdofagjkfiaaDoorComb
import Derived.Test.YtomkdofagjkfiaaDoorRegion
namespace Go.Proofs.YtomkdofagjkfiaaDoor
open Go.RowKit Go.Extern.Stop Go.Stop Go.Extern Num

theorem tmod_bd (a b : Int) (h0 : b ≠ 0) : (a.tmod b).natAbs < b.natAbs := by
  rw [Int.natAbs_tmod]; exact Nat.mod_lt _ (by omega)
theorem tmod_sg (a b : Int) : (0 ≤ a → 0 ≤ a.tmod b) ∧ (a ≤ 0 → a.tmod b ≤ 0) := by
  refine ⟨fun h => Int.tmod_nonneg b h, fun h => ?_⟩
  have := Int.tmod_nonneg b (a := -a) (by omega)
  rw [Int.neg_tmod] at this
  omega
/-- The rest is nearer to 0 than what is divided by, on its side. -/
theorem rest_near (a b : Int) (h0 : b ≠ 0) : (0 < b → 0 ≤ a - b * fq a b ∧ a - b * fq a b < b) ∧ (b < 0 → a - b * fq a b ≤ 0 ∧ b < a - b * fq a b) := by
  have hd : a - b * a.tdiv b = a.tmod b := (Int.tmod_def a b).symm
  have hb := tmod_bd a b h0
  have hs := tmod_sg a b
  by_cases hm : a.tmod b = 0
  · rw [fq_zero hm, hd]; omega
  · by_cases hs2 : decide (a < 0) = decide (b < 0)
    · rw [fq_same hs2, hd]
      have : (a < 0) ↔ (b < 0) := by simpa using hs2
      omega
    · rw [fq_apart hm hs2]
      have e : a - b * (a.tdiv b - 1) = a.tmod b + b := by rw [Int.mul_sub, Int.mul_one]; omega
      rw [e]
      have : ¬ ((a < 0) ↔ (b < 0)) := by simpa using hs2
      omega
theorem inB_rest (a b : Int) (h0 : b ≠ 0) (hb : inB b = true) : inB (a - b * fq a b) = true := by
  have h := rest_near a b h0
  rw [inB_iff] at hb ⊢
  omega
theorem inB_fq (a b : Int) (h0 : b ≠ 0) (ha : inB a = true) : inB (fq a b) = true := by
  rw [inB_iff] at ha ⊢
  have h := tdiv_bd a b ha.1 ha.2
  by_cases hm : a.tmod b = 0
  · rw [fq_zero hm]; exact h
  · by_cases hs2 : decide (a < 0) = decide (b < 0)
    · rw [fq_same hs2]; exact h
    · rw [fq_apart hm hs2]
      have h1 : (a.tdiv b).natAbs = a.natAbs / b.natAbs := Int.natAbs_tdiv a b
      have h2 : b.natAbs ≠ 1 := by
        intro e
        have := tmod_bd a b h0
        rw [e] at this
        omega
      have h3 : a.natAbs / b.natAbs ≤ a.natAbs / 2 := Nat.div_le_div_left (by omega) (by omega)
      omega

theorem fieldC (c v : Int) (w : World) : (Instr.field 26 (IR c v) 0).run Tryd.prog w = .ok (.int .i64 c) w := by kernel_rfl
theorem fieldV (c v : Int) (w : World) : (Instr.field 26 (IR c v) 1).run Tryd.prog w = .ok (.int .i64 v) w := by kernel_rfl

theorem divs_facts (a b : Int) (ha : inB a = true) (hb : inB b = true) (h0 : b ≠ 0) : ∃ q r : Int,
    Hid (∀ w, ET w → Calls Tryd.prog 25 #[.int .i64 a, .int .i64 b] w fun e w' => e = .returned (IR 0 q) ∧ Below w.heap.size w w') ∧
    Hid (∀ w, Calls Tryd.prog 26 #[.int .i64 a, .int .i64 b] w fun e w' => e = .returned (IR 0 q) ∧ Below w.heap.size w w') ∧
    Hid (∀ w, ET w → Calls Tryd.prog 28 #[.int .i64 a, .int .i64 b] w fun e w' => e = .returned (IR 0 r) ∧ Below w.heap.size w w') ∧
    ((0 < b ∧ 0 ≤ r ∧ r < b) ∨ (b < 0 ∧ r ≤ 0 ∧ b < r)) ∧ (-1000000000 ≤ r ∧ r ≤ 1000000000) ∧
    ((Hid (∀ w, ET w → Calls Tryd.prog 29 #[.int .i64 q, .int .i64 b] w fun e w' => e = .returned (IR 7 0) ∧ Below w.heap.size w w')) ∨
      ∃ m : Int, (Hid (∀ w, ET w → Calls Tryd.prog 29 #[.int .i64 q, .int .i64 b] w fun e w' => e = .returned (IR 0 m) ∧ Below w.heap.size w w')) ∧ (m + r == a) = true ∧ -1000000000 ≤ m ∧ m ≤ 1000000000) := by
  have hq := inB_fq a b h0 ha
  have hr := inB_rest a b h0 hb
  have e1 : oC (fq a b) = 0 := by simp [oC, hq]
  have e2 : oV (fq a b) = fq a b := by simp [oV, hq]
  have e3 : oC (a - b * fq a b) = 0 := by simp [oC, hr]
  have e4 : oV (a - b * fq a b) = a - b * fq a b := by simp [oV, hr]
  have near := rest_near a b h0
  refine ⟨fq a b, a - b * fq a b, fun w hE => ?_, fun w => ?_, fun w hE => ?_, by omega, (inB_iff _).1 hr, ?_⟩
  · have := implQuo_in a b w hE ha hb h0; rwa [e1, e2] at this
  · have := specQuo_in a b w ha hb h0; rwa [e1, e2] at this
  · have := implRem_in a b w hE ha hb h0; rwa [e3, e4] at this
  · cases hm : inB (fq a b * b)
    · refine Or.inl fun w hE => ?_
      have := implMul_in (fq a b) b w hE hq hb
      have e5 : oC (fq a b * b) = 7 := by simp [oC, hm]
      have e6 : oV (fq a b * b) = 0 := by simp [oV, hm]
      rwa [e5, e6] at this
    · have hm' := (inB_iff _).1 hm
      have hsum : fq a b * b + (a - b * fq a b) = a := by rw [Int.mul_comm]; omega
      refine Or.inr ⟨fq a b * b, fun w hE => ?_, by rw [hsum]; simp, hm'.1, hm'.2⟩
      have := implMul_in (fq a b) b w hE hq hb
      have e5 : oC (fq a b * b) = 0 := by simp [oC, hm]
      have e6 : oV (fq a b * b) = fq a b * b := by simp [oV, hm]
      rwa [e5, e6] at this
end Go.Proofs.YtomkdofagjkfiaaDoor
