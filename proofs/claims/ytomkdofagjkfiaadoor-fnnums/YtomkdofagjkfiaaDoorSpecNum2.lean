/-
  The model's SubNum, QuoNum and RemNum on two right numbers answer what the plain functions tell, whatever the world; nothing that was there is turned.
-/
import Derived.Test.YtomkdofagjkfiaaDoorSpecNum
namespace Go.Proofs.YtomkdofagjkfiaaDoor
open Go.RowKit Go.Extern.Stop Go.Stop Go.Extern Num

theorem fq_bd (a b : Int) (a1 : -1000000000 ≤ a) (a2 : a ≤ 1000000000) : -1000000001 ≤ fq a b ∧ fq a b ≤ 1000000000 := by
  have := tdiv_bd a b a1 a2
  unfold fq; split <;> omega
theorem fqm_bd (a b : Int) (a1 : -1000000000 ≤ a) (a2 : a ≤ 1000000000) (b1 : -1000000000 ≤ b) (b2 : b ≤ 1000000000) : -2000000000000000000 ≤ b * fq a b ∧ b * fq a b ≤ 2000000000000000000 := by
  have h := fq_bd a b a1 a2
  have h1 : b.natAbs * (fq a b).natAbs ≤ 1000000000 * 1000000001 := Nat.mul_le_mul (by omega) (by omega)
  have h2 : (b * fq a b).natAbs ≤ 1000000000 * 1000000001 := by rw [Int.natAbs_mul]; exact h1
  omega

theorem specSub_in (a b : Int) (w : World) (ha : inB a = true) (hb : inB b = true) :
    Calls Tryd.prog 31 #[.int .i64 a, .int .i64 b] w fun e w' => e = .returned (IR (oC (a - b)) (oV (a - b))) ∧ Below w.heap.size w w' := by
  have a1 := ((inB_iff a).1 ha).1; have a2 := ((inB_iff a).1 ha).2; have b1 := ((inB_iff b).1 hb).1; have b2 := ((inB_iff b).1 hb).2
  have h2 : (inB a && inB b) = true := by simp [ha, hb]
  clear ha hb
  go_enter Tryd.func31, Tryd.ntmps31
  go_wp2_with (first | (go_at_call 47; refine (l1Two_any _ _ _).mono ?_; rintro e w' ⟨rfl, rfl⟩) | (go_at_call 48; refine (l1Of_any _ _).mono ?_; rintro e w1 ⟨rfl, hq⟩; obtain ⟨hc, hf⟩ := bcell hq))
  exact bodyPost_ret (v := IR (oC (a - b)) (oV (a - b))) (by simp [results, Tryd.results31, go_sem, hc]) rfl ⟨rfl, by
    repeat (first | exact Below.refl _ _ | refine Below.setCell ?_ (by simp) _ | refine Below.alloc ?_ (by simp <;> omega) _ | refine Below.trans ?_ (hq.mono (by simp)))⟩

theorem specQuo_zero (a : Int) (w : World) (ha : inB a = true) :
    Calls Tryd.prog 26 #[.int .i64 a, .int .i64 0] w fun e w' => e = .returned (IR 7 0) ∧ Below w.heap.size w w' := by
  have h2 : (inB a && inB 0) = true := by rw [ha]; decide
  clear ha
  go_enter Tryd.func26, Tryd.ntmps26
  go_wp2_with (first | (go_at_call 47; refine (l1Two_any _ _ _).mono ?_; rintro e w' ⟨rfl, rfl⟩))
  exact bodyPost_ret (v := IR 7 0) (by simp [results, Tryd.results26, go_sem]) rfl ⟨rfl, (Below.refl _ _).alloc (Nat.le_refl _) _⟩
theorem specRem_zero (a : Int) (w : World) (ha : inB a = true) :
    Calls Tryd.prog 27 #[.int .i64 a, .int .i64 0] w fun e w' => e = .returned (IR 7 0) ∧ Below w.heap.size w w' := by
  have h2 : (inB a && inB 0) = true := by rw [ha]; decide
  clear ha
  go_enter Tryd.func27, Tryd.ntmps27
  go_wp2_with (first | (go_at_call 47; refine (l1Two_any _ _ _).mono ?_; rintro e w' ⟨rfl, rfl⟩))
  exact bodyPost_ret (v := IR 7 0) (by simp [results, Tryd.results27, go_sem]) rfl ⟨rfl, (Below.refl _ _).alloc (Nat.le_refl _) _⟩

theorem specQuo_in (a b : Int) (w : World) (ha : inB a = true) (hb : inB b = true) (h0 : b ≠ 0) :
    Calls Tryd.prog 26 #[.int .i64 a, .int .i64 b] w fun e w' => e = .returned (IR (oC (fq a b)) (oV (fq a b))) ∧ Below w.heap.size w w' := by
  have hQ := fun w => l1Quo_any a b w ha hb h0
  have HQ : Hid (∀ w, Calls Tryd.prog 53 #[.int .i64 a, .int .i64 b] w fun e w' => e = .returned (.int .i64 (fq a b)) ∧ w' = w) := hQ
  have h2 : (inB a && inB b) = true := by simp [ha, hb]
  have h0' : (b == 0) = false := by simp [h0]
  clear ha hb hQ h0
  go_enter Tryd.func26, Tryd.ntmps26
  go_wp2_with (first | (go_at_call 47; refine (l1Two_any _ _ _).mono ?_; rintro e w' ⟨rfl, rfl⟩) | (go_at_call 53; refine (HQ.out _).mono ?_; rintro e w' ⟨rfl, rfl⟩) | (go_at_call 48; refine (l1Of_any _ _).mono ?_; rintro e w1 ⟨rfl, hq⟩; obtain ⟨hc, hf⟩ := bcell hq))
  exact bodyPost_ret (v := IR (oC (fq a b)) (oV (fq a b))) (by simp [results, Tryd.results26, go_sem, hc]) rfl ⟨rfl, by
    repeat (first | exact Below.refl _ _ | refine Below.setCell ?_ (by simp) _ | refine Below.alloc ?_ (by simp <;> omega) _ | refine Below.trans ?_ (hq.mono (by simp)))⟩

theorem specRem_in (a b : Int) (w : World) (ha : inB a = true) (hb : inB b = true) (h0 : b ≠ 0) :
    Calls Tryd.prog 27 #[.int .i64 a, .int .i64 b] w fun e w' => e = .returned (IR (oC (a - b * fq a b)) (oV (a - b * fq a b))) ∧ Below w.heap.size w w' := by
  have a1 := ((inB_iff a).1 ha).1; have a2 := ((inB_iff a).1 ha).2; have b1 := ((inB_iff b).1 hb).1; have b2 := ((inB_iff b).1 hb).2
  have m1 := (fqm_bd a b a1 a2 b1 b2).1; have m2 := (fqm_bd a b a1 a2 b1 b2).2
  have HQ : Hid (∀ w, Calls Tryd.prog 53 #[.int .i64 a, .int .i64 b] w fun e w' => e = .returned (.int .i64 (fq a b)) ∧ w' = w) := fun w => l1Quo_any a b w ha hb h0
  have h2 : (inB a && inB b) = true := by simp [ha, hb]
  have h0' : (b == 0) = false := by simp [h0]
  clear ha hb h0
  go_enter Tryd.func27, Tryd.ntmps27
  go_wp2_with (first | (go_at_call 47; refine (l1Two_any _ _ _).mono ?_; rintro e w' ⟨rfl, rfl⟩) | (go_at_call 53; refine (HQ.out _).mono ?_; rintro e w' ⟨rfl, rfl⟩) | (go_at_call 48; refine (l1Of_any _ _).mono ?_; rintro e w1 ⟨rfl, hq⟩; obtain ⟨hc, hf⟩ := bcell hq))
  exact bodyPost_ret (v := IR (oC (a - b * fq a b)) (oV (a - b * fq a b))) (by simp [results, Tryd.results27, go_sem, hc]) rfl ⟨rfl, by
    repeat (first | exact Below.refl _ _ | refine Below.setCell ?_ (by simp) _ | refine Below.alloc ?_ (by simp <;> omega) _ | refine Below.trans ?_ (hq.mono (by simp)))⟩
end Go.Proofs.YtomkdofagjkfiaaDoor
