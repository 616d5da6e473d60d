/-
  The model's functions of chapter 1 on two numbers answer what the plain functions below tell, whatever the world; nothing that was there is turned.
-/
import Derived.Test.YtdohpfckiahlcaaCodes
namespace Go.Proofs.Ytdohpfckiahlcaa
open Go.RowKit Go.Extern.Stop Go.Stop Go.Extern Num

/-- Behind a call that turned nothing old: all that was there reads as before. -/
theorem bcell {W w1 : World} (hb : Below W.heap.size W w1) : (∀ b o, b < W.heap.size → w1.cell? ⟨b, o, none⟩ = W.cell? ⟨b, o, none⟩) ∧ (∀ b o, b < W.heap.size → w1.frozen? ⟨b, o, none⟩ = W.frozen? ⟨b, o, none⟩) :=
  ⟨fun b o h => hb.cell (p := ⟨b, o, none⟩) h, fun b o h => hb.frozen (p := ⟨b, o, none⟩) h⟩
/-- An IntResult as a value. -/
abbrev IR (c v : Int) : Value := .agg #[.int .i64 c, .int .i64 v]

theorem l1In_any (v lo hi : Int) (w : World) :
    Calls Try.prog 38 #[.int .i64 v, .int .i64 lo, .int .i64 hi] w fun e w' => e = .returned (.bool (decide (lo ≤ v) && decide (v ≤ hi))) ∧ w' = w := by
  by_cases h1 : lo ≤ v
  · go_enter Try.func38, Try.ntmps38
    go_wp2
    go_ret
    exact ⟨by simp [h1], rfl⟩
  · go_enter Try.func38, Try.ntmps38
    go_wp2
    go_ret
    exact ⟨by simp; omega, rfl⟩
theorem mul_hi (a b : Int) (a1 : -1000000000 ≤ a) (a2 : a ≤ 1000000000) (b1 : -1000000000 ≤ b) (b2 : b ≤ 1000000000) : a * b ≤ 1000000000000000000 := by
  have h : a.natAbs * b.natAbs ≤ 1000000000 * 1000000000 := Nat.mul_le_mul (by omega) (by omega)
  have h2 : (a * b).natAbs ≤ 1000000000 * 1000000000 := by rw [Int.natAbs_mul]; exact h
  omega
theorem mul_lo (a b : Int) (a1 : -1000000000 ≤ a) (a2 : a ≤ 1000000000) (b1 : -1000000000 ≤ b) (b2 : b ≤ 1000000000) : -1000000000000000000 ≤ a * b := by
  have h : a.natAbs * b.natAbs ≤ 1000000000 * 1000000000 := Nat.mul_le_mul (by omega) (by omega)
  have h2 : (a * b).natAbs ≤ 1000000000 * 1000000000 := by rw [Int.natAbs_mul]; exact h
  omega
/-- The code and the value of a number that came of two right ones. -/
def oC (v : Int) : Int := if inB v = true then 0 else 7
def oV (v : Int) : Int := if inB v = true then v else 0
/-- A number's quotient, rounded down, as the program reckons it. -/
def fq (a b : Int) : Int := if a.tmod b ≠ 0 ∧ (decide (a < 0)) ≠ (decide (b < 0)) then a.tdiv b - 1 else a.tdiv b

theorem ret_int {k : IntKind} {a b : Int} (h : a = b) : Ending.returned (.int k a) = .returned (.int k b) := by rw [h]
theorem tdiv_bd (a b : Int) (a1 : -1000000000 ≤ a) (a2 : a ≤ 1000000000) : -1000000000 ≤ a.tdiv b ∧ a.tdiv b ≤ 1000000000 := by
  have h : (a.tdiv b).natAbs ≤ a.natAbs := by rw [Int.natAbs_tdiv]; exact Nat.div_le_self _ _
  omega
theorem fq_zero {a b : Int} (h : a.tmod b = 0) : fq a b = a.tdiv b := by simp [fq, h]
theorem fq_same {a b : Int} (h : decide (a < 0) = decide (b < 0)) : fq a b = a.tdiv b := by simp [fq, h]
theorem fq_apart {a b : Int} (hm : ¬ a.tmod b = 0) (h : decide (a < 0) ≠ decide (b < 0)) : fq a b = a.tdiv b - 1 := by
  unfold fq; rw [if_pos ⟨hm, h⟩]

end Go.Proofs.Ytdohpfckiahlcaa
