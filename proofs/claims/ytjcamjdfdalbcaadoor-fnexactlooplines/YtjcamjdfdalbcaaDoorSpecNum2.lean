/-
  The model's SubNum, QuoNum and RemNum on two right numbers answer what the plain functions tell, whatever the world; nothing that was there is turned.
-/
import Derived.Test.YtjcamjdfdalbcaaDoorSpecNum
namespace Go.Proofs.YtjcamjdfdalbcaaDoor
open Go.RowKit Go.Extern.Stop Go.Stop Go.Extern Num

theorem fq_bd (a b : Int) (a1 : -1000000000 ≤ a) (a2 : a ≤ 1000000000) : -1000000001 ≤ fq a b ∧ fq a b ≤ 1000000000 := by
  have := tdiv_bd a b a1 a2
  unfold fq; split <;> omega
theorem fqm_bd (a b : Int) (a1 : -1000000000 ≤ a) (a2 : a ≤ 1000000000) (b1 : -1000000000 ≤ b) (b2 : b ≤ 1000000000) : -2000000000000000000 ≤ b * fq a b ∧ b * fq a b ≤ 2000000000000000000 := by
  have h := fq_bd a b a1 a2
  have h1 : b.natAbs * (fq a b).natAbs ≤ 1000000000 * 1000000001 := Nat.mul_le_mul (by omega) (by omega)
  have h2 : (b * fq a b).natAbs ≤ 1000000000 * 1000000001 := by rw [Int.natAbs_mul]; exact h1
  omega

end Go.Proofs.YtjcamjdfdalbcaaDoor
