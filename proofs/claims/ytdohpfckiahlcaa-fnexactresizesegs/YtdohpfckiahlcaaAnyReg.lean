/-
  An operation in a region that draws its order, outside a round, by the plain calculus.
-/
import Derived.Test.YtdohpfckiahlcaaHeldIn
import Derived.Test.YtdohpfckiahlcaaRowKit0
namespace Go.Proofs.Ytdohpfckiahlcaa
open Go.RowKit Go.Extern.Stop Go.Stop Go.Extern Num Go.Lib

theorem oper_plainX {P : Program} {Q : Exit → Act → World → Prop} {n : Nat} {o : Oper} {K : Act → World → Prop} {a : Act} {w : World} (hnd : ∀ c, o.op ≠ .defer c) (h : Oper.wp P o a w K Q) : o.wpIn Fence.wide n P a w K Q := by
  refine ⟨fun _ _ => trivial, ?_⟩
  rw [Oper.semAt_eq _ _ _ hnd]
  unfold Oper.wp at h
  generalize (execOp a.eval o).run P w = r at h ⊢
  cases r with
  | ok x w' =>
    cases x with
    | value u => exact h
    | skip => exact h
    | defer d => exact h
    | enter f args => exact ⟨fun h0 => (by cases h0), (callsIn_wide (n := n - 1)).2 h⟩
    | row row args => exact ⟨fun h0 => (by cases h0), fun c cs _ => (by obtain ⟨v, w'', r, s⟩ := h c cs; exact ⟨v, w'', r, (stepsIn_wide).2 s⟩)⟩
    | _ => exact (h : False).elim
  | halt x w' =>
    cases x with
    | panic u => exact h
    | _ => exact (h : False).elim
theorem op_plainX {P : Program} {ops : Array Oper} {Q : Exit → Act → World → Prop} {n i : Nat} {o : Oper} {K : Act → World → Prop} {a : Act} {w : World} (ho : ops[i]? = some o) (hw : Region.wanted o (yielded ops a.tmps) = true) (hnd : ∀ c, o.op ≠ .defer c) (h : Oper.wp P o a w K Q) :
    wpOpIn Fence.wide n P ops Q i K a w := op_step ho hw (oper_plainX hnd h)
end Go.Proofs.Ytdohpfckiahlcaa
