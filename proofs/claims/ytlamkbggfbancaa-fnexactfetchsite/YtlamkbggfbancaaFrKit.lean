/-
  The box of FetchSite's answer: nine cells, written and read whole; no function of the program in it.
-/
import Derived.Test.YtlamkbggfbancaaSiteOut
import Derived.Deep.MidRow
namespace Go.Proofs.Ytlamkbggfbancaa
open Go.RowKit Go.Extern.Stop Go.Stop Go.Extern Num Go.Lib

theorem infoFr : (Try.prog.info? 43).map (·.size) = some 9 := by kernel_rfl
abbrev frL (o : Int × Bool × Vlu × Int) : List Value := [.int .i64 o.1, .bool o.2.1, .int .i64 o.2.2.1.kind, .int .i64 o.2.2.1.num, .string o.2.2.1.name, .int .i64 o.2.2.2, .int .i64 o.2.2.1.kind, .int .i64 o.2.2.1.num, .string o.2.2.1.name]
theorem frL_one (o : Int × Bool × Vlu × Int) : (frL o).toArray.all (·.oneCell') = true := all_oneCell_toArray (fun v hv => by simp at hv; rcases hv with rfl | rfl | rfl | rfl | rfl | rfl | rfl | rfl | rfl <;> rfl)
theorem Fr9.there {W : World} {B : Nat} (h : Fr9 W B) : W.there B 0 9 := fun j hj => by
  rw [Nat.zero_add]
  refine ⟨?_, h.2 j⟩
  rcases (by omega : j = 0 ∨ j = 1 ∨ j = 2 ∨ j = 3 ∨ j = 4 ∨ j = 5 ∨ j = 6 ∨ j = 7 ∨ j = 8) with rfl | rfl | rfl | rfl | rfl | rfl | rfl | rfl | rfl <;> (rw [h.1 _ _ rfl]; rfl)
theorem resFR {fn : Func} {p : Tmp} (hf : fn.results = #[.cell p 43]) (tmps : Array Value) (V : World) (B : Nat) (o : Int × Bool × Vlu × Int) (ht : V.there B 0 9) (hp : tmps.getD p undef = .pointer (some ⟨B, 0, none⟩)) :
    (results fn tmps).run Try.prog (V.setCells B 0 (frL o)) = .ok (FR o) (V.setCells B 0 (frL o)) := by
  have hl := run_loadVar_mid (P := Try.prog) (V.setCells B 0 (frL o)) B 0 43 (frL o) _ (World.rangeAt_setCells_same _ _ _ _ ht) Try.underlying43 rfl (by rw [infoFr]; rfl)
  have hp' : tmps[p]?.getD undef = .pointer (some ⟨B, 0, none⟩) := by simpa using hp
  generalize V.setCells B 0 (frL o) = Z at hl ⊢
  simp [results, hf, hp', asAddr, hl]
end Go.Proofs.Ytlamkbggfbancaa
