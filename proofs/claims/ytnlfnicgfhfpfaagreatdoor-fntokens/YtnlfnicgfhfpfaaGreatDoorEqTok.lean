/-
  The laws' eqToken, eqTokenS and eqTokensResult answer true of the same tokens, wherever they lie; nothing that was there is turned.
-/
import Derived.Test.YtnlfnicgfhfpfaaGreatDoorSpecOf
import Derived.Test.YtnlfnicgfhfpfaaGreatDoorRegion
namespace Go.Proofs.YtnlfnicgfhfpfaaGreatDoor
open Go.RowKit Go.Extern.Stop Go.Stop Go.Extern Num Go.Lib

theorem row_at {w : World} {base g cap : Nat} {l : List Tok} (h : w.ownsRow base 37 3 (.slice (some ⟨g, 0, none⟩) l.length cap) l.length (cellsOf l)) (k : Nat) (hk : k < l.length) :
    w.cell? ⟨g, k * 3, none⟩ = some (.int .i64 l[k].kind) ∧ w.cell? ⟨g, k * 3 + 1, none⟩ = some (.int .i64 l[k].num) ∧ w.cell? ⟨g, k * 3 + 2, none⟩ = some (.string l[k].name) := by
  have ha : ∀ j, (⟨g, 0, none⟩ : Addr).add j = ⟨g, j, none⟩ := fun j => by unfold Addr.add; split <;> simp_all
  have hc := h.cells (g := g) rfl
  obtain ⟨h1, h2, h3⟩ := cellsOf_at l k hk
  exact ⟨by rw [← ha]; exact hc _ _ h1, by rw [← ha]; exact hc _ _ h2, by rw [← ha]; exact hc _ _ h3⟩
end Go.Proofs.YtnlfnicgfhfpfaaGreatDoor
