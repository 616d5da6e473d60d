/-
  A primitive of the program by its number: its row of the table, or none; nothing that was there is turned.
-/
import Derived.Test.YtlamkbggfbancaaGreatDoorPrimTab
namespace Go.Proofs.YtlamkbggfbancaaGreatDoor
open Go.RowKit Go.Extern.Stop Go.Stop Go.Extern Num Go.Lib

def nameP (k : Nat) : ByteArray := (primN.getD k (⟨#[]⟩, 0, 0)).1
def leastP (k : Nat) : Int := (primN.getD k (⟨#[]⟩, 0, 0)).2.1
def mostP (k : Nat) : Int := (primN.getD k (⟨#[]⟩, 0, 0)).2.2
/-- The function value of one of them. -/
def WorkAt (B k : Nat) (v : Value) (w : World) : Prop := match k with | 0 => TypAt B 1 (RecAt B 24) v w | 1 => TypAt B 1 (RecAt B 25) v w | 2 => TypAt B 1 (RecAt B 26) v w | 3 => TypAt B 1 (RecAt B 27) v w | 4 => TypAt B 1 (RecAt B 28) v w | 5 => TypAt B 1 (AskAt B 30) v w | 6 => TypAt B 1 (AskAt B 31) v w | 7 => FunAt 32 v w | 8 => TypAt B 5 (FunAt 33) v w | 9 => TypAt B 5 (FunAt 34) v w | 10 => AskAt B 35 v w | 11 => AskAt B 36 v w | 12 => AskAt B 31 v w | 13 => AskAt B 37 v w | 14 => FunAt 38 v w | 15 => NilAt v w | _ => False
theorem works_at {B : Nat} {ws : List Value} {w : World} (h : WorksAt B ws w) (k : Nat) (hk : k < 16) : WorkAt B k (ws.getD k .nilFunc) w := by
  match ws, h with
  | [v0, v1, v2, v3, v4, v5, v6, v7, v8, v9, v10, v11, v12, v13, v14, v15], h =>
    obtain ⟨h0, h1, h2, h3, h4, h5, h6, h7, h8, h9, h10, h11, h12, h13, h14, h15⟩ := h
    have : k = 0 ∨ k = 1 ∨ k = 2 ∨ k = 3 ∨ k = 4 ∨ k = 5 ∨ k = 6 ∨ k = 7 ∨ k = 8 ∨ k = 9 ∨ k = 10 ∨ k = 11 ∨ k = 12 ∨ k = 13 ∨ k = 14 ∨ k = 15 := by omega
    rcases this with rfl | rfl | rfl | rfl | rfl | rfl | rfl | rfl | rfl | rfl | rfl | rfl | rfl | rfl | rfl | rfl <;> assumption
theorem works_shape {B : Nat} {ws : List Value} {w : World} (h : WorksAt B ws w) (k : Nat) (hk : k < 16) : ws.getD k .nilFunc = .nilFunc ∨ ∃ f b, ws.getD k .nilFunc = .func f #[] b := by
  match ws, h with
  | [v0, v1, v2, v3, v4, v5, v6, v7, v8, v9, v10, v11, v12, v13, v14, v15], h =>
    obtain ⟨h0, h1, h2, h3, h4, h5, h6, h7, h8, h9, h10, h11, h12, h13, h14, h15⟩ := h
    have : k = 0 ∨ k = 1 ∨ k = 2 ∨ k = 3 ∨ k = 4 ∨ k = 5 ∨ k = 6 ∨ k = 7 ∨ k = 8 ∨ k = 9 ∨ k = 10 ∨ k = 11 ∨ k = 12 ∨ k = 13 ∨ k = 14 ∨ k = 15 := by omega
    rcases this with rfl | rfl | rfl | rfl | rfl | rfl | rfl | rfl | rfl | rfl | rfl | rfl | rfl | rfl | rfl | rfl
    · obtain ⟨b, c, u, e, _⟩ := h0; exact .inr ⟨_, _, e⟩
    · obtain ⟨b, c, u, e, _⟩ := h1; exact .inr ⟨_, _, e⟩
    · obtain ⟨b, c, u, e, _⟩ := h2; exact .inr ⟨_, _, e⟩
    · obtain ⟨b, c, u, e, _⟩ := h3; exact .inr ⟨_, _, e⟩
    · obtain ⟨b, c, u, e, _⟩ := h4; exact .inr ⟨_, _, e⟩
    · obtain ⟨b, c, u, e, _⟩ := h5; exact .inr ⟨_, _, e⟩
    · obtain ⟨b, c, u, e, _⟩ := h6; exact .inr ⟨_, _, e⟩
    · exact .inr ⟨_, _, h7⟩
    · obtain ⟨b, c, u, e, _⟩ := h8; exact .inr ⟨_, _, e⟩
    · obtain ⟨b, c, u, e, _⟩ := h9; exact .inr ⟨_, _, e⟩
    · obtain ⟨b, e, _⟩ := h10; exact .inr ⟨_, _, e⟩
    · obtain ⟨b, e, _⟩ := h11; exact .inr ⟨_, _, e⟩
    · obtain ⟨b, e, _⟩ := h12; exact .inr ⟨_, _, e⟩
    · obtain ⟨b, e, _⟩ := h13; exact .inr ⟨_, _, e⟩
    · exact .inr ⟨_, _, h14⟩
    · exact .inl h15
theorem prims_cells {B : Nat} {ws : List Value} {w w1 : World} {g : Nat} (hg : w.heap[g]? = some (.cells (primCells ws) 49 (0, 0))) (h : WorksAt B ws w1) (k : Nat) (hk : k < 16) :
    w.cell? ⟨g, k * 4, none⟩ = some (.string (nameP k)) ∧ w.cell? ⟨g, k * 4 + 1, none⟩ = some (.int .i64 (leastP k)) ∧ w.cell? ⟨g, k * 4 + 2, none⟩ = some (.int .i64 (mostP k)) ∧ w.cell? ⟨g, k * 4 + 3, none⟩ = some (ws.getD k .nilFunc) := by
  match ws, h with
  | [v0, v1, v2, v3, v4, v5, v6, v7, v8, v9, v10, v11, v12, v13, v14, v15], _ =>
    have : k = 0 ∨ k = 1 ∨ k = 2 ∨ k = 3 ∨ k = 4 ∨ k = 5 ∨ k = 6 ∨ k = 7 ∨ k = 8 ∨ k = 9 ∨ k = 10 ∨ k = 11 ∨ k = 12 ∨ k = 13 ∨ k = 14 ∨ k = 15 := by omega
    rcases this with rfl | rfl | rfl | rfl | rfl | rfl | rfl | rfl | rfl | rfl | rfl | rfl | rfl | rfl | rfl | rfl <;> (refine ⟨?_, ?_, ?_, ?_⟩ <;> (simp only [World.cell?, hg]; rfl))
theorem workAt_kept (B k : Nat) : KeptB B (WorkAt B k) := by
  intro v w w' h hb
  match k, h with
  | 0, h => exact (typAt_kept _ _ (recAt_kept _ _)) _ _ _ h hb
  | 1, h => exact (typAt_kept _ _ (recAt_kept _ _)) _ _ _ h hb
  | 2, h => exact (typAt_kept _ _ (recAt_kept _ _)) _ _ _ h hb
  | 3, h => exact (typAt_kept _ _ (recAt_kept _ _)) _ _ _ h hb
  | 4, h => exact (typAt_kept _ _ (recAt_kept _ _)) _ _ _ h hb
  | 5, h => exact (typAt_kept _ _ (askAt_kept _ _)) _ _ _ h hb
  | 6, h => exact (typAt_kept _ _ (askAt_kept _ _)) _ _ _ h hb
  | 7, h => exact (funAt_kept _ _) _ _ _ h hb
  | 8, h => exact (typAt_kept _ _ (funAt_kept _ _)) _ _ _ h hb
  | 9, h => exact (typAt_kept _ _ (funAt_kept _ _)) _ _ _ h hb
  | 10, h => exact (askAt_kept _ _) _ _ _ h hb
  | 11, h => exact (askAt_kept _ _) _ _ _ h hb
  | 12, h => exact (askAt_kept _ _) _ _ _ h hb
  | 13, h => exact (askAt_kept _ _) _ _ _ h hb
  | 14, h => exact (funAt_kept _ _) _ _ _ h hb
  | 15, h => exact (nilAt_kept _) _ _ _ h hb
theorem recAt_base {B B' f : Nat} {v : Value} {w : World} (hB : B' ≤ B) : RecAt B f v w → RecAt B' f v w := fun ⟨b, e, h1, h⟩ => ⟨b, e, Nat.le_trans hB h1, h⟩
theorem askAt_base {B B' f : Nat} {v : Value} {w : World} (hB : B' ≤ B) : AskAt B f v w → AskAt B' f v w := fun ⟨b, e, h1, h⟩ => ⟨b, e, Nat.le_trans hB h1, h⟩
theorem typAt_base {B B' : Nat} {k : Int} {p q : Value → World → Prop} {v : Value} {w : World} (hB : B' ≤ B) (hp : ∀ u, p u w → q u w) : TypAt B k p v w → TypAt B' k q v w := fun ⟨b, c, u, e, h1, h2, h3, h4, h5⟩ => ⟨b, c, u, e, Nat.le_trans hB h1, Nat.le_trans hB h2, h3, h4, hp _ h5⟩
theorem workAt_base {B B' k : Nat} {v : Value} {w : World} (hB : B' ≤ B) (h : WorkAt B k v w) : WorkAt B' k v w := by
  match k, h with
  | 0, h => exact typAt_base hB (fun _ h => recAt_base hB h) h
  | 1, h => exact typAt_base hB (fun _ h => recAt_base hB h) h
  | 2, h => exact typAt_base hB (fun _ h => recAt_base hB h) h
  | 3, h => exact typAt_base hB (fun _ h => recAt_base hB h) h
  | 4, h => exact typAt_base hB (fun _ h => recAt_base hB h) h
  | 5, h => exact typAt_base hB (fun _ h => askAt_base hB h) h
  | 6, h => exact typAt_base hB (fun _ h => askAt_base hB h) h
  | 7, h => exact h
  | 8, h => exact typAt_base hB (fun _ h => h) h
  | 9, h => exact typAt_base hB (fun _ h => h) h
  | 10, h => exact askAt_base hB h
  | 11, h => exact askAt_base hB h
  | 12, h => exact askAt_base hB h
  | 13, h => exact askAt_base hB h
  | 14, h => exact h
  | 15, h => exact h
end Go.Proofs.YtlamkbggfbancaaGreatDoor
