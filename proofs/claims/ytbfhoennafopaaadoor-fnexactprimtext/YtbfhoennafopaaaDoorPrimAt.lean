/-
  A primitive of the program by its number: its row of the table, or none; nothing that was there is turned.
-/
import Derived.Test.YtbfhoennafopaaaDoorPrimTab
namespace Go.Proofs.YtbfhoennafopaaaDoor
open Go.RowKit Go.Extern.Stop Go.Stop Go.Extern Num Go.Lib

def nameP (k : Nat) : ByteArray := (primN.getD k (⟨#[]⟩, 0, 0)).1
def leastP (k : Nat) : Int := (primN.getD k (⟨#[]⟩, 0, 0)).2.1
def mostP (k : Nat) : Int := (primN.getD k (⟨#[]⟩, 0, 0)).2.2
/-- The function value of one of them. -/
def WorkAt (B k : Nat) (v : Value) (w : World) : Prop := match k with | 0 => TypAt B 1 (RecAt B 53) v w | 1 => TypAt B 1 (RecAt B 54) v w | 2 => TypAt B 1 (RecAt B 55) v w | 3 => TypAt B 1 (RecAt B 56) v w | 4 => TypAt B 1 (RecAt B 57) v w | 5 => TypAt B 1 (AskAt B 59) v w | 6 => TypAt B 1 (AskAt B 60) v w | 7 => FunAt 61 v w | 8 => TypAt B 5 (FunAt 62) v w | 9 => TypAt B 5 (FunAt 63) v w | 10 => AskAt B 64 v w | 11 => AskAt B 65 v w | 12 => AskAt B 60 v w | 13 => AskAt B 66 v w | 14 => FunAt 67 v w | 15 => NilAt v w | _ => False
theorem works_at {B : Nat} {ws : List Value} {w : World} (h : WorksAt B ws w) (k : Nat) (hk : k < 16) : WorkAt B k (ws.getD k .nilFunc) w := by
  match ws, h with
  | [v0, v1, v2, v3, v4, v5, v6, v7, v8, v9, v10, v11, v12, v13, v14, v15], h =>
    obtain ⟨h0, h1, h2, h3, h4, h5, h6, h7, h8, h9, h10, h11, h12, h13, h14, h15⟩ := h
    have : k = 0 ∨ k = 1 ∨ k = 2 ∨ k = 3 ∨ k = 4 ∨ k = 5 ∨ k = 6 ∨ k = 7 ∨ k = 8 ∨ k = 9 ∨ k = 10 ∨ k = 11 ∨ k = 12 ∨ k = 13 ∨ k = 14 ∨ k = 15 := by omega
    rcases this with rfl | rfl | rfl | rfl | rfl | rfl | rfl | rfl | rfl | rfl | rfl | rfl | rfl | rfl | rfl | rfl <;> assumption
theorem works_shape {B : Nat} {ws : List Value} {w : World} (h : WorksAt B ws w) (k : Nat) (hk : k < 16) : ws.getD k .nilFunc = .nilFunc ∨ ∃ f b, ws.getD k .nilFunc = .func f #[] b := by
  match ws, h with
  | [v0, v1, v2, v3, v4, v5, v6, v7, v8, v9, v10, v11, v12, v13, v14, v15], h =>
    obtain ⟨h0, h1, h2, h3, h4, h5, h6, h7, h8, h9, h10, h11, h12, h13, h14, h15⟩ := h
    have : k = 0 ∨ k = 1 ∨ k = 2 ∨ k = 3 ∨ k = 4 ∨ k = 5 ∨ k = 6 ∨ k = 7 ∨ k = 8 ∨ k = 9 ∨ k = 10 ∨ k = 11 ∨ k = 12 ∨ k = 13 ∨ k = 14 ∨ k = 15 := by omega
    rcases this with rfl | rfl | rfl | rfl | rfl | rfl | rfl | rfl | rfl | rfl | rfl | rfl | rfl | rfl | rfl | rfl
    · obtain ⟨b, c, u, e, _⟩ := h0; exact .inr ⟨_, _, e⟩
    · obtain ⟨b, c, u, e, _⟩ := h1; exact .inr ⟨_, _, e⟩
    · obtain ⟨b, c, u, e, _⟩ := h2; exact .inr ⟨_, _, e⟩
    · obtain ⟨b, c, u, e, _⟩ := h3; exact .inr ⟨_, _, e⟩
    · obtain ⟨b, c, u, e, _⟩ := h4; exact .inr ⟨_, _, e⟩
    · obtain ⟨b, c, u, e, _⟩ := h5; exact .inr ⟨_, _, e⟩
    · obtain ⟨b, c, u, e, _⟩ := h6; exact .inr ⟨_, _, e⟩
    · exact .inr ⟨_, _, h7⟩
    · obtain ⟨b, c, u, e, _⟩ := h8; exact .inr ⟨_, _, e⟩
    · obtain ⟨b, c, u, e, _⟩ := h9; exact .inr ⟨_, _, e⟩
    · obtain ⟨b, e, _⟩ := h10; exact .inr ⟨_, _, e⟩
    · obtain ⟨b, e, _⟩ := h11; exact .inr ⟨_, _, e⟩
    · obtain ⟨b, e, _⟩ := h12; exact .inr ⟨_, _, e⟩
    · obtain ⟨b, e, _⟩ := h13; exact .inr ⟨_, _, e⟩
    · exact .inr ⟨_, _, h14⟩
    · exact .inl h15
theorem prims_cells {B : Nat} {ws : List Value} {w w1 : World} {g : Nat} (hg : w.heap[g]? = some (.cells (primCells ws) 68 (0, 0))) (h : WorksAt B ws w1) (k : Nat) (hk : k < 16) :
    w.cell? ⟨g, k * 4, none⟩ = some (.string (nameP k)) ∧ w.cell? ⟨g, k * 4 + 1, none⟩ = some (.int .i64 (leastP k)) ∧ w.cell? ⟨g, k * 4 + 2, none⟩ = some (.int .i64 (mostP k)) ∧ w.cell? ⟨g, k * 4 + 3, none⟩ = some (ws.getD k .nilFunc) := by
  match ws, h with
  | [v0, v1, v2, v3, v4, v5, v6, v7, v8, v9, v10, v11, v12, v13, v14, v15], _ =>
    have : k = 0 ∨ k = 1 ∨ k = 2 ∨ k = 3 ∨ k = 4 ∨ k = 5 ∨ k = 6 ∨ k = 7 ∨ k = 8 ∨ k = 9 ∨ k = 10 ∨ k = 11 ∨ k = 12 ∨ k = 13 ∨ k = 14 ∨ k = 15 := by omega
    rcases this with rfl | rfl | rfl | rfl | rfl | rfl | rfl | rfl | rfl | rfl | rfl | rfl | rfl | rfl | rfl | rfl <;> (refine ⟨?_, ?_, ?_, ?_⟩ <;> (simp only [World.cell?, hg]; rfl))
theorem workAt_kept (B k : Nat) : KeptB B (WorkAt B k) := by
  intro v w w' h hb
  match k, h with
  | 0, h => exact (typAt_kept _ _ (recAt_kept _ _)) _ _ _ h hb
  | 1, h => exact (typAt_kept _ _ (recAt_kept _ _)) _ _ _ h hb
  | 2, h => exact (typAt_kept _ _ (recAt_kept _ _)) _ _ _ h hb
  | 3, h => exact (typAt_kept _ _ (recAt_kept _ _)) _ _ _ h hb
  | 4, h => exact (typAt_kept _ _ (recAt_kept _ _)) _ _ _ h hb
  | 5, h => exact (typAt_kept _ _ (askAt_kept _ _)) _ _ _ h hb
  | 6, h => exact (typAt_kept _ _ (askAt_kept _ _)) _ _ _ h hb
  | 7, h => exact (funAt_kept _ _) _ _ _ h hb
  | 8, h => exact (typAt_kept _ _ (funAt_kept _ _)) _ _ _ h hb
  | 9, h => exact (typAt_kept _ _ (funAt_kept _ _)) _ _ _ h hb
  | 10, h => exact (askAt_kept _ _) _ _ _ h hb
  | 11, h => exact (askAt_kept _ _) _ _ _ h hb
  | 12, h => exact (askAt_kept _ _) _ _ _ h hb
  | 13, h => exact (askAt_kept _ _) _ _ _ h hb
  | 14, h => exact (funAt_kept _ _) _ _ _ h hb
  | 15, h => exact (nilAt_kept _) _ _ _ h hb
theorem recAt_base {B B' f : Nat} {v : Value} {w : World} (hB : B' ≤ B) : RecAt B f v w → RecAt B' f v w := fun ⟨b, e, h1, h⟩ => ⟨b, e, Nat.le_trans hB h1, h⟩
theorem askAt_base {B B' f : Nat} {v : Value} {w : World} (hB : B' ≤ B) : AskAt B f v w → AskAt B' f v w := fun ⟨b, e, h1, h⟩ => ⟨b, e, Nat.le_trans hB h1, h⟩
theorem typAt_base {B B' : Nat} {k : Int} {p q : Value → World → Prop} {v : Value} {w : World} (hB : B' ≤ B) (hp : ∀ u, p u w → q u w) : TypAt B k p v w → TypAt B' k q v w := fun ⟨b, c, u, e, h1, h2, h3, h4, h5⟩ => ⟨b, c, u, e, Nat.le_trans hB h1, Nat.le_trans hB h2, h3, h4, hp _ h5⟩
theorem workAt_base {B B' k : Nat} {v : Value} {w : World} (hB : B' ≤ B) (h : WorkAt B k v w) : WorkAt B' k v w := by
  match k, h with
  | 0, h => exact typAt_base hB (fun _ h => recAt_base hB h) h
  | 1, h => exact typAt_base hB (fun _ h => recAt_base hB h) h
  | 2, h => exact typAt_base hB (fun _ h => recAt_base hB h) h
  | 3, h => exact typAt_base hB (fun _ h => recAt_base hB h) h
  | 4, h => exact typAt_base hB (fun _ h => recAt_base hB h) h
  | 5, h => exact typAt_base hB (fun _ h => askAt_base hB h) h
  | 6, h => exact typAt_base hB (fun _ h => askAt_base hB h) h
  | 7, h => exact h
  | 8, h => exact typAt_base hB (fun _ h => h) h
  | 9, h => exact typAt_base hB (fun _ h => h) h
  | 10, h => exact askAt_base hB h
  | 11, h => exact askAt_base hB h
  | 12, h => exact askAt_base hB h
  | 13, h => exact askAt_base hB h
  | 14, h => exact h
  | 15, h => exact h
set_option maxRecDepth 100000 in
set_option maxHeartbeats 2000000 in
theorem primAt_in (k : Nat) (hk : k < 16) (w : World) :
    Calls Tryd.prog 34 #[.int .i64 (k : Int)] w fun e w' => ∃ v, e = .returned (.tuple #[.agg #[.string (nameP k), .int .i64 (leastP k), .int .i64 (mostP k), v], .int .i64 0]) ∧ WorkAt w.heap.size k v w' ∧ (v = .nilFunc ∨ ∃ f b, v = .func f #[] b) ∧ Below w.heap.size w w' := by
  go_enter Tryd.func34, Tryd.ntmps34
  go_wp2_with fail
  refine (prims_any (w.heap.size + 1) _ (by simp)).mono ?_
  rintro e w1 ⟨g, ws, rfl, hg, hws, hb⟩
  obtain ⟨c0, c1, c2, c3⟩ := prims_cells hg hws k hk
  have HW : Hid (WorkAt (w.heap.size + 1) k (ws.getD k .nilFunc) w1) := works_at hws k hk
  have hsh := works_shape hws k hk
  generalize ws.getD k .nilFunc = v at c3 HW hsh
  have HB : Hid (Below (w.alloc (.cells #[.string ⟨#[]⟩, .int .i64 0, .int .i64 0, .nilFunc] 68)).heap.size (w.alloc (.cells #[.string ⟨#[]⟩, .int .i64 0, .int .i64 0, .nilFunc] 68)) w1) := hb
  have r0 : w1.cell? ⟨w.heap.size, 0, none⟩ = some (.string ⟨#[]⟩) := cell_keep hb (by rw [World.cell?_alloc_at _ _ _ _ rfl]; rfl)
  have r1 : w1.cell? ⟨w.heap.size, 1, none⟩ = some (.int .i64 0) := cell_keep hb (by rw [World.cell?_alloc_at _ _ _ _ rfl]; rfl)
  have r2 : w1.cell? ⟨w.heap.size, 2, none⟩ = some (.int .i64 0) := cell_keep hb (by rw [World.cell?_alloc_at _ _ _ _ rfl]; rfl)
  have r3 : w1.cell? ⟨w.heap.size, 3, none⟩ = some .nilFunc := cell_keep hb (by rw [World.cell?_alloc_at _ _ _ _ rfl]; rfl)
  have rf : ∀ o, w1.frozen? ⟨w.heap.size, o, none⟩ = false := fun o => by rw [(bcell hb).2 _ _ (by simp), World.frozen?_alloc_at _ _ _ _ rfl]
  have z1 : w.heap.size < w1.heap.size := by have := hb.size; simp at this; omega
  have hgz : g ≠ w.heap.size := fun e => by
    have h2 := hb.block w.heap.size (by simp)
    rw [heap_alloc_new, ← e, hg] at h2
    injection h2 with h3
    injection h3 with h4
    have := congrArg Array.size h4
    match ws, hws with
    | [v0, v1, v2, v3, v4, v5, v6, v7, v8, v9, v10, v11, v12, v13, v14, v15], _ => simp [primCells] at this
  clear hg hws hb
  have HF : Hid (WorkAt w.heap.size k v ((((w1.setCell ⟨w.heap.size, 0, none⟩ (.string (nameP k))).setCell ⟨w.heap.size, 1, none⟩ (.int .i64 (leastP k))).setCell ⟨w.heap.size, 2, none⟩ (.int .i64 (mostP k))).setCell ⟨w.heap.size, 3, none⟩ v)) := by
    refine workAt_base (Nat.le_succ _) ?_
    exact workAt_kept _ _ _ _ _ (workAt_kept _ _ _ _ _ (workAt_kept _ _ _ _ _ (workAt_kept _ _ _ _ _ HW.out (over_set _ _ (by omega))) (over_set _ _ (by omega))) (over_set _ _ (by omega))) (over_set _ _ (by omega))
  have HO : Hid (Below w.heap.size w ((((w1.setCell ⟨w.heap.size, 0, none⟩ (.string (nameP k))).setCell ⟨w.heap.size, 1, none⟩ (.int .i64 (leastP k))).setCell ⟨w.heap.size, 2, none⟩ (.int .i64 (mostP k))).setCell ⟨w.heap.size, 3, none⟩ v)) := by
    have h0 : Below w.heap.size w w1 := Below.trans ((Below.refl _ w).alloc (Nat.le_refl _) _) (HB.out.mono (by simp))
    repeat (first | refine Below.setCell ?_ (by simp) _ | exact h0)
  clear HW HB
  rcases hsh with rfl | ⟨f, b, rfl⟩
  · go_wp2
    refine bodyPost_ret (v := .tuple #[.agg #[.string (nameP k), .int .i64 (leastP k), .int .i64 (mostP k), .nilFunc], .int .i64 0]) (by simp [results, Tryd.results34, go_sem, r0, r1, r2, r3]) rfl ⟨_, rfl, HF.out, .inl rfl, HO.out⟩
  · go_wp2
    refine bodyPost_ret (v := .tuple #[.agg #[.string (nameP k), .int .i64 (leastP k), .int .i64 (mostP k), .func f #[] b], .int .i64 0]) (by simp [results, Tryd.results34, go_sem, r0, r1, r2, r3]) rfl ⟨_, rfl, HF.out, .inr ⟨_, _, rfl⟩, HO.out⟩
end Go.Proofs.YtbfhoennafopaaaDoor
