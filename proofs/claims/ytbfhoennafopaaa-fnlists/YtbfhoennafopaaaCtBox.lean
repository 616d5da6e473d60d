/-
  The boxes of a call that takes two values and answers pairs and a value; what such a call answers.
-/
import Derived.Test.YtbfhoennafopaaaVBox
import Derived.Test.YtbfhoennafopaaaStPair
namespace Go.Proofs.Ytbfhoennafopaaa
open Go.RowKit Go.Extern.Stop Go.Stop Go.Extern Num Go.Lib

/-- The boxes of the call: two values, and the answer. -/
structure CtB (w : World) (a b : Vlu) (u : World) : Prop where
  va : VBox w.heap.size a u
  vb : VBox (w.heap.size + 1) b u
  r0 : u.cell? ⟨w.heap.size + 1 + 1, 0, none⟩ = some (.int .i64 0)
  r1 : u.cell? ⟨w.heap.size + 1 + 1, 1, none⟩ = some (.slice none 0 0)
  r2 : u.cell? ⟨w.heap.size + 1 + 1, 2, none⟩ = some (.int .i64 0)
  r3 : u.cell? ⟨w.heap.size + 1 + 1, 3, none⟩ = some (.int .i64 0)
  r4 : u.cell? ⟨w.heap.size + 1 + 1, 4, none⟩ = some (.string ⟨#[]⟩)
  rf : ∀ o, u.frozen? ⟨w.heap.size + 1 + 1, o, none⟩ = false
  z : w.heap.size + 1 + 1 < u.heap.size
  old : Below w.heap.size w u
theorem CtB.start (w : World) (a b : Vlu) : CtB w a b (((w.alloc (.cells #[.int .i64 a.kind, .int .i64 a.num, .string a.name] 26)).alloc (.cells #[.int .i64 b.kind, .int .i64 b.num, .string b.name] 26)).alloc (.cells #[.int .i64 0, .slice none 0 0, .int .i64 0, .int .i64 0, .string ⟨#[]⟩] 30)) := by
  obtain ⟨h1, h2, h3⟩ := box2 w a b 26 26
  have hb : Below ((w.alloc (.cells #[.int .i64 a.kind, .int .i64 a.num, .string a.name] 26)).alloc (.cells #[.int .i64 b.kind, .int .i64 b.num, .string b.name] 26)).heap.size _ (((w.alloc (.cells #[.int .i64 a.kind, .int .i64 a.num, .string a.name] 26)).alloc (.cells #[.int .i64 b.kind, .int .i64 b.num, .string b.name] 26)).alloc (.cells #[.int .i64 0, .slice none 0 0, .int .i64 0, .int .i64 0, .string ⟨#[]⟩] 30)) := (Below.refl _ _).alloc (Nat.le_refl _) _
  refine ⟨h1.below hb, h2.below hb, ?_, ?_, ?_, ?_, ?_, fun o => ?_, by simp, h3.trans (hb.mono h3.size)⟩
  · rw [World.cell?_alloc_at _ _ _ _ (by simp)]; rfl
  · rw [World.cell?_alloc_at _ _ _ _ (by simp)]; rfl
  · rw [World.cell?_alloc_at _ _ _ _ (by simp)]; rfl
  · rw [World.cell?_alloc_at _ _ _ _ (by simp)]; rfl
  · rw [World.cell?_alloc_at _ _ _ _ (by simp)]; rfl
  · rw [World.frozen?_alloc_at _ _ _ _ (by simp)]
theorem CtB.below {w u v : World} {a b : Vlu} (h : CtB w a b u) (hb : Below u.heap.size u v) : CtB w a b v :=
  ⟨h.va.below hb, h.vb.below hb, cell_keep hb h.r0, cell_keep hb h.r1, cell_keep hb h.r2, cell_keep hb h.r3, cell_keep hb h.r4, fun o => by rw [(bcell hb).2 _ _ h.z]; exact h.rf o, by have := hb.size; have := h.z; omega, h.old.trans (hb.mono h.old.size)⟩
theorem CtB.low {w u v : World} {a b : Vlu} {B : Nat} (h : CtB w a b u) (hB : w.heap.size + 1 + 1 < B) (hb : Below B u v) : CtB w a b v := by
  have ok : ∀ k o x, k ≤ w.heap.size + 1 + 1 → u.cell? ⟨k, o, none⟩ = some x → v.cell? ⟨k, o, none⟩ = some x := fun k o x hk hc => by rw [hb.cell (p := ⟨k, o, none⟩) (by show k < B; omega)]; exact hc
  refine ⟨⟨ok _ _ _ (by omega) h.va.c0, ok _ _ _ (by omega) h.va.c1, ok _ _ _ (by omega) h.va.c2⟩, ⟨ok _ _ _ (by omega) h.vb.c0, ok _ _ _ (by omega) h.vb.c1, ok _ _ _ (by omega) h.vb.c2⟩, ok _ _ _ (by omega) h.r0, ok _ _ _ (by omega) h.r1, ok _ _ _ (by omega) h.r2, ok _ _ _ (by omega) h.r3, ok _ _ _ (by omega) h.r4, fun o => ?_, by have := hb.size; have := h.z; omega, h.old.trans (hb.mono (by omega))⟩
  rw [hb.frozen (p := ⟨w.heap.size + 1 + 1, o, none⟩) hB]; exact h.rf o
/-- What a call answers: a code, pairs in a row of its own, a value. -/
def AnsV (w : World) (c : Int) (m : List Pai) (t : Vlu) (e : Ending) (w' : World) : Prop :=
  ∃ ao cp, e = .returned (.agg #[.int .i64 c, .slice ao m.length cp, .int .i64 t.kind, .int .i64 t.num, .string t.name]) ∧ w'.ownsRow w.heap.size 71 6 (.slice ao m.length cp) m.length (cellsP m) ∧ Below w.heap.size w w'
theorem none_row (w : World) (B : Nat) : w.ownsRow B 71 6 (.slice none ([] : List Pai).length 0) ([] : List Pai).length (cellsP []) := ⟨by simp [cellsP], .inl ⟨rfl, rfl⟩⟩
end Go.Proofs.Ytbfhoennafopaaa
