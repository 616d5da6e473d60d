/-
  Rows of other types lie in other blocks; a world in which nothing is turned but told blocks. No program in it.
-/
import Derived.Test.YtdohpfckiahlcaaRowKit0
namespace Go.Proofs.Ytdohpfckiahlcaa
open Go.RowKit Go.Extern.Stop Go.Stop Go.Extern Num Go.Lib

theorem typ_ne {u : World} {B B' size size' n n' : Nat} {e T : TypeId} {v v' : Value} {xs ys : List Value} (h : u.ownsRow B e size v n xs) (h' : u.ownsRow B' T size' v' n' ys) (hne : e ≠ T) : ∀ g, v.ownBlock = some g → v'.ownBlock ≠ some g := by
  intro g hg hg'
  rcases h.2 with ⟨rfl, _⟩ | ⟨g1, cap, cur, rfl, _, hgg, _⟩
  · cases hg
  · rcases h'.2 with ⟨rfl, _⟩ | ⟨g2, cap2, cur2, rfl, _, hgg2, _⟩
    · cases hg'
    · have e1 : g1 = g := by simpa [Value.ownBlock] using hg
      have e2 : g2 = g := by simpa [Value.ownBlock] using hg'
      subst e1; subst e2
      rw [hgg] at hgg2
      injection hgg2 with h1
      injection h1 with _ h2
      exact hne h2
def farV (x y : Value) : Prop := ∀ g, x.ownBlock = some g → y.ownBlock ≠ some g
/-- Nothing is turned but blocks of F, and those that are new. -/
structure Keeps (F : Nat → Prop) (w w' : World) : Prop where
  os : w'.os = w.os
  tape : w'.tape = w.tape
  output : w'.output = w.output
  size : w.heap.size ≤ w'.heap.size
  block : ∀ k, k < w.heap.size → ¬ F k → w'.heap[k]? = w.heap[k]?
theorem Keeps.refl (F : Nat → Prop) (w : World) : Keeps F w w := ⟨rfl, rfl, rfl, Nat.le_refl _, fun _ _ _ => rfl⟩
theorem Keeps.below {F : Nat → Prop} {a w w' : World} (h : Keeps F a w) (hb : Below w.heap.size w w') : Keeps F a w' :=
  ⟨hb.os.trans h.os, hb.tape.trans h.tape, hb.output.trans h.output, Nat.le_trans h.size hb.size, fun k hk ho => (hb.block k (Nat.lt_of_lt_of_le hk h.size)).trans (h.block k hk ho)⟩
theorem Keeps.grown {F : Nat → Prop} {r : Option Nat} {a w w' : World} (h : Keeps F a w) (hg : w.grownBy w' r) (h1 : ∀ g, r = some g → F g) : Keeps F a w' :=
  ⟨hg.os.trans h.os, hg.tape.trans h.tape, hg.output.trans h.output, Nat.le_trans h.size hg.size, fun k hk ho => (hg.block k (Nat.lt_of_lt_of_le hk h.size) (fun e => ho (h1 k e.symm))).trans (h.block k hk ho)⟩
theorem Keeps.set {F : Nat → Prop} {g : Nat} {a w : World} (h : Keeps F a w) (h1 : F g) (j : Nat) (u : Value) : Keeps F a (w.setCell ⟨g, j, none⟩ u) :=
  h.grown (gb_set (gb_refl _ _) _) (fun g' e => by have := Option.some.inj e; subst this; exact h1)
theorem Keeps.mono {F G : Nat → Prop} {w w' : World} (h : Keeps F w w') (hf : ∀ k, F k → G k) : Keeps G w w' := ⟨h.os, h.tape, h.output, h.size, fun k hk hn => h.block k hk (fun q => hn (hf k q))⟩
theorem Keeps.trans {F : Nat → Prop} {a b c : World} (h : Keeps F a b) (h' : Keeps F b c) : Keeps F a c :=
  ⟨h'.os.trans h.os, h'.tape.trans h.tape, h'.output.trans h.output, Nat.le_trans h.size h'.size, fun k hk hn => (h'.block k (Nat.lt_of_lt_of_le hk h.size) hn).trans (h.block k hk hn)⟩
theorem Keeps.own {F : Nat → Prop} {base size n : Nat} {e : TypeId} {v : Value} {xs : List Value} {w w' : World} (h : Keeps F w w') (ho : w.ownsRow base e size v n xs) (hg : ∀ g, v.ownBlock = some g → ¬ F g) : w'.ownsRow base e size v n xs := by
  refine ⟨ho.1, ?_⟩
  rcases ho.2 with h1 | ⟨g, cap, cur, rfl, h2, h3, h4⟩
  · exact .inl h1
  · have hl := (World.ownsRow.lt ⟨ho.1, .inr ⟨g, cap, cur, rfl, h2, h3, h4⟩⟩ g rfl).2
    exact .inr ⟨g, cap, cur, rfl, h2, (h.block g hl (hg g rfl)).trans h3, h4⟩
theorem Keeps.cell {F : Nat → Prop} {w w' : World} {p : Addr} {v : Value} (h : Keeps F w w') (hc : w.cell? p = some v) (ho : ¬ F p.block) : w'.cell? p = some v := by
  rw [World.cell?_of_block (h.block p.block (lt_of_cell hc) ho)]; exact hc
end Go.Proofs.Ytdohpfckiahlcaa
