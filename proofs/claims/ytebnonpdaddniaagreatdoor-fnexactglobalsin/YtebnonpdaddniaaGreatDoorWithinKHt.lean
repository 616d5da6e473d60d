/-
  Parts of the proof laid into one text, one behind the other; each says at its head what is proved in it.
-/
import Derived.Test.YtebnonpdaddniaaGreatDoorHtC
/-
  Worlds of which nothing is turned but blocks between two numbers, and those that are new (as in MkOp, which bears the same names: never beside it).
-/
namespace Go.Proofs.YtebnonpdaddniaaGreatDoor
open Go.RowKit Go.Extern.Stop Go.Stop Go.Extern Num Go.Lib

/-- Nothing is turned but blocks from lo on and below hi, and those that are new. -/
structure Within (lo hi : Nat) (w w' : World) : Prop where
  os : w'.os = w.os
  tape : w'.tape = w.tape
  output : w'.output = w.output
  size : w.heap.size ≤ w'.heap.size
  block : ∀ k, k < w.heap.size → (k < lo ∨ hi ≤ k) → w'.heap[k]? = w.heap[k]?
theorem Within.refl (lo hi : Nat) (w : World) : Within lo hi w w := ⟨rfl, rfl, rfl, Nat.le_refl _, fun _ _ _ => rfl⟩
theorem Within.below {lo hi : Nat} {a w w' : World} (h : Within lo hi a w) (hb : Below w.heap.size w w') : Within lo hi a w' :=
  ⟨hb.os.trans h.os, hb.tape.trans h.tape, hb.output.trans h.output, Nat.le_trans h.size hb.size, fun k hk ho => (hb.block k (Nat.lt_of_lt_of_le hk h.size)).trans (h.block k hk ho)⟩
theorem Within.grown {lo hi g : Nat} {a w w' : World} (h : Within lo hi a w) (hg : w.grownBy w' (some g)) (h1 : lo ≤ g) (h2 : g < hi) : Within lo hi a w' :=
  ⟨hg.os.trans h.os, hg.tape.trans h.tape, hg.output.trans h.output, Nat.le_trans h.size hg.size, fun k hk ho => (hg.block k (Nat.lt_of_lt_of_le hk h.size) (fun e => by have := Option.some.inj e; omega)).trans (h.block k hk ho)⟩
theorem Within.set {lo hi g : Nat} {a w : World} (h : Within lo hi a w) (h1 : lo ≤ g) (h2 : g < hi) (j : Nat) (u : Value) : Within lo hi a (w.setCell ⟨g, j, none⟩ u) :=
  h.grown (gb_set (gb_refl _ _) _) h1 h2
theorem Within.cell {lo hi : Nat} {w w' : World} {p : Addr} {v : Value} (h : Within lo hi w w') (hc : w.cell? p = some v) (ho : p.block < lo ∨ hi ≤ p.block) : w'.cell? p = some v := by
  rw [World.cell?_of_block (h.block p.block (lt_of_cell hc) ho)]; exact hc
theorem Within.own {lo hi base size n : Nat} {e : TypeId} {v : Value} {xs : List Value} {w w' : World} (h : Within lo hi w w') (ho : w.ownsRow base e size v n xs) (hg : ∀ g, v.ownBlock = some g → g < lo ∨ hi ≤ g) : w'.ownsRow base e size v n xs := by
  refine ⟨ho.1, ?_⟩
  rcases ho.2 with h1 | ⟨g, cap, cur, rfl, h2, h3, h4⟩
  · exact .inl h1
  · have hl := (World.ownsRow.lt ⟨ho.1, .inr ⟨g, cap, cur, rfl, h2, h3, h4⟩⟩ g rfl).2
    exact .inr ⟨g, cap, cur, rfl, h2, (h.block g hl (hg g rfl)).trans h3, h4⟩
end Go.Proofs.YtebnonpdaddniaaGreatDoor
