/-
  A stack in a box of its own: where it lies; what a store into the box, an append and a turned part leave of it.
-/
import Derived.Test.YtdohpfckiahlcaaSgSpecF
import Derived.Test.YtdohpfckiahlcaaSgList
import Derived.Test.YtdohpfckiahlcaaHeldIn
import Derived.Deep.CutRange
namespace Go.Proofs.Ytdohpfckiahlcaa
open Go.RowKit Go.Extern.Stop Go.Stop Go.Extern Num Go.Lib

/-- A box of two cells of type Tb: a size and parts, in rows of type T. -/
structure SgB (T Tb : TypeId) (w : World) (b B : Nat) (size : Int) (v : Value) (P : List (List Int × Value)) : Prop where
  blk : w.heap[b]? = some (.cells #[.int .i64 size, v] Tb)
  pv : PV T w B v P
theorem SgB.lt {T Tb : TypeId} {w : World} {b B : Nat} {size : Int} {v : Value} {P : List (List Int × Value)} (h : SgB T Tb w b B size v P) : b < w.heap.size := (Array.getElem?_eq_some_iff.1 h.blk).1
theorem SgB.at {T Tb : TypeId} {w : World} {b B : Nat} {size : Int} {v : Value} {P : List (List Int × Value)} (h : SgB T Tb w b B size v P) : SegAt w b size v :=
  ⟨by rw [cell_of_row w b 0 _ Tb _ h.blk]; rfl, by rw [cell_of_row w b 1 _ Tb _ h.blk]; rfl⟩
theorem SgB.fz {T Tb : TypeId} {w : World} {b B : Nat} {size : Int} {v : Value} {P : List (List Int × Value)} (h : SgB T Tb w b B size v P) (j : Nat) : w.frozen? ⟨b, j, none⟩ = false := by simp [World.frozen?, h.blk]
theorem blk_ne {w : World} {b B n size : Nat} {T Tb : TypeId} {v : Value} {xs : List Value} {cs : Array Value} {fr : Nat × Nat} (h : w.heap[b]? = some (.cells cs Tb fr)) (ho : w.ownsRow B T size v n xs) (hT : T ≠ Tb) : ∀ g, v.ownBlock = some g → g ≠ b := by
  intro g hg e
  subst e
  rcases ho.2 with ⟨rfl, _⟩ | ⟨g1, cap, cur, rfl, _, hgg, _⟩
  · cases hg
  · have e1 : g1 = g := by simpa [Value.ownBlock] using hg
    subst e1
    rw [h] at hgg
    injection hgg with h1
    injection h1 with _ h2
    exact hT h2.symm
theorem SgB.far {T Tb : TypeId} {w : World} {b B : Nat} {size : Int} {v : Value} {P : List (List Int × Value)} (h : SgB T Tb w b B size v P) (h1 : T ≠ Tb) (h2 : 2 ≠ Tb) : ∀ x, footP v P x → x ≠ b := fun x hx => by
  rcases hx with e | ⟨i, hi, e⟩
  · exact blk_ne h.blk h.pv.row h1 x e
  · exact blk_ne h.blk (h.pv.iv.items i hi) h2 x e
theorem SgB.below {T Tb : TypeId} {w w' : World} {b B : Nat} {size : Int} {v : Value} {P : List (List Int × Value)} (h : SgB T Tb w b B size v P) (hb : Below w.heap.size w w') : SgB T Tb w' b B size v P :=
  ⟨by rw [hb.block b h.lt]; exact h.blk, h.pv.below hb⟩
/-- A box laid behind the parts. -/
theorem SgB.new {T Tb : TypeId} {w : World} {B : Nat} {size : Int} {v : Value} {P : List (List Int × Value)} (h : PV T w B v P) : SgB T Tb (w.alloc (.cells #[.int .i64 size, v] Tb)) w.heap.size B size v P :=
  ⟨heap_alloc_new _ _, h.below ((Below.refl _ _).alloc (Nat.le_refl _) _)⟩
/-- The parts stored anew, where they lie in a world that has grown by rows of theirs. -/
theorem SgB.store {T Tb : TypeId} {w : World} {b B : Nat} {size : Int} {v v' : Value} {P' : List (List Int × Value)} (hb : w.heap[b]? = some (.cells #[.int .i64 size, v] Tb)) (h' : PV T w B v' P') (h1 : T ≠ Tb) (h2 : 2 ≠ Tb) : SgB T Tb (w.setCell ⟨b, 1, none⟩ v') b B size v' P' := by
  refine ⟨?_, own_set' h'.row (fun g hg => blk_ne hb h'.row h1 g hg) _, fun i hi => own_set' (h'.iv.items i hi) (fun g hg => blk_ne hb (h'.iv.items i hi) h2 g hg) _, h'.iv.apart⟩
  rw [heap_setCell_same w b 1 _ Tb v' hb]
  rfl
theorem blk_grown {w w' : World} {b : Nat} {o : Obj} {r : Option Nat} (h : w.heap[b]? = some o) (hg : w.grownBy w' r) (hn : some b ≠ r) : w'.heap[b]? = some o := by
  rw [hg.block b (Array.getElem?_eq_some_iff.1 h).1 hn]; exact h
/-- Nothing below B is turned but the box. -/
def KB (b B : Nat) (w w' : World) : Prop := Keeps (fun x => x = b ∨ B ≤ x) w w'
theorem KB.refl (b B : Nat) (w : World) : KB b B w w := Keeps.refl _ _
theorem KB.trans {b B : Nat} {w w1 w2 : World} (h : KB b B w w1) (h' : KB b B w1 w2) : KB b B w w2 := Keeps.trans h h'
theorem KB.below {b B : Nat} {a w w' : World} (h : KB b B a w) (hb : Below w.heap.size w w') : KB b B a w' := Keeps.below h hb
theorem KB.grown {b B : Nat} {r : Option Nat} {a w w' : World} (h : KB b B a w) (hg : w.grownBy w' r) (h1 : ∀ g, r = some g → B ≤ g) : KB b B a w' := Keeps.grown h hg (fun g hg' => .inr (h1 g hg'))
theorem KB.box {b B : Nat} {a w : World} (h : KB b B a w) (j : Nat) (u : Value) : KB b B a (w.setCell ⟨b, j, none⟩ u) := Keeps.set h (.inl rfl) j u
theorem KB.high {b B g : Nat} {a w : World} (h : KB b B a w) (hg : B ≤ g) (j : Nat) (u : Value) : KB b B a (w.setCell ⟨g, j, none⟩ u) := Keeps.set h (.inr hg) j u
theorem KB.to {b B C : Nat} {w w' : World} (h : KB b B w w') (h1 : C ≤ b) (h2 : C ≤ B) (h3 : C ≤ w.heap.size) : Below C w w' :=
  ⟨h.os, h.tape, h.output, h.size, fun k hk => h.block k (by omega) (by omega)⟩
end Go.Proofs.Ytdohpfckiahlcaa
