/-
  The program's tree in memory: a row of nodes (whose part each is, and its token) that a cell names; and the chain of places that one place hangs on.
-/
import Derived.Test.YtllcnkghakaifaaDoorSpecFaultD
import Derived.RangeFuncNested
import Derived.RangeFuncBound
import Derived.RangeFuncCalls
import Derived.RangeFuncLeaves
import Derived.Shelf.Abstract
import Derived.Shelf.RegionOpen
import Derived.WalkKit
import Derived.OwnWalkIn
import Derived.TacticsInMore
import Derived.LoopNIn
import Derived.LoopIn
namespace Go.Proofs.YtllcnkghakaifaaDoor
open Go.RowKit Go.Extern.Stop Go.Stop Go.Extern Num Go.Lib Go.Shelf

/-- A node's cells: whose part it is, and its token (a Dat whose kind is a token's). -/
def nodC (t : Dat) : List Value := [.int .i64 t.parent, .int .i64 t.kind, .int .i64 t.num, .string t.name]
def cellsN : List Dat → List Value
  | [] => []
  | t :: r => nodC t ++ cellsN r
theorem cellsN_append (a b : List Dat) : cellsN (a ++ b) = cellsN a ++ cellsN b := by
  induction a with
  | nil => rfl
  | cons t r ih => simp [cellsN, ih]
theorem cellsN_length (l : List Dat) : (cellsN l).length = l.length * 4 := by
  induction l with
  | nil => rfl
  | cons t r ih => simp [cellsN, nodC, ih]; omega
theorem cellsN_at (l : List Dat) (k : Nat) (h : k < l.length) : (cellsN l)[k * 4]? = some (.int .i64 l[k].parent) ∧ (cellsN l)[k * 4 + 1]? = some (.int .i64 l[k].kind) ∧ (cellsN l)[k * 4 + 2]? = some (.int .i64 l[k].num) ∧ (cellsN l)[k * 4 + 3]? = some (.string l[k].name) := by
  induction l generalizing k with
  | nil => cases h
  | cons t r ih =>
    cases k with
    | zero => exact ⟨rfl, rfl, rfl, rfl⟩
    | succ k =>
      have hk : k < r.length := by simpa using h
      have := ih k hk
      have e : ∀ j, (cellsN (t :: r))[j + 4]? = (cellsN r)[j]? := fun j => by
        show (nodC t ++ cellsN r)[j + 4]? = _
        rw [List.getElem?_append_right (by simp [nodC])]
        simp [nodC]
      have e1 : (k + 1) * 4 = k * 4 + 4 := by omega
      rw [e1, show k * 4 + 4 + 1 = k * 4 + 1 + 4 by omega, show k * 4 + 4 + 2 = k * 4 + 2 + 4 by omega, show k * 4 + 4 + 3 = k * 4 + 3 + 4 by omega, e, e, e, e]
      simpa using this
/-- The nodes that lie in a row. -/
def RowN (w : World) (g : Nat) (l : List Dat) : Prop := ∀ (k : Nat) (h : k < l.length), w.cell? ⟨g, k * 4, none⟩ = some (.int .i64 l[k].parent) ∧ w.cell? ⟨g, k * 4 + 1, none⟩ = some (.int .i64 l[k].kind) ∧ w.cell? ⟨g, k * 4 + 2, none⟩ = some (.int .i64 l[k].num) ∧ w.cell? ⟨g, k * 4 + 3, none⟩ = some (.string l[k].name)
theorem RowN.of {w : World} {base g cap : Nat} {l : List Dat} (h : w.ownsRow base 115 4 (.slice (some ⟨g, 0, none⟩) l.length cap) l.length (cellsN l)) : RowN w g l := by
  intro k hk
  have ha : ∀ j, (⟨g, 0, none⟩ : Addr).add j = ⟨g, j, none⟩ := fun j => by unfold Addr.add; split <;> simp_all
  have hc := h.cells (g := g) rfl
  obtain ⟨h0, h1, h2, h3⟩ := cellsN_at l k hk
  exact ⟨by rw [← ha]; exact hc _ _ h0, by rw [← ha]; exact hc _ _ h1, by rw [← ha]; exact hc _ _ h2, by rw [← ha]; exact hc _ _ h3⟩
theorem RowN.keep {w w' : World} {g n₀ : Nat} {l : List Dat} (h : RowN w g l) (hb : Below n₀ w w') (hg : g < n₀) : RowN w' g l := fun k hk =>
  ⟨(hb.cell (p := ⟨g, k * 4, none⟩) hg).trans (h k hk).1, (hb.cell (p := ⟨g, k * 4 + 1, none⟩) hg).trans (h k hk).2.1, (hb.cell (p := ⟨g, k * 4 + 2, none⟩) hg).trans (h k hk).2.2.1, (hb.cell (p := ⟨g, k * 4 + 3, none⟩) hg).trans (h k hk).2.2.2⟩
/-- A tree: the cell at a block's place names the row of its nodes; both lie below n₀. -/
def IsTree (n₀ : Nat) (w : World) (tb : Nat) (N : List Dat) : Prop :=
  ∃ ao g cap, w.cell? ⟨tb, 0, none⟩ = some (.slice ao N.length cap) ∧ tb < n₀ ∧ g < n₀ ∧ (N ≠ [] → ao = some ⟨g, 0, none⟩) ∧ RowN w g N
theorem IsTree.below {n₀ : Nat} {w w' : World} {tb : Nat} {N : List Dat} (h : IsTree n₀ w tb N) (hb : Below n₀ w w') : IsTree n₀ w' tb N := by
  obtain ⟨ao, g, cap, hc, ht, hg, ha, hr⟩ := h
  exact ⟨ao, g, cap, (hb.cell (p := ⟨tb, 0, none⟩) ht).trans hc, ht, hg, ha, hr.keep hb hg⟩
theorem IsTree.mono {n₀ n₁ : Nat} {w : World} {tb : Nat} {N : List Dat} (h : IsTree n₀ w tb N) (hn : n₀ ≤ n₁) : IsTree n₁ w tb N := by
  obtain ⟨ao, g, cap, hc, ht, hg, ha, hr⟩ := h
  exact ⟨ao, g, cap, hc, by omega, by omega, ha, hr⟩
/-- Whose parts may be: each hangs on one ahead of it, or on nothing. -/
def Pars (N : List Dat) : Prop := ∀ (j : Nat) (h : j < N.length), N[j].parent < (j : Int) ∧ -1 ≤ N[j].parent
/-- A place and all that it hangs on. -/
def upF (N : List Dat) : Nat → Int → List Int
  | 0, _ => []
  | f + 1, a => if a < 0 then [] else a :: upF N f (par N a.toNat)
def upL (N : List Dat) (a : Int) : List Int := upF N (a + 1).toNat a
theorem upF_neg (N : List Dat) (f : Nat) (a : Int) (h : a < 0) : upF N f a = [] := by cases f <;> simp [upF, h]
theorem upF_fuel {N : List Dat} (hp : Pars N) : ∀ (f g : Nat) (a : Int), a < N.length → a < f → a < g → upF N f a = upF N g a := by
  intro f
  induction f with
  | zero => intro g a _ h1 _; rw [upF_neg N _ a (by omega), upF_neg N _ a (by omega)]
  | succ f ih =>
    intro g a ha h1 h2
    by_cases h0 : a < 0
    · rw [upF_neg N _ a h0, upF_neg N _ a h0]
    · obtain ⟨k, rfl⟩ : ∃ k : Nat, a = (k : Int) := ⟨a.toNat, by omega⟩
      cases g with
      | zero => omega
      | succ g =>
        have hk : k < N.length := by omega
        have := hp k hk
        simp only [upF, if_neg h0, Int.toNat_natCast, par_at N k hk]
        rw [ih g _ (by omega) (by omega) (by omega)]
theorem upL_neg (N : List Dat) : upL N (-1) = [] := upF_neg N _ _ (by decide)
theorem upL_at {N : List Dat} (hp : Pars N) (k : Nat) (hk : k < N.length) : upL N (k : Int) = (k : Int) :: upL N N[k].parent := by
  have h0 : ¬ ((k : Int) < 0) := by omega
  have := hp k hk
  unfold upL
  rw [show ((k : Int) + 1).toNat = k + 1 by omega]
  simp only [upF, if_neg h0, Int.toNat_natCast, par_at N k hk]
  rw [upF_fuel hp k (N[k].parent + 1).toNat _ (by omega) (by omega) (by omega)]
theorem upL_len {N : List Dat} (hp : Pars N) : ∀ (k : Nat) (a : Int), a < N.length → a < k → -1 ≤ a → (upL N a).length ≤ k := by
  intro k
  induction k with
  | zero =>
    intro a _ h1 h2
    obtain rfl : a = -1 := (by omega)
    rw [upL_neg]; simp
  | succ k ih =>
    intro a ha h1 h2
    by_cases h0 : a < 0
    · obtain rfl : a = -1 := by omega
      rw [upL_neg]; simp
    · obtain ⟨j, rfl⟩ : ∃ k : Nat, a = (k : Int) := ⟨a.toNat, by omega⟩
      have := hp j (by omega)
      rw [upL_at hp j (by omega)]
      have := ih N[j].parent (by omega) (by omega) (by omega)
      simp; omega
/-- The chain's length is how deep the place lies. -/
theorem deep_up {N : List Dat} (hp : Pars N) : ∀ (k : Nat) (a : Int) (f : Nat), a < N.length → a < k → -1 ≤ a → a < f → deepF N f a = (upL N a).length := by
  intro k
  induction k with
  | zero =>
    intro a f _ h1 h2 _
    obtain rfl : a = -1 := (by omega)
    rw [upL_neg, deepF_neg N f _ (by decide)]; rfl
  | succ k ih =>
    intro a f ha h1 h2 hf
    by_cases h0 : a < 0
    · obtain rfl : a = -1 := by omega
      rw [upL_neg, deepF_neg N f _ (by decide)]; rfl
    · obtain ⟨j, rfl⟩ : ∃ k : Nat, a = (k : Int) := ⟨a.toNat, by omega⟩
      have := hp j (by omega)
      cases f with
      | zero => omega
      | succ f =>
        rw [deepF_at N f j (by omega), upL_at hp j (by omega), ih N[j].parent f (by omega) (by omega) (by omega) (by omega)]
        simp
/-- A place is met from another one up, and is a list: it is in the chain. -/
theorem line_up {N : List Dat} (hp : Pars N) (p : Nat) (hpl : p < N.length) : ∀ (k : Nat) (a : Int) (f : Nat), a < N.length → a < k → -1 ≤ a → a < f → lineF N (p : Int) f a = (decide ((p : Int) ∈ upL N a) && (N[p].kind == 4)) := by
  intro k
  induction k with
  | zero =>
    intro a f _ h1 h2 _
    obtain rfl : a = -1 := (by omega)
    rw [upL_neg, lineF_neg N _ f _ (by decide)]; simp
  | succ k ih =>
    intro a f ha h1 h2 hf
    by_cases h0 : a < 0
    · obtain rfl : a = -1 := by omega
      rw [upL_neg, lineF_neg N _ f _ (by decide)]; simp
    · obtain ⟨j, rfl⟩ : ∃ k : Nat, a = (k : Int) := ⟨a.toNat, by omega⟩
      have hj := hp j (by omega)
      cases f with
      | zero => omega
      | succ f =>
        by_cases e : j = p
        · subst e
          rw [lineF_hit N f j hpl, upL_at hp j hpl]; simp
        · have e' : ((j : Nat) : Int) ≠ (p : Int) := by omega
          rw [lineF_on N _ f j (by omega) e', upL_at hp j (by omega), ih N[j].parent f (by omega) (by omega) (by omega) (by omega)]
          have : ((p : Int) ∈ (j : Int) :: upL N N[j].parent) ↔ (p : Int) ∈ upL N N[j].parent := by
            simp only [List.mem_cons]
            constructor
            · rintro (h | h)
              · omega
              · exact h
            · exact Or.inr
          rw [decide_eq_decide.2 this]
/-- What a round keeps: all that lies below n₀, and the boxes from lo to hi. -/
def Kpx (n₀ lo hi : Nat) (W W' : World) : Prop := Below n₀ W W' ∧ ∀ b, lo ≤ b → b < hi → W'.heap[b]? = W.heap[b]?
theorem kpx_refl (n₀ lo hi : Nat) (W : World) : Kpx n₀ lo hi W W := ⟨Below.refl _ _, fun _ _ _ => rfl⟩
theorem kpx_t {n₀ lo hi : Nat} {A B C : World} (h : Kpx n₀ lo hi A B) (k : Kpx n₀ lo hi B C) : Kpx n₀ lo hi A C := ⟨h.1.trans k.1, fun b h1 h2 => (k.2 b h1 h2).trans (h.2 b h1 h2)⟩
theorem kpx_b {n₀ lo hi : Nat} {w : World} (hn : n₀ ≤ w.heap.size) (hh : hi ≤ w.heap.size) (W : World) (l : Nat) (o o' : Obj) (hl : w.heap.size ≤ l) (h : W.heap[l]? = some o) (h1 : o.isCells = false) (h2 : o.isWalk = false) : Kpx n₀ lo hi W (W.putObj l o') :=
  ⟨belowK_b hn W l o o' hl h h1 h2, fun b _ hb => World.putObj_heap_other (by omega)⟩
theorem kpx_set {n₀ lo hi : Nat} (W : World) (b j : Nat) (v : Value) (hb : n₀ ≤ b) (hx : b < lo ∨ hi ≤ b) : Kpx n₀ lo hi W (W.setCell ⟨b, j, none⟩ v) :=
  ⟨(Below.refl n₀ W).setCell (p := ⟨b, j, none⟩) hb v, fun k h1 h2 => Below.heap_setCell W ⟨b, j, none⟩ v k (by intro e; have : k = b := e; omega)⟩
theorem kpx_below {n₀ lo hi : Nat} {W W' : World} (h : Below W.heap.size W W') (hn : n₀ ≤ W.heap.size) (hh : hi ≤ W.heap.size) : Kpx n₀ lo hi W W' := ⟨h.mono hn, fun b _ hb => h.block b (by omega)⟩
theorem Kpx.cell {n₀ lo hi : Nat} {W W' : World} (h : Kpx n₀ lo hi W W') {b j : Nat} (h1 : lo ≤ b) (h2 : b < hi) : W'.cell? ⟨b, j, none⟩ = W.cell? ⟨b, j, none⟩ := World.cell?_of_block (h.2 b h1 h2)
end Go.Proofs.YtllcnkghakaifaaDoor
