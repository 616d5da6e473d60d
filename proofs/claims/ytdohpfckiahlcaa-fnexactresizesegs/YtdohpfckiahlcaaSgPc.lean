/-
  The program's pieces as they lie (since stage 14): a box of size, count, the highest part and a chain of full parts below it; what a store into the box, and rows that grow, leave of it.
-/
import Derived.Test.YtdohpfckiahlcaaSgList
import Derived.Test.YtdohpfckiahlcaaHeldIn
namespace Go.Proofs.Ytdohpfckiahlcaa
open Go.RowKit Go.Extern.Stop Go.Stop Go.Extern Num Go.Lib

/-- A full part: its items, their slice, and the block in which it lies. -/
structure Fp where
  items : List Int
  val : Value
  at_ : Nat
/-- The chain of full parts that a pointer leads to, the highest one first. -/
def Chn (w : World) (B : Nat) : Value → List Fp → Prop
  | p, [] => p = .pointer none
  | p, x :: r => ∃ q, p = .pointer (some ⟨x.at_, 0, none⟩) ∧ B ≤ x.at_ ∧ w.heap[x.at_]? = some (.cells #[x.val, q] 79) ∧ w.ownsRow B 2 1 x.val x.items.length (cellsI x.items) ∧ Chn w B q r
theorem Chn.below {w w' : World} {B : Nat} (hb : Below w.heap.size w w') : ∀ (C : List Fp) (p : Value), Chn w B p C → Chn w' B p C
  | [], _, h => h
  | x :: r, p, ⟨q, h1, h2, h3, h4, h5⟩ => ⟨q, h1, h2, by rw [hb.block x.at_ (Array.getElem?_eq_some_iff.1 h3).1]; exact h3, own_below h4 hb, Chn.below hb r q h5⟩
/-- Another block is turned. -/
theorem Chn.set {w : World} {B b : Nat} (j : Nat) (u : Value) : ∀ (C : List Fp) (p : Value), Chn w B p C → (∀ x ∈ C, x.at_ ≠ b ∧ ∀ g, x.val.ownBlock = some g → g ≠ b) → Chn (w.setCell ⟨b, j, none⟩ u) B p C
  | [], _, h, _ => h
  | x :: r, p, ⟨q, h1, h2, h3, h4, h5⟩, hn => by
    have hx := hn x (List.mem_cons_self ..)
    refine ⟨q, h1, h2, ?_, own_set' h4 hx.2 _, Chn.set j u r q h5 (fun y hy => hn y (List.mem_cons_of_mem _ hy))⟩
    rw [Below.heap_setCell _ _ _ _ (by simpa using hx.1)]; exact h3
/-- A row has grown that is none of the chain's. -/
theorem Chn.grown {w w' : World} {B : Nat} {ro : Option Nat} (hg : w.grownBy w' ro) : ∀ (C : List Fp) (p : Value), Chn w B p C → (∀ x ∈ C, some x.at_ ≠ ro ∧ ∀ g, x.val.ownBlock = some g → ro ≠ some g) → Chn w' B p C
  | [], _, h, _ => h
  | x :: r, p, ⟨q, h1, h2, h3, h4, h5⟩, hn => by
    have hx := hn x (List.mem_cons_self ..)
    refine ⟨q, h1, h2, ?_, own_apart h4 hg (fun g hg' => hx.2 g hg'), Chn.grown hg r q h5 (fun y hy => hn y (List.mem_cons_of_mem _ hy))⟩
    rw [hg.block x.at_ (Array.getElem?_eq_some_iff.1 h3).1 hx.1]; exact h3
theorem Chn.at {w : World} {B : Nat} : ∀ (C : List Fp) (p : Value), Chn w B p C → ∀ x ∈ C, (B ≤ x.at_ ∧ x.at_ < w.heap.size) ∧ w.ownsRow B 2 1 x.val x.items.length (cellsI x.items) ∧ ∃ q, w.heap[x.at_]? = some (.cells #[x.val, q] 79)
  | [], _, _, _, hx => by cases hx
  | x :: r, p, ⟨q, h1, h2, h3, h4, h5⟩, y, hy => by
    rcases List.mem_cons.1 hy with rfl | hy
    · exact ⟨⟨h2, (Array.getElem?_eq_some_iff.1 h3).1⟩, h4, q, h3⟩
    · exact Chn.at r q h5 y hy
/-- Pieces in a box. -/
structure Pcs (w : World) (b B : Nat) (size cnt : Int) (top : List Int) (tv bp : Value) (C : List Fp) : Prop where
  blk : w.heap[b]? = some (.cells #[.int .i64 size, .int .i64 cnt, tv, bp] 64)
  row : w.ownsRow B 2 1 tv top.length (cellsI top)
  chn : Chn w B bp C
  far : ∀ x ∈ C, farV x.val tv
theorem Pcs.lt {w : World} {b B : Nat} {size cnt : Int} {top : List Int} {tv bp : Value} {C : List Fp} (h : Pcs w b B size cnt top tv bp C) : b < w.heap.size := (Array.getElem?_eq_some_iff.1 h.blk).1
theorem Pcs.fz {w : World} {b B : Nat} {size cnt : Int} {top : List Int} {tv bp : Value} {C : List Fp} (h : Pcs w b B size cnt top tv bp C) (j : Nat) : w.frozen? ⟨b, j, none⟩ = false := by simp [World.frozen?, h.blk]
theorem Pcs.cell {w : World} {b B : Nat} {size cnt : Int} {top : List Int} {tv bp : Value} {C : List Fp} (h : Pcs w b B size cnt top tv bp C) : w.cell? ⟨b, 0, none⟩ = some (.int .i64 size) ∧ w.cell? ⟨b, 1, none⟩ = some (.int .i64 cnt) ∧ w.cell? ⟨b, 2, none⟩ = some tv ∧ w.cell? ⟨b, 3, none⟩ = some bp :=
  ⟨by rw [cell_of_row w b 0 _ _ _ h.blk]; rfl, by rw [cell_of_row w b 1 _ _ _ h.blk]; rfl, by rw [cell_of_row w b 2 _ _ _ h.blk]; rfl, by rw [cell_of_row w b 3 _ _ _ h.blk]; rfl⟩
/-- Nothing is turned but the box, and what is laid anew. -/
def KP (b B : Nat) (w w' : World) : Prop := Keeps (fun x => x = b ∨ B ≤ x) w w'
theorem Pcs.below {w w' : World} {b B : Nat} {size cnt : Int} {top : List Int} {tv bp : Value} {C : List Fp} (h : Pcs w b B size cnt top tv bp C) (hb : Below w.heap.size w w') : Pcs w' b B size cnt top tv bp C :=
  ⟨by rw [hb.block b h.lt]; exact h.blk, own_below h.row hb, Chn.below hb C bp h.chn, h.far⟩
/-- The parts that pieces are, the lowest one first. -/
def partsP (C : List Fp) (top : List Int) : List (List Int) := (C.map Fp.items).reverse ++ (if top = [] then [] else [top])
theorem partsP_some (C : List Fp) {top : List Int} (h : top ≠ []) : partsP C top = (C.map Fp.items).reverse ++ [top] := by unfold partsP; rw [if_neg h]
theorem pushL_full {n : Nat} {ps : List (List Int)} (x : Int) (h : fullL n ps = true) : pushL n ps x = ps ++ [[x]] := by unfold pushL; rw [if_pos h]
/-- The highest part is full. -/
theorem partsP_full {n : Nat} (hn : 1 ≤ n) (C : List Fp) (top : List Int) (v : Value) (f : Nat) (x : Int) (h : top.length = n) : partsP (⟨top, v, f⟩ :: C) [x] = pushL n (partsP C top) x := by
  have ht : top ≠ [] := fun e => by rw [e] at h; simp at h; omega
  rw [partsP_some C ht, partsP_some _ (by simp), pushL_full x (by unfold fullL; rw [lastL_snoc]; simp [h])]
  simp
/-- The highest part has room. -/
theorem partsP_room {n : Nat} (C : List Fp) (top : List Int) (x : Int) (h : top.length < n) (hf : ∀ y ∈ C, y.items.length = n) : partsP C (top ++ [x]) = pushL n (partsP C top) x := by
  rw [partsP_some C (by simp)]
  by_cases ht : top = []
  · subst ht
    have e : partsP C [] = (C.map Fp.items).reverse := by unfold partsP; rw [if_pos rfl, List.append_nil]
    rw [e, pushL_full x ?_]; · rfl
    unfold fullL
    cases C with
    | nil => rfl
    | cons y r => rw [List.map_cons, List.reverse_cons, lastL_snoc, hf y (List.mem_cons_self ..)]; simp
  · rw [partsP_some C ht]
    unfold pushL
    rw [if_neg ?_, lastL_snoc, set_snoc]
    unfold fullL
    rw [lastL_snoc]
    simp
    omega
end Go.Proofs.Ytdohpfckiahlcaa
