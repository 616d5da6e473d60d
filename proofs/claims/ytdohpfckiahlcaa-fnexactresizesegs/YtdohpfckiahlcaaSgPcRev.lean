/-
  slices.Reverse at a row of slices that is the program's own.
-/
import Derived.Test.YtdohpfckiahlcaaSgPcPts
import Derived.Test.YtdohpfckiahlcaaShelfRev
import Derived.Lib.RowBridge
namespace Go.Proofs.Ytdohpfckiahlcaa
open Go.RowKit Go.Extern.Stop Go.Stop Go.Extern Num Go.Lib

abbrev encS : (Option Addr × Nat × Nat) → Value := fun x => Value.slice x.1 x.2.1 x.2.2
def decS : Value → Option Addr × Nat × Nat
  | .slice a n c => (a, n, c)
  | _ => (none, 0, 0)
theorem dec_enc : ∀ (xs : List Value), (∀ v ∈ xs, ∃ a n c, v = Value.slice a n c) → (xs.map decS).map encS = xs
  | [], _ => rfl
  | v :: r, h => by
    obtain ⟨a, n, c, rfl⟩ := h v (List.mem_cons_self ..)
    rw [List.map_cons, List.map_cons, dec_enc r (fun y hy => h y (List.mem_cons_of_mem _ hy))]
    rfl
theorem putS_take (L2 : List (Option Addr × Nat × Nat)) (cur : Array Value) (h : L2.length ≤ cur.size) : (Go.Sort.putCells encS 0 L2.toArray cur).toList.take L2.length = L2.map encS := by
  apply List.ext_getElem
  · simp [Go.Sort.putCells]; omega
  · intro k h1 h2
    have hk : k < L2.length := by simpa using h2
    simp [Go.Sort.putCells, hk]
theorem putS_heap (w : World) (q g : Nat) (L2 : List (Option Addr × Nat × Nat)) (cur : Array Value) (T : TypeId) (fz : Nat × Nat) (h : w.heap[g]? = some (.cells cur T fz)) : (Go.Sort.putRow encS (Go.Sort.ahead w q) g 0 L2.toArray).heap[g]? = some (.cells (Go.Sort.putCells encS 0 L2.toArray cur) T fz) := by
  simp [Go.Sort.putRow, Go.Sort.mapBlock, Array.getElem?_modify, h, Go.Sort.onCells]
theorem putS_grown (w : World) (q g : Nat) (L2 : List (Option Addr × Nat × Nat)) : w.grownBy (Go.Sort.putRow encS (Go.Sort.ahead w q) g 0 L2.toArray) (some g) :=
  ⟨rfl, rfl, rfl, by simp, fun k hk hn => by
    have : g ≠ k := fun e => hn (by rw [e])
    simp [Go.Sort.putRow, Go.Sort.mapBlock, Array.getElem?_modify, this]⟩
theorem own_holdsS {w : World} {base g cap : Nat} {L : List (Option Addr × Nat × Nat)} (h : w.ownsRow base 42 1 (.slice (some ⟨g, 0, none⟩) L.length cap) L.length (L.map encS)) : Go.Sort.Holds encS w g 0 L.toArray := by
  intro j hj
  have hj' : j < L.length := by simpa using hj
  have ha : ∀ j, (⟨g, 0, none⟩ : Addr).add j = ⟨g, j, none⟩ := fun j => by unfold Addr.add; split <;> simp_all
  have hc : w.cell? ⟨g, j, none⟩ = some (encS L[j]) := by
    rw [← ha]
    exact h.cells (g := g) rfl j _ (by simp [hj'])
  refine ⟨?_, ?_⟩
  · rw [Nat.zero_add, hc]; simp [hj']
  · rw [Nat.zero_add]; exact own_frozen h j
set_option maxRecDepth 100000 in
theorem rev_ok : RevOk := fun u B g c xs _ hl hs h => by
  obtain ⟨L, hL⟩ : ∃ L, L = xs.map decS := ⟨_, rfl⟩
  have e : L.map encS = xs := by rw [hL]; exact dec_enc xs hs
  have hlen : L.length = xs.length := by rw [hL, List.length_map]
  rw [← e] at h ⊢
  rw [List.length_map] at h ⊢
  refine (Try.rev_slices g 0 c L u (own_holdsS h) (by omega)).mono ?_
  rintro e' w' ⟨rfl, n, rfl⟩
  refine ⟨rfl, ?_, putS_grown u n g L.reverse⟩
  obtain ⟨_, h2⟩ := h
  rcases h2 with ⟨e1, _⟩ | ⟨g', cap', cur, e1, hb, hc, hn, hmx, hsz, _⟩
  · cases e1
  · obtain ⟨rfl, rfl⟩ : g = g' ∧ c = cap' := by simp at e1; exact e1
    refine ⟨by simp, .inr ⟨g, c, _, rfl, hb, putS_heap u n g L.reverse cur _ _ hc, hn, hmx, by simpa [Go.Sort.putCells] using hsz, ?_⟩⟩
    have ht := putS_take L.reverse cur (by rw [List.length_reverse]; omega)
    rw [List.length_reverse] at ht
    rw [Nat.mul_one, ht, List.map_reverse]
end Go.Proofs.Ytdohpfckiahlcaa
