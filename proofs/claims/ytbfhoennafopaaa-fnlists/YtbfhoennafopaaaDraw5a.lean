/-
  The model's draws l1Chance, l2Name: each answers, counts on, and turns nothing that was there but the count.
-/
import Derived.Test.YtbfhoennafopaaaFlB
import Derived.Test.YtbfhoennafopaaaRegion
namespace Go.Proofs.Ytbfhoennafopaaa
open Go.RowKit Go.Extern.Stop Go.Stop Go.Extern Num Go.Lib

theorem strs_at (w : World) (L : List ByteArray) (t : TypeId) (B : Nat) (hB : ∀ x ∈ L, x.size ≤ B) (j : Nat) (hj : j < L.length) :
    ∃ s : ByteArray, (w.alloc (.cells (L.map Value.string).toArray t)).cell? ⟨w.heap.size, j, none⟩ = some (.string s) ∧ s.size ≤ B := by
  refine ⟨L[j], ?_, hB _ (List.getElem_mem hj)⟩
  rw [cell_of_row _ w.heap.size j _ t (0, 0) (heap_alloc_new w _)]
  simp [hj]
/-- Where the bytes of the code lie. -/
theorem SrcAt.code {w : World} {b : Nat} {ca : Option Addr} {len cap : Nat} {k : Int} (h : SrcAt w b ca len cap k) : ∀ cb co, ca = some ⟨cb, co, none⟩ → 0 < len → cb < w.heap.size := by
  intro cb co e hl
  obtain ⟨cb', co', e', _, hx⟩ := h.bytes hl
  obtain ⟨x, hx, _⟩ := hx 0 hl
  rw [e] at e'
  obtain ⟨rfl, -⟩ : cb = cb' ∧ co = co' := by simpa using e'
  exact lt_of_cell hx
/-- A world in which nothing has turned but one block g that is neither the source's nor the code's. -/
theorem SrcAt.keep {w w' : World} {b : Nat} {ca : Option Addr} {len cap : Nat} {k : Int} (h : SrcAt w b ca len cap k) (g : Nat) (hk : ∀ i, i < w.heap.size → i ≠ g → w'.heap[i]? = w.heap[i]?) (hb : b ≠ g) (hc : ∀ cb co, ca = some ⟨cb, co, none⟩ → 0 < len → cb ≠ g) : SrcAt w' b ca len cap k := by
  refine ⟨?_, ?_, ?_, fun hl => ?_⟩
  · rw [World.cell?_of_block (w := w) (hk b h.lt hb)]; exact h.c0
  · rw [World.cell?_of_block (w := w) (hk b h.lt hb)]; exact h.c1
  · rw [World.frozen?_of_block (w := w) (hk b h.lt hb)]; exact h.f1
  · obtain ⟨cb, co, e, hne, hx⟩ := h.bytes hl
    refine ⟨cb, co, e, hne, fun j hj => ?_⟩
    obtain ⟨x, hx, x0, x1⟩ := hx j hj
    exact ⟨x, by rw [World.cell?_of_block (w := w) (hk cb (lt_of_cell hx) (hc cb co e hl))]; exact hx, x0, x1⟩
theorem SrcAt.put {w : World} {b : Nat} {ca : Option Addr} {len cap : Nat} {k : Int} (h : SrcAt w b ca len cap k) (g o : Nat) (u : Value) (hb : b ≠ g) (hc : ∀ cb co, ca = some ⟨cb, co, none⟩ → 0 < len → cb ≠ g) : SrcAt (w.setCell ⟨g, o, none⟩ u) b ca len cap k :=
  h.keep g (fun _ _ hi => Below.heap_setCell _ _ _ _ hi) hb hc
theorem Only.put {b g o : Nat} {u w : World} (h : Only b u w) (hg : u.heap.size ≤ g) (x : Value) : Only b u (w.setCell ⟨g, o, none⟩ x) :=
  ⟨h.os, h.tape, h.output, by simpa using h.size, fun k hk hb => (Below.heap_setCell _ _ _ _ (by show k ≠ g; omega)).trans (h.block k hk hb)⟩
theorem only_next (w : World) (b : Nat) (k : Int) (q : Nat) : Only b w ((w.setCell ⟨b, 1, none⟩ (.int .i64 (k + 1))).drewN q) := ((Only.refl b w).setCell _).drewN q

/-- What a draw of a text comes to. -/
def StrRes (w : World) (b : Nat) (ca : Option Addr) (len cap : Nat) (k : Int) (K : Nat) (e : Ending) (w' : World) : Prop :=
  ∃ (s : ByteArray) (k' : Int), e = .returned (.string s) ∧ s.size ≤ 20 ∧ k ≤ k' ∧ k' ≤ k + K ∧ SrcAt w' b ca len cap k' ∧ Only b w w'
set_option maxRecDepth 100000 in
theorem l2name_any (w : World) (b : Nat) (ca : Option Addr) (len cap : Nat) (k : Int) (h : SrcAt w b ca len cap k) (hmax : (len : Int) ≤ 9223372036854775807) (k0 : 0 ≤ k) (k1 : k ≤ 1000000000000) :
    Calls Try.prog 62 #[.pointer (some ⟨b, 0, none⟩)] w fun e w' => StrRes w b ca len cap k 1 e w' := by
  go_enter Try.func62, Try.ntmps62
  go_wp2_with fail
  refine (next_any _ b ca len cap k _ (h.alloc _) hmax k0 k1).mono ?_
  rintro e w1 ⟨r, q, rfl, r0, r1, hw1⟩
  rw [if_neg (by omega)] at r1
  obtain ⟨s, hs, hz⟩ : ∃ s : ByteArray, (w.alloc (.cells #[.string ⟨#[120]⟩, .string ⟨#[121]⟩, .string ⟨#[102]⟩, .string ⟨#[43]⟩, .string ⟨#[99, 97, 114]⟩, .string ⟨#[105, 102]⟩, .string ⟨#[110, 117, 108, 108, 63]⟩, .string ⟨#[97]⟩] 9)).cell? ⟨w.heap.size, r.toNat, none⟩ = some (.string s) ∧ s.size ≤ 20 :=
    strs_at w [⟨#[120]⟩, ⟨#[121]⟩, ⟨#[102]⟩, ⟨#[43]⟩, ⟨#[99, 97, 114]⟩, ⟨#[105, 102]⟩, ⟨#[110, 117, 108, 108, 63]⟩, ⟨#[97]⟩] 9 20 (by decide) r.toNat (by simp; omega)
  have h1 : SrcAt w1 b ca len cap (k + 1) := by rw [hw1]; exact (h.alloc _).next q
  have o1 : Only b w w1 := by rw [hw1]; exact ((Only.refl b w).alloc _).trans (only_next _ b k q)
  have hc : w1.cell? ⟨w.heap.size, r.toNat, none⟩ = some (.string s) := by
    rw [hw1]
    exact (World.cell?_of_block (Below.heap_setCell _ ⟨b, 1, none⟩ _ w.heap.size (Nat.ne_of_gt h.lt))).trans hs
  have r2 : r < 8 := by omega
  clear hw1 hs r1 h
  go_wp2
  go_ret
  exact ⟨s, k + 1, rfl, hz, by omega, by omega, h1, o1⟩
theorem cells3 (w : World) (x0 x1 x2 : Int) (t : TypeId) : ∀ j, j < 3 → ∃ v : Int, (w.alloc (.cells #[.int .i64 x0, .int .i64 x1, .int .i64 x2] t)).cell? ⟨w.heap.size, j, none⟩ = some (.int .i64 v) ∧ AnyI v := by
  intro j hj
  rcases j with _ | _ | _ | j
  · exact ⟨x0, by simp, trivial⟩
  · exact ⟨x1, by simp, trivial⟩
  · exact ⟨x2, by simp, trivial⟩
  · omega
theorem cells4 (w : World) (x0 x1 x2 x3 : Int) (t : TypeId) : ∀ j, j < 4 → ∃ v : Int, (w.alloc (.cells #[.int .i64 x0, .int .i64 x1, .int .i64 x2, .int .i64 x3] t)).cell? ⟨w.heap.size, j, none⟩ = some (.int .i64 v) ∧ AnyI v := by
  intro j hj
  rcases j with _ | _ | _ | _ | j
  · exact ⟨x0, by simp, trivial⟩
  · exact ⟨x1, by simp, trivial⟩
  · exact ⟨x2, by simp, trivial⟩
  · exact ⟨x3, by simp, trivial⟩
  · omega
end Go.Proofs.Ytbfhoennafopaaa
