/-
  The program's shower: its write and isFull; what else was there stays as it was. A shower's blocks: its own, and its row.
-/
import Derived.Test.YtgfienijabkpjaaDoorAppStr
import Derived.Test.YtgfienijabkpjaaDoorRowKit0
import Derived.Test.YtgfienijabkpjaaDoorImplHeap
namespace Go.Proofs.YtgfienijabkpjaaDoor
open Go.RowKit Go.Extern.Stop Go.Stop Go.Extern Num Go.Lib Go.Shelf

/-- A shower over a heap, with its bytes, and the value of its row. -/
def ShwV (n₀ b h : Nat) (v : Value) (bs : List Value) (w : World) : Prop :=
  n₀ ≤ b ∧ w.heap[b]? = some (.cells #[.pointer (some ⟨h, 0, none⟩), v] 114 (0, 0)) ∧ w.ownsRow n₀ 5 1 v bs.length bs ∧ v.ownBlock ≠ some b
theorem ShwV.lt {n₀ b h : Nat} {v : Value} {bs : List Value} {w : World} (H : ShwV n₀ b h v bs w) : b < w.heap.size := (Array.getElem?_eq_some_iff.1 H.2.1).1
/-- Its blocks. -/
def Ms (b : Nat) (W : World) (k : Nat) : Prop := k = b ∨ ∃ p v fr, W.heap[b]? = some (.cells #[p, v] 114 fr) ∧ v.ownBlock = some k
theorem ShwV.ms {n₀ b h : Nat} {v : Value} {bs : List Value} {w : World} (H : ShwV n₀ b h v bs w) {k : Nat} : Ms b w k ↔ k = b ∨ v.ownBlock = some k := by
  obtain ⟨_, hp, _, _⟩ := H
  constructor
  · rintro (h | ⟨p', v', fr, h1, h2⟩)
    · exact .inl h
    · rw [hp] at h1
      obtain ⟨h3, -⟩ : #[_, v] = #[p', v'] ∧ _ := by simpa using h1
      have : v = v' := by simp at h3; exact h3.2
      subst this
      exact .inr h2
  · rintro (h | h)
    · exact .inl h
    · exact .inr ⟨_, v, _, hp, h⟩
set_option maxRecDepth 100000 in
set_option maxHeartbeats 1000000 in
theorem shwrite_any (n₀ b h : Nat) (v : Value) (bs : List Value) (s : ByteArray) (w : World) (H : ShwV n₀ b h v bs w) (hlen : bs.length + s.size ≤ 140737488355328) (hn : n₀ ≤ w.heap.size) :
    Calls Tryd.prog 92 #[.pointer (some ⟨b, 0, none⟩), .string s] w fun e w' => e = .returned (.tuple #[]) ∧ ∃ v', ShwV n₀ b h v' (bs ++ strCells s) w' ∧ Kq n₀ (Ms b) w w' := by
  obtain ⟨i0, hi, hz0, hz1, hz2⟩ := info_parts infoByte
  have hmb : ∀ {k : Nat}, Ms b w k ↔ k = b ∨ v.ownBlock = some k := H.ms
  have hlt := H.lt
  obtain ⟨hB, hbk, hown, hne⟩ := H
  have c0 : w.cell? ⟨b, 0, none⟩ = some (.pointer (some ⟨h, 0, none⟩)) := by rw [cell_of_heap hbk]; rfl
  have c1 : w.cell? ⟨b, 1, none⟩ = some v := by rw [cell_of_heap hbk]; rfl
  go_enter Tryd.func92, Tryd.ntmps92
  go_wp2_with (at_builtin; refine wpList_str_at rfl _ _ 22 9 rfl n₀ 5 i0 Tryd.underlying22 Tryd.underlying9 hi hz0 hz1 hz2 _ _ _ rfl hown s rfl ?c3 ?c4 ?c5 ?_)
  case c3 => unfold maxLen; omega
  case c4 => omega
  case c5 => omega
  intro v' w2 hown' hgrow hat
  have hb2 : w2.heap[b]? = some (.cells #[.pointer (some ⟨h, 0, none⟩), v] 114 (0, 0)) := by
    rw [hgrow.block b (by omega) (fun e => hne e.symm)]
    exact hbk
  have d0 : w2.cell? ⟨b, 0, none⟩ = some (.pointer (some ⟨h, 0, none⟩)) := by rw [cell_of_heap hb2]; rfl
  have d1 : w2.cell? ⟨b, 1, none⟩ = some v := by rw [cell_of_heap hb2]; rfl
  have f1 : w2.frozen? ⟨b, 1, none⟩ = false := frozen_of_heap hb2 1
  obtain ⟨ao, cap, rfl⟩ := own_form hown'
  have hne' : (Value.slice ao (bs.length + s.size) cap).ownBlock ≠ some b := by
    rcases hat with e | e
    · rw [e]; exact hne
    · rw [e]; intro e2; have := Option.some.inj e2; omega
  have hb3 : (w2.setCell ⟨b, 1, none⟩ (.slice ao (bs.length + s.size) cap)).heap[b]? = some (.cells #[.pointer (some ⟨h, 0, none⟩), .slice ao (bs.length + s.size) cap] 114 (0, 0)) := by simp [World.setCell, Array.getElem?_modify, hb2]
  have hnew : ShwV n₀ b h (.slice ao (bs.length + s.size) cap) (bs ++ strCells s) (w2.setCell ⟨b, 1, none⟩ (.slice ao (bs.length + s.size) cap)) := by
    refine ⟨hB, hb3, ?_, hne'⟩
    have hl : (bs ++ strCells s).length = bs.length + s.size := by rw [List.length_append, strCells_length]
    rw [hl]
    exact own_set' hown' (fun g hg e => hne' (by rw [hg]; exact congrArg some e)) _
  have hsz2 := hgrow.size
  have hown_lt : ∀ k, v.ownBlock = some k → n₀ ≤ k := fun k hk => (hown.lt k hk).1
  have HN : Hid (ShwV n₀ b h (.slice ao (bs.length + s.size) cap) (bs ++ strCells s) (w2.setCell ⟨b, 1, none⟩ (.slice ao (bs.length + s.size) cap)) ∧ Kq n₀ (Ms b) w (w2.setCell ⟨b, 1, none⟩ (.slice ao (bs.length + s.size) cap))) := by
    refine ⟨hnew, ?_, fun k hk hm => ?_, fun k hk hm => ?_⟩
    · exact (below_of_grown hgrow (by omega) (fun r e => hown_lt r e)).setCell (p := ⟨b, 1, none⟩) hB _
    · have h1 : k ≠ b := fun e => hm (hmb.2 (.inl e))
      have h2 : some k ≠ v.ownBlock := fun e => hm (hmb.2 (.inr e.symm))
      exact (Below.heap_setCell _ _ _ _ h1).trans (hgrow.block k hk h2)
    · rcases hnew.ms.1 hm with e | e
      · exact hmb.2 (.inl e)
      · rcases hat with e2 | e2
        · exact hmb.2 (.inr (e2.symm.trans e))
        · rw [e] at e2
          have : k = w.heap.size := Option.some.inj e2
          omega
  clear hnew hb3 hne' hat hmb hown' hgrow
  go_wp2
  exact bodyPost_end (v := .tuple #[]) (by simp [results, Tryd.results92]) rfl ⟨rfl, _, HN.out⟩
theorem isFull_any (n₀ b h : Nat) (v : Value) (bs : List Value) (w : World) (H : ShwV n₀ b h v bs w) (hl : bs.length ≤ 1000000) :
    Calls Tryd.prog 103 #[.pointer (some ⟨b, 0, none⟩)] w fun e w' => e = .returned (.bool (decide (120 ≤ bs.length))) ∧ w' = w := by
  obtain ⟨hB, hbk, hown, hne⟩ := H
  obtain ⟨ao, cap, rfl⟩ := own_form hown
  have c1 : w.cell? ⟨b, 1, none⟩ = some (.slice ao bs.length cap) := by rw [cell_of_heap hbk]; rfl
  by_cases h120 : 120 ≤ bs.length
  · have e : decide (120 ≤ bs.length) = true := by simpa using h120
    have e2 : (120 : Int) ≤ (bs.length : Int) := by omega
    rw [e]
    clear hown hbk hne
    go_enter Tryd.func103, Tryd.ntmps103
    go_wp2
    go_ret
    exact ⟨rfl, rfl⟩
  · have e : decide (120 ≤ bs.length) = false := by simpa using h120
    have e2 : ¬ (120 : Int) ≤ (bs.length : Int) := by omega
    rw [e]
    clear hown hbk hne
    go_enter Tryd.func103, Tryd.ntmps103
    go_wp2
    go_ret
    exact ⟨rfl, rfl⟩
end Go.Proofs.YtgfienijabkpjaaDoor
