/-
  Parts of the proof laid into one text, one behind the other; each says at its head what is proved in it.
-/
import Derived.Test.YtebnonpdaddniaaGreatDoorHtE
import Derived.Test.YtebnonpdaddniaaGreatDoorTreeWHt
import Derived.Test.YtebnonpdaddniaaGreatDoorHtG
/-
  What hangs on a place of fine data ends where what is taken out at it ends; and what the program tells of it is what is taken out.
-/
namespace Go.Proofs.YtebnonpdaddniaaGreatDoor
open Go.RowKit

theorem subFrom_at (l : List Dat) (a : Nat) : ∀ (f i j : Nat) (h : j < (subFrom l a f i).length), ∃ hl : i + j < l.length, (subFrom l a f i)[j] = shiftD a (i + j) l[i + j]
  | 0, i, j, h => by simp [subFrom] at h
  | f + 1, i, j, h => by
    by_cases hi : i < l.length
    · by_cases hd : i = a ∨ deepF l 100 (a : Int) < deepF l 100 (i : Int)
      · have e := subFrom_on l a f i hi hd
        cases j with
        | zero => exact ⟨by omega, by simp only [e]; rfl⟩
        | succ j =>
          have h' : j < (subFrom l a f (i + 1)).length := by rw [e] at h; simpa using h
          obtain ⟨h1, h2⟩ := subFrom_at l a f (i + 1) j h'
          refine ⟨by omega, ?_⟩
          have e3 : i + 1 + j = i + (j + 1) := by omega
          simp only [e, List.getElem_cons_succ, h2, e3]
      · rw [subFrom_off l a f i hi hd] at h; simp at h
    · rw [subFrom_end l a _ i (by omega)] at h; simp at h
theorem tellN_at (N : List Dat) (a : Nat) : ∀ (m j : Nat) (_ : a + m ≤ N.length) (h : j < (tellN N a m).length), ∃ hl : a + j < N.length, (tellN N a m)[j] = (((a + j : Nat) : Int), N[a + j])
  | 0, j, _, h => by simp [tellN] at h
  | m + 1, j, hm, h => by
    have e := tellN_next N a m (by omega)
    have hl := tellN_len N a (m + 1) hm
    have hl' := tellN_len N a m (by omega)
    refine ⟨by omega, ?_⟩
    simp only [e]
    by_cases hj : j < m
    · rw [List.getElem_append_left (by omega)]
      exact (tellN_at N a m j (by omega) (by omega)).2
    · have : j = m := by omega
      subst this
      rw [List.getElem_append_right (by omega)]
      simp [hl']
variable {l : List Dat}
theorem endAt_of (F : Fine l) (a : Nat) (ha : a < l.length) : EndAt (nodes l) a (endD l a) := by
  obtain ⟨h1, h2, _, _⟩ := end_facts l a ha
  refine ⟨h1, by rw [nodes_len]; exact h2, fun j hj h3 h4 => ?_, fun h => ?_⟩
  · have hj' : j < l.length := by rw [nodes_len] at hj; exact hj
    rw [nodes_at l j hj']
    show (a : Int) ≤ l[j].parent
    rcases abv_inv (below_abv F a ha j (by omega) h4) with e | ⟨p, hp, hA⟩
    · omega
    · have hpl := F.parlt hj' hp
      have := abv_le F p (by omega) hA
      rw [← par_at l j hj', hp]; omega
  · have hj' : endD l a < l.length := by rw [nodes_len] at h; exact h
    rw [nodes_at l _ hj']
    show l[endD l a].parent < (a : Int)
    have hn := behind_not F a ha (endD l a) (Nat.le_refl _) hj'
    obtain ⟨k, hk⟩ : ∃ k, endD l a = k + 1 := ⟨endD l a - 1, by omega⟩
    obtain ⟨q, hq, hA⟩ := F.line (k := k) (by omega)
    have hpar : par l (endD l a) = (q : Int) := by rw [hk]; exact hq
    have hlt := F.parlt hj' hpar
    rw [← par_at l _ hj', hpar]
    by_cases hqa : q < a
    · omega
    · exact absurd (abv_up hpar (below_abv F a ha q (by omega) hlt)) hn
theorem dk_tk {k : Int} (h : 1 ≤ k ∧ k ≤ 4) : dkD (tkD k) = k := by
  rcases (by omega : k = 1 ∨ k = 2 ∨ k = 3 ∨ k = 4) with rfl | rfl | rfl | rfl <;> decide
theorem told_sub (F : Fine l) (a : Nat) (ha : a < l.length) : (tellN (nodes l) a (endD l a - a)).map (subN a) = subD l a := by
  have hE := endAt_of F a ha
  have h1 := hE.lt
  have h2 := hE.le
  have hlen : (tellN (nodes l) a (endD l a - a)).length = endD l a - a := tellN_len _ a _ (by omega)
  have hsl : (subD l a).length = endD l a - a := by unfold endD; omega
  apply List.ext_getElem
  · rw [List.length_map, hlen, hsl]
  · intro j hj hj'
    rw [List.length_map, hlen] at hj
    obtain ⟨g1, g2⟩ := subFrom_at l a l.length a j hj'
    obtain ⟨k1, k2⟩ := tellN_at (nodes l) a (endD l a - a) j (by omega) (by omega)
    show ((tellN (nodes l) a (endD l a - a)).map (subN a))[j] = (subFrom l a l.length a)[j]
    rw [g2, List.getElem_map, k2, nodes_at l (a + j) g1]
    have hb := (chk_all (F.ok (a + j) g1 g1)).1
    have hkd : 1 ≤ l[a + j].kind ∧ l[a + j].kind ≤ 4 := by
      unfold bareB at hb
      simp at hb
      omega
    show (⟨dkD (tkD l[a + j].kind), max (l[a + j].parent - (a : Int)) (-1), l[a + j].num, l[a + j].name⟩ : Dat) = ⟨l[a + j].kind, if a + j = a then -1 else l[a + j].parent - (a : Int), l[a + j].num, l[a + j].name⟩
    rw [dk_tk hkd]
    have hp := F.parent (a + j) g1
    by_cases e0 : a + j = a
    · rw [if_pos e0, Int.max_eq_right (by omega)]
    · rw [if_neg e0]
      have := hE.inside (a + j) k1 (by omega) (by omega)
      rw [nodes_at l (a + j) g1] at this
      have this' : (a : Int) ≤ l[a + j].parent := this
      rw [Int.max_eq_left (by omega)]
end Go.Proofs.YtebnonpdaddniaaGreatDoor
/-
  The program's treeAt: the tree of data and a place in it, or what is wrong; nothing that was there is turned.
-/
namespace Go.Proofs.YtebnonpdaddniaaGreatDoor
open Go.RowKit Go.Extern.Stop Go.Stop Go.Extern Num Go.Lib Go.Shelf

/-- What treeAt answers. -/
def AnsA (l : List Dat) (z : Int) (w : World) (e : Ending) (w' : World) : Prop :=
  (askD l z ≠ 0 ∧ e = .returned (.tuple #[.pointer none, .int .i64 (askD l z)]) ∧ Below w.heap.size w w') ∨
  (askD l z = 0 ∧ e = .returned (.tuple #[.pointer (some ⟨w.heap.size, 0, none⟩), .int .i64 0]) ∧ OwnT w.heap.size w.heap.size (nodes l) w' ∧ Below w.heap.size w w')
theorem pdn_nodes {l : List Dat} (F : Fine l) (hz : ∀ (k : Nat) (h : k < l.length), l[k].name.size ≤ 1048576) : ∀ (k : Nat) (h : k < (nodes l).length), PdN ((k : Int), (nodes l)[k]) := fun k h => by
  have hk : k < l.length := by rw [nodes_len] at h; exact h
  rw [nodes_at l k hk]
  have := F.parent k hk
  have := F.len
  exact ⟨hz k hk, by show -1 ≤ l[k].parent; omega, by show l[k].parent < 1000; omega⟩
end Go.Proofs.YtebnonpdaddniaaGreatDoor
