/-
  Stacks in pieces as they lie: what is read where one leads (SeeI, SeeP); parts in rows of their own, apart from one another (PV).
-/
import Derived.Test.YtdohpfckiahlcaaKeepKit
import Derived.Test.YtdohpfckiahlcaaIntRow
import Derived.Test.YtdohpfckiahlcaaSgMath
namespace Go.Proofs.Ytdohpfckiahlcaa
open Go.RowKit Go.Extern.Stop Go.Stop Go.Extern Num Go.Lib

/-- What is read where a slice of int64 leads. -/
def SeeI (w : World) (v : Value) (l : List Int) : Prop :=
  ∃ a c, v = .slice a l.length c ∧ (0 < l.length → ∃ b off, a = some ⟨b, off, none⟩ ∧ ∀ (k : Nat) (h : k < l.length), w.cell? ⟨b, off + k, none⟩ = some (.int .i64 l[k]))
theorem SeeI.below {w w' : World} {v : Value} {l : List Int} (h : SeeI w v l) (hb : Below w.heap.size w w') : SeeI w' v l := by
  obtain ⟨a, c, e, hc⟩ := h
  refine ⟨a, c, e, fun hl => ?_⟩
  obtain ⟨b, off, e2, h2⟩ := hc hl
  exact ⟨b, off, e2, fun k hk => cell_keep hb (h2 k hk)⟩
theorem seeI_own {w : World} {B : Nat} {v : Value} {l : List Int} (h : w.ownsRow B 2 1 v l.length (cellsI l)) : SeeI w v l := by
  obtain ⟨ao, cap, rfl⟩ := own_form h
  refine ⟨ao, cap, rfl, fun hl => ?_⟩
  obtain ⟨g, c, hv, _, _⟩ := h.form hl
  obtain ⟨rfl, rfl⟩ : ao = some ⟨g, 0, none⟩ ∧ cap = c := by simp at hv; exact hv
  exact ⟨g, 0, rfl, fun k hk => by rw [Nat.zero_add]; exact rowI_at h k hk⟩
/-- What is read where a slice of parts leads. -/
def SeeP (w : World) (v : Value) (ps : List (List Int)) : Prop :=
  ∃ a c, v = .slice a ps.length c ∧ (0 < ps.length → ∃ b off, a = some ⟨b, off, none⟩ ∧ ∀ (k : Nat) (h : k < ps.length), ∃ u, w.cell? ⟨b, off + k, none⟩ = some u ∧ SeeI w u ps[k])
theorem SeeP.below {w w' : World} {v : Value} {ps : List (List Int)} (h : SeeP w v ps) (hb : Below w.heap.size w w') : SeeP w' v ps := by
  obtain ⟨a, c, e, hc⟩ := h
  refine ⟨a, c, e, fun hl => ?_⟩
  obtain ⟨b, off, e2, h2⟩ := hc hl
  refine ⟨b, off, e2, fun k hk => ?_⟩
  obtain ⟨u, q1, q2⟩ := h2 k hk
  exact ⟨u, cell_keep hb q1, q2.below hb⟩
/-- Items in rows, apart from one another. -/
structure IV (w : World) (B : Nat) (P : List (List Int × Value)) : Prop where
  items : ∀ (i : Nat) (h : i < P.length), w.ownsRow B 2 1 P[i].2 P[i].1.length (cellsI P[i].1)
  apart : ∀ (i j : Nat) (hi : i < P.length) (hj : j < P.length), i ≠ j → farV P[i].2 P[j].2
def footI (P : List (List Int × Value)) (b : Nat) : Prop := ∃ (i : Nat) (h : i < P.length), P[i].2.ownBlock = some b
theorem IV.nil (w : World) (B : Nat) : IV w B [] := ⟨fun i h => absurd h (Nat.not_lt_zero i), fun i _ h => absurd h (Nat.not_lt_zero i)⟩
theorem IV.below {w w' : World} {B : Nat} {P : List (List Int × Value)} (h : IV w B P) (hb : Below w.heap.size w w') : IV w' B P := ⟨fun i hi => own_below (h.items i hi) hb, h.apart⟩
theorem IV.base {w : World} {B B' : Nat} {P : List (List Int × Value)} (h : IV w B P) (hb : B' ≤ B) : IV w B' P := ⟨fun i hi => own_base (h.items i hi) hb, h.apart⟩
theorem IV.foot {w : World} {B : Nat} {P : List (List Int × Value)} (h : IV w B P) {b : Nat} (hb : footI P b) : B ≤ b ∧ b < w.heap.size := by
  obtain ⟨i, hi, e⟩ := hb
  exact (h.items i hi).lt b e
theorem IV.keeps {F : Nat → Prop} {w w' : World} {B : Nat} {P : List (List Int × Value)} (h : IV w B P) (hk : Keeps F w w') (hf : ∀ b, footI P b → ¬ F b) : IV w' B P :=
  ⟨fun i hi => hk.own (h.items i hi) (fun g hg => hf g ⟨i, hi, hg⟩), h.apart⟩
/-- Another row has grown, of another type. -/
theorem IV.aside {w w' : World} {B B' size n : Nat} {T : TypeId} {v' : Value} {xs : List Value} {P : List (List Int × Value)} (h : IV w B P) (ho : w.ownsRow B' T size v' n xs) (hg : w.grownBy w' v'.ownBlock) (h1 : 2 ≠ T) : IV w' B P :=
  ⟨fun i hi => own_apart (h.items i hi) hg (fun g hg' => typ_ne (h.items i hi) ho h1 g hg'), h.apart⟩
theorem IV.put {w : World} {B B' size n g cap : Nat} {T : TypeId} {xs : List Value} {P : List (List Int × Value)} (h : IV w B P) (ho : w.ownsRow B' T size (.slice (some ⟨g, 0, none⟩) n cap) n xs) (h1 : 2 ≠ T) (j : Nat) (u : Value) : IV (w.setCell ⟨g, j, none⟩ u) B P :=
  ⟨fun i hi => own_set' (h.items i hi) (fun b hb e => by subst e; exact typ_ne (h.items i hi) ho h1 _ hb rfl) u, h.apart⟩
theorem IV.setLow {w : World} {B b j : Nat} {x : Value} {P : List (List Int × Value)} (h : IV w B P) (hb : b < B) : IV (w.setCell ⟨b, j, none⟩ x) B P := ⟨fun i hi => own_set_low (h.items i hi) hb x, h.apart⟩
theorem iv_at {P : List (List Int × Value)} {x : List Int × Value} (i : Nat) (hi : i < (P ++ [x]).length) : (∃ hi' : i < P.length, (P ++ [x])[i] = P[i]) ∨ (i = P.length ∧ (P ++ [x])[i] = x) := by
  by_cases e : i < P.length
  · exact .inl ⟨e, List.getElem_append_left e⟩
  · simp only [List.length_append, List.length_cons, List.length_nil] at hi
    have : i = P.length := by omega
    subst this
    exact .inr ⟨rfl, by simp⟩
/-- One more, apart from all others. -/
theorem IV.more {w : World} {B : Nat} {P : List (List Int × Value)} {l : List Int} {v : Value} (h : IV w B P) (ho : w.ownsRow B 2 1 v l.length (cellsI l)) (hf : ∀ (i : Nat) (hi : i < P.length), farV P[i].2 v) : IV w B (P ++ [(l, v)]) := by
  refine ⟨fun i hi => ?_, fun i j hi hj hn b hb hb' => ?_⟩
  · rcases iv_at i hi with ⟨hi', e⟩ | ⟨-, e⟩
    · rw [e]; exact h.items i hi'
    · rw [e]; exact ho
  · rcases iv_at i hi with ⟨hi', e⟩ | ⟨hie, e⟩ <;> rcases iv_at j hj with ⟨hj', e'⟩ | ⟨hje, e'⟩
    · rw [e] at hb; rw [e'] at hb'; exact h.apart i j hi' hj' hn b hb hb'
    · rw [e] at hb; rw [e'] at hb'; exact hf i hi' b hb hb'
    · rw [e] at hb; rw [e'] at hb'; exact hf j hj' b hb' hb
    · omega
/-- One more, made anew. -/
theorem IV.snoc {w w1 : World} {B : Nat} {P : List (List Int × Value)} {l : List Int} {v : Value} (h : IV w B P) (hb : Below w.heap.size w w1) (hB : B ≤ w.heap.size) (ho : w1.ownsRow w.heap.size 2 1 v l.length (cellsI l)) : IV w1 B (P ++ [(l, v)]) :=
  (h.below hb).more (own_base ho hB) fun i hi b hb' e => by
    have h1 := ((h.items i hi).lt b hb').2
    have h2 := (ho.lt b e).1
    omega
/-- One turned: it lies where it lay, or anew. -/
theorem IV.turn {w w' : World} {B : Nat} {P : List (List Int × Value)} {k : Nat} {l : List Int} {v : Value} (h : IV w B P) (hk : k < P.length) (hg : w.grownBy w' P[k].2.ownBlock) (ho : w'.ownsRow B 2 1 v l.length (cellsI l)) (hv : ∀ b, v.ownBlock = some b → P[k].2.ownBlock = some b ∨ w.heap.size ≤ b) : IV w' B (P.set k (l, v)) := by
  have hat : ∀ (i : Nat) (hi : i < (P.set k (l, v)).length), (i = k ∧ (P.set k (l, v))[i] = (l, v)) ∨ (i ≠ k ∧ ∃ hi' : i < P.length, (P.set k (l, v))[i] = P[i]) := fun i hi => by
    rw [List.length_set] at hi
    by_cases e : i = k
    · subst e; exact .inl ⟨rfl, by simp⟩
    · exact .inr ⟨e, hi, by rw [List.getElem_set_ne (by omega)]⟩
  have hfar : ∀ (i : Nat) (hi : i < P.length), i ≠ k → ∀ b, P[i].2.ownBlock = some b → v.ownBlock ≠ some b := fun i hi hn b hb e => by
    rcases hv b e with q | q
    · exact h.apart i k hi hk hn b hb q
    · have := ((h.items i hi).lt b hb).2; omega
  refine ⟨fun i hi => ?_, fun i j hi hj hn b hb hb' => ?_⟩
  · rcases hat i hi with ⟨-, e⟩ | ⟨hn, hi', e⟩
    · rw [e]; exact ho
    · rw [e]; exact own_apart (h.items i hi') hg (fun b hb e => h.apart i k hi' hk hn b hb e)
  · rcases hat i hi with ⟨hi1, e⟩ | ⟨hn1, hi', e⟩ <;> rcases hat j hj with ⟨hj1, e'⟩ | ⟨hn2, hj', e'⟩
    · omega
    · rw [e] at hb; rw [e'] at hb'; exact hfar j hj' hn2 b hb' hb
    · rw [e] at hb; rw [e'] at hb'; exact hfar i hi' hn1 b hb hb'
    · rw [e] at hb; rw [e'] at hb'; exact h.apart i j hi' hj' hn b hb hb'
theorem IV.take {w : World} {B : Nat} {P : List (List Int × Value)} (h : IV w B P) (k : Nat) : IV w B (P.take k) := by
  refine ⟨fun i hi => ?_, fun i j hi hj hn => ?_⟩
  · rw [List.getElem_take]; rw [List.length_take] at hi; exact h.items i (by omega)
  · rw [List.getElem_take, List.getElem_take]; rw [List.length_take] at hi hj; exact h.apart i j (by omega) (by omega) hn
/-- Parts in a row of type T, each leading to a row of its own. -/
structure PV (T : TypeId) (w : World) (B : Nat) (v : Value) (P : List (List Int × Value)) : Prop where
  row : w.ownsRow B T 1 v P.length (P.map Prod.snd)
  iv : IV w B P
def footP (v : Value) (P : List (List Int × Value)) (b : Nat) : Prop := v.ownBlock = some b ∨ footI P b
theorem PV.below {T : TypeId} {w w' : World} {B : Nat} {v : Value} {P : List (List Int × Value)} (h : PV T w B v P) (hb : Below w.heap.size w w') : PV T w' B v P := ⟨own_below h.row hb, h.iv.below hb⟩
theorem PV.base {T : TypeId} {w : World} {B B' : Nat} {v : Value} {P : List (List Int × Value)} (h : PV T w B v P) (hb : B' ≤ B) : PV T w B' v P := ⟨own_base h.row hb, h.iv.base hb⟩
theorem PV.foot {T : TypeId} {w : World} {B : Nat} {v : Value} {P : List (List Int × Value)} (h : PV T w B v P) {b : Nat} (hb : footP v P b) : B ≤ b ∧ b < w.heap.size := by
  rcases hb with e | e
  · exact h.row.lt b e
  · exact h.iv.foot e
theorem PV.keeps {F : Nat → Prop} {T : TypeId} {w w' : World} {B : Nat} {v : Value} {P : List (List Int × Value)} (h : PV T w B v P) (hk : Keeps F w w') (hf : ∀ b, footP v P b → ¬ F b) : PV T w' B v P :=
  ⟨hk.own h.row (fun g hg => hf g (.inl hg)), h.iv.keeps hk (fun b hb => hf b (.inr hb))⟩
theorem PV.setLow {T : TypeId} {w : World} {B b j : Nat} {v x : Value} {P : List (List Int × Value)} (h : PV T w B v P) (hb : b < B) : PV T (w.setCell ⟨b, j, none⟩ x) B v P := ⟨own_set_low h.row hb x, h.iv.setLow hb⟩
theorem PV.form {T : TypeId} {w : World} {B : Nat} {v : Value} {P : List (List Int × Value)} (h : PV T w B v P) : ∃ ao cap, v = .slice ao P.length cap := own_form h.row
theorem rowP_at {T : TypeId} {w : World} {B g cap n : Nat} {P : List (List Int × Value)} (h : w.ownsRow B T 1 (.slice (some ⟨g, 0, none⟩) n cap) P.length (P.map Prod.snd)) (k : Nat) (hk : k < P.length) : w.cell? ⟨g, k, none⟩ = some P[k].2 := by
  have ha : ∀ j, (⟨g, 0, none⟩ : Addr).add j = ⟨g, j, none⟩ := fun j => by unfold Addr.add; split <;> simp_all
  obtain ⟨ao, c, e⟩ := own_form h
  injection e with e1 e2 e3
  subst e2
  rw [← ha]
  exact h.cells (g := g) rfl k _ (by simp [hk])
theorem PV.see {T : TypeId} {w : World} {B : Nat} {v : Value} {P : List (List Int × Value)} (h : PV T w B v P) : SeeP w v (P.map Prod.fst) := by
  obtain ⟨ao, cap, rfl⟩ := h.form
  refine ⟨ao, cap, by simp, fun hl => ?_⟩
  have hl' : 0 < P.length := by simpa using hl
  obtain ⟨g, c, hv, _, _⟩ := h.row.form hl'
  obtain ⟨rfl, rfl⟩ : ao = some ⟨g, 0, none⟩ ∧ cap = c := by simp at hv; exact hv
  refine ⟨g, 0, rfl, fun k hk => ?_⟩
  have hk' : k < P.length := by simpa using hk
  refine ⟨P[k].2, by rw [Nat.zero_add]; exact rowP_at h.row k hk', ?_⟩
  rw [List.getElem_map]
  exact seeI_own (h.iv.items k hk')
/-- One part more. -/
theorem PV.snoc {T : TypeId} {w w' : World} {B n cap' g' cm : Nat} {am : Option Addr} {l : List Int} {x : Value} {P : List (List Int × Value)} (h : PV T w B (.slice am n cm) P) (hT : 2 ≠ T) (hn : n = P.length) (hi : IV w B (P ++ [(l, x)])) (ho : w'.ownsRow B T 1 (.slice (some ⟨g', 0, none⟩) (n + 1) cap') (n + 1) (P.map Prod.snd ++ [x])) (hg : w.grownBy w' (Value.slice am n cm).ownBlock) : PV T w' B (.slice (some ⟨g', 0, none⟩) (n + 1) cap') (P ++ [(l, x)]) := by
  subst hn
  refine ⟨?_, hi.aside h.row hg hT⟩
  rw [List.length_append, List.map_append]
  exact ho
/-- A part turned in its place. -/
theorem PV.turn {T : TypeId} {w w' : World} {B g n cap : Nat} {P : List (List Int × Value)} {k : Nat} {l : List Int} {v : Value} (h : PV T w B (.slice (some ⟨g, 0, none⟩) n cap) P) (hT : 2 ≠ T) (hk : k < P.length) (hg : w.grownBy w' P[k].2.ownBlock) (ho : w'.ownsRow B 2 1 v l.length (cellsI l)) (hv : ∀ b, v.ownBlock = some b → P[k].2.ownBlock = some b ∨ w.heap.size ≤ b) : PV T (w'.setCell ⟨g, k, none⟩ v) B (.slice (some ⟨g, 0, none⟩) n cap) (P.set k (l, v)) := by
  obtain ⟨ao, c, e⟩ := own_form h.row
  injection e with e1 e2 e3
  subst e2
  have hrow : w'.ownsRow B T 1 (.slice (some ⟨g, 0, none⟩) P.length cap) P.length (P.map Prod.snd) := own_apart h.row hg (fun b hb e => typ_ne (h.iv.items k hk) h.row hT b e hb)
  refine ⟨?_, (h.iv.turn hk hg ho hv).put hrow hT k v⟩
  have := own_put hrow k v
  rw [List.length_set, List.map_set]
  exact this
theorem PV.take {T : TypeId} {w : World} {B g cap : Nat} {P : List (List Int × Value)} (h : PV T w B (.slice (some ⟨g, 0, none⟩) P.length cap) P) (k : Nat) (hk : k ≤ P.length) : PV T w B (.slice (some ⟨g, 0, none⟩) k cap) (P.take k) := by
  refine ⟨?_, h.iv.take k⟩
  obtain ⟨h1, h2⟩ := h.row
  have hl : (P.take k).length = k := by rw [List.length_take]; omega
  rw [hl]
  refine ⟨by simp; omega, ?_⟩
  rcases h2 with ⟨hv, _⟩ | ⟨g', cap', cur, hv, q1, q2, q3, q4, q5, q6⟩
  · simp at hv
  · obtain ⟨rfl, rfl⟩ : g = g' ∧ cap = cap' := by simp at hv; exact hv
    refine .inr ⟨g, cap, cur, rfl, q1, q2, by omega, q4, q5, ?_⟩
    have e : cur.toList.take (k * 1) = (cur.toList.take (P.length * 1)).take (k * 1) := by rw [List.take_take]; congr 1; omega
    rw [e, q6, List.map_take, Nat.mul_one]
end Go.Proofs.Ytdohpfckiahlcaa
