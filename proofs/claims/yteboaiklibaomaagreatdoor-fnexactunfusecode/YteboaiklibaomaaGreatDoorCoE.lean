/-
  Parts of the proof laid into one text, one behind the other; each says at its head what is proved in it.
-/
import Derived.Test.YteboaiklibaomaaGreatDoorTiF
import Derived.Test.YteboaiklibaomaaGreatDoorIntRowHt
/-
  The model's l3Asked, l3Parts and PartsOf: the places of a datum's parts; nothing that was there is turned.
-/
namespace Go.Proofs.YteboaiklibaomaaGreatDoor
open Go.RowKit Go.Extern.Stop Go.Stop Go.Extern Num Go.Lib

/-- The places, below k, of the parts of a place. -/
def partsTo (l : List Dat) (a : Int) : Nat → List Int
  | 0 => []
  | k + 1 => if par l k = a then partsTo l a k ++ [(k : Int)] else partsTo l a k
def partsD (l : List Dat) (a : Int) : List Int := partsTo l a l.length
theorem partsTo_len (l : List Dat) (a : Int) (k : Nat) : (partsTo l a k).length ≤ k := by
  induction k with
  | zero => simp [partsTo]
  | succ k ih =>
    simp only [partsTo]
    split
    · rw [List.length_append]; simp; omega
    · omega
/-- What is asked ahead of a place. -/
def askD (l : List Dat) (a : Int) : Int := if dataFault l ≠ 0 then dataFault l else if 0 ≤ a ∧ a ≤ (l.length : Int) - 1 then 0 else 3
/-- An answer of PartsOf. -/
def AnsP (l : List Dat) (a : Int) (w : World) (e : Ending) (w' : World) : Prop :=
  ∃ ao c, e = .returned (.agg #[.int .i64 (askD l a), .slice ao (if askD l a = 0 then partsD l a else []).length c]) ∧ w'.ownsRow w.heap.size 2 1 (.slice ao (if askD l a = 0 then partsD l a else []).length c) (if askD l a = 0 then partsD l a else []).length (cellsI (if askD l a = 0 then partsD l a else [])) ∧ Below w.heap.size w w'
end Go.Proofs.YteboaiklibaomaaGreatDoor
/-
  The model's l3Sub and SubData: a datum with all its parts, as data by themselves; nothing that was there is turned.
-/
namespace Go.Proofs.YteboaiklibaomaaGreatDoor
open Go.RowKit Go.Extern.Stop Go.Stop Go.Extern Num Go.Lib

/-- A datum as part of what is taken out at a place. -/
def shiftD (a i : Nat) (t : Dat) : Dat := ⟨t.kind, if i = a then -1 else t.parent - (a : Int), t.num, t.name⟩
/-- What is taken out, from a place on. -/
def subFrom (l : List Dat) (a : Nat) : Nat → Nat → List Dat
  | 0, _ => []
  | f + 1, i => match l[i]? with
    | none => []
    | some t => if i = a ∨ deepF l 100 (a : Int) < deepF l 100 (i : Int) then shiftD a i t :: subFrom l a f (i + 1) else []
def subD (l : List Dat) (a : Nat) : List Dat := subFrom l a l.length a
theorem subFrom_end (l : List Dat) (a f i : Nat) (h : l.length ≤ i) : subFrom l a f i = [] := by
  cases f with
  | zero => rfl
  | succ f => simp [subFrom, List.getElem?_eq_none h]
theorem subFrom_on (l : List Dat) (a f i : Nat) (h : i < l.length) (hd : i = a ∨ deepF l 100 (a : Int) < deepF l 100 (i : Int)) : subFrom l a (f + 1) i = shiftD a i l[i] :: subFrom l a f (i + 1) := by
  simp only [subFrom, List.getElem?_eq_getElem h, if_pos hd]
theorem subFrom_off (l : List Dat) (a f i : Nat) (h : i < l.length) (hd : ¬ (i = a ∨ deepF l 100 (a : Int) < deepF l 100 (i : Int))) : subFrom l a (f + 1) i = [] := by
  simp only [subFrom, List.getElem?_eq_getElem h, if_neg hd]
theorem news4 {W : World} {b : Nat} {x y z v : Value} {ty : TypeId} {fr : Nat × Nat} (h : W.heap[b]? = some (.cells #[x, y, z, v] ty fr)) : ∀ j u, [x, y, z, v][j]? = some u → W.cell? ((⟨b, 0, none⟩ : Addr).add j) = some u := by
  intro j u hj
  have ha : ∀ j, (⟨b, 0, none⟩ : Addr).add j = ⟨b, j, none⟩ := fun j => by unfold Addr.add; split <;> simp_all
  rw [ha, cell_of_row W b j _ ty fr h]
  match j, hj with
  | 0, hj => simpa using hj
  | 1, hj => simpa using hj
  | 2, hj => simpa using hj
  | 3, hj => simpa using hj
/-- Data with which nothing is wrong. -/
structure Fine (l : List Dat) : Prop where
  pos : 0 < l.length
  len : l.length ≤ 80
  ok : okUpto l l.length
theorem fine_of {l : List Dat} (h : dataFault l = 0) : Fine l := by
  unfold dataFault at h
  split at h
  · cases h
  · rename_i hn
    refine ⟨by omega, by omega, ?_⟩
    have key : ∀ k, k ≤ l.length → okUpto l k := by
      intro k
      induction k with
      | zero => intro _ j _ hj; omega
      | succ k ih =>
        intro hk
        have h1 := ih (by omega)
        refine okUpto_next h1 (by omega) ?_
        by_cases hc : chkD l k (l[k]'(by omega)) = 0
        · exact hc
        · exfalso
          rw [fault_hit l k (by omega) h1 hc] at h
          exact hc h
    exact key l.length (Nat.le_refl _)
theorem Fine.parent {l : List Dat} (h : Fine l) (j : Nat) (hj : j < l.length) : l[j].parent < (j : Int) ∧ -1 ≤ l[j].parent := chk_par (h.ok j hj hj)
theorem Fine.le {l : List Dat} (h : Fine l) (i : Nat) : ∀ (j : Nat) (hj : j < l.length), j ≤ i → l[j].parent ≤ (j : Int) := fun j hj _ => by have := (h.parent j hj).1; omega
/-- Behind an append of one datum. -/
theorem datD_next {w W w1 : World} {B g c g' c' : Nat} {l : List Dat} {t : Dat}
    (hown : W.ownsRow B 133 4 (.slice (some ⟨g, 0, none⟩) l.length c) l.length (cellsD l)) (hb : Below B w W) (hB : B ≤ W.heap.size)
    (hown' : w1.ownsRow B 133 4 (.slice (some ⟨g', 0, none⟩) (l.length + 1) c') (l.length + 1) (cellsD l ++ [.int .i64 t.kind, .int .i64 t.parent, .int .i64 t.num, .string t.name])) (hgrow : W.grownBy w1 (Value.slice (some ⟨g, 0, none⟩) l.length c).ownBlock) :
    w1.ownsRow B 133 4 (.slice (some ⟨g', 0, none⟩) (l ++ [t]).length c') (l ++ [t]).length (cellsD (l ++ [t])) ∧ Below B w w1 := by
  refine ⟨?_, hb.grown hgrow hB (fun j hj => (hown.lt j hj).1)⟩
  rw [cellsD_append, List.length_append]
  exact hown'
/-- An answer of SubData. -/
def outS (l : List Dat) (a : Int) : List Dat := if askD l a = 0 then subD l a.toNat else []
def AnsS (l : List Dat) (a : Int) (w : World) (e : Ending) (w' : World) : Prop :=
  ∃ ao c, e = .returned (.agg #[.int .i64 (askD l a), .int .i64 0, .slice ao (outS l a).length c]) ∧ w'.ownsRow w.heap.size 133 4 (.slice ao (outS l a).length c) (outS l a).length (cellsD (outS l a)) ∧ Below w.heap.size w w'
theorem ask_zero {l : List Dat} {a : Int} (h : askD l a = 0) : Fine l ∧ 0 ≤ a ∧ a < (l.length : Int) := by
  have hd : dataFault l = 0 := by
    by_cases hd : dataFault l = 0
    · exact hd
    · simp [askD, hd] at h
  unfold askD at h
  rw [if_neg (by simpa using hd)] at h
  split at h
  · rename_i h1
    exact ⟨fine_of hd, by omega, by omega⟩
  · cases h
end Go.Proofs.YteboaiklibaomaaGreatDoor
