/-
  A global of a name put: in plain words.
-/
import Derived.Test.YtgfienijabkpjaaSpecLG
import Derived.Test.YtgfienijabkpjaaMkGlobal
namespace Go.Proofs.Ytgfienijabkpjaa
open Go.RowKit Go.Extern.Stop Go.Stop Go.Extern Num Go.Lib

/-- The code of a put. -/
def putC (l : List Glb) (s : ByteArray) : Int := match atG l s with
  | none => if 60 ≤ l.length then 2 else 0
  | some k => if 99999 ≤ (l.getD k gZ).ver then 3 else 0
/-- The globals behind a put. -/
def putL (l : List Glb) (s : ByteArray) (v : Vlu) : List Glb := match atG l s with
  | none => if 60 ≤ l.length then [] else l ++ [⟨s, v, 1⟩]
  | some k => if 99999 ≤ (l.getD k gZ).ver then [] else (l.take k ++ [⟨(l.getD k gZ).name, v, (l.getD k gZ).ver + 1⟩]) ++ l.drop (k + 1)
theorem put_cells (l : List Glb) (k : Nat) (hk : k < l.length) (v : Vlu) (n : Int) :
    ((((cellsG l).set (k * 5 + 1) (.int .i64 v.kind)).set (k * 5 + 2) (.int .i64 v.num)).set (k * 5 + 3) (.string v.name)).set (k * 5 + 4) (.int .i64 n) = cellsG ((l.take k ++ [⟨(l[k]'hk).name, v, n⟩]) ++ l.drop (k + 1)) := by
  have e := setG (l.take k) (l.drop (k + 1)) (l[k]'hk) ⟨(l[k]'hk).name, v, n⟩ k (by rw [List.length_take]; omega)
  have el : l.take k ++ (l[k]'hk) :: l.drop (k + 1) = l := by rw [← List.drop_eq_getElem_cons hk, List.take_append_drop]
  rw [el] at e
  have e0 : (cellsG l).set (k * 5) (.string (l[k]'hk).name) = cellsG l := by
    have h0 := (cellsG_at l k hk).1
    obtain ⟨hj, he⟩ := List.getElem?_eq_some_iff.1 h0
    rw [← he]; exact List.set_getElem_self hj
  rw [e0] at e
  exact e
theorem put_len (l : List Glb) (k : Nat) (hk : k < l.length) (t : Glb) : ((l.take k ++ [t]) ++ l.drop (k + 1)).length = l.length := by
  simp; omega
theorem putC_none {l : List Glb} {s : ByteArray} (h : atG l s = none) : putC l s = if 60 ≤ l.length then 2 else 0 := by unfold putC; rw [h]
theorem putL_none {l : List Glb} {s : ByteArray} {v : Vlu} (h : atG l s = none) : putL l s v = if 60 ≤ l.length then [] else l ++ [⟨s, v, 1⟩] := by unfold putL; rw [h]
theorem putC_some {l : List Glb} {s : ByteArray} {k : Nat} (h : atG l s = some k) (hk : k < l.length) : putC l s = if 99999 ≤ (l[k]'hk).ver then 3 else 0 := by unfold putC; rw [h]; simp [List.getD, hk]
theorem putL_some {l : List Glb} {s : ByteArray} {v : Vlu} {k : Nat} (h : atG l s = some k) (hk : k < l.length) : putL l s v = if 99999 ≤ (l[k]'hk).ver then [] else (l.take k ++ [⟨(l[k]'hk).name, v, (l[k]'hk).ver + 1⟩]) ++ l.drop (k + 1) := by unfold putL; rw [h]; simp [List.getD, hk]
end Go.Proofs.Ytgfienijabkpjaa
