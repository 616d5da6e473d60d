/-
  Value, a struct of 3 cells: what the laws' eqValue, toValue and szValue answer; nothing that was there is turned.
-/
import Derived.Test.YtgfienijabkpjaaDoorRowKit0
namespace Go.Proofs.YtgfienijabkpjaaDoor
open Go.RowKit Go.Extern.Stop Go.Stop Go.Extern Num Go.Lib

structure Vlu where
  kind : Int
  num : Int
  name : ByteArray
abbrev Vlu.val (t : Vlu) : Value := .agg #[.int .i64 t.kind, .int .i64 t.num, .string t.name]
def Vlu.cells (t : Vlu) : List Value := [.int .i64 t.kind, .int .i64 t.num, .string t.name]
def cellsV : List Vlu → List Value
  | [] => []
  | t :: r => t.cells ++ cellsV r
theorem cellsV_append (a b : List Vlu) : cellsV (a ++ b) = cellsV a ++ cellsV b := by
  induction a with
  | nil => rfl
  | cons t r ih => simp [cellsV, ih]
theorem cellsV_length (l : List Vlu) : (cellsV l).length = l.length * 3 := by
  induction l with
  | nil => rfl
  | cons t r ih => simp [cellsV, Vlu.cells, ih]; omega
theorem cellsV_one (l : List Vlu) : ∀ u ∈ cellsV l, u.oneCell' = true := by
  induction l with
  | nil => intro u h; cases h
  | cons t r ih =>
    intro u h
    simp only [cellsV, Vlu.cells, List.mem_append, List.mem_cons, List.not_mem_nil, or_false] at h
    rcases h with (rfl | rfl | rfl) | h
    · rfl
    · rfl
    · rfl
    · exact ih u h
theorem cellsV_at (l : List Vlu) (k : Nat) (h : k < l.length) : (cellsV l)[k * 3]? = some (.int .i64 l[k].kind) ∧ (cellsV l)[k * 3 + 1]? = some (.int .i64 l[k].num) ∧ (cellsV l)[k * 3 + 2]? = some (.string l[k].name) := by
  induction l generalizing k with
  | nil => cases h
  | cons t r ih =>
    cases k with
    | zero => exact ⟨rfl, rfl, rfl⟩
    | succ k =>
      have hk : k < r.length := by simpa using h
      have := ih k hk
      have e : ∀ j, (cellsV (t :: r))[j + 3]? = (cellsV r)[j]? := fun j => by
        show (t.cells ++ cellsV r)[j + 3]? = _
        rw [List.getElem?_append_right (by simp [Vlu.cells])]
        simp [Vlu.cells]
      have e1 : (k + 1) * 3 = k * 3 + 3 := by omega
      rw [e1, show k * 3 + 3 + 1 = k * 3 + 1 + 3 by omega, show k * 3 + 3 + 2 = k * 3 + 2 + 3 by omega, e, e, e]
      simpa using this
theorem takeV (l : List Vlu) (k : Nat) (h : k < l.length) : l.take (k + 1) = l.take k ++ [l[k]] := by
  rw [List.take_add_one, List.getElem?_eq_getElem h]; rfl
theorem infoV : (Tryd.prog.info? 38).map (fun i => (i.zero, i.size, i.bytes)) = some (some (.agg #[.int .i64 0, .int .i64 0, .string ⟨#[]⟩]), 3, 32) := by kernel_rfl
theorem rowV_at {w : World} {base g cap : Nat} {l : List Vlu} (h : w.ownsRow base 38 3 (.slice (some ⟨g, 0, none⟩) l.length cap) l.length (cellsV l)) (k : Nat) (hk : k < l.length) :
    w.cell? ⟨g, k * 3, none⟩ = some (.int .i64 l[k].kind) ∧ w.cell? ⟨g, k * 3 + 1, none⟩ = some (.int .i64 l[k].num) ∧ w.cell? ⟨g, k * 3 + 2, none⟩ = some (.string l[k].name) := by
  have ha : ∀ j, (⟨g, 0, none⟩ : Addr).add j = ⟨g, j, none⟩ := fun j => by unfold Addr.add; split <;> simp_all
  have hc := h.cells (g := g) rfl
  obtain ⟨h0, h1, h2⟩ := cellsV_at l k hk
  exact ⟨by rw [← ha]; exact hc _ _ h0, by rw [← ha]; exact hc _ _ h1, by rw [← ha]; exact hc _ _ h2⟩
theorem eqV_same (t : Vlu) (w : World) :
    Calls Tryd.prog 65 #[t.val, t.val] w fun e w' => e = .returned (.bool true) ∧ Below w.heap.size w w' := by
  go_enter Tryd.func65, Tryd.ntmps65
  go_wp2
  go_ret
  refine ⟨rfl, ?_⟩
  repeat (first | exact Below.refl _ _ | refine Below.alloc ?_ (by simp <;> omega) _ | refine Below.drew ?_)
theorem toV_any (t : Vlu) (w : World) :
    Calls Tryd.prog 16 #[t.val] w fun e w' => e = .returned t.val ∧ Below w.heap.size w w' := by
  go_enter Tryd.func16, Tryd.ntmps16
  go_wp2
  exact bodyPost_ret (v := t.val) (by simp [results, Tryd.results16, go_sem]) rfl ⟨rfl, by
    repeat (first | exact Below.refl _ _ | refine Below.setCell ?_ (by simp) _ | refine Below.alloc ?_ (by simp <;> omega) _)⟩
theorem szV_far (t : Vlu) (n : Nat) (w : World) (hz : t.name.size ≤ 9223372036854775807) (hn : n ≤ 1048576) (h : n < t.name.size) :
    Calls Tryd.prog 13 #[t.val, .int .i64 (n : Int)] w fun e w' => e = .returned (.int .i64 (-1)) ∧ Below w.heap.size w w' := by
  go_enter Tryd.func13, Tryd.ntmps13
  go_wp2
  go_ret
  exact ⟨rfl, by repeat (first | exact Below.refl _ _ | refine Below.setCell ?_ (by simp) _ | refine Below.alloc ?_ (by simp <;> omega) _)⟩
theorem szV_near (t : Vlu) (n : Nat) (w : World) (hn : n ≤ 1048576) (h : t.name.size ≤ n) :
    Calls Tryd.prog 13 #[t.val, .int .i64 (n : Int)] w fun e w' => e = .returned (.int .i64 ((n - t.name.size : Nat) : Int)) ∧ Below w.heap.size w w' := by
  have e : ((n - t.name.size : Nat) : Int) = (n : Int) - (t.name.size : Int) := by omega
  rw [e]
  clear e
  go_enter Tryd.func13, Tryd.ntmps13
  go_wp2
  go_ret
  exact ⟨rfl, by repeat (first | exact Below.refl _ _ | refine Below.setCell ?_ (by simp) _ | refine Below.alloc ?_ (by simp <;> omega) _)⟩
end Go.Proofs.YtgfienijabkpjaaDoor
