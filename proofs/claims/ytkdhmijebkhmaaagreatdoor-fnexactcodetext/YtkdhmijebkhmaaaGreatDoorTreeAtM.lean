/-
  The program's treeAt: the tree of data and a place in it, or what is wrong; nothing that was there is turned.
-/
import Derived.Test.YtkdhmijebkhmaaaGreatDoorTreeW
import Derived.Test.YtkdhmijebkhmaaaGreatDoorTreeE
namespace Go.Proofs.YtkdhmijebkhmaaaGreatDoor
open Go.RowKit Go.Extern.Stop Go.Stop Go.Extern Num Go.Lib Go.Shelf

/-- What treeAt answers. -/
def AnsA (l : List Dat) (z : Int) (w : World) (e : Ending) (w' : World) : Prop :=
  (askD l z ≠ 0 ∧ e = .returned (.tuple #[.pointer none, .int .i64 (askD l z)]) ∧ Below w.heap.size w w') ∨
  (askD l z = 0 ∧ e = .returned (.tuple #[.pointer (some ⟨w.heap.size, 0, none⟩), .int .i64 0]) ∧ OwnT w.heap.size w.heap.size (nodes l) w' ∧ Below w.heap.size w w')
theorem pdn_nodes {l : List Dat} (F : Fine l) (hz : ∀ (k : Nat) (h : k < l.length), l[k].name.size ≤ 1048576) : ∀ (k : Nat) (h : k < (nodes l).length), PdN ((k : Int), (nodes l)[k]) := fun k h => by
  have hk : k < l.length := by rw [nodes_len] at h; exact h
  rw [nodes_at l k hk]
  have := F.parent k hk
  have := F.len
  exact ⟨hz k hk, by show -1 ≤ l[k].parent; omega, by show l[k].parent < 1000; omega⟩
end Go.Proofs.YtkdhmijebkhmaaaGreatDoor
