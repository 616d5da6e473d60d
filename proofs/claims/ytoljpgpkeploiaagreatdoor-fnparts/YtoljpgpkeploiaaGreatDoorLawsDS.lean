/-
  The exact law of SubData answers true at every slice of data and every place, if the program's own function answers what the plain one tells; nothing that was there is turned.
-/
import Derived.Test.YtoljpgpkeploiaaGreatDoorFpG
import Derived.Test.YtoljpgpkeploiaaGreatDoorResDataResult
namespace Go.Proofs.YtoljpgpkeploiaaGreatDoor
open Go.RowKit Go.Extern.Stop Go.Stop Go.Extern Num Go.Lib

theorem subFrom_len (l : List Dat) (a : Nat) : ∀ (f i : Nat), (subFrom l a f i).length ≤ l.length - i
  | 0, _ => by simp [subFrom]
  | f + 1, i => by
    by_cases h : i < l.length
    · by_cases hd : i = a ∨ deepF l 100 (a : Int) < deepF l 100 (i : Int)
      · rw [subFrom_on l a f i h hd]
        have := subFrom_len l a f (i + 1)
        simp; omega
      · rw [subFrom_off l a f i h hd]; simp
    · rw [subFrom_end l a _ i (by omega)]; simp
theorem outS_len (l : List Dat) (z : Int) : (outS l z).length ≤ 80 := by
  unfold outS
  split
  · rename_i h
    have h1 := (ask_zero h).1.len
    have h2 := subFrom_len l z.toNat l.length z.toNat
    unfold subD; omega
  · simp
theorem specSub_ans (ao : Option Addr) (cap base : Nat) (l : List Dat) (z : Int) (w : World) (h : w.ownsRow base 61 4 (.slice ao l.length cap) l.length (cellsD l)) (hl : l.length ≤ 1048576) (hz : ∀ (k : Nat) (h : k < l.length), l[k].name.size ≤ 9223372036854775807) :
    Calls Tryz.prog 16 #[.slice ao l.length cap, .int .i64 z] w fun e w' => ∃ ao c, e = .returned (.agg #[.int .i64 (askD l z), .int .i64 0, .slice ao (outS l z).length c]) ∧ w'.ownsRow w.heap.size 61 4 (.slice ao (outS l z).length c) (outS l z).length (cellsD (outS l z)) ∧ Below w.heap.size w w' := specSub_any ao cap base l z w h hl hz
end Go.Proofs.YtoljpgpkeploiaaGreatDoor
