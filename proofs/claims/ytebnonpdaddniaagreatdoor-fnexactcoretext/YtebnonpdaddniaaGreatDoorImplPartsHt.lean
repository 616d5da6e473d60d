/-
  Parts of the proof laid into one text, one behind the other; each says at its head what is proved in it.
-/
import Derived.Test.YtebnonpdaddniaaGreatDoorHtG
import Derived.Test.YtebnonpdaddniaaGreatDoorHtU
import Derived.Test.YtebnonpdaddniaaGreatDoorHtI
/-
  The program's PartsOf: the places of the parts of a datum, or what is wrong; nothing that was there is turned. Its exact law.
-/
namespace Go.Proofs.YtebnonpdaddniaaGreatDoor
open Go.RowKit Go.Extern.Stop Go.Stop Go.Extern Num Go.Lib Go.Shelf

theorem parts_low {l : List Dat} (F : Fine l) (a : Nat) (ha : a < l.length) : ∀ k, k ≤ a → partsTo l (a : Int) k = []
  | 0, _ => rfl
  | k + 1, h => by
    have hp := F.parent k (by omega)
    simp only [partsTo]
    rw [if_neg (by rw [par_at l k (by omega)]; omega)]
    exact parts_low F a ha k (by omega)
theorem kids_parts {l : List Dat} (F : Fine l) (a : Nat) (ha : a < l.length) : ∀ m, a + m ≤ l.length → kidsT a (tellN (nodes l) a m) = partsTo l (a : Int) (a + m)
  | 0, _ => (parts_low F a ha a (Nat.le_refl _)).symm
  | m + 1, h => by
    have hk : a + m < l.length := by omega
    rw [tellN_next (nodes l) a m (by rw [nodes_len]; exact hk), nodes_at l (a + m) hk]
    show _ = (if par l (a + m) = (a : Int) then partsTo l (a : Int) (a + m) ++ [((a + m : Nat) : Int)] else partsTo l (a : Int) (a + m))
    have ih := kids_parts F a ha m (by omega)
    by_cases hp : par l (a + m) = (a : Int)
    · rw [if_pos hp, kidsT_hit _ _ _ (by show (l[a + m].parent == (a : Int)) = true; rw [← par_at l _ hk]; simpa using hp), ih]
    · rw [if_neg hp, kidsT_miss _ _ _ (by show (l[a + m].parent == (a : Int)) = false; rw [← par_at l _ hk]; simpa using hp), ih]
theorem kids_all {l : List Dat} (F : Fine l) (a : Nat) (ha : a < l.length) : kidsT a (tellN (nodes l) a (endD l a - a)) = partsD l (a : Int) := by
  obtain ⟨h1, h2, _, _⟩ := end_facts l a ha
  rw [kids_parts F a ha _ (by omega), show a + (endD l a - a) = endD l a by omega]
  exact (parts_stop F a ha l.length h2 (Nat.le_refl _)).symm
theorem kids_any (p : Option Addr) (a : Int) (w : World) :
    Calls Tryz.prog 217 #[.pointer p, .int .i64 a] w fun e w' => e = .returned (.func (.func 236) #[] #[.pointer (some ⟨w.heap.size, 0, none⟩), .pointer (some ⟨w.heap.size + 1, 0, none⟩)]) ∧
      w' = (w.alloc (.cells #[.pointer p] 102)).alloc (.cells #[.int .i64 a] 2) := (callsIn_wide (n := 3)).1 (kids_in Fence.wide 3 (fun _ => trivial) rfl p a w)
end Go.Proofs.YtebnonpdaddniaaGreatDoor
