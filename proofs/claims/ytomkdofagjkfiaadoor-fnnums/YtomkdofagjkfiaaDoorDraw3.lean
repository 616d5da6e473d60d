/-
  The model's draws of two numbers, and the laws' bound on their code: each answers, and turns nothing that was there.
-/
import Derived.Test.YtomkdofagjkfiaaDoorDraw2
namespace Go.Proofs.YtomkdofagjkfiaaDoor
open Go.RowKit Go.Extern.Stop Go.Stop Go.Extern Num

theorem pair_any (w : World) (ca : Option Addr) (len cap : Nat) (h : Bytes w ca len) (hmax : (len : Int) ≤ 9223372036854775807) :
    Calls Tryd.prog 44 #[.slice ca len cap] w fun e w' => ∃ a b : Int, e = .returned (.tuple #[.int .i64 a, .int .i64 b]) ∧ Below w.heap.size w w' := by
  go_enter Tryd.func44, Tryd.ntmps44
  go_wp2_with fail
  refine (source_any _ ca len cap h).mono ?_
  rintro e w1 ⟨rfl, h1, b1⟩
  go_wp2_with fail
  refine (bent_any _ _ ca len cap 0 h1 hmax (by omega) (by omega)).mono ?_
  rintro e w2 ⟨v2, k2, rfl, -, k21, k22, h2, o2⟩
  go_wp2_with fail
  refine (bent_any _ _ ca len cap k2 h2 hmax (by omega) (by omega)).mono ?_
  rintro e w3 ⟨v3, k3, rfl, -, k31, k32, h3, o3⟩
  go_wp2
  go_ret2
  exact ⟨v2, v3, rfl, b1.trans ((o2.below (Nat.le_refl _) b1.size).trans (o3.below (Nat.le_refl _) (Nat.le_trans b1.size o2.size)))⟩
theorem drawQuo_any (w : World) (ca : Option Addr) (len cap : Nat) (h : Bytes w ca len) (hmax : (len : Int) ≤ 9223372036854775807) :
    Calls Tryd.prog 24 #[.slice ca len cap] w fun e w' => ∃ a b : Int, e = .returned (.tuple #[.int .i64 a, .int .i64 b]) ∧ Below w.heap.size w w' := by
  go_enter Tryd.func24, Tryd.ntmps24
  go_wp2_with fail
  refine (pair_any _ ca len cap h hmax).mono ?_
  rintro e w1 ⟨a, b, rfl, b1⟩
  go_wp2
  go_ret2
  exact ⟨a, b, rfl, b1⟩
theorem drawAdd_any (w : World) (ca : Option Addr) (len cap : Nat) (h : Bytes w ca len) (hmax : (len : Int) ≤ 9223372036854775807) :
    Calls Tryd.prog 18 #[.slice ca len cap] w fun e w' => ∃ a b : Int, e = .returned (.tuple #[.int .i64 a, .int .i64 b]) ∧ Below w.heap.size w w' := by
  go_enter Tryd.func18, Tryd.ntmps18
  go_wp2_with fail
  refine (pair_any _ ca len cap h hmax).mono ?_
  rintro e w1 ⟨a, b, rfl, b1⟩
  go_wp2
  go_ret2
  exact ⟨a, b, rfl, b1⟩
theorem big_any (w : World) (ca : Option Addr) (len cap : Nat) :
    Calls Tryd.prog 13 #[.slice ca len cap] w fun e w' => ∃ t : Bool, e = .returned (.bool t) ∧ w' = w := by
  go_enter Tryd.func13, Tryd.ntmps13
  go_wp2
  go_ret
  exact ⟨_, rfl, rfl⟩
end Go.Proofs.YtomkdofagjkfiaaDoor
