/-
  The program's inner functions checkNum and numCode: checkNum tells nil within the bounds and a notNumber with the code beyond them; numCode tells 0 of nil and the code of a notNumber; nothing that was there is turned.
-/
import Derived.Test.YtebnonpdaddniaaGreatDoorAsHit
import Derived.Test.YtebnonpdaddniaaGreatDoorMath
import Derived.WalkLawsBesides
namespace Go.Proofs.YtebnonpdaddniaaGreatDoor
open Go.RowKit Go.Extern.Stop Go.Stop Go.Extern Num

/-- What the listed variable errors.errorType holds. -/
def ET (w : World) : Prop := w.cell? ⟨4, 0, none⟩ = some (.iface 316 (.agg #[.pointer (some ⟨9, 140, none⟩)]))
theorem lt_of_cell {w : World} {a : Addr} {v : Value} (h : w.cell? a = some v) : a.block < w.heap.size := by
  rcases Nat.lt_or_ge a.block w.heap.size with h' | h'
  · exact h'
  · simp [World.cell?, Array.getElem?_eq_none h'] at h
theorem ET.below {w w' : World} (h : ET w) (hb : Below w.heap.size w w') : ET w' := by
  unfold ET at h ⊢
  rw [hb.cell (lt_of_cell h)]; exact h
theorem ET.alloc {w : World} (h : ET w) (o : Obj) : ET (w.alloc o) := h.below ((Below.refl _ _).alloc (Nat.le_refl _) _)

abbrev NN (x : Int) : Value := .iface 242 (.agg #[.int .i64 x])

theorem check_in (n c : Int) (w : World) (h1 : -1000000000 ≤ n) (h2 : n ≤ 1000000000) :
    Calls Tryz.prog 207 #[.int .i64 n, .int .i64 c] w fun e w' => e = .returned .nilIface ∧ w' = w := by
  go_enter Tryz.func207, Tryz.ntmps207
  go_wp2
  go_ret
  exact ⟨rfl, rfl⟩
theorem check_low (n c : Int) (w : World) (h1 : n < -1000000000) :
    Calls Tryz.prog 207 #[.int .i64 n, .int .i64 c] w fun e w' => e = .returned (.iface 242 (.agg #[.int .i64 c])) ∧ w' = w := by
  go_enter Tryz.func207, Tryz.ntmps207
  go_wp2
  go_ret
  exact ⟨rfl, rfl⟩
theorem check_high (n c : Int) (w : World) (h1 : ¬ n < -1000000000) (h2 : 1000000000 < n) :
    Calls Tryz.prog 207 #[.int .i64 n, .int .i64 c] w fun e w' => e = .returned (.iface 242 (.agg #[.int .i64 c])) ∧ w' = w := by
  go_enter Tryz.func207, Tryz.ntmps207
  go_wp2
  go_ret
  exact ⟨rfl, rfl⟩
theorem check_yes (n c : Int) (w : World) (h : inB n = true) :
    Calls Tryz.prog 207 #[.int .i64 n, .int .i64 c] w fun e w' => e = .returned .nilIface ∧ w' = w :=
  check_in n c w ((inB_iff n).1 h).1 ((inB_iff n).1 h).2
theorem check_no (n c : Int) (w : World) (h : inB n = false) :
    Calls Tryz.prog 207 #[.int .i64 n, .int .i64 c] w fun e w' => e = .returned (.iface 242 (.agg #[.int .i64 c])) ∧ w' = w := by
  by_cases hl : n < -1000000000
  · exact check_low n c w hl
  · exact check_high n c w hl (by have := (inB_not n).1 h; omega)

theorem numCode_nil (w : World) :
    Calls Tryz.prog 170 #[.nilIface] w fun e w' => e = .returned (.int .i64 0) ∧ Below w.heap.size w w' := by
  go_enter Tryz.func170, Tryz.ntmps170
  go_wp2_with (go_at_call 204; refine (as_nil _ _).mono ?_; rintro e w' ⟨rfl, rfl⟩)
  go_ret
  exact ⟨rfl, (Below.refl _ _).alloc (Nat.le_refl _) _⟩

set_option maxHeartbeats 4000000 in
theorem numCode_hit (x : Int) (w : World) (hE : ET w) :
    Calls Tryz.prog 170 #[.iface 242 (.agg #[.int .i64 x])] w fun e w' => e = .returned (.int .i64 x) ∧ Below w.heap.size w w' := by
  have hg := hE.alloc (.cells #[.int .i64 0] 242)
  go_enter Tryz.func170, Tryz.ntmps170
  go_wp2_with (go_at_call 204; refine (as_hit x _ (.int .i64 0) _ hg (by simp) (by simp)).mono ?_; rintro e w' ⟨rfl, rfl⟩)
  go_ret
  refine ⟨rfl, ?_⟩
  repeat (first | exact Below.refl _ _ | refine Below.setCell ?_ (by simp) _ | refine Below.alloc ?_ (by simp <;> omega) _)
end Go.Proofs.YtebnonpdaddniaaGreatDoor
