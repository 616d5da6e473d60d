/-
  The laws' eqSite and eqFetchResult at two that are one; a box of nine cells that a law keeps.
-/
import Derived.Test.YtlamkbggfbancaaFrKit
import Derived.Test.YtlamkbggfbancaaOpValue
namespace Go.Proofs.Ytlamkbggfbancaa
open Go.RowKit Go.Extern.Stop Go.Stop Go.Extern Num Go.Lib

theorem eqE_same (t : Ste) (w : World) :
    Calls Try.prog 68 #[t.val, t.val] w fun e w' => e = .returned (.bool true) ∧ Below w.heap.size w w' := by
  have H1 : Hid (∀ w, Calls Try.prog 67 #[t.value.val, t.value.val] w fun e w' => e = .returned (.bool true) ∧ Below w.heap.size w w') := fun w => eqV_same _ w
  go_enter Try.func68, Try.ntmps68
  go_wp2_with fail
  refine (H1.out _).mono ?_
  rintro e w1 ⟨rfl, hb1⟩
  go_wp2
  go_ret
  exact ⟨rfl, Below.trans (by repeat (first | exact Below.refl _ _ | refine Below.setCell ?_ (by simp) _ | refine Below.alloc ?_ (by simp <;> omega) _ | refine Below.drew ?_)) (hb1.mono (by simp <;> omega))⟩
set_option maxHeartbeats 1000000 in
theorem eqFR_same (R : Int × Bool × Vlu × Int) (w : World) :
    Calls Try.prog 38 #[FR R, FR R] w fun e w' => e = .returned (.bool true) ∧ Below w.heap.size w w' := by
  have H1 : Hid (∀ w, Calls Try.prog 67 #[R.2.2.1.val, R.2.2.1.val] w fun e w' => e = .returned (.bool true) ∧ Below w.heap.size w w') := fun w => eqV_same _ w
  have H2 : Hid (∀ w, Calls Try.prog 68 #[Ste.val ⟨R.2.2.2, R.2.2.1⟩, Ste.val ⟨R.2.2.2, R.2.2.1⟩] w fun e w' => e = .returned (.bool true) ∧ Below w.heap.size w w') := fun w => eqE_same _ w
  go_enter Try.func38, Try.ntmps38
  go_wp2_with fail
  refine (H1.out _).mono ?_
  rintro e w1 ⟨rfl, hq⟩
  obtain ⟨hc1, hf1⟩ := bcell hq
  have z1 : w.heap.size + 1 < w1.heap.size := by have := hq.size; simp at this; omega
  have B1 : Hid (Below w.heap.size w w1) := Below.trans (by repeat (first | exact Below.refl _ _ | refine Below.alloc ?_ (by simp <;> omega) _ | refine Below.drew ?_)) (hq.mono (by simp <;> omega))
  go_wp2_with fail
  refine (H2.out _).mono ?_
  rintro e w2 ⟨rfl, hq2⟩
  go_wp2
  go_ret
  exact ⟨rfl, B1.out.trans (hq2.mono B1.out.size)⟩
theorem fr9_new (u : World) : Fr9 (u.alloc (.cells #[.int .i64 0, .bool false, .int .i64 0, .int .i64 0, .string ⟨#[]⟩, .int .i64 0, .int .i64 0, .int .i64 0, .string ⟨#[]⟩] 43)) u.heap.size :=
  ⟨fun o v h => by rw [World.cell?_alloc_at _ _ _ _ rfl]; simpa using h, fun o => by rw [World.frozen?_alloc_at _ _ _ _ rfl]⟩
/-- A box that holds an answer. -/
def FrAt (b : Nat) (R : Int × Bool × Vlu × Int) (w : World) : Prop := ∀ (o : Nat) (v : Value), (frL R)[o]? = some v → w.cell? ⟨b, o, none⟩ = some v
theorem FrAt.below {b : Nat} {R : Int × Bool × Vlu × Int} {w w' : World} (h : FrAt b R w) (hb : Below w.heap.size w w') : FrAt b R w' := fun o v e => cell_keep hb (h o v e)
theorem FrAt.put (b : Nat) (R : Int × Bool × Vlu × Int) (u : World) (h : u.there b 0 9) : FrAt b R (u.setCells b 0 (frL R).toArray.toList) := fun o v e => by
  have hr := World.rangeAt_setCells_same u b 0 (frL R) h
  have := hr o v e
  simpa using this
end Go.Proofs.Ytlamkbggfbancaa
