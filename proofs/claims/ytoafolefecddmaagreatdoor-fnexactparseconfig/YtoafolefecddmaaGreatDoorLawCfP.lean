/-
  The exact law of ParseConfig answers true at every text; nothing that was there is turned.
-/
import Derived.Test.YtoafolefecddmaaGreatDoorConfQ
namespace Go.Proofs.YtoafolefecddmaaGreatDoor
open Go.RowKit Go.Extern.Stop Go.Stop Go.Extern Num Go.Lib

set_option maxHeartbeats 1500000 in
theorem eqCf_same (s t : Int) (p c : Bool) (w : World) :
    Calls Tryz.prog 65 #[cfV s t p c, cfV s t p c] w fun e w' => e = .returned (.bool true) ∧ Below w.heap.size w w' := by
  cases p <;> cases c <;> (
    go_enter Tryz.func65, Tryz.ntmps65
    go_wp2
    go_ret
    refine ⟨rfl, ?_⟩
    repeat (first | exact Below.refl _ _ | refine Below.alloc ?_ (by simp <;> omega) _ | refine Below.drew ?_))
set_option maxHeartbeats 1500000 in
theorem eqCR_same (k s t : Int) (p c : Bool) (w : World) :
    Calls Tryz.prog 30 #[crV k s t p c, crV k s t p c] w fun e w' => e = .returned (.bool true) ∧ Below w.heap.size w w' := by
  have HE : Hid (∀ u, Calls Tryz.prog 65 #[cfV s t p c, cfV s t p c] u fun e w' => e = .returned (.bool true) ∧ Below u.heap.size u w') := fun u => eqCf_same s t p c u
  have HB : Hid (Below w.heap.size w ((w.alloc (.cells #[.int .i64 k, .int .i64 s, .int .i64 t, .bool p, .bool c] 28)).alloc (.cells #[.int .i64 k, .int .i64 s, .int .i64 t, .bool p, .bool c] 28))) := (bnewC _ _).alloc (by simp) _
  go_enter Tryz.func30, Tryz.ntmps30
  go_wp2_with fail
  refine (HE.out _).mono ?_
  rintro e w2 ⟨rfl, b2⟩
  have HB2 : Hid (Below w.heap.size w w2) := HB.out.trans (b2.mono HB.out.size)
  clear b2
  go_wp2
  go_ret
  exact ⟨rfl, HB2.out⟩
set_option maxHeartbeats 1500000 in
theorem lawCfP_any (x : ByteArray) (w : World) (hx : x.size ≤ 9223372036854775807) (hL : LW w) (hM : ∃ m, w.cell? ⟨2, 0, none⟩ = some (.int .i64 m)) :
    Calls Tryz.prog 7 #[.string x] w fun e w' => e = .returned (.bool true) ∧ Below w.heap.size w w' := by
  by_cases h : x.size ≤ 1048576
  · obtain ⟨k, s, t, p, c, hA⟩ := ansP_ex x.data.toList
    obtain ⟨m, hm⟩ := hM
    have HS : Hid (∀ u, Calls Tryz.prog 12 #[.string x] u fun e w' => e = .returned (crV k s t p c) ∧ Below u.heap.size u w') := fun u => specPC_any x k s t p c hA u
    have HI : Hid (∀ u, Below w.heap.size w u → Calls Tryz.prog 10 #[.string x] u fun e w' => e = .returned (crV k s t p c) ∧ Below u.heap.size u w') := fun u hu => implPC_any x k s t p c hA m u h (hL.below hu) (cell_keep hu hm)
    have HE : Hid (∀ u, Calls Tryz.prog 30 #[crV k s t p c, crV k s t p c] u fun e w' => e = .returned (.bool true) ∧ Below u.heap.size u w') := fun u => eqCR_same k s t p c u
    clear hA hm hL
    go_enter Tryz.func7, Tryz.ntmps7
    go_wp2_with fail
    refine (HS.out _).mono ?_
    rintro e w1 ⟨rfl, b1⟩
    have HB1 : Hid (Below w.heap.size w (w1.alloc (.cells #[.int .i64 k, .int .i64 s, .int .i64 t, .bool p, .bool c] 28))) := b1.alloc b1.size _
    clear b1
    go_wp2_with fail
    refine (HI.out _ HB1.out).mono ?_
    rintro e w2 ⟨rfl, b2⟩
    have HB2 : Hid (Below w.heap.size w w2) := HB1.out.trans (b2.mono HB1.out.size)
    obtain ⟨hc, hf⟩ := bcell b2
    have z2 : w1.heap.size < w2.heap.size := by have := b2.size; simp at this; omega
    clear b2
    go_wp2_with fail
    refine (HE.out _).mono ?_
    rintro e w3 ⟨rfl, b3⟩
    have HB3 : Hid (Below w.heap.size w w3) := (HB2.out.alloc HB2.out.size _).trans (b3.mono (by have := HB2.out.size; simp; omega))
    clear b3
    go_wp2
    go_ret
    exact ⟨rfl, HB3.out⟩
  · have h' : 1048576 < x.size := by omega
    clear hM hL
    go_enter Tryz.func7, Tryz.ntmps7
    go_wp2
    go_ret
    exact ⟨rfl, Below.refl _ _⟩
end Go.Proofs.YtoafolefecddmaaGreatDoor
