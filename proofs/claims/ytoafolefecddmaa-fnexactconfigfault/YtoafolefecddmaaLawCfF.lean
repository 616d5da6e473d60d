/-
  The exact law of ConfigFault answers true at every setting; nothing that was there is turned.
-/
import Derived.Test.YtoafolefecddmaaStConf
namespace Go.Proofs.Ytoafolefecddmaa
open Go.RowKit Go.Extern.Stop Go.Stop Go.Extern Num Go.Lib

set_option maxHeartbeats 1500000 in
theorem specCfF_any (s t : Int) (p c : Bool) (w : World) :
    Calls Try.prog 7 #[cfV s t p c] w fun e w' => e = .returned (.int .i64 (cfF s t)) ∧ Below w.heap.size w w' := by
  obtain ⟨W, hW⟩ : ∃ W, W = w.alloc (.cells #[.int .i64 s, .int .i64 t, .bool p, .bool c] 27) := ⟨_, rfl⟩
  have HW : Hid (W = w.alloc (.cells #[.int .i64 s, .int .i64 t, .bool p, .bool c] 27)) := hW
  have HB : Hid (Below w.heap.size w W) := by show Below _ _ _; rw [hW]; exact bnewC _ _
  have hc0 : W.cell? ⟨w.heap.size, 0, none⟩ = some (.int .i64 s) ∧ W.cell? ⟨w.heap.size, 1, none⟩ = some (.int .i64 t) := by rw [hW]; exact boxC _ _ _ _ _ _
  have HF : Hid (Calls Try.prog 11 #[.pointer (some ⟨w.heap.size, 0, none⟩)] W fun e w' => e = .returned (.int .i64 (cfF s t)) ∧ w' = W) := l13Fault_any _ s t W hc0.1 hc0.2
  generalize cfF s t = F at HF ⊢
  clear hW hc0
  go_enter Try.func7, Try.ntmps7
  go_wp2_with fail
  rw [← HW.out]
  refine HF.out.mono ?_
  rintro e w2 ⟨rfl, e2⟩
  replace e2 := e2.symm
  subst e2
  go_wp2
  go_ret
  exact ⟨rfl, HB.out⟩
set_option maxHeartbeats 1500000 in
theorem implCfF_any (s t : Int) (p c : Bool) (w : World) :
    Calls Try.prog 9 #[cfV s t p c] w fun e w' => e = .returned (.int .i64 (cfF s t)) ∧ Below w.heap.size w w' := by
  have HS : Hid (∀ u, Calls Try.prog 12 #[cfV s t p c] u fun e w' => e = .returned (.tuple #[seV s t, .int .i64 (cfF s t)]) ∧ Below u.heap.size u w') := fun u => settingOf_any s t p c u
  generalize cfF s t = F at HS ⊢
  generalize seV s t = Z at HS
  go_enter Try.func9, Try.ntmps9
  go_wp2_with fail
  refine (HS.out _).mono ?_
  rintro e w2 ⟨rfl, b2⟩
  have HB2 : Hid (Below w.heap.size w w2) := (bnewC w _).trans (b2.mono (by simp))
  clear b2
  go_wp2
  go_ret
  exact ⟨rfl, HB2.out⟩
set_option maxHeartbeats 1500000 in
theorem lawCfF_any (w : World) (s t : Int) (p c : Bool) :
    Calls Try.prog 4 #[cfV s t p c] w fun e w' => e = .returned (.bool true) ∧ Below w.heap.size w w' := by
  have HT : Hid (∀ u, Calls Try.prog 8 #[cfV s t p c] u fun e w' => e = .returned (cfV s t p c) ∧ Below u.heap.size u w') := fun u => toCf_any s t p c u
  have HS : Hid (∀ u, Calls Try.prog 7 #[cfV s t p c] u fun e w' => e = .returned (.int .i64 (cfF s t)) ∧ Below u.heap.size u w') := fun u => specCfF_any s t p c u
  have HI : Hid (∀ u, Calls Try.prog 9 #[cfV s t p c] u fun e w' => e = .returned (.int .i64 (cfF s t)) ∧ Below u.heap.size u w') := fun u => implCfF_any s t p c u
  generalize cfF s t = F at HS HI
  obtain ⟨W, hW⟩ : ∃ W, W = w.alloc (.cells #[.int .i64 s, .int .i64 t, .bool p, .bool c] 25) := ⟨_, rfl⟩
  have HW : Hid (W = w.alloc (.cells #[.int .i64 s, .int .i64 t, .bool p, .bool c] 25)) := hW
  have HB : Hid (Below w.heap.size w W) := by show Below _ _ _; rw [hW]; exact bnewC _ _
  have hz : w.heap.size < W.heap.size := by rw [hW]; simp
  have HC : Hid (∀ u, Below W.heap.size W u → u.cell? ⟨w.heap.size, 0, none⟩ = some (.int .i64 s) ∧ u.cell? ⟨w.heap.size, 1, none⟩ = some (.int .i64 t) ∧ u.cell? ⟨w.heap.size, 2, none⟩ = some (.bool p) ∧ u.cell? ⟨w.heap.size, 3, none⟩ = some (.bool c)) := fun u hu => by
    refine ⟨cell_keep hu ?_, cell_keep hu ?_, cell_keep hu ?_, cell_keep hu ?_⟩ <;> (rw [hW, World.cell?_alloc_at _ _ _ _ rfl]; rfl)
  clear hW
  go_enter Try.func4, Try.ntmps4
  obtain ⟨c0, c1, c2, c3⟩ := HC.out W (Below.refl _ _)
  go_wp2_with fail
  rw [← HW.out]
  clear HW
  refine (HT.out _).mono ?_
  rintro e w2 ⟨rfl, b2⟩
  have HB2 : Hid (Below W.heap.size W w2) := b2
  clear b2
  go_wp2_with fail
  refine (HS.out _).mono ?_
  rintro e w3 ⟨rfl, b3⟩
  have HB3 : Hid (Below W.heap.size W w3) := HB2.out.trans (b3.mono HB2.out.size)
  clear b3 HB2 c0 c1 c2 c3
  obtain ⟨c0, c1, c2, c3⟩ := HC.out w3 HB3.out
  go_wp2_with fail
  refine (HT.out _).mono ?_
  rintro e w4 ⟨rfl, b4⟩
  have HB4 : Hid (Below W.heap.size W w4) := HB3.out.trans (b4.mono HB3.out.size)
  clear b4 HB3 c0 c1 c2 c3
  go_wp2_with fail
  refine (HI.out _).mono ?_
  rintro e w5 ⟨rfl, b5⟩
  have HB5 : Hid (Below w.heap.size w w5) := HB.out.trans ((HB4.out.trans (b5.mono HB4.out.size)).mono (Nat.le_of_lt hz))
  clear b5 HB4 HB
  go_wp2
  go_ret
  exact ⟨rfl, HB5.out⟩
end Go.Proofs.Ytoafolefecddmaa
