/-
  ValueFault of the model and of the program: what is wrong with a value; the exact law answers true at every value; nothing that was there is turned.
-/
import Derived.Test.YtijcmfnadobaeaaSpecVF
import Derived.Test.YtijcmfnadobaeaaImplVF
namespace Go.Proofs.Ytijcmfnadobaeaa
open Go.RowKit Go.Extern.Stop Go.Stop Go.Extern Num Go.Lib

theorem specVF_any (t : Vlu) (w : World) (hz : t.name.size ≤ 9223372036854775807) :
    Calls Try.prog 17 #[t.val] w fun e w' => e = .returned (.int .i64 (vfault t)) ∧ Below w.heap.size w w' := by
  obtain ⟨c, hc⟩ : ∃ c, c = vfault t := ⟨_, rfl⟩
  have HV : Hid _ := box1 w t 26
  have HF : Hid (∀ w b, VluAt b 0 t w → Calls Try.prog 46 #[.pointer (some ⟨b, 0, none⟩)] w fun e w' => e = .returned (.int .i64 c) ∧ w' = w) := fun w b h => by rw [hc]; exact l5Fault_any b 0 t w hz h
  rw [← hc]
  clear hc hz
  go_enter Try.func17, Try.ntmps17
  go_wp2_with fail
  refine (HF.out _ _ HV.out.1.at).mono ?_
  rintro e w' ⟨rfl, rfl⟩
  go_wp2
  go_ret
  exact ⟨rfl, HV.out.2⟩
theorem implVF_any (t : Vlu) (w : World) (hz : t.name.size ≤ 9223372036854775807) :
    Calls Try.prog 19 #[t.val] w fun e w' => e = .returned (.int .i64 (vfault t)) ∧ Below w.heap.size w w' := by
  obtain ⟨c, hc⟩ : ∃ c, c = vfault t := ⟨_, rfl⟩
  obtain ⟨x, hx⟩ : ∃ x, x = wdOf t := ⟨_, rfl⟩
  have HV : Hid _ := box1 w t 26
  have HF : Hid (∀ w, Calls Try.prog 47 #[t.val] w fun e w' => e = .returned (.tuple #[x.val, .int .i64 c]) ∧ Below w.heap.size w w') := fun w => by rw [hc, hx]; exact wordOf_any t w hz
  rw [← hc]
  clear hc hx hz
  go_enter Try.func19, Try.ntmps19
  go_wp2_with fail
  refine (HF.out _).mono ?_
  rintro e w1 ⟨rfl, hb⟩
  go_wp2
  go_ret
  exact ⟨rfl, (HV.out.2.trans (hb.mono HV.out.2.size)).alloc (HV.out.2.trans (hb.mono HV.out.2.size)).size _⟩
set_option maxHeartbeats 1000000 in
theorem lawVF_any (w : World) (t : Vlu) (hz : t.name.size ≤ 9223372036854775807) :
    Calls Try.prog 4 #[t.val] w fun e w' => e = .returned (.bool true) ∧ Below w.heap.size w w' := by
  obtain ⟨c, hc⟩ : ∃ c, c = vfault t := ⟨_, rfl⟩
  have HS : Hid (∀ w, Calls Try.prog 17 #[t.val] w fun e w' => e = .returned (.int .i64 c) ∧ Below w.heap.size w w') := fun w => by rw [hc]; exact specVF_any t w hz
  have HI : Hid (∀ w, Calls Try.prog 19 #[t.val] w fun e w' => e = .returned (.int .i64 c) ∧ Below w.heap.size w w') := fun w => by rw [hc]; exact implVF_any t w hz
  have HT : Hid (∀ (w : World), Calls Try.prog 18 #[t.val] w fun e w' => e = .returned t.val ∧ Below w.heap.size w w') := fun w => toV_any t w
  have VA : Hid _ := (box1 w t 38).1
  have B : Hid _ := (box1 w t 38).2
  clear hc
  by_cases h1 : 1048576 < t.name.size
  · have HZ : Hid (∀ w, Calls Try.prog 16 #[t.val, .int .i64 1048576] w fun e w' => e = .returned (.int .i64 (-1)) ∧ Below w.heap.size w w') := fun w => szV_far t 1048576 w hz (Nat.le_refl _) h1
    clear h1 hz
    go_enter Try.func4, Try.ntmps4
    go_wp2_with fail
    refine (HZ.out _).mono ?_
    rintro e w1 ⟨rfl, hb1⟩
    go_wp2
    go_ret
    exact ⟨rfl, B.out.trans (hb1.mono B.out.size)⟩
  obtain ⟨q, hq⟩ : ∃ q : Nat, q = 1048576 - t.name.size := ⟨_, rfl⟩
  have HZ : Hid (∀ w, Calls Try.prog 16 #[t.val, .int .i64 1048576] w fun e w' => e = .returned (.int .i64 (q : Int)) ∧ Below w.heap.size w w') := fun w => by rw [hq]; exact szV_near t 1048576 w (Nat.le_refl _) (by omega)
  clear h1 hq hz
  go_enter Try.func4, Try.ntmps4
  go_wp2_with fail
  refine (HZ.out _).mono ?_
  rintro e w1 ⟨rfl, hb1⟩
  have VA1 : Hid (VBox w.heap.size t w1) := VA.out.below hb1
  have B1 : Hid (Below w.heap.size w w1) := B.out.trans (hb1.mono B.out.size)
  clear hb1 VA B
  have a0 : w1.cell? ⟨w.heap.size, 0, none⟩ = some (.int .i64 t.kind) := VA1.out.c0
  have a1 : w1.cell? ⟨w.heap.size, 1, none⟩ = some (.int .i64 t.num) := VA1.out.c1
  have a2 : w1.cell? ⟨w.heap.size, 2, none⟩ = some (.string t.name) := VA1.out.c2
  go_wp2_with fail
  refine (HT.out _).mono ?_
  rintro e w2 ⟨rfl, hb2⟩
  have VA2 : Hid (VBox w.heap.size t w2) := VA1.out.below hb2
  have B2 : Hid (Below w.heap.size w w2) := B1.out.trans (hb2.mono B1.out.size)
  clear hb2 a0 a1 a2 VA1 B1
  go_wp2_with fail
  refine (HS.out _).mono ?_
  rintro e w3 ⟨rfl, hb3⟩
  have VA3 : Hid (VBox w.heap.size t w3) := VA2.out.below hb3
  have B3 : Hid (Below w.heap.size w w3) := B2.out.trans (hb3.mono B2.out.size)
  clear hb3 VA2 B2
  have a0 : w3.cell? ⟨w.heap.size, 0, none⟩ = some (.int .i64 t.kind) := VA3.out.c0
  have a1 : w3.cell? ⟨w.heap.size, 1, none⟩ = some (.int .i64 t.num) := VA3.out.c1
  have a2 : w3.cell? ⟨w.heap.size, 2, none⟩ = some (.string t.name) := VA3.out.c2
  go_wp2_with fail
  refine (HT.out _).mono ?_
  rintro e w4 ⟨rfl, hb4⟩
  have B4 : Hid (Below w.heap.size w w4) := B3.out.trans (hb4.mono B3.out.size)
  clear hb4 a0 a1 a2 VA3 B3
  go_wp2_with fail
  refine (HI.out _).mono ?_
  rintro e w5 ⟨rfl, hb5⟩
  go_wp2
  go_ret
  exact ⟨rfl, B4.out.trans (hb5.mono B4.out.size)⟩
end Go.Proofs.Ytijcmfnadobaeaa
