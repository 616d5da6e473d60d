/-
  Parts of the proof laid into one text, one behind the other; each says at its head what is proved in it.
-/
import Derived.Test.YtgfienijabkpjaaDoorImplNum
import Derived.Test.YtgfienijabkpjaaDoorCards
import Derived.Test.YtgfienijabkpjaaDoorTie
import Derived.WalkKit
import Derived.ProofKit
import Derived.OpenShut
import Derived.LaidHandle
import Derived.Deep.DeepHandedRow
import Derived.Lib.LaidTab
/-
  The program's combine with each of its five operations, and the faces AddNum, SubNum, MulNum, QuoNum and RemNum: what each answers at every two numbers; nothing that was there is turned.
-/
namespace Go.Proofs.YtgfienijabkpjaaDoor
open Go.RowKit Go.Extern.Stop Go.Stop Go.Extern Num


theorem combAdd_a (a b : Int) (w : World) (ha : inB a = false) :
    Calls Tryd.prog 69 #[.int .i64 a, .int .i64 b, .func (.func 70) #[] #[]] w fun e w' => e = .returned (.tuple #[.int .i64 0, NN 3]) ∧ w' = w := by
  have HA : Hid (inB a = false) := ha
  clear ha
  go_enter Tryd.func69, Tryd.ntmps69
  go_wp2_with (go_at_call 95; refine (check_no _ _ _ HA.out).mono ?_; rintro e w' ⟨rfl, rfl⟩)
  go_ret2
  exact ⟨rfl, rfl⟩
theorem combAdd_b (a b : Int) (w : World) (ha : inB a = true) (hb : inB b = false) :
    Calls Tryd.prog 69 #[.int .i64 a, .int .i64 b, .func (.func 70) #[] #[]] w fun e w' => e = .returned (.tuple #[.int .i64 0, NN 3]) ∧ w' = w := by
  have HA : Hid (inB a = true) := ha
  have HB : Hid (inB b = false) := hb
  clear ha hb
  go_enter Tryd.func69, Tryd.ntmps69
  go_wp2_with fail
  refine (check_yes _ _ _ HA.out).mono ?_
  rintro e w' ⟨rfl, rfl⟩
  go_wp2_with fail
  refine (check_no _ _ _ HB.out).mono ?_
  rintro e w' ⟨rfl, rfl⟩
  go_wp2
  go_ret2
  exact ⟨rfl, rfl⟩
theorem combAdd_in (a b : Int) (w : World) (ha : inB a = true) (hb : inB b = true) (hv : inB (a + b) = true) :
    Calls Tryd.prog 69 #[.int .i64 a, .int .i64 b, .func (.func 70) #[] #[]] w fun e w' => e = .returned (.tuple #[.int .i64 (a + b), .nilIface]) ∧ w' = w := by
  have a1 := ((inB_iff a).1 ha).1; have a2 := ((inB_iff a).1 ha).2; have b1 := ((inB_iff b).1 hb).1; have b2 := ((inB_iff b).1 hb).2
  have HA : Hid (inB a = true) := ha
  have HB : Hid (inB b = true) := hb
  have HV : Hid (inB (a + b) = true) := hv
  clear ha hb hv
  go_enter Tryd.func69, Tryd.ntmps69
  go_wp2_with fail
  refine (check_yes _ _ _ HA.out).mono ?_
  rintro e w' ⟨rfl, rfl⟩
  go_wp2_with fail
  refine (check_yes _ _ _ HB.out).mono ?_
  rintro e w' ⟨rfl, rfl⟩
  go_wp2_with fail
  refine (plus_in _ _ _ a1 a2 b1 b2).mono ?_
  rintro e w' ⟨rfl, rfl⟩
  go_wp2_with fail
  refine (check_yes _ _ _ HV.out).mono ?_
  rintro e w' ⟨rfl, rfl⟩
  go_wp2
  go_ret2
  exact ⟨rfl, rfl⟩
theorem combAdd_out (a b : Int) (w : World) (ha : inB a = true) (hb : inB b = true) (hv : inB (a + b) = false) :
    Calls Tryd.prog 69 #[.int .i64 a, .int .i64 b, .func (.func 70) #[] #[]] w fun e w' => e = .returned (.tuple #[.int .i64 (a + b), NN 7]) ∧ w' = w := by
  have a1 := ((inB_iff a).1 ha).1; have a2 := ((inB_iff a).1 ha).2; have b1 := ((inB_iff b).1 hb).1; have b2 := ((inB_iff b).1 hb).2
  have HA : Hid (inB a = true) := ha
  have HB : Hid (inB b = true) := hb
  have HV : Hid (inB (a + b) = false) := hv
  clear ha hb hv
  go_enter Tryd.func69, Tryd.ntmps69
  go_wp2_with fail
  refine (check_yes _ _ _ HA.out).mono ?_
  rintro e w' ⟨rfl, rfl⟩
  go_wp2_with fail
  refine (check_yes _ _ _ HB.out).mono ?_
  rintro e w' ⟨rfl, rfl⟩
  go_wp2_with fail
  refine (plus_in _ _ _ a1 a2 b1 b2).mono ?_
  rintro e w' ⟨rfl, rfl⟩
  go_wp2_with fail
  refine (check_no _ _ _ HV.out).mono ?_
  rintro e w' ⟨rfl, rfl⟩
  go_wp2
  go_ret2
  exact ⟨rfl, rfl⟩

theorem faceAdd_nil (a b v : Int) (w : World) (hc : ∀ w, Calls Tryd.prog 69 #[.int .i64 a, .int .i64 b, .func (.func 70) #[] #[]] w fun e w' => e = .returned (.tuple #[.int .i64 v, .nilIface]) ∧ w' = w) :
    Calls Tryd.prog 39 #[.int .i64 a, .int .i64 b] w fun e w' => e = .returned (IR 0 v) ∧ Below w.heap.size w w' := by
  have HC : Hid (∀ w, Calls Tryd.prog 69 #[.int .i64 a, .int .i64 b, .func (.func 70) #[] #[]] w fun e w' => e = .returned (.tuple #[.int .i64 v, .nilIface]) ∧ w' = w) := hc
  clear hc
  go_enter Tryd.func39, Tryd.ntmps39
  go_wp2_with (first | (go_at_call 69; refine (HC.out _).mono ?_; rintro e w' ⟨rfl, rfl⟩) | (go_at_call 68; refine (intAnswer_nil _ _).mono ?_; rintro e w1 ⟨rfl, hq⟩; obtain ⟨hc, hf⟩ := bcell hq))
  exact bodyPost_ret (v := IR 0 v) (by simp [results, Tryd.results39, go_sem, hc]) rfl ⟨rfl, by
    repeat (first | exact Below.refl _ _ | refine Below.setCell ?_ (by simp) _ | refine Below.alloc ?_ (by simp <;> omega) _ | refine Below.trans ?_ (hq.mono (by simp)))⟩
theorem faceAdd_hit (a b v x : Int) (w : World) (hx : (x != 0) = true) (hE : ET w) (hc : ∀ w, Calls Tryd.prog 69 #[.int .i64 a, .int .i64 b, .func (.func 70) #[] #[]] w fun e w' => e = .returned (.tuple #[.int .i64 v, NN x]) ∧ w' = w) :
    Calls Tryd.prog 39 #[.int .i64 a, .int .i64 b] w fun e w' => e = .returned (IR x 0) ∧ Below w.heap.size w w' := by
  have HC : Hid (∀ w, Calls Tryd.prog 69 #[.int .i64 a, .int .i64 b, .func (.func 70) #[] #[]] w fun e w' => e = .returned (.tuple #[.int .i64 v, NN x]) ∧ w' = w) := hc
  have HX : Hid ((x != 0) = true) := hx
  clear hc hx
  go_enter Tryd.func39, Tryd.ntmps39
  go_wp2_with (first | (go_at_call 69; refine (HC.out _).mono ?_; rintro e w' ⟨rfl, rfl⟩) | (go_at_call 68; refine (intAnswer_hit _ _ _ HX.out (hE.alloc _)).mono ?_; rintro e w1 ⟨rfl, hq⟩; obtain ⟨hc, hf⟩ := bcell hq))
  exact bodyPost_ret (v := IR x 0) (by simp [results, Tryd.results39, go_sem, hc]) rfl ⟨rfl, by
    repeat (first | exact Below.refl _ _ | refine Below.setCell ?_ (by simp) _ | refine Below.alloc ?_ (by simp <;> omega) _ | refine Below.trans ?_ (hq.mono (by simp)))⟩
theorem implAdd_range (a b : Int) (w : World) (hE : ET w) (h : (inB a && inB b) = false) :
    Calls Tryd.prog 39 #[.int .i64 a, .int .i64 b] w fun e w' => e = .returned (IR 3 0) ∧ Below w.heap.size w w' := by
  cases ha : inB a
  · exact faceAdd_hit a b 0 3 w (by decide) hE (fun w => combAdd_a a b w ha)
  · exact faceAdd_hit a b 0 3 w (by decide) hE (fun w => combAdd_b a b w ha (by simpa [ha] using h))
theorem implAdd_in (a b : Int) (w : World) (hE : ET w) (ha : inB a = true) (hb : inB b = true) :
    Calls Tryd.prog 39 #[.int .i64 a, .int .i64 b] w fun e w' => e = .returned (IR (oC (a + b)) (oV (a + b))) ∧ Below w.heap.size w w' := by
  cases hv : inB (a + b)
  · have e1 : oC (a + b) = 7 := by simp [oC, hv]
    have e2 : oV (a + b) = 0 := by simp [oV, hv]
    rw [e1, e2]
    exact faceAdd_hit a b (a + b) 7 w (by decide) hE (fun w => combAdd_out a b w ha hb  hv)
  · have e1 : oC (a + b) = 0 := by simp [oC, hv]
    have e2 : oV (a + b) = (a + b) := by simp [oV, hv]
    rw [e1, e2]
    exact faceAdd_nil a b (a + b) w (fun w => combAdd_in a b w ha hb  hv)

theorem combSub_a (a b : Int) (w : World) (ha : inB a = false) :
    Calls Tryd.prog 69 #[.int .i64 a, .int .i64 b, .func (.func 71) #[] #[]] w fun e w' => e = .returned (.tuple #[.int .i64 0, NN 3]) ∧ w' = w := by
  have HA : Hid (inB a = false) := ha
  clear ha
  go_enter Tryd.func69, Tryd.ntmps69
  go_wp2_with (go_at_call 95; refine (check_no _ _ _ HA.out).mono ?_; rintro e w' ⟨rfl, rfl⟩)
  go_ret2
  exact ⟨rfl, rfl⟩
theorem combSub_b (a b : Int) (w : World) (ha : inB a = true) (hb : inB b = false) :
    Calls Tryd.prog 69 #[.int .i64 a, .int .i64 b, .func (.func 71) #[] #[]] w fun e w' => e = .returned (.tuple #[.int .i64 0, NN 3]) ∧ w' = w := by
  have HA : Hid (inB a = true) := ha
  have HB : Hid (inB b = false) := hb
  clear ha hb
  go_enter Tryd.func69, Tryd.ntmps69
  go_wp2_with fail
  refine (check_yes _ _ _ HA.out).mono ?_
  rintro e w' ⟨rfl, rfl⟩
  go_wp2_with fail
  refine (check_no _ _ _ HB.out).mono ?_
  rintro e w' ⟨rfl, rfl⟩
  go_wp2
  go_ret2
  exact ⟨rfl, rfl⟩
theorem combSub_in (a b : Int) (w : World) (ha : inB a = true) (hb : inB b = true) (hv : inB (a - b) = true) :
    Calls Tryd.prog 69 #[.int .i64 a, .int .i64 b, .func (.func 71) #[] #[]] w fun e w' => e = .returned (.tuple #[.int .i64 (a - b), .nilIface]) ∧ w' = w := by
  have a1 := ((inB_iff a).1 ha).1; have a2 := ((inB_iff a).1 ha).2; have b1 := ((inB_iff b).1 hb).1; have b2 := ((inB_iff b).1 hb).2
  have HA : Hid (inB a = true) := ha
  have HB : Hid (inB b = true) := hb
  have HV : Hid (inB (a - b) = true) := hv
  clear ha hb hv
  go_enter Tryd.func69, Tryd.ntmps69
  go_wp2_with fail
  refine (check_yes _ _ _ HA.out).mono ?_
  rintro e w' ⟨rfl, rfl⟩
  go_wp2_with fail
  refine (check_yes _ _ _ HB.out).mono ?_
  rintro e w' ⟨rfl, rfl⟩
  go_wp2_with fail
  refine (minus_in _ _ _ a1 a2 b1 b2).mono ?_
  rintro e w' ⟨rfl, rfl⟩
  go_wp2_with fail
  refine (check_yes _ _ _ HV.out).mono ?_
  rintro e w' ⟨rfl, rfl⟩
  go_wp2
  go_ret2
  exact ⟨rfl, rfl⟩
theorem combSub_out (a b : Int) (w : World) (ha : inB a = true) (hb : inB b = true) (hv : inB (a - b) = false) :
    Calls Tryd.prog 69 #[.int .i64 a, .int .i64 b, .func (.func 71) #[] #[]] w fun e w' => e = .returned (.tuple #[.int .i64 (a - b), NN 7]) ∧ w' = w := by
  have a1 := ((inB_iff a).1 ha).1; have a2 := ((inB_iff a).1 ha).2; have b1 := ((inB_iff b).1 hb).1; have b2 := ((inB_iff b).1 hb).2
  have HA : Hid (inB a = true) := ha
  have HB : Hid (inB b = true) := hb
  have HV : Hid (inB (a - b) = false) := hv
  clear ha hb hv
  go_enter Tryd.func69, Tryd.ntmps69
  go_wp2_with fail
  refine (check_yes _ _ _ HA.out).mono ?_
  rintro e w' ⟨rfl, rfl⟩
  go_wp2_with fail
  refine (check_yes _ _ _ HB.out).mono ?_
  rintro e w' ⟨rfl, rfl⟩
  go_wp2_with fail
  refine (minus_in _ _ _ a1 a2 b1 b2).mono ?_
  rintro e w' ⟨rfl, rfl⟩
  go_wp2_with fail
  refine (check_no _ _ _ HV.out).mono ?_
  rintro e w' ⟨rfl, rfl⟩
  go_wp2
  go_ret2
  exact ⟨rfl, rfl⟩

theorem faceSub_nil (a b v : Int) (w : World) (hc : ∀ w, Calls Tryd.prog 69 #[.int .i64 a, .int .i64 b, .func (.func 71) #[] #[]] w fun e w' => e = .returned (.tuple #[.int .i64 v, .nilIface]) ∧ w' = w) :
    Calls Tryd.prog 40 #[.int .i64 a, .int .i64 b] w fun e w' => e = .returned (IR 0 v) ∧ Below w.heap.size w w' := by
  have HC : Hid (∀ w, Calls Tryd.prog 69 #[.int .i64 a, .int .i64 b, .func (.func 71) #[] #[]] w fun e w' => e = .returned (.tuple #[.int .i64 v, .nilIface]) ∧ w' = w) := hc
  clear hc
  go_enter Tryd.func40, Tryd.ntmps40
  go_wp2_with (first | (go_at_call 69; refine (HC.out _).mono ?_; rintro e w' ⟨rfl, rfl⟩) | (go_at_call 68; refine (intAnswer_nil _ _).mono ?_; rintro e w1 ⟨rfl, hq⟩; obtain ⟨hc, hf⟩ := bcell hq))
  exact bodyPost_ret (v := IR 0 v) (by simp [results, Tryd.results40, go_sem, hc]) rfl ⟨rfl, by
    repeat (first | exact Below.refl _ _ | refine Below.setCell ?_ (by simp) _ | refine Below.alloc ?_ (by simp <;> omega) _ | refine Below.trans ?_ (hq.mono (by simp)))⟩
theorem faceSub_hit (a b v x : Int) (w : World) (hx : (x != 0) = true) (hE : ET w) (hc : ∀ w, Calls Tryd.prog 69 #[.int .i64 a, .int .i64 b, .func (.func 71) #[] #[]] w fun e w' => e = .returned (.tuple #[.int .i64 v, NN x]) ∧ w' = w) :
    Calls Tryd.prog 40 #[.int .i64 a, .int .i64 b] w fun e w' => e = .returned (IR x 0) ∧ Below w.heap.size w w' := by
  have HC : Hid (∀ w, Calls Tryd.prog 69 #[.int .i64 a, .int .i64 b, .func (.func 71) #[] #[]] w fun e w' => e = .returned (.tuple #[.int .i64 v, NN x]) ∧ w' = w) := hc
  have HX : Hid ((x != 0) = true) := hx
  clear hc hx
  go_enter Tryd.func40, Tryd.ntmps40
  go_wp2_with (first | (go_at_call 69; refine (HC.out _).mono ?_; rintro e w' ⟨rfl, rfl⟩) | (go_at_call 68; refine (intAnswer_hit _ _ _ HX.out (hE.alloc _)).mono ?_; rintro e w1 ⟨rfl, hq⟩; obtain ⟨hc, hf⟩ := bcell hq))
  exact bodyPost_ret (v := IR x 0) (by simp [results, Tryd.results40, go_sem, hc]) rfl ⟨rfl, by
    repeat (first | exact Below.refl _ _ | refine Below.setCell ?_ (by simp) _ | refine Below.alloc ?_ (by simp <;> omega) _ | refine Below.trans ?_ (hq.mono (by simp)))⟩
theorem implSub_range (a b : Int) (w : World) (hE : ET w) (h : (inB a && inB b) = false) :
    Calls Tryd.prog 40 #[.int .i64 a, .int .i64 b] w fun e w' => e = .returned (IR 3 0) ∧ Below w.heap.size w w' := by
  cases ha : inB a
  · exact faceSub_hit a b 0 3 w (by decide) hE (fun w => combSub_a a b w ha)
  · exact faceSub_hit a b 0 3 w (by decide) hE (fun w => combSub_b a b w ha (by simpa [ha] using h))
theorem implSub_in (a b : Int) (w : World) (hE : ET w) (ha : inB a = true) (hb : inB b = true) :
    Calls Tryd.prog 40 #[.int .i64 a, .int .i64 b] w fun e w' => e = .returned (IR (oC (a - b)) (oV (a - b))) ∧ Below w.heap.size w w' := by
  cases hv : inB (a - b)
  · have e1 : oC (a - b) = 7 := by simp [oC, hv]
    have e2 : oV (a - b) = 0 := by simp [oV, hv]
    rw [e1, e2]
    exact faceSub_hit a b (a - b) 7 w (by decide) hE (fun w => combSub_out a b w ha hb  hv)
  · have e1 : oC (a - b) = 0 := by simp [oC, hv]
    have e2 : oV (a - b) = (a - b) := by simp [oV, hv]
    rw [e1, e2]
    exact faceSub_nil a b (a - b) w (fun w => combSub_in a b w ha hb  hv)

theorem combMul_a (a b : Int) (w : World) (ha : inB a = false) :
    Calls Tryd.prog 69 #[.int .i64 a, .int .i64 b, .func (.func 72) #[] #[]] w fun e w' => e = .returned (.tuple #[.int .i64 0, NN 3]) ∧ w' = w := by
  have HA : Hid (inB a = false) := ha
  clear ha
  go_enter Tryd.func69, Tryd.ntmps69
  go_wp2_with (go_at_call 95; refine (check_no _ _ _ HA.out).mono ?_; rintro e w' ⟨rfl, rfl⟩)
  go_ret2
  exact ⟨rfl, rfl⟩
theorem combMul_b (a b : Int) (w : World) (ha : inB a = true) (hb : inB b = false) :
    Calls Tryd.prog 69 #[.int .i64 a, .int .i64 b, .func (.func 72) #[] #[]] w fun e w' => e = .returned (.tuple #[.int .i64 0, NN 3]) ∧ w' = w := by
  have HA : Hid (inB a = true) := ha
  have HB : Hid (inB b = false) := hb
  clear ha hb
  go_enter Tryd.func69, Tryd.ntmps69
  go_wp2_with fail
  refine (check_yes _ _ _ HA.out).mono ?_
  rintro e w' ⟨rfl, rfl⟩
  go_wp2_with fail
  refine (check_no _ _ _ HB.out).mono ?_
  rintro e w' ⟨rfl, rfl⟩
  go_wp2
  go_ret2
  exact ⟨rfl, rfl⟩
theorem combMul_in (a b : Int) (w : World) (ha : inB a = true) (hb : inB b = true) (hv : inB (a * b) = true) :
    Calls Tryd.prog 69 #[.int .i64 a, .int .i64 b, .func (.func 72) #[] #[]] w fun e w' => e = .returned (.tuple #[.int .i64 (a * b), .nilIface]) ∧ w' = w := by
  have a1 := ((inB_iff a).1 ha).1; have a2 := ((inB_iff a).1 ha).2; have b1 := ((inB_iff b).1 hb).1; have b2 := ((inB_iff b).1 hb).2
  have HA : Hid (inB a = true) := ha
  have HB : Hid (inB b = true) := hb
  have HV : Hid (inB (a * b) = true) := hv
  clear ha hb hv
  go_enter Tryd.func69, Tryd.ntmps69
  go_wp2_with fail
  refine (check_yes _ _ _ HA.out).mono ?_
  rintro e w' ⟨rfl, rfl⟩
  go_wp2_with fail
  refine (check_yes _ _ _ HB.out).mono ?_
  rintro e w' ⟨rfl, rfl⟩
  go_wp2_with fail
  refine (times_in _ _ _ a1 a2 b1 b2).mono ?_
  rintro e w' ⟨rfl, rfl⟩
  go_wp2_with fail
  refine (check_yes _ _ _ HV.out).mono ?_
  rintro e w' ⟨rfl, rfl⟩
  go_wp2
  go_ret2
  exact ⟨rfl, rfl⟩
theorem combMul_out (a b : Int) (w : World) (ha : inB a = true) (hb : inB b = true) (hv : inB (a * b) = false) :
    Calls Tryd.prog 69 #[.int .i64 a, .int .i64 b, .func (.func 72) #[] #[]] w fun e w' => e = .returned (.tuple #[.int .i64 (a * b), NN 7]) ∧ w' = w := by
  have a1 := ((inB_iff a).1 ha).1; have a2 := ((inB_iff a).1 ha).2; have b1 := ((inB_iff b).1 hb).1; have b2 := ((inB_iff b).1 hb).2
  have HA : Hid (inB a = true) := ha
  have HB : Hid (inB b = true) := hb
  have HV : Hid (inB (a * b) = false) := hv
  clear ha hb hv
  go_enter Tryd.func69, Tryd.ntmps69
  go_wp2_with fail
  refine (check_yes _ _ _ HA.out).mono ?_
  rintro e w' ⟨rfl, rfl⟩
  go_wp2_with fail
  refine (check_yes _ _ _ HB.out).mono ?_
  rintro e w' ⟨rfl, rfl⟩
  go_wp2_with fail
  refine (times_in _ _ _ a1 a2 b1 b2).mono ?_
  rintro e w' ⟨rfl, rfl⟩
  go_wp2_with fail
  refine (check_no _ _ _ HV.out).mono ?_
  rintro e w' ⟨rfl, rfl⟩
  go_wp2
  go_ret2
  exact ⟨rfl, rfl⟩

theorem faceMul_nil (a b v : Int) (w : World) (hc : ∀ w, Calls Tryd.prog 69 #[.int .i64 a, .int .i64 b, .func (.func 72) #[] #[]] w fun e w' => e = .returned (.tuple #[.int .i64 v, .nilIface]) ∧ w' = w) :
    Calls Tryd.prog 41 #[.int .i64 a, .int .i64 b] w fun e w' => e = .returned (IR 0 v) ∧ Below w.heap.size w w' := by
  have HC : Hid (∀ w, Calls Tryd.prog 69 #[.int .i64 a, .int .i64 b, .func (.func 72) #[] #[]] w fun e w' => e = .returned (.tuple #[.int .i64 v, .nilIface]) ∧ w' = w) := hc
  clear hc
  go_enter Tryd.func41, Tryd.ntmps41
  go_wp2_with (first | (go_at_call 69; refine (HC.out _).mono ?_; rintro e w' ⟨rfl, rfl⟩) | (go_at_call 68; refine (intAnswer_nil _ _).mono ?_; rintro e w1 ⟨rfl, hq⟩; obtain ⟨hc, hf⟩ := bcell hq))
  exact bodyPost_ret (v := IR 0 v) (by simp [results, Tryd.results41, go_sem, hc]) rfl ⟨rfl, by
    repeat (first | exact Below.refl _ _ | refine Below.setCell ?_ (by simp) _ | refine Below.alloc ?_ (by simp <;> omega) _ | refine Below.trans ?_ (hq.mono (by simp)))⟩
theorem faceMul_hit (a b v x : Int) (w : World) (hx : (x != 0) = true) (hE : ET w) (hc : ∀ w, Calls Tryd.prog 69 #[.int .i64 a, .int .i64 b, .func (.func 72) #[] #[]] w fun e w' => e = .returned (.tuple #[.int .i64 v, NN x]) ∧ w' = w) :
    Calls Tryd.prog 41 #[.int .i64 a, .int .i64 b] w fun e w' => e = .returned (IR x 0) ∧ Below w.heap.size w w' := by
  have HC : Hid (∀ w, Calls Tryd.prog 69 #[.int .i64 a, .int .i64 b, .func (.func 72) #[] #[]] w fun e w' => e = .returned (.tuple #[.int .i64 v, NN x]) ∧ w' = w) := hc
  have HX : Hid ((x != 0) = true) := hx
  clear hc hx
  go_enter Tryd.func41, Tryd.ntmps41
  go_wp2_with (first | (go_at_call 69; refine (HC.out _).mono ?_; rintro e w' ⟨rfl, rfl⟩) | (go_at_call 68; refine (intAnswer_hit _ _ _ HX.out (hE.alloc _)).mono ?_; rintro e w1 ⟨rfl, hq⟩; obtain ⟨hc, hf⟩ := bcell hq))
  exact bodyPost_ret (v := IR x 0) (by simp [results, Tryd.results41, go_sem, hc]) rfl ⟨rfl, by
    repeat (first | exact Below.refl _ _ | refine Below.setCell ?_ (by simp) _ | refine Below.alloc ?_ (by simp <;> omega) _ | refine Below.trans ?_ (hq.mono (by simp)))⟩
theorem implMul_range (a b : Int) (w : World) (hE : ET w) (h : (inB a && inB b) = false) :
    Calls Tryd.prog 41 #[.int .i64 a, .int .i64 b] w fun e w' => e = .returned (IR 3 0) ∧ Below w.heap.size w w' := by
  cases ha : inB a
  · exact faceMul_hit a b 0 3 w (by decide) hE (fun w => combMul_a a b w ha)
  · exact faceMul_hit a b 0 3 w (by decide) hE (fun w => combMul_b a b w ha (by simpa [ha] using h))
theorem implMul_in (a b : Int) (w : World) (hE : ET w) (ha : inB a = true) (hb : inB b = true) :
    Calls Tryd.prog 41 #[.int .i64 a, .int .i64 b] w fun e w' => e = .returned (IR (oC (a * b)) (oV (a * b))) ∧ Below w.heap.size w w' := by
  cases hv : inB (a * b)
  · have e1 : oC (a * b) = 7 := by simp [oC, hv]
    have e2 : oV (a * b) = 0 := by simp [oV, hv]
    rw [e1, e2]
    exact faceMul_hit a b (a * b) 7 w (by decide) hE (fun w => combMul_out a b w ha hb  hv)
  · have e1 : oC (a * b) = 0 := by simp [oC, hv]
    have e2 : oV (a * b) = (a * b) := by simp [oV, hv]
    rw [e1, e2]
    exact faceMul_nil a b (a * b) w (fun w => combMul_in a b w ha hb  hv)

theorem combQuo_a (a b : Int) (w : World) (ha : inB a = false) :
    Calls Tryd.prog 69 #[.int .i64 a, .int .i64 b, .func (.func 73) #[] #[]] w fun e w' => e = .returned (.tuple #[.int .i64 0, NN 3]) ∧ w' = w := by
  have HA : Hid (inB a = false) := ha
  clear ha
  go_enter Tryd.func69, Tryd.ntmps69
  go_wp2_with (go_at_call 95; refine (check_no _ _ _ HA.out).mono ?_; rintro e w' ⟨rfl, rfl⟩)
  go_ret2
  exact ⟨rfl, rfl⟩
theorem combQuo_b (a b : Int) (w : World) (ha : inB a = true) (hb : inB b = false) :
    Calls Tryd.prog 69 #[.int .i64 a, .int .i64 b, .func (.func 73) #[] #[]] w fun e w' => e = .returned (.tuple #[.int .i64 0, NN 3]) ∧ w' = w := by
  have HA : Hid (inB a = true) := ha
  have HB : Hid (inB b = false) := hb
  clear ha hb
  go_enter Tryd.func69, Tryd.ntmps69
  go_wp2_with fail
  refine (check_yes _ _ _ HA.out).mono ?_
  rintro e w' ⟨rfl, rfl⟩
  go_wp2_with fail
  refine (check_no _ _ _ HB.out).mono ?_
  rintro e w' ⟨rfl, rfl⟩
  go_wp2
  go_ret2
  exact ⟨rfl, rfl⟩
theorem combQuo_in (a b : Int) (w : World) (ha : inB a = true) (hb : inB b = true) (h0 : b ≠ 0) (hv : inB (fq a b) = true) :
    Calls Tryd.prog 69 #[.int .i64 a, .int .i64 b, .func (.func 73) #[] #[]] w fun e w' => e = .returned (.tuple #[.int .i64 (fq a b), .nilIface]) ∧ w' = w := by
  have a1 := ((inB_iff a).1 ha).1; have a2 := ((inB_iff a).1 ha).2; have b1 := ((inB_iff b).1 hb).1; have b2 := ((inB_iff b).1 hb).2
  have HA : Hid (inB a = true) := ha
  have HB : Hid (inB b = true) := hb
  have HV : Hid (inB (fq a b) = true) := hv
  clear ha hb hv
  go_enter Tryd.func69, Tryd.ntmps69
  go_wp2_with fail
  refine (check_yes _ _ _ HA.out).mono ?_
  rintro e w' ⟨rfl, rfl⟩
  go_wp2_with fail
  refine (check_yes _ _ _ HB.out).mono ?_
  rintro e w' ⟨rfl, rfl⟩
  go_wp2_with fail
  refine (floorQ_in _ _ _ a1 a2 b1 b2 h0).mono ?_
  rintro e w' ⟨rfl, rfl⟩
  go_wp2_with fail
  refine (check_yes _ _ _ HV.out).mono ?_
  rintro e w' ⟨rfl, rfl⟩
  go_wp2
  go_ret2
  exact ⟨rfl, rfl⟩
theorem combQuo_out (a b : Int) (w : World) (ha : inB a = true) (hb : inB b = true) (h0 : b ≠ 0) (hv : inB (fq a b) = false) :
    Calls Tryd.prog 69 #[.int .i64 a, .int .i64 b, .func (.func 73) #[] #[]] w fun e w' => e = .returned (.tuple #[.int .i64 (fq a b), NN 7]) ∧ w' = w := by
  have a1 := ((inB_iff a).1 ha).1; have a2 := ((inB_iff a).1 ha).2; have b1 := ((inB_iff b).1 hb).1; have b2 := ((inB_iff b).1 hb).2
  have HA : Hid (inB a = true) := ha
  have HB : Hid (inB b = true) := hb
  have HV : Hid (inB (fq a b) = false) := hv
  clear ha hb hv
  go_enter Tryd.func69, Tryd.ntmps69
  go_wp2_with fail
  refine (check_yes _ _ _ HA.out).mono ?_
  rintro e w' ⟨rfl, rfl⟩
  go_wp2_with fail
  refine (check_yes _ _ _ HB.out).mono ?_
  rintro e w' ⟨rfl, rfl⟩
  go_wp2_with fail
  refine (floorQ_in _ _ _ a1 a2 b1 b2 h0).mono ?_
  rintro e w' ⟨rfl, rfl⟩
  go_wp2_with fail
  refine (check_no _ _ _ HV.out).mono ?_
  rintro e w' ⟨rfl, rfl⟩
  go_wp2
  go_ret2
  exact ⟨rfl, rfl⟩
theorem combQuo_zero (a : Int) (w : World) (ha : inB a = true) :
    Calls Tryd.prog 69 #[.int .i64 a, .int .i64 0, .func (.func 73) #[] #[]] w fun e w' => e = .returned (.tuple #[.int .i64 0, NN 7]) ∧ w' = w := by
  have HA : Hid (inB a = true) := ha
  clear ha
  go_enter Tryd.func69, Tryd.ntmps69
  go_wp2_with fail
  refine (check_yes _ _ _ HA.out).mono ?_
  rintro e w' ⟨rfl, rfl⟩
  go_wp2_with fail
  refine (check_yes _ _ _ (by decide)).mono ?_
  rintro e w' ⟨rfl, rfl⟩
  go_wp2_with fail
  refine (floorQ_zero _ _).mono ?_
  rintro e w' ⟨rfl, rfl⟩
  go_wp2
  go_ret2
  exact ⟨rfl, rfl⟩

theorem faceQuo_nil (a b v : Int) (w : World) (hc : ∀ w, Calls Tryd.prog 69 #[.int .i64 a, .int .i64 b, .func (.func 73) #[] #[]] w fun e w' => e = .returned (.tuple #[.int .i64 v, .nilIface]) ∧ w' = w) :
    Calls Tryd.prog 42 #[.int .i64 a, .int .i64 b] w fun e w' => e = .returned (IR 0 v) ∧ Below w.heap.size w w' := by
  have HC : Hid (∀ w, Calls Tryd.prog 69 #[.int .i64 a, .int .i64 b, .func (.func 73) #[] #[]] w fun e w' => e = .returned (.tuple #[.int .i64 v, .nilIface]) ∧ w' = w) := hc
  clear hc
  go_enter Tryd.func42, Tryd.ntmps42
  go_wp2_with (first | (go_at_call 69; refine (HC.out _).mono ?_; rintro e w' ⟨rfl, rfl⟩) | (go_at_call 68; refine (intAnswer_nil _ _).mono ?_; rintro e w1 ⟨rfl, hq⟩; obtain ⟨hc, hf⟩ := bcell hq))
  exact bodyPost_ret (v := IR 0 v) (by simp [results, Tryd.results42, go_sem, hc]) rfl ⟨rfl, by
    repeat (first | exact Below.refl _ _ | refine Below.setCell ?_ (by simp) _ | refine Below.alloc ?_ (by simp <;> omega) _ | refine Below.trans ?_ (hq.mono (by simp)))⟩
theorem faceQuo_hit (a b v x : Int) (w : World) (hx : (x != 0) = true) (hE : ET w) (hc : ∀ w, Calls Tryd.prog 69 #[.int .i64 a, .int .i64 b, .func (.func 73) #[] #[]] w fun e w' => e = .returned (.tuple #[.int .i64 v, NN x]) ∧ w' = w) :
    Calls Tryd.prog 42 #[.int .i64 a, .int .i64 b] w fun e w' => e = .returned (IR x 0) ∧ Below w.heap.size w w' := by
  have HC : Hid (∀ w, Calls Tryd.prog 69 #[.int .i64 a, .int .i64 b, .func (.func 73) #[] #[]] w fun e w' => e = .returned (.tuple #[.int .i64 v, NN x]) ∧ w' = w) := hc
  have HX : Hid ((x != 0) = true) := hx
  clear hc hx
  go_enter Tryd.func42, Tryd.ntmps42
  go_wp2_with (first | (go_at_call 69; refine (HC.out _).mono ?_; rintro e w' ⟨rfl, rfl⟩) | (go_at_call 68; refine (intAnswer_hit _ _ _ HX.out (hE.alloc _)).mono ?_; rintro e w1 ⟨rfl, hq⟩; obtain ⟨hc, hf⟩ := bcell hq))
  exact bodyPost_ret (v := IR x 0) (by simp [results, Tryd.results42, go_sem, hc]) rfl ⟨rfl, by
    repeat (first | exact Below.refl _ _ | refine Below.setCell ?_ (by simp) _ | refine Below.alloc ?_ (by simp <;> omega) _ | refine Below.trans ?_ (hq.mono (by simp)))⟩
theorem implQuo_range (a b : Int) (w : World) (hE : ET w) (h : (inB a && inB b) = false) :
    Calls Tryd.prog 42 #[.int .i64 a, .int .i64 b] w fun e w' => e = .returned (IR 3 0) ∧ Below w.heap.size w w' := by
  cases ha : inB a
  · exact faceQuo_hit a b 0 3 w (by decide) hE (fun w => combQuo_a a b w ha)
  · exact faceQuo_hit a b 0 3 w (by decide) hE (fun w => combQuo_b a b w ha (by simpa [ha] using h))
theorem implQuo_in (a b : Int) (w : World) (hE : ET w) (ha : inB a = true) (hb : inB b = true) (h0 : b ≠ 0) :
    Calls Tryd.prog 42 #[.int .i64 a, .int .i64 b] w fun e w' => e = .returned (IR (oC (fq a b)) (oV (fq a b))) ∧ Below w.heap.size w w' := by
  cases hv : inB (fq a b)
  · have e1 : oC (fq a b) = 7 := by simp [oC, hv]
    have e2 : oV (fq a b) = 0 := by simp [oV, hv]
    rw [e1, e2]
    exact faceQuo_hit a b (fq a b) 7 w (by decide) hE (fun w => combQuo_out a b w ha hb h0 hv)
  · have e1 : oC (fq a b) = 0 := by simp [oC, hv]
    have e2 : oV (fq a b) = (fq a b) := by simp [oV, hv]
    rw [e1, e2]
    exact faceQuo_nil a b (fq a b) w (fun w => combQuo_in a b w ha hb h0 hv)
theorem implQuo_zero (a : Int) (w : World) (hE : ET w) (ha : inB a = true) :
    Calls Tryd.prog 42 #[.int .i64 a, .int .i64 0] w fun e w' => e = .returned (IR 7 0) ∧ Below w.heap.size w w' :=
  faceQuo_hit a 0 0 7 w (by decide) hE (fun w => combQuo_zero a w ha)

theorem combRem_a (a b : Int) (w : World) (ha : inB a = false) :
    Calls Tryd.prog 69 #[.int .i64 a, .int .i64 b, .func (.func 74) #[] #[]] w fun e w' => e = .returned (.tuple #[.int .i64 0, NN 3]) ∧ w' = w := by
  have HA : Hid (inB a = false) := ha
  clear ha
  go_enter Tryd.func69, Tryd.ntmps69
  go_wp2_with (go_at_call 95; refine (check_no _ _ _ HA.out).mono ?_; rintro e w' ⟨rfl, rfl⟩)
  go_ret2
  exact ⟨rfl, rfl⟩
theorem combRem_b (a b : Int) (w : World) (ha : inB a = true) (hb : inB b = false) :
    Calls Tryd.prog 69 #[.int .i64 a, .int .i64 b, .func (.func 74) #[] #[]] w fun e w' => e = .returned (.tuple #[.int .i64 0, NN 3]) ∧ w' = w := by
  have HA : Hid (inB a = true) := ha
  have HB : Hid (inB b = false) := hb
  clear ha hb
  go_enter Tryd.func69, Tryd.ntmps69
  go_wp2_with fail
  refine (check_yes _ _ _ HA.out).mono ?_
  rintro e w' ⟨rfl, rfl⟩
  go_wp2_with fail
  refine (check_no _ _ _ HB.out).mono ?_
  rintro e w' ⟨rfl, rfl⟩
  go_wp2
  go_ret2
  exact ⟨rfl, rfl⟩
theorem combRem_in (a b : Int) (w : World) (ha : inB a = true) (hb : inB b = true) (h0 : b ≠ 0) (hv : inB (a - b * fq a b) = true) :
    Calls Tryd.prog 69 #[.int .i64 a, .int .i64 b, .func (.func 74) #[] #[]] w fun e w' => e = .returned (.tuple #[.int .i64 (a - b * fq a b), .nilIface]) ∧ w' = w := by
  have a1 := ((inB_iff a).1 ha).1; have a2 := ((inB_iff a).1 ha).2; have b1 := ((inB_iff b).1 hb).1; have b2 := ((inB_iff b).1 hb).2
  have HA : Hid (inB a = true) := ha
  have HB : Hid (inB b = true) := hb
  have HV : Hid (inB (a - b * fq a b) = true) := hv
  clear ha hb hv
  go_enter Tryd.func69, Tryd.ntmps69
  go_wp2_with fail
  refine (check_yes _ _ _ HA.out).mono ?_
  rintro e w' ⟨rfl, rfl⟩
  go_wp2_with fail
  refine (check_yes _ _ _ HB.out).mono ?_
  rintro e w' ⟨rfl, rfl⟩
  go_wp2_with fail
  refine (floorR_in _ _ _ a1 a2 b1 b2 h0).mono ?_
  rintro e w' ⟨rfl, rfl⟩
  go_wp2_with fail
  refine (check_yes _ _ _ HV.out).mono ?_
  rintro e w' ⟨rfl, rfl⟩
  go_wp2
  go_ret2
  exact ⟨rfl, rfl⟩
theorem combRem_out (a b : Int) (w : World) (ha : inB a = true) (hb : inB b = true) (h0 : b ≠ 0) (hv : inB (a - b * fq a b) = false) :
    Calls Tryd.prog 69 #[.int .i64 a, .int .i64 b, .func (.func 74) #[] #[]] w fun e w' => e = .returned (.tuple #[.int .i64 (a - b * fq a b), NN 7]) ∧ w' = w := by
  have a1 := ((inB_iff a).1 ha).1; have a2 := ((inB_iff a).1 ha).2; have b1 := ((inB_iff b).1 hb).1; have b2 := ((inB_iff b).1 hb).2
  have HA : Hid (inB a = true) := ha
  have HB : Hid (inB b = true) := hb
  have HV : Hid (inB (a - b * fq a b) = false) := hv
  clear ha hb hv
  go_enter Tryd.func69, Tryd.ntmps69
  go_wp2_with fail
  refine (check_yes _ _ _ HA.out).mono ?_
  rintro e w' ⟨rfl, rfl⟩
  go_wp2_with fail
  refine (check_yes _ _ _ HB.out).mono ?_
  rintro e w' ⟨rfl, rfl⟩
  go_wp2_with fail
  refine (floorR_in _ _ _ a1 a2 b1 b2 h0).mono ?_
  rintro e w' ⟨rfl, rfl⟩
  go_wp2_with fail
  refine (check_no _ _ _ HV.out).mono ?_
  rintro e w' ⟨rfl, rfl⟩
  go_wp2
  go_ret2
  exact ⟨rfl, rfl⟩
theorem combRem_zero (a : Int) (w : World) (ha : inB a = true) :
    Calls Tryd.prog 69 #[.int .i64 a, .int .i64 0, .func (.func 74) #[] #[]] w fun e w' => e = .returned (.tuple #[.int .i64 0, NN 7]) ∧ w' = w := by
  have HA : Hid (inB a = true) := ha
  clear ha
  go_enter Tryd.func69, Tryd.ntmps69
  go_wp2_with fail
  refine (check_yes _ _ _ HA.out).mono ?_
  rintro e w' ⟨rfl, rfl⟩
  go_wp2_with fail
  refine (check_yes _ _ _ (by decide)).mono ?_
  rintro e w' ⟨rfl, rfl⟩
  go_wp2_with fail
  refine (floorR_zero _ _).mono ?_
  rintro e w' ⟨rfl, rfl⟩
  go_wp2
  go_ret2
  exact ⟨rfl, rfl⟩

theorem faceRem_nil (a b v : Int) (w : World) (hc : ∀ w, Calls Tryd.prog 69 #[.int .i64 a, .int .i64 b, .func (.func 74) #[] #[]] w fun e w' => e = .returned (.tuple #[.int .i64 v, .nilIface]) ∧ w' = w) :
    Calls Tryd.prog 43 #[.int .i64 a, .int .i64 b] w fun e w' => e = .returned (IR 0 v) ∧ Below w.heap.size w w' := by
  have HC : Hid (∀ w, Calls Tryd.prog 69 #[.int .i64 a, .int .i64 b, .func (.func 74) #[] #[]] w fun e w' => e = .returned (.tuple #[.int .i64 v, .nilIface]) ∧ w' = w) := hc
  clear hc
  go_enter Tryd.func43, Tryd.ntmps43
  go_wp2_with (first | (go_at_call 69; refine (HC.out _).mono ?_; rintro e w' ⟨rfl, rfl⟩) | (go_at_call 68; refine (intAnswer_nil _ _).mono ?_; rintro e w1 ⟨rfl, hq⟩; obtain ⟨hc, hf⟩ := bcell hq))
  exact bodyPost_ret (v := IR 0 v) (by simp [results, Tryd.results43, go_sem, hc]) rfl ⟨rfl, by
    repeat (first | exact Below.refl _ _ | refine Below.setCell ?_ (by simp) _ | refine Below.alloc ?_ (by simp <;> omega) _ | refine Below.trans ?_ (hq.mono (by simp)))⟩
theorem faceRem_hit (a b v x : Int) (w : World) (hx : (x != 0) = true) (hE : ET w) (hc : ∀ w, Calls Tryd.prog 69 #[.int .i64 a, .int .i64 b, .func (.func 74) #[] #[]] w fun e w' => e = .returned (.tuple #[.int .i64 v, NN x]) ∧ w' = w) :
    Calls Tryd.prog 43 #[.int .i64 a, .int .i64 b] w fun e w' => e = .returned (IR x 0) ∧ Below w.heap.size w w' := by
  have HC : Hid (∀ w, Calls Tryd.prog 69 #[.int .i64 a, .int .i64 b, .func (.func 74) #[] #[]] w fun e w' => e = .returned (.tuple #[.int .i64 v, NN x]) ∧ w' = w) := hc
  have HX : Hid ((x != 0) = true) := hx
  clear hc hx
  go_enter Tryd.func43, Tryd.ntmps43
  go_wp2_with (first | (go_at_call 69; refine (HC.out _).mono ?_; rintro e w' ⟨rfl, rfl⟩) | (go_at_call 68; refine (intAnswer_hit _ _ _ HX.out (hE.alloc _)).mono ?_; rintro e w1 ⟨rfl, hq⟩; obtain ⟨hc, hf⟩ := bcell hq))
  exact bodyPost_ret (v := IR x 0) (by simp [results, Tryd.results43, go_sem, hc]) rfl ⟨rfl, by
    repeat (first | exact Below.refl _ _ | refine Below.setCell ?_ (by simp) _ | refine Below.alloc ?_ (by simp <;> omega) _ | refine Below.trans ?_ (hq.mono (by simp)))⟩
theorem implRem_range (a b : Int) (w : World) (hE : ET w) (h : (inB a && inB b) = false) :
    Calls Tryd.prog 43 #[.int .i64 a, .int .i64 b] w fun e w' => e = .returned (IR 3 0) ∧ Below w.heap.size w w' := by
  cases ha : inB a
  · exact faceRem_hit a b 0 3 w (by decide) hE (fun w => combRem_a a b w ha)
  · exact faceRem_hit a b 0 3 w (by decide) hE (fun w => combRem_b a b w ha (by simpa [ha] using h))
theorem implRem_in (a b : Int) (w : World) (hE : ET w) (ha : inB a = true) (hb : inB b = true) (h0 : b ≠ 0) :
    Calls Tryd.prog 43 #[.int .i64 a, .int .i64 b] w fun e w' => e = .returned (IR (oC (a - b * fq a b)) (oV (a - b * fq a b))) ∧ Below w.heap.size w w' := by
  cases hv : inB (a - b * fq a b)
  · have e1 : oC (a - b * fq a b) = 7 := by simp [oC, hv]
    have e2 : oV (a - b * fq a b) = 0 := by simp [oV, hv]
    rw [e1, e2]
    exact faceRem_hit a b (a - b * fq a b) 7 w (by decide) hE (fun w => combRem_out a b w ha hb h0 hv)
  · have e1 : oC (a - b * fq a b) = 0 := by simp [oC, hv]
    have e2 : oV (a - b * fq a b) = (a - b * fq a b) := by simp [oV, hv]
    rw [e1, e2]
    exact faceRem_nil a b (a - b * fq a b) w (fun w => combRem_in a b w ha hb h0 hv)
theorem implRem_zero (a : Int) (w : World) (hE : ET w) (ha : inB a = true) :
    Calls Tryd.prog 43 #[.int .i64 a, .int .i64 0] w fun e w' => e = .returned (IR 7 0) ∧ Below w.heap.size w w' :=
  faceRem_hit a 0 0 7 w (by decide) hE (fun w => combRem_zero a w ha)
end Go.Proofs.YtgfienijabkpjaaDoor
/-
  The exact laws of NumFault, AddNum, SubNum, MulNum, QuoNum and RemNum answer true at every argument, in every world in which errors.errorType holds what the program's text lays; nothing that was there is turned.
-/
namespace Go.Proofs.YtgfienijabkpjaaDoor
open Go.RowKit Go.Extern.Stop Go.Stop Go.Extern Num

end Go.Proofs.YtgfienijabkpjaaDoor
/-
  What a row's list gives a walk: the variable errors.errorType holds the handle of the type error; and a world that meets the list.
-/
namespace Go.Proofs.YtgfienijabkpjaaDoor
open Go.ChangeShapes Go.WideShapes Go.ChangeAt Go.RowKit

theorem own : ownKnob Tryd.prog.godebug = none := by kernel_rfl
theorem gEt : Tryd.prog.globalNamed "errors.errorType" = some 0 := by kernel_rfl
theorem cutRt : (Tryd.prog.cutTypes.find? (·.1 == "internal/reflectlite.rtype")).map (·.2) = some 173 := by kernel_rfl
theorem oneRow : ((List.range 230).filter fun t => Tryd.prog.rowNamed t [101, 114, 114, 111, 114]) = [119] := by kernel_rfl
theorem typesSize : Tryd.prog.types.size = 230 := by kernel_rfl

theorem et_of_handles {W : World} (h : handlesMet Tryd.prog [("errors.errorType", Rows.laid_errors_errorType)] W) : ET W := by
  obtain ⟨name, u, ty, e1, e2, e3, e4, e5⟩ := h _ (List.mem_singleton.2 rfl)
  have en : name = [101, 114, 114, 111, 114] := (Option.some.inj e1).symm
  subst en
  obtain rfl := Option.some.inj (cutRt.symm.trans e2)
  have hm : ty ∈ (List.range 230).filter fun t => Tryd.prog.rowNamed t [101, 114, 114, 111, 114] := List.mem_filter.2 ⟨List.mem_range.2 (by rw [← typesSize]; exact e3), e4⟩
  rw [oneRow] at hm
  obtain rfl := List.mem_singleton.1 hm
  have hh : typeHandle Tryd.prog 119 = .pointer (some ⟨5, 119, none⟩) := by kernel_rfl
  rw [hh] at e5
  unfold ET
  simpa using World.var?_cell gEt e5 0

end Go.Proofs.YtgfienijabkpjaaDoor
