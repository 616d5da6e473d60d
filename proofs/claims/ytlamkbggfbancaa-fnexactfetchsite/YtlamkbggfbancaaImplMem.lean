/-
  The program's memoryOf and holds; nothing that was there is turned.
-/
import Derived.Test.YtlamkbggfbancaaSiteMath
import Derived.Test.YtlamkbggfbancaaGlobKit
namespace Go.Proofs.Ytlamkbggfbancaa
open Go.RowKit Go.Extern.Stop Go.Stop Go.Extern Num Go.Lib

/-- What a site remembers, as words. -/
structure Mry where
  ver : Int
  value : Wd
abbrev Mry.val (m : Mry) : Value := .agg #[.int .i64 m.ver, .int .u8 m.value.tag, .int .u64 m.value.rest]
def mryOf (t : Ste) : Mry := if t.ver = 0 then ⟨0, ⟨0, 0⟩⟩ else ⟨t.ver, wdOf t.value⟩
set_option maxHeartbeats 2000000 in
theorem memoryOf_any (t : Ste) (w : World) (hz : t.value.name.size ≤ 9223372036854775807) :
    Calls Try.prog 83 #[t.val] w fun e w' => (∃ m : Mry, e = .returned (.tuple #[m.val, .int .i64 (memC t)]) ∧ (memC t = 0 → m = mryOf t)) ∧ Below w.heap.size w w' := by
  obtain ⟨n, v⟩ := t
  obtain ⟨R, hR⟩ : ∃ R, R = memC ⟨n, v⟩ := ⟨_, rfl⟩
  rw [← hR]
  have HR : Hid (R = if n = 0 then (if eqVB v vZ = true then 0 else 1) else if 1 ≤ n ∧ n ≤ 99999 then vfault v else 3) := hR
  show Calls Try.prog 83 #[.agg #[.int .i64 n, .int .i64 v.kind, .int .i64 v.num, .string v.name]] w fun e w' => (∃ m : Mry, e = .returned (.tuple #[m.val, .int .i64 R]) ∧ (R = 0 → m = mryOf ⟨n, v⟩)) ∧ Below w.heap.size w w'
  clear hR
  by_cases h0 : n = 0
  · subst h0
    have HR2 : Hid (R = if eqVB v vZ = true then 0 else 1) := by show R = _; rw [HR.out, if_pos rfl]
    clear HR hz
    have HQ : Hid (eqVB v vZ = (v.kind == 0 && (v.num == 0 && (v.name.toList == (⟨#[]⟩ : ByteArray).toList)))) := rfl
    have hnil : (⟨#[]⟩ : ByteArray).toList = [] := by rw [ByteArray.toList_eq]
    rw [hnil] at HQ
    cases e0 : (v.kind == 0) <;> cases e1 : (v.num == 0) <;> cases e2 : (v.name.toList == [])
    case true.true.true =>
      have HE : Hid (R = 0) := by show R = 0; rw [HR2.out, HQ.out, e0, e1, e2]; rfl
      clear HR2 HQ
      go_enter Try.func83, Try.ntmps83
      go_wp2
      refine bodyPost_ret (v := .tuple #[Mry.val ⟨0, ⟨0, 0⟩⟩, .int .i64 0]) (by simp [results, Try.results83, go_sem]) rfl ⟨⟨⟨0, ⟨0, 0⟩⟩, by rw [HE.out], fun _ => rfl⟩, ?_⟩
      repeat (first | exact Below.refl _ _ | refine Below.setCell ?_ (by simp <;> omega) _ | refine Below.alloc ?_ (by simp <;> omega) _ | refine Below.drew ?_)
    all_goals
      have HE : Hid (R = 1) := by show R = 1; rw [HR2.out, HQ.out, e0, e1, e2]; rfl
      clear HR2 HQ
      go_enter Try.func83, Try.ntmps83
      go_wp2
      refine bodyPost_ret (v := .tuple #[Mry.val ⟨0, ⟨0, 0⟩⟩, .int .i64 1]) (by simp [results, Try.results83, go_sem]) rfl ⟨⟨⟨0, ⟨0, 0⟩⟩, by rw [HE.out], fun e => by rw [HE.out] at e; cases e⟩, ?_⟩
      repeat (first | exact Below.refl _ _ | refine Below.setCell ?_ (by simp <;> omega) _ | refine Below.alloc ?_ (by simp <;> omega) _ | refine Below.drew ?_)
  have h0' : (n == 0) = false := by simpa using h0
  have HM : Hid (mryOf ⟨n, v⟩ = ⟨n, wdOf v⟩) := if_neg h0
  by_cases h1 : 1 ≤ n ∧ n ≤ 99999
  case neg =>
    have HV : Hid (∀ w, Calls Try.prog 96 #[.int .i64 n] w fun e w' => e = .returned (.bool false) ∧ w' = w) := fun w => by
      refine (isVer_any n w).mono ?_
      rintro e w' ⟨rfl, rfl⟩
      refine ⟨?_, rfl⟩
      have : (decide (1 ≤ n) && decide (n ≤ 99999)) = false := by rw [Bool.and_eq_false_iff]; simp only [decide_eq_false_iff_not]; omega
      rw [this]
    have HE : Hid (R = 3) := by show R = 3; rw [HR.out, if_neg h0, if_neg h1]
    clear HR h1 h0 hz
    go_enter Try.func83, Try.ntmps83
    go_wp2_with (go_at_call 96; refine (HV.out _).mono ?_; rintro e w3 ⟨rfl, rfl⟩)
    refine bodyPost_ret (v := .tuple #[Mry.val ⟨0, ⟨0, 0⟩⟩, .int .i64 3]) (by simp [results, Try.results83, go_sem]) rfl ⟨⟨⟨0, ⟨0, 0⟩⟩, by rw [HE.out], fun e => by rw [HE.out] at e; cases e⟩, ?_⟩
    repeat (first | exact Below.refl _ _ | refine Below.setCell ?_ (by simp <;> omega) _ | refine Below.alloc ?_ (by simp <;> omega) _ | refine Below.drew ?_)
  have HV : Hid (∀ w, Calls Try.prog 96 #[.int .i64 n] w fun e w' => e = .returned (.bool true) ∧ w' = w) := fun w => by
    refine (isVer_any n w).mono ?_
    rintro e w' ⟨rfl, rfl⟩
    exact ⟨by simp [h1], rfl⟩
  obtain ⟨d, hd⟩ : ∃ d, d = vfault v := ⟨_, rfl⟩
  obtain ⟨y, hy⟩ : ∃ y, y = wdOf v := ⟨_, rfl⟩
  have H2 : Hid (∀ w, Calls Try.prog 71 #[v.val] w fun e w' => e = .returned (.tuple #[y.val, .int .i64 d]) ∧ Below w.heap.size w w') := fun w => by rw [hy, hd]; exact wordOf_any v w hz
  have HE : Hid (R = d) := by show R = d; rw [HR.out, if_neg h0, if_pos h1, hd]
  have HY : Hid (y = wdOf v) := hy
  clear HR h1 h0 hz hd hy
  go_enter Try.func83, Try.ntmps83
  go_wp2_with fail
  refine (HV.out _).mono ?_
  rintro e w3 ⟨rfl, rfl⟩
  go_wp2_with fail
  refine (H2.out _).mono ?_
  rintro e w2 ⟨rfl, hb2⟩
  obtain ⟨hc2, hf2⟩ := bcell hb2
  have a0 : w2.cell? ⟨w.heap.size, 0, none⟩ = some (.int .i64 n) := by rw [hc2 _ _ (by simp <;> omega), World.cell?_alloc_past _ _ _ (by simp), World.cell?_alloc_at _ _ _ _ rfl]; rfl
  have q0 : w2.cell? ⟨w.heap.size + 1, 0, none⟩ = some (.int .i64 0) := by rw [hc2 _ _ (by simp), World.cell?_alloc_at _ _ _ _ (by simp)]; rfl
  have q1 : w2.cell? ⟨w.heap.size + 1, 1, none⟩ = some (.int .u8 0) := by rw [hc2 _ _ (by simp), World.cell?_alloc_at _ _ _ _ (by simp)]; rfl
  have q2 : w2.cell? ⟨w.heap.size + 1, 2, none⟩ = some (.int .u64 0) := by rw [hc2 _ _ (by simp), World.cell?_alloc_at _ _ _ _ (by simp)]; rfl
  have qf : ∀ o, w2.frozen? ⟨w.heap.size + 1, o, none⟩ = false := fun o => by rw [hf2 _ _ (by simp), World.frozen?_alloc_at _ _ _ _ (by simp)]
  have z2 : w.heap.size + 1 < w2.heap.size := by have := hb2.size; simp at this; omega
  have z2' : w.heap.size < w2.heap.size := by omega
  have B2 : Hid (Below w.heap.size w w2) := Below.trans (by repeat (first | exact Below.refl _ _ | refine Below.alloc ?_ (by simp <;> omega) _)) (hb2.mono (by simp <;> omega))
  clear hb2 hc2 hf2
  go_wp2
  exact bodyPost_ret (v := .tuple #[Mry.val ⟨n, y⟩, .int .i64 d]) (by simp [results, Try.results83, go_sem, q0, q1, q2, z2]) rfl ⟨⟨⟨n, y⟩, by rw [HE.out], fun _ => by rw [HM.out, HY.out]⟩, by repeat (first | refine Below.setCell ?_ (by simp <;> omega) _ | refine Below.alloc ?_ (by have := B2.out.size; simp <;> omega) _ | exact B2.out)⟩
/-- Whether a memory and a row go together. -/
def holdsB (m : Mry) (r : Rw) : Bool := !(m.ver == r.ver) || (m.value.tag == r.value.tag && m.value.rest == r.value.rest)
set_option maxHeartbeats 1000000 in
theorem holdsG_any (m : Mry) (r : Rw) (w : World) :
    Calls Try.prog 84 #[m.val, r.val] w fun e w' => e = .returned (.bool (holdsB m r)) ∧ Below w.heap.size w w' := by
  obtain ⟨R, hR⟩ : ∃ R, R = holdsB m r := ⟨_, rfl⟩
  rw [← hR]
  by_cases h : m.ver = r.ver
  · have HR : Hid (R = (m.value.tag == r.value.tag && m.value.rest == r.value.rest)) := by show R = _; rw [hR, holdsB, h]; simp
    obtain ⟨mv, mw⟩ := m
    simp only at h
    subst h
    clear hR
    cases e1 : (mw.tag == r.value.tag) <;> cases e2 : (mw.rest == r.value.rest)
    all_goals
      have HE : Hid (R = (mw.tag == r.value.tag && mw.rest == r.value.rest)) := HR.out
      rw [e1, e2] at HE
      clear HR
      go_enter Try.func84, Try.ntmps84
      go_wp2
      go_ret
      refine ⟨by rw [HE.out]; rfl, ?_⟩
      repeat (first | exact Below.refl _ _ | refine Below.alloc ?_ (by simp <;> omega) _ | refine Below.drew ?_)
  · have HE : Hid (R = true) := by show R = true; rw [hR, holdsB]; simp [h]
    have h' : (m.ver != r.ver) = true := by simpa using h
    clear hR h
    go_enter Try.func84, Try.ntmps84
    go_wp2
    go_ret
    refine ⟨by rw [HE.out]; rfl, ?_⟩
    repeat (first | exact Below.refl _ _ | refine Below.alloc ?_ (by simp <;> omega) _ | refine Below.drew ?_)
end Go.Proofs.Ytlamkbggfbancaa
