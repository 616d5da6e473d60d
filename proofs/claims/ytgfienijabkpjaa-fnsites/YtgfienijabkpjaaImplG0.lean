/-
  The program's rowOf; nothing that was there is turned.
-/
import Derived.Test.YtgfienijabkpjaaGlobKit
namespace Go.Proofs.Ytgfienijabkpjaa
open Go.RowKit Go.Extern.Stop Go.Stop Go.Extern Num Go.Lib

/-- What is wrong with one global by itself. -/
def goneR (t : Glb) : Int := if symC t.name ≠ 0 then symC t.name else if vfault t.value ≠ 0 then vfault t.value else if 1 ≤ t.ver ∧ t.ver ≤ 99999 then 0 else 3
set_option maxHeartbeats 2000000 in
theorem rowOf_any (t : Glb) (w : World) (hz : t.able) :
    Calls Try.prog 75 #[t.val] w fun e w' => (∃ r : Rw, e = .returned (.tuple #[r.val, .int .i64 (goneR t)]) ∧ (goneR t = 0 → r = rwOf t)) ∧ Below w.heap.size w w' := by
  obtain ⟨R, hR⟩ : ∃ R, R = goneR t := ⟨_, rfl⟩
  obtain ⟨x, hx⟩ : ∃ x, x = nW t.name := ⟨_, rfl⟩
  obtain ⟨c, hc⟩ : ∃ c, c = symC t.name := ⟨_, rfl⟩
  obtain ⟨y, hy⟩ : ∃ y, y = wdOf t.value := ⟨_, rfl⟩
  obtain ⟨d, hd⟩ : ∃ d, d = vfault t.value := ⟨_, rfl⟩
  have H1 : Hid (∀ w, Calls Try.prog 74 #[.string t.name] w fun e w' => e = .returned (.tuple #[x.val, .int .i64 c]) ∧ Below w.heap.size w w') := fun w => by rw [hx, hc]; exact symOf_any t.name w hz.1
  have H2 : Hid (∀ w, Calls Try.prog 64 #[t.value.val] w fun e w' => e = .returned (.tuple #[y.val, .int .i64 d]) ∧ Below w.heap.size w w') := fun w => by rw [hy, hd]; exact wordOf_any t.value w hz.2
  have HR : Hid (R = if c ≠ 0 then c else if d ≠ 0 then d else if 1 ≤ t.ver ∧ t.ver ≤ 99999 then 0 else 3) := by show R = _; rw [hR, hc, hd]; rfl
  have HX : Hid (x = nW t.name ∧ y = wdOf t.value) := ⟨hx, hy⟩
  rw [← hR]
  clear hR hx hc hy hd hz
  go_enter Try.func75, Try.ntmps75
  go_wp2_with fail
  refine (H1.out _).mono ?_
  rintro e w1 ⟨rfl, hb1⟩
  have hbx : Below (w.heap.size + 2) ((w.alloc (.cells #[.string t.name, .int .i64 t.value.kind, .int .i64 t.value.num, .string t.value.name, .int .i64 t.ver] 33)).alloc (.cells #[.int .u8 0, .int .u64 0, .int .u8 0, .int .u64 0, .int .i64 0] 76)) w1 := hb1.mono (by simp)
  have a1 : w1.cell? ⟨w.heap.size, 1, none⟩ = some (.int .i64 t.value.kind) := by rw [(bcell hb1).1 _ _ (by simp <;> omega), World.cell?_alloc_past _ _ _ (by simp), World.cell?_alloc_at _ _ _ _ rfl]; rfl
  have a2 : w1.cell? ⟨w.heap.size, 2, none⟩ = some (.int .i64 t.value.num) := by rw [(bcell hb1).1 _ _ (by simp <;> omega), World.cell?_alloc_past _ _ _ (by simp), World.cell?_alloc_at _ _ _ _ rfl]; rfl
  have a3 : w1.cell? ⟨w.heap.size, 3, none⟩ = some (.string t.value.name) := by rw [(bcell hb1).1 _ _ (by simp <;> omega), World.cell?_alloc_past _ _ _ (by simp), World.cell?_alloc_at _ _ _ _ rfl]; rfl
  have a4 : w1.cell? ⟨w.heap.size, 4, none⟩ = some (.int .i64 t.ver) := by rw [(bcell hb1).1 _ _ (by simp <;> omega), World.cell?_alloc_past _ _ _ (by simp), World.cell?_alloc_at _ _ _ _ rfl]; rfl
  have q : ∀ (o : Nat) (v : Value), [Value.int .u8 0, .int .u64 0, .int .u8 0, .int .u64 0, .int .i64 0][o]? = some v → w1.cell? ⟨w.heap.size + 1, o, none⟩ = some v := fun o v h => by rw [(bcell hb1).1 _ _ (by simp), World.cell?_alloc_at _ _ _ _ (by simp)]; simpa using h
  have q0 := q 0 _ rfl
  have q1 := q 1 _ rfl
  have q2 := q 2 _ rfl
  have q3 := q 3 _ rfl
  have q4 := q 4 _ rfl
  have qf : ∀ o, w1.frozen? ⟨w.heap.size + 1, o, none⟩ = false := fun o => by rw [(bcell hb1).2 _ _ (by simp), World.frozen?_alloc_at _ _ _ _ (by simp)]
  have z1 : w.heap.size + 1 < w1.heap.size := by have := hb1.size; simp at this; omega
  have z1' : w.heap.size < w1.heap.size := by omega
  have B1 : Hid (Below w.heap.size w w1) := Below.trans (by repeat (first | exact Below.refl _ _ | refine Below.alloc ?_ (by simp <;> omega) _)) (hb1.mono (by simp <;> omega))
  clear hb1 hbx q
  by_cases h0 : c = 0
  case neg =>
    have HE : Hid (R = c ∧ c ≠ 0) := ⟨by rw [HR.out, if_pos h0], h0⟩
    have h0' : (c != 0) = true := by simpa using h0
    clear HR h0
    go_wp2
    exact bodyPost_ret (v := .tuple #[rwZ.val, .int .i64 c]) (by simp [results, Try.results75, go_sem, q0, q1, q2, q3, q4, z1, rwZ]) rfl ⟨⟨rwZ, by rw [HE.out.1], fun e => absurd (HE.out.1 ▸ e) HE.out.2⟩, by repeat (first | refine Below.setCell ?_ (by simp <;> omega) _ | refine Below.alloc ?_ (by have := B1.out.size; simp <;> omega) _ | exact B1.out)⟩
  subst h0
  go_wp2_with fail
  refine (H2.out _).mono ?_
  rintro e w2 ⟨rfl, hb2⟩
  obtain ⟨hc2, hf2⟩ := bcell hb2
  have r0 : w2.cell? ⟨w.heap.size + 1, 0, none⟩ = some (.int .u8 0) := by rw [hc2 _ _ (by simp; omega), World.cell?_alloc_past _ _ _ z1]; exact q0
  have r1 : w2.cell? ⟨w.heap.size + 1, 1, none⟩ = some (.int .u64 0) := by rw [hc2 _ _ (by simp; omega), World.cell?_alloc_past _ _ _ z1]; exact q1
  have r2 : w2.cell? ⟨w.heap.size + 1, 2, none⟩ = some (.int .u8 0) := by rw [hc2 _ _ (by simp; omega), World.cell?_alloc_past _ _ _ z1]; exact q2
  have r3 : w2.cell? ⟨w.heap.size + 1, 3, none⟩ = some (.int .u64 0) := by rw [hc2 _ _ (by simp; omega), World.cell?_alloc_past _ _ _ z1]; exact q3
  have r4 : w2.cell? ⟨w.heap.size + 1, 4, none⟩ = some (.int .i64 0) := by rw [hc2 _ _ (by simp; omega), World.cell?_alloc_past _ _ _ z1]; exact q4
  have b4 : w2.cell? ⟨w.heap.size, 4, none⟩ = some (.int .i64 t.ver) := by rw [hc2 _ _ (by simp; omega), World.cell?_alloc_past _ _ _ z1']; exact a4
  have d0 : w2.cell? ⟨w1.heap.size, 0, none⟩ = some (.int .u8 x.tag) := by rw [hc2 _ _ (by simp), World.cell?_alloc_at _ _ _ _ rfl]; rfl
  have d1 : w2.cell? ⟨w1.heap.size, 1, none⟩ = some (.int .u64 x.rest) := by rw [hc2 _ _ (by simp), World.cell?_alloc_at _ _ _ _ rfl]; rfl
  have rf : ∀ o, w2.frozen? ⟨w.heap.size + 1, o, none⟩ = false := fun o => by rw [hf2 _ _ (by simp; omega), World.frozen?_alloc_past _ _ _ z1]; exact qf o
  have z2 : w1.heap.size < w2.heap.size := by have := hb2.size; simp at this; omega
  have z2a : w.heap.size + 1 < w2.heap.size := by omega
  have z2b : w.heap.size < w2.heap.size := by omega
  have B2 : Hid (Below w.heap.size w w2) := (B1.out.alloc (by omega) _).trans (hb2.mono (by simp; omega))
  clear hb2 hc2 hf2 q0 q1 q2 q3 q4 qf a1 a2 a3 a4 B1
  by_cases h1 : d = 0
  case neg =>
    have HE : Hid (R = d ∧ d ≠ 0) := ⟨by rw [HR.out, if_neg (by simp), if_pos h1], h1⟩
    have h1' : (d != 0) = true := by simpa using h1
    clear HR h1
    go_wp2
    exact bodyPost_ret (v := .tuple #[rwZ.val, .int .i64 d]) (by simp [results, Try.results75, go_sem, r0, r1, r2, r3, r4, z2a, rwZ]) rfl ⟨⟨rwZ, by rw [HE.out.1], fun e => absurd (HE.out.1 ▸ e) HE.out.2⟩, by repeat (first | refine Below.setCell ?_ (by simp <;> omega) _ | refine Below.alloc ?_ (by have := B2.out.size; simp <;> omega) _ | exact B2.out)⟩
  subst h1
  by_cases h2 : 1 ≤ t.ver ∧ t.ver ≤ 99999
  case neg =>
    have HV : Hid (∀ w, Calls Try.prog 91 #[.int .i64 t.ver] w fun e w' => e = .returned (.bool false) ∧ w' = w) := fun w => by
      refine (isVer_any t.ver w).mono ?_
      rintro e w' ⟨rfl, rfl⟩
      refine ⟨?_, rfl⟩
      have : (decide (1 ≤ t.ver) && decide (t.ver ≤ 99999)) = false := by rw [Bool.and_eq_false_iff]; simp only [decide_eq_false_iff_not]; omega
      rw [this]
    have HE : Hid (R = 3) := by show R = 3; rw [HR.out]; simp [h2]
    clear HR h2
    go_wp2_with fail
    refine (HV.out _).mono ?_
    rintro e w3 ⟨rfl, rfl⟩
    go_wp2
    exact bodyPost_ret (v := .tuple #[rwZ.val, .int .i64 3]) (by simp [results, Try.results75, go_sem, r0, r1, r2, r3, r4, z2a, rwZ]) rfl ⟨⟨rwZ, by rw [HE.out], fun e => by rw [HE.out] at e; cases e⟩, by repeat (first | refine Below.setCell ?_ (by simp <;> omega) _ | refine Below.alloc ?_ (by have := B2.out.size; simp <;> omega) _ | exact B2.out)⟩
  have HV : Hid (∀ w, Calls Try.prog 91 #[.int .i64 t.ver] w fun e w' => e = .returned (.bool true) ∧ w' = w) := fun w => by
    refine (isVer_any t.ver w).mono ?_
    rintro e w' ⟨rfl, rfl⟩
    exact ⟨by simp [h2], rfl⟩
  have HE : Hid (R = 0) := by show R = 0; rw [HR.out]; simp [h2]
  clear HR h2
  go_wp2_with fail
  refine (HV.out _).mono ?_
  rintro e w3 ⟨rfl, rfl⟩
  go_wp2
  exact bodyPost_ret (v := .tuple #[Rw.val ⟨x, y, t.ver⟩, .int .i64 0]) (by simp [results, Try.results75, go_sem, r0, r1, r2, r3, r4, z2a]) rfl ⟨⟨⟨x, y, t.ver⟩, by rw [HE.out], fun _ => by rw [HX.out.1, HX.out.2]; rfl⟩, by repeat (first | refine Below.setCell ?_ (by simp <;> omega) _ | refine Below.alloc ?_ (by have := B2.out.size; simp <;> omega) _ | exact B2.out)⟩
end Go.Proofs.Ytgfienijabkpjaa
