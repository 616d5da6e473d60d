/-
  Parts of the proof laid into one text, one behind the other; each says at its head what is proved in it.
-/
import Derived.Test.YtgfienijabkpjaaFiE
import Derived.Test.YtgfienijabkpjaaGlobKit
import Derived.Test.YtgfienijabkpjaaImplLG
import Derived.Test.YtgfienijabkpjaaFacts
/-
  The program's memoryOf and holds; nothing that was there is turned.
-/
namespace Go.Proofs.Ytgfienijabkpjaa
open Go.RowKit Go.Extern.Stop Go.Stop Go.Extern Num Go.Lib

/-- What a site remembers, as words. -/
structure Mry where
  ver : Int
  value : Wd
abbrev Mry.val (m : Mry) : Value := .agg #[.int .i64 m.ver, .int .u8 m.value.tag, .int .u64 m.value.rest]
def mryOf (t : Ste) : Mry := if t.ver = 0 then ⟨0, ⟨0, 0⟩⟩ else ⟨t.ver, wdOf t.value⟩
set_option maxHeartbeats 2000000 in
theorem memoryOf_any (t : Ste) (w : World) (hz : t.value.name.size ≤ 9223372036854775807) :
    Calls Try.prog 76 #[t.val] w fun e w' => (∃ m : Mry, e = .returned (.tuple #[m.val, .int .i64 (memC t)]) ∧ (memC t = 0 → m = mryOf t)) ∧ Below w.heap.size w w' := by
  obtain ⟨n, v⟩ := t
  obtain ⟨R, hR⟩ : ∃ R, R = memC ⟨n, v⟩ := ⟨_, rfl⟩
  rw [← hR]
  have HR : Hid (R = if n = 0 then (if eqVB v vZ = true then 0 else 1) else if 1 ≤ n ∧ n ≤ 99999 then vfault v else 3) := hR
  show Calls Try.prog 76 #[.agg #[.int .i64 n, .int .i64 v.kind, .int .i64 v.num, .string v.name]] w fun e w' => (∃ m : Mry, e = .returned (.tuple #[m.val, .int .i64 R]) ∧ (R = 0 → m = mryOf ⟨n, v⟩)) ∧ Below w.heap.size w w'
  clear hR
  by_cases h0 : n = 0
  · subst h0
    have HR2 : Hid (R = if eqVB v vZ = true then 0 else 1) := by show R = _; rw [HR.out, if_pos rfl]
    clear HR hz
    have HQ : Hid (eqVB v vZ = (v.kind == 0 && (v.num == 0 && (v.name.toList == (⟨#[]⟩ : ByteArray).toList)))) := rfl
    have hnil : (⟨#[]⟩ : ByteArray).toList = [] := by rw [ByteArray.toList_eq]
    rw [hnil] at HQ
    cases e0 : (v.kind == 0) <;> cases e1 : (v.num == 0) <;> cases e2 : (v.name.toList == [])
    case true.true.true =>
      have HE : Hid (R = 0) := by show R = 0; rw [HR2.out, HQ.out, e0, e1, e2]; rfl
      clear HR2 HQ
      go_enter Try.func76, Try.ntmps76
      go_wp2
      refine bodyPost_ret (v := .tuple #[Mry.val ⟨0, ⟨0, 0⟩⟩, .int .i64 0]) (by simp [results, Try.results76, go_sem]) rfl ⟨⟨⟨0, ⟨0, 0⟩⟩, by rw [HE.out], fun _ => rfl⟩, ?_⟩
      repeat (first | exact Below.refl _ _ | refine Below.setCell ?_ (by simp <;> omega) _ | refine Below.alloc ?_ (by simp <;> omega) _ | refine Below.drew ?_)
    all_goals
      have HE : Hid (R = 1) := by show R = 1; rw [HR2.out, HQ.out, e0, e1, e2]; rfl
      clear HR2 HQ
      go_enter Try.func76, Try.ntmps76
      go_wp2
      refine bodyPost_ret (v := .tuple #[Mry.val ⟨0, ⟨0, 0⟩⟩, .int .i64 1]) (by simp [results, Try.results76, go_sem]) rfl ⟨⟨⟨0, ⟨0, 0⟩⟩, by rw [HE.out], fun e => by rw [HE.out] at e; cases e⟩, ?_⟩
      repeat (first | exact Below.refl _ _ | refine Below.setCell ?_ (by simp <;> omega) _ | refine Below.alloc ?_ (by simp <;> omega) _ | refine Below.drew ?_)
  have h0' : (n == 0) = false := by simpa using h0
  have HM : Hid (mryOf ⟨n, v⟩ = ⟨n, wdOf v⟩) := if_neg h0
  by_cases h1 : 1 ≤ n ∧ n ≤ 99999
  case neg =>
    have HV : Hid (∀ w, Calls Try.prog 91 #[.int .i64 n] w fun e w' => e = .returned (.bool false) ∧ w' = w) := fun w => by
      refine (isVer_any n w).mono ?_
      rintro e w' ⟨rfl, rfl⟩
      refine ⟨?_, rfl⟩
      have : (decide (1 ≤ n) && decide (n ≤ 99999)) = false := by rw [Bool.and_eq_false_iff]; simp only [decide_eq_false_iff_not]; omega
      rw [this]
    have HE : Hid (R = 3) := by show R = 3; rw [HR.out, if_neg h0, if_neg h1]
    clear HR h1 h0 hz
    go_enter Try.func76, Try.ntmps76
    go_wp2_with (go_at_call 91; refine (HV.out _).mono ?_; rintro e w3 ⟨rfl, rfl⟩)
    refine bodyPost_ret (v := .tuple #[Mry.val ⟨0, ⟨0, 0⟩⟩, .int .i64 3]) (by simp [results, Try.results76, go_sem]) rfl ⟨⟨⟨0, ⟨0, 0⟩⟩, by rw [HE.out], fun e => by rw [HE.out] at e; cases e⟩, ?_⟩
    repeat (first | exact Below.refl _ _ | refine Below.setCell ?_ (by simp <;> omega) _ | refine Below.alloc ?_ (by simp <;> omega) _ | refine Below.drew ?_)
  have HV : Hid (∀ w, Calls Try.prog 91 #[.int .i64 n] w fun e w' => e = .returned (.bool true) ∧ w' = w) := fun w => by
    refine (isVer_any n w).mono ?_
    rintro e w' ⟨rfl, rfl⟩
    exact ⟨by simp [h1], rfl⟩
  obtain ⟨d, hd⟩ : ∃ d, d = vfault v := ⟨_, rfl⟩
  obtain ⟨y, hy⟩ : ∃ y, y = wdOf v := ⟨_, rfl⟩
  have H2 : Hid (∀ w, Calls Try.prog 64 #[v.val] w fun e w' => e = .returned (.tuple #[y.val, .int .i64 d]) ∧ Below w.heap.size w w') := fun w => by rw [hy, hd]; exact wordOf_any v w hz
  have HE : Hid (R = d) := by show R = d; rw [HR.out, if_neg h0, if_pos h1, hd]
  have HY : Hid (y = wdOf v) := hy
  clear HR h1 h0 hz hd hy
  go_enter Try.func76, Try.ntmps76
  go_wp2_with fail
  refine (HV.out _).mono ?_
  rintro e w3 ⟨rfl, rfl⟩
  go_wp2_with fail
  refine (H2.out _).mono ?_
  rintro e w2 ⟨rfl, hb2⟩
  obtain ⟨hc2, hf2⟩ := bcell hb2
  have a0 : w2.cell? ⟨w.heap.size, 0, none⟩ = some (.int .i64 n) := by rw [hc2 _ _ (by simp <;> omega), World.cell?_alloc_past _ _ _ (by simp), World.cell?_alloc_at _ _ _ _ rfl]; rfl
  have q0 : w2.cell? ⟨w.heap.size + 1, 0, none⟩ = some (.int .i64 0) := by rw [hc2 _ _ (by simp), World.cell?_alloc_at _ _ _ _ (by simp)]; rfl
  have q1 : w2.cell? ⟨w.heap.size + 1, 1, none⟩ = some (.int .u8 0) := by rw [hc2 _ _ (by simp), World.cell?_alloc_at _ _ _ _ (by simp)]; rfl
  have q2 : w2.cell? ⟨w.heap.size + 1, 2, none⟩ = some (.int .u64 0) := by rw [hc2 _ _ (by simp), World.cell?_alloc_at _ _ _ _ (by simp)]; rfl
  have qf : ∀ o, w2.frozen? ⟨w.heap.size + 1, o, none⟩ = false := fun o => by rw [hf2 _ _ (by simp), World.frozen?_alloc_at _ _ _ _ (by simp)]
  have z2 : w.heap.size + 1 < w2.heap.size := by have := hb2.size; simp at this; omega
  have z2' : w.heap.size < w2.heap.size := by omega
  have B2 : Hid (Below w.heap.size w w2) := Below.trans (by repeat (first | exact Below.refl _ _ | refine Below.alloc ?_ (by simp <;> omega) _)) (hb2.mono (by simp <;> omega))
  clear hb2 hc2 hf2
  go_wp2
  exact bodyPost_ret (v := .tuple #[Mry.val ⟨n, y⟩, .int .i64 d]) (by simp [results, Try.results76, go_sem, q0, q1, q2, z2]) rfl ⟨⟨⟨n, y⟩, by rw [HE.out], fun _ => by rw [HM.out, HY.out]⟩, by repeat (first | refine Below.setCell ?_ (by simp <;> omega) _ | refine Below.alloc ?_ (by have := B2.out.size; simp <;> omega) _ | exact B2.out)⟩
/-- Whether a memory and a row go together. -/
def holdsB (m : Mry) (r : Rw) : Bool := !(m.ver == r.ver) || (m.value.tag == r.value.tag && m.value.rest == r.value.rest)
set_option maxHeartbeats 1000000 in
theorem holdsG_any (m : Mry) (r : Rw) (w : World) :
    Calls Try.prog 77 #[m.val, r.val] w fun e w' => e = .returned (.bool (holdsB m r)) ∧ Below w.heap.size w w' := by
  obtain ⟨R, hR⟩ : ∃ R, R = holdsB m r := ⟨_, rfl⟩
  rw [← hR]
  by_cases h : m.ver = r.ver
  · have HR : Hid (R = (m.value.tag == r.value.tag && m.value.rest == r.value.rest)) := by show R = _; rw [hR, holdsB, h]; simp
    obtain ⟨mv, mw⟩ := m
    simp only at h
    subst h
    clear hR
    cases e1 : (mw.tag == r.value.tag) <;> cases e2 : (mw.rest == r.value.rest)
    all_goals
      have HE : Hid (R = (mw.tag == r.value.tag && mw.rest == r.value.rest)) := HR.out
      rw [e1, e2] at HE
      clear HR
      go_enter Try.func77, Try.ntmps77
      go_wp2
      go_ret
      refine ⟨by rw [HE.out]; rfl, ?_⟩
      repeat (first | exact Below.refl _ _ | refine Below.alloc ?_ (by simp <;> omega) _ | refine Below.drew ?_)
  · have HE : Hid (R = true) := by show R = true; rw [hR, holdsB]; simp [h]
    have h' : (m.ver != r.ver) = true := by simpa using h
    clear hR h
    go_enter Try.func77, Try.ntmps77
    go_wp2
    go_ret
    refine ⟨by rw [HE.out]; rfl, ?_⟩
    repeat (first | exact Below.refl _ _ | refine Below.alloc ?_ (by simp <;> omega) _ | refine Below.drew ?_)
end Go.Proofs.Ytgfienijabkpjaa
/-
  The program's globalsAt and SiteFault; nothing that was there is turned.
-/
namespace Go.Proofs.Ytgfienijabkpjaa
open Go.RowKit Go.Extern.Stop Go.Stop Go.Extern Num Go.Lib

/-- What globalsAt answers. -/
def AnsGt (w : World) (l : List Glb) (s : ByteArray) (t : Ste) (c : Int) (e : Ending) (w' : World) : Prop :=
  ∃ (C : Array Value) (x : Wd) (m : Mry), e = .returned (.tuple #[.agg C, x.val, m.val, .int .i64 c]) ∧ C.size = 301 ∧ C.all (·.oneCell') = true ∧ (c = 0 → x = nW s ∧ m = mryOf t ∧ ∃ b, w.heap.size ≤ b ∧ GlC C.toList b (l.map rwOf) ∧ MapW w' b ((l.map rwOf).map Rw.name) ∧ ((l.map rwOf).map Rw.name).Nodup) ∧ Below w.heap.size w w'
theorem results_ccct {fn : Func} {p q r u : Tmp} {ty ty2 ty3 : TypeId} (h : fn.results = #[.cell p ty, .cell q ty2, .cell r ty3, .tmp u]) (tmps : Array Value) (P : Program) (w : World) :
    (results fn tmps).run P w =
      ((asAddr (tmps.getD p undef)).run P w).andThen fun a w₁ => ((loadVar ty a).run P w₁).andThen fun v w₂ => ((asAddr (tmps.getD q undef)).run P w₂).andThen fun a2 w₃ => ((loadVar ty2 a2).run P w₃).andThen fun v2 w₄ => ((asAddr (tmps.getD r undef)).run P w₄).andThen fun a3 w₅ => ((loadVar ty3 a3).run P w₅).andThen fun v3 w₆ => .ok (.tuple #[v, v2, v3, tmps.getD u undef]) w₆ := by
  simp only [results, h]
  simp [Sem.run_bind, Result.andThen]
theorem infoMy : (Try.prog.info? 97).map (·.size) = some 3 := by kernel_rfl
theorem ldMy (W : World) (B : Nat) (m : Mry) (h0 : W.cell? ⟨B, 0, none⟩ = some (.int .i64 m.ver)) (h1 : W.cell? ⟨B, 1, none⟩ = some (.int .u8 m.value.tag)) (h2 : W.cell? ⟨B, 2, none⟩ = some (.int .u64 m.value.rest)) : (loadVar 97 ⟨B, 0, none⟩).run Try.prog W = .ok m.val W := by
  have h := run_loadVar_mid (P := Try.prog) W B 0 97 [.int .i64 m.ver, .int .u8 m.value.tag, .int .u64 m.value.rest] _ (fun j v hv => by
    match j, hv with
    | 0, hv => simp at hv; subst hv; simpa using h0
    | 1, hv => simp at hv; subst hv; simpa using h1
    | 2, hv => simp at hv; subst hv; simpa using h2) Try.underlying97 rfl (by rw [infoMy]; rfl)
  exact h
/-- The blocks in which the four answers are laid: nothing yet. -/
structure Res4 (W : World) (B : Nat) : Prop where
  g : W.there B 0 301
  x0 : W.cell? ⟨B + 1, 0, none⟩ = some (.int .u8 0)
  x1 : W.cell? ⟨B + 1, 1, none⟩ = some (.int .u64 0)
  xf : ∀ o, W.frozen? ⟨B + 1, o, none⟩ = false
  m0 : W.cell? ⟨B + 2, 0, none⟩ = some (.int .i64 0)
  m1 : W.cell? ⟨B + 2, 1, none⟩ = some (.int .u8 0)
  m2 : W.cell? ⟨B + 2, 2, none⟩ = some (.int .u64 0)
  mf : ∀ o, W.frozen? ⟨B + 2, o, none⟩ = false
theorem Res4.below {W V : World} {B : Nat} (h : Res4 W B) (hb : Below W.heap.size W V) : Res4 V B :=
  ⟨there_below h.g hb, cell_keep hb h.x0, cell_keep hb h.x1, fun o => by rw [(bcell hb).2 _ _ (lt_of_cell h.x0)]; exact h.xf o, cell_keep hb h.m0, cell_keep hb h.m1, cell_keep hb h.m2, fun o => by rw [(bcell hb).2 _ _ (lt_of_cell h.m0)]; exact h.mf o⟩
/-- Behind the store of globals. -/
theorem Res4.store {W : World} {B : Nat} (h : Res4 W B) (vs : List Value) : Res4 (W.setCells B 0 vs) B :=
  ⟨World.there_setCells h.g _ _ _, by rw [cell_setCells (by omega)]; exact h.x0, by rw [cell_setCells (by omega)]; exact h.x1, fun o => by rw [World.frozen?_setCells]; exact h.xf o, by rw [cell_setCells (by omega)]; exact h.m0, by rw [cell_setCells (by omega)]; exact h.m1, by rw [cell_setCells (by omega)]; exact h.m2, fun o => by rw [World.frozen?_setCells]; exact h.mf o⟩
theorem keep_same {w : World} {p q : Addr} {v u : Value} (h : w.cell? q = some u) (hv : p = q → v = u) : (w.setCell p v).cell? q = some u := by
  by_cases e : p = q
  · subst e
    rw [World.cell?_setCell_same _ _ _ h, hv rfl]
  · rw [World.cell?_setCell_other _ _ _ _ e]; exact h
/-- What is answered where nothing is to be handed on: the zero of each, and a code. -/
theorem res4_zero {fn : Func} {p q r u : Tmp} (hf : fn.results = #[.cell p 79, .cell q 74, .cell r 97, .tmp u]) (tmps : Array Value) (V : World) (B : Nat) (c : Int) (H : Res4 V B) (hR : V.rangeAt B 0 Try.zeroCells79.toList)
    (hp : tmps.getD p undef = .pointer (some ⟨B, 0, none⟩)) (hq : tmps.getD q undef = .pointer (some ⟨B + 1, 0, none⟩)) (hr : tmps.getD r undef = .pointer (some ⟨B + 2, 0, none⟩)) (hu : tmps.getD u undef = .int .i64 c) :
    (results fn tmps).run Try.prog (((((V.setCell ⟨B + 1, 0, none⟩ (.int .u8 0)).setCell ⟨B + 1, 1, none⟩ (.int .u64 0)).setCell ⟨B + 2, 0, none⟩ (.int .i64 0)).setCell ⟨B + 2, 1, none⟩ (.int .u8 0)).setCell ⟨B + 2, 2, none⟩ (.int .u64 0)) = .ok (.tuple #[.agg Try.zeroCells79, Wd.val ⟨0, 0⟩, Mry.val ⟨0, ⟨0, 0⟩⟩, .int .i64 c]) (((((V.setCell ⟨B + 1, 0, none⟩ (.int .u8 0)).setCell ⟨B + 1, 1, none⟩ (.int .u64 0)).setCell ⟨B + 2, 0, none⟩ (.int .i64 0)).setCell ⟨B + 2, 1, none⟩ (.int .u8 0)).setCell ⟨B + 2, 2, none⟩ (.int .u64 0)) := by
  rw [results_ccct hf, hp, hq, hr, hu]
  simp only [asAddr, Sem.run_pure, Result.andThen_ok]
  rw [loadGl _ _ Try.zeroCells79.toList zc_len (range_other (range_other (range_other (range_other (range_other hR (by omega)) (by omega)) (by omega)) (by omega)) (by omega))]
  simp only [Result.andThen_ok, Array.toArray_toList]
  rw [ldWd _ _ ⟨0, 0⟩ (by refine keep_same (keep_same (keep_same (keep_same (keep_same H.x0 ?_) ?_) ?_) ?_) ?_ <;> (intro e; first | rfl | (exfalso; simp at e; done) | (exfalso; simp at e; omega))) (by refine keep_same (keep_same (keep_same (keep_same (keep_same H.x1 ?_) ?_) ?_) ?_) ?_ <;> (intro e; first | rfl | (exfalso; simp at e; done) | (exfalso; simp at e; omega)))]
  simp only [Result.andThen_ok]
  rw [ldMy _ _ ⟨0, ⟨0, 0⟩⟩ (by refine keep_same (keep_same (keep_same (keep_same (keep_same H.m0 ?_) ?_) ?_) ?_) ?_ <;> (intro e; first | rfl | (exfalso; simp at e; done) | (exfalso; simp at e; omega))) (by refine keep_same (keep_same (keep_same (keep_same (keep_same H.m1 ?_) ?_) ?_) ?_) ?_ <;> (intro e; first | rfl | (exfalso; simp at e; done) | (exfalso; simp at e; omega))) (by refine keep_same (keep_same (keep_same (keep_same (keep_same H.m2 ?_) ?_) ?_) ?_) ?_ <;> (intro e; first | rfl | (exfalso; simp at e; done) | (exfalso; simp at e; omega)))]
  rfl
theorem holds_parts {l : List Glb} {s : ByteArray} {t : Ste} {k : Nat} (hF : GFine l l.length) (hm : memC t = 0) (hk : k < l.length) (hat : atG l s = some k) : holdsB (mryOf t) (rwOf (l[k]'hk)) = !(parts l s t) := by
  have hp : parts l s t = (((l[k]'hk).ver == t.ver) && !(eqVB (l[k]'hk).value t.value)) := by unfold parts; rw [hat]; simp [List.getD, hk]
  rw [hp]
  have hv := hF.ver k hk hk
  have hvf := hF.val k hk hk
  unfold mryOf holdsB rwOf
  by_cases h0 : t.ver = 0
  · rw [if_pos h0, h0]
    have e1 : ((0 : Int) == (l[k]'hk).ver) = false := by simp; omega
    have e2 : ((l[k]'hk).ver == (0 : Int)) = false := by simp; omega
    simp only [e1, e2]; rfl
  · rw [if_neg h0]
    unfold memC at hm
    rw [if_neg h0] at hm
    by_cases h1 : 1 ≤ t.ver ∧ t.ver ≤ 99999
    · rw [if_pos h1] at hm
      simp only
      by_cases e : t.ver = (l[k]'hk).ver
      · have e1 : (t.ver == (l[k]'hk).ver) = true := by simpa using e
        have e2 : ((l[k]'hk).ver == t.ver) = true := by simpa using e.symm
        rw [e1, e2]
        simp only [Bool.not_true, Bool.false_or, Bool.true_and, Bool.not_not]
        by_cases ev : (l[k]'hk).value = t.value
        · rw [(eqVB_iff _ _).2 ev, ev]; simp
        · have e3 : eqVB (l[k]'hk).value t.value = false := by
            cases h : eqVB (l[k]'hk).value t.value
            · rfl
            · exact absurd ((eqVB_iff _ _).1 h) ev
          rw [e3]
          cases h : ((wdOf t.value).tag == (wdOf (l[k]'hk).value).tag && (wdOf t.value).rest == (wdOf (l[k]'hk).value).rest)
          · rfl
          · exfalso
            rw [Bool.and_eq_true] at h
            have h3 : wdOf t.value = wdOf (l[k]'hk).value := by
              generalize wdOf t.value = a at h ⊢
              generalize wdOf (l[k]'hk).value = b at h ⊢
              cases a; cases b
              simp at h
              simp [h.1, h.2]
            exact ev (wdOf_inj hm hvf h3).symm
      · have e1 : (t.ver == (l[k]'hk).ver) = false := by simpa using e
        have e2 : ((l[k]'hk).ver == t.ver) = false := by simpa using fun h => e h.symm
        rw [e1, e2]; rfl
    · rw [if_neg h1] at hm; exact absurd hm (by decide)
set_option maxRecDepth 100000 in
set_option maxHeartbeats 8000000 in
theorem globalsAt_any (ao : Option Addr) (cap g : Nat) (l : List Glb) (s : ByteArray) (t : Ste) (w : World) (hl : l.length ≤ 1048576) (hao : 0 < l.length → ao = some ⟨g, 0, none⟩) (hr : RowG w g l) (hz : ableG l) (hs : s.size ≤ 9223372036854775807) (ht : t.value.name.size ≤ 9223372036854775807) :
    Calls Try.prog 52 #[.slice ao l.length cap, .string s, t.val] w fun e w' => AnsGt w l s t (codeSF l s t) e w' := by
  obtain ⟨c, hc⟩ : ∃ c, c = askG l s := ⟨_, rfl⟩
  obtain ⟨d, hd⟩ : ∃ d, d = memC t := ⟨_, rfl⟩
  obtain ⟨W, hW⟩ : ∃ W, W = (((w.alloc (.cells #[.int .i64 t.ver, .int .i64 t.value.kind, .int .i64 t.value.num, .string t.value.name] 39)).alloc (.cells Try.zeroCells79 79)).alloc (.cells #[.int .u8 0, .int .u64 0] 74)).alloc (.cells #[.int .i64 0, .int .u8 0, .int .u64 0] 97) := ⟨_, rfl⟩
  have HBW : Hid (Below w.heap.size w W) := by rw [hW]; exact ((((Below.refl _ _).alloc (Nat.le_refl _) _).alloc (by simp) _).alloc (by simp <;> omega) _).alloc (by simp <;> omega) _
  have zW : W.heap.size = w.heap.size + 4 := by rw [hW]; simp
  have HBx : Hid (∀ (o : Nat) (v : Value), [Value.int .i64 t.ver, .int .i64 t.value.kind, .int .i64 t.value.num, .string t.value.name][o]? = some v → W.cell? ⟨w.heap.size, o, none⟩ = some v) := fun o v h => by
    rw [hW, World.cell?_alloc_past _ _ _ (by simp <;> omega), World.cell?_alloc_past _ _ _ (by simp <;> omega), World.cell?_alloc_past _ _ _ (by simp), World.cell?_alloc_at _ _ _ _ rfl]; simpa using h
  have HRs : Hid (Res4 W (w.heap.size + 1)) := by
    have e1 : (w.alloc (.cells #[.int .i64 t.ver, .int .i64 t.value.kind, .int .i64 t.value.num, .string t.value.name] 39)).heap.size = w.heap.size + 1 := by simp
    have hg := there_new (w.alloc (.cells #[.int .i64 t.ver, .int .i64 t.value.kind, .int .i64 t.value.num, .string t.value.name] 39)) Try.zeroCells79 79 (by simp)
    rw [e1] at hg
    rw [hW]
    refine ⟨World.there_alloc (World.there_alloc hg _) _, ?_, ?_, fun o => ?_, ?_, ?_, ?_, fun o => ?_⟩
    · rw [World.cell?_alloc_past _ _ _ (by simp), World.cell?_alloc_at _ _ _ _ (by simp)]; rfl
    · rw [World.cell?_alloc_past _ _ _ (by simp), World.cell?_alloc_at _ _ _ _ (by simp)]; rfl
    · rw [World.frozen?_alloc_past _ _ _ (by simp), World.frozen?_alloc_at _ _ _ _ (by simp)]
    · rw [World.cell?_alloc_at _ _ _ _ (by simp)]; rfl
    · rw [World.cell?_alloc_at _ _ _ _ (by simp)]; rfl
    · rw [World.cell?_alloc_at _ _ _ _ (by simp)]; rfl
    · rw [World.frozen?_alloc_at _ _ _ _ (by simp)]
  have HC : Hid (Calls Try.prog 45 #[.slice ao l.length cap, .string s] W fun e w' => AnsGw W l s c e w') := by rw [hc]; exact globalsWith_any ao cap g l s W hl hao (hr.below HBW.out) hz hs
  have HM : Hid (∀ u, Calls Try.prog 76 #[t.val] u fun e w' => (∃ m : Mry, e = .returned (.tuple #[m.val, .int .i64 d]) ∧ (d = 0 → m = mryOf t)) ∧ Below u.heap.size u w') := fun u => by rw [hd]; exact memoryOf_any t u ht
  have HW : Hid (W = (((w.alloc (.cells #[.int .i64 t.ver, .int .i64 t.value.kind, .int .i64 t.value.num, .string t.value.name] 39)).alloc (.cells Try.zeroCells79 79)).alloc (.cells #[.int .u8 0, .int .u64 0] 74)).alloc (.cells #[.int .i64 0, .int .u8 0, .int .u64 0] 97)) := hW
  obtain ⟨R, hR⟩ : ∃ R, R = codeSF l s t := ⟨_, rfl⟩
  have HR : Hid (R = if c ≠ 0 then c else if d ≠ 0 then d else if parts l s t = true then 1 else 0) := by show R = _; rw [hR, hc, hd]; rfl
  have HCc : Hid (c = askG l s ∧ d = memC t) := ⟨hc, hd⟩
  rw [← hR]
  have hbz := buildZ
  clear hW hc hd hR hl hao hr hz hs ht
  go_enter Try.func52, Try.ntmps52
  go_wp2_with fail
  rw [← HW.out]
  refine HC.out.mono ?_
  rintro e w1 ⟨C, x, rfl, hCs, hCa, hC0, hb1⟩
  have HC0 : Hid (c = 0 → x = nW s ∧ ∃ b, W.heap.size ≤ b ∧ GlC C.toList b (l.map rwOf) ∧ MapW w1 b ((l.map rwOf).map Rw.name) ∧ ((l.map rwOf).map Rw.name).Nodup) := hC0
  have HCa : Hid (C.all (·.oneCell') = true) := hCa
  have HB1 : Hid (Below W.heap.size W w1) := hb1
  have z1 : w.heap.size + 3 < w1.heap.size := by have := hb1.size; omega
  have HT1 : Hid (((w1.alloc (.cells Try.zeroCells79 79)).alloc (.cells #[.int .u8 0, .int .u64 0] 74)).there w1.heap.size 0 C.size) := by rw [hCs]; exact World.there_alloc (there_new w1 _ _ (by simp)) _
  obtain ⟨U, hU⟩ : ∃ U, U = ((w1.alloc (.cells Try.zeroCells79 79)).alloc (.cells #[.int .u8 0, .int .u64 0] 74)).setCells w1.heap.size 0 C.toList := ⟨_, rfl⟩
  have HU : Hid (U = ((w1.alloc (.cells Try.zeroCells79 79)).alloc (.cells #[.int .u8 0, .int .u64 0] 74)).setCells w1.heap.size 0 C.toList) := hU
  have HBU : Hid (Below w1.heap.size w1 U) := by rw [hU]; exact below_setCells (((Below.refl _ _).alloc (Nat.le_refl _) _).alloc (by simp) _) (Nat.le_refl _) _ _
  have HRU : Hid (U.rangeAt w1.heap.size 0 C.toList ∧ ∀ j, U.frozen? ⟨w1.heap.size, j, none⟩ = false) := by
    rw [hU]
    refine ⟨World.rangeAt_setCells_same _ _ _ _ (by rw [Array.length_toList]; exact HT1.out), fun j => ?_⟩
    rw [World.frozen?_setCells, World.frozen?_alloc_past _ _ _ (by simp), World.frozen?_alloc_at _ _ _ _ rfl]
  have u0 : U.cell? ⟨w1.heap.size + 1, 0, none⟩ = some (.int .u8 0) := by rw [hU, cell_setCells (by omega), World.cell?_alloc_at _ _ _ _ (by simp)]; rfl
  have u1 : U.cell? ⟨w1.heap.size + 1, 1, none⟩ = some (.int .u64 0) := by rw [hU, cell_setCells (by omega), World.cell?_alloc_at _ _ _ _ (by simp)]; rfl
  have uf : ∀ o, U.frozen? ⟨w1.heap.size + 1, o, none⟩ = false := fun o => by rw [hU, World.frozen?_setCells, World.frozen?_alloc_at _ _ _ _ (by simp)]
  have zU : w1.heap.size + 1 < U.heap.size := lt_of_cell u0
  obtain ⟨V, hV⟩ : ∃ V, V = (U.setCell ⟨w1.heap.size + 1, 0, none⟩ (.int .u8 x.tag)).setCell ⟨w1.heap.size + 1, 1, none⟩ (.int .u64 x.rest) := ⟨_, rfl⟩
  have HV : Hid (V = (U.setCell ⟨w1.heap.size + 1, 0, none⟩ (.int .u8 x.tag)).setCell ⟨w1.heap.size + 1, 1, none⟩ (.int .u64 x.rest)) := hV
  have zV : V.heap.size = U.heap.size := by rw [hV]; simp
  have HBVw : Hid (Below W.heap.size W V) := by rw [hV]; exact ((HB1.out.trans (HBU.out.mono HB1.out.size)).setCell (by simp <;> omega) _).setCell (by simp <;> omega) _
  have HRV : Hid (Res4 V (w.heap.size + 1)) := HRs.out.below HBVw.out
  have HBV : Hid (Below w.heap.size w V) := HBW.out.trans (HBVw.out.mono HBW.out.size)
  have HXV : Hid (V.cell? ⟨w1.heap.size + 1, 0, none⟩ = some (.int .u8 x.tag) ∧ V.cell? ⟨w1.heap.size + 1, 1, none⟩ = some (.int .u64 x.rest)) := by
    rw [hV]
    exact ⟨by rw [World.cell?_setCell_other _ _ _ _ (by simp), World.cell?_setCell_same _ _ _ u0], by rw [World.cell?_setCell_same _ _ _ (by rw [World.cell?_setCell_other _ _ _ _ (by simp)]; exact u1)]⟩
  have HGV : Hid (V.rangeAt w1.heap.size 0 C.toList ∧ ∀ j, V.frozen? ⟨w1.heap.size, j, none⟩ = false) := by
    rw [hV]
    exact ⟨range_other (range_other HRU.out.1 (by omega)) (by omega), fun j => by simp only [World.frozen?_setCell]; exact HRU.out.2 j⟩
  have HMV : Hid (∀ b, b < w1.heap.size → V.heap[b]? = w1.heap[b]?) := fun b hb => by
    have hs1 : ∀ (y : World) (o : Nat) (v : Value), (y.setCell ⟨w1.heap.size + 1, o, none⟩ v).heap[b]? = y.heap[b]? := fun y o v => RowKit.Below.heap_setCell _ _ _ _ (show b ≠ w1.heap.size + 1 by omega)
    rw [hV, hs1, hs1]
    exact HBU.out.block b hb
  have HBxU : Hid (∀ (o : Nat) (v : Value), [Value.int .i64 t.ver, .int .i64 t.value.kind, .int .i64 t.value.num, .string t.value.name][o]? = some v → U.cell? ⟨w.heap.size, o, none⟩ = some v) := fun o v h => cell_keep HBU.out (cell_keep HB1.out (HBx.out o v h))
  clear hU hV hCa hb1 hC0 HRU HBU HC
  by_cases h0 : c = 0
  case neg =>
    have HE : Hid (R = c ∧ c ≠ 0) := ⟨by rw [HR.out, if_pos h0], h0⟩
    have h0' : (c != 0) = true := by simpa using h0
    have HTz : Hid (V.there (w.heap.size + 1) 0 Try.zeroCells79.size) := by rw [show Try.zeroCells79.size = 301 by simp]; exact HRV.out.g
    obtain ⟨Z, hZ⟩ : ∃ Z, Z = V.setCells (w.heap.size + 1) 0 Try.zeroCells79.toList := ⟨_, rfl⟩
    have HZ : Hid (Z = V.setCells (w.heap.size + 1) 0 Try.zeroCells79.toList) := hZ
    have HRz : Hid (Res4 Z (w.heap.size + 1)) := by rw [hZ]; exact HRV.out.store _
    have HGz : Hid (Z.rangeAt (w.heap.size + 1) 0 Try.zeroCells79.toList) := by rw [hZ]; exact World.rangeAt_setCells_same _ _ _ _ (by rw [Array.length_toList]; exact HTz.out)
    have HBz : Hid (Below w.heap.size w Z) := by rw [hZ]; exact below_setCells HBV.out (by omega) _ _
    have n0 := HRz.out.x0
    have n1 := HRz.out.x1
    have nf := HRz.out.xf
    have k0 := HRz.out.m0
    have k1 := HRz.out.m1
    have k2 := HRz.out.m2
    have kf := HRz.out.mf
    clear hZ
    clear HR h0 HC0 HM HCc
    go_wp2_with (first | (refine wpList_store_mid rfl 79 _ _ rfl w1.heap.size 0 C rfl rfl HT1.out (by rw [infoGl, hCs]) HCa.out ?_; rw [← HU.out]) | (refine wpList_store_mid rfl 79 _ _ rfl (w.heap.size + 1) 0 Try.zeroCells79 rfl rfl (by rw [← HV.out]; exact HTz.out) (by rw [infoGl]; simp) zc_all ?_; rw [← HV.out, ← HZ.out]))
    refine bodyPost_ret (v := .tuple #[.agg Try.zeroCells79, Wd.val ⟨0, 0⟩, Mry.val ⟨0, ⟨0, 0⟩⟩, .int .i64 c]) (res4_zero rfl _ Z (w.heap.size + 1) c HRz.out HGz.out rfl rfl rfl rfl) rfl ⟨Try.zeroCells79, ⟨0, 0⟩, ⟨0, ⟨0, 0⟩⟩, by rw [HE.out.1], by simp, zc_all, fun e => absurd e (by rw [HE.out.1]; exact HE.out.2), ?_⟩
    repeat (first | refine Below.setCell ?_ (by simp <;> omega) _ | exact HBz.out)
  subst h0
  have b0 := HBxU.out 0 _ rfl
  have b1 := HBxU.out 1 _ rfl
  have b2 := HBxU.out 2 _ rfl
  have b3 := HBxU.out 3 _ rfl
  go_wp2_with (refine wpList_store_mid rfl 79 _ _ rfl w1.heap.size 0 C rfl rfl HT1.out (by rw [infoGl, hCs]) HCa.out ?_; rw [← HU.out])
  rw [← HV.out]
  clear b0 b1 b2 b3 u0 u1 uf HU HV HBxU HBx
  refine (HM.out _).mono ?_
  rintro e w2 ⟨⟨m, rfl, hm0⟩, hb2⟩
  have HM0 : Hid (d = 0 → m = mryOf t) := hm0
  have HB2 : Hid (Below V.heap.size V w2) := hb2
  have z2 : w1.heap.size + 1 < w2.heap.size := by have := hb2.size; omega
  obtain ⟨X, hX⟩ : ∃ X, X = w2.alloc (.cells #[.int .i64 m.ver, .int .u8 m.value.tag, .int .u64 m.value.rest] 97) := ⟨_, rfl⟩
  have HX : Hid (X = w2.alloc (.cells #[.int .i64 m.ver, .int .u8 m.value.tag, .int .u64 m.value.rest] 97)) := hX
  have HBX : Hid (Below V.heap.size V X) := by rw [hX]; exact HB2.out.alloc HB2.out.size _
  have HRX : Hid (Res4 X (w.heap.size + 1)) := HRV.out.below HBX.out
  have HBXw : Hid (Below w.heap.size w X) := HBV.out.trans (HBX.out.mono HBV.out.size)
  have HmX : Hid (X.cell? ⟨w2.heap.size, 0, none⟩ = some (.int .i64 m.ver) ∧ X.cell? ⟨w2.heap.size, 1, none⟩ = some (.int .u8 m.value.tag) ∧ X.cell? ⟨w2.heap.size, 2, none⟩ = some (.int .u64 m.value.rest)) := by
    rw [hX]
    exact ⟨by rw [World.cell?_alloc_at _ _ _ _ rfl]; rfl, by rw [World.cell?_alloc_at _ _ _ _ rfl]; rfl, by rw [World.cell?_alloc_at _ _ _ _ rfl]; rfl⟩
  have zX : w2.heap.size < X.heap.size := lt_of_cell HmX.out.1
  clear hX hb2 hm0
  by_cases h1 : d = 0
  case neg =>
    have HE : Hid (R = d ∧ d ≠ 0) := ⟨by rw [HR.out, if_neg (by simp), if_pos h1], h1⟩
    have h1' : (d != 0) = true := by simpa using h1
    have HTz : Hid (X.there (w.heap.size + 1) 0 Try.zeroCells79.size) := by rw [show Try.zeroCells79.size = 301 by simp]; exact HRX.out.g
    obtain ⟨Z, hZ⟩ : ∃ Z, Z = X.setCells (w.heap.size + 1) 0 Try.zeroCells79.toList := ⟨_, rfl⟩
    have HZ : Hid (Z = X.setCells (w.heap.size + 1) 0 Try.zeroCells79.toList) := hZ
    have HRz : Hid (Res4 Z (w.heap.size + 1)) := by rw [hZ]; exact HRX.out.store _
    have HGz : Hid (Z.rangeAt (w.heap.size + 1) 0 Try.zeroCells79.toList) := by rw [hZ]; exact World.rangeAt_setCells_same _ _ _ _ (by rw [Array.length_toList]; exact HTz.out)
    have HBz : Hid (Below w.heap.size w Z) := by rw [hZ]; exact below_setCells HBXw.out (by omega) _ _
    have n0 := HRz.out.x0
    have n1 := HRz.out.x1
    have nf := HRz.out.xf
    have k0 := HRz.out.m0
    have k1 := HRz.out.m1
    have k2 := HRz.out.m2
    have kf := HRz.out.mf
    clear hZ
    clear HR h1 HC0 HM HCc
    go_wp2_with (refine wpList_store_mid rfl 79 _ _ rfl (w.heap.size + 1) 0 Try.zeroCells79 rfl rfl (by rw [← HX.out]; exact HTz.out) (by rw [infoGl]; simp) zc_all ?_; rw [← HX.out, ← HZ.out])
    refine bodyPost_ret (v := .tuple #[.agg Try.zeroCells79, Wd.val ⟨0, 0⟩, Mry.val ⟨0, ⟨0, 0⟩⟩, .int .i64 d]) (res4_zero rfl _ Z (w.heap.size + 1) d HRz.out HGz.out rfl rfl rfl rfl) rfl ⟨Try.zeroCells79, ⟨0, 0⟩, ⟨0, ⟨0, 0⟩⟩, by rw [HE.out.1], by simp, zc_all, fun e => absurd e (by rw [HE.out.1]; exact HE.out.2), ?_⟩
    repeat (first | refine Below.setCell ?_ (by simp <;> omega) _ | exact HBz.out)
  subst h1
  have HMt : Hid (m = mryOf t) := HM0.out (by first | rfl | trivial)
  obtain ⟨hg0, hsy, hl60, hfine⟩ := ask_fine HCc.out.1.symm
  have HF : Hid (symL s.data.toList = true ∧ GFine l l.length ∧ memC t = 0) := ⟨hsy, hfine, HCc.out.2.symm⟩
  obtain ⟨hxs, b, hbb, hGl, hMp, hNd⟩ := HC0.out (by first | rfl | trivial)
  have HXs : Hid (x = nW s) := hxs
  have HAns : Hid (GlC C.toList b (l.map rwOf) ∧ MapW w1 b ((l.map rwOf).map Rw.name) ∧ ((l.map rwOf).map Rw.name).Nodup ∧ W.heap.size ≤ b ∧ b < w1.heap.size) := ⟨hGl, hMp, hNd, hbb, hMp.lt⟩
  have HGX : Hid (GlAt X w1.heap.size b (l.map rwOf)) := by
    refine GlAt.below (w := V) ?_ HBX.out
    have hbl : b < w1.heap.size := hMp.lt
    exact ⟨by omega, hMp.keep (HMV.out b hbl), hNd, HGV.out.2, C.toList, HGV.out.1, hGl⟩
  have HxX : Hid (X.cell? ⟨w1.heap.size + 1, 0, none⟩ = some (.int .u8 x.tag) ∧ X.cell? ⟨w1.heap.size + 1, 1, none⟩ = some (.int .u64 x.rest)) := ⟨cell_keep HBX.out HXV.out.1, cell_keep HBX.out HXV.out.2⟩
  have xx0 : w2.cell? ⟨w1.heap.size + 1, 0, none⟩ = some (.int .u8 x.tag) := cell_keep HB2.out HXV.out.1
  have xx1 : w2.cell? ⟨w1.heap.size + 1, 1, none⟩ = some (.int .u64 x.rest) := cell_keep HB2.out HXV.out.2
  clear hg0 hsy hfine hxs hGl hMp hNd hbb HM0 HM
  obtain ⟨ok, r, hfd⟩ : ∃ (ok : Bool) (r : Rw), (ok = true → holdsB m r = !(parts l s t)) ∧ (ok = false → parts l s t = false) ∧ Calls Try.prog 46 #[.pointer (some ⟨w1.heap.size, 0, none⟩), x.val] X fun e w' => e = .returned (.tuple #[r.val, .bool ok]) ∧ Below X.heap.size X w' := by
    cases hat : atG l s with
    | none =>
      refine ⟨false, rwZ, fun e => absurd e (by decide), fun _ => ?_, ?_⟩
      · unfold parts; rw [hat]
      · have hm := names_miss l l.length s HF.out.2.1 (Nat.le_refl _) HF.out.1 (by rw [List.take_length]; exact hat)
        rw [List.take_length] at hm
        rw [HXs.out]
        exact find_miss _ b (l.map rwOf) (nW s) X HGX.out (nW_fit HF.out.1) hm
    | some k =>
      obtain ⟨hk, hnm, _⟩ := atG_some hat
      refine ⟨true, rwOf (l[k]'hk), fun _ => by rw [HMt.out]; exact holds_parts HF.out.2.1 HF.out.2.2 hk hat, fun e => absurd e (by decide), ?_⟩
      have h := find_hit _ b (l.map rwOf) k (by simpa using hk) X HGX.out
      have e1 : (l.map rwOf)[k]'(by simpa using hk) = rwOf (l[k]'hk) := by rw [List.getElem_map]
      have e2 : (rwOf (l[k]'hk)).name = x := by rw [HXs.out]; show nW _ = nW s; rw [hnm]
      rw [e1, e2] at h
      exact h
  have HFd : Hid (Calls Try.prog 46 #[.pointer (some ⟨w1.heap.size, 0, none⟩), x.val] X fun e w' => e = .returned (.tuple #[r.val, .bool ok]) ∧ Below X.heap.size X w') := hfd.2.2
  have HOk : Hid ((ok = true → holdsB m r = !(parts l s t)) ∧ (ok = false → parts l s t = false)) := ⟨hfd.1, hfd.2.1⟩
  clear hfd
  go_wp2_with fail
  rw [← HX.out]
  refine HFd.out.mono ?_
  rintro e w3 ⟨rfl, hb3⟩
  have HB3 : Hid (Below X.heap.size X w3) := hb3
  have m0 : w3.cell? ⟨w2.heap.size, 0, none⟩ = some (.int .i64 m.ver) := cell_keep hb3 HmX.out.1
  have m1 : w3.cell? ⟨w2.heap.size, 1, none⟩ = some (.int .u8 m.value.tag) := cell_keep hb3 HmX.out.2.1
  have m2 : w3.cell? ⟨w2.heap.size, 2, none⟩ = some (.int .u64 m.value.rest) := cell_keep hb3 HmX.out.2.2
  have z3 : w2.heap.size < w3.heap.size := lt_of_cell m0
  have HRw : Hid (∀ u, Below w3.heap.size w3 u → Below w.heap.size w u ∧ Res4 u (w.heap.size + 1) ∧ Below X.heap.size X u) := fun u hu => by
    have h1 : Below X.heap.size X u := HB3.out.trans (hu.mono HB3.out.size)
    exact ⟨HBXw.out.trans (h1.mono HBXw.out.size), HRX.out.below h1, h1⟩
  clear hb3 xx0 xx1 HX
  obtain ⟨G, hG⟩ : ∃ G, G = w3.alloc (.cells #[.int .u8 r.name.tag, .int .u64 r.name.rest, .int .u8 r.value.tag, .int .u64 r.value.rest, .int .i64 r.ver] 76) := ⟨_, rfl⟩
  have HG : Hid (G = w3.alloc (.cells #[.int .u8 r.name.tag, .int .u64 r.name.rest, .int .u8 r.value.tag, .int .u64 r.value.rest, .int .i64 r.ver] 76)) := hG
  have HBG3 : Hid (Below w3.heap.size w3 G) := by rw [hG]; exact (Below.refl _ _).alloc (Nat.le_refl _) _
  have HBG : Hid (Below X.heap.size X G) := (HRw.out G HBG3.out).2.2
  have zG : w3.heap.size < G.heap.size := by rw [hG]; simp
  clear hG
  cases ok
  case false =>
    have HE : Hid (R = 0) := by show R = 0; rw [HR.out, HOk.out.2 rfl]; simp
    clear HR HOk HFd HRw
    go_wp2_with fail
    rw [← HG.out]
    obtain ⟨Y, hY⟩ : ∃ Y, Y = G.drew := ⟨_, rfl⟩
    have HBY : Hid (Below X.heap.size X Y) := by rw [hY]; exact HBG.out.drew
    have HRY : Hid (Res4 Y (w.heap.size + 1)) := HRX.out.below HBY.out
    have HS0 : Hid (Y.rangeAt w1.heap.size 0 C.toList ∧ Y.cell? ⟨w1.heap.size + 1, 0, none⟩ = some (.int .u8 x.tag) ∧ Y.cell? ⟨w1.heap.size + 1, 1, none⟩ = some (.int .u64 x.rest) ∧ Y.cell? ⟨w2.heap.size, 0, none⟩ = some (.int .i64 m.ver) ∧ Y.cell? ⟨w2.heap.size, 1, none⟩ = some (.int .u8 m.value.tag) ∧ Y.cell? ⟨w2.heap.size, 2, none⟩ = some (.int .u64 m.value.rest)) := ⟨range_below (range_below HGV.out.1 HBX.out) HBY.out, cell_keep HBY.out HxX.out.1, cell_keep HBY.out HxX.out.2, cell_keep HBY.out HmX.out.1, cell_keep HBY.out HmX.out.2.1, cell_keep HBY.out HmX.out.2.2⟩
    have HTY : Hid (Y.there (w.heap.size + 1) 0 C.size) := by rw [hCs]; exact HRY.out.g
    have HBYw : Hid (Below w.heap.size w Y) := HBXw.out.trans (HBY.out.mono HBXw.out.size)
    have hCl : C.toList.length = 301 := by rw [Array.length_toList, hCs]
    have hbX : b < X.heap.size := by have := HAns.out.2.2.2.2; omega
    have HMY : Hid (Y.heap[b]? = w1.heap[b]?) := by show Y.heap[b]? = _; rw [HBY.out.block b hbX, HBX.out.block b (by have := HAns.out.2.2.2.2; omega), HMV.out b HAns.out.2.2.2.2]
    refine wp_region_held (S := fun u => u.rangeAt w1.heap.size 0 C.toList ∧ u.cell? ⟨w1.heap.size + 1, 0, none⟩ = some (.int .u8 x.tag) ∧ u.cell? ⟨w1.heap.size + 1, 1, none⟩ = some (.int .u64 x.rest) ∧ u.cell? ⟨w2.heap.size, 0, none⟩ = some (.int .i64 m.ver) ∧ u.cell? ⟨w2.heap.size, 1, none⟩ = some (.int .u8 m.value.tag) ∧ u.cell? ⟨w2.heap.size, 2, none⟩ = some (.int .u64 m.value.rest)) (by kernel_rfl) ?_
    rw [show ({ G with drawn := G.drawn + 1 } : World) = Y from hY.symm]
    clear hY
    refine wpAnyH_take (i := 0) (v := .agg C) (by rfl) (by kernel_rfl) (by kernel_rfl) (by kernel_rfl) (by intro _ _ _ h; exact h) (yieldsIf_load_mid (by rfl) 79 _ rfl w1.heap.size 0 rfl C.toList _ (fun u hu => hu.1) Try.underlying79 rfl (by rw [infoGl, hCl])) HS0.out ?_
    try simp only [Act.put]
    try simp only [List.setIfInBounds_toArray]
    try simp only [List.set_cons_zero, List.set_cons_succ]
    refine wpAnyH_take (i := 1) (v := x.val) (by rfl) (by kernel_rfl) (by kernel_rfl) (by kernel_rfl) (by intro _ _ _ h; exact h) (yieldsIf_load_mid (by rfl) 74 _ rfl (w1.heap.size + 1) 0 rfl [.int .u8 x.tag, .int .u64 x.rest] _ (fun u hu j v hv => by
      match j, hv with
      | 0, hv => simp at hv; subst hv; simpa using hu.2.1
      | 1, hv => simp at hv; subst hv; simpa using hu.2.2.1) Try.underlying74 rfl (by rw [infoWd]; rfl)) HS0.out ?_
    try simp only [Act.put]
    try simp only [List.setIfInBounds_toArray]
    try simp only [List.set_cons_zero, List.set_cons_succ]
    refine wpAnyH_take (i := 2) (v := m.val) (by rfl) (by kernel_rfl) (by kernel_rfl) (by kernel_rfl) (by intro _ _ _ h; exact h) (yieldsIf_load_mid (by rfl) 97 _ rfl w2.heap.size 0 rfl [.int .i64 m.ver, .int .u8 m.value.tag, .int .u64 m.value.rest] _ (fun u hu j v hv => by
      match j, hv with
      | 0, hv => simp at hv; subst hv; simpa using hu.2.2.2.1
      | 1, hv => simp at hv; subst hv; simpa using hu.2.2.2.2.1
      | 2, hv => simp at hv; subst hv; simpa using hu.2.2.2.2.2) Try.underlying97 rfl (by rw [infoMy]; rfl)) HS0.out ?_
    try simp only [Act.put]
    try simp only [List.setIfInBounds_toArray]
    try simp only [List.set_cons_zero, List.set_cons_succ]
    refine wpAnyH_all (rs := [3]) (by kernel_rfl) (by simp) ?_
    intro i hi
    obtain rfl : i = 3 := by simpa using hi
    refine wpOp_step (by rfl) (fun K' hK => ?_)
    rw [if_pos (by rfl)]
    refine wp_store_mid 79 _ _ rfl (w.heap.size + 1) 0 C rfl rfl HTY.out (by rw [infoGl, hCs]) HCa.out ?_
    obtain ⟨P1, hP1⟩ : ∃ P, P = Y.setCells (w.heap.size + 1) 0 C.toList := ⟨_, rfl⟩
    have HS1 : Hid (P1.rangeAt w1.heap.size 0 C.toList ∧ P1.cell? ⟨w1.heap.size + 1, 0, none⟩ = some (.int .u8 x.tag) ∧ P1.cell? ⟨w1.heap.size + 1, 1, none⟩ = some (.int .u64 x.rest) ∧ P1.cell? ⟨w2.heap.size, 0, none⟩ = some (.int .i64 m.ver) ∧ P1.cell? ⟨w2.heap.size, 1, none⟩ = some (.int .u8 m.value.tag) ∧ P1.cell? ⟨w2.heap.size, 2, none⟩ = some (.int .u64 m.value.rest)) := by
      rw [hP1]
      exact ⟨World.rangeAt_setCells_apart HS0.out.1 _ _ _ (Or.inl (by omega)), by rw [cell_setCells (by omega)]; exact HS0.out.2.1, by rw [cell_setCells (by omega)]; exact HS0.out.2.2.1, by rw [cell_setCells (by omega)]; exact HS0.out.2.2.2.1, by rw [cell_setCells (by omega)]; exact HS0.out.2.2.2.2.1, by rw [cell_setCells (by omega)]; exact HS0.out.2.2.2.2.2⟩
    have HR1 : Hid (Res4 P1 (w.heap.size + 1)) := by rw [hP1]; exact HRY.out.store _
    have HG1 : Hid (P1.rangeAt (w.heap.size + 1) 0 C.toList) := by rw [hP1]; exact World.rangeAt_setCells_same _ _ _ _ (by rw [Array.length_toList]; exact HTY.out)
    have HB1' : Hid (Below w.heap.size w P1) := by rw [hP1]; exact below_setCells HBYw.out (by omega) _ _
    have HM1 : Hid (P1.heap[b]? = w1.heap[b]?) := by show P1.heap[b]? = _; rw [hP1, heap_setCells (by have := HAns.out.2.2.2.1; omega)]; exact HMY.out
    rw [← hP1]
    refine hK _ _ ⟨HS1.out, ?_⟩
    clear hK hP1
    refine wpAnyH_all (rs := [4]) (by kernel_rfl) (by simp) ?_
    intro i hi
    obtain rfl : i = 4 := by simpa using hi
    refine wpOp_step (by rfl) (fun K' hK => ?_)
    rw [if_pos (by rfl)]
    have HT2 : Hid (P1.there (w.heap.size + 2) 0 2) := fun j hj => by
      rw [Nat.zero_add]
      refine ⟨?_, HR1.out.xf j⟩
      rcases (by omega : j = 0 ∨ j = 1) with rfl | rfl
      · rw [show P1.cell? ⟨w.heap.size + 2, 0, none⟩ = _ from HR1.out.x0]; rfl
      · rw [show P1.cell? ⟨w.heap.size + 2, 1, none⟩ = _ from HR1.out.x1]; rfl
    refine wp_store_mid 74 _ _ rfl (w.heap.size + 2) 0 #[.int .u8 x.tag, .int .u64 x.rest] rfl rfl HT2.out (by rw [infoWd]; rfl) (all_oneCell_toArray (cs := [.int .u8 x.tag, .int .u64 x.rest]) (fun v hv => by simp at hv; rcases hv with rfl | rfl <;> rfl)) ?_
    obtain ⟨P2, hP2⟩ : ∃ P, P = P1.setCells (w.heap.size + 2) 0 #[.int .u8 x.tag, .int .u64 x.rest].toList := ⟨_, rfl⟩
    have HS2 : Hid (P2.rangeAt w1.heap.size 0 C.toList ∧ P2.cell? ⟨w1.heap.size + 1, 0, none⟩ = some (.int .u8 x.tag) ∧ P2.cell? ⟨w1.heap.size + 1, 1, none⟩ = some (.int .u64 x.rest) ∧ P2.cell? ⟨w2.heap.size, 0, none⟩ = some (.int .i64 m.ver) ∧ P2.cell? ⟨w2.heap.size, 1, none⟩ = some (.int .u8 m.value.tag) ∧ P2.cell? ⟨w2.heap.size, 2, none⟩ = some (.int .u64 m.value.rest)) := by
      rw [hP2]
      exact ⟨World.rangeAt_setCells_apart HS1.out.1 _ _ _ (Or.inl (by omega)), by rw [cell_setCells (by omega)]; exact HS1.out.2.1, by rw [cell_setCells (by omega)]; exact HS1.out.2.2.1, by rw [cell_setCells (by omega)]; exact HS1.out.2.2.2.1, by rw [cell_setCells (by omega)]; exact HS1.out.2.2.2.2.1, by rw [cell_setCells (by omega)]; exact HS1.out.2.2.2.2.2⟩
    have HG2 : Hid (P2.rangeAt (w.heap.size + 1) 0 C.toList) := by rw [hP2]; exact World.rangeAt_setCells_apart HG1.out _ _ _ (Or.inl (by omega))
    have HX2 : Hid (P2.rangeAt (w.heap.size + 2) 0 [.int .u8 x.tag, .int .u64 x.rest]) := by rw [hP2]; exact World.rangeAt_setCells_same _ _ _ _ HT2.out
    have HT3 : Hid (P2.there (w.heap.size + 3) 0 3) := fun j hj => by
      rw [hP2, cell_setCells (by omega), World.frozen?_setCells, Nat.zero_add]
      refine ⟨?_, HR1.out.mf j⟩
      rcases (by omega : j = 0 ∨ j = 1 ∨ j = 2) with rfl | rfl | rfl
      · rw [show P1.cell? ⟨w.heap.size + 3, 0, none⟩ = _ from HR1.out.m0]; rfl
      · rw [show P1.cell? ⟨w.heap.size + 3, 1, none⟩ = _ from HR1.out.m1]; rfl
      · rw [show P1.cell? ⟨w.heap.size + 3, 2, none⟩ = _ from HR1.out.m2]; rfl
    have HB2' : Hid (Below w.heap.size w P2) := by rw [hP2]; exact below_setCells HB1'.out (by omega) _ _
    have HM2 : Hid (P2.heap[b]? = w1.heap[b]?) := by show P2.heap[b]? = _; rw [hP2, heap_setCells (by have := HAns.out.2.2.2.1; omega)]; exact HM1.out
    rw [← hP2]
    refine hK _ _ ⟨HS2.out, ?_⟩
    clear hK hP2
    refine wpAnyH_all (rs := [5]) (by kernel_rfl) (by simp) ?_
    intro i hi
    obtain rfl : i = 5 := by simpa using hi
    refine wpOp_step (by rfl) (fun K' hK => ?_)
    rw [if_pos (by rfl)]
    refine wp_store_mid 97 _ _ rfl (w.heap.size + 3) 0 #[.int .i64 m.ver, .int .u8 m.value.tag, .int .u64 m.value.rest] rfl rfl HT3.out (by rw [infoMy]; rfl) (all_oneCell_toArray (cs := [.int .i64 m.ver, .int .u8 m.value.tag, .int .u64 m.value.rest]) (fun v hv => by simp at hv; rcases hv with rfl | rfl | rfl <;> rfl)) ?_
    obtain ⟨P3, hP3⟩ : ∃ P, P = P2.setCells (w.heap.size + 3) 0 #[.int .i64 m.ver, .int .u8 m.value.tag, .int .u64 m.value.rest].toList := ⟨_, rfl⟩
    have HS3 : Hid (P3.rangeAt w1.heap.size 0 C.toList ∧ P3.cell? ⟨w1.heap.size + 1, 0, none⟩ = some (.int .u8 x.tag) ∧ P3.cell? ⟨w1.heap.size + 1, 1, none⟩ = some (.int .u64 x.rest) ∧ P3.cell? ⟨w2.heap.size, 0, none⟩ = some (.int .i64 m.ver) ∧ P3.cell? ⟨w2.heap.size, 1, none⟩ = some (.int .u8 m.value.tag) ∧ P3.cell? ⟨w2.heap.size, 2, none⟩ = some (.int .u64 m.value.rest)) := by
      rw [hP3]
      exact ⟨World.rangeAt_setCells_apart HS2.out.1 _ _ _ (Or.inl (by omega)), by rw [cell_setCells (by omega)]; exact HS2.out.2.1, by rw [cell_setCells (by omega)]; exact HS2.out.2.2.1, by rw [cell_setCells (by omega)]; exact HS2.out.2.2.2.1, by rw [cell_setCells (by omega)]; exact HS2.out.2.2.2.2.1, by rw [cell_setCells (by omega)]; exact HS2.out.2.2.2.2.2⟩
    have HG3 : Hid (P3.rangeAt (w.heap.size + 1) 0 C.toList) := by rw [hP3]; exact World.rangeAt_setCells_apart HG2.out _ _ _ (Or.inl (by omega))
    have HX3 : Hid (P3.rangeAt (w.heap.size + 2) 0 [.int .u8 x.tag, .int .u64 x.rest]) := by rw [hP3]; exact World.rangeAt_setCells_apart HX2.out _ _ _ (Or.inl (by omega))
    have HY3 : Hid (P3.rangeAt (w.heap.size + 3) 0 [.int .i64 m.ver, .int .u8 m.value.tag, .int .u64 m.value.rest]) := by rw [hP3]; exact World.rangeAt_setCells_same _ _ _ _ HT3.out
    have HB3' : Hid (Below w.heap.size w P3) := by rw [hP3]; exact below_setCells HB2'.out (by omega) _ _
    have HM3 : Hid (P3.heap[b]? = w1.heap[b]?) := by show P3.heap[b]? = _; rw [hP3, heap_setCells (by have := HAns.out.2.2.2.1; omega)]; exact HM2.out
    rw [← hP3]
    refine hK _ _ ⟨HS3.out, ?_⟩
    clear hK hP3
    refine wpAnyH_all (rs := [6]) (by kernel_rfl) (by simp) ?_
    intro i hi
    obtain rfl : i = 6 := by simpa using hi
    refine wpOp_step (by rfl) (fun K' hK => ?_)
    rw [if_pos (by rfl)]
    replace hK : Shut (∀ a w, _ → K' a w) := hK
    go_simp
    refine hK.out _ _ ⟨HS3.out, ?_⟩
    clear hK
    refine wpAnyH_done (by kernel_rfl) ?_ _
    go_wp2
    refine bodyPost_ret (v := .tuple #[.agg C, x.val, m.val, .int .i64 0]) ?_ rfl ⟨C, x, m, by rw [HE.out], hCs, HCa.out, fun _ => ⟨HXs.out, HMt.out, b, by have := HAns.out.2.2.2.1; omega, HAns.out.1, HAns.out.2.1.keep HM3.out, HAns.out.2.2.1⟩, HB3'.out⟩
    rw [results_ccct rfl]
    simp only [Array.getD_eq_getD_getElem?, List.getElem?_toArray, List.getElem?_cons_succ, List.getElem?_cons_zero, Option.getD_some, asAddr, Sem.run_pure, Result.andThen_ok]
    rw [loadGl _ _ C.toList hCl HG3.out]
    simp only [Result.andThen_ok, Array.toArray_toList]
    rw [ldWd _ (w.heap.size + 2) x (HX3.out 0 _ rfl) (HX3.out 1 _ rfl)]
    simp only [Result.andThen_ok]
    rw [ldMy _ (w.heap.size + 3) m (HY3.out 0 _ rfl) (HY3.out 1 _ rfl) (HY3.out 2 _ rfl)]
    rfl
  obtain ⟨bo, hbo⟩ : ∃ bo, bo = holdsB m r := ⟨_, rfl⟩
  have HHo : Hid (∀ u, Calls Try.prog 77 #[m.val, r.val] u fun e w' => e = .returned (.bool bo) ∧ Below u.heap.size u w') := fun u => by rw [hbo]; exact holdsG_any m r u
  have HPa : Hid (bo = !(parts l s t)) := by show bo = _; rw [hbo]; exact HOk.out.1 rfl
  clear hbo HOk HFd
  go_wp2_with fail
  rw [← HG.out]
  refine (HHo.out _).mono ?_
  rintro e w4 ⟨rfl, hb4⟩
  have HB4 : Hid (Below X.heap.size X w4) := HBG.out.trans (hb4.mono HBG.out.size)
  have HB4w : Hid (Below w.heap.size w w4) := HBXw.out.trans (HB4.out.mono HBXw.out.size)
  have HR4 : Hid (Res4 w4 (w.heap.size + 1)) := HRX.out.below HB4.out
  clear hb4 m0 m1 m2 HRw HBG3 HHo
  cases bo
  case false =>
    have HE : Hid (R = 1) := by
      show R = 1
      have hp : parts l s t = true := by have := HPa.out; cases h : parts l s t <;> rw [h] at this <;> simp at this
      rw [HR.out, hp]; simp
    have HTz : Hid (w4.there (w.heap.size + 1) 0 Try.zeroCells79.size) := by rw [show Try.zeroCells79.size = 301 by simp]; exact HR4.out.g
    obtain ⟨Z, hZ⟩ : ∃ Z, Z = w4.setCells (w.heap.size + 1) 0 Try.zeroCells79.toList := ⟨_, rfl⟩
    have HZ : Hid (Z = w4.setCells (w.heap.size + 1) 0 Try.zeroCells79.toList) := hZ
    have HRz : Hid (Res4 Z (w.heap.size + 1)) := by rw [hZ]; exact HR4.out.store _
    have HGz : Hid (Z.rangeAt (w.heap.size + 1) 0 Try.zeroCells79.toList) := by rw [hZ]; exact World.rangeAt_setCells_same _ _ _ _ (by rw [Array.length_toList]; exact HTz.out)
    have HBz : Hid (Below w.heap.size w Z) := by rw [hZ]; exact below_setCells HB4w.out (by omega) _ _
    have n0 := HRz.out.x0
    have n1 := HRz.out.x1
    have nf := HRz.out.xf
    have k0 := HRz.out.m0
    have k1 := HRz.out.m1
    have k2 := HRz.out.m2
    have kf := HRz.out.mf
    clear hZ
    clear HR HPa
    go_wp2_with (refine wpList_store_mid rfl 79 _ _ rfl (w.heap.size + 1) 0 Try.zeroCells79 rfl rfl HTz.out (by rw [infoGl]; simp) zc_all ?_; rw [← HZ.out])
    refine bodyPost_ret (v := .tuple #[.agg Try.zeroCells79, Wd.val ⟨0, 0⟩, Mry.val ⟨0, ⟨0, 0⟩⟩, .int .i64 1]) (res4_zero rfl _ Z (w.heap.size + 1) 1 HRz.out HGz.out rfl rfl rfl rfl) rfl ⟨Try.zeroCells79, ⟨0, 0⟩, ⟨0, ⟨0, 0⟩⟩, by rw [HE.out], by simp, zc_all, fun e => absurd e (by rw [HE.out]; decide), ?_⟩
    repeat (first | refine Below.setCell ?_ (by simp <;> omega) _ | exact HBz.out)
  have HE : Hid (R = 0) := by
    show R = 0
    have hp : parts l s t = false := by have := HPa.out; cases h : parts l s t <;> rw [h] at this <;> simp at this
    rw [HR.out, hp]; simp
  clear HR HPa
  go_wp2_with fail
  obtain ⟨Y, hY⟩ : ∃ Y, Y = w4.drew := ⟨_, rfl⟩
  have HBY : Hid (Below X.heap.size X Y) := by rw [hY]; exact HB4.out.drew
  have HRY : Hid (Res4 Y (w.heap.size + 1)) := HRX.out.below HBY.out
  have HS0 : Hid (Y.rangeAt w1.heap.size 0 C.toList ∧ Y.cell? ⟨w1.heap.size + 1, 0, none⟩ = some (.int .u8 x.tag) ∧ Y.cell? ⟨w1.heap.size + 1, 1, none⟩ = some (.int .u64 x.rest) ∧ Y.cell? ⟨w2.heap.size, 0, none⟩ = some (.int .i64 m.ver) ∧ Y.cell? ⟨w2.heap.size, 1, none⟩ = some (.int .u8 m.value.tag) ∧ Y.cell? ⟨w2.heap.size, 2, none⟩ = some (.int .u64 m.value.rest)) := ⟨range_below (range_below HGV.out.1 HBX.out) HBY.out, cell_keep HBY.out HxX.out.1, cell_keep HBY.out HxX.out.2, cell_keep HBY.out HmX.out.1, cell_keep HBY.out HmX.out.2.1, cell_keep HBY.out HmX.out.2.2⟩
  have HTY : Hid (Y.there (w.heap.size + 1) 0 C.size) := by rw [hCs]; exact HRY.out.g
  have HBYw : Hid (Below w.heap.size w Y) := HBXw.out.trans (HBY.out.mono HBXw.out.size)
  have hCl : C.toList.length = 301 := by rw [Array.length_toList, hCs]
  have hbX : b < X.heap.size := by have := HAns.out.2.2.2.2; omega
  have HMY : Hid (Y.heap[b]? = w1.heap[b]?) := by show Y.heap[b]? = _; rw [HBY.out.block b hbX, HBX.out.block b (by have := HAns.out.2.2.2.2; omega), HMV.out b HAns.out.2.2.2.2]
  refine wp_region_held (S := fun u => u.rangeAt w1.heap.size 0 C.toList ∧ u.cell? ⟨w1.heap.size + 1, 0, none⟩ = some (.int .u8 x.tag) ∧ u.cell? ⟨w1.heap.size + 1, 1, none⟩ = some (.int .u64 x.rest) ∧ u.cell? ⟨w2.heap.size, 0, none⟩ = some (.int .i64 m.ver) ∧ u.cell? ⟨w2.heap.size, 1, none⟩ = some (.int .u8 m.value.tag) ∧ u.cell? ⟨w2.heap.size, 2, none⟩ = some (.int .u64 m.value.rest)) (by kernel_rfl) ?_
  rw [show ({ w4 with drawn := w4.drawn + 1 } : World) = Y from hY.symm]
  clear hY
  refine wpAnyH_take (i := 0) (v := .agg C) (by rfl) (by kernel_rfl) (by kernel_rfl) (by kernel_rfl) (by intro _ _ _ h; exact h) (yieldsIf_load_mid (by rfl) 79 _ rfl w1.heap.size 0 rfl C.toList _ (fun u hu => hu.1) Try.underlying79 rfl (by rw [infoGl, hCl])) HS0.out ?_
  try simp only [Act.put]
  try simp only [List.setIfInBounds_toArray]
  try simp only [List.set_cons_zero, List.set_cons_succ]
  refine wpAnyH_take (i := 1) (v := x.val) (by rfl) (by kernel_rfl) (by kernel_rfl) (by kernel_rfl) (by intro _ _ _ h; exact h) (yieldsIf_load_mid (by rfl) 74 _ rfl (w1.heap.size + 1) 0 rfl [.int .u8 x.tag, .int .u64 x.rest] _ (fun u hu j v hv => by
    match j, hv with
    | 0, hv => simp at hv; subst hv; simpa using hu.2.1
    | 1, hv => simp at hv; subst hv; simpa using hu.2.2.1) Try.underlying74 rfl (by rw [infoWd]; rfl)) HS0.out ?_
  try simp only [Act.put]
  try simp only [List.setIfInBounds_toArray]
  try simp only [List.set_cons_zero, List.set_cons_succ]
  refine wpAnyH_take (i := 2) (v := m.val) (by rfl) (by kernel_rfl) (by kernel_rfl) (by kernel_rfl) (by intro _ _ _ h; exact h) (yieldsIf_load_mid (by rfl) 97 _ rfl w2.heap.size 0 rfl [.int .i64 m.ver, .int .u8 m.value.tag, .int .u64 m.value.rest] _ (fun u hu j v hv => by
    match j, hv with
    | 0, hv => simp at hv; subst hv; simpa using hu.2.2.2.1
    | 1, hv => simp at hv; subst hv; simpa using hu.2.2.2.2.1
    | 2, hv => simp at hv; subst hv; simpa using hu.2.2.2.2.2) Try.underlying97 rfl (by rw [infoMy]; rfl)) HS0.out ?_
  try simp only [Act.put]
  try simp only [List.setIfInBounds_toArray]
  try simp only [List.set_cons_zero, List.set_cons_succ]
  refine wpAnyH_all (rs := [3]) (by kernel_rfl) (by simp) ?_
  intro i hi
  obtain rfl : i = 3 := by simpa using hi
  refine wpOp_step (by rfl) (fun K' hK => ?_)
  rw [if_pos (by rfl)]
  refine wp_store_mid 79 _ _ rfl (w.heap.size + 1) 0 C rfl rfl HTY.out (by rw [infoGl, hCs]) HCa.out ?_
  obtain ⟨P1, hP1⟩ : ∃ P, P = Y.setCells (w.heap.size + 1) 0 C.toList := ⟨_, rfl⟩
  have HS1 : Hid (P1.rangeAt w1.heap.size 0 C.toList ∧ P1.cell? ⟨w1.heap.size + 1, 0, none⟩ = some (.int .u8 x.tag) ∧ P1.cell? ⟨w1.heap.size + 1, 1, none⟩ = some (.int .u64 x.rest) ∧ P1.cell? ⟨w2.heap.size, 0, none⟩ = some (.int .i64 m.ver) ∧ P1.cell? ⟨w2.heap.size, 1, none⟩ = some (.int .u8 m.value.tag) ∧ P1.cell? ⟨w2.heap.size, 2, none⟩ = some (.int .u64 m.value.rest)) := by
    rw [hP1]
    exact ⟨World.rangeAt_setCells_apart HS0.out.1 _ _ _ (Or.inl (by omega)), by rw [cell_setCells (by omega)]; exact HS0.out.2.1, by rw [cell_setCells (by omega)]; exact HS0.out.2.2.1, by rw [cell_setCells (by omega)]; exact HS0.out.2.2.2.1, by rw [cell_setCells (by omega)]; exact HS0.out.2.2.2.2.1, by rw [cell_setCells (by omega)]; exact HS0.out.2.2.2.2.2⟩
  have HR1 : Hid (Res4 P1 (w.heap.size + 1)) := by rw [hP1]; exact HRY.out.store _
  have HG1 : Hid (P1.rangeAt (w.heap.size + 1) 0 C.toList) := by rw [hP1]; exact World.rangeAt_setCells_same _ _ _ _ (by rw [Array.length_toList]; exact HTY.out)
  have HB1' : Hid (Below w.heap.size w P1) := by rw [hP1]; exact below_setCells HBYw.out (by omega) _ _
  have HM1 : Hid (P1.heap[b]? = w1.heap[b]?) := by show P1.heap[b]? = _; rw [hP1, heap_setCells (by have := HAns.out.2.2.2.1; omega)]; exact HMY.out
  rw [← hP1]
  refine hK _ _ ⟨HS1.out, ?_⟩
  clear hK hP1
  refine wpAnyH_all (rs := [4]) (by kernel_rfl) (by simp) ?_
  intro i hi
  obtain rfl : i = 4 := by simpa using hi
  refine wpOp_step (by rfl) (fun K' hK => ?_)
  rw [if_pos (by rfl)]
  have HT2 : Hid (P1.there (w.heap.size + 2) 0 2) := fun j hj => by
    rw [Nat.zero_add]
    refine ⟨?_, HR1.out.xf j⟩
    rcases (by omega : j = 0 ∨ j = 1) with rfl | rfl
    · rw [show P1.cell? ⟨w.heap.size + 2, 0, none⟩ = _ from HR1.out.x0]; rfl
    · rw [show P1.cell? ⟨w.heap.size + 2, 1, none⟩ = _ from HR1.out.x1]; rfl
  refine wp_store_mid 74 _ _ rfl (w.heap.size + 2) 0 #[.int .u8 x.tag, .int .u64 x.rest] rfl rfl HT2.out (by rw [infoWd]; rfl) (all_oneCell_toArray (cs := [.int .u8 x.tag, .int .u64 x.rest]) (fun v hv => by simp at hv; rcases hv with rfl | rfl <;> rfl)) ?_
  obtain ⟨P2, hP2⟩ : ∃ P, P = P1.setCells (w.heap.size + 2) 0 #[.int .u8 x.tag, .int .u64 x.rest].toList := ⟨_, rfl⟩
  have HS2 : Hid (P2.rangeAt w1.heap.size 0 C.toList ∧ P2.cell? ⟨w1.heap.size + 1, 0, none⟩ = some (.int .u8 x.tag) ∧ P2.cell? ⟨w1.heap.size + 1, 1, none⟩ = some (.int .u64 x.rest) ∧ P2.cell? ⟨w2.heap.size, 0, none⟩ = some (.int .i64 m.ver) ∧ P2.cell? ⟨w2.heap.size, 1, none⟩ = some (.int .u8 m.value.tag) ∧ P2.cell? ⟨w2.heap.size, 2, none⟩ = some (.int .u64 m.value.rest)) := by
    rw [hP2]
    exact ⟨World.rangeAt_setCells_apart HS1.out.1 _ _ _ (Or.inl (by omega)), by rw [cell_setCells (by omega)]; exact HS1.out.2.1, by rw [cell_setCells (by omega)]; exact HS1.out.2.2.1, by rw [cell_setCells (by omega)]; exact HS1.out.2.2.2.1, by rw [cell_setCells (by omega)]; exact HS1.out.2.2.2.2.1, by rw [cell_setCells (by omega)]; exact HS1.out.2.2.2.2.2⟩
  have HG2 : Hid (P2.rangeAt (w.heap.size + 1) 0 C.toList) := by rw [hP2]; exact World.rangeAt_setCells_apart HG1.out _ _ _ (Or.inl (by omega))
  have HX2 : Hid (P2.rangeAt (w.heap.size + 2) 0 [.int .u8 x.tag, .int .u64 x.rest]) := by rw [hP2]; exact World.rangeAt_setCells_same _ _ _ _ HT2.out
  have HT3 : Hid (P2.there (w.heap.size + 3) 0 3) := fun j hj => by
    rw [hP2, cell_setCells (by omega), World.frozen?_setCells, Nat.zero_add]
    refine ⟨?_, HR1.out.mf j⟩
    rcases (by omega : j = 0 ∨ j = 1 ∨ j = 2) with rfl | rfl | rfl
    · rw [show P1.cell? ⟨w.heap.size + 3, 0, none⟩ = _ from HR1.out.m0]; rfl
    · rw [show P1.cell? ⟨w.heap.size + 3, 1, none⟩ = _ from HR1.out.m1]; rfl
    · rw [show P1.cell? ⟨w.heap.size + 3, 2, none⟩ = _ from HR1.out.m2]; rfl
  have HB2' : Hid (Below w.heap.size w P2) := by rw [hP2]; exact below_setCells HB1'.out (by omega) _ _
  have HM2 : Hid (P2.heap[b]? = w1.heap[b]?) := by show P2.heap[b]? = _; rw [hP2, heap_setCells (by have := HAns.out.2.2.2.1; omega)]; exact HM1.out
  rw [← hP2]
  refine hK _ _ ⟨HS2.out, ?_⟩
  clear hK hP2
  refine wpAnyH_all (rs := [5]) (by kernel_rfl) (by simp) ?_
  intro i hi
  obtain rfl : i = 5 := by simpa using hi
  refine wpOp_step (by rfl) (fun K' hK => ?_)
  rw [if_pos (by rfl)]
  refine wp_store_mid 97 _ _ rfl (w.heap.size + 3) 0 #[.int .i64 m.ver, .int .u8 m.value.tag, .int .u64 m.value.rest] rfl rfl HT3.out (by rw [infoMy]; rfl) (all_oneCell_toArray (cs := [.int .i64 m.ver, .int .u8 m.value.tag, .int .u64 m.value.rest]) (fun v hv => by simp at hv; rcases hv with rfl | rfl | rfl <;> rfl)) ?_
  obtain ⟨P3, hP3⟩ : ∃ P, P = P2.setCells (w.heap.size + 3) 0 #[.int .i64 m.ver, .int .u8 m.value.tag, .int .u64 m.value.rest].toList := ⟨_, rfl⟩
  have HS3 : Hid (P3.rangeAt w1.heap.size 0 C.toList ∧ P3.cell? ⟨w1.heap.size + 1, 0, none⟩ = some (.int .u8 x.tag) ∧ P3.cell? ⟨w1.heap.size + 1, 1, none⟩ = some (.int .u64 x.rest) ∧ P3.cell? ⟨w2.heap.size, 0, none⟩ = some (.int .i64 m.ver) ∧ P3.cell? ⟨w2.heap.size, 1, none⟩ = some (.int .u8 m.value.tag) ∧ P3.cell? ⟨w2.heap.size, 2, none⟩ = some (.int .u64 m.value.rest)) := by
    rw [hP3]
    exact ⟨World.rangeAt_setCells_apart HS2.out.1 _ _ _ (Or.inl (by omega)), by rw [cell_setCells (by omega)]; exact HS2.out.2.1, by rw [cell_setCells (by omega)]; exact HS2.out.2.2.1, by rw [cell_setCells (by omega)]; exact HS2.out.2.2.2.1, by rw [cell_setCells (by omega)]; exact HS2.out.2.2.2.2.1, by rw [cell_setCells (by omega)]; exact HS2.out.2.2.2.2.2⟩
  have HG3 : Hid (P3.rangeAt (w.heap.size + 1) 0 C.toList) := by rw [hP3]; exact World.rangeAt_setCells_apart HG2.out _ _ _ (Or.inl (by omega))
  have HX3 : Hid (P3.rangeAt (w.heap.size + 2) 0 [.int .u8 x.tag, .int .u64 x.rest]) := by rw [hP3]; exact World.rangeAt_setCells_apart HX2.out _ _ _ (Or.inl (by omega))
  have HY3 : Hid (P3.rangeAt (w.heap.size + 3) 0 [.int .i64 m.ver, .int .u8 m.value.tag, .int .u64 m.value.rest]) := by rw [hP3]; exact World.rangeAt_setCells_same _ _ _ _ HT3.out
  have HB3' : Hid (Below w.heap.size w P3) := by rw [hP3]; exact below_setCells HB2'.out (by omega) _ _
  have HM3 : Hid (P3.heap[b]? = w1.heap[b]?) := by show P3.heap[b]? = _; rw [hP3, heap_setCells (by have := HAns.out.2.2.2.1; omega)]; exact HM2.out
  rw [← hP3]
  refine hK _ _ ⟨HS3.out, ?_⟩
  clear hK hP3
  refine wpAnyH_all (rs := [6]) (by kernel_rfl) (by simp) ?_
  intro i hi
  obtain rfl : i = 6 := by simpa using hi
  refine wpOp_step (by rfl) (fun K' hK => ?_)
  rw [if_pos (by rfl)]
  replace hK : Shut (∀ a w, _ → K' a w) := hK
  go_simp
  refine hK.out _ _ ⟨HS3.out, ?_⟩
  clear hK
  refine wpAnyH_done (by kernel_rfl) ?_ _
  go_wp2
  refine bodyPost_ret (v := .tuple #[.agg C, x.val, m.val, .int .i64 0]) ?_ rfl ⟨C, x, m, by rw [HE.out], hCs, HCa.out, fun _ => ⟨HXs.out, HMt.out, b, by have := HAns.out.2.2.2.1; omega, HAns.out.1, HAns.out.2.1.keep HM3.out, HAns.out.2.2.1⟩, HB3'.out⟩
  rw [results_ccct rfl]
  simp only [Array.getD_eq_getD_getElem?, List.getElem?_toArray, List.getElem?_cons_succ, List.getElem?_cons_zero, Option.getD_some, asAddr, Sem.run_pure, Result.andThen_ok]
  rw [loadGl _ _ C.toList hCl HG3.out]
  simp only [Result.andThen_ok, Array.toArray_toList]
  rw [ldWd _ (w.heap.size + 2) x (HX3.out 0 _ rfl) (HX3.out 1 _ rfl)]
  simp only [Result.andThen_ok]
  rw [ldMy _ (w.heap.size + 3) m (HY3.out 0 _ rfl) (HY3.out 1 _ rfl) (HY3.out 2 _ rfl)]
  rfl
end Go.Proofs.Ytgfienijabkpjaa
/-
  The program's fetch; nothing that was there is turned.
-/
namespace Go.Proofs.Ytgfienijabkpjaa
open Go.RowKit Go.Extern.Stop Go.Stop Go.Extern Num Go.Lib

set_option maxRecDepth 100000 in
set_option maxHeartbeats 2000000 in
theorem fetch_any (h : Nat) (x : Wd) (m : Mry) (r : Rw) (ok : Bool) (w : World)
    (hfd : ∀ u, Below w.heap.size w u → Calls Try.prog 46 #[.pointer (some ⟨h, 0, none⟩), x.val] u fun e w' => e = .returned (.tuple #[r.val, .bool ok]) ∧ Below u.heap.size u w') :
    Calls Try.prog 53 #[.pointer (some ⟨h, 0, none⟩), x.val, m.val] w fun e w' => e = .returned (if ok = true then (if m.ver = r.ver then .tuple #[m.val, .bool true, .int .i64 0] else .tuple #[Mry.val ⟨r.ver, r.value⟩, .bool false, .int .i64 0]) else .tuple #[Mry.val ⟨0, ⟨0, 0⟩⟩, .bool false, .int .i64 4]) ∧ Below w.heap.size w w' := by
  have HFd : Hid (∀ u, Below w.heap.size w u → Calls Try.prog 46 #[.pointer (some ⟨h, 0, none⟩), x.val] u fun e w' => e = .returned (.tuple #[r.val, .bool ok]) ∧ Below u.heap.size u w') := hfd
  clear hfd
  obtain ⟨W, hW⟩ : ∃ W, W = ((w.alloc (.cells #[.int .u8 x.tag, .int .u64 x.rest] 74)).alloc (.cells #[.int .i64 m.ver, .int .u8 m.value.tag, .int .u64 m.value.rest] 97)).alloc (.cells #[.int .i64 0, .int .u8 0, .int .u64 0] 97) := ⟨_, rfl⟩
  have HW : Hid (W = ((w.alloc (.cells #[.int .u8 x.tag, .int .u64 x.rest] 74)).alloc (.cells #[.int .i64 m.ver, .int .u8 m.value.tag, .int .u64 m.value.rest] 97)).alloc (.cells #[.int .i64 0, .int .u8 0, .int .u64 0] 97)) := hW
  have HBW : Hid (Below w.heap.size w W) := by rw [hW]; exact (((Below.refl _ _).alloc (Nat.le_refl _) _).alloc (by simp) _).alloc (by simp <;> omega) _
  have zW : W.heap.size = w.heap.size + 3 := by rw [hW]; simp
  have HM : Hid (∀ (o : Nat) (v : Value), [Value.int .i64 m.ver, .int .u8 m.value.tag, .int .u64 m.value.rest][o]? = some v → W.cell? ⟨w.heap.size + 1, o, none⟩ = some v) := fun o v h => by
    rw [hW, World.cell?_alloc_past _ _ _ (by simp), World.cell?_alloc_at _ _ _ _ (by simp)]; simpa using h
  have HZ : Hid (∀ (o : Nat) (v : Value), [Value.int .i64 0, .int .u8 0, .int .u64 0][o]? = some v → W.cell? ⟨w.heap.size + 1 + 1, o, none⟩ = some v) := fun o v h => by
    rw [hW, World.cell?_alloc_at _ _ _ _ (by simp)]; simpa using h
  have HZf : Hid (∀ o, W.frozen? ⟨w.heap.size + 1 + 1, o, none⟩ = false) := fun o => by rw [hW, World.frozen?_alloc_at _ _ _ _ (by simp)]
  clear hW
  go_enter Try.func53, Try.ntmps53
  go_wp2_with fail
  rw [← HW.out]
  refine (HFd.out _ HBW.out).mono ?_
  rintro e w1 ⟨rfl, b1⟩
  have m0 := cell_keep b1 (HM.out 0 _ rfl)
  have m1 := cell_keep b1 (HM.out 1 _ rfl)
  have m2 := cell_keep b1 (HM.out 2 _ rfl)
  have q0 := cell_keep b1 (HZ.out 0 _ rfl)
  have q1 := cell_keep b1 (HZ.out 1 _ rfl)
  have q2 := cell_keep b1 (HZ.out 2 _ rfl)
  have qf : ∀ o, w1.frozen? ⟨w.heap.size + 1 + 1, o, none⟩ = false := fun o => by rw [(bcell b1).2 _ _ (by omega)]; exact HZf.out o
  have z1 : w.heap.size + 1 + 1 < w1.heap.size := by have := b1.size; omega
  have z1a : w.heap.size + 1 < w1.heap.size := by omega
  have B1 : Hid (Below w.heap.size w w1) := HBW.out.trans (b1.mono HBW.out.size)
  clear b1
  cases ok
  case false =>
    go_wp2
    exact bodyPost_ret (v := .tuple #[Mry.val ⟨0, ⟨0, 0⟩⟩, .bool false, .int .i64 4]) (by simp [results, Try.results53, go_sem, q0, q1, q2, z1]) rfl ⟨by simp, by repeat (first | refine Below.setCell ?_ (by simp <;> omega) _ | refine Below.alloc ?_ (by have := B1.out.size; simp <;> omega) _ | exact B1.out)⟩
  by_cases he : m.ver = r.ver
  · have he' : (m.ver == r.ver) = true := by simpa using he
    have HT : Hid ((if (true : Bool) = true then (if m.ver = r.ver then Value.tuple #[m.val, .bool true, .int .i64 0] else .tuple #[Mry.val ⟨r.ver, r.value⟩, .bool false, .int .i64 0]) else .tuple #[Mry.val ⟨0, ⟨0, 0⟩⟩, .bool false, .int .i64 4]) = .tuple #[m.val, .bool true, .int .i64 0]) := by show _ = _; rw [if_pos rfl, if_pos he]
    obtain ⟨rn, rv, rver⟩ := r
    obtain ⟨mv, mw⟩ := m
    simp only at he
    subst he
    clear he'
    go_wp2
    exact bodyPost_ret (v := .tuple #[Mry.val ⟨mv, mw⟩, .bool true, .int .i64 0]) (by simp [results, Try.results53, go_sem, q0, q1, q2, z1]) rfl ⟨by first | rfl | rw [HT.out], by repeat (first | refine Below.setCell ?_ (by simp <;> omega) _ | refine Below.alloc ?_ (by have := B1.out.size; simp <;> omega) _ | exact B1.out)⟩
  · have he' : (m.ver == r.ver) = false := by simpa using he
    have HT : Hid (¬ m.ver = r.ver) := he
    clear he
    go_wp2
    exact bodyPost_ret (v := .tuple #[Mry.val ⟨r.ver, r.value⟩, .bool false, .int .i64 0]) (by simp [results, Try.results53, go_sem, q0, q1, q2, z1]) rfl ⟨by simp, by repeat (first | refine Below.setCell ?_ (by simp <;> omega) _ | refine Below.alloc ?_ (by have := B1.out.size; simp <;> omega) _ | exact B1.out)⟩
end Go.Proofs.Ytgfienijabkpjaa
/-
  What FetchSite answers, in plain words; the program's FetchSite; nothing that was there is turned.
-/
namespace Go.Proofs.Ytgfienijabkpjaa
open Go.RowKit Go.Extern.Stop Go.Stop Go.Extern Num Go.Lib

set_option maxRecDepth 100000 in
set_option maxHeartbeats 8000000 in
theorem implFS_any (ao : Option Addr) (cap g : Nat) (l : List Glb) (s : ByteArray) (t : Ste) (w : World) (hl : l.length ≤ 1048576) (hao : 0 < l.length → ao = some ⟨g, 0, none⟩) (hr : RowG w g l) (hz : ableG l) (hs : s.size ≤ 9223372036854775807) (ht : t.value.name.size ≤ 9223372036854775807) :
    Calls Try.prog 17 #[.slice ao l.length cap, .string s, t.val] w fun e w' => e = .returned (FR (outFS l s t)) ∧ Below w.heap.size w w' := by
  obtain ⟨c, hc⟩ : ∃ c, c = codeSF l s t := ⟨_, rfl⟩
  obtain ⟨W, hW⟩ : ∃ W, W = (w.alloc (.cells #[.int .i64 t.ver, .int .i64 t.value.kind, .int .i64 t.value.num, .string t.value.name] 39)).alloc (.cells #[.int .i64 0, .bool false, .int .i64 0, .int .i64 0, .string ⟨#[]⟩, .int .i64 0, .int .i64 0, .int .i64 0, .string ⟨#[]⟩] 43) := ⟨_, rfl⟩
  have HW : Hid (W = (w.alloc (.cells #[.int .i64 t.ver, .int .i64 t.value.kind, .int .i64 t.value.num, .string t.value.name] 39)).alloc (.cells #[.int .i64 0, .bool false, .int .i64 0, .int .i64 0, .string ⟨#[]⟩, .int .i64 0, .int .i64 0, .int .i64 0, .string ⟨#[]⟩] 43)) := hW
  have HBW : Hid (Below w.heap.size w W) := by rw [hW]; exact ((Below.refl _ _).alloc (Nat.le_refl _) _).alloc (by simp) _
  have zW : W.heap.size = w.heap.size + 2 := by rw [hW]; simp
  have HZ : Hid (Fr9 W (w.heap.size + 1)) := by
    rw [hW]
    exact ⟨fun o v h => by rw [World.cell?_alloc_at _ _ _ _ (by simp)]; simpa using h, fun o => by rw [World.frozen?_alloc_at _ _ _ _ (by simp)]⟩
  have HC : Hid (Calls Try.prog 52 #[.slice ao l.length cap, .string s, t.val] W fun e w' => AnsGt W l s t c e w') := by rw [hc]; exact globalsAt_any ao cap g l s t W hl hao (hr.below HBW.out) hz hs ht
  obtain ⟨R, hR⟩ : ∃ R, R = outFS l s t := ⟨_, rfl⟩
  have HR : Hid (R = outFS l s t ∧ c = codeSF l s t) := ⟨hR, hc⟩
  rw [← hR]
  clear hW hc hR hl hao hr hz hs ht
  go_enter Try.func17, Try.ntmps17
  go_wp2_with fail
  rw [← HW.out]
  refine HC.out.mono ?_
  rintro e w1 ⟨C, x, m, rfl, hCs, hCa, hC0, hb⟩
  have HC0 : Hid (c = 0 → x = nW s ∧ m = mryOf t ∧ ∃ b, W.heap.size ≤ b ∧ GlC C.toList b (l.map rwOf) ∧ MapW w1 b ((l.map rwOf).map Rw.name) ∧ ((l.map rwOf).map Rw.name).Nodup) := hC0
  have HB1 : Hid (Below W.heap.size W w1) := hb
  have z1 : w.heap.size + 1 < w1.heap.size := by have := hb.size; omega
  have HT : Hid ((((w1.alloc (.cells Try.zeroCells79 79)).alloc (.cells #[.int .u8 0, .int .u64 0] 74)).alloc (.cells #[.int .i64 0, .int .u8 0, .int .u64 0] 97)).there w1.heap.size 0 C.size) := by rw [hCs]; exact World.there_alloc (World.there_alloc (there_new w1 _ _ (by simp)) _) _
  have HCa : Hid (C.all (·.oneCell') = true) := hCa
  obtain ⟨U, hU⟩ : ∃ U, U = (((w1.alloc (.cells Try.zeroCells79 79)).alloc (.cells #[.int .u8 0, .int .u64 0] 74)).alloc (.cells #[.int .i64 0, .int .u8 0, .int .u64 0] 97)).setCells w1.heap.size 0 C.toList := ⟨_, rfl⟩
  have HU : Hid (U = (((w1.alloc (.cells Try.zeroCells79 79)).alloc (.cells #[.int .u8 0, .int .u64 0] 74)).alloc (.cells #[.int .i64 0, .int .u8 0, .int .u64 0] 97)).setCells w1.heap.size 0 C.toList) := hU
  have HBU : Hid (Below w1.heap.size w1 U) := by rw [hU]; exact below_setCells ((((Below.refl _ _).alloc (Nat.le_refl _) _).alloc (by simp) _).alloc (by simp <;> omega) _) (Nat.le_refl _) _ _
  have HRU : Hid (U.rangeAt w1.heap.size 0 C.toList ∧ ∀ j, U.frozen? ⟨w1.heap.size, j, none⟩ = false) := by
    rw [hU]
    refine ⟨World.rangeAt_setCells_same _ _ _ _ (by rw [Array.length_toList]; exact HT.out), fun j => ?_⟩
    rw [World.frozen?_setCells, World.frozen?_alloc_past _ _ _ (by simp; omega), World.frozen?_alloc_past _ _ _ (by simp), World.frozen?_alloc_at _ _ _ _ rfl]
  have u0 : U.cell? ⟨w1.heap.size + 1, 0, none⟩ = some (.int .u8 0) := by rw [hU, cell_setCells (by omega), World.cell?_alloc_past _ _ _ (by simp), World.cell?_alloc_at _ _ _ _ (by simp)]; rfl
  have u1 : U.cell? ⟨w1.heap.size + 1, 1, none⟩ = some (.int .u64 0) := by rw [hU, cell_setCells (by omega), World.cell?_alloc_past _ _ _ (by simp), World.cell?_alloc_at _ _ _ _ (by simp)]; rfl
  have uf : ∀ o, U.frozen? ⟨w1.heap.size + 1, o, none⟩ = false := fun o => by rw [hU, World.frozen?_setCells, World.frozen?_alloc_past _ _ _ (by simp), World.frozen?_alloc_at _ _ _ _ (by simp)]
  have v0 : U.cell? ⟨w1.heap.size + 1 + 1, 0, none⟩ = some (.int .i64 0) := by rw [hU, cell_setCells (by omega), World.cell?_alloc_at _ _ _ _ (by simp)]; rfl
  have v1 : U.cell? ⟨w1.heap.size + 1 + 1, 1, none⟩ = some (.int .u8 0) := by rw [hU, cell_setCells (by omega), World.cell?_alloc_at _ _ _ _ (by simp)]; rfl
  have v2 : U.cell? ⟨w1.heap.size + 1 + 1, 2, none⟩ = some (.int .u64 0) := by rw [hU, cell_setCells (by omega), World.cell?_alloc_at _ _ _ _ (by simp)]; rfl
  have vf : ∀ o, U.frozen? ⟨w1.heap.size + 1 + 1, o, none⟩ = false := fun o => by rw [hU, World.frozen?_setCells, World.frozen?_alloc_at _ _ _ _ (by simp)]
  have zU : w1.heap.size + 1 + 1 < U.heap.size := lt_of_cell v0
  obtain ⟨V, hV⟩ : ∃ V, V = ((((U.setCell ⟨w1.heap.size + 1, 0, none⟩ (.int .u8 x.tag)).setCell ⟨w1.heap.size + 1, 1, none⟩ (.int .u64 x.rest)).setCell ⟨w1.heap.size + 1 + 1, 0, none⟩ (.int .i64 m.ver)).setCell ⟨w1.heap.size + 1 + 1, 1, none⟩ (.int .u8 m.value.tag)).setCell ⟨w1.heap.size + 1 + 1, 2, none⟩ (.int .u64 m.value.rest) := ⟨_, rfl⟩
  have HV : Hid (V = ((((U.setCell ⟨w1.heap.size + 1, 0, none⟩ (.int .u8 x.tag)).setCell ⟨w1.heap.size + 1, 1, none⟩ (.int .u64 x.rest)).setCell ⟨w1.heap.size + 1 + 1, 0, none⟩ (.int .i64 m.ver)).setCell ⟨w1.heap.size + 1 + 1, 1, none⟩ (.int .u8 m.value.tag)).setCell ⟨w1.heap.size + 1 + 1, 2, none⟩ (.int .u64 m.value.rest)) := hV
  have zV : V.heap.size = U.heap.size := by rw [hV]; simp
  have HBVw : Hid (Below W.heap.size W V) := by
    rw [hV]
    have b0 : Below W.heap.size W U := HB1.out.trans (HBU.out.mono HB1.out.size)
    repeat (first | refine Below.setCell ?_ (by have := HB1.out.size; simp <;> omega) _ | exact b0)
  have HZV : Hid (Fr9 V (w.heap.size + 1)) := HZ.out.below HBVw.out (by omega)
  have HBV : Hid (Below w.heap.size w V) := HBW.out.trans (HBVw.out.mono HBW.out.size)
  have HGV : Hid (V.rangeAt w1.heap.size 0 C.toList ∧ ∀ j, V.frozen? ⟨w1.heap.size, j, none⟩ = false) := by
    rw [hV]
    exact ⟨range_other (range_other (range_other (range_other (range_other HRU.out.1 (by omega)) (by omega)) (by omega)) (by omega)) (by omega), fun j => by simp only [World.frozen?_setCell]; exact HRU.out.2 j⟩
  have HMV : Hid (∀ b, b < w1.heap.size → V.heap[b]? = w1.heap[b]?) := fun b hb => by
    have hs1 : ∀ (y : World) (o : Nat) (v : Value), (y.setCell ⟨w1.heap.size + 1, o, none⟩ v).heap[b]? = y.heap[b]? := fun y o v => RowKit.Below.heap_setCell _ _ _ _ (show b ≠ w1.heap.size + 1 by omega)
    have hs2 : ∀ (y : World) (o : Nat) (v : Value), (y.setCell ⟨w1.heap.size + 1 + 1, o, none⟩ v).heap[b]? = y.heap[b]? := fun y o v => RowKit.Below.heap_setCell _ _ _ _ (show b ≠ w1.heap.size + 1 + 1 by omega)
    rw [hV, hs2, hs2, hs2, hs1, hs1]
    exact HBU.out.block b hb
  clear hb hCa hU hV hC0 HRU HC
  by_cases h0 : c = 0
  case neg =>
    have HE : Hid (R = (c, false, vZ, 0)) := by show R = _; rw [HR.out.1, HR.out.2]; exact fs_bad (by rw [← HR.out.2]; exact h0)
    have h0' : (c != 0) = true := by simpa using h0
    have HTr : Hid (V.there (w.heap.size + 1) 0 9) := HZV.out.there
    have HTs : Hid (V.there (w.heap.size + 1) 0 (frL (c, false, vZ, 0)).toArray.size) := by rw [show (frL (c, false, vZ, 0)).toArray.size = 9 from rfl]; exact HTr.out
    clear HR h0 HC0 HZV HGV HMV HBU HB1
    go_wp2_with (first | (refine wpList_store_mid rfl 79 _ _ rfl w1.heap.size 0 C rfl rfl HT.out (by rw [infoGl, hCs]) HCa.out ?_; rw [← HU.out]; clear HT) | (refine wpList_store_mid rfl 43 _ _ rfl (w.heap.size + 1) 0 (frL (c, false, vZ, 0)).toArray rfl rfl (by rw [← HV.out]; exact HTs.out) (by rw [infoFr]; rfl) (frL_one _) ?_; rw [← HV.out]))
    exact bodyPost_ret (v := FR (c, false, vZ, 0)) (resFR rfl _ V (w.heap.size + 1) (c, false, vZ, 0) HTr.out rfl) rfl ⟨by rw [HE.out], below_setCells HBV.out (by omega) _ _⟩
  subst h0
  have HCZ : Hid (0 = codeSF l s t) := HR.out.2
  obtain ⟨hxs, hms, b, hbb, hGl, hMp, hNd⟩ := HC0.out (by first | rfl | trivial)
  have hask : askG l s = 0 := by
    have h := HCZ.out
    unfold codeSF at h
    by_cases h1 : askG l s = 0
    · exact h1
    · rw [if_pos h1] at h; exact h.symm
  have hmem : memC t = 0 := by
    have h := HCZ.out
    unfold codeSF at h
    rw [if_neg (by simpa using hask)] at h
    by_cases h1 : memC t = 0
    · exact h1
    · rw [if_pos h1] at h; exact h.symm
  obtain ⟨_, hsy, _, hfine⟩ := ask_fine hask
  have HGX : Hid (∀ u, Below V.heap.size V u → GlAt u w1.heap.size b (l.map rwOf)) := fun u hu => by
    refine GlAt.below (w := V) ?_ hu
    have hbl : b < w1.heap.size := hMp.lt
    exact ⟨by omega, hMp.keep (HMV.out b hbl), hNd, HGV.out.2, C.toList, HGV.out.1, hGl⟩
  have HXs : Hid (x = nW s ∧ symL s.data.toList = true ∧ GFine l l.length ∧ m = mryOf t ∧ memC t = 0) := ⟨hxs, hsy, hfine, hms, hmem⟩
  clear hbb hGl hMp hNd hxs hms hsy hfine hask hmem HC0
  go_wp2_with (refine wpList_store_mid rfl 79 _ _ rfl w1.heap.size 0 C rfl rfl HT.out (by rw [infoGl, hCs]) HCa.out ?_; rw [← HU.out]; clear HT)
  rw [← HV.out]
  clear u0 u1 uf v0 v1 v2 vf HU HV HCa HBU HB1
  cases hat : atG l s with
  | none =>
    have HE : Hid (R = (4, false, vZ, 0)) := by show R = _; rw [HR.out.1]; exact fs_none HCZ.out.symm hat
    have HF : Hid (Calls Try.prog 53 #[.pointer (some ⟨w1.heap.size, 0, none⟩), x.val, m.val] V fun e w' => e = .returned (.tuple #[Mry.val ⟨0, ⟨0, 0⟩⟩, .bool false, .int .i64 4]) ∧ Below V.heap.size V w') := by
      have hm := names_miss l l.length s HXs.out.2.2.1 (Nat.le_refl _) HXs.out.2.1 (by rw [List.take_length]; exact hat)
      rw [List.take_length] at hm
      exact fetch_any w1.heap.size x m rwZ false V (fun u hu => by
        rw [HXs.out.1]
        exact find_miss _ b (l.map rwOf) (nW s) u (HGX.out u hu) (nW_fit HXs.out.2.1) hm)
    clear hat HCZ HR HXs HGX
    refine HF.out.mono ?_
    rintro e w2 ⟨rfl, b2⟩
    have B2 : Hid (Below w.heap.size w w2) := HBV.out.trans (b2.mono HBV.out.size)
    have z2 : w.heap.size + 1 < w2.heap.size := by have := b2.size; omega
    have HTr : Hid (∀ o, (w2.alloc o).there (w.heap.size + 1) 0 9) := fun o => World.there_alloc (HZV.out.below b2 (by omega)).there o
    clear b2 HF
    go_wp2_with (refine wpList_store_mid rfl 43 _ _ rfl (w.heap.size + 1) 0 (frL (4, false, vZ, 0)).toArray rfl rfl (HTr.out _) (by rw [infoFr]; rfl) (frL_one _) ?_)
    exact bodyPost_ret (v := FR (4, false, vZ, 0)) (resFR rfl _ _ (w.heap.size + 1) (4, false, vZ, 0) (HTr.out _) rfl) rfl ⟨by rw [HE.out], below_setCells (B2.out.alloc (by omega) _) (by omega) _ _⟩
  | some k =>
    obtain ⟨hk, hnm, _⟩ := atG_some hat
    obtain ⟨hit, T, n, hR3, hv, hF⟩ : ∃ (hit : Bool) (v : Vlu) (n : Int), R = (0, hit, v, n) ∧ vfault v = 0 ∧ Calls Try.prog 53 #[.pointer (some ⟨w1.heap.size, 0, none⟩), x.val, m.val] V fun e w' => e = .returned (.tuple #[Mry.val ⟨n, wdOf v⟩, .bool hit, .int .i64 0]) ∧ Below V.heap.size V w' := by
      have hfs := fs_some HCZ.out.symm hat hk
      rw [← HR.out.1] at hfs
      have hf := fetch_any w1.heap.size x m (rwOf (l[k]'hk)) true V (fun u hu => by
        have h := find_hit _ b (l.map rwOf) k (by simpa using hk) u (HGX.out u hu)
        have e1 : (l.map rwOf)[k]'(by simpa using hk) = rwOf (l[k]'hk) := by rw [List.getElem_map]
        have e2 : (rwOf (l[k]'hk)).name = x := by rw [HXs.out.1]; show nW _ = nW s; rw [hnm]
        rw [e1, e2] at h
        exact h)
      rw [if_pos rfl] at hf
      have hkv := HXs.out.2.2.1.ver k hk hk
      by_cases he : (l[k]'hk).ver = t.ver
      · rw [if_pos he] at hfs
        have h0 : t.ver ≠ 0 := by omega
        have em : m = ⟨t.ver, wdOf t.value⟩ := by rw [HXs.out.2.2.2.1, mryOf, if_neg h0]
        have hvf : vfault t.value = 0 := by
          have h := HXs.out.2.2.2.2
          unfold memC at h
          rw [if_neg h0, if_pos (by omega)] at h
          exact h
        rw [if_pos (by rw [em]; exact he.symm)] at hf
        exact ⟨true, t.value, t.ver, hfs, hvf, by rw [em] at hf ⊢; exact hf⟩
      · rw [if_neg he] at hfs
        have hne : ¬ m.ver = (rwOf (l[k]'hk)).ver := by
          rw [HXs.out.2.2.2.1]
          unfold mryOf
          by_cases h0 : t.ver = 0
          · rw [if_pos h0]; show ¬ (0 : Int) = (l[k]'hk).ver; omega
          · rw [if_neg h0]; exact fun h => he h.symm
        rw [if_neg hne] at hf
        exact ⟨false, (l[k]'hk).value, (l[k]'hk).ver, hfs, HXs.out.2.2.1.val k hk hk, hf⟩
    have HE : Hid (R = (0, hit, T, n)) := hR3
    have HF : Hid (Calls Try.prog 53 #[.pointer (some ⟨w1.heap.size, 0, none⟩), x.val, m.val] V fun e w' => e = .returned (.tuple #[Mry.val ⟨n, wdOf T⟩, .bool hit, .int .i64 0]) ∧ Below V.heap.size V w') := hF
    have HVl : Hid (∀ u, Calls Try.prog 54 #[(wdOf T).val] u fun e w' => e = .returned T.val ∧ Below u.heap.size u w') := fun u => value_any T u hv
    obtain ⟨y, hy⟩ : ∃ y, y = wdOf T := ⟨_, rfl⟩
    rw [← hy] at HF HVl
    clear hat HCZ HR HXs HGX hk hnm hR3 hF hv hy
    refine HF.out.mono ?_
    rintro e w2 ⟨rfl, b2⟩
    have B2 : Hid (Below w.heap.size w w2) := HBV.out.trans (b2.mono HBV.out.size)
    have z2 : w.heap.size + 1 < w2.heap.size := by have := b2.size; omega
    obtain ⟨G2, hG2⟩ : ∃ G, G = w2.alloc (.cells #[.int .i64 n, .int .u8 y.tag, .int .u64 y.rest] 97) := ⟨_, rfl⟩
    have HG2 : Hid (G2 = w2.alloc (.cells #[.int .i64 n, .int .u8 y.tag, .int .u64 y.rest] 97)) := hG2
    have HBG : Hid (Below w2.heap.size w2 G2) := by rw [hG2]; exact (Below.refl _ _).alloc (Nat.le_refl _) _
    have HFr : Hid (Fr9 G2 (w.heap.size + 1)) := (HZV.out.below b2 (by omega)).below HBG.out (by omega)
    have HBGw : Hid (Below w.heap.size w G2) := B2.out.trans (HBG.out.mono B2.out.size)
    have HN2 : Hid (G2.cell? ⟨w2.heap.size, 0, none⟩ = some (.int .i64 n) ∧ G2.cell? ⟨w2.heap.size, 1, none⟩ = some (.int .u8 y.tag) ∧ G2.cell? ⟨w2.heap.size, 2, none⟩ = some (.int .u64 y.rest)) := by
      rw [hG2]
      exact ⟨by rw [World.cell?_alloc_at _ _ _ _ rfl]; rfl, by rw [World.cell?_alloc_at _ _ _ _ rfl]; rfl, by rw [World.cell?_alloc_at _ _ _ _ rfl]; rfl⟩
    have zG : w2.heap.size < G2.heap.size := lt_of_cell HN2.out.1
    clear b2 HF hG2 HZV HBV
    go_wp2_with fail
    rw [← HG2.out]
    refine wp_region_facts (by kernel_rfl) 11 (fun v' => Below G2.heap.size G2 v') (fun u v => Below u.heap.size u v) (fun i v u => match i with | 0 => (fun v' u => v' = .bool hit) v u | 1 => (fun v' u => v' = Value.pointer (some ⟨w2.heap.size, 1, none⟩)) v u | 2 => (fun v' u => v' = y.val) v u | 3 => (fun v' u => v' = T.val) v u | 4 => (fun v' u => v' = Value.pointer (some ⟨w2.heap.size, 0, none⟩)) v u | 5 => (fun v' u => v' = .int .i64 n) v u | 6 => (fun v' u => v' = Value.pointer (some ⟨w2.heap.size, 1, none⟩)) v u | 7 => (fun v' u => v' = y.val) v u | 8 => (fun v' u => v' = T.val) v u | 9 => (fun v' u => v' = .agg #[.int .i64 n, .int .i64 T.kind, .int .i64 T.num, .string T.name]) v u | 10 => (fun v' u => v' = FR (0, hit, T, n)) v u | _ => True) (by kernel_rfl) [0, 1, 2, 3, 4, 5, 6, 7, 8, 9, 10] (by kernel_rfl) ?b0 ?bk ?fk ⟨?s0, ?s1, ?s2, ?s3, ?s4, ?s5, ?s6, ?s7, ?s8, ?s9, ?s10, trivial⟩ _ rfl [(0, some 37), (1, some 38), (2, some 39), (3, some 40), (4, some 41), (5, some 42), (6, some 43), (7, some 44), (8, some 45), (9, some 46), (10, some 47)] (by kernel_rfl) ?last
    case b0 => exact Below.drew (Below.refl _ _)
    case bk => exact fun u v' h hb => h.trans (hb.mono h.size)
    case fk => intro i v u u' h hb; match i, h with | 0, h => exact (h) | 1, h => exact (h) | 2, h => exact (h) | 3, h => exact (h) | 4, h => exact (h) | 5, h => exact (h) | 6, h => exact (h) | 7, h => exact (h) | 8, h => exact (h) | 9, h => exact (h) | 10, h => exact (h) | _ + 11, _ => exact trivial
    case s0 =>
      refine StepF.of rfl [] (by kernel_rfl) ?_
      intro vs u hB hf K hK
      clear hf
      simp only [putsA, List.foldl_nil, Act.put, List.setIfInBounds_toArray] at hK ⊢
      rw [if_pos (by rfl)]
      go_simp
      exact hK.out _ _ (Below.refl _ _) rfl
    case s1 =>
      refine StepF.of rfl [] (by kernel_rfl) ?_
      intro vs u hB hf K hK
      clear hf
      simp only [putsA, List.foldl_nil, Act.put, List.setIfInBounds_toArray] at hK ⊢
      rw [if_pos (by rfl)]
      go_simp
      exact hK.out _ _ (Below.refl _ _) rfl
    case s2 =>
      refine StepF.of rfl [(1, some 38)] (by kernel_rfl) ?_
      intro vs u hB hf K hK
      have f1 : (fun v' u => v' = Value.pointer (some ⟨w2.heap.size, 1, none⟩)) (vs 1) u := hf.1
      clear hf
      simp only [putsA, List.foldl_cons, List.foldl_nil, Act.put, List.setIfInBounds_toArray, List.set_cons_zero, List.set_cons_succ] at hK ⊢
      generalize vs 1 = v1 at f1 hK ⊢
      rw [if_pos (by rfl)]
      subst f1
      have d0 := cell_keep hB HN2.out.2.1
      have d1 := cell_keep hB HN2.out.2.2
      go_simp
      exact hK.out _ _ (Below.refl _ _) rfl
    case s3 =>
      refine StepF.of rfl [(2, some 39)] (by kernel_rfl) ?_
      intro vs u hB hf K hK
      have f2 : (fun v' u => v' = y.val) (vs 2) u := hf.1
      clear hf
      simp only [putsA, List.foldl_cons, List.foldl_nil, Act.put, List.setIfInBounds_toArray, List.set_cons_zero, List.set_cons_succ] at hK ⊢
      generalize vs 2 = v2 at f2 hK ⊢
      rw [if_pos (by rfl)]
      subst f2
      go_simp
      refine (HVl.out _).mono ?_
      rintro e w4 ⟨rfl, b4⟩
      exact hK.out _ _ b4 rfl
    case s4 =>
      refine StepF.of rfl [] (by kernel_rfl) ?_
      intro vs u hB hf K hK
      clear hf
      simp only [putsA, List.foldl_nil, Act.put, List.setIfInBounds_toArray] at hK ⊢
      rw [if_pos (by rfl)]
      go_simp
      exact hK.out _ _ (Below.refl _ _) rfl
    case s5 =>
      refine StepF.of rfl [(4, some 41)] (by kernel_rfl) ?_
      intro vs u hB hf K hK
      have f4 : (fun v' u => v' = Value.pointer (some ⟨w2.heap.size, 0, none⟩)) (vs 4) u := hf.1
      clear hf
      simp only [putsA, List.foldl_cons, List.foldl_nil, Act.put, List.setIfInBounds_toArray, List.set_cons_zero, List.set_cons_succ] at hK ⊢
      generalize vs 4 = v4 at f4 hK ⊢
      rw [if_pos (by rfl)]
      subst f4
      have d0 := cell_keep hB HN2.out.1
      go_simp
      exact hK.out _ _ (Below.refl _ _) rfl
    case s6 =>
      refine StepF.of rfl [] (by kernel_rfl) ?_
      intro vs u hB hf K hK
      clear hf
      simp only [putsA, List.foldl_nil, Act.put, List.setIfInBounds_toArray] at hK ⊢
      rw [if_pos (by rfl)]
      go_simp
      exact hK.out _ _ (Below.refl _ _) rfl
    case s7 =>
      refine StepF.of rfl [(6, some 43)] (by kernel_rfl) ?_
      intro vs u hB hf K hK
      have f6 : (fun v' u => v' = Value.pointer (some ⟨w2.heap.size, 1, none⟩)) (vs 6) u := hf.1
      clear hf
      simp only [putsA, List.foldl_cons, List.foldl_nil, Act.put, List.setIfInBounds_toArray, List.set_cons_zero, List.set_cons_succ] at hK ⊢
      generalize vs 6 = v6 at f6 hK ⊢
      rw [if_pos (by rfl)]
      subst f6
      have d0 := cell_keep hB HN2.out.2.1
      have d1 := cell_keep hB HN2.out.2.2
      go_simp
      exact hK.out _ _ (Below.refl _ _) rfl
    case s8 =>
      refine StepF.of rfl [(3, some 40), (7, some 44)] (by kernel_rfl) ?_
      intro vs u hB hf K hK
      have f3 : (fun v' u => v' = T.val) (vs 3) u := hf.1
      have f7 : (fun v' u => v' = y.val) (vs 7) u := hf.2.1
      clear hf
      simp only [putsA, List.foldl_cons, List.foldl_nil, Act.put, List.setIfInBounds_toArray, List.set_cons_zero, List.set_cons_succ] at hK ⊢
      generalize vs 3 = v3 at f3 hK ⊢
      generalize vs 7 = v7 at f7 hK ⊢
      rw [if_pos (by rfl)]
      subst f7
      clear f3
      go_simp
      refine (HVl.out _).mono ?_
      rintro e w4 ⟨rfl, b4⟩
      exact hK.out _ _ b4 rfl
    case s9 =>
      refine StepF.of rfl [(5, some 42), (8, some 45)] (by kernel_rfl) ?_
      intro vs u hB hf K hK
      have f5 : (fun v' u => v' = .int .i64 n) (vs 5) u := hf.1
      have f8 : (fun v' u => v' = T.val) (vs 8) u := hf.2.1
      clear hf
      simp only [putsA, List.foldl_cons, List.foldl_nil, Act.put, List.setIfInBounds_toArray, List.set_cons_zero, List.set_cons_succ] at hK ⊢
      generalize vs 5 = v5 at f5 hK ⊢
      generalize vs 8 = v8 at f8 hK ⊢
      rw [if_pos (by rfl)]
      subst f5 f8
      go_simp
      exact hK.out _ _ (Below.refl _ _) rfl
    case s10 =>
      refine StepF.of rfl [(0, some 37), (3, some 40), (9, some 46)] (by kernel_rfl) ?_
      intro vs u hB hf K hK
      have f0 : (fun v' u => v' = .bool hit) (vs 0) u := hf.1
      have f3 : (fun v' u => v' = T.val) (vs 3) u := hf.2.1
      have f9 : (fun v' u => v' = .agg #[.int .i64 n, .int .i64 T.kind, .int .i64 T.num, .string T.name]) (vs 9) u := hf.2.2.1
      clear hf
      simp only [putsA, List.foldl_cons, List.foldl_nil, Act.put, List.setIfInBounds_toArray, List.set_cons_zero, List.set_cons_succ] at hK ⊢
      generalize vs 0 = v0 at f0 hK ⊢
      generalize vs 3 = v3 at f3 hK ⊢
      generalize vs 9 = v9 at f9 hK ⊢
      rw [if_pos (by rfl)]
      subst f0 f3 f9
      go_simp
      exact hK.out _ _ (Below.refl _ _) rfl
    case last =>
      intro vs u hB hf K hK
      have f0 : (fun v' u => v' = .bool hit) (vs 0) u := hf.1
      have f1 : (fun v' u => v' = Value.pointer (some ⟨w2.heap.size, 1, none⟩)) (vs 1) u := hf.2.1
      have f2 : (fun v' u => v' = y.val) (vs 2) u := hf.2.2.1
      have f3 : (fun v' u => v' = T.val) (vs 3) u := hf.2.2.2.1
      have f4 : (fun v' u => v' = Value.pointer (some ⟨w2.heap.size, 0, none⟩)) (vs 4) u := hf.2.2.2.2.1
      have f5 : (fun v' u => v' = .int .i64 n) (vs 5) u := hf.2.2.2.2.2.1
      have f6 : (fun v' u => v' = Value.pointer (some ⟨w2.heap.size, 1, none⟩)) (vs 6) u := hf.2.2.2.2.2.2.1
      have f7 : (fun v' u => v' = y.val) (vs 7) u := hf.2.2.2.2.2.2.2.1
      have f8 : (fun v' u => v' = T.val) (vs 8) u := hf.2.2.2.2.2.2.2.2.1
      have f9 : (fun v' u => v' = .agg #[.int .i64 n, .int .i64 T.kind, .int .i64 T.num, .string T.name]) (vs 9) u := hf.2.2.2.2.2.2.2.2.2.1
      have f10 : (fun v' u => v' = FR (0, hit, T, n)) (vs 10) u := hf.2.2.2.2.2.2.2.2.2.2.1
      clear hf
      simp only [putsA, List.foldl_cons, List.foldl_nil, Act.put, List.setIfInBounds_toArray, List.set_cons_zero, List.set_cons_succ]
      generalize vs 0 = v0 at f0 ⊢
      generalize vs 1 = v1 at f1 ⊢
      generalize vs 2 = v2 at f2 ⊢
      generalize vs 3 = v3 at f3 ⊢
      generalize vs 4 = v4 at f4 ⊢
      generalize vs 5 = v5 at f5 ⊢
      generalize vs 6 = v6 at f6 ⊢
      generalize vs 7 = v7 at f7 ⊢
      generalize vs 8 = v8 at f8 ⊢
      generalize vs 9 = v9 at f9 ⊢
      generalize vs 10 = v10 at f10 ⊢
      rw [if_pos (by rfl)]
      subst f10
      clear f0 f1 f2 f3 f4 f5 f6 f7 f8 f9
      have HTr : Hid (u.there (w.heap.size + 1) 0 9) := (HFr.out.below hB (by omega)).there
      have HBu : Hid (Below w.heap.size w u) := HBGw.out.trans (hB.mono HBGw.out.size)
      refine wp_store_mid 43 _ _ rfl (w.heap.size + 1) 0 (frL (0, hit, T, n)).toArray rfl rfl HTr.out (by rw [infoFr]; rfl) (frL_one _) ?_
      refine hK.out _ _ ?_
      clear hK
      go_wp2
      exact bodyPost_ret (v := FR (0, hit, T, n)) (resFR rfl _ u (w.heap.size + 1) (0, hit, T, n) HTr.out rfl) rfl ⟨by rw [HE.out], below_setCells HBu.out (by omega) _ _⟩
end Go.Proofs.Ytgfienijabkpjaa
/-
  The program's SiteFault; nothing that was there is turned.
-/
namespace Go.Proofs.Ytgfienijabkpjaa
open Go.RowKit Go.Extern.Stop Go.Stop Go.Extern Num Go.Lib

set_option maxRecDepth 100000 in
set_option maxHeartbeats 2000000 in
theorem implSF_any (ao : Option Addr) (cap g : Nat) (l : List Glb) (s : ByteArray) (t : Ste) (w : World) (hl : l.length ≤ 1048576) (hao : 0 < l.length → ao = some ⟨g, 0, none⟩) (hr : RowG w g l) (hz : ableG l) (hs : s.size ≤ 9223372036854775807) (ht : t.value.name.size ≤ 9223372036854775807) :
    Calls Try.prog 19 #[.slice ao l.length cap, .string s, t.val] w fun e w' => e = .returned (.int .i64 (codeSF l s t)) ∧ Below w.heap.size w w' := by
  obtain ⟨R, hR⟩ : ∃ R, R = codeSF l s t := ⟨_, rfl⟩
  have HC : Hid (∀ u, Below w.heap.size w u → Calls Try.prog 52 #[.slice ao l.length cap, .string s, t.val] u fun e w' => AnsGt u l s t R e w') := fun u hu => by rw [hR]; exact globalsAt_any ao cap g l s t u hl hao (hr.below hu) hz hs ht
  rw [← hR]
  clear hR hl hao hr hz hs ht
  go_enter Try.func19, Try.ntmps19
  go_wp2_with fail
  refine (HC.out _ ((Below.refl _ _).alloc (Nat.le_refl _) _)).mono ?_
  rintro e w1 ⟨C, x, m, rfl, hCs, hCa, _, hb⟩
  have HB0 : Hid (Below w.heap.size w w1) := Below.trans ((Below.refl _ w).alloc (Nat.le_refl _) _) (hb.mono (by simp))
  have z1 : w.heap.size < w1.heap.size := by have := hb.size; simp at this; omega
  have HT : Hid ((((w1.alloc (.cells Try.zeroCells79 79)).alloc (.cells #[.int .u8 0, .int .u64 0] 74)).alloc (.cells #[.int .i64 0, .int .u8 0, .int .u64 0] 97)).there w1.heap.size 0 C.size) := by rw [hCs]; exact World.there_alloc (World.there_alloc (there_new w1 _ _ (by simp)) _) _
  have HCa : Hid (C.all (·.oneCell') = true) := hCa
  obtain ⟨U, hU⟩ : ∃ U, U = (((w1.alloc (.cells Try.zeroCells79 79)).alloc (.cells #[.int .u8 0, .int .u64 0] 74)).alloc (.cells #[.int .i64 0, .int .u8 0, .int .u64 0] 97)).setCells w1.heap.size 0 C.toList := ⟨_, rfl⟩
  have HU : Hid (U = (((w1.alloc (.cells Try.zeroCells79 79)).alloc (.cells #[.int .u8 0, .int .u64 0] 74)).alloc (.cells #[.int .i64 0, .int .u8 0, .int .u64 0] 97)).setCells w1.heap.size 0 C.toList) := hU
  have HB : Hid (Below w.heap.size w U) := by rw [hU]; exact below_setCells (((HB0.out.alloc (by omega) _).alloc (by simp; omega) _).alloc (by simp; omega) _) (by omega) _ _
  have u0 : U.cell? ⟨w1.heap.size + 1, 0, none⟩ = some (.int .u8 0) := by rw [hU, cell_setCells (by omega), World.cell?_alloc_past _ _ _ (by simp), World.cell?_alloc_at _ _ _ _ (by simp)]; rfl
  have u1 : U.cell? ⟨w1.heap.size + 1, 1, none⟩ = some (.int .u64 0) := by rw [hU, cell_setCells (by omega), World.cell?_alloc_past _ _ _ (by simp), World.cell?_alloc_at _ _ _ _ (by simp)]; rfl
  have uf : ∀ o, U.frozen? ⟨w1.heap.size + 1, o, none⟩ = false := fun o => by rw [hU, World.frozen?_setCells, World.frozen?_alloc_past _ _ _ (by simp), World.frozen?_alloc_at _ _ _ _ (by simp)]
  have v0 : U.cell? ⟨w1.heap.size + 1 + 1, 0, none⟩ = some (.int .i64 0) := by rw [hU, cell_setCells (by omega), World.cell?_alloc_at _ _ _ _ (by simp)]; rfl
  have v1 : U.cell? ⟨w1.heap.size + 1 + 1, 1, none⟩ = some (.int .u8 0) := by rw [hU, cell_setCells (by omega), World.cell?_alloc_at _ _ _ _ (by simp)]; rfl
  have v2 : U.cell? ⟨w1.heap.size + 1 + 1, 2, none⟩ = some (.int .u64 0) := by rw [hU, cell_setCells (by omega), World.cell?_alloc_at _ _ _ _ (by simp)]; rfl
  have vf : ∀ o, U.frozen? ⟨w1.heap.size + 1 + 1, o, none⟩ = false := fun o => by rw [hU, World.frozen?_setCells, World.frozen?_alloc_at _ _ _ _ (by simp)]
  clear hb hCa hU
  go_wp2_with (refine wpList_store_mid rfl 79 _ _ rfl w1.heap.size 0 C rfl rfl HT.out (by rw [infoGl, hCs]) HCa.out ?_; rw [← HU.out])
  go_ret
  exact ⟨rfl, by repeat (first | refine Below.setCell ?_ (by simp <;> omega) _ | exact HB.out)⟩
end Go.Proofs.Ytgfienijabkpjaa
