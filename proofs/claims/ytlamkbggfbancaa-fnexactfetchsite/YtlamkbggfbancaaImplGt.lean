/-
  The program's globalsAt and SiteFault; nothing that was there is turned.
-/
import Derived.Test.YtlamkbggfbancaaImplLG
import Derived.Test.YtlamkbggfbancaaImplMem
namespace Go.Proofs.Ytlamkbggfbancaa
open Go.RowKit Go.Extern.Stop Go.Stop Go.Extern Num Go.Lib

/-- What globalsAt answers. -/
def AnsGt (w : World) (l : List Glb) (s : ByteArray) (t : Ste) (c : Int) (e : Ending) (w' : World) : Prop :=
  ∃ (C : Array Value) (x : Wd) (m : Mry), e = .returned (.tuple #[.agg C, x.val, m.val, .int .i64 c]) ∧ C.size = 301 ∧ C.all (·.oneCell') = true ∧ (c = 0 → x = nW s ∧ m = mryOf t ∧ ∃ b, w.heap.size ≤ b ∧ GlC C.toList b (l.map rwOf) ∧ MapW w' b ((l.map rwOf).map Rw.name) ∧ ((l.map rwOf).map Rw.name).Nodup) ∧ Below w.heap.size w w'
theorem results_ccct {fn : Func} {p q r u : Tmp} {ty ty2 ty3 : TypeId} (h : fn.results = #[.cell p ty, .cell q ty2, .cell r ty3, .tmp u]) (tmps : Array Value) (P : Program) (w : World) :
    (results fn tmps).run P w =
      ((asAddr (tmps.getD p undef)).run P w).andThen fun a w₁ => ((loadVar ty a).run P w₁).andThen fun v w₂ => ((asAddr (tmps.getD q undef)).run P w₂).andThen fun a2 w₃ => ((loadVar ty2 a2).run P w₃).andThen fun v2 w₄ => ((asAddr (tmps.getD r undef)).run P w₄).andThen fun a3 w₅ => ((loadVar ty3 a3).run P w₅).andThen fun v3 w₆ => .ok (.tuple #[v, v2, v3, tmps.getD u undef]) w₆ := by
  simp only [results, h]
  simp [Sem.run_bind, Result.andThen]
theorem infoMy : (Try.prog.info? 100).map (·.size) = some 3 := by kernel_rfl
theorem ldMy (W : World) (B : Nat) (m : Mry) (h0 : W.cell? ⟨B, 0, none⟩ = some (.int .i64 m.ver)) (h1 : W.cell? ⟨B, 1, none⟩ = some (.int .u8 m.value.tag)) (h2 : W.cell? ⟨B, 2, none⟩ = some (.int .u64 m.value.rest)) : (loadVar 100 ⟨B, 0, none⟩).run Try.prog W = .ok m.val W := by
  have h := run_loadVar_mid (P := Try.prog) W B 0 100 [.int .i64 m.ver, .int .u8 m.value.tag, .int .u64 m.value.rest] _ (fun j v hv => by
    match j, hv with
    | 0, hv => simp at hv; subst hv; simpa using h0
    | 1, hv => simp at hv; subst hv; simpa using h1
    | 2, hv => simp at hv; subst hv; simpa using h2) Try.underlying100 rfl (by rw [infoMy]; rfl)
  exact h
/-- The blocks in which the four answers are laid: nothing yet. -/
structure Res4 (W : World) (B : Nat) : Prop where
  g : W.there B 0 301
  x0 : W.cell? ⟨B + 1, 0, none⟩ = some (.int .u8 0)
  x1 : W.cell? ⟨B + 1, 1, none⟩ = some (.int .u64 0)
  xf : ∀ o, W.frozen? ⟨B + 1, o, none⟩ = false
  m0 : W.cell? ⟨B + 2, 0, none⟩ = some (.int .i64 0)
  m1 : W.cell? ⟨B + 2, 1, none⟩ = some (.int .u8 0)
  m2 : W.cell? ⟨B + 2, 2, none⟩ = some (.int .u64 0)
  mf : ∀ o, W.frozen? ⟨B + 2, o, none⟩ = false
theorem Res4.below {W V : World} {B : Nat} (h : Res4 W B) (hb : Below W.heap.size W V) : Res4 V B :=
  ⟨there_below h.g hb, cell_keep hb h.x0, cell_keep hb h.x1, fun o => by rw [(bcell hb).2 _ _ (lt_of_cell h.x0)]; exact h.xf o, cell_keep hb h.m0, cell_keep hb h.m1, cell_keep hb h.m2, fun o => by rw [(bcell hb).2 _ _ (lt_of_cell h.m0)]; exact h.mf o⟩
/-- Behind the store of globals. -/
theorem Res4.store {W : World} {B : Nat} (h : Res4 W B) (vs : List Value) : Res4 (W.setCells B 0 vs) B :=
  ⟨World.there_setCells h.g _ _ _, by rw [cell_setCells (by omega)]; exact h.x0, by rw [cell_setCells (by omega)]; exact h.x1, fun o => by rw [World.frozen?_setCells]; exact h.xf o, by rw [cell_setCells (by omega)]; exact h.m0, by rw [cell_setCells (by omega)]; exact h.m1, by rw [cell_setCells (by omega)]; exact h.m2, fun o => by rw [World.frozen?_setCells]; exact h.mf o⟩
theorem keep_same {w : World} {p q : Addr} {v u : Value} (h : w.cell? q = some u) (hv : p = q → v = u) : (w.setCell p v).cell? q = some u := by
  by_cases e : p = q
  · subst e
    rw [World.cell?_setCell_same _ _ _ h, hv rfl]
  · rw [World.cell?_setCell_other _ _ _ _ e]; exact h
/-- What is answered where nothing is to be handed on: the zero of each, and a code. -/
theorem res4_zero {fn : Func} {p q r u : Tmp} (hf : fn.results = #[.cell p 82, .cell q 77, .cell r 100, .tmp u]) (tmps : Array Value) (V : World) (B : Nat) (c : Int) (H : Res4 V B) (hR : V.rangeAt B 0 Try.zeroCells82.toList)
    (hp : tmps.getD p undef = .pointer (some ⟨B, 0, none⟩)) (hq : tmps.getD q undef = .pointer (some ⟨B + 1, 0, none⟩)) (hr : tmps.getD r undef = .pointer (some ⟨B + 2, 0, none⟩)) (hu : tmps.getD u undef = .int .i64 c) :
    (results fn tmps).run Try.prog (((((V.setCell ⟨B + 1, 0, none⟩ (.int .u8 0)).setCell ⟨B + 1, 1, none⟩ (.int .u64 0)).setCell ⟨B + 2, 0, none⟩ (.int .i64 0)).setCell ⟨B + 2, 1, none⟩ (.int .u8 0)).setCell ⟨B + 2, 2, none⟩ (.int .u64 0)) = .ok (.tuple #[.agg Try.zeroCells82, Wd.val ⟨0, 0⟩, Mry.val ⟨0, ⟨0, 0⟩⟩, .int .i64 c]) (((((V.setCell ⟨B + 1, 0, none⟩ (.int .u8 0)).setCell ⟨B + 1, 1, none⟩ (.int .u64 0)).setCell ⟨B + 2, 0, none⟩ (.int .i64 0)).setCell ⟨B + 2, 1, none⟩ (.int .u8 0)).setCell ⟨B + 2, 2, none⟩ (.int .u64 0)) := by
  rw [results_ccct hf, hp, hq, hr, hu]
  simp only [asAddr, Sem.run_pure, Result.andThen_ok]
  rw [loadGl _ _ Try.zeroCells82.toList zc_len (range_other (range_other (range_other (range_other (range_other hR (by omega)) (by omega)) (by omega)) (by omega)) (by omega))]
  simp only [Result.andThen_ok, Array.toArray_toList]
  rw [ldWd _ _ ⟨0, 0⟩ (by refine keep_same (keep_same (keep_same (keep_same (keep_same H.x0 ?_) ?_) ?_) ?_) ?_ <;> (intro e; first | rfl | (exfalso; simp at e; done) | (exfalso; simp at e; omega))) (by refine keep_same (keep_same (keep_same (keep_same (keep_same H.x1 ?_) ?_) ?_) ?_) ?_ <;> (intro e; first | rfl | (exfalso; simp at e; done) | (exfalso; simp at e; omega)))]
  simp only [Result.andThen_ok]
  rw [ldMy _ _ ⟨0, ⟨0, 0⟩⟩ (by refine keep_same (keep_same (keep_same (keep_same (keep_same H.m0 ?_) ?_) ?_) ?_) ?_ <;> (intro e; first | rfl | (exfalso; simp at e; done) | (exfalso; simp at e; omega))) (by refine keep_same (keep_same (keep_same (keep_same (keep_same H.m1 ?_) ?_) ?_) ?_) ?_ <;> (intro e; first | rfl | (exfalso; simp at e; done) | (exfalso; simp at e; omega))) (by refine keep_same (keep_same (keep_same (keep_same (keep_same H.m2 ?_) ?_) ?_) ?_) ?_ <;> (intro e; first | rfl | (exfalso; simp at e; done) | (exfalso; simp at e; omega)))]
  rfl
theorem holds_parts {l : List Glb} {s : ByteArray} {t : Ste} {k : Nat} (hF : GFine l l.length) (hm : memC t = 0) (hk : k < l.length) (hat : atG l s = some k) : holdsB (mryOf t) (rwOf (l[k]'hk)) = !(parts l s t) := by
  have hp : parts l s t = (((l[k]'hk).ver == t.ver) && !(eqVB (l[k]'hk).value t.value)) := by unfold parts; rw [hat]; simp [List.getD, hk]
  rw [hp]
  have hv := hF.ver k hk hk
  have hvf := hF.val k hk hk
  unfold mryOf holdsB rwOf
  by_cases h0 : t.ver = 0
  · rw [if_pos h0, h0]
    have e1 : ((0 : Int) == (l[k]'hk).ver) = false := by simp; omega
    have e2 : ((l[k]'hk).ver == (0 : Int)) = false := by simp; omega
    simp only [e1, e2]; rfl
  · rw [if_neg h0]
    unfold memC at hm
    rw [if_neg h0] at hm
    by_cases h1 : 1 ≤ t.ver ∧ t.ver ≤ 99999
    · rw [if_pos h1] at hm
      simp only
      by_cases e : t.ver = (l[k]'hk).ver
      · have e1 : (t.ver == (l[k]'hk).ver) = true := by simpa using e
        have e2 : ((l[k]'hk).ver == t.ver) = true := by simpa using e.symm
        rw [e1, e2]
        simp only [Bool.not_true, Bool.false_or, Bool.true_and, Bool.not_not]
        by_cases ev : (l[k]'hk).value = t.value
        · rw [(eqVB_iff _ _).2 ev, ev]; simp
        · have e3 : eqVB (l[k]'hk).value t.value = false := by
            cases h : eqVB (l[k]'hk).value t.value
            · rfl
            · exact absurd ((eqVB_iff _ _).1 h) ev
          rw [e3]
          cases h : ((wdOf t.value).tag == (wdOf (l[k]'hk).value).tag && (wdOf t.value).rest == (wdOf (l[k]'hk).value).rest)
          · rfl
          · exfalso
            rw [Bool.and_eq_true] at h
            have h3 : wdOf t.value = wdOf (l[k]'hk).value := by
              generalize wdOf t.value = a at h ⊢
              generalize wdOf (l[k]'hk).value = b at h ⊢
              cases a; cases b
              simp at h
              simp [h.1, h.2]
            exact ev (wdOf_inj hm hvf h3).symm
      · have e1 : (t.ver == (l[k]'hk).ver) = false := by simpa using e
        have e2 : ((l[k]'hk).ver == t.ver) = false := by simpa using fun h => e h.symm
        rw [e1, e2]; rfl
    · rw [if_neg h1] at hm; exact absurd hm (by decide)
set_option maxRecDepth 100000 in
set_option maxHeartbeats 8000000 in
theorem globalsAt_any (ao : Option Addr) (cap g : Nat) (l : List Glb) (s : ByteArray) (t : Ste) (w : World) (hl : l.length ≤ 1048576) (hao : 0 < l.length → ao = some ⟨g, 0, none⟩) (hr : RowG w g l) (hz : ableG l) (hs : s.size ≤ 9223372036854775807) (ht : t.value.name.size ≤ 9223372036854775807) :
    Calls Try.prog 57 #[.slice ao l.length cap, .string s, t.val] w fun e w' => AnsGt w l s t (codeSF l s t) e w' := by
  obtain ⟨c, hc⟩ : ∃ c, c = askG l s := ⟨_, rfl⟩
  obtain ⟨d, hd⟩ : ∃ d, d = memC t := ⟨_, rfl⟩
  obtain ⟨W, hW⟩ : ∃ W, W = (((w.alloc (.cells #[.int .i64 t.ver, .int .i64 t.value.kind, .int .i64 t.value.num, .string t.value.name] 39)).alloc (.cells Try.zeroCells82 82)).alloc (.cells #[.int .u8 0, .int .u64 0] 77)).alloc (.cells #[.int .i64 0, .int .u8 0, .int .u64 0] 100) := ⟨_, rfl⟩
  have HBW : Hid (Below w.heap.size w W) := by rw [hW]; exact ((((Below.refl _ _).alloc (Nat.le_refl _) _).alloc (by simp) _).alloc (by simp <;> omega) _).alloc (by simp <;> omega) _
  have zW : W.heap.size = w.heap.size + 4 := by rw [hW]; simp
  have HBx : Hid (∀ (o : Nat) (v : Value), [Value.int .i64 t.ver, .int .i64 t.value.kind, .int .i64 t.value.num, .string t.value.name][o]? = some v → W.cell? ⟨w.heap.size, o, none⟩ = some v) := fun o v h => by
    rw [hW, World.cell?_alloc_past _ _ _ (by simp <;> omega), World.cell?_alloc_past _ _ _ (by simp <;> omega), World.cell?_alloc_past _ _ _ (by simp), World.cell?_alloc_at _ _ _ _ rfl]; simpa using h
  have HRs : Hid (Res4 W (w.heap.size + 1)) := by
    have e1 : (w.alloc (.cells #[.int .i64 t.ver, .int .i64 t.value.kind, .int .i64 t.value.num, .string t.value.name] 39)).heap.size = w.heap.size + 1 := by simp
    have hg := there_new (w.alloc (.cells #[.int .i64 t.ver, .int .i64 t.value.kind, .int .i64 t.value.num, .string t.value.name] 39)) Try.zeroCells82 82 (by simp)
    rw [e1] at hg
    rw [hW]
    refine ⟨World.there_alloc (World.there_alloc hg _) _, ?_, ?_, fun o => ?_, ?_, ?_, ?_, fun o => ?_⟩
    · rw [World.cell?_alloc_past _ _ _ (by simp), World.cell?_alloc_at _ _ _ _ (by simp)]; rfl
    · rw [World.cell?_alloc_past _ _ _ (by simp), World.cell?_alloc_at _ _ _ _ (by simp)]; rfl
    · rw [World.frozen?_alloc_past _ _ _ (by simp), World.frozen?_alloc_at _ _ _ _ (by simp)]
    · rw [World.cell?_alloc_at _ _ _ _ (by simp)]; rfl
    · rw [World.cell?_alloc_at _ _ _ _ (by simp)]; rfl
    · rw [World.cell?_alloc_at _ _ _ _ (by simp)]; rfl
    · rw [World.frozen?_alloc_at _ _ _ _ (by simp)]
  have HC : Hid (Calls Try.prog 50 #[.slice ao l.length cap, .string s] W fun e w' => AnsGw W l s c e w') := by rw [hc]; exact globalsWith_any ao cap g l s W hl hao (hr.below HBW.out) hz hs
  have HM : Hid (∀ u, Calls Try.prog 83 #[t.val] u fun e w' => (∃ m : Mry, e = .returned (.tuple #[m.val, .int .i64 d]) ∧ (d = 0 → m = mryOf t)) ∧ Below u.heap.size u w') := fun u => by rw [hd]; exact memoryOf_any t u ht
  have HW : Hid (W = (((w.alloc (.cells #[.int .i64 t.ver, .int .i64 t.value.kind, .int .i64 t.value.num, .string t.value.name] 39)).alloc (.cells Try.zeroCells82 82)).alloc (.cells #[.int .u8 0, .int .u64 0] 77)).alloc (.cells #[.int .i64 0, .int .u8 0, .int .u64 0] 100)) := hW
  obtain ⟨R, hR⟩ : ∃ R, R = codeSF l s t := ⟨_, rfl⟩
  have HR : Hid (R = if c ≠ 0 then c else if d ≠ 0 then d else if parts l s t = true then 1 else 0) := by show R = _; rw [hR, hc, hd]; rfl
  have HCc : Hid (c = askG l s ∧ d = memC t) := ⟨hc, hd⟩
  rw [← hR]
  have hbz := buildZ
  clear hW hc hd hR hl hao hr hz hs ht
  go_enter Try.func57, Try.ntmps57
  go_wp2_with fail
  rw [← HW.out]
  refine HC.out.mono ?_
  rintro e w1 ⟨C, x, rfl, hCs, hCa, hC0, hb1⟩
  have HC0 : Hid (c = 0 → x = nW s ∧ ∃ b, W.heap.size ≤ b ∧ GlC C.toList b (l.map rwOf) ∧ MapW w1 b ((l.map rwOf).map Rw.name) ∧ ((l.map rwOf).map Rw.name).Nodup) := hC0
  have HCa : Hid (C.all (·.oneCell') = true) := hCa
  have HB1 : Hid (Below W.heap.size W w1) := hb1
  have z1 : w.heap.size + 3 < w1.heap.size := by have := hb1.size; omega
  have HT1 : Hid (((w1.alloc (.cells Try.zeroCells82 82)).alloc (.cells #[.int .u8 0, .int .u64 0] 77)).there w1.heap.size 0 C.size) := by rw [hCs]; exact World.there_alloc (there_new w1 _ _ (by simp)) _
  obtain ⟨U, hU⟩ : ∃ U, U = ((w1.alloc (.cells Try.zeroCells82 82)).alloc (.cells #[.int .u8 0, .int .u64 0] 77)).setCells w1.heap.size 0 C.toList := ⟨_, rfl⟩
  have HU : Hid (U = ((w1.alloc (.cells Try.zeroCells82 82)).alloc (.cells #[.int .u8 0, .int .u64 0] 77)).setCells w1.heap.size 0 C.toList) := hU
  have HBU : Hid (Below w1.heap.size w1 U) := by rw [hU]; exact below_setCells (((Below.refl _ _).alloc (Nat.le_refl _) _).alloc (by simp) _) (Nat.le_refl _) _ _
  have HRU : Hid (U.rangeAt w1.heap.size 0 C.toList ∧ ∀ j, U.frozen? ⟨w1.heap.size, j, none⟩ = false) := by
    rw [hU]
    refine ⟨World.rangeAt_setCells_same _ _ _ _ (by rw [Array.length_toList]; exact HT1.out), fun j => ?_⟩
    rw [World.frozen?_setCells, World.frozen?_alloc_past _ _ _ (by simp), World.frozen?_alloc_at _ _ _ _ rfl]
  have u0 : U.cell? ⟨w1.heap.size + 1, 0, none⟩ = some (.int .u8 0) := by rw [hU, cell_setCells (by omega), World.cell?_alloc_at _ _ _ _ (by simp)]; rfl
  have u1 : U.cell? ⟨w1.heap.size + 1, 1, none⟩ = some (.int .u64 0) := by rw [hU, cell_setCells (by omega), World.cell?_alloc_at _ _ _ _ (by simp)]; rfl
  have uf : ∀ o, U.frozen? ⟨w1.heap.size + 1, o, none⟩ = false := fun o => by rw [hU, World.frozen?_setCells, World.frozen?_alloc_at _ _ _ _ (by simp)]
  have zU : w1.heap.size + 1 < U.heap.size := lt_of_cell u0
  obtain ⟨V, hV⟩ : ∃ V, V = (U.setCell ⟨w1.heap.size + 1, 0, none⟩ (.int .u8 x.tag)).setCell ⟨w1.heap.size + 1, 1, none⟩ (.int .u64 x.rest) := ⟨_, rfl⟩
  have HV : Hid (V = (U.setCell ⟨w1.heap.size + 1, 0, none⟩ (.int .u8 x.tag)).setCell ⟨w1.heap.size + 1, 1, none⟩ (.int .u64 x.rest)) := hV
  have zV : V.heap.size = U.heap.size := by rw [hV]; simp
  have HBVw : Hid (Below W.heap.size W V) := by rw [hV]; exact ((HB1.out.trans (HBU.out.mono HB1.out.size)).setCell (by simp <;> omega) _).setCell (by simp <;> omega) _
  have HRV : Hid (Res4 V (w.heap.size + 1)) := HRs.out.below HBVw.out
  have HBV : Hid (Below w.heap.size w V) := HBW.out.trans (HBVw.out.mono HBW.out.size)
  have HXV : Hid (V.cell? ⟨w1.heap.size + 1, 0, none⟩ = some (.int .u8 x.tag) ∧ V.cell? ⟨w1.heap.size + 1, 1, none⟩ = some (.int .u64 x.rest)) := by
    rw [hV]
    exact ⟨by rw [World.cell?_setCell_other _ _ _ _ (by simp), World.cell?_setCell_same _ _ _ u0], by rw [World.cell?_setCell_same _ _ _ (by rw [World.cell?_setCell_other _ _ _ _ (by simp)]; exact u1)]⟩
  have HGV : Hid (V.rangeAt w1.heap.size 0 C.toList ∧ ∀ j, V.frozen? ⟨w1.heap.size, j, none⟩ = false) := by
    rw [hV]
    exact ⟨range_other (range_other HRU.out.1 (by omega)) (by omega), fun j => by simp only [World.frozen?_setCell]; exact HRU.out.2 j⟩
  have HMV : Hid (∀ b, b < w1.heap.size → V.heap[b]? = w1.heap[b]?) := fun b hb => by
    have hs1 : ∀ (y : World) (o : Nat) (v : Value), (y.setCell ⟨w1.heap.size + 1, o, none⟩ v).heap[b]? = y.heap[b]? := fun y o v => RowKit.Below.heap_setCell _ _ _ _ (show b ≠ w1.heap.size + 1 by omega)
    rw [hV, hs1, hs1]
    exact HBU.out.block b hb
  have HBxU : Hid (∀ (o : Nat) (v : Value), [Value.int .i64 t.ver, .int .i64 t.value.kind, .int .i64 t.value.num, .string t.value.name][o]? = some v → U.cell? ⟨w.heap.size, o, none⟩ = some v) := fun o v h => cell_keep HBU.out (cell_keep HB1.out (HBx.out o v h))
  clear hU hV hCa hb1 hC0 HRU HBU HC
  by_cases h0 : c = 0
  case neg =>
    have HE : Hid (R = c ∧ c ≠ 0) := ⟨by rw [HR.out, if_pos h0], h0⟩
    have h0' : (c != 0) = true := by simpa using h0
    have HTz : Hid (V.there (w.heap.size + 1) 0 Try.zeroCells82.size) := by rw [show Try.zeroCells82.size = 301 by simp]; exact HRV.out.g
    obtain ⟨Z, hZ⟩ : ∃ Z, Z = V.setCells (w.heap.size + 1) 0 Try.zeroCells82.toList := ⟨_, rfl⟩
    have HZ : Hid (Z = V.setCells (w.heap.size + 1) 0 Try.zeroCells82.toList) := hZ
    have HRz : Hid (Res4 Z (w.heap.size + 1)) := by rw [hZ]; exact HRV.out.store _
    have HGz : Hid (Z.rangeAt (w.heap.size + 1) 0 Try.zeroCells82.toList) := by rw [hZ]; exact World.rangeAt_setCells_same _ _ _ _ (by rw [Array.length_toList]; exact HTz.out)
    have HBz : Hid (Below w.heap.size w Z) := by rw [hZ]; exact below_setCells HBV.out (by omega) _ _
    have n0 := HRz.out.x0
    have n1 := HRz.out.x1
    have nf := HRz.out.xf
    have k0 := HRz.out.m0
    have k1 := HRz.out.m1
    have k2 := HRz.out.m2
    have kf := HRz.out.mf
    clear hZ
    clear HR h0 HC0 HM HCc
    go_wp2_with (first | (refine wpList_store_mid rfl 82 _ _ rfl w1.heap.size 0 C rfl rfl HT1.out (by rw [infoGl, hCs]) HCa.out ?_; rw [← HU.out]) | (refine wpList_store_mid rfl 82 _ _ rfl (w.heap.size + 1) 0 Try.zeroCells82 rfl rfl (by rw [← HV.out]; exact HTz.out) (by rw [infoGl]; simp) zc_all ?_; rw [← HV.out, ← HZ.out]))
    refine bodyPost_ret (v := .tuple #[.agg Try.zeroCells82, Wd.val ⟨0, 0⟩, Mry.val ⟨0, ⟨0, 0⟩⟩, .int .i64 c]) (res4_zero rfl _ Z (w.heap.size + 1) c HRz.out HGz.out rfl rfl rfl rfl) rfl ⟨Try.zeroCells82, ⟨0, 0⟩, ⟨0, ⟨0, 0⟩⟩, by rw [HE.out.1], by simp, zc_all, fun e => absurd e (by rw [HE.out.1]; exact HE.out.2), ?_⟩
    repeat (first | refine Below.setCell ?_ (by simp <;> omega) _ | exact HBz.out)
  subst h0
  have b0 := HBxU.out 0 _ rfl
  have b1 := HBxU.out 1 _ rfl
  have b2 := HBxU.out 2 _ rfl
  have b3 := HBxU.out 3 _ rfl
  go_wp2_with (refine wpList_store_mid rfl 82 _ _ rfl w1.heap.size 0 C rfl rfl HT1.out (by rw [infoGl, hCs]) HCa.out ?_; rw [← HU.out])
  rw [← HV.out]
  clear b0 b1 b2 b3 u0 u1 uf HU HV HBxU HBx
  refine (HM.out _).mono ?_
  rintro e w2 ⟨⟨m, rfl, hm0⟩, hb2⟩
  have HM0 : Hid (d = 0 → m = mryOf t) := hm0
  have HB2 : Hid (Below V.heap.size V w2) := hb2
  have z2 : w1.heap.size + 1 < w2.heap.size := by have := hb2.size; omega
  obtain ⟨X, hX⟩ : ∃ X, X = w2.alloc (.cells #[.int .i64 m.ver, .int .u8 m.value.tag, .int .u64 m.value.rest] 100) := ⟨_, rfl⟩
  have HX : Hid (X = w2.alloc (.cells #[.int .i64 m.ver, .int .u8 m.value.tag, .int .u64 m.value.rest] 100)) := hX
  have HBX : Hid (Below V.heap.size V X) := by rw [hX]; exact HB2.out.alloc HB2.out.size _
  have HRX : Hid (Res4 X (w.heap.size + 1)) := HRV.out.below HBX.out
  have HBXw : Hid (Below w.heap.size w X) := HBV.out.trans (HBX.out.mono HBV.out.size)
  have HmX : Hid (X.cell? ⟨w2.heap.size, 0, none⟩ = some (.int .i64 m.ver) ∧ X.cell? ⟨w2.heap.size, 1, none⟩ = some (.int .u8 m.value.tag) ∧ X.cell? ⟨w2.heap.size, 2, none⟩ = some (.int .u64 m.value.rest)) := by
    rw [hX]
    exact ⟨by rw [World.cell?_alloc_at _ _ _ _ rfl]; rfl, by rw [World.cell?_alloc_at _ _ _ _ rfl]; rfl, by rw [World.cell?_alloc_at _ _ _ _ rfl]; rfl⟩
  have zX : w2.heap.size < X.heap.size := lt_of_cell HmX.out.1
  clear hX hb2 hm0
  by_cases h1 : d = 0
  case neg =>
    have HE : Hid (R = d ∧ d ≠ 0) := ⟨by rw [HR.out, if_neg (by simp), if_pos h1], h1⟩
    have h1' : (d != 0) = true := by simpa using h1
    have HTz : Hid (X.there (w.heap.size + 1) 0 Try.zeroCells82.size) := by rw [show Try.zeroCells82.size = 301 by simp]; exact HRX.out.g
    obtain ⟨Z, hZ⟩ : ∃ Z, Z = X.setCells (w.heap.size + 1) 0 Try.zeroCells82.toList := ⟨_, rfl⟩
    have HZ : Hid (Z = X.setCells (w.heap.size + 1) 0 Try.zeroCells82.toList) := hZ
    have HRz : Hid (Res4 Z (w.heap.size + 1)) := by rw [hZ]; exact HRX.out.store _
    have HGz : Hid (Z.rangeAt (w.heap.size + 1) 0 Try.zeroCells82.toList) := by rw [hZ]; exact World.rangeAt_setCells_same _ _ _ _ (by rw [Array.length_toList]; exact HTz.out)
    have HBz : Hid (Below w.heap.size w Z) := by rw [hZ]; exact below_setCells HBXw.out (by omega) _ _
    have n0 := HRz.out.x0
    have n1 := HRz.out.x1
    have nf := HRz.out.xf
    have k0 := HRz.out.m0
    have k1 := HRz.out.m1
    have k2 := HRz.out.m2
    have kf := HRz.out.mf
    clear hZ
    clear HR h1 HC0 HM HCc
    go_wp2_with (refine wpList_store_mid rfl 82 _ _ rfl (w.heap.size + 1) 0 Try.zeroCells82 rfl rfl (by rw [← HX.out]; exact HTz.out) (by rw [infoGl]; simp) zc_all ?_; rw [← HX.out, ← HZ.out])
    refine bodyPost_ret (v := .tuple #[.agg Try.zeroCells82, Wd.val ⟨0, 0⟩, Mry.val ⟨0, ⟨0, 0⟩⟩, .int .i64 d]) (res4_zero rfl _ Z (w.heap.size + 1) d HRz.out HGz.out rfl rfl rfl rfl) rfl ⟨Try.zeroCells82, ⟨0, 0⟩, ⟨0, ⟨0, 0⟩⟩, by rw [HE.out.1], by simp, zc_all, fun e => absurd e (by rw [HE.out.1]; exact HE.out.2), ?_⟩
    repeat (first | refine Below.setCell ?_ (by simp <;> omega) _ | exact HBz.out)
  subst h1
  have HMt : Hid (m = mryOf t) := HM0.out (by first | rfl | trivial)
  obtain ⟨hg0, hsy, hl60, hfine⟩ := ask_fine HCc.out.1.symm
  have HF : Hid (symL s.data.toList = true ∧ GFine l l.length ∧ memC t = 0) := ⟨hsy, hfine, HCc.out.2.symm⟩
  obtain ⟨hxs, b, hbb, hGl, hMp, hNd⟩ := HC0.out (by first | rfl | trivial)
  have HXs : Hid (x = nW s) := hxs
  have HAns : Hid (GlC C.toList b (l.map rwOf) ∧ MapW w1 b ((l.map rwOf).map Rw.name) ∧ ((l.map rwOf).map Rw.name).Nodup ∧ W.heap.size ≤ b ∧ b < w1.heap.size) := ⟨hGl, hMp, hNd, hbb, hMp.lt⟩
  have HGX : Hid (GlAt X w1.heap.size b (l.map rwOf)) := by
    refine GlAt.below (w := V) ?_ HBX.out
    have hbl : b < w1.heap.size := hMp.lt
    exact ⟨by omega, hMp.keep (HMV.out b hbl), hNd, HGV.out.2, C.toList, HGV.out.1, hGl⟩
  have HxX : Hid (X.cell? ⟨w1.heap.size + 1, 0, none⟩ = some (.int .u8 x.tag) ∧ X.cell? ⟨w1.heap.size + 1, 1, none⟩ = some (.int .u64 x.rest)) := ⟨cell_keep HBX.out HXV.out.1, cell_keep HBX.out HXV.out.2⟩
  have xx0 : w2.cell? ⟨w1.heap.size + 1, 0, none⟩ = some (.int .u8 x.tag) := cell_keep HB2.out HXV.out.1
  have xx1 : w2.cell? ⟨w1.heap.size + 1, 1, none⟩ = some (.int .u64 x.rest) := cell_keep HB2.out HXV.out.2
  clear hg0 hsy hfine hxs hGl hMp hNd hbb HM0 HM
  obtain ⟨ok, r, hfd⟩ : ∃ (ok : Bool) (r : Rw), (ok = true → holdsB m r = !(parts l s t)) ∧ (ok = false → parts l s t = false) ∧ Calls Try.prog 51 #[.pointer (some ⟨w1.heap.size, 0, none⟩), x.val] X fun e w' => e = .returned (.tuple #[r.val, .bool ok]) ∧ Below X.heap.size X w' := by
    cases hat : atG l s with
    | none =>
      refine ⟨false, rwZ, fun e => absurd e (by decide), fun _ => ?_, ?_⟩
      · unfold parts; rw [hat]
      · have hm := names_miss l l.length s HF.out.2.1 (Nat.le_refl _) HF.out.1 (by rw [List.take_length]; exact hat)
        rw [List.take_length] at hm
        rw [HXs.out]
        exact find_miss _ b (l.map rwOf) (nW s) X HGX.out (nW_fit HF.out.1) hm
    | some k =>
      obtain ⟨hk, hnm, _⟩ := atG_some hat
      refine ⟨true, rwOf (l[k]'hk), fun _ => by rw [HMt.out]; exact holds_parts HF.out.2.1 HF.out.2.2 hk hat, fun e => absurd e (by decide), ?_⟩
      have h := find_hit _ b (l.map rwOf) k (by simpa using hk) X HGX.out
      have e1 : (l.map rwOf)[k]'(by simpa using hk) = rwOf (l[k]'hk) := by rw [List.getElem_map]
      have e2 : (rwOf (l[k]'hk)).name = x := by rw [HXs.out]; show nW _ = nW s; rw [hnm]
      rw [e1, e2] at h
      exact h
  have HFd : Hid (Calls Try.prog 51 #[.pointer (some ⟨w1.heap.size, 0, none⟩), x.val] X fun e w' => e = .returned (.tuple #[r.val, .bool ok]) ∧ Below X.heap.size X w') := hfd.2.2
  have HOk : Hid ((ok = true → holdsB m r = !(parts l s t)) ∧ (ok = false → parts l s t = false)) := ⟨hfd.1, hfd.2.1⟩
  clear hfd
  go_wp2_with fail
  rw [← HX.out]
  refine HFd.out.mono ?_
  rintro e w3 ⟨rfl, hb3⟩
  have HB3 : Hid (Below X.heap.size X w3) := hb3
  have m0 : w3.cell? ⟨w2.heap.size, 0, none⟩ = some (.int .i64 m.ver) := cell_keep hb3 HmX.out.1
  have m1 : w3.cell? ⟨w2.heap.size, 1, none⟩ = some (.int .u8 m.value.tag) := cell_keep hb3 HmX.out.2.1
  have m2 : w3.cell? ⟨w2.heap.size, 2, none⟩ = some (.int .u64 m.value.rest) := cell_keep hb3 HmX.out.2.2
  have z3 : w2.heap.size < w3.heap.size := lt_of_cell m0
  have HRw : Hid (∀ u, Below w3.heap.size w3 u → Below w.heap.size w u ∧ Res4 u (w.heap.size + 1) ∧ Below X.heap.size X u) := fun u hu => by
    have h1 : Below X.heap.size X u := HB3.out.trans (hu.mono HB3.out.size)
    exact ⟨HBXw.out.trans (h1.mono HBXw.out.size), HRX.out.below h1, h1⟩
  clear hb3 xx0 xx1 HX
  obtain ⟨G, hG⟩ : ∃ G, G = w3.alloc (.cells #[.int .u8 r.name.tag, .int .u64 r.name.rest, .int .u8 r.value.tag, .int .u64 r.value.rest, .int .i64 r.ver] 79) := ⟨_, rfl⟩
  have HG : Hid (G = w3.alloc (.cells #[.int .u8 r.name.tag, .int .u64 r.name.rest, .int .u8 r.value.tag, .int .u64 r.value.rest, .int .i64 r.ver] 79)) := hG
  have HBG3 : Hid (Below w3.heap.size w3 G) := by rw [hG]; exact (Below.refl _ _).alloc (Nat.le_refl _) _
  have HBG : Hid (Below X.heap.size X G) := (HRw.out G HBG3.out).2.2
  have zG : w3.heap.size < G.heap.size := by rw [hG]; simp
  clear hG
  cases ok
  case false =>
    have HE : Hid (R = 0) := by show R = 0; rw [HR.out, HOk.out.2 rfl]; simp
    clear HR HOk HFd HRw
    go_wp2_with fail
    rw [← HG.out]
    obtain ⟨Y, hY⟩ : ∃ Y, Y = G.drew := ⟨_, rfl⟩
    have HBY : Hid (Below X.heap.size X Y) := by rw [hY]; exact HBG.out.drew
    have HRY : Hid (Res4 Y (w.heap.size + 1)) := HRX.out.below HBY.out
    have HS0 : Hid (Y.rangeAt w1.heap.size 0 C.toList ∧ Y.cell? ⟨w1.heap.size + 1, 0, none⟩ = some (.int .u8 x.tag) ∧ Y.cell? ⟨w1.heap.size + 1, 1, none⟩ = some (.int .u64 x.rest) ∧ Y.cell? ⟨w2.heap.size, 0, none⟩ = some (.int .i64 m.ver) ∧ Y.cell? ⟨w2.heap.size, 1, none⟩ = some (.int .u8 m.value.tag) ∧ Y.cell? ⟨w2.heap.size, 2, none⟩ = some (.int .u64 m.value.rest)) := ⟨range_below (range_below HGV.out.1 HBX.out) HBY.out, cell_keep HBY.out HxX.out.1, cell_keep HBY.out HxX.out.2, cell_keep HBY.out HmX.out.1, cell_keep HBY.out HmX.out.2.1, cell_keep HBY.out HmX.out.2.2⟩
    have HTY : Hid (Y.there (w.heap.size + 1) 0 C.size) := by rw [hCs]; exact HRY.out.g
    have HBYw : Hid (Below w.heap.size w Y) := HBXw.out.trans (HBY.out.mono HBXw.out.size)
    have hCl : C.toList.length = 301 := by rw [Array.length_toList, hCs]
    have hbX : b < X.heap.size := by have := HAns.out.2.2.2.2; omega
    have HMY : Hid (Y.heap[b]? = w1.heap[b]?) := by show Y.heap[b]? = _; rw [HBY.out.block b hbX, HBX.out.block b (by have := HAns.out.2.2.2.2; omega), HMV.out b HAns.out.2.2.2.2]
    refine wp_region_held (S := fun u => u.rangeAt w1.heap.size 0 C.toList ∧ u.cell? ⟨w1.heap.size + 1, 0, none⟩ = some (.int .u8 x.tag) ∧ u.cell? ⟨w1.heap.size + 1, 1, none⟩ = some (.int .u64 x.rest) ∧ u.cell? ⟨w2.heap.size, 0, none⟩ = some (.int .i64 m.ver) ∧ u.cell? ⟨w2.heap.size, 1, none⟩ = some (.int .u8 m.value.tag) ∧ u.cell? ⟨w2.heap.size, 2, none⟩ = some (.int .u64 m.value.rest)) (by kernel_rfl) ?_
    rw [show ({ G with drawn := G.drawn + 1 } : World) = Y from hY.symm]
    clear hY
    refine wpAnyH_take (i := 0) (v := .agg C) (by rfl) (by kernel_rfl) (by kernel_rfl) (by kernel_rfl) (by intro _ _ _ h; exact h) (yieldsIf_load_mid (by rfl) 82 _ rfl w1.heap.size 0 rfl C.toList _ (fun u hu => hu.1) Try.underlying82 rfl (by rw [infoGl, hCl])) HS0.out ?_
    try simp only [Act.put]
    try simp only [List.setIfInBounds_toArray]
    try simp only [List.set_cons_zero, List.set_cons_succ]
    refine wpAnyH_take (i := 1) (v := x.val) (by rfl) (by kernel_rfl) (by kernel_rfl) (by kernel_rfl) (by intro _ _ _ h; exact h) (yieldsIf_load_mid (by rfl) 77 _ rfl (w1.heap.size + 1) 0 rfl [.int .u8 x.tag, .int .u64 x.rest] _ (fun u hu j v hv => by
      match j, hv with
      | 0, hv => simp at hv; subst hv; simpa using hu.2.1
      | 1, hv => simp at hv; subst hv; simpa using hu.2.2.1) Try.underlying77 rfl (by rw [infoWd]; rfl)) HS0.out ?_
    try simp only [Act.put]
    try simp only [List.setIfInBounds_toArray]
    try simp only [List.set_cons_zero, List.set_cons_succ]
    refine wpAnyH_take (i := 2) (v := m.val) (by rfl) (by kernel_rfl) (by kernel_rfl) (by kernel_rfl) (by intro _ _ _ h; exact h) (yieldsIf_load_mid (by rfl) 100 _ rfl w2.heap.size 0 rfl [.int .i64 m.ver, .int .u8 m.value.tag, .int .u64 m.value.rest] _ (fun u hu j v hv => by
      match j, hv with
      | 0, hv => simp at hv; subst hv; simpa using hu.2.2.2.1
      | 1, hv => simp at hv; subst hv; simpa using hu.2.2.2.2.1
      | 2, hv => simp at hv; subst hv; simpa using hu.2.2.2.2.2) Try.underlying100 rfl (by rw [infoMy]; rfl)) HS0.out ?_
    try simp only [Act.put]
    try simp only [List.setIfInBounds_toArray]
    try simp only [List.set_cons_zero, List.set_cons_succ]
    refine wpAnyH_all (rs := [3]) (by kernel_rfl) (by simp) ?_
    intro i hi
    obtain rfl : i = 3 := by simpa using hi
    refine wpOp_step (by rfl) (fun K' hK => ?_)
    rw [if_pos (by rfl)]
    refine wp_store_mid 82 _ _ rfl (w.heap.size + 1) 0 C rfl rfl HTY.out (by rw [infoGl, hCs]) HCa.out ?_
    obtain ⟨P1, hP1⟩ : ∃ P, P = Y.setCells (w.heap.size + 1) 0 C.toList := ⟨_, rfl⟩
    have HS1 : Hid (P1.rangeAt w1.heap.size 0 C.toList ∧ P1.cell? ⟨w1.heap.size + 1, 0, none⟩ = some (.int .u8 x.tag) ∧ P1.cell? ⟨w1.heap.size + 1, 1, none⟩ = some (.int .u64 x.rest) ∧ P1.cell? ⟨w2.heap.size, 0, none⟩ = some (.int .i64 m.ver) ∧ P1.cell? ⟨w2.heap.size, 1, none⟩ = some (.int .u8 m.value.tag) ∧ P1.cell? ⟨w2.heap.size, 2, none⟩ = some (.int .u64 m.value.rest)) := by
      rw [hP1]
      exact ⟨World.rangeAt_setCells_apart HS0.out.1 _ _ _ (Or.inl (by omega)), by rw [cell_setCells (by omega)]; exact HS0.out.2.1, by rw [cell_setCells (by omega)]; exact HS0.out.2.2.1, by rw [cell_setCells (by omega)]; exact HS0.out.2.2.2.1, by rw [cell_setCells (by omega)]; exact HS0.out.2.2.2.2.1, by rw [cell_setCells (by omega)]; exact HS0.out.2.2.2.2.2⟩
    have HR1 : Hid (Res4 P1 (w.heap.size + 1)) := by rw [hP1]; exact HRY.out.store _
    have HG1 : Hid (P1.rangeAt (w.heap.size + 1) 0 C.toList) := by rw [hP1]; exact World.rangeAt_setCells_same _ _ _ _ (by rw [Array.length_toList]; exact HTY.out)
    have HB1' : Hid (Below w.heap.size w P1) := by rw [hP1]; exact below_setCells HBYw.out (by omega) _ _
    have HM1 : Hid (P1.heap[b]? = w1.heap[b]?) := by show P1.heap[b]? = _; rw [hP1, heap_setCells (by have := HAns.out.2.2.2.1; omega)]; exact HMY.out
    rw [← hP1]
    refine hK _ _ ⟨HS1.out, ?_⟩
    clear hK hP1
    refine wpAnyH_all (rs := [4]) (by kernel_rfl) (by simp) ?_
    intro i hi
    obtain rfl : i = 4 := by simpa using hi
    refine wpOp_step (by rfl) (fun K' hK => ?_)
    rw [if_pos (by rfl)]
    have HT2 : Hid (P1.there (w.heap.size + 2) 0 2) := fun j hj => by
      rw [Nat.zero_add]
      refine ⟨?_, HR1.out.xf j⟩
      rcases (by omega : j = 0 ∨ j = 1) with rfl | rfl
      · rw [show P1.cell? ⟨w.heap.size + 2, 0, none⟩ = _ from HR1.out.x0]; rfl
      · rw [show P1.cell? ⟨w.heap.size + 2, 1, none⟩ = _ from HR1.out.x1]; rfl
    refine wp_store_mid 77 _ _ rfl (w.heap.size + 2) 0 #[.int .u8 x.tag, .int .u64 x.rest] rfl rfl HT2.out (by rw [infoWd]; rfl) (all_oneCell_toArray (cs := [.int .u8 x.tag, .int .u64 x.rest]) (fun v hv => by simp at hv; rcases hv with rfl | rfl <;> rfl)) ?_
    obtain ⟨P2, hP2⟩ : ∃ P, P = P1.setCells (w.heap.size + 2) 0 #[.int .u8 x.tag, .int .u64 x.rest].toList := ⟨_, rfl⟩
    have HS2 : Hid (P2.rangeAt w1.heap.size 0 C.toList ∧ P2.cell? ⟨w1.heap.size + 1, 0, none⟩ = some (.int .u8 x.tag) ∧ P2.cell? ⟨w1.heap.size + 1, 1, none⟩ = some (.int .u64 x.rest) ∧ P2.cell? ⟨w2.heap.size, 0, none⟩ = some (.int .i64 m.ver) ∧ P2.cell? ⟨w2.heap.size, 1, none⟩ = some (.int .u8 m.value.tag) ∧ P2.cell? ⟨w2.heap.size, 2, none⟩ = some (.int .u64 m.value.rest)) := by
      rw [hP2]
      exact ⟨World.rangeAt_setCells_apart HS1.out.1 _ _ _ (Or.inl (by omega)), by rw [cell_setCells (by omega)]; exact HS1.out.2.1, by rw [cell_setCells (by omega)]; exact HS1.out.2.2.1, by rw [cell_setCells (by omega)]; exact HS1.out.2.2.2.1, by rw [cell_setCells (by omega)]; exact HS1.out.2.2.2.2.1, by rw [cell_setCells (by omega)]; exact HS1.out.2.2.2.2.2⟩
    have HG2 : Hid (P2.rangeAt (w.heap.size + 1) 0 C.toList) := by rw [hP2]; exact World.rangeAt_setCells_apart HG1.out _ _ _ (Or.inl (by omega))
    have HX2 : Hid (P2.rangeAt (w.heap.size + 2) 0 [.int .u8 x.tag, .int .u64 x.rest]) := by rw [hP2]; exact World.rangeAt_setCells_same _ _ _ _ HT2.out
    have HT3 : Hid (P2.there (w.heap.size + 3) 0 3) := fun j hj => by
      rw [hP2, cell_setCells (by omega), World.frozen?_setCells, Nat.zero_add]
      refine ⟨?_, HR1.out.mf j⟩
      rcases (by omega : j = 0 ∨ j = 1 ∨ j = 2) with rfl | rfl | rfl
      · rw [show P1.cell? ⟨w.heap.size + 3, 0, none⟩ = _ from HR1.out.m0]; rfl
      · rw [show P1.cell? ⟨w.heap.size + 3, 1, none⟩ = _ from HR1.out.m1]; rfl
      · rw [show P1.cell? ⟨w.heap.size + 3, 2, none⟩ = _ from HR1.out.m2]; rfl
    have HB2' : Hid (Below w.heap.size w P2) := by rw [hP2]; exact below_setCells HB1'.out (by omega) _ _
    have HM2 : Hid (P2.heap[b]? = w1.heap[b]?) := by show P2.heap[b]? = _; rw [hP2, heap_setCells (by have := HAns.out.2.2.2.1; omega)]; exact HM1.out
    rw [← hP2]
    refine hK _ _ ⟨HS2.out, ?_⟩
    clear hK hP2
    refine wpAnyH_all (rs := [5]) (by kernel_rfl) (by simp) ?_
    intro i hi
    obtain rfl : i = 5 := by simpa using hi
    refine wpOp_step (by rfl) (fun K' hK => ?_)
    rw [if_pos (by rfl)]
    refine wp_store_mid 100 _ _ rfl (w.heap.size + 3) 0 #[.int .i64 m.ver, .int .u8 m.value.tag, .int .u64 m.value.rest] rfl rfl HT3.out (by rw [infoMy]; rfl) (all_oneCell_toArray (cs := [.int .i64 m.ver, .int .u8 m.value.tag, .int .u64 m.value.rest]) (fun v hv => by simp at hv; rcases hv with rfl | rfl | rfl <;> rfl)) ?_
    obtain ⟨P3, hP3⟩ : ∃ P, P = P2.setCells (w.heap.size + 3) 0 #[.int .i64 m.ver, .int .u8 m.value.tag, .int .u64 m.value.rest].toList := ⟨_, rfl⟩
    have HS3 : Hid (P3.rangeAt w1.heap.size 0 C.toList ∧ P3.cell? ⟨w1.heap.size + 1, 0, none⟩ = some (.int .u8 x.tag) ∧ P3.cell? ⟨w1.heap.size + 1, 1, none⟩ = some (.int .u64 x.rest) ∧ P3.cell? ⟨w2.heap.size, 0, none⟩ = some (.int .i64 m.ver) ∧ P3.cell? ⟨w2.heap.size, 1, none⟩ = some (.int .u8 m.value.tag) ∧ P3.cell? ⟨w2.heap.size, 2, none⟩ = some (.int .u64 m.value.rest)) := by
      rw [hP3]
      exact ⟨World.rangeAt_setCells_apart HS2.out.1 _ _ _ (Or.inl (by omega)), by rw [cell_setCells (by omega)]; exact HS2.out.2.1, by rw [cell_setCells (by omega)]; exact HS2.out.2.2.1, by rw [cell_setCells (by omega)]; exact HS2.out.2.2.2.1, by rw [cell_setCells (by omega)]; exact HS2.out.2.2.2.2.1, by rw [cell_setCells (by omega)]; exact HS2.out.2.2.2.2.2⟩
    have HG3 : Hid (P3.rangeAt (w.heap.size + 1) 0 C.toList) := by rw [hP3]; exact World.rangeAt_setCells_apart HG2.out _ _ _ (Or.inl (by omega))
    have HX3 : Hid (P3.rangeAt (w.heap.size + 2) 0 [.int .u8 x.tag, .int .u64 x.rest]) := by rw [hP3]; exact World.rangeAt_setCells_apart HX2.out _ _ _ (Or.inl (by omega))
    have HY3 : Hid (P3.rangeAt (w.heap.size + 3) 0 [.int .i64 m.ver, .int .u8 m.value.tag, .int .u64 m.value.rest]) := by rw [hP3]; exact World.rangeAt_setCells_same _ _ _ _ HT3.out
    have HB3' : Hid (Below w.heap.size w P3) := by rw [hP3]; exact below_setCells HB2'.out (by omega) _ _
    have HM3 : Hid (P3.heap[b]? = w1.heap[b]?) := by show P3.heap[b]? = _; rw [hP3, heap_setCells (by have := HAns.out.2.2.2.1; omega)]; exact HM2.out
    rw [← hP3]
    refine hK _ _ ⟨HS3.out, ?_⟩
    clear hK hP3
    refine wpAnyH_all (rs := [6]) (by kernel_rfl) (by simp) ?_
    intro i hi
    obtain rfl : i = 6 := by simpa using hi
    refine wpOp_step (by rfl) (fun K' hK => ?_)
    rw [if_pos (by rfl)]
    replace hK : Shut (∀ a w, _ → K' a w) := hK
    go_simp
    refine hK.out _ _ ⟨HS3.out, ?_⟩
    clear hK
    refine wpAnyH_done (by kernel_rfl) ?_ _
    go_wp2
    refine bodyPost_ret (v := .tuple #[.agg C, x.val, m.val, .int .i64 0]) ?_ rfl ⟨C, x, m, by rw [HE.out], hCs, HCa.out, fun _ => ⟨HXs.out, HMt.out, b, by have := HAns.out.2.2.2.1; omega, HAns.out.1, HAns.out.2.1.keep HM3.out, HAns.out.2.2.1⟩, HB3'.out⟩
    rw [results_ccct rfl]
    simp only [Array.getD_eq_getD_getElem?, List.getElem?_toArray, List.getElem?_cons_succ, List.getElem?_cons_zero, Option.getD_some, asAddr, Sem.run_pure, Result.andThen_ok]
    rw [loadGl _ _ C.toList hCl HG3.out]
    simp only [Result.andThen_ok, Array.toArray_toList]
    rw [ldWd _ (w.heap.size + 2) x (HX3.out 0 _ rfl) (HX3.out 1 _ rfl)]
    simp only [Result.andThen_ok]
    rw [ldMy _ (w.heap.size + 3) m (HY3.out 0 _ rfl) (HY3.out 1 _ rfl) (HY3.out 2 _ rfl)]
    rfl
  obtain ⟨bo, hbo⟩ : ∃ bo, bo = holdsB m r := ⟨_, rfl⟩
  have HHo : Hid (∀ u, Calls Try.prog 84 #[m.val, r.val] u fun e w' => e = .returned (.bool bo) ∧ Below u.heap.size u w') := fun u => by rw [hbo]; exact holdsG_any m r u
  have HPa : Hid (bo = !(parts l s t)) := by show bo = _; rw [hbo]; exact HOk.out.1 rfl
  clear hbo HOk HFd
  go_wp2_with fail
  rw [← HG.out]
  refine (HHo.out _).mono ?_
  rintro e w4 ⟨rfl, hb4⟩
  have HB4 : Hid (Below X.heap.size X w4) := HBG.out.trans (hb4.mono HBG.out.size)
  have HB4w : Hid (Below w.heap.size w w4) := HBXw.out.trans (HB4.out.mono HBXw.out.size)
  have HR4 : Hid (Res4 w4 (w.heap.size + 1)) := HRX.out.below HB4.out
  clear hb4 m0 m1 m2 HRw HBG3 HHo
  cases bo
  case false =>
    have HE : Hid (R = 1) := by
      show R = 1
      have hp : parts l s t = true := by have := HPa.out; cases h : parts l s t <;> rw [h] at this <;> simp at this
      rw [HR.out, hp]; simp
    have HTz : Hid (w4.there (w.heap.size + 1) 0 Try.zeroCells82.size) := by rw [show Try.zeroCells82.size = 301 by simp]; exact HR4.out.g
    obtain ⟨Z, hZ⟩ : ∃ Z, Z = w4.setCells (w.heap.size + 1) 0 Try.zeroCells82.toList := ⟨_, rfl⟩
    have HZ : Hid (Z = w4.setCells (w.heap.size + 1) 0 Try.zeroCells82.toList) := hZ
    have HRz : Hid (Res4 Z (w.heap.size + 1)) := by rw [hZ]; exact HR4.out.store _
    have HGz : Hid (Z.rangeAt (w.heap.size + 1) 0 Try.zeroCells82.toList) := by rw [hZ]; exact World.rangeAt_setCells_same _ _ _ _ (by rw [Array.length_toList]; exact HTz.out)
    have HBz : Hid (Below w.heap.size w Z) := by rw [hZ]; exact below_setCells HB4w.out (by omega) _ _
    have n0 := HRz.out.x0
    have n1 := HRz.out.x1
    have nf := HRz.out.xf
    have k0 := HRz.out.m0
    have k1 := HRz.out.m1
    have k2 := HRz.out.m2
    have kf := HRz.out.mf
    clear hZ
    clear HR HPa
    go_wp2_with (refine wpList_store_mid rfl 82 _ _ rfl (w.heap.size + 1) 0 Try.zeroCells82 rfl rfl HTz.out (by rw [infoGl]; simp) zc_all ?_; rw [← HZ.out])
    refine bodyPost_ret (v := .tuple #[.agg Try.zeroCells82, Wd.val ⟨0, 0⟩, Mry.val ⟨0, ⟨0, 0⟩⟩, .int .i64 1]) (res4_zero rfl _ Z (w.heap.size + 1) 1 HRz.out HGz.out rfl rfl rfl rfl) rfl ⟨Try.zeroCells82, ⟨0, 0⟩, ⟨0, ⟨0, 0⟩⟩, by rw [HE.out], by simp, zc_all, fun e => absurd e (by rw [HE.out]; decide), ?_⟩
    repeat (first | refine Below.setCell ?_ (by simp <;> omega) _ | exact HBz.out)
  have HE : Hid (R = 0) := by
    show R = 0
    have hp : parts l s t = false := by have := HPa.out; cases h : parts l s t <;> rw [h] at this <;> simp at this
    rw [HR.out, hp]; simp
  clear HR HPa
  go_wp2_with fail
  obtain ⟨Y, hY⟩ : ∃ Y, Y = w4.drew := ⟨_, rfl⟩
  have HBY : Hid (Below X.heap.size X Y) := by rw [hY]; exact HB4.out.drew
  have HRY : Hid (Res4 Y (w.heap.size + 1)) := HRX.out.below HBY.out
  have HS0 : Hid (Y.rangeAt w1.heap.size 0 C.toList ∧ Y.cell? ⟨w1.heap.size + 1, 0, none⟩ = some (.int .u8 x.tag) ∧ Y.cell? ⟨w1.heap.size + 1, 1, none⟩ = some (.int .u64 x.rest) ∧ Y.cell? ⟨w2.heap.size, 0, none⟩ = some (.int .i64 m.ver) ∧ Y.cell? ⟨w2.heap.size, 1, none⟩ = some (.int .u8 m.value.tag) ∧ Y.cell? ⟨w2.heap.size, 2, none⟩ = some (.int .u64 m.value.rest)) := ⟨range_below (range_below HGV.out.1 HBX.out) HBY.out, cell_keep HBY.out HxX.out.1, cell_keep HBY.out HxX.out.2, cell_keep HBY.out HmX.out.1, cell_keep HBY.out HmX.out.2.1, cell_keep HBY.out HmX.out.2.2⟩
  have HTY : Hid (Y.there (w.heap.size + 1) 0 C.size) := by rw [hCs]; exact HRY.out.g
  have HBYw : Hid (Below w.heap.size w Y) := HBXw.out.trans (HBY.out.mono HBXw.out.size)
  have hCl : C.toList.length = 301 := by rw [Array.length_toList, hCs]
  have hbX : b < X.heap.size := by have := HAns.out.2.2.2.2; omega
  have HMY : Hid (Y.heap[b]? = w1.heap[b]?) := by show Y.heap[b]? = _; rw [HBY.out.block b hbX, HBX.out.block b (by have := HAns.out.2.2.2.2; omega), HMV.out b HAns.out.2.2.2.2]
  refine wp_region_held (S := fun u => u.rangeAt w1.heap.size 0 C.toList ∧ u.cell? ⟨w1.heap.size + 1, 0, none⟩ = some (.int .u8 x.tag) ∧ u.cell? ⟨w1.heap.size + 1, 1, none⟩ = some (.int .u64 x.rest) ∧ u.cell? ⟨w2.heap.size, 0, none⟩ = some (.int .i64 m.ver) ∧ u.cell? ⟨w2.heap.size, 1, none⟩ = some (.int .u8 m.value.tag) ∧ u.cell? ⟨w2.heap.size, 2, none⟩ = some (.int .u64 m.value.rest)) (by kernel_rfl) ?_
  rw [show ({ w4 with drawn := w4.drawn + 1 } : World) = Y from hY.symm]
  clear hY
  refine wpAnyH_take (i := 0) (v := .agg C) (by rfl) (by kernel_rfl) (by kernel_rfl) (by kernel_rfl) (by intro _ _ _ h; exact h) (yieldsIf_load_mid (by rfl) 82 _ rfl w1.heap.size 0 rfl C.toList _ (fun u hu => hu.1) Try.underlying82 rfl (by rw [infoGl, hCl])) HS0.out ?_
  try simp only [Act.put]
  try simp only [List.setIfInBounds_toArray]
  try simp only [List.set_cons_zero, List.set_cons_succ]
  refine wpAnyH_take (i := 1) (v := x.val) (by rfl) (by kernel_rfl) (by kernel_rfl) (by kernel_rfl) (by intro _ _ _ h; exact h) (yieldsIf_load_mid (by rfl) 77 _ rfl (w1.heap.size + 1) 0 rfl [.int .u8 x.tag, .int .u64 x.rest] _ (fun u hu j v hv => by
    match j, hv with
    | 0, hv => simp at hv; subst hv; simpa using hu.2.1
    | 1, hv => simp at hv; subst hv; simpa using hu.2.2.1) Try.underlying77 rfl (by rw [infoWd]; rfl)) HS0.out ?_
  try simp only [Act.put]
  try simp only [List.setIfInBounds_toArray]
  try simp only [List.set_cons_zero, List.set_cons_succ]
  refine wpAnyH_take (i := 2) (v := m.val) (by rfl) (by kernel_rfl) (by kernel_rfl) (by kernel_rfl) (by intro _ _ _ h; exact h) (yieldsIf_load_mid (by rfl) 100 _ rfl w2.heap.size 0 rfl [.int .i64 m.ver, .int .u8 m.value.tag, .int .u64 m.value.rest] _ (fun u hu j v hv => by
    match j, hv with
    | 0, hv => simp at hv; subst hv; simpa using hu.2.2.2.1
    | 1, hv => simp at hv; subst hv; simpa using hu.2.2.2.2.1
    | 2, hv => simp at hv; subst hv; simpa using hu.2.2.2.2.2) Try.underlying100 rfl (by rw [infoMy]; rfl)) HS0.out ?_
  try simp only [Act.put]
  try simp only [List.setIfInBounds_toArray]
  try simp only [List.set_cons_zero, List.set_cons_succ]
  refine wpAnyH_all (rs := [3]) (by kernel_rfl) (by simp) ?_
  intro i hi
  obtain rfl : i = 3 := by simpa using hi
  refine wpOp_step (by rfl) (fun K' hK => ?_)
  rw [if_pos (by rfl)]
  refine wp_store_mid 82 _ _ rfl (w.heap.size + 1) 0 C rfl rfl HTY.out (by rw [infoGl, hCs]) HCa.out ?_
  obtain ⟨P1, hP1⟩ : ∃ P, P = Y.setCells (w.heap.size + 1) 0 C.toList := ⟨_, rfl⟩
  have HS1 : Hid (P1.rangeAt w1.heap.size 0 C.toList ∧ P1.cell? ⟨w1.heap.size + 1, 0, none⟩ = some (.int .u8 x.tag) ∧ P1.cell? ⟨w1.heap.size + 1, 1, none⟩ = some (.int .u64 x.rest) ∧ P1.cell? ⟨w2.heap.size, 0, none⟩ = some (.int .i64 m.ver) ∧ P1.cell? ⟨w2.heap.size, 1, none⟩ = some (.int .u8 m.value.tag) ∧ P1.cell? ⟨w2.heap.size, 2, none⟩ = some (.int .u64 m.value.rest)) := by
    rw [hP1]
    exact ⟨World.rangeAt_setCells_apart HS0.out.1 _ _ _ (Or.inl (by omega)), by rw [cell_setCells (by omega)]; exact HS0.out.2.1, by rw [cell_setCells (by omega)]; exact HS0.out.2.2.1, by rw [cell_setCells (by omega)]; exact HS0.out.2.2.2.1, by rw [cell_setCells (by omega)]; exact HS0.out.2.2.2.2.1, by rw [cell_setCells (by omega)]; exact HS0.out.2.2.2.2.2⟩
  have HR1 : Hid (Res4 P1 (w.heap.size + 1)) := by rw [hP1]; exact HRY.out.store _
  have HG1 : Hid (P1.rangeAt (w.heap.size + 1) 0 C.toList) := by rw [hP1]; exact World.rangeAt_setCells_same _ _ _ _ (by rw [Array.length_toList]; exact HTY.out)
  have HB1' : Hid (Below w.heap.size w P1) := by rw [hP1]; exact below_setCells HBYw.out (by omega) _ _
  have HM1 : Hid (P1.heap[b]? = w1.heap[b]?) := by show P1.heap[b]? = _; rw [hP1, heap_setCells (by have := HAns.out.2.2.2.1; omega)]; exact HMY.out
  rw [← hP1]
  refine hK _ _ ⟨HS1.out, ?_⟩
  clear hK hP1
  refine wpAnyH_all (rs := [4]) (by kernel_rfl) (by simp) ?_
  intro i hi
  obtain rfl : i = 4 := by simpa using hi
  refine wpOp_step (by rfl) (fun K' hK => ?_)
  rw [if_pos (by rfl)]
  have HT2 : Hid (P1.there (w.heap.size + 2) 0 2) := fun j hj => by
    rw [Nat.zero_add]
    refine ⟨?_, HR1.out.xf j⟩
    rcases (by omega : j = 0 ∨ j = 1) with rfl | rfl
    · rw [show P1.cell? ⟨w.heap.size + 2, 0, none⟩ = _ from HR1.out.x0]; rfl
    · rw [show P1.cell? ⟨w.heap.size + 2, 1, none⟩ = _ from HR1.out.x1]; rfl
  refine wp_store_mid 77 _ _ rfl (w.heap.size + 2) 0 #[.int .u8 x.tag, .int .u64 x.rest] rfl rfl HT2.out (by rw [infoWd]; rfl) (all_oneCell_toArray (cs := [.int .u8 x.tag, .int .u64 x.rest]) (fun v hv => by simp at hv; rcases hv with rfl | rfl <;> rfl)) ?_
  obtain ⟨P2, hP2⟩ : ∃ P, P = P1.setCells (w.heap.size + 2) 0 #[.int .u8 x.tag, .int .u64 x.rest].toList := ⟨_, rfl⟩
  have HS2 : Hid (P2.rangeAt w1.heap.size 0 C.toList ∧ P2.cell? ⟨w1.heap.size + 1, 0, none⟩ = some (.int .u8 x.tag) ∧ P2.cell? ⟨w1.heap.size + 1, 1, none⟩ = some (.int .u64 x.rest) ∧ P2.cell? ⟨w2.heap.size, 0, none⟩ = some (.int .i64 m.ver) ∧ P2.cell? ⟨w2.heap.size, 1, none⟩ = some (.int .u8 m.value.tag) ∧ P2.cell? ⟨w2.heap.size, 2, none⟩ = some (.int .u64 m.value.rest)) := by
    rw [hP2]
    exact ⟨World.rangeAt_setCells_apart HS1.out.1 _ _ _ (Or.inl (by omega)), by rw [cell_setCells (by omega)]; exact HS1.out.2.1, by rw [cell_setCells (by omega)]; exact HS1.out.2.2.1, by rw [cell_setCells (by omega)]; exact HS1.out.2.2.2.1, by rw [cell_setCells (by omega)]; exact HS1.out.2.2.2.2.1, by rw [cell_setCells (by omega)]; exact HS1.out.2.2.2.2.2⟩
  have HG2 : Hid (P2.rangeAt (w.heap.size + 1) 0 C.toList) := by rw [hP2]; exact World.rangeAt_setCells_apart HG1.out _ _ _ (Or.inl (by omega))
  have HX2 : Hid (P2.rangeAt (w.heap.size + 2) 0 [.int .u8 x.tag, .int .u64 x.rest]) := by rw [hP2]; exact World.rangeAt_setCells_same _ _ _ _ HT2.out
  have HT3 : Hid (P2.there (w.heap.size + 3) 0 3) := fun j hj => by
    rw [hP2, cell_setCells (by omega), World.frozen?_setCells, Nat.zero_add]
    refine ⟨?_, HR1.out.mf j⟩
    rcases (by omega : j = 0 ∨ j = 1 ∨ j = 2) with rfl | rfl | rfl
    · rw [show P1.cell? ⟨w.heap.size + 3, 0, none⟩ = _ from HR1.out.m0]; rfl
    · rw [show P1.cell? ⟨w.heap.size + 3, 1, none⟩ = _ from HR1.out.m1]; rfl
    · rw [show P1.cell? ⟨w.heap.size + 3, 2, none⟩ = _ from HR1.out.m2]; rfl
  have HB2' : Hid (Below w.heap.size w P2) := by rw [hP2]; exact below_setCells HB1'.out (by omega) _ _
  have HM2 : Hid (P2.heap[b]? = w1.heap[b]?) := by show P2.heap[b]? = _; rw [hP2, heap_setCells (by have := HAns.out.2.2.2.1; omega)]; exact HM1.out
  rw [← hP2]
  refine hK _ _ ⟨HS2.out, ?_⟩
  clear hK hP2
  refine wpAnyH_all (rs := [5]) (by kernel_rfl) (by simp) ?_
  intro i hi
  obtain rfl : i = 5 := by simpa using hi
  refine wpOp_step (by rfl) (fun K' hK => ?_)
  rw [if_pos (by rfl)]
  refine wp_store_mid 100 _ _ rfl (w.heap.size + 3) 0 #[.int .i64 m.ver, .int .u8 m.value.tag, .int .u64 m.value.rest] rfl rfl HT3.out (by rw [infoMy]; rfl) (all_oneCell_toArray (cs := [.int .i64 m.ver, .int .u8 m.value.tag, .int .u64 m.value.rest]) (fun v hv => by simp at hv; rcases hv with rfl | rfl | rfl <;> rfl)) ?_
  obtain ⟨P3, hP3⟩ : ∃ P, P = P2.setCells (w.heap.size + 3) 0 #[.int .i64 m.ver, .int .u8 m.value.tag, .int .u64 m.value.rest].toList := ⟨_, rfl⟩
  have HS3 : Hid (P3.rangeAt w1.heap.size 0 C.toList ∧ P3.cell? ⟨w1.heap.size + 1, 0, none⟩ = some (.int .u8 x.tag) ∧ P3.cell? ⟨w1.heap.size + 1, 1, none⟩ = some (.int .u64 x.rest) ∧ P3.cell? ⟨w2.heap.size, 0, none⟩ = some (.int .i64 m.ver) ∧ P3.cell? ⟨w2.heap.size, 1, none⟩ = some (.int .u8 m.value.tag) ∧ P3.cell? ⟨w2.heap.size, 2, none⟩ = some (.int .u64 m.value.rest)) := by
    rw [hP3]
    exact ⟨World.rangeAt_setCells_apart HS2.out.1 _ _ _ (Or.inl (by omega)), by rw [cell_setCells (by omega)]; exact HS2.out.2.1, by rw [cell_setCells (by omega)]; exact HS2.out.2.2.1, by rw [cell_setCells (by omega)]; exact HS2.out.2.2.2.1, by rw [cell_setCells (by omega)]; exact HS2.out.2.2.2.2.1, by rw [cell_setCells (by omega)]; exact HS2.out.2.2.2.2.2⟩
  have HG3 : Hid (P3.rangeAt (w.heap.size + 1) 0 C.toList) := by rw [hP3]; exact World.rangeAt_setCells_apart HG2.out _ _ _ (Or.inl (by omega))
  have HX3 : Hid (P3.rangeAt (w.heap.size + 2) 0 [.int .u8 x.tag, .int .u64 x.rest]) := by rw [hP3]; exact World.rangeAt_setCells_apart HX2.out _ _ _ (Or.inl (by omega))
  have HY3 : Hid (P3.rangeAt (w.heap.size + 3) 0 [.int .i64 m.ver, .int .u8 m.value.tag, .int .u64 m.value.rest]) := by rw [hP3]; exact World.rangeAt_setCells_same _ _ _ _ HT3.out
  have HB3' : Hid (Below w.heap.size w P3) := by rw [hP3]; exact below_setCells HB2'.out (by omega) _ _
  have HM3 : Hid (P3.heap[b]? = w1.heap[b]?) := by show P3.heap[b]? = _; rw [hP3, heap_setCells (by have := HAns.out.2.2.2.1; omega)]; exact HM2.out
  rw [← hP3]
  refine hK _ _ ⟨HS3.out, ?_⟩
  clear hK hP3
  refine wpAnyH_all (rs := [6]) (by kernel_rfl) (by simp) ?_
  intro i hi
  obtain rfl : i = 6 := by simpa using hi
  refine wpOp_step (by rfl) (fun K' hK => ?_)
  rw [if_pos (by rfl)]
  replace hK : Shut (∀ a w, _ → K' a w) := hK
  go_simp
  refine hK.out _ _ ⟨HS3.out, ?_⟩
  clear hK
  refine wpAnyH_done (by kernel_rfl) ?_ _
  go_wp2
  refine bodyPost_ret (v := .tuple #[.agg C, x.val, m.val, .int .i64 0]) ?_ rfl ⟨C, x, m, by rw [HE.out], hCs, HCa.out, fun _ => ⟨HXs.out, HMt.out, b, by have := HAns.out.2.2.2.1; omega, HAns.out.1, HAns.out.2.1.keep HM3.out, HAns.out.2.2.1⟩, HB3'.out⟩
  rw [results_ccct rfl]
  simp only [Array.getD_eq_getD_getElem?, List.getElem?_toArray, List.getElem?_cons_succ, List.getElem?_cons_zero, Option.getD_some, asAddr, Sem.run_pure, Result.andThen_ok]
  rw [loadGl _ _ C.toList hCl HG3.out]
  simp only [Result.andThen_ok, Array.toArray_toList]
  rw [ldWd _ (w.heap.size + 2) x (HX3.out 0 _ rfl) (HX3.out 1 _ rfl)]
  simp only [Result.andThen_ok]
  rw [ldMy _ (w.heap.size + 3) m (HY3.out 0 _ rfl) (HY3.out 1 _ rfl) (HY3.out 2 _ rfl)]
  rfl
end Go.Proofs.Ytlamkbggfbancaa
