/-
  PushSegs of the model and of the program: their codes, and the stack with an item more, in rows of its own; nothing that was there is turned.
-/
import Derived.Test.YtienmmgkiphkdaaSgTurn
namespace Go.Proofs.Ytienmmgkiphkdaa
open Go.RowKit Go.Extern.Stop Go.Stop Go.Extern Num Go.Lib

theorem fine_bounds {size : Int} {ps : List (List Int)} (hf : FineS size ps) {P : List (List Int × Value)} (h : P.map Prod.fst = ps) : P.length ≤ 1048576 ∧ ∀ (i : Nat) (h : i < P.length), P[i].1.length ≤ 1048576 := by
  refine ⟨by rw [map_len h]; exact hf.small.len, fun i hi => ?_⟩
  have hi' : i < ps.length := by rw [← map_len h]; exact hi
  have e : P[i].1 = ps[i] := by simp only [← h]; simp
  rw [e]
  exact hf.small.part i hi'
theorem fine_pos {size : Int} {ps : List (List Int)} (hf : FineS size ps) : ∀ (k : Nat) (h : k < ps.length), 0 < ps[k].length := fun k h => (hf.parts.at k h).1
/-- Two cells stored into a box that is new. -/
theorem SgB.store2 {T Tb : TypeId} {w : World} {b B : Nat} {size : Int} {v x0 x1 : Value} {P : List (List Int × Value)} (hb : w.heap[b]? = some (.cells #[x0, x1] Tb)) (h : PV T w B v P) (h1 : T ≠ Tb) (h2 : 2 ≠ Tb) : SgB T Tb ((w.setCell ⟨b, 0, none⟩ (.int .i64 size)).setCell ⟨b, 1, none⟩ v) b B size v P := by
  have hb1 : (w.setCell ⟨b, 0, none⟩ (.int .i64 size)).heap[b]? = some (.cells #[.int .i64 size, x1] Tb) := by rw [heap_setCell_same w b 0 _ Tb _ hb]; rfl
  refine SgB.store (v := x1) hb1 ?_ h1 h2
  exact ⟨own_set' h.row (fun g hg => blk_ne hb h.row h1 g hg) _, fun i hi => own_set' (h.iv.items i hi) (fun g hg => blk_ne hb (h.iv.items i hi) h2 g hg) _, h.iv.apart⟩
set_option maxRecDepth 100000 in
set_option maxHeartbeats 1000000 in
theorem specPu_any (size : Int) (v : Value) (ps : List (List Int)) (item : Int) (w : World) (hs : SmallS ps) (h : SeeP w v ps) :
    Calls Try.prog 15 #[segV size v, .int .i64 item] w fun e w' => AnsS (pushC size ps) 0 (pushZ size ps) (pushQ size ps item) w e w' := by
  obtain ⟨R, hR⟩ : ∃ R, R = faultS size ps := ⟨_, rfl⟩
  obtain ⟨C, hC⟩ : ∃ C, C = pushC size ps := ⟨_, rfl⟩
  obtain ⟨Z, hZ⟩ : ∃ Z, Z = pushZ size ps := ⟨_, rfl⟩
  obtain ⟨Q, hQ⟩ : ∃ Q, Q = pushQ size ps item := ⟨_, rfl⟩
  have HC : Hid (C = if R = 0 then (if 4000 ≤ ps.flatten.length then 2 else 0) else R) := by show _ = _; rw [hC, hR]; rfl
  have HZ : Hid (Z = if C = 0 then size else 0) := by show _ = _; rw [hZ, hC]; rfl
  have HQ : Hid (Q = if C = 0 then pushL size.toNat ps item else []) := by show _ = _; rw [hQ, hC]; rfl
  have HFi : Hid (R = 0 → FineS size ps) := fun h0 => faultS_fine (hR ▸ h0)
  rw [← hC, ← hZ, ← hQ]
  have HS1 : Hid (∀ u, Below w.heap.size w u → ∀ b, SegAt u b size v → Calls Try.prog 51 #[.pointer (some ⟨b, 0, none⟩)] u fun e w' => e = .returned (.int .i64 R) ∧ w' = u) := fun u hu b hb => by rw [hR]; exact l12Fault_any b size v ps u hs hb (h.below hu)
  have HS2 : Hid (FineS size ps → ∀ u, Below w.heap.size w u → ∀ b, SegAt u b size v → Calls Try.prog 52 #[.pointer (some ⟨b, 0, none⟩)] u fun e w' => e = .returned (.int .i64 (ps.flatten.length : Int)) ∧ Below u.heap.size u w') := fun hf u hu b hb => l12Depth_any b size v ps u hf hb (h.below hu)
  have HS3 : Hid (FineS size ps → ∀ u, Below w.heap.size w u → ∀ b, SegAt u b size v → Calls Try.prog 54 #[.pointer (some ⟨b, 0, none⟩)] u fun e w' => ∃ x, e = .returned x ∧ w'.ownsRow u.heap.size 2 1 x ps.flatten.length (cellsI ps.flatten) ∧ Below u.heap.size u w') := fun hf u hu b hb => l12List_any b size v ps u hf hb (h.below hu)
  obtain ⟨F, hFe⟩ : ∃ F, F = ps.flatten := ⟨_, rfl⟩
  have HFe : Hid (F = ps.flatten) := hFe
  rw [← hFe] at HS2 HS3 HC
  obtain ⟨a, c, rfl, -⟩ := id h
  clear h hs hR hC hZ hQ hFe
  have HA : Hid (∀ u, Below ((w.alloc (.cells #[.int .i64 size, .slice a ps.length c] 26)).alloc (.cells #[.int .i64 0, .int .i64 0, .int .i64 0, .slice none 0 0] 30)).heap.size ((w.alloc (.cells #[.int .i64 size, .slice a ps.length c] 26)).alloc (.cells #[.int .i64 0, .int .i64 0, .int .i64 0, .slice none 0 0] 30)) u → SegAt u w.heap.size size (.slice a ps.length c) ∧ u.cell? ⟨w.heap.size + 1, 0, none⟩ = some (.int .i64 0) ∧ u.cell? ⟨w.heap.size + 1, 1, none⟩ = some (.int .i64 0) ∧ u.cell? ⟨w.heap.size + 1, 2, none⟩ = some (.int .i64 0) ∧ u.cell? ⟨w.heap.size + 1, 3, none⟩ = some (.slice none 0 0) ∧ (∀ j, u.frozen? ⟨w.heap.size + 1, j, none⟩ = false) ∧ w.heap.size + 2 ≤ u.heap.size) := fun u hu => by
    have hz : ((w.alloc (.cells #[.int .i64 size, .slice a ps.length c] 26)).alloc (.cells #[.int .i64 0, .int .i64 0, .int .i64 0, .slice none 0 0] 30)).heap.size = w.heap.size + 2 := by simp
    refine ⟨(SegAt.new w size _ _).below (((Below.refl _ _).alloc (Nat.le_refl _) _).trans (hu.mono (by simp))), ?_, ?_, ?_, ?_, fun j => ?_, by have := hu.size; omega⟩
    · exact cell_keep hu (by simp [go_sem])
    · exact cell_keep hu (by simp [go_sem])
    · exact cell_keep hu (by simp [go_sem])
    · exact cell_keep hu (by simp [go_sem])
    · rw [(bcell hu).2 _ _ (by simp)]; simp [go_sem]
  have H0 : Hid (∀ u, Below ((w.alloc (.cells #[.int .i64 size, .slice a ps.length c] 26)).alloc (.cells #[.int .i64 0, .int .i64 0, .int .i64 0, .slice none 0 0] 30)).heap.size ((w.alloc (.cells #[.int .i64 size, .slice a ps.length c] 26)).alloc (.cells #[.int .i64 0, .int .i64 0, .int .i64 0, .slice none 0 0] 30)) u → Below w.heap.size w u) := fun u hu => (((Below.refl _ _).alloc (Nat.le_refl _) _).alloc (by simp) _).trans (hu.mono (by simp; omega))
  go_enter Try.func15, Try.ntmps15
  go_wp2_with fail
  refine (HS1.out _ (H0.out _ (Below.refl _ _)) _ (HA.out _ (Below.refl _ _)).1).mono ?_
  rintro e w1 ⟨rfl, e1⟩
  have B1 : Hid (Below ((w.alloc (.cells #[.int .i64 size, .slice a ps.length c] 26)).alloc (.cells #[.int .i64 0, .int .i64 0, .int .i64 0, .slice none 0 0] 30)).heap.size ((w.alloc (.cells #[.int .i64 size, .slice a ps.length c] 26)).alloc (.cells #[.int .i64 0, .int .i64 0, .int .i64 0, .slice none 0 0] 30)) w1) := by rw [e1]; exact Below.refl _ _
  clear e1
  obtain ⟨⟨d0, d1⟩, r0, r1, r2, r3, rf, hz⟩ := HA.out w1 B1.out
  have hrl : w.heap.size + 1 < w1.heap.size := by omega
  by_cases hc : R = 0
  · have HF : Hid (FineS size ps) := HFi.out hc
    have HC2 : Hid (C = if 4000 ≤ F.length then 2 else 0) := by show _ = _; rw [HC.out, if_pos hc]
    clear HC HFi
    subst hc
    go_wp2_with fail
    refine (HS2.out HF.out _ (H0.out _ B1.out) _ (HA.out _ B1.out).1).mono ?_
    rintro e w2 ⟨rfl, b2⟩
    have B2 : Hid (Below ((w.alloc (.cells #[.int .i64 size, .slice a ps.length c] 26)).alloc (.cells #[.int .i64 0, .int .i64 0, .int .i64 0, .slice none 0 0] 30)).heap.size ((w.alloc (.cells #[.int .i64 size, .slice a ps.length c] 26)).alloc (.cells #[.int .i64 0, .int .i64 0, .int .i64 0, .slice none 0 0] 30)) w2) := B1.out.trans (b2.mono B1.out.size)
    clear d0 d1 r0 r1 r2 r3 rf hz hrl b2
    obtain ⟨⟨d0, d1⟩, r0, r1, r2, r3, rf, hz⟩ := HA.out w2 B2.out
    have hrl : w.heap.size + 1 < w2.heap.size := by omega
    by_cases h4 : (4000 : Int) ≤ (F.length : Int)
    · have e1 : C = 2 := by rw [HC2.out, if_pos (by omega)]
      have HZ0 : Hid (Z = 0) := by show _ = _; rw [HZ.out, e1]; rfl
      have HQ0 : Hid (Q = []) := by show _ = _; rw [HQ.out, e1]; rfl
      have HR3 : Hid (C = 2) := e1
      have HBw : Hid (Below w.heap.size w w2) := H0.out _ B2.out
      clear HC2 HZ HQ e1
      go_wp2
      refine bodyPost_ret (v := srV 2 0 0 (.slice none 0 0)) (by simp [results, Try.results15, go_sem, r0, r1, r2, r3]) rfl ⟨_, [], by rw [HR3.out, HZ0.out], pv_nil _ _ _, by rw [HQ0.out]; rfl, ?_⟩
      repeat (first | exact HBw.out | refine Below.setCell ?_ (by simp) _)
    · have e1 : C = 0 := by rw [HC2.out, if_neg (by omega)]
      have HZ0 : Hid (Z = size) := by show _ = _; rw [HZ.out, e1]; rfl
      have HQ0 : Hid (Q = pushL size.toNat ps item) := by show _ = _; rw [HQ.out, e1]; rfl
      have HR3 : Hid (C = 0) := e1
      have HOp : Hid (∀ (u : World) (x : Value), SeeI u x F → Calls Try.prog 53 #[.int .i64 size, x] u fun e w' => ∃ v P, e = .returned (segV size v) ∧ PV 78 w' u.heap.size v P ∧ P.map Prod.fst = openL size.toNat F ∧ Below u.heap.size u w') := fun u x hx => l12Open_any size x _ u HF.out.lo (by rw [HFe.out]; exact HF.out.many) hx
      have HOe : Hid (openL size.toNat F = ps) := by show _ = _; rw [HFe.out]; exact openL_of (by have := HF.out.lo; omega) HF.out.parts
      have HPu : Hid (∀ (u : World) (b B : Nat) (v : Value) (P : List (List Int × Value)), B ≤ u.heap.size → P.map Prod.fst = ps → SgB 78 26 u b B size v P → Calls Try.prog 55 #[.pointer (some ⟨b, 0, none⟩), .int .i64 item] u fun e w' => e = .returned (.tuple #[]) ∧ ∃ v' P', SgB 78 26 w' b B size v' P' ∧ P'.map Prod.fst = pushL size.toNat (P.map Prod.fst) item ∧ KB b B u w') := fun u b B v P hB hm hsg => l12Push_any b B size item v P u hB HF.out.lo (fine_bounds HF.out hm).1 (fine_bounds HF.out hm).2 hsg
      clear HC2 HZ HQ e1 d0 d1 r0 r1 r2 r3 rf hz hrl
      go_wp2_with fail
      refine wp_region_facts (by kernel_rfl) 5 (fun v => Below w2.heap.size w2 v) (fun u v => Below u.heap.size u v) (fun i v u => match i with | 0 => (fun v u => v = .pointer (some ⟨w.heap.size, 0, none⟩)) v u | 1 => (fun v u => v = .int .i64 size) v u | 2 => (fun v u => SeeI u v F) v u | 3 => (fun v u => ∃ x P, v = segV size x ∧ PV 78 u w2.heap.size x P ∧ P.map Prod.fst = openL size.toNat F) v u | 4 => (fun v u => ∃ b, v = .pointer (some ⟨b, 0, none⟩) ∧ u.heap[b]? = some (.cells #[.int .i64 0, .slice none 0 0] 26) ∧ w2.heap.size ≤ b) v u | _ => True) (by kernel_rfl) [0, 1, 2, 3, 4] (by kernel_rfl) ?b0 ?bk ?fk ⟨?s0, ?s1, ?s2, ?s3, ?s4, trivial⟩ _ rfl [(0, some 15), (1, some 16), (2, some 17), (3, some 18), (4, some 6)] (by kernel_rfl) ?last
      case b0 => exact Below.drew (Below.refl _ _)
      case bk => exact fun u v h hb => h.trans (hb.mono h.size)
      case fk => intro i v u u' h hb; match i, h with | 0, h => exact (h) | 1, h => exact (h) | 2, h => exact (h.below hb) | 3, h => exact (let ⟨x, P, e, o, m⟩ := h; ⟨x, P, e, o.below hb, m⟩) | 4, h => exact (let ⟨b, e, o, q⟩ := h; ⟨b, e, (by rw [hb.block b (Array.getElem?_eq_some_iff.1 o).1]; exact o), q⟩) | _ + 5, _ => exact trivial
      case s0 =>
        refine StepF.of rfl [] (by kernel_rfl) ?_
        intro vs u hB hf K hK
        clear hf
        simp only [putsA, List.foldl_nil, Act.put, List.setIfInBounds_toArray] at hK ⊢
        rw [if_pos (by rfl)]
        go_simp
        exact hK.out _ _ (Below.refl _ _) rfl
      case s1 =>
        refine StepF.of rfl [(0, some 15)] (by kernel_rfl) ?_
        intro vs u hB hf K hK
        have f0 : (fun v u => v = .pointer (some ⟨w.heap.size, 0, none⟩)) (vs 0) u := hf.1
        clear hf
        simp only [putsA, List.foldl_cons, List.foldl_nil, Act.put, List.setIfInBounds_toArray, List.set_cons_zero, List.set_cons_succ] at hK ⊢
        generalize vs 0 = v0 at f0 hK ⊢
        rw [if_pos (by rfl)]
        subst f0
        obtain ⟨⟨c0', c1'⟩, -⟩ := HA.out u (B2.out.trans (hB.mono B2.out.size))
        go_simp
        exact hK.out _ _ (Below.refl _ _) rfl
      case s2 =>
        refine StepF.of rfl [] (by kernel_rfl) ?_
        intro vs u hB hf K hK
        clear hf
        simp only [putsA, List.foldl_nil, Act.put, List.setIfInBounds_toArray] at hK ⊢
        rw [if_pos (by rfl)]
        go_simp
        refine (HS3.out HF.out u (H0.out _ (B2.out.trans (hB.mono B2.out.size))) _ (HA.out u (B2.out.trans (hB.mono B2.out.size))).1).mono ?_
        rintro e w4 ⟨x, rfl, o4, b4⟩
        exact hK.out _ _ b4 (seeI_own o4)
      case s3 =>
        refine StepF.of rfl [(1, some 16), (2, some 17)] (by kernel_rfl) ?_
        intro vs u hB hf K hK
        have f1 : (fun v u => v = .int .i64 size) (vs 1) u := hf.1
        have f2 : (fun v u => SeeI u v F) (vs 2) u := hf.2.1
        clear hf
        simp only [putsA, List.foldl_cons, List.foldl_nil, Act.put, List.setIfInBounds_toArray, List.set_cons_zero, List.set_cons_succ] at hK ⊢
        generalize vs 1 = v1 at f1 hK ⊢
        generalize vs 2 = v2 at f2 hK ⊢
        rw [if_pos (by rfl)]
        subst f1
        obtain ⟨ax, cx, rfl, -⟩ := id f2
        go_simp
        refine (HOp.out u _ f2).mono ?_
        rintro e w4 ⟨x, P, rfl, o4, m4, b4⟩
        exact hK.out _ _ b4 ⟨x, P, rfl, o4.base hB.size, m4⟩
      case s4 =>
        refine StepF.of rfl [] (by kernel_rfl) ?_
        intro vs u hB hf K hK
        clear hf
        simp only [putsA, List.foldl_nil, Act.put, List.setIfInBounds_toArray] at hK ⊢
        rw [if_pos (by rfl)]
        go_simp
        exact hK.out _ _ ((Below.refl _ _).alloc (Nat.le_refl _) _) ⟨_, rfl, heap_alloc_new _ _, hB.size⟩
      case last =>
        intro vs u hB hf K hK
        have f0 : (fun v u => v = .pointer (some ⟨w.heap.size, 0, none⟩)) (vs 0) u := hf.1
        have f1 : (fun v u => v = .int .i64 size) (vs 1) u := hf.2.1
        have f2 : (fun v u => SeeI u v F) (vs 2) u := hf.2.2.1
        have f3 : (fun v u => ∃ x P, v = segV size x ∧ PV 78 u w2.heap.size x P ∧ P.map Prod.fst = openL size.toNat F) (vs 3) u := hf.2.2.2.1
        have f4 : (fun v u => ∃ b, v = .pointer (some ⟨b, 0, none⟩) ∧ u.heap[b]? = some (.cells #[.int .i64 0, .slice none 0 0] 26) ∧ w2.heap.size ≤ b) (vs 4) u := hf.2.2.2.2.1
        clear hf
        simp only [putsA, List.foldl_cons, List.foldl_nil, Act.put, List.setIfInBounds_toArray, List.set_cons_zero, List.set_cons_succ]
        generalize vs 0 = v0 at f0 ⊢
        generalize vs 1 = v1 at f1 ⊢
        generalize vs 2 = v2 at f2 ⊢
        generalize vs 3 = v3 at f3 ⊢
        generalize vs 4 = v4 at f4 ⊢
        rw [if_pos (by rfl)]
        clear f0 f1 f2
        obtain ⟨x, P, rfl, hpv, hpm⟩ := f3
        obtain ⟨b, rfl, hbk, hbb⟩ := f4
        have x0 : u.cell? ⟨b, 0, none⟩ = some (.int .i64 0) := by rw [cell_of_row u b 0 _ _ _ hbk]; rfl
        have x1 : u.cell? ⟨b, 1, none⟩ = some (.slice none 0 0) := by rw [cell_of_row u b 1 _ _ _ hbk]; rfl
        have xf : ∀ j, u.frozen? ⟨b, j, none⟩ = false := fun j => by simp [World.frozen?, hbk]
        have hbl : b < u.heap.size := (Array.getElem?_eq_some_iff.1 hbk).1
        have B3 : Hid (Below w2.heap.size w2 u) := hB
        obtain ⟨ax, cx, hx⟩ := hpv.form
        obtain ⟨U, hU⟩ : ∃ U, U = (u.setCell ⟨b, 0, none⟩ (.int .i64 size)).setCell ⟨b, 1, none⟩ x := ⟨_, rfl⟩
        have HUe : Hid (U = (u.setCell ⟨b, 0, none⟩ (.int .i64 size)).setCell ⟨b, 1, none⟩ x) := hU
        have HG : Hid (SgB 78 26 U b w2.heap.size size x P) := by rw [hU]; exact SgB.store2 hbk hpv (by decide) (by decide)
        have HM : Hid (P.map Prod.fst = ps) := by show _ = _; rw [hpm, HOe.out]
        have BU : Hid (Below w2.heap.size w2 U) := by rw [hU]; exact ((hB.setCell (by simpa using hbb) _).setCell (by simpa using hbb) _)
        subst hx
        clear hU hpv hpm hbk hB
        go_simp
        refine hK.out _ _ ?_
        (try rw [← HUe.out])
        clear x0 x1 xf hbl HUe hK
        go_wp2_with fail
        refine (HPu.out U b _ _ P BU.out.size HM.out HG.out).mono ?_
        rintro e w6 ⟨rfl, v', P', hg', hm', hk'⟩
        have HB6 : Hid (Below ((w.alloc (.cells #[.int .i64 size, .slice a ps.length c] 26)).alloc (.cells #[.int .i64 0, .int .i64 0, .int .i64 0, .slice none 0 0] 30)).heap.size ((w.alloc (.cells #[.int .i64 size, .slice a ps.length c] 26)).alloc (.cells #[.int .i64 0, .int .i64 0, .int .i64 0, .slice none 0 0] 30)) w6) := (B2.out.trans (BU.out.mono B2.out.size)).trans (hk'.to (by have := B2.out.size; omega) B2.out.size (Nat.le_trans B2.out.size BU.out.size))
        have HV : Hid (PV 78 w6 w2.heap.size v' P') := hg'.pv
        have HM' : Hid (P'.map Prod.fst = pushL size.toNat ps item) := by show _ = _; rw [hm', HM.out]
        obtain ⟨c0, c1⟩ := hg'.at
        obtain ⟨-, r0, r1, r2, r3, rf, hz⟩ := HA.out w6 HB6.out
        have hrl : w.heap.size + 1 < w6.heap.size := by omega
        have HBw : Hid (Below w.heap.size w w6) := H0.out _ HB6.out
        have hz2 : w.heap.size + 2 ≤ w2.heap.size := by have := B2.out.size; simp at this; omega
        obtain ⟨av, cv, hv'⟩ := hg'.pv.form
        subst hv'
        generalize P'.length = m at HV c1 ⊢
        clear hg' hm' hk' HG BU HM hbb
        go_wp2
        refine bodyPost_ret (v := srV 0 0 size (.slice av m cv)) (by simp [results, Try.results15, go_sem, r0, r1, r2, r3]) rfl ⟨_, P', by rw [HR3.out, HZ0.out], ?_, by rw [HQ0.out]; exact HM'.out, ?_⟩
        · refine PV.base (B := w2.heap.size) ?_ (by omega)
          repeat (first | exact HV.out | refine PV.setLow ?_ (by omega))
        · repeat (first | exact HBw.out | refine Below.setCell ?_ (by simp) _)
  · have hcn : (R != 0) = true := by rw [bne_iff_ne]; exact hc
    have e1 : C = R := by rw [HC.out, if_neg hc]
    have HZ0 : Hid (Z = 0) := by show _ = _; rw [HZ.out, e1, if_neg hc]
    have HQ0 : Hid (Q = []) := by show _ = _; rw [HQ.out, e1, if_neg hc]
    have HR3 : Hid (C = R) := e1
    have HBw : Hid (Below w.heap.size w w1) := H0.out _ B1.out
    clear hc HC HZ HQ e1 HFi
    go_wp2
    refine bodyPost_ret (v := srV R 0 0 (.slice none 0 0)) (by simp [results, Try.results15, go_sem, r0, r1, r2, r3]) rfl ⟨_, [], by rw [HR3.out, HZ0.out], pv_nil _ _ _, by rw [HQ0.out]; rfl, ?_⟩
    repeat (first | exact HBw.out | refine Below.setCell ?_ (by simp) _)
set_option maxRecDepth 100000 in
set_option maxHeartbeats 1000000 in
theorem implPu_any (size : Int) (v : Value) (ps : List (List Int)) (item : Int) (w : World) (hs : SmallS ps) (h : SeeP w v ps) :
    Calls Try.prog 14 #[segV size v, .int .i64 item] w fun e w' => AnsS (pushC size ps) 0 (pushZ size ps) (pushQ size ps item) w e w' := by
  obtain ⟨R, hR⟩ : ∃ R, R = faultS size ps := ⟨_, rfl⟩
  obtain ⟨C, hC⟩ : ∃ C, C = pushC size ps := ⟨_, rfl⟩
  obtain ⟨Z, hZ⟩ : ∃ Z, Z = pushZ size ps := ⟨_, rfl⟩
  obtain ⟨Q, hQ⟩ : ∃ Q, Q = pushQ size ps item := ⟨_, rfl⟩
  obtain ⟨N, hN⟩ : ∃ N : Int, N = if R = 0 then (ps.flatten.length : Int) else 0 := ⟨_, rfl⟩
  have HC : Hid (C = if R = 0 then (if 4000 ≤ ps.flatten.length then 2 else 0) else R) := by show _ = _; rw [hC, hR]; rfl
  have HZ : Hid (Z = if C = 0 then size else 0) := by show _ = _; rw [hZ, hC]; rfl
  have HQ : Hid (Q = if C = 0 then pushL size.toNat ps item else []) := by show _ = _; rw [hQ, hC]; rfl
  have HFi : Hid (R = 0 → FineS size ps) := fun h0 => faultS_fine (hR ▸ h0)
  have HN : Hid (N = if R = 0 then (ps.flatten.length : Int) else 0) := hN
  have hsl : ps.flatten.length ≤ 1048576 := hs.all
  rw [← hC, ← hZ, ← hQ]
  have HS1 : Hid (∀ u, Below w.heap.size w u → Calls Try.prog 20 #[segV size v] u fun e w' => e = .returned (IR R N) ∧ Below u.heap.size u w') := fun u hu => by rw [hN, hR]; exact implDp_seg size v ps u hs (h.below hu)
  have HS2 : Hid (∀ u, Calls Try.prog 47 #[.int .i64 (N + 1)] u fun e w' => e = .returned (.int .i64 (if 4000 < N + 1 then 2 else 0)) ∧ w' = u) := fun u => manyFault_any _ u
  have HS3 : Hid (FineS size ps → ∀ u, Below w.heap.size w u → Calls Try.prog 48 #[segV size v] u fun e w' => ∃ x P, e = .returned (segV size x) ∧ PV 33 w' u.heap.size x P ∧ P.map Prod.fst = ps ∧ Below u.heap.size u w') := fun hf u hu => piecesIn_any size v ps u hs (fine_pos hf) (h.below hu)
  obtain ⟨a, c, rfl, -⟩ := id h
  clear h hs hR hC hZ hQ hN
  have HA : Hid (∀ u, Below ((w.alloc (.cells #[.int .i64 size, .slice a ps.length c] 26)).alloc (.cells #[.int .i64 0, .int .i64 0, .int .i64 0, .slice none 0 0] 30)).heap.size ((w.alloc (.cells #[.int .i64 size, .slice a ps.length c] 26)).alloc (.cells #[.int .i64 0, .int .i64 0, .int .i64 0, .slice none 0 0] 30)) u → SegAt u w.heap.size size (.slice a ps.length c) ∧ u.cell? ⟨w.heap.size + 1, 0, none⟩ = some (.int .i64 0) ∧ u.cell? ⟨w.heap.size + 1, 1, none⟩ = some (.int .i64 0) ∧ u.cell? ⟨w.heap.size + 1, 2, none⟩ = some (.int .i64 0) ∧ u.cell? ⟨w.heap.size + 1, 3, none⟩ = some (.slice none 0 0) ∧ (∀ j, u.frozen? ⟨w.heap.size + 1, j, none⟩ = false) ∧ w.heap.size + 2 ≤ u.heap.size) := fun u hu => by
    have hz : ((w.alloc (.cells #[.int .i64 size, .slice a ps.length c] 26)).alloc (.cells #[.int .i64 0, .int .i64 0, .int .i64 0, .slice none 0 0] 30)).heap.size = w.heap.size + 2 := by simp
    refine ⟨(SegAt.new w size _ _).below (((Below.refl _ _).alloc (Nat.le_refl _) _).trans (hu.mono (by simp))), ?_, ?_, ?_, ?_, fun j => ?_, by have := hu.size; omega⟩
    · exact cell_keep hu (by simp [go_sem])
    · exact cell_keep hu (by simp [go_sem])
    · exact cell_keep hu (by simp [go_sem])
    · exact cell_keep hu (by simp [go_sem])
    · rw [(bcell hu).2 _ _ (by simp)]; simp [go_sem]
  have H0 : Hid (∀ u, Below ((w.alloc (.cells #[.int .i64 size, .slice a ps.length c] 26)).alloc (.cells #[.int .i64 0, .int .i64 0, .int .i64 0, .slice none 0 0] 30)).heap.size ((w.alloc (.cells #[.int .i64 size, .slice a ps.length c] 26)).alloc (.cells #[.int .i64 0, .int .i64 0, .int .i64 0, .slice none 0 0] 30)) u → Below w.heap.size w u) := fun u hu => (((Below.refl _ _).alloc (Nat.le_refl _) _).alloc (by simp) _).trans (hu.mono (by simp; omega))
  obtain ⟨⟨d0, d1⟩, -⟩ := HA.out _ (Below.refl _ _)
  go_enter Try.func14, Try.ntmps14
  go_wp2_with fail
  clear d0 d1
  refine (HS1.out _ (H0.out _ (Below.refl _ _))).mono ?_
  rintro e w1 ⟨rfl, b1⟩
  obtain ⟨u1, hu1⟩ : ∃ u, u = w1.alloc (.cells #[.int .i64 R, .int .i64 N] 40) := ⟨_, rfl⟩
  have HU1 : Hid (u1 = w1.alloc (.cells #[.int .i64 R, .int .i64 N] 40)) := hu1
  have B1 : Hid (Below ((w.alloc (.cells #[.int .i64 size, .slice a ps.length c] 26)).alloc (.cells #[.int .i64 0, .int .i64 0, .int .i64 0, .slice none 0 0] 30)).heap.size ((w.alloc (.cells #[.int .i64 size, .slice a ps.length c] 26)).alloc (.cells #[.int .i64 0, .int .i64 0, .int .i64 0, .slice none 0 0] 30)) u1) := by rw [hu1]; exact b1.alloc b1.size _
  have y0 : u1.cell? ⟨w1.heap.size, 0, none⟩ = some (.int .i64 R) := by rw [hu1, World.cell?_alloc_at _ _ _ _ rfl]; rfl
  have y1 : u1.cell? ⟨w1.heap.size, 1, none⟩ = some (.int .i64 N) := by rw [hu1, World.cell?_alloc_at _ _ _ _ rfl]; rfl
  obtain ⟨⟨d0, d1⟩, r0, r1, r2, r3, rf, hz⟩ := HA.out u1 B1.out
  have hrl : w.heap.size + 1 < u1.heap.size := by omega
  have HBw : Hid (Below w.heap.size w u1) := H0.out _ B1.out
  by_cases hc : R = 0
  · have HF : Hid (FineS size ps) := HFi.out hc
    have HC2 : Hid (C = if 4000 ≤ ps.flatten.length then 2 else 0) := by show _ = _; rw [HC.out, if_pos hc]
    have hNe : N = (ps.flatten.length : Int) := by rw [HN.out, if_pos hc]
    obtain ⟨M, hM⟩ : ∃ M, M = ps.flatten.length := ⟨_, rfl⟩
    rw [← hM] at HC2 hNe hsl
    have HMl : Hid (M = ps.flatten.length) := hM
    clear hM HC HFi HN
    subst hNe hc
    rw [hu1] at y0 y1 d0 d1 r0 r1 r2 r3 rf hrl
    clear hu1
    by_cases h4 : (4000 : Int) ≤ (M : Int)
    · have e1 : C = 2 := by rw [HC2.out, if_pos (by omega)]
      have e2 : (if (4000 : Int) < (M : Int) + 1 then (2 : Int) else 0) = 2 := if_pos (by omega)
      rw [e2] at HS2
      have HZ0 : Hid (Z = 0) := by show _ = _; rw [HZ.out, e1]; rfl
      have HQ0 : Hid (Q = []) := by show _ = _; rw [HQ.out, e1]; rfl
      have HR3 : Hid (C = 2) := e1
      rw [HU1.out] at HBw
      clear HC2 HZ HQ e1 e2 HU1
      go_wp2_with (go_at_call 47; refine (HS2.out _).mono ?_; rintro e w' ⟨rfl, rfl⟩)
      refine bodyPost_ret (v := srV 2 0 0 (.slice none 0 0)) (by simp [results, Try.results14, go_sem, r0, r1, r2, r3]) rfl ⟨_, [], by rw [HR3.out, HZ0.out], pv_nil _ _ _, by rw [HQ0.out]; rfl, ?_⟩
      repeat (first | exact HBw.out | refine Below.setCell ?_ (by simp) _)
    · have e1 : C = 0 := by rw [HC2.out, if_neg (by omega)]
      have e2 : (if (4000 : Int) < (M : Int) + 1 then (2 : Int) else 0) = 0 := if_neg (by omega)
      rw [e2] at HS2
      have HZ0 : Hid (Z = size) := by show _ = _; rw [HZ.out, e1]; rfl
      have HQ0 : Hid (Q = pushL size.toNat ps item) := by show _ = _; rw [HQ.out, e1]; rfl
      have HR3 : Hid (C = 0) := e1
      have HFn : Hid (FineS size (pushL size.toNat ps item)) := pushL_fineS (by
        unfold pushC
        rw [HF.out.fault, if_pos rfl, if_neg (by have := HMl.out; omega)]) item
      have HPu : Hid (∀ (u : World) (b B : Nat) (v : Value) (P : List (List Int × Value)), B ≤ u.heap.size → P.map Prod.fst = ps → SgB 33 67 u b B size v P → Calls Try.prog 49 #[.pointer (some ⟨b, 0, none⟩), .int .i64 item] u fun e w' => e = .returned (.tuple #[]) ∧ ∃ v' P', SgB 33 67 w' b B size v' P' ∧ P'.map Prod.fst = pushL size.toNat (P.map Prod.fst) item ∧ KB b B u w') := fun u b B v P hB hm hsg => push_any b B size item v P u hB HF.out.lo (fine_bounds HF.out hm).1 (fine_bounds HF.out hm).2 hsg
      clear HC2 HZ HQ e1 e2
      go_wp2_with fail
      refine (HS2.out _).mono ?_
      rintro e w2 ⟨rfl, e3⟩
      rw [← HU1.out] at e3 y0 y1 d0 d1 r0 r1 r2 r3 rf hrl
      subst e3
      clear HU1 r0 r1 r2 r3 rf
      go_wp2_with fail
      clear d0 d1 y0 y1
      refine (HS3.out HF.out _ HBw.out).mono ?_
      rintro e w3 ⟨x, P, rfl, o3, m3, b3⟩
      obtain ⟨ax, cx, rfl⟩ := o3.form
      obtain ⟨u3, hu3⟩ : ∃ u, u = w3.alloc (.cells #[.int .i64 size, .slice ax P.length cx] 67) := ⟨_, rfl⟩
      have HU3 : Hid (u3 = w3.alloc (.cells #[.int .i64 size, .slice ax P.length cx] 67)) := hu3
      have HG : Hid (SgB 33 67 u3 w3.heap.size w2.heap.size size (.slice ax P.length cx) P) := by rw [hu3]; exact SgB.new o3
      have HM : Hid (P.map Prod.fst = ps) := m3
      have B3 : Hid (Below w2.heap.size w2 u3) := by rw [hu3]; exact b3.alloc b3.size _
      have hz3 : w2.heap.size ≤ w3.heap.size := b3.size
      clear hu3 o3 m3 b3
      go_wp2_with fail
      rw [← HU3.out]
      clear HU3
      refine (HPu.out u3 w3.heap.size _ _ P B3.out.size HM.out HG.out).mono ?_
      rintro e w4 ⟨rfl, v', P', hg', hm', hk'⟩
      have hm'' : P'.map Prod.fst = pushL size.toNat ps item := by rw [hm', HM.out]
      have B4 : Hid (Below ((w.alloc (.cells #[.int .i64 size, .slice a ps.length c] 26)).alloc (.cells #[.int .i64 0, .int .i64 0, .int .i64 0, .slice none 0 0] 30)).heap.size ((w.alloc (.cells #[.int .i64 size, .slice a ps.length c] 26)).alloc (.cells #[.int .i64 0, .int .i64 0, .int .i64 0, .slice none 0 0] 30)) w4) := (B1.out.trans (B3.out.mono B1.out.size)).trans (hk'.to (by have := B1.out.size; omega) B1.out.size (Nat.le_trans B1.out.size B3.out.size))
      have hz4 : w2.heap.size ≤ w4.heap.size := Nat.le_trans B3.out.size hk'.size
      have HV : Hid (PV 33 w4 w2.heap.size v' P') := hg'.pv
      have HM' : Hid (P'.map Prod.fst = pushL size.toNat ps item) := hm''
      have HSo : Hid (Calls Try.prog 50 #[segV size v'] w4 fun e w' => ∃ x, e = .returned (segV size x) ∧ PV 78 w' w2.heap.size x P' ∧ Below w4.heap.size w4 w') := segsOf_any size v' P' _ w4 hz4 (fine_bounds HFn.out hm'').1 hg'.pv
      obtain ⟨c0, c1⟩ := hg'.at
      obtain ⟨av, cv, hv'⟩ := hg'.pv.form
      subst hv'
      clear hg' hm' hm'' hk' HG B3 HM hz3
      go_wp2_with fail
      clear c0 c1
      refine HSo.out.mono ?_
      rintro e w5 ⟨x, rfl, o5, b5⟩
      have B5 : Hid (Below ((w.alloc (.cells #[.int .i64 size, .slice a ps.length c] 26)).alloc (.cells #[.int .i64 0, .int .i64 0, .int .i64 0, .slice none 0 0] 30)).heap.size ((w.alloc (.cells #[.int .i64 size, .slice a ps.length c] 26)).alloc (.cells #[.int .i64 0, .int .i64 0, .int .i64 0, .slice none 0 0] 30)) w5) := B4.out.trans (b5.mono B4.out.size)
      obtain ⟨-, r0, r1, r2, r3, rf, hz5⟩ := HA.out w5 B5.out
      have hrl5 : w.heap.size + 1 < w5.heap.size := by omega
      have HB5 : Hid (Below w.heap.size w w5) := H0.out _ B5.out
      have HV5 : Hid (PV 78 w5 (w.heap.size + 2) x P') := o5.base hz
      obtain ⟨ax', cx', hx'⟩ := o5.form
      subst hx'
      generalize P'.length = m at HV5 ⊢
      clear o5 b5 hrl hz
      go_wp2
      refine bodyPost_ret (v := srV 0 0 size (.slice ax' m cx')) (by simp [results, Try.results14, go_sem, r0, r1, r2, r3]) rfl ⟨_, P', by rw [HR3.out, HZ0.out], ?_, by rw [HQ0.out]; exact HM'.out, ?_⟩
      · refine PV.base (B := w.heap.size + 2) ?_ (by omega)
        repeat (first | exact HV5.out | refine PV.setLow ?_ (by omega))
      · repeat (first | exact HB5.out | refine Below.setCell ?_ (by simp) _)
  · have hcn : (R != 0) = true := by rw [bne_iff_ne]; exact hc
    have e1 : C = R := by rw [HC.out, if_neg hc]
    have HZ0 : Hid (Z = 0) := by show _ = _; rw [HZ.out, e1, if_neg hc]
    have HQ0 : Hid (Q = []) := by show _ = _; rw [HQ.out, e1, if_neg hc]
    have HR3 : Hid (C = R) := e1
    rw [hu1] at y0 y1 d0 d1 r0 r1 r2 r3 rf hrl
    rw [HU1.out] at HBw
    clear hc HC HZ HQ e1 HFi HN hu1 HU1
    go_wp2
    refine bodyPost_ret (v := srV R 0 0 (.slice none 0 0)) (by simp [results, Try.results14, go_sem, r0, r1, r2, r3]) rfl ⟨_, [], by rw [HR3.out, HZ0.out], pv_nil _ _ _, by rw [HQ0.out]; rfl, ?_⟩
    repeat (first | exact HBw.out | refine Below.setCell ?_ (by simp) _)
end Go.Proofs.Ytienmmgkiphkdaa
