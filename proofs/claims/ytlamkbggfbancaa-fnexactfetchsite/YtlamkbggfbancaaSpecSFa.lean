/-
  The model's SiteFault; nothing that was there is turned.
-/
import Derived.Test.YtlamkbggfbancaaSiteMath
import Derived.Test.YtlamkbggfbancaaFacts
namespace Go.Proofs.Ytlamkbggfbancaa
open Go.RowKit Go.Extern.Stop Go.Stop Go.Extern Num Go.Lib

/-- The cells of a site. -/
structure SteAt (b : Nat) (t : Ste) (w : World) : Prop where
  c0 : w.cell? ⟨b, 0, none⟩ = some (.int .i64 t.ver)
  c1 : w.cell? ⟨b, 1, none⟩ = some (.int .i64 t.value.kind)
  c2 : w.cell? ⟨b, 2, none⟩ = some (.int .i64 t.value.num)
  c3 : w.cell? ⟨b, 3, none⟩ = some (.string t.value.name)
theorem SteAt.below {b : Nat} {t : Ste} {w w' : World} (h : SteAt b t w) (hb : Below w.heap.size w w') : SteAt b t w' := ⟨cell_keep hb h.c0, cell_keep hb h.c1, cell_keep hb h.c2, cell_keep hb h.c3⟩
theorem SteAt.vl {b : Nat} {t : Ste} {w : World} (h : SteAt b t w) : VluAt b 1 t.value w := ⟨h.c1, h.c2, h.c3⟩
/-- What is wrong with a site behind what is asked first. -/
def siteM (l : List Glb) (s : ByteArray) (t : Ste) : Int := if t.ver = 0 then (if eqVB t.value vZ = true then 0 else 1) else if 1 ≤ t.ver ∧ t.ver ≤ 99999 then (if vfault t.value ≠ 0 then vfault t.value else if parts l s t = true then 1 else 0) else 3
theorem codeSF_site (l : List Glb) (s : ByteArray) (t : Ste) : codeSF l s t = if askG l s ≠ 0 then askG l s else siteM l s t := by
  unfold codeSF
  by_cases h : askG l s = 0
  · have hn : ¬ askG l s ≠ 0 := by simpa using h
    simp only [if_neg hn]
    unfold siteM memC
    by_cases h0 : t.ver = 0
    · rw [if_pos h0, if_pos h0]
      by_cases hv : eqVB t.value vZ = true
      · rw [if_pos hv]
        have hp : parts l s t = false := by
          have hg : globFault l = 0 := by
            unfold askG at h
            by_cases h1 : globFault l = 0
            · exact h1
            · rw [if_pos h1] at h; exact h
          obtain ⟨_, hF⟩ := GFine.of hg
          unfold parts
          cases hat : atG l s with
          | none => rfl
          | some k =>
            obtain ⟨hk, _, _⟩ := atG_some hat
            have hv := hF.ver k hk hk
            have e : ((l.getD k gZ).ver == t.ver) = false := by
              rw [h0]
              have : l.getD k gZ = l[k] := by simp [List.getD, hk]
              rw [this]; simp; omega
            simp only [e]; rfl
        simp [hp]
      · rw [if_neg hv]; simp
    · rw [if_neg h0, if_neg h0]
      by_cases h1 : 1 ≤ t.ver ∧ t.ver ≤ 99999
      · rw [if_pos h1, if_pos h1]
      · rw [if_neg h1, if_neg h1]; simp
  · rw [if_pos h, if_pos h]
/-- Each of the three cells of a value, told apart. -/
theorem eqVB_bits (a b : Vlu) : eqVB a b = (a.kind == b.kind && (a.num == b.num && (a.name.toList == b.name.toList))) := rfl
theorem neqV (a b : Vlu) (u : World) : (binOp .neq 26 a.val b.val).run Try.prog u = .ok (.bool (!(eqVB a b))) u := by
  rw [eqVB_bits]
  cases e0 : (a.kind == b.kind) <;> cases e1 : (a.num == b.num) <;> cases e2 : (a.name.toList == b.name.toList) <;> (go_simp)
set_option maxRecDepth 100000 in
set_option maxHeartbeats 4000000 in
theorem site_out (ao : Option Addr) (cap bs : Nat) (l : List Glb) (s : ByteArray) (t : Ste) (w : World) (hb : SteAt bs t w) (h0 : ¬ (0 ≤ t.ver ∧ t.ver ≤ 99999)) :
    Calls Try.prog 66 #[.slice ao l.length cap, .string s, .pointer (some ⟨bs, 0, none⟩)] w fun e w' => e = .returned (.int .i64 (siteM l s t)) ∧ Below w.heap.size w w' := by
  have HE : Hid (siteM l s t = 3) := by
    show siteM l s t = 3
    unfold siteM
    rw [if_neg (show ¬ t.ver = 0 by omega), if_neg (show ¬ (1 ≤ t.ver ∧ t.ver ≤ 99999) by omega)]
  have HI : Hid (∀ u, Calls Try.prog 78 #[.int .i64 t.ver, .int .i64 0, .int .i64 99999] u fun e w' => e = .returned (.bool false) ∧ w' = u) := fun u => by
    refine (l1In_any t.ver 0 99999 u).mono ?_
    rintro e w' ⟨rfl, rfl⟩
    refine ⟨?_, rfl⟩
    have : (decide (0 ≤ t.ver) && decide (t.ver ≤ 99999)) = false := by rw [Bool.and_eq_false_iff]; simp only [decide_eq_false_iff_not]; omega
    rw [this]
  rw [HE.out]
  have c0 := hb.c0
  clear hb h0
  go_enter Try.func66, Try.ntmps66
  go_wp2_with (go_at_call 78; refine (HI.out _).mono ?_; rintro e w' ⟨rfl, rfl⟩)
  go_ret
  exact ⟨rfl, Below.refl _ _⟩
set_option maxRecDepth 100000 in
set_option maxHeartbeats 4000000 in
theorem site_zero (ao : Option Addr) (cap bs : Nat) (l : List Glb) (s : ByteArray) (t : Ste) (w : World) (hb : SteAt bs t w) (h0 : t.ver = 0) :
    Calls Try.prog 66 #[.slice ao l.length cap, .string s, .pointer (some ⟨bs, 0, none⟩)] w fun e w' => e = .returned (.int .i64 (siteM l s t)) ∧ Below w.heap.size w w' := by
  obtain ⟨R, hR⟩ : ∃ R, R = siteM l s t := ⟨_, rfl⟩
  rw [← hR]
  have HE : Hid (R = if eqVB t.value vZ = true then 0 else 1) := by show R = _; rw [hR]; unfold siteM; rw [if_pos h0]
  have HQ : Hid (eqVB t.value vZ = (t.value.kind == 0 && (t.value.num == 0 && (t.value.name.toList == (⟨#[]⟩ : ByteArray).toList)))) := rfl
  have hnil : (⟨#[]⟩ : ByteArray).toList = [] := by rw [ByteArray.toList_eq]
  rw [hnil] at HQ
  have HI : Hid (∀ u, Calls Try.prog 78 #[.int .i64 t.ver, .int .i64 0, .int .i64 99999] u fun e w' => e = .returned (.bool true) ∧ w' = u) := fun u => by
    refine (l1In_any t.ver 0 99999 u).mono ?_
    rintro e w' ⟨rfl, rfl⟩
    refine ⟨?_, rfl⟩
    have : (decide (0 ≤ t.ver) && decide (t.ver ≤ 99999)) = true := by rw [h0]; rfl
    rw [this]
  obtain ⟨W, hW⟩ : ∃ W, W = w.alloc (.cells #[.int .i64 0, .int .i64 0, .string ⟨#[]⟩] 26) := ⟨_, rfl⟩
  have HW : Hid (W = w.alloc (.cells #[.int .i64 0, .int .i64 0, .string ⟨#[]⟩] 26)) := hW
  have HBW : Hid (Below w.heap.size w W) := by rw [hW]; exact (Below.refl _ _).alloc (Nat.le_refl _) _
  have HS : Hid (SteAt bs t W) := hb.below HBW.out
  have HZv : Hid (W.cell? ⟨w.heap.size, 0, none⟩ = some (.int .i64 0) ∧ W.cell? ⟨w.heap.size, 1, none⟩ = some (.int .i64 0) ∧ W.cell? ⟨w.heap.size, 2, none⟩ = some (.string ⟨#[]⟩)) := by
    rw [hW]
    exact ⟨by rw [World.cell?_alloc_at _ _ _ _ rfl]; rfl, by rw [World.cell?_alloc_at _ _ _ _ rfl]; rfl, by rw [World.cell?_alloc_at _ _ _ _ rfl]; rfl⟩
  have c0 := hb.c0
  rw [h0] at c0 HI
  have hbl : bs < w.heap.size := lt_of_cell hb.c0
  clear hW hb h0 hR hnil
  cases e0 : (t.value.kind == 0) <;> cases e1 : (t.value.num == 0) <;> cases e2 : (t.value.name.toList == [])
  all_goals
    rw [e0, e1, e2] at HQ
    rw [HQ.out] at HE
    go_enter Try.func66, Try.ntmps66
    go_wp2_with (go_at_call 78; refine (HI.out _).mono ?_; rintro e w' ⟨rfl, rfl⟩)
    rw [← HW.out]
    refine wp_region_facts (by kernel_rfl) 5 (fun v => Below W.heap.size W v) (fun u v => Below u.heap.size u v) (fun i v u => match i with | 0 => (fun v u => v = Value.pointer (some ⟨bs, 0, none⟩)) v u | 1 => (fun v u => v = Value.pointer (some ⟨bs, 0, none⟩)) v u | 2 => (fun v u => v = Value.pointer (some ⟨bs, 1, none⟩)) v u | 3 => (fun v u => v = t.value.val) v u | 4 => (fun v u => v = Value.agg #[.int .i64 0, .int .i64 0, .string ⟨#[]⟩]) v u | _ => True) (by kernel_rfl) [0, 1, 2, 3, 4] (by kernel_rfl) ?b0 ?bk ?fk ⟨?s0, ?s1, ?s2, ?s3, ?s4, trivial⟩ _ rfl [(0, some 22), (1, some 23), (2, some 24), (3, some 25), (4, some 26)] (by kernel_rfl) ?last
    case b0 => exact Below.drew (Below.refl _ _)
    case bk => exact fun u v h hb => h.trans (hb.mono h.size)
    case fk => intro i v u u' h hb; match i, h with | 0, h => exact h | 1, h => exact h | 2, h => exact h | 3, h => exact h | 4, h => exact h | _ + 5, _ => exact trivial
    case s0 =>
      refine StepF.of rfl [] (by kernel_rfl) ?_
      intro vs u hB hf K hK
      clear hf
      simp only [putsA, List.foldl_nil, Act.put, List.setIfInBounds_toArray] at hK ⊢
      rw [if_pos (by rfl)]
      go_simp
      exact hK.out _ _ (Below.refl _ _) rfl
    case s1 =>
      refine StepF.of rfl [(0, some 22)] (by kernel_rfl) ?_
      intro vs u hB hf K hK
      have f0 : (fun v u => v = Value.pointer (some ⟨bs, 0, none⟩)) (vs 0) u := hf.1
      clear hf
      simp only [putsA, List.foldl_cons, List.foldl_nil, Act.put, List.setIfInBounds_toArray, List.set_cons_zero, List.set_cons_succ] at hK ⊢
      generalize vs 0 = v0 at f0 hK ⊢
      subst f0
      rw [if_pos (by rfl)]
      go_simp
      exact hK.out _ _ (Below.refl _ _) rfl
    case s2 =>
      refine StepF.of rfl [(1, some 23)] (by kernel_rfl) ?_
      intro vs u hB hf K hK
      have f1 : (fun v u => v = Value.pointer (some ⟨bs, 0, none⟩)) (vs 1) u := hf.1
      clear hf
      simp only [putsA, List.foldl_cons, List.foldl_nil, Act.put, List.setIfInBounds_toArray, List.set_cons_zero, List.set_cons_succ] at hK ⊢
      generalize vs 1 = v1 at f1 hK ⊢
      subst f1
      rw [if_pos (by rfl)]
      go_simp
      exact hK.out _ _ (Below.refl _ _) rfl
    case s3 =>
      refine StepF.of rfl [(2, some 24)] (by kernel_rfl) ?_
      intro vs u hB hf K hK
      have f2 : (fun v u => v = Value.pointer (some ⟨bs, 1, none⟩)) (vs 2) u := hf.1
      clear hf
      simp only [putsA, List.foldl_cons, List.foldl_nil, Act.put, List.setIfInBounds_toArray, List.set_cons_zero, List.set_cons_succ] at hK ⊢
      generalize vs 2 = v2 at f2 hK ⊢
      subst f2
      rw [if_pos (by rfl)]
      have d1 := (HS.out.below hB).c1
      have d2 := (HS.out.below hB).c2
      have d3 := (HS.out.below hB).c3
      go_simp
      exact hK.out _ _ (Below.refl _ _) rfl
    case s4 =>
      refine StepF.of rfl [] (by kernel_rfl) ?_
      intro vs u hB hf K hK
      clear hf
      simp only [putsA, List.foldl_nil, Act.put, List.setIfInBounds_toArray] at hK ⊢
      rw [if_pos (by rfl)]
      have d1 := cell_keep hB HZv.out.1
      have d2 := cell_keep hB HZv.out.2.1
      have d3 := cell_keep hB HZv.out.2.2
      go_simp
      exact hK.out _ _ (Below.refl _ _) rfl
    case last =>
      intro vs u hB hf K hK
      have f0 : (fun v u => v = Value.pointer (some ⟨bs, 0, none⟩)) (vs 0) u := hf.1
      have f1 : (fun v u => v = Value.pointer (some ⟨bs, 0, none⟩)) (vs 1) u := hf.2.1
      have f2 : (fun v u => v = Value.pointer (some ⟨bs, 1, none⟩)) (vs 2) u := hf.2.2.1
      have f3 : (fun v u => v = t.value.val) (vs 3) u := hf.2.2.2.1
      have f4 : (fun v u => v = Value.agg #[.int .i64 0, .int .i64 0, .string ⟨#[]⟩]) (vs 4) u := hf.2.2.2.2.1
      clear hf
      simp only [putsA, List.foldl_cons, List.foldl_nil, Act.put, List.setIfInBounds_toArray, List.set_cons_zero, List.set_cons_succ]
      generalize vs 0 = v0 at f0 ⊢
      generalize vs 1 = v1 at f1 ⊢
      generalize vs 2 = v2 at f2 ⊢
      generalize vs 3 = v3 at f3 ⊢
      generalize vs 4 = v4 at f4 ⊢
      subst f0 f1 f2 f3 f4
      rw [if_pos (by rfl)]
      go_simp
      refine hK.out _ _ ?_
      clear hK
      go_wp2
      go_ret
      exact ⟨by rw [HE.out]; rfl, HBW.out.trans (hB.mono HBW.out.size)⟩
end Go.Proofs.Ytlamkbggfbancaa
