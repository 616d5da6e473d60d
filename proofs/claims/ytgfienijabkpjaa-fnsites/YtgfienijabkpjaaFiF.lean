/-
  Parts of the proof laid into one text, one behind the other; each says at its head what is proved in it.
-/
import Derived.Test.YtgfienijabkpjaaFiE
import Derived.Test.YtgfienijabkpjaaFacts
import Derived.Test.YtgfienijabkpjaaImplG
/-
  The model's SiteFault; nothing that was there is turned.
-/
namespace Go.Proofs.Ytgfienijabkpjaa
open Go.RowKit Go.Extern.Stop Go.Stop Go.Extern Num Go.Lib

/-- The cells of a site. -/
structure SteAt (b : Nat) (t : Ste) (w : World) : Prop where
  c0 : w.cell? ⟨b, 0, none⟩ = some (.int .i64 t.ver)
  c1 : w.cell? ⟨b, 1, none⟩ = some (.int .i64 t.value.kind)
  c2 : w.cell? ⟨b, 2, none⟩ = some (.int .i64 t.value.num)
  c3 : w.cell? ⟨b, 3, none⟩ = some (.string t.value.name)
theorem SteAt.below {b : Nat} {t : Ste} {w w' : World} (h : SteAt b t w) (hb : Below w.heap.size w w') : SteAt b t w' := ⟨cell_keep hb h.c0, cell_keep hb h.c1, cell_keep hb h.c2, cell_keep hb h.c3⟩
theorem SteAt.vl {b : Nat} {t : Ste} {w : World} (h : SteAt b t w) : VluAt b 1 t.value w := ⟨h.c1, h.c2, h.c3⟩
/-- What is wrong with a site behind what is asked first. -/
def siteM (l : List Glb) (s : ByteArray) (t : Ste) : Int := if t.ver = 0 then (if eqVB t.value vZ = true then 0 else 1) else if 1 ≤ t.ver ∧ t.ver ≤ 99999 then (if vfault t.value ≠ 0 then vfault t.value else if parts l s t = true then 1 else 0) else 3
theorem codeSF_site (l : List Glb) (s : ByteArray) (t : Ste) : codeSF l s t = if askG l s ≠ 0 then askG l s else siteM l s t := by
  unfold codeSF
  by_cases h : askG l s = 0
  · have hn : ¬ askG l s ≠ 0 := by simpa using h
    simp only [if_neg hn]
    unfold siteM memC
    by_cases h0 : t.ver = 0
    · rw [if_pos h0, if_pos h0]
      by_cases hv : eqVB t.value vZ = true
      · rw [if_pos hv]
        have hp : parts l s t = false := by
          have hg : globFault l = 0 := by
            unfold askG at h
            by_cases h1 : globFault l = 0
            · exact h1
            · rw [if_pos h1] at h; exact h
          obtain ⟨_, hF⟩ := GFine.of hg
          unfold parts
          cases hat : atG l s with
          | none => rfl
          | some k =>
            obtain ⟨hk, _, _⟩ := atG_some hat
            have hv := hF.ver k hk hk
            have e : ((l.getD k gZ).ver == t.ver) = false := by
              rw [h0]
              have : l.getD k gZ = l[k] := by simp [List.getD, hk]
              rw [this]; simp; omega
            simp only [e]; rfl
        simp [hp]
      · rw [if_neg hv]; simp
    · rw [if_neg h0, if_neg h0]
      by_cases h1 : 1 ≤ t.ver ∧ t.ver ≤ 99999
      · rw [if_pos h1, if_pos h1]
      · rw [if_neg h1, if_neg h1]; simp
  · rw [if_pos h, if_pos h]
/-- Each of the three cells of a value, told apart. -/
theorem eqVB_bits (a b : Vlu) : eqVB a b = (a.kind == b.kind && (a.num == b.num && (a.name.toList == b.name.toList))) := rfl
theorem neqV (a b : Vlu) (u : World) : (binOp .neq 26 a.val b.val).run Try.prog u = .ok (.bool (!(eqVB a b))) u := by
  rw [eqVB_bits]
  cases e0 : (a.kind == b.kind) <;> cases e1 : (a.num == b.num) <;> cases e2 : (a.name.toList == b.name.toList) <;> (go_simp)
set_option maxRecDepth 100000 in
set_option maxHeartbeats 4000000 in
theorem site_out (ao : Option Addr) (cap bs : Nat) (l : List Glb) (s : ByteArray) (t : Ste) (w : World) (hb : SteAt bs t w) (h0 : ¬ (0 ≤ t.ver ∧ t.ver ≤ 99999)) :
    Calls Try.prog 80 #[.slice ao l.length cap, .string s, .pointer (some ⟨bs, 0, none⟩)] w fun e w' => e = .returned (.int .i64 (siteM l s t)) ∧ Below w.heap.size w w' := by
  have HE : Hid (siteM l s t = 3) := by
    show siteM l s t = 3
    unfold siteM
    rw [if_neg (show ¬ t.ver = 0 by omega), if_neg (show ¬ (1 ≤ t.ver ∧ t.ver ≤ 99999) by omega)]
  have HI : Hid (∀ u, Calls Try.prog 61 #[.int .i64 t.ver, .int .i64 0, .int .i64 99999] u fun e w' => e = .returned (.bool false) ∧ w' = u) := fun u => by
    refine (l1In_any t.ver 0 99999 u).mono ?_
    rintro e w' ⟨rfl, rfl⟩
    refine ⟨?_, rfl⟩
    have : (decide (0 ≤ t.ver) && decide (t.ver ≤ 99999)) = false := by rw [Bool.and_eq_false_iff]; simp only [decide_eq_false_iff_not]; omega
    rw [this]
  rw [HE.out]
  have c0 := hb.c0
  clear hb h0
  go_enter Try.func80, Try.ntmps80
  go_wp2_with (go_at_call 61; refine (HI.out _).mono ?_; rintro e w' ⟨rfl, rfl⟩)
  go_ret
  exact ⟨rfl, Below.refl _ _⟩
set_option maxRecDepth 100000 in
set_option maxHeartbeats 4000000 in
theorem site_zero (ao : Option Addr) (cap bs : Nat) (l : List Glb) (s : ByteArray) (t : Ste) (w : World) (hb : SteAt bs t w) (h0 : t.ver = 0) :
    Calls Try.prog 80 #[.slice ao l.length cap, .string s, .pointer (some ⟨bs, 0, none⟩)] w fun e w' => e = .returned (.int .i64 (siteM l s t)) ∧ Below w.heap.size w w' := by
  obtain ⟨R, hR⟩ : ∃ R, R = siteM l s t := ⟨_, rfl⟩
  rw [← hR]
  have HE : Hid (R = if eqVB t.value vZ = true then 0 else 1) := by show R = _; rw [hR]; unfold siteM; rw [if_pos h0]
  have HQ : Hid (eqVB t.value vZ = (t.value.kind == 0 && (t.value.num == 0 && (t.value.name.toList == (⟨#[]⟩ : ByteArray).toList)))) := rfl
  have hnil : (⟨#[]⟩ : ByteArray).toList = [] := by rw [ByteArray.toList_eq]
  rw [hnil] at HQ
  have HI : Hid (∀ u, Calls Try.prog 61 #[.int .i64 t.ver, .int .i64 0, .int .i64 99999] u fun e w' => e = .returned (.bool true) ∧ w' = u) := fun u => by
    refine (l1In_any t.ver 0 99999 u).mono ?_
    rintro e w' ⟨rfl, rfl⟩
    refine ⟨?_, rfl⟩
    have : (decide (0 ≤ t.ver) && decide (t.ver ≤ 99999)) = true := by rw [h0]; rfl
    rw [this]
  obtain ⟨W, hW⟩ : ∃ W, W = w.alloc (.cells #[.int .i64 0, .int .i64 0, .string ⟨#[]⟩] 26) := ⟨_, rfl⟩
  have HW : Hid (W = w.alloc (.cells #[.int .i64 0, .int .i64 0, .string ⟨#[]⟩] 26)) := hW
  have HBW : Hid (Below w.heap.size w W) := by rw [hW]; exact (Below.refl _ _).alloc (Nat.le_refl _) _
  have HS : Hid (SteAt bs t W) := hb.below HBW.out
  have HZv : Hid (W.cell? ⟨w.heap.size, 0, none⟩ = some (.int .i64 0) ∧ W.cell? ⟨w.heap.size, 1, none⟩ = some (.int .i64 0) ∧ W.cell? ⟨w.heap.size, 2, none⟩ = some (.string ⟨#[]⟩)) := by
    rw [hW]
    exact ⟨by rw [World.cell?_alloc_at _ _ _ _ rfl]; rfl, by rw [World.cell?_alloc_at _ _ _ _ rfl]; rfl, by rw [World.cell?_alloc_at _ _ _ _ rfl]; rfl⟩
  have c0 := hb.c0
  rw [h0] at c0 HI
  have hbl : bs < w.heap.size := lt_of_cell hb.c0
  clear hW hb h0 hR hnil
  cases e0 : (t.value.kind == 0) <;> cases e1 : (t.value.num == 0) <;> cases e2 : (t.value.name.toList == [])
  all_goals
    rw [e0, e1, e2] at HQ
    rw [HQ.out] at HE
    go_enter Try.func80, Try.ntmps80
    go_wp2_with (go_at_call 61; refine (HI.out _).mono ?_; rintro e w' ⟨rfl, rfl⟩)
    rw [← HW.out]
    refine wp_region_facts (by kernel_rfl) 5 (fun v => Below W.heap.size W v) (fun u v => Below u.heap.size u v) (fun i v u => match i with | 0 => (fun v u => v = Value.pointer (some ⟨bs, 0, none⟩)) v u | 1 => (fun v u => v = Value.pointer (some ⟨bs, 0, none⟩)) v u | 2 => (fun v u => v = Value.pointer (some ⟨bs, 1, none⟩)) v u | 3 => (fun v u => v = t.value.val) v u | 4 => (fun v u => v = Value.agg #[.int .i64 0, .int .i64 0, .string ⟨#[]⟩]) v u | _ => True) (by kernel_rfl) [0, 1, 2, 3, 4] (by kernel_rfl) ?b0 ?bk ?fk ⟨?s0, ?s1, ?s2, ?s3, ?s4, trivial⟩ _ rfl [(0, some 22), (1, some 23), (2, some 24), (3, some 25), (4, some 26)] (by kernel_rfl) ?last
    case b0 => exact Below.drew (Below.refl _ _)
    case bk => exact fun u v h hb => h.trans (hb.mono h.size)
    case fk => intro i v u u' h hb; match i, h with | 0, h => exact h | 1, h => exact h | 2, h => exact h | 3, h => exact h | 4, h => exact h | _ + 5, _ => exact trivial
    case s0 =>
      refine StepF.of rfl [] (by kernel_rfl) ?_
      intro vs u hB hf K hK
      clear hf
      simp only [putsA, List.foldl_nil, Act.put, List.setIfInBounds_toArray] at hK ⊢
      rw [if_pos (by rfl)]
      go_simp
      exact hK.out _ _ (Below.refl _ _) rfl
    case s1 =>
      refine StepF.of rfl [(0, some 22)] (by kernel_rfl) ?_
      intro vs u hB hf K hK
      have f0 : (fun v u => v = Value.pointer (some ⟨bs, 0, none⟩)) (vs 0) u := hf.1
      clear hf
      simp only [putsA, List.foldl_cons, List.foldl_nil, Act.put, List.setIfInBounds_toArray, List.set_cons_zero, List.set_cons_succ] at hK ⊢
      generalize vs 0 = v0 at f0 hK ⊢
      subst f0
      rw [if_pos (by rfl)]
      go_simp
      exact hK.out _ _ (Below.refl _ _) rfl
    case s2 =>
      refine StepF.of rfl [(1, some 23)] (by kernel_rfl) ?_
      intro vs u hB hf K hK
      have f1 : (fun v u => v = Value.pointer (some ⟨bs, 0, none⟩)) (vs 1) u := hf.1
      clear hf
      simp only [putsA, List.foldl_cons, List.foldl_nil, Act.put, List.setIfInBounds_toArray, List.set_cons_zero, List.set_cons_succ] at hK ⊢
      generalize vs 1 = v1 at f1 hK ⊢
      subst f1
      rw [if_pos (by rfl)]
      go_simp
      exact hK.out _ _ (Below.refl _ _) rfl
    case s3 =>
      refine StepF.of rfl [(2, some 24)] (by kernel_rfl) ?_
      intro vs u hB hf K hK
      have f2 : (fun v u => v = Value.pointer (some ⟨bs, 1, none⟩)) (vs 2) u := hf.1
      clear hf
      simp only [putsA, List.foldl_cons, List.foldl_nil, Act.put, List.setIfInBounds_toArray, List.set_cons_zero, List.set_cons_succ] at hK ⊢
      generalize vs 2 = v2 at f2 hK ⊢
      subst f2
      rw [if_pos (by rfl)]
      have d1 := (HS.out.below hB).c1
      have d2 := (HS.out.below hB).c2
      have d3 := (HS.out.below hB).c3
      go_simp
      exact hK.out _ _ (Below.refl _ _) rfl
    case s4 =>
      refine StepF.of rfl [] (by kernel_rfl) ?_
      intro vs u hB hf K hK
      clear hf
      simp only [putsA, List.foldl_nil, Act.put, List.setIfInBounds_toArray] at hK ⊢
      rw [if_pos (by rfl)]
      have d1 := cell_keep hB HZv.out.1
      have d2 := cell_keep hB HZv.out.2.1
      have d3 := cell_keep hB HZv.out.2.2
      go_simp
      exact hK.out _ _ (Below.refl _ _) rfl
    case last =>
      intro vs u hB hf K hK
      have f0 : (fun v u => v = Value.pointer (some ⟨bs, 0, none⟩)) (vs 0) u := hf.1
      have f1 : (fun v u => v = Value.pointer (some ⟨bs, 0, none⟩)) (vs 1) u := hf.2.1
      have f2 : (fun v u => v = Value.pointer (some ⟨bs, 1, none⟩)) (vs 2) u := hf.2.2.1
      have f3 : (fun v u => v = t.value.val) (vs 3) u := hf.2.2.2.1
      have f4 : (fun v u => v = Value.agg #[.int .i64 0, .int .i64 0, .string ⟨#[]⟩]) (vs 4) u := hf.2.2.2.2.1
      clear hf
      simp only [putsA, List.foldl_cons, List.foldl_nil, Act.put, List.setIfInBounds_toArray, List.set_cons_zero, List.set_cons_succ]
      generalize vs 0 = v0 at f0 ⊢
      generalize vs 1 = v1 at f1 ⊢
      generalize vs 2 = v2 at f2 ⊢
      generalize vs 3 = v3 at f3 ⊢
      generalize vs 4 = v4 at f4 ⊢
      subst f0 f1 f2 f3 f4
      rw [if_pos (by rfl)]
      go_simp
      refine hK.out _ _ ?_
      clear hK
      go_wp2
      go_ret
      exact ⟨by rw [HE.out]; rfl, HBW.out.trans (hB.mono HBW.out.size)⟩
end Go.Proofs.Ytgfienijabkpjaa
/-
  The model's l7Site at a version, the value without fault, no global of that name; nothing that was there is turned.
-/
namespace Go.Proofs.Ytgfienijabkpjaa
open Go.RowKit Go.Extern.Stop Go.Stop Go.Extern Num Go.Lib

set_option maxRecDepth 100000 in
set_option maxHeartbeats 4000000 in
theorem site_none (ao : Option Addr) (cap g bs : Nat) (l : List Glb) (s : ByteArray) (t : Ste) (w : World) (hl : l.length ≤ 1048576) (hao : 0 < l.length → ao = some ⟨g, 0, none⟩) (hr : RowG w g l) (ht : t.value.name.size ≤ 9223372036854775807) (hb : SteAt bs t w) (h0 : 1 ≤ t.ver ∧ t.ver ≤ 99999) (hat : atG l s = none) :
    Calls Try.prog 80 #[.slice ao l.length cap, .string s, .pointer (some ⟨bs, 0, none⟩)] w fun e w' => e = .returned (.int .i64 (siteM l s t)) ∧ Below w.heap.size w w' := by
  obtain ⟨R, hR⟩ : ∃ R, R = siteM l s t := ⟨_, rfl⟩
  rw [← hR]
  obtain ⟨d, hd⟩ : ∃ d, d = vfault t.value := ⟨_, rfl⟩
  have HE : Hid (R = if d ≠ 0 then d else if parts l s t = true then 1 else 0) := by show R = _; rw [hR, hd]; unfold siteM; rw [if_neg (show ¬ t.ver = 0 by omega), if_pos h0]
  have HI : Hid (∀ u, Calls Try.prog 61 #[.int .i64 t.ver, .int .i64 0, .int .i64 99999] u fun e w' => e = .returned (.bool true) ∧ w' = u) := fun u => by
    refine (l1In_any t.ver 0 99999 u).mono ?_
    rintro e w' ⟨rfl, rfl⟩
    refine ⟨?_, rfl⟩
    have : (decide (0 ≤ t.ver) && decide (t.ver ≤ 99999)) = true := by simp; omega
    rw [this]
  obtain ⟨W, hW⟩ : ∃ W, W = w.alloc (.cells #[.int .i64 0, .int .i64 0, .string ⟨#[]⟩] 26) := ⟨_, rfl⟩
  have HW : Hid (W = w.alloc (.cells #[.int .i64 0, .int .i64 0, .string ⟨#[]⟩] 26)) := hW
  have HBW : Hid (Below w.heap.size w W) := by rw [hW]; exact (Below.refl _ _).alloc (Nat.le_refl _) _
  have HS : Hid (SteAt bs t W) := hb.below HBW.out
  have HP : Hid (RowG W g l) := hr.below HBW.out
  have HF : Hid (Calls Try.prog 42 #[.pointer (some ⟨bs, 1, none⟩)] W fun e w' => e = .returned (.int .i64 d) ∧ w' = W) := by rw [hd]; exact l5Fault_any bs 1 t.value W ht HS.out.vl
  have HA : Hid (Calls Try.prog 44 #[.slice ao l.length cap, .string s] W fun e w' => e = .returned (.int .i64 (atI (atG l s))) ∧ w' = W) := l7At_any ao cap g l s W hl hao HP.out
  have c0 := hb.c0
  have hbl : bs < w.heap.size := lt_of_cell hb.c0
  have h0' : (t.ver == 0) = false := by simp; omega
  have HAO : Hid (0 < l.length → ao = some ⟨g, 0, none⟩) := hao
  clear hW hao hr ht hb h0 hR hd
  by_cases h1 : d = 0
  case neg =>
    have HR : Hid (R = d) := by show R = d; rw [HE.out, if_pos h1]
    have h1' : (d != 0) = true := by simpa using h1
    clear HE h1 HA
    go_enter Try.func80, Try.ntmps80
    go_wp2_with (first | (go_at_call 61; refine (HI.out _).mono ?_; rintro e w' ⟨rfl, rfl⟩) | (go_at_call 42; rw [← HW.out]; refine HF.out.mono ?_; rintro e w' ⟨rfl, rfl⟩))
    go_ret
    exact ⟨by rw [HR.out]; rfl, HBW.out⟩
  subst h1
  have HR : Hid (R = if parts l s t = true then 1 else 0) := by show R = _; rw [HE.out]; simp
  clear HE
  have HR2 : Hid (R = 0) := by show R = 0; rw [HR.out]; unfold parts; rw [hat]; simp
  rw [hat] at HA
  have hA : Hid (Calls Try.prog 44 #[.slice ao l.length cap, .string s] W fun e w' => e = .returned (.int .i64 (-1)) ∧ w' = W) := HA.out
  clear HR HA hat
  go_enter Try.func80, Try.ntmps80
  go_wp2_with (first | (go_at_call 61; refine (HI.out _).mono ?_; rintro e w' ⟨rfl, rfl⟩) | (go_at_call 42; rw [← HW.out]; refine HF.out.mono ?_; rintro e w' ⟨rfl, hw'⟩; replace hw' := hw'.symm; subst hw') | (go_at_call 44; refine hA.out.mono ?_; rintro e w' ⟨rfl, hw'⟩; replace hw' := hw'.symm; subst hw'))
  refine wp_region_facts (by kernel_rfl) 25 (fun v => Below W.heap.size W v) (fun u v => Below u.heap.size u v) (fun i v u => match i with | 0 => (fun v u => v = .int .i64 (-1)) v u | 1 => (fun v u => v = .bool false) v u | 2 => (fun v u => v = .bool false) v u | 3 => (fun v u => v = undef) v u | 4 => (fun v u => v = undef) v u | 5 => (fun v u => v = undef) v u | 6 => (fun v u => v = undef) v u | 7 => (fun v u => v = undef) v u | 8 => (fun v u => v = undef) v u | 9 => (fun v u => v = undef) v u | 10 => (fun v u => v = undef) v u | 11 => (fun v u => v = undef) v u | 12 => (fun v u => v = undef) v u | 13 => (fun v u => v = .bool false) v u | 14 => (fun v u => v = .bool false) v u | 15 => (fun v u => v = undef) v u | 16 => (fun v u => v = undef) v u | 17 => (fun v u => v = undef) v u | 18 => (fun v u => v = undef) v u | 19 => (fun v u => v = undef) v u | 20 => (fun v u => v = undef) v u | 21 => (fun v u => v = undef) v u | 22 => (fun v u => v = undef) v u | 23 => (fun v u => v = undef) v u | 24 => (fun v u => v = undef) v u | _ => True) (by kernel_rfl) [0, 1, 2, 3, 4, 5, 6, 7, 8, 9, 10, 11, 12, 13, 14, 15, 16, 17, 18, 19, 20, 21, 22, 23, 24] (by kernel_rfl) ?b0 ?bk ?fk ⟨?s0, ?s1, ?s2, ?s3, ?s4, ?s5, ?s6, ?s7, ?s8, ?s9, ?s10, ?s11, ?s12, ?s13, ?s14, ?s15, ?s16, ?s17, ?s18, ?s19, ?s20, ?s21, ?s22, ?s23, ?s24, trivial⟩ _ rfl [(0, some 38), (1, some 39), (2, some 40), (3, some 41), (4, some 42), (5, some 43), (6, some 44), (7, some 45), (8, some 46), (9, some 47), (10, some 48), (11, some 49), (12, some 50), (13, some 51), (14, some 52), (15, some 53), (16, some 54), (17, some 55), (18, some 56), (19, some 57), (20, some 58), (21, some 59), (22, some 60), (23, some 61), (24, some 62)] (by kernel_rfl) ?last
  case b0 => exact Below.drew (Below.refl _ _)
  case bk => exact fun u v h hb => h.trans (hb.mono h.size)
  case fk => intro i v u u' h hb; match i, h with | 0, h => exact h | 1, h => exact h | 2, h => exact h | 3, h => exact h | 4, h => exact h | 5, h => exact h | 6, h => exact h | 7, h => exact h | 8, h => exact h | 9, h => exact h | 10, h => exact h | 11, h => exact h | 12, h => exact h | 13, h => exact h | 14, h => exact h | 15, h => exact h | 16, h => exact h | 17, h => exact h | 18, h => exact h | 19, h => exact h | 20, h => exact h | 21, h => exact h | 22, h => exact h | 23, h => exact h | 24, h => exact h | _ + 25, _ => exact trivial
  case s0 =>
    refine StepF.of rfl [] (by kernel_rfl) ?_
    intro vs u hB hf K hK
    clear hf
    simp only [putsA, List.foldl_nil, Act.put, List.setIfInBounds_toArray] at hK ⊢
    rw [if_pos (by rfl)]
    go_simp
    exact hK.out _ _ (Below.refl _ _) rfl
  case s1 =>
    refine StepF.of rfl [(0, some 38)] (by kernel_rfl) ?_
    intro vs u hB hf K hK
    have f0 : (fun v u => v = .int .i64 (-1)) (vs 0) u := hf.1
    clear hf
    simp only [putsA, List.foldl_cons, List.foldl_nil, Act.put, List.setIfInBounds_toArray, List.set_cons_zero, List.set_cons_succ] at hK ⊢
    generalize vs 0 = v0 at f0 hK ⊢
    subst f0
    rw [if_pos (by rfl)]
    go_simp
    exact hK.out _ _ (Below.refl _ _) rfl
  case s2 =>
    refine StepF.of rfl [(1, some 39)] (by kernel_rfl) ?_
    intro vs u hB hf K hK
    have f1 : (fun v u => v = .bool false) (vs 1) u := hf.1
    clear hf
    simp only [putsA, List.foldl_cons, List.foldl_nil, Act.put, List.setIfInBounds_toArray, List.set_cons_zero, List.set_cons_succ] at hK ⊢
    generalize vs 1 = v1 at f1 hK ⊢
    subst f1
    rw [if_pos (by rfl)]
    go_simp
    exact hK.out _ _ (Below.refl _ _) rfl
  case s3 =>
    refine StepF.of rfl [(2, some 40)] (by kernel_rfl) ?_
    intro vs u hB hf K hK
    have f2 : (fun v u => v = .bool false) (vs 2) u := hf.1
    clear hf
    simp only [putsA, List.foldl_cons, List.foldl_nil, Act.put, List.setIfInBounds_toArray, List.set_cons_zero, List.set_cons_succ] at hK ⊢
    generalize vs 2 = v2 at f2 hK ⊢
    subst f2
    rw [if_neg (ne_true_of_eq_false (by rfl))]
    exact hK.out _ _ (Below.refl _ _) rfl
  case s4 =>
    refine StepF.of rfl [(2, some 40)] (by kernel_rfl) ?_
    intro vs u hB hf K hK
    have f2 : (fun v u => v = .bool false) (vs 2) u := hf.1
    clear hf
    simp only [putsA, List.foldl_cons, List.foldl_nil, Act.put, List.setIfInBounds_toArray, List.set_cons_zero, List.set_cons_succ] at hK ⊢
    generalize vs 2 = v2 at f2 hK ⊢
    subst f2
    rw [if_neg (ne_true_of_eq_false (by rfl))]
    exact hK.out _ _ (Below.refl _ _) rfl
  case s5 =>
    refine StepF.of rfl [(2, some 40), (3, some 41), (4, some 42)] (by kernel_rfl) ?_
    intro vs u hB hf K hK
    have f2 : (fun v u => v = .bool false) (vs 2) u := hf.1
    have f3 : (fun v u => v = undef) (vs 3) u := hf.2.1
    have f4 : (fun v u => v = undef) (vs 4) u := hf.2.2.1
    clear hf
    simp only [putsA, List.foldl_cons, List.foldl_nil, Act.put, List.setIfInBounds_toArray, List.set_cons_zero, List.set_cons_succ] at hK ⊢
    generalize vs 2 = v2 at f2 hK ⊢
    generalize vs 3 = v3 at f3 hK ⊢
    generalize vs 4 = v4 at f4 hK ⊢
    subst f2 f3 f4
    rw [if_neg (ne_true_of_eq_false (by rfl))]
    exact hK.out _ _ (Below.refl _ _) rfl
  case s6 =>
    refine StepF.of rfl [(2, some 40), (5, some 43)] (by kernel_rfl) ?_
    intro vs u hB hf K hK
    have f2 : (fun v u => v = .bool false) (vs 2) u := hf.1
    have f5 : (fun v u => v = undef) (vs 5) u := hf.2.1
    clear hf
    simp only [putsA, List.foldl_cons, List.foldl_nil, Act.put, List.setIfInBounds_toArray, List.set_cons_zero, List.set_cons_succ] at hK ⊢
    generalize vs 2 = v2 at f2 hK ⊢
    generalize vs 5 = v5 at f5 hK ⊢
    subst f2 f5
    rw [if_neg (ne_true_of_eq_false (by rfl))]
    exact hK.out _ _ (Below.refl _ _) rfl
  case s7 =>
    refine StepF.of rfl [(2, some 40), (6, some 44)] (by kernel_rfl) ?_
    intro vs u hB hf K hK
    have f2 : (fun v u => v = .bool false) (vs 2) u := hf.1
    have f6 : (fun v u => v = undef) (vs 6) u := hf.2.1
    clear hf
    simp only [putsA, List.foldl_cons, List.foldl_nil, Act.put, List.setIfInBounds_toArray, List.set_cons_zero, List.set_cons_succ] at hK ⊢
    generalize vs 2 = v2 at f2 hK ⊢
    generalize vs 6 = v6 at f6 hK ⊢
    subst f2 f6
    rw [if_neg (ne_true_of_eq_false (by rfl))]
    exact hK.out _ _ (Below.refl _ _) rfl
  case s8 =>
    refine StepF.of rfl [(2, some 40)] (by kernel_rfl) ?_
    intro vs u hB hf K hK
    have f2 : (fun v u => v = .bool false) (vs 2) u := hf.1
    clear hf
    simp only [putsA, List.foldl_cons, List.foldl_nil, Act.put, List.setIfInBounds_toArray, List.set_cons_zero, List.set_cons_succ] at hK ⊢
    generalize vs 2 = v2 at f2 hK ⊢
    subst f2
    rw [if_neg (ne_true_of_eq_false (by rfl))]
    exact hK.out _ _ (Below.refl _ _) rfl
  case s9 =>
    refine StepF.of rfl [(2, some 40), (8, some 46)] (by kernel_rfl) ?_
    intro vs u hB hf K hK
    have f2 : (fun v u => v = .bool false) (vs 2) u := hf.1
    have f8 : (fun v u => v = undef) (vs 8) u := hf.2.1
    clear hf
    simp only [putsA, List.foldl_cons, List.foldl_nil, Act.put, List.setIfInBounds_toArray, List.set_cons_zero, List.set_cons_succ] at hK ⊢
    generalize vs 2 = v2 at f2 hK ⊢
    generalize vs 8 = v8 at f8 hK ⊢
    subst f2 f8
    rw [if_neg (ne_true_of_eq_false (by rfl))]
    exact hK.out _ _ (Below.refl _ _) rfl
  case s10 =>
    refine StepF.of rfl [(2, some 40), (9, some 47)] (by kernel_rfl) ?_
    intro vs u hB hf K hK
    have f2 : (fun v u => v = .bool false) (vs 2) u := hf.1
    have f9 : (fun v u => v = undef) (vs 9) u := hf.2.1
    clear hf
    simp only [putsA, List.foldl_cons, List.foldl_nil, Act.put, List.setIfInBounds_toArray, List.set_cons_zero, List.set_cons_succ] at hK ⊢
    generalize vs 2 = v2 at f2 hK ⊢
    generalize vs 9 = v9 at f9 hK ⊢
    subst f2 f9
    rw [if_neg (ne_true_of_eq_false (by rfl))]
    exact hK.out _ _ (Below.refl _ _) rfl
  case s11 =>
    refine StepF.of rfl [(2, some 40), (10, some 48)] (by kernel_rfl) ?_
    intro vs u hB hf K hK
    have f2 : (fun v u => v = .bool false) (vs 2) u := hf.1
    have f10 : (fun v u => v = undef) (vs 10) u := hf.2.1
    clear hf
    simp only [putsA, List.foldl_cons, List.foldl_nil, Act.put, List.setIfInBounds_toArray, List.set_cons_zero, List.set_cons_succ] at hK ⊢
    generalize vs 2 = v2 at f2 hK ⊢
    generalize vs 10 = v10 at f10 hK ⊢
    subst f2 f10
    rw [if_neg (ne_true_of_eq_false (by rfl))]
    exact hK.out _ _ (Below.refl _ _) rfl
  case s12 =>
    refine StepF.of rfl [(2, some 40), (7, some 45), (11, some 49)] (by kernel_rfl) ?_
    intro vs u hB hf K hK
    have f2 : (fun v u => v = .bool false) (vs 2) u := hf.1
    have f7 : (fun v u => v = undef) (vs 7) u := hf.2.1
    have f11 : (fun v u => v = undef) (vs 11) u := hf.2.2.1
    clear hf
    simp only [putsA, List.foldl_cons, List.foldl_nil, Act.put, List.setIfInBounds_toArray, List.set_cons_zero, List.set_cons_succ] at hK ⊢
    generalize vs 2 = v2 at f2 hK ⊢
    generalize vs 7 = v7 at f7 hK ⊢
    generalize vs 11 = v11 at f11 hK ⊢
    subst f2 f7 f11
    rw [if_neg (ne_true_of_eq_false (by rfl))]
    exact hK.out _ _ (Below.refl _ _) rfl
  case s13 =>
    refine StepF.of rfl [(2, some 40), (12, some 50)] (by kernel_rfl) ?_
    intro vs u hB hf K hK
    have f2 : (fun v u => v = .bool false) (vs 2) u := hf.1
    have f12 : (fun v u => v = undef) (vs 12) u := hf.2.1
    clear hf
    simp only [putsA, List.foldl_cons, List.foldl_nil, Act.put, List.setIfInBounds_toArray, List.set_cons_zero, List.set_cons_succ] at hK ⊢
    generalize vs 2 = v2 at f2 hK ⊢
    generalize vs 12 = v12 at f12 hK ⊢
    subst f2 f12
    rw [if_pos (by rfl)]
    go_simp
    exact hK.out _ _ (Below.refl _ _) rfl
  case s14 =>
    refine StepF.of rfl [(2, some 40), (13, some 51)] (by kernel_rfl) ?_
    intro vs u hB hf K hK
    have f2 : (fun v u => v = .bool false) (vs 2) u := hf.1
    have f13 : (fun v u => v = .bool false) (vs 13) u := hf.2.1
    clear hf
    simp only [putsA, List.foldl_cons, List.foldl_nil, Act.put, List.setIfInBounds_toArray, List.set_cons_zero, List.set_cons_succ] at hK ⊢
    generalize vs 2 = v2 at f2 hK ⊢
    generalize vs 13 = v13 at f13 hK ⊢
    subst f2 f13
    rw [if_pos (by rfl)]
    go_simp
    exact hK.out _ _ (Below.refl _ _) rfl
  case s15 =>
    refine StepF.of rfl [(14, some 52)] (by kernel_rfl) ?_
    intro vs u hB hf K hK
    have f14 : (fun v u => v = .bool false) (vs 14) u := hf.1
    clear hf
    simp only [putsA, List.foldl_cons, List.foldl_nil, Act.put, List.setIfInBounds_toArray, List.set_cons_zero, List.set_cons_succ] at hK ⊢
    generalize vs 14 = v14 at f14 hK ⊢
    subst f14
    rw [if_neg (ne_true_of_eq_false (by rfl))]
    exact hK.out _ _ (Below.refl _ _) rfl
  case s16 =>
    refine StepF.of rfl [(14, some 52)] (by kernel_rfl) ?_
    intro vs u hB hf K hK
    have f14 : (fun v u => v = .bool false) (vs 14) u := hf.1
    clear hf
    simp only [putsA, List.foldl_cons, List.foldl_nil, Act.put, List.setIfInBounds_toArray, List.set_cons_zero, List.set_cons_succ] at hK ⊢
    generalize vs 14 = v14 at f14 hK ⊢
    subst f14
    rw [if_neg (ne_true_of_eq_false (by rfl))]
    exact hK.out _ _ (Below.refl _ _) rfl
  case s17 =>
    refine StepF.of rfl [(14, some 52), (15, some 53), (16, some 54)] (by kernel_rfl) ?_
    intro vs u hB hf K hK
    have f14 : (fun v u => v = .bool false) (vs 14) u := hf.1
    have f15 : (fun v u => v = undef) (vs 15) u := hf.2.1
    have f16 : (fun v u => v = undef) (vs 16) u := hf.2.2.1
    clear hf
    simp only [putsA, List.foldl_cons, List.foldl_nil, Act.put, List.setIfInBounds_toArray, List.set_cons_zero, List.set_cons_succ] at hK ⊢
    generalize vs 14 = v14 at f14 hK ⊢
    generalize vs 15 = v15 at f15 hK ⊢
    generalize vs 16 = v16 at f16 hK ⊢
    subst f14 f15 f16
    rw [if_neg (ne_true_of_eq_false (by rfl))]
    exact hK.out _ _ (Below.refl _ _) rfl
  case s18 =>
    refine StepF.of rfl [(14, some 52), (17, some 55)] (by kernel_rfl) ?_
    intro vs u hB hf K hK
    have f14 : (fun v u => v = .bool false) (vs 14) u := hf.1
    have f17 : (fun v u => v = undef) (vs 17) u := hf.2.1
    clear hf
    simp only [putsA, List.foldl_cons, List.foldl_nil, Act.put, List.setIfInBounds_toArray, List.set_cons_zero, List.set_cons_succ] at hK ⊢
    generalize vs 14 = v14 at f14 hK ⊢
    generalize vs 17 = v17 at f17 hK ⊢
    subst f14 f17
    rw [if_neg (ne_true_of_eq_false (by rfl))]
    exact hK.out _ _ (Below.refl _ _) rfl
  case s19 =>
    refine StepF.of rfl [(14, some 52), (18, some 56)] (by kernel_rfl) ?_
    intro vs u hB hf K hK
    have f14 : (fun v u => v = .bool false) (vs 14) u := hf.1
    have f18 : (fun v u => v = undef) (vs 18) u := hf.2.1
    clear hf
    simp only [putsA, List.foldl_cons, List.foldl_nil, Act.put, List.setIfInBounds_toArray, List.set_cons_zero, List.set_cons_succ] at hK ⊢
    generalize vs 14 = v14 at f14 hK ⊢
    generalize vs 18 = v18 at f18 hK ⊢
    subst f14 f18
    rw [if_neg (ne_true_of_eq_false (by rfl))]
    exact hK.out _ _ (Below.refl _ _) rfl
  case s20 =>
    refine StepF.of rfl [(14, some 52)] (by kernel_rfl) ?_
    intro vs u hB hf K hK
    have f14 : (fun v u => v = .bool false) (vs 14) u := hf.1
    clear hf
    simp only [putsA, List.foldl_cons, List.foldl_nil, Act.put, List.setIfInBounds_toArray, List.set_cons_zero, List.set_cons_succ] at hK ⊢
    generalize vs 14 = v14 at f14 hK ⊢
    subst f14
    rw [if_neg (ne_true_of_eq_false (by rfl))]
    exact hK.out _ _ (Below.refl _ _) rfl
  case s21 =>
    refine StepF.of rfl [(14, some 52), (20, some 58)] (by kernel_rfl) ?_
    intro vs u hB hf K hK
    have f14 : (fun v u => v = .bool false) (vs 14) u := hf.1
    have f20 : (fun v u => v = undef) (vs 20) u := hf.2.1
    clear hf
    simp only [putsA, List.foldl_cons, List.foldl_nil, Act.put, List.setIfInBounds_toArray, List.set_cons_zero, List.set_cons_succ] at hK ⊢
    generalize vs 14 = v14 at f14 hK ⊢
    generalize vs 20 = v20 at f20 hK ⊢
    subst f14 f20
    rw [if_neg (ne_true_of_eq_false (by rfl))]
    exact hK.out _ _ (Below.refl _ _) rfl
  case s22 =>
    refine StepF.of rfl [(14, some 52), (21, some 59)] (by kernel_rfl) ?_
    intro vs u hB hf K hK
    have f14 : (fun v u => v = .bool false) (vs 14) u := hf.1
    have f21 : (fun v u => v = undef) (vs 21) u := hf.2.1
    clear hf
    simp only [putsA, List.foldl_cons, List.foldl_nil, Act.put, List.setIfInBounds_toArray, List.set_cons_zero, List.set_cons_succ] at hK ⊢
    generalize vs 14 = v14 at f14 hK ⊢
    generalize vs 21 = v21 at f21 hK ⊢
    subst f14 f21
    rw [if_neg (ne_true_of_eq_false (by rfl))]
    exact hK.out _ _ (Below.refl _ _) rfl
  case s23 =>
    refine StepF.of rfl [(14, some 52), (22, some 60)] (by kernel_rfl) ?_
    intro vs u hB hf K hK
    have f14 : (fun v u => v = .bool false) (vs 14) u := hf.1
    have f22 : (fun v u => v = undef) (vs 22) u := hf.2.1
    clear hf
    simp only [putsA, List.foldl_cons, List.foldl_nil, Act.put, List.setIfInBounds_toArray, List.set_cons_zero, List.set_cons_succ] at hK ⊢
    generalize vs 14 = v14 at f14 hK ⊢
    generalize vs 22 = v22 at f22 hK ⊢
    subst f14 f22
    rw [if_neg (ne_true_of_eq_false (by rfl))]
    exact hK.out _ _ (Below.refl _ _) rfl
  case s24 =>
    refine StepF.of rfl [(14, some 52), (19, some 57), (23, some 61)] (by kernel_rfl) ?_
    intro vs u hB hf K hK
    have f14 : (fun v u => v = .bool false) (vs 14) u := hf.1
    have f19 : (fun v u => v = undef) (vs 19) u := hf.2.1
    have f23 : (fun v u => v = undef) (vs 23) u := hf.2.2.1
    clear hf
    simp only [putsA, List.foldl_cons, List.foldl_nil, Act.put, List.setIfInBounds_toArray, List.set_cons_zero, List.set_cons_succ] at hK ⊢
    generalize vs 14 = v14 at f14 hK ⊢
    generalize vs 19 = v19 at f19 hK ⊢
    generalize vs 23 = v23 at f23 hK ⊢
    subst f14 f19 f23
    rw [if_neg (ne_true_of_eq_false (by rfl))]
    exact hK.out _ _ (Below.refl _ _) rfl
  case last =>
    intro vs u hB hf K hK
    have f0 : (fun v u => v = .int .i64 (-1)) (vs 0) u := hf.1
    have f1 : (fun v u => v = .bool false) (vs 1) u := hf.2.1
    have f2 : (fun v u => v = .bool false) (vs 2) u := hf.2.2.1
    have f3 : (fun v u => v = undef) (vs 3) u := hf.2.2.2.1
    have f4 : (fun v u => v = undef) (vs 4) u := hf.2.2.2.2.1
    have f5 : (fun v u => v = undef) (vs 5) u := hf.2.2.2.2.2.1
    have f6 : (fun v u => v = undef) (vs 6) u := hf.2.2.2.2.2.2.1
    have f7 : (fun v u => v = undef) (vs 7) u := hf.2.2.2.2.2.2.2.1
    have f8 : (fun v u => v = undef) (vs 8) u := hf.2.2.2.2.2.2.2.2.1
    have f9 : (fun v u => v = undef) (vs 9) u := hf.2.2.2.2.2.2.2.2.2.1
    have f10 : (fun v u => v = undef) (vs 10) u := hf.2.2.2.2.2.2.2.2.2.2.1
    have f11 : (fun v u => v = undef) (vs 11) u := hf.2.2.2.2.2.2.2.2.2.2.2.1
    have f12 : (fun v u => v = undef) (vs 12) u := hf.2.2.2.2.2.2.2.2.2.2.2.2.1
    have f13 : (fun v u => v = .bool false) (vs 13) u := hf.2.2.2.2.2.2.2.2.2.2.2.2.2.1
    have f14 : (fun v u => v = .bool false) (vs 14) u := hf.2.2.2.2.2.2.2.2.2.2.2.2.2.2.1
    have f15 : (fun v u => v = undef) (vs 15) u := hf.2.2.2.2.2.2.2.2.2.2.2.2.2.2.2.1
    have f16 : (fun v u => v = undef) (vs 16) u := hf.2.2.2.2.2.2.2.2.2.2.2.2.2.2.2.2.1
    have f17 : (fun v u => v = undef) (vs 17) u := hf.2.2.2.2.2.2.2.2.2.2.2.2.2.2.2.2.2.1
    have f18 : (fun v u => v = undef) (vs 18) u := hf.2.2.2.2.2.2.2.2.2.2.2.2.2.2.2.2.2.2.1
    have f19 : (fun v u => v = undef) (vs 19) u := hf.2.2.2.2.2.2.2.2.2.2.2.2.2.2.2.2.2.2.2.1
    have f20 : (fun v u => v = undef) (vs 20) u := hf.2.2.2.2.2.2.2.2.2.2.2.2.2.2.2.2.2.2.2.2.1
    have f21 : (fun v u => v = undef) (vs 21) u := hf.2.2.2.2.2.2.2.2.2.2.2.2.2.2.2.2.2.2.2.2.2.1
    have f22 : (fun v u => v = undef) (vs 22) u := hf.2.2.2.2.2.2.2.2.2.2.2.2.2.2.2.2.2.2.2.2.2.2.1
    have f23 : (fun v u => v = undef) (vs 23) u := hf.2.2.2.2.2.2.2.2.2.2.2.2.2.2.2.2.2.2.2.2.2.2.2.1
    have f24 : (fun v u => v = undef) (vs 24) u := hf.2.2.2.2.2.2.2.2.2.2.2.2.2.2.2.2.2.2.2.2.2.2.2.2.1
    clear hf
    simp only [putsA, List.foldl_cons, List.foldl_nil, Act.put, List.setIfInBounds_toArray, List.set_cons_zero, List.set_cons_succ]
    generalize vs 0 = v0 at f0 ⊢
    generalize vs 1 = v1 at f1 ⊢
    generalize vs 2 = v2 at f2 ⊢
    generalize vs 3 = v3 at f3 ⊢
    generalize vs 4 = v4 at f4 ⊢
    generalize vs 5 = v5 at f5 ⊢
    generalize vs 6 = v6 at f6 ⊢
    generalize vs 7 = v7 at f7 ⊢
    generalize vs 8 = v8 at f8 ⊢
    generalize vs 9 = v9 at f9 ⊢
    generalize vs 10 = v10 at f10 ⊢
    generalize vs 11 = v11 at f11 ⊢
    generalize vs 12 = v12 at f12 ⊢
    generalize vs 13 = v13 at f13 ⊢
    generalize vs 14 = v14 at f14 ⊢
    generalize vs 15 = v15 at f15 ⊢
    generalize vs 16 = v16 at f16 ⊢
    generalize vs 17 = v17 at f17 ⊢
    generalize vs 18 = v18 at f18 ⊢
    generalize vs 19 = v19 at f19 ⊢
    generalize vs 20 = v20 at f20 ⊢
    generalize vs 21 = v21 at f21 ⊢
    generalize vs 22 = v22 at f22 ⊢
    generalize vs 23 = v23 at f23 ⊢
    generalize vs 24 = v24 at f24 ⊢
    subst f0 f1 f2 f3 f4 f5 f6 f7 f8 f9 f10 f11 f12 f13 f14 f15 f16 f17 f18 f19 f20 f21 f22 f23 f24
    rw [if_pos (by rfl)]
    go_simp
    refine hK.out _ _ ?_
    clear hK
    go_wp2
    go_ret
    exact ⟨by rw [HR2.out]; rfl, HBW.out.trans (hB.mono HBW.out.size)⟩
end Go.Proofs.Ytgfienijabkpjaa
/-
  The model's l7Site at a version that the global of that name has not; nothing that was there is turned.
-/
namespace Go.Proofs.Ytgfienijabkpjaa
open Go.RowKit Go.Extern.Stop Go.Stop Go.Extern Num Go.Lib

set_option maxRecDepth 100000 in
set_option maxHeartbeats 4000000 in
theorem site_apart (ao : Option Addr) (cap g bs : Nat) (l : List Glb) (s : ByteArray) (t : Ste) (w : World) (hl : l.length ≤ 1048576) (hao : 0 < l.length → ao = some ⟨g, 0, none⟩) (hr : RowG w g l) (ht : t.value.name.size ≤ 9223372036854775807) (hb : SteAt bs t w) (h0 : 1 ≤ t.ver ∧ t.ver ≤ 99999) (k : Nat) (hat : atG l s = some k) (hne : (l.getD k gZ).ver ≠ t.ver) :
    Calls Try.prog 80 #[.slice ao l.length cap, .string s, .pointer (some ⟨bs, 0, none⟩)] w fun e w' => e = .returned (.int .i64 (siteM l s t)) ∧ Below w.heap.size w w' := by
  obtain ⟨R, hR⟩ : ∃ R, R = siteM l s t := ⟨_, rfl⟩
  rw [← hR]
  obtain ⟨d, hd⟩ : ∃ d, d = vfault t.value := ⟨_, rfl⟩
  have HE : Hid (R = if d ≠ 0 then d else if parts l s t = true then 1 else 0) := by show R = _; rw [hR, hd]; unfold siteM; rw [if_neg (show ¬ t.ver = 0 by omega), if_pos h0]
  have HI : Hid (∀ u, Calls Try.prog 61 #[.int .i64 t.ver, .int .i64 0, .int .i64 99999] u fun e w' => e = .returned (.bool true) ∧ w' = u) := fun u => by
    refine (l1In_any t.ver 0 99999 u).mono ?_
    rintro e w' ⟨rfl, rfl⟩
    refine ⟨?_, rfl⟩
    have : (decide (0 ≤ t.ver) && decide (t.ver ≤ 99999)) = true := by simp; omega
    rw [this]
  obtain ⟨W, hW⟩ : ∃ W, W = w.alloc (.cells #[.int .i64 0, .int .i64 0, .string ⟨#[]⟩] 26) := ⟨_, rfl⟩
  have HW : Hid (W = w.alloc (.cells #[.int .i64 0, .int .i64 0, .string ⟨#[]⟩] 26)) := hW
  have HBW : Hid (Below w.heap.size w W) := by rw [hW]; exact (Below.refl _ _).alloc (Nat.le_refl _) _
  have HS : Hid (SteAt bs t W) := hb.below HBW.out
  have HP : Hid (RowG W g l) := hr.below HBW.out
  have HF : Hid (Calls Try.prog 42 #[.pointer (some ⟨bs, 1, none⟩)] W fun e w' => e = .returned (.int .i64 d) ∧ w' = W) := by rw [hd]; exact l5Fault_any bs 1 t.value W ht HS.out.vl
  have HA : Hid (Calls Try.prog 44 #[.slice ao l.length cap, .string s] W fun e w' => e = .returned (.int .i64 (atI (atG l s))) ∧ w' = W) := l7At_any ao cap g l s W hl hao HP.out
  have c0 := hb.c0
  have hbl : bs < w.heap.size := lt_of_cell hb.c0
  have h0' : (t.ver == 0) = false := by simp; omega
  have HAO : Hid (0 < l.length → ao = some ⟨g, 0, none⟩) := hao
  clear hW hao hr ht hb h0 hR hd
  by_cases h1 : d = 0
  case neg =>
    have HR : Hid (R = d) := by show R = d; rw [HE.out, if_pos h1]
    have h1' : (d != 0) = true := by simpa using h1
    clear HE h1 HA
    go_enter Try.func80, Try.ntmps80
    go_wp2_with (first | (go_at_call 61; refine (HI.out _).mono ?_; rintro e w' ⟨rfl, rfl⟩) | (go_at_call 42; rw [← HW.out]; refine HF.out.mono ?_; rintro e w' ⟨rfl, rfl⟩))
    go_ret
    exact ⟨by rw [HR.out]; rfl, HBW.out⟩
  subst h1
  have HR : Hid (R = if parts l s t = true then 1 else 0) := by show R = _; rw [HE.out]; simp
  clear HE
  obtain ⟨hk, _, _⟩ := atG_some hat
  obtain rfl := HAO.out (by omega)
  obtain ⟨t', ht'⟩ : ∃ t', t' = l[k]'hk := ⟨_, rfl⟩
  have hgd : l.getD k gZ = t' := by rw [ht']; simp [List.getD, hk]
  have HR2 : Hid (R = if ((t'.ver == t.ver) && !(eqVB t'.value t.value)) = true then 1 else 0) := by show R = _; rw [HR.out]; unfold parts; rw [hat, ← hgd]
  have HRt : Hid (∀ u, Below W.heap.size W u → u.cell? ⟨g, k * 5, none⟩ = some (.string t'.name) ∧ u.cell? ⟨g, k * 5 + 1, none⟩ = some (.int .i64 t'.value.kind) ∧ u.cell? ⟨g, k * 5 + 2, none⟩ = some (.int .i64 t'.value.num) ∧ u.cell? ⟨g, k * 5 + 3, none⟩ = some (.string t'.value.name) ∧ u.cell? ⟨g, k * 5 + 4, none⟩ = some (.int .i64 t'.ver)) := fun u hu => by rw [ht']; exact HP.out.below hu k hk
  rw [hat] at HA
  have hA : Hid (Calls Try.prog 44 #[.slice (some ⟨g, 0, none⟩) l.length cap, .string s] W fun e w' => e = .returned (.int .i64 (k : Int)) ∧ w' = W) := HA.out
  have hv1 : (t'.ver == t.ver) = false := by rw [← hgd]; simpa using hne
  have HR3 : Hid (R = 0) := by show R = 0; rw [HR2.out, hv1]; rfl
  clear HR HA hat hgd ht' HP HAO HR2 hne
  go_enter Try.func80, Try.ntmps80
  go_wp2_with (first | (go_at_call 61; refine (HI.out _).mono ?_; rintro e w' ⟨rfl, rfl⟩) | (go_at_call 42; rw [← HW.out]; refine HF.out.mono ?_; rintro e w' ⟨rfl, hw'⟩; replace hw' := hw'.symm; subst hw') | (go_at_call 44; refine hA.out.mono ?_; rintro e w' ⟨rfl, hw'⟩; replace hw' := hw'.symm; subst hw'))
  refine wp_region_facts (by kernel_rfl) 25 (fun v => Below W.heap.size W v) (fun u v => Below u.heap.size u v) (fun i v u => match i with | 0 => (fun v u => v = .int .i64 (k : Int)) v u | 1 => (fun v u => v = .bool true) v u | 2 => (fun v u => v = .bool true) v u | 3 => (fun v u => v = .slice (some ⟨g, 0, none⟩) l.length cap) v u | 4 => (fun v u => v = .int .i64 (k : Int)) v u | 5 => (fun v u => v = Value.pointer (some ⟨g, k * 5, none⟩)) v u | 6 => (fun v u => v = Value.pointer (some ⟨g, k * 5 + 4, none⟩)) v u | 7 => (fun v u => v = .int .i64 t'.ver) v u | 8 => (fun v u => v = Value.pointer (some ⟨bs, 0, none⟩)) v u | 9 => (fun v u => v = Value.pointer (some ⟨bs, 0, none⟩)) v u | 10 => (fun v u => v = Value.pointer (some ⟨bs, 0, none⟩)) v u | 11 => (fun v u => v = .int .i64 t.ver) v u | 12 => (fun v u => v = .bool false) v u | 13 => (fun v u => v = .bool false) v u | 14 => (fun v u => v = .bool false) v u | 15 => (fun v u => v = undef) v u | 16 => (fun v u => v = undef) v u | 17 => (fun v u => v = undef) v u | 18 => (fun v u => v = undef) v u | 19 => (fun v u => v = undef) v u | 20 => (fun v u => v = undef) v u | 21 => (fun v u => v = undef) v u | 22 => (fun v u => v = undef) v u | 23 => (fun v u => v = undef) v u | 24 => (fun v u => v = undef) v u | _ => True) (by kernel_rfl) [0, 1, 2, 3, 4, 5, 6, 7, 8, 9, 10, 11, 12, 13, 14, 15, 16, 17, 18, 19, 20, 21, 22, 23, 24] (by kernel_rfl) ?b0 ?bk ?fk ⟨?s0, ?s1, ?s2, ?s3, ?s4, ?s5, ?s6, ?s7, ?s8, ?s9, ?s10, ?s11, ?s12, ?s13, ?s14, ?s15, ?s16, ?s17, ?s18, ?s19, ?s20, ?s21, ?s22, ?s23, ?s24, trivial⟩ _ rfl [(0, some 38), (1, some 39), (2, some 40), (3, some 41), (4, some 42), (5, some 43), (6, some 44), (7, some 45), (8, some 46), (9, some 47), (10, some 48), (11, some 49), (12, some 50), (13, some 51), (14, some 52), (15, some 53), (16, some 54), (17, some 55), (18, some 56), (19, some 57), (20, some 58), (21, some 59), (22, some 60), (23, some 61), (24, some 62)] (by kernel_rfl) ?last
  case b0 => exact Below.drew (Below.refl _ _)
  case bk => exact fun u v h hb => h.trans (hb.mono h.size)
  case fk => intro i v u u' h hb; match i, h with | 0, h => exact h | 1, h => exact h | 2, h => exact h | 3, h => exact h | 4, h => exact h | 5, h => exact h | 6, h => exact h | 7, h => exact h | 8, h => exact h | 9, h => exact h | 10, h => exact h | 11, h => exact h | 12, h => exact h | 13, h => exact h | 14, h => exact h | 15, h => exact h | 16, h => exact h | 17, h => exact h | 18, h => exact h | 19, h => exact h | 20, h => exact h | 21, h => exact h | 22, h => exact h | 23, h => exact h | 24, h => exact h | _ + 25, _ => exact trivial
  case s0 =>
    refine StepF.of rfl [] (by kernel_rfl) ?_
    intro vs u hB hf K hK
    clear hf
    simp only [putsA, List.foldl_nil, Act.put, List.setIfInBounds_toArray] at hK ⊢
    rw [if_pos (by rfl)]
    go_simp
    exact hK.out _ _ (Below.refl _ _) rfl
  case s1 =>
    refine StepF.of rfl [(0, some 38)] (by kernel_rfl) ?_
    intro vs u hB hf K hK
    have f0 : (fun v u => v = .int .i64 (k : Int)) (vs 0) u := hf.1
    clear hf
    simp only [putsA, List.foldl_cons, List.foldl_nil, Act.put, List.setIfInBounds_toArray, List.set_cons_zero, List.set_cons_succ] at hK ⊢
    generalize vs 0 = v0 at f0 hK ⊢
    subst f0
    rw [if_pos (by rfl)]
    go_simp
    exact hK.out _ _ (Below.refl _ _) rfl
  case s2 =>
    refine StepF.of rfl [(1, some 39)] (by kernel_rfl) ?_
    intro vs u hB hf K hK
    have f1 : (fun v u => v = .bool true) (vs 1) u := hf.1
    clear hf
    simp only [putsA, List.foldl_cons, List.foldl_nil, Act.put, List.setIfInBounds_toArray, List.set_cons_zero, List.set_cons_succ] at hK ⊢
    generalize vs 1 = v1 at f1 hK ⊢
    subst f1
    rw [if_pos (by rfl)]
    go_simp
    exact hK.out _ _ (Below.refl _ _) rfl
  case s3 =>
    refine StepF.of rfl [(2, some 40)] (by kernel_rfl) ?_
    intro vs u hB hf K hK
    have f2 : (fun v u => v = .bool true) (vs 2) u := hf.1
    clear hf
    simp only [putsA, List.foldl_cons, List.foldl_nil, Act.put, List.setIfInBounds_toArray, List.set_cons_zero, List.set_cons_succ] at hK ⊢
    generalize vs 2 = v2 at f2 hK ⊢
    subst f2
    rw [if_pos (by rfl)]
    go_simp
    exact hK.out _ _ (Below.refl _ _) rfl
  case s4 =>
    refine StepF.of rfl [(2, some 40)] (by kernel_rfl) ?_
    intro vs u hB hf K hK
    have f2 : (fun v u => v = .bool true) (vs 2) u := hf.1
    clear hf
    simp only [putsA, List.foldl_cons, List.foldl_nil, Act.put, List.setIfInBounds_toArray, List.set_cons_zero, List.set_cons_succ] at hK ⊢
    generalize vs 2 = v2 at f2 hK ⊢
    subst f2
    rw [if_pos (by rfl)]
    go_simp
    exact hK.out _ _ (Below.refl _ _) rfl
  case s5 =>
    refine StepF.of rfl [(2, some 40), (3, some 41), (4, some 42)] (by kernel_rfl) ?_
    intro vs u hB hf K hK
    have f2 : (fun v u => v = .bool true) (vs 2) u := hf.1
    have f3 : (fun v u => v = .slice (some ⟨g, 0, none⟩) l.length cap) (vs 3) u := hf.2.1
    have f4 : (fun v u => v = .int .i64 (k : Int)) (vs 4) u := hf.2.2.1
    clear hf
    simp only [putsA, List.foldl_cons, List.foldl_nil, Act.put, List.setIfInBounds_toArray, List.set_cons_zero, List.set_cons_succ] at hK ⊢
    generalize vs 2 = v2 at f2 hK ⊢
    generalize vs 3 = v3 at f3 hK ⊢
    generalize vs 4 = v4 at f4 hK ⊢
    subst f2 f3 f4
    rw [if_pos (by rfl)]
    have hkl : (k : Int) < (l.length : Int) := by omega
    go_simp
    exact hK.out _ _ (Below.refl _ _) rfl
  case s6 =>
    refine StepF.of rfl [(2, some 40), (5, some 43)] (by kernel_rfl) ?_
    intro vs u hB hf K hK
    have f2 : (fun v u => v = .bool true) (vs 2) u := hf.1
    have f5 : (fun v u => v = Value.pointer (some ⟨g, k * 5, none⟩)) (vs 5) u := hf.2.1
    clear hf
    simp only [putsA, List.foldl_cons, List.foldl_nil, Act.put, List.setIfInBounds_toArray, List.set_cons_zero, List.set_cons_succ] at hK ⊢
    generalize vs 2 = v2 at f2 hK ⊢
    generalize vs 5 = v5 at f5 hK ⊢
    subst f2 f5
    rw [if_pos (by rfl)]
    go_simp
    exact hK.out _ _ (Below.refl _ _) rfl
  case s7 =>
    refine StepF.of rfl [(2, some 40), (6, some 44)] (by kernel_rfl) ?_
    intro vs u hB hf K hK
    have f2 : (fun v u => v = .bool true) (vs 2) u := hf.1
    have f6 : (fun v u => v = Value.pointer (some ⟨g, k * 5 + 4, none⟩)) (vs 6) u := hf.2.1
    clear hf
    simp only [putsA, List.foldl_cons, List.foldl_nil, Act.put, List.setIfInBounds_toArray, List.set_cons_zero, List.set_cons_succ] at hK ⊢
    generalize vs 2 = v2 at f2 hK ⊢
    generalize vs 6 = v6 at f6 hK ⊢
    subst f2 f6
    rw [if_pos (by rfl)]
    have d1 := (HRt.out _ hB).2.2.2.2
    go_simp
    exact hK.out _ _ (Below.refl _ _) rfl
  case s8 =>
    refine StepF.of rfl [(2, some 40)] (by kernel_rfl) ?_
    intro vs u hB hf K hK
    have f2 : (fun v u => v = .bool true) (vs 2) u := hf.1
    clear hf
    simp only [putsA, List.foldl_cons, List.foldl_nil, Act.put, List.setIfInBounds_toArray, List.set_cons_zero, List.set_cons_succ] at hK ⊢
    generalize vs 2 = v2 at f2 hK ⊢
    subst f2
    rw [if_pos (by rfl)]
    go_simp
    exact hK.out _ _ (Below.refl _ _) rfl
  case s9 =>
    refine StepF.of rfl [(2, some 40), (8, some 46)] (by kernel_rfl) ?_
    intro vs u hB hf K hK
    have f2 : (fun v u => v = .bool true) (vs 2) u := hf.1
    have f8 : (fun v u => v = Value.pointer (some ⟨bs, 0, none⟩)) (vs 8) u := hf.2.1
    clear hf
    simp only [putsA, List.foldl_cons, List.foldl_nil, Act.put, List.setIfInBounds_toArray, List.set_cons_zero, List.set_cons_succ] at hK ⊢
    generalize vs 2 = v2 at f2 hK ⊢
    generalize vs 8 = v8 at f8 hK ⊢
    subst f2 f8
    rw [if_pos (by rfl)]
    go_simp
    exact hK.out _ _ (Below.refl _ _) rfl
  case s10 =>
    refine StepF.of rfl [(2, some 40), (9, some 47)] (by kernel_rfl) ?_
    intro vs u hB hf K hK
    have f2 : (fun v u => v = .bool true) (vs 2) u := hf.1
    have f9 : (fun v u => v = Value.pointer (some ⟨bs, 0, none⟩)) (vs 9) u := hf.2.1
    clear hf
    simp only [putsA, List.foldl_cons, List.foldl_nil, Act.put, List.setIfInBounds_toArray, List.set_cons_zero, List.set_cons_succ] at hK ⊢
    generalize vs 2 = v2 at f2 hK ⊢
    generalize vs 9 = v9 at f9 hK ⊢
    subst f2 f9
    rw [if_pos (by rfl)]
    go_simp
    exact hK.out _ _ (Below.refl _ _) rfl
  case s11 =>
    refine StepF.of rfl [(2, some 40), (10, some 48)] (by kernel_rfl) ?_
    intro vs u hB hf K hK
    have f2 : (fun v u => v = .bool true) (vs 2) u := hf.1
    have f10 : (fun v u => v = Value.pointer (some ⟨bs, 0, none⟩)) (vs 10) u := hf.2.1
    clear hf
    simp only [putsA, List.foldl_cons, List.foldl_nil, Act.put, List.setIfInBounds_toArray, List.set_cons_zero, List.set_cons_succ] at hK ⊢
    generalize vs 2 = v2 at f2 hK ⊢
    generalize vs 10 = v10 at f10 hK ⊢
    subst f2 f10
    rw [if_pos (by rfl)]
    have d1 := (HS.out.below hB).c0
    go_simp
    exact hK.out _ _ (Below.refl _ _) rfl
  case s12 =>
    refine StepF.of rfl [(2, some 40), (7, some 45), (11, some 49)] (by kernel_rfl) ?_
    intro vs u hB hf K hK
    have f2 : (fun v u => v = .bool true) (vs 2) u := hf.1
    have f7 : (fun v u => v = .int .i64 t'.ver) (vs 7) u := hf.2.1
    have f11 : (fun v u => v = .int .i64 t.ver) (vs 11) u := hf.2.2.1
    clear hf
    simp only [putsA, List.foldl_cons, List.foldl_nil, Act.put, List.setIfInBounds_toArray, List.set_cons_zero, List.set_cons_succ] at hK ⊢
    generalize vs 2 = v2 at f2 hK ⊢
    generalize vs 7 = v7 at f7 hK ⊢
    generalize vs 11 = v11 at f11 hK ⊢
    subst f2 f7 f11
    rw [if_pos (by rfl)]
    go_simp
    exact hK.out _ _ (Below.refl _ _) rfl
  case s13 =>
    refine StepF.of rfl [(2, some 40), (12, some 50)] (by kernel_rfl) ?_
    intro vs u hB hf K hK
    have f2 : (fun v u => v = .bool true) (vs 2) u := hf.1
    have f12 : (fun v u => v = .bool false) (vs 12) u := hf.2.1
    clear hf
    simp only [putsA, List.foldl_cons, List.foldl_nil, Act.put, List.setIfInBounds_toArray, List.set_cons_zero, List.set_cons_succ] at hK ⊢
    generalize vs 2 = v2 at f2 hK ⊢
    generalize vs 12 = v12 at f12 hK ⊢
    subst f2 f12
    rw [if_pos (by rfl)]
    go_simp
    exact hK.out _ _ (Below.refl _ _) rfl
  case s14 =>
    refine StepF.of rfl [(2, some 40), (13, some 51)] (by kernel_rfl) ?_
    intro vs u hB hf K hK
    have f2 : (fun v u => v = .bool true) (vs 2) u := hf.1
    have f13 : (fun v u => v = .bool false) (vs 13) u := hf.2.1
    clear hf
    simp only [putsA, List.foldl_cons, List.foldl_nil, Act.put, List.setIfInBounds_toArray, List.set_cons_zero, List.set_cons_succ] at hK ⊢
    generalize vs 2 = v2 at f2 hK ⊢
    generalize vs 13 = v13 at f13 hK ⊢
    subst f2 f13
    rw [if_pos (by rfl)]
    go_simp
    exact hK.out _ _ (Below.refl _ _) rfl
  case s15 =>
    refine StepF.of rfl [(14, some 52)] (by kernel_rfl) ?_
    intro vs u hB hf K hK
    have f14 : (fun v u => v = .bool false) (vs 14) u := hf.1
    clear hf
    simp only [putsA, List.foldl_cons, List.foldl_nil, Act.put, List.setIfInBounds_toArray, List.set_cons_zero, List.set_cons_succ] at hK ⊢
    generalize vs 14 = v14 at f14 hK ⊢
    subst f14
    rw [if_neg (ne_true_of_eq_false (by rfl))]
    exact hK.out _ _ (Below.refl _ _) rfl
  case s16 =>
    refine StepF.of rfl [(14, some 52)] (by kernel_rfl) ?_
    intro vs u hB hf K hK
    have f14 : (fun v u => v = .bool false) (vs 14) u := hf.1
    clear hf
    simp only [putsA, List.foldl_cons, List.foldl_nil, Act.put, List.setIfInBounds_toArray, List.set_cons_zero, List.set_cons_succ] at hK ⊢
    generalize vs 14 = v14 at f14 hK ⊢
    subst f14
    rw [if_neg (ne_true_of_eq_false (by rfl))]
    exact hK.out _ _ (Below.refl _ _) rfl
  case s17 =>
    refine StepF.of rfl [(14, some 52), (15, some 53), (16, some 54)] (by kernel_rfl) ?_
    intro vs u hB hf K hK
    have f14 : (fun v u => v = .bool false) (vs 14) u := hf.1
    have f15 : (fun v u => v = undef) (vs 15) u := hf.2.1
    have f16 : (fun v u => v = undef) (vs 16) u := hf.2.2.1
    clear hf
    simp only [putsA, List.foldl_cons, List.foldl_nil, Act.put, List.setIfInBounds_toArray, List.set_cons_zero, List.set_cons_succ] at hK ⊢
    generalize vs 14 = v14 at f14 hK ⊢
    generalize vs 15 = v15 at f15 hK ⊢
    generalize vs 16 = v16 at f16 hK ⊢
    subst f14 f15 f16
    rw [if_neg (ne_true_of_eq_false (by rfl))]
    exact hK.out _ _ (Below.refl _ _) rfl
  case s18 =>
    refine StepF.of rfl [(14, some 52), (17, some 55)] (by kernel_rfl) ?_
    intro vs u hB hf K hK
    have f14 : (fun v u => v = .bool false) (vs 14) u := hf.1
    have f17 : (fun v u => v = undef) (vs 17) u := hf.2.1
    clear hf
    simp only [putsA, List.foldl_cons, List.foldl_nil, Act.put, List.setIfInBounds_toArray, List.set_cons_zero, List.set_cons_succ] at hK ⊢
    generalize vs 14 = v14 at f14 hK ⊢
    generalize vs 17 = v17 at f17 hK ⊢
    subst f14 f17
    rw [if_neg (ne_true_of_eq_false (by rfl))]
    exact hK.out _ _ (Below.refl _ _) rfl
  case s19 =>
    refine StepF.of rfl [(14, some 52), (18, some 56)] (by kernel_rfl) ?_
    intro vs u hB hf K hK
    have f14 : (fun v u => v = .bool false) (vs 14) u := hf.1
    have f18 : (fun v u => v = undef) (vs 18) u := hf.2.1
    clear hf
    simp only [putsA, List.foldl_cons, List.foldl_nil, Act.put, List.setIfInBounds_toArray, List.set_cons_zero, List.set_cons_succ] at hK ⊢
    generalize vs 14 = v14 at f14 hK ⊢
    generalize vs 18 = v18 at f18 hK ⊢
    subst f14 f18
    rw [if_neg (ne_true_of_eq_false (by rfl))]
    exact hK.out _ _ (Below.refl _ _) rfl
  case s20 =>
    refine StepF.of rfl [(14, some 52)] (by kernel_rfl) ?_
    intro vs u hB hf K hK
    have f14 : (fun v u => v = .bool false) (vs 14) u := hf.1
    clear hf
    simp only [putsA, List.foldl_cons, List.foldl_nil, Act.put, List.setIfInBounds_toArray, List.set_cons_zero, List.set_cons_succ] at hK ⊢
    generalize vs 14 = v14 at f14 hK ⊢
    subst f14
    rw [if_neg (ne_true_of_eq_false (by rfl))]
    exact hK.out _ _ (Below.refl _ _) rfl
  case s21 =>
    refine StepF.of rfl [(14, some 52), (20, some 58)] (by kernel_rfl) ?_
    intro vs u hB hf K hK
    have f14 : (fun v u => v = .bool false) (vs 14) u := hf.1
    have f20 : (fun v u => v = undef) (vs 20) u := hf.2.1
    clear hf
    simp only [putsA, List.foldl_cons, List.foldl_nil, Act.put, List.setIfInBounds_toArray, List.set_cons_zero, List.set_cons_succ] at hK ⊢
    generalize vs 14 = v14 at f14 hK ⊢
    generalize vs 20 = v20 at f20 hK ⊢
    subst f14 f20
    rw [if_neg (ne_true_of_eq_false (by rfl))]
    exact hK.out _ _ (Below.refl _ _) rfl
  case s22 =>
    refine StepF.of rfl [(14, some 52), (21, some 59)] (by kernel_rfl) ?_
    intro vs u hB hf K hK
    have f14 : (fun v u => v = .bool false) (vs 14) u := hf.1
    have f21 : (fun v u => v = undef) (vs 21) u := hf.2.1
    clear hf
    simp only [putsA, List.foldl_cons, List.foldl_nil, Act.put, List.setIfInBounds_toArray, List.set_cons_zero, List.set_cons_succ] at hK ⊢
    generalize vs 14 = v14 at f14 hK ⊢
    generalize vs 21 = v21 at f21 hK ⊢
    subst f14 f21
    rw [if_neg (ne_true_of_eq_false (by rfl))]
    exact hK.out _ _ (Below.refl _ _) rfl
  case s23 =>
    refine StepF.of rfl [(14, some 52), (22, some 60)] (by kernel_rfl) ?_
    intro vs u hB hf K hK
    have f14 : (fun v u => v = .bool false) (vs 14) u := hf.1
    have f22 : (fun v u => v = undef) (vs 22) u := hf.2.1
    clear hf
    simp only [putsA, List.foldl_cons, List.foldl_nil, Act.put, List.setIfInBounds_toArray, List.set_cons_zero, List.set_cons_succ] at hK ⊢
    generalize vs 14 = v14 at f14 hK ⊢
    generalize vs 22 = v22 at f22 hK ⊢
    subst f14 f22
    rw [if_neg (ne_true_of_eq_false (by rfl))]
    exact hK.out _ _ (Below.refl _ _) rfl
  case s24 =>
    refine StepF.of rfl [(14, some 52), (19, some 57), (23, some 61)] (by kernel_rfl) ?_
    intro vs u hB hf K hK
    have f14 : (fun v u => v = .bool false) (vs 14) u := hf.1
    have f19 : (fun v u => v = undef) (vs 19) u := hf.2.1
    have f23 : (fun v u => v = undef) (vs 23) u := hf.2.2.1
    clear hf
    simp only [putsA, List.foldl_cons, List.foldl_nil, Act.put, List.setIfInBounds_toArray, List.set_cons_zero, List.set_cons_succ] at hK ⊢
    generalize vs 14 = v14 at f14 hK ⊢
    generalize vs 19 = v19 at f19 hK ⊢
    generalize vs 23 = v23 at f23 hK ⊢
    subst f14 f19 f23
    rw [if_neg (ne_true_of_eq_false (by rfl))]
    exact hK.out _ _ (Below.refl _ _) rfl
  case last =>
    intro vs u hB hf K hK
    have f0 : (fun v u => v = .int .i64 (k : Int)) (vs 0) u := hf.1
    have f1 : (fun v u => v = .bool true) (vs 1) u := hf.2.1
    have f2 : (fun v u => v = .bool true) (vs 2) u := hf.2.2.1
    have f3 : (fun v u => v = .slice (some ⟨g, 0, none⟩) l.length cap) (vs 3) u := hf.2.2.2.1
    have f4 : (fun v u => v = .int .i64 (k : Int)) (vs 4) u := hf.2.2.2.2.1
    have f5 : (fun v u => v = Value.pointer (some ⟨g, k * 5, none⟩)) (vs 5) u := hf.2.2.2.2.2.1
    have f6 : (fun v u => v = Value.pointer (some ⟨g, k * 5 + 4, none⟩)) (vs 6) u := hf.2.2.2.2.2.2.1
    have f7 : (fun v u => v = .int .i64 t'.ver) (vs 7) u := hf.2.2.2.2.2.2.2.1
    have f8 : (fun v u => v = Value.pointer (some ⟨bs, 0, none⟩)) (vs 8) u := hf.2.2.2.2.2.2.2.2.1
    have f9 : (fun v u => v = Value.pointer (some ⟨bs, 0, none⟩)) (vs 9) u := hf.2.2.2.2.2.2.2.2.2.1
    have f10 : (fun v u => v = Value.pointer (some ⟨bs, 0, none⟩)) (vs 10) u := hf.2.2.2.2.2.2.2.2.2.2.1
    have f11 : (fun v u => v = .int .i64 t.ver) (vs 11) u := hf.2.2.2.2.2.2.2.2.2.2.2.1
    have f12 : (fun v u => v = .bool false) (vs 12) u := hf.2.2.2.2.2.2.2.2.2.2.2.2.1
    have f13 : (fun v u => v = .bool false) (vs 13) u := hf.2.2.2.2.2.2.2.2.2.2.2.2.2.1
    have f14 : (fun v u => v = .bool false) (vs 14) u := hf.2.2.2.2.2.2.2.2.2.2.2.2.2.2.1
    have f15 : (fun v u => v = undef) (vs 15) u := hf.2.2.2.2.2.2.2.2.2.2.2.2.2.2.2.1
    have f16 : (fun v u => v = undef) (vs 16) u := hf.2.2.2.2.2.2.2.2.2.2.2.2.2.2.2.2.1
    have f17 : (fun v u => v = undef) (vs 17) u := hf.2.2.2.2.2.2.2.2.2.2.2.2.2.2.2.2.2.1
    have f18 : (fun v u => v = undef) (vs 18) u := hf.2.2.2.2.2.2.2.2.2.2.2.2.2.2.2.2.2.2.1
    have f19 : (fun v u => v = undef) (vs 19) u := hf.2.2.2.2.2.2.2.2.2.2.2.2.2.2.2.2.2.2.2.1
    have f20 : (fun v u => v = undef) (vs 20) u := hf.2.2.2.2.2.2.2.2.2.2.2.2.2.2.2.2.2.2.2.2.1
    have f21 : (fun v u => v = undef) (vs 21) u := hf.2.2.2.2.2.2.2.2.2.2.2.2.2.2.2.2.2.2.2.2.2.1
    have f22 : (fun v u => v = undef) (vs 22) u := hf.2.2.2.2.2.2.2.2.2.2.2.2.2.2.2.2.2.2.2.2.2.2.1
    have f23 : (fun v u => v = undef) (vs 23) u := hf.2.2.2.2.2.2.2.2.2.2.2.2.2.2.2.2.2.2.2.2.2.2.2.1
    have f24 : (fun v u => v = undef) (vs 24) u := hf.2.2.2.2.2.2.2.2.2.2.2.2.2.2.2.2.2.2.2.2.2.2.2.2.1
    clear hf
    simp only [putsA, List.foldl_cons, List.foldl_nil, Act.put, List.setIfInBounds_toArray, List.set_cons_zero, List.set_cons_succ]
    generalize vs 0 = v0 at f0 ⊢
    generalize vs 1 = v1 at f1 ⊢
    generalize vs 2 = v2 at f2 ⊢
    generalize vs 3 = v3 at f3 ⊢
    generalize vs 4 = v4 at f4 ⊢
    generalize vs 5 = v5 at f5 ⊢
    generalize vs 6 = v6 at f6 ⊢
    generalize vs 7 = v7 at f7 ⊢
    generalize vs 8 = v8 at f8 ⊢
    generalize vs 9 = v9 at f9 ⊢
    generalize vs 10 = v10 at f10 ⊢
    generalize vs 11 = v11 at f11 ⊢
    generalize vs 12 = v12 at f12 ⊢
    generalize vs 13 = v13 at f13 ⊢
    generalize vs 14 = v14 at f14 ⊢
    generalize vs 15 = v15 at f15 ⊢
    generalize vs 16 = v16 at f16 ⊢
    generalize vs 17 = v17 at f17 ⊢
    generalize vs 18 = v18 at f18 ⊢
    generalize vs 19 = v19 at f19 ⊢
    generalize vs 20 = v20 at f20 ⊢
    generalize vs 21 = v21 at f21 ⊢
    generalize vs 22 = v22 at f22 ⊢
    generalize vs 23 = v23 at f23 ⊢
    generalize vs 24 = v24 at f24 ⊢
    subst f0 f1 f2 f3 f4 f5 f6 f7 f8 f9 f10 f11 f12 f13 f14 f15 f16 f17 f18 f19 f20 f21 f22 f23 f24
    rw [if_pos (by rfl)]
    go_simp
    refine hK.out _ _ ?_
    clear hK
    go_wp2
    go_ret
    exact ⟨by rw [HR3.out]; rfl, HBW.out.trans (hB.mono HBW.out.size)⟩
end Go.Proofs.Ytgfienijabkpjaa
/-
  The model's l7Site at the version that the global of that name has; nothing that was there is turned.
-/
namespace Go.Proofs.Ytgfienijabkpjaa
open Go.RowKit Go.Extern.Stop Go.Stop Go.Extern Num Go.Lib

set_option maxRecDepth 100000 in
set_option maxHeartbeats 4000000 in
theorem site_same (ao : Option Addr) (cap g bs : Nat) (l : List Glb) (s : ByteArray) (t : Ste) (w : World) (hl : l.length ≤ 1048576) (hao : 0 < l.length → ao = some ⟨g, 0, none⟩) (hr : RowG w g l) (ht : t.value.name.size ≤ 9223372036854775807) (hb : SteAt bs t w) (h0 : 1 ≤ t.ver ∧ t.ver ≤ 99999) (k : Nat) (hat : atG l s = some k) (heq : (l.getD k gZ).ver = t.ver) :
    Calls Try.prog 80 #[.slice ao l.length cap, .string s, .pointer (some ⟨bs, 0, none⟩)] w fun e w' => e = .returned (.int .i64 (siteM l s t)) ∧ Below w.heap.size w w' := by
  obtain ⟨R, hR⟩ : ∃ R, R = siteM l s t := ⟨_, rfl⟩
  rw [← hR]
  obtain ⟨d, hd⟩ : ∃ d, d = vfault t.value := ⟨_, rfl⟩
  have HE : Hid (R = if d ≠ 0 then d else if parts l s t = true then 1 else 0) := by show R = _; rw [hR, hd]; unfold siteM; rw [if_neg (show ¬ t.ver = 0 by omega), if_pos h0]
  have HI : Hid (∀ u, Calls Try.prog 61 #[.int .i64 t.ver, .int .i64 0, .int .i64 99999] u fun e w' => e = .returned (.bool true) ∧ w' = u) := fun u => by
    refine (l1In_any t.ver 0 99999 u).mono ?_
    rintro e w' ⟨rfl, rfl⟩
    refine ⟨?_, rfl⟩
    have : (decide (0 ≤ t.ver) && decide (t.ver ≤ 99999)) = true := by simp; omega
    rw [this]
  obtain ⟨W, hW⟩ : ∃ W, W = w.alloc (.cells #[.int .i64 0, .int .i64 0, .string ⟨#[]⟩] 26) := ⟨_, rfl⟩
  have HW : Hid (W = w.alloc (.cells #[.int .i64 0, .int .i64 0, .string ⟨#[]⟩] 26)) := hW
  have HBW : Hid (Below w.heap.size w W) := by rw [hW]; exact (Below.refl _ _).alloc (Nat.le_refl _) _
  have HS : Hid (SteAt bs t W) := hb.below HBW.out
  have HP : Hid (RowG W g l) := hr.below HBW.out
  have HF : Hid (Calls Try.prog 42 #[.pointer (some ⟨bs, 1, none⟩)] W fun e w' => e = .returned (.int .i64 d) ∧ w' = W) := by rw [hd]; exact l5Fault_any bs 1 t.value W ht HS.out.vl
  have HA : Hid (Calls Try.prog 44 #[.slice ao l.length cap, .string s] W fun e w' => e = .returned (.int .i64 (atI (atG l s))) ∧ w' = W) := l7At_any ao cap g l s W hl hao HP.out
  have c0 := hb.c0
  have hbl : bs < w.heap.size := lt_of_cell hb.c0
  have h0' : (t.ver == 0) = false := by simp; omega
  have HAO : Hid (0 < l.length → ao = some ⟨g, 0, none⟩) := hao
  clear hW hao hr ht hb h0 hR hd
  by_cases h1 : d = 0
  case neg =>
    have HR : Hid (R = d) := by show R = d; rw [HE.out, if_pos h1]
    have h1' : (d != 0) = true := by simpa using h1
    clear HE h1 HA
    go_enter Try.func80, Try.ntmps80
    go_wp2_with (first | (go_at_call 61; refine (HI.out _).mono ?_; rintro e w' ⟨rfl, rfl⟩) | (go_at_call 42; rw [← HW.out]; refine HF.out.mono ?_; rintro e w' ⟨rfl, rfl⟩))
    go_ret
    exact ⟨by rw [HR.out]; rfl, HBW.out⟩
  subst h1
  have HR : Hid (R = if parts l s t = true then 1 else 0) := by show R = _; rw [HE.out]; simp
  clear HE
  obtain ⟨hk, _, _⟩ := atG_some hat
  obtain rfl := HAO.out (by omega)
  obtain ⟨t', ht'⟩ : ∃ t', t' = l[k]'hk := ⟨_, rfl⟩
  have hgd : l.getD k gZ = t' := by rw [ht']; simp [List.getD, hk]
  have HR2 : Hid (R = if ((t'.ver == t.ver) && !(eqVB t'.value t.value)) = true then 1 else 0) := by show R = _; rw [HR.out]; unfold parts; rw [hat, ← hgd]
  have HRt : Hid (∀ u, Below W.heap.size W u → u.cell? ⟨g, k * 5, none⟩ = some (.string t'.name) ∧ u.cell? ⟨g, k * 5 + 1, none⟩ = some (.int .i64 t'.value.kind) ∧ u.cell? ⟨g, k * 5 + 2, none⟩ = some (.int .i64 t'.value.num) ∧ u.cell? ⟨g, k * 5 + 3, none⟩ = some (.string t'.value.name) ∧ u.cell? ⟨g, k * 5 + 4, none⟩ = some (.int .i64 t'.ver)) := fun u hu => by rw [ht']; exact HP.out.below hu k hk
  rw [hat] at HA
  have hA : Hid (Calls Try.prog 44 #[.slice (some ⟨g, 0, none⟩) l.length cap, .string s] W fun e w' => e = .returned (.int .i64 (k : Int)) ∧ w' = W) := HA.out
  have HV1 : Hid ((t'.ver == t.ver) = true) := by show (t'.ver == t.ver) = true; rw [← hgd]; simpa using heq
  obtain ⟨nq, hnq⟩ : ∃ nq, nq = !(eqVB t'.value t.value) := ⟨_, rfl⟩
  have HR3 : Hid (R = if nq = true then 1 else 0) := by show R = _; rw [HR2.out, HV1.out, hnq]; rfl
  have HNB : Hid (nq = !(t'.value.kind == t.value.kind && (t'.value.num == t.value.num && (t'.value.name.toList == t.value.name.toList)))) := by show nq = _; rw [hnq, eqVB_bits]
  clear HR HA hat hgd ht' HP HAO HR2 heq hnq
  go_enter Try.func80, Try.ntmps80
  go_wp2_with (first | (go_at_call 61; refine (HI.out _).mono ?_; rintro e w' ⟨rfl, rfl⟩) | (go_at_call 42; rw [← HW.out]; refine HF.out.mono ?_; rintro e w' ⟨rfl, hw'⟩; replace hw' := hw'.symm; subst hw') | (go_at_call 44; refine hA.out.mono ?_; rintro e w' ⟨rfl, hw'⟩; replace hw' := hw'.symm; subst hw'))
  refine wp_region_facts (by kernel_rfl) 25 (fun v => Below W.heap.size W v) (fun u v => Below u.heap.size u v) (fun i v u => match i with | 0 => (fun v u => v = .int .i64 (k : Int)) v u | 1 => (fun v u => v = .bool true) v u | 2 => (fun v u => v = .bool true) v u | 3 => (fun v u => v = .slice (some ⟨g, 0, none⟩) l.length cap) v u | 4 => (fun v u => v = .int .i64 (k : Int)) v u | 5 => (fun v u => v = Value.pointer (some ⟨g, k * 5, none⟩)) v u | 6 => (fun v u => v = Value.pointer (some ⟨g, k * 5 + 4, none⟩)) v u | 7 => (fun v u => v = .int .i64 t'.ver) v u | 8 => (fun v u => v = Value.pointer (some ⟨bs, 0, none⟩)) v u | 9 => (fun v u => v = Value.pointer (some ⟨bs, 0, none⟩)) v u | 10 => (fun v u => v = Value.pointer (some ⟨bs, 0, none⟩)) v u | 11 => (fun v u => v = .int .i64 t.ver) v u | 12 => (fun v u => v = .bool true) v u | 13 => (fun v u => v = .bool true) v u | 14 => (fun v u => v = .bool true) v u | 15 => (fun v u => v = .slice (some ⟨g, 0, none⟩) l.length cap) v u | 16 => (fun v u => v = .int .i64 (k : Int)) v u | 17 => (fun v u => v = Value.pointer (some ⟨g, k * 5, none⟩)) v u | 18 => (fun v u => v = Value.pointer (some ⟨g, k * 5 + 1, none⟩)) v u | 19 => (fun v u => v = t'.value.val) v u | 20 => (fun v u => v = Value.pointer (some ⟨bs, 0, none⟩)) v u | 21 => (fun v u => v = Value.pointer (some ⟨bs, 0, none⟩)) v u | 22 => (fun v u => v = Value.pointer (some ⟨bs, 1, none⟩)) v u | 23 => (fun v u => v = t.value.val) v u | 24 => (fun v u => v = .bool nq) v u | _ => True) (by kernel_rfl) [0, 1, 2, 3, 4, 5, 6, 7, 8, 9, 10, 11, 12, 13, 14, 15, 16, 17, 18, 19, 20, 21, 22, 23, 24] (by kernel_rfl) ?b0 ?bk ?fk ⟨?s0, ?s1, ?s2, ?s3, ?s4, ?s5, ?s6, ?s7, ?s8, ?s9, ?s10, ?s11, ?s12, ?s13, ?s14, ?s15, ?s16, ?s17, ?s18, ?s19, ?s20, ?s21, ?s22, ?s23, ?s24, trivial⟩ _ rfl [(0, some 38), (1, some 39), (2, some 40), (3, some 41), (4, some 42), (5, some 43), (6, some 44), (7, some 45), (8, some 46), (9, some 47), (10, some 48), (11, some 49), (12, some 50), (13, some 51), (14, some 52), (15, some 53), (16, some 54), (17, some 55), (18, some 56), (19, some 57), (20, some 58), (21, some 59), (22, some 60), (23, some 61), (24, some 62)] (by kernel_rfl) ?last
  case b0 => exact Below.drew (Below.refl _ _)
  case bk => exact fun u v h hb => h.trans (hb.mono h.size)
  case fk => intro i v u u' h hb; match i, h with | 0, h => exact h | 1, h => exact h | 2, h => exact h | 3, h => exact h | 4, h => exact h | 5, h => exact h | 6, h => exact h | 7, h => exact h | 8, h => exact h | 9, h => exact h | 10, h => exact h | 11, h => exact h | 12, h => exact h | 13, h => exact h | 14, h => exact h | 15, h => exact h | 16, h => exact h | 17, h => exact h | 18, h => exact h | 19, h => exact h | 20, h => exact h | 21, h => exact h | 22, h => exact h | 23, h => exact h | 24, h => exact h | _ + 25, _ => exact trivial
  case s0 =>
    refine StepF.of rfl [] (by kernel_rfl) ?_
    intro vs u hB hf K hK
    clear hf
    simp only [putsA, List.foldl_nil, Act.put, List.setIfInBounds_toArray] at hK ⊢
    rw [if_pos (by rfl)]
    go_simp
    exact hK.out _ _ (Below.refl _ _) rfl
  case s1 =>
    refine StepF.of rfl [(0, some 38)] (by kernel_rfl) ?_
    intro vs u hB hf K hK
    have f0 : (fun v u => v = .int .i64 (k : Int)) (vs 0) u := hf.1
    clear hf
    simp only [putsA, List.foldl_cons, List.foldl_nil, Act.put, List.setIfInBounds_toArray, List.set_cons_zero, List.set_cons_succ] at hK ⊢
    generalize vs 0 = v0 at f0 hK ⊢
    subst f0
    rw [if_pos (by rfl)]
    go_simp
    exact hK.out _ _ (Below.refl _ _) rfl
  case s2 =>
    refine StepF.of rfl [(1, some 39)] (by kernel_rfl) ?_
    intro vs u hB hf K hK
    have f1 : (fun v u => v = .bool true) (vs 1) u := hf.1
    clear hf
    simp only [putsA, List.foldl_cons, List.foldl_nil, Act.put, List.setIfInBounds_toArray, List.set_cons_zero, List.set_cons_succ] at hK ⊢
    generalize vs 1 = v1 at f1 hK ⊢
    subst f1
    rw [if_pos (by rfl)]
    go_simp
    exact hK.out _ _ (Below.refl _ _) rfl
  case s3 =>
    refine StepF.of rfl [(2, some 40)] (by kernel_rfl) ?_
    intro vs u hB hf K hK
    have f2 : (fun v u => v = .bool true) (vs 2) u := hf.1
    clear hf
    simp only [putsA, List.foldl_cons, List.foldl_nil, Act.put, List.setIfInBounds_toArray, List.set_cons_zero, List.set_cons_succ] at hK ⊢
    generalize vs 2 = v2 at f2 hK ⊢
    subst f2
    rw [if_pos (by rfl)]
    go_simp
    exact hK.out _ _ (Below.refl _ _) rfl
  case s4 =>
    refine StepF.of rfl [(2, some 40)] (by kernel_rfl) ?_
    intro vs u hB hf K hK
    have f2 : (fun v u => v = .bool true) (vs 2) u := hf.1
    clear hf
    simp only [putsA, List.foldl_cons, List.foldl_nil, Act.put, List.setIfInBounds_toArray, List.set_cons_zero, List.set_cons_succ] at hK ⊢
    generalize vs 2 = v2 at f2 hK ⊢
    subst f2
    rw [if_pos (by rfl)]
    go_simp
    exact hK.out _ _ (Below.refl _ _) rfl
  case s5 =>
    refine StepF.of rfl [(2, some 40), (3, some 41), (4, some 42)] (by kernel_rfl) ?_
    intro vs u hB hf K hK
    have f2 : (fun v u => v = .bool true) (vs 2) u := hf.1
    have f3 : (fun v u => v = .slice (some ⟨g, 0, none⟩) l.length cap) (vs 3) u := hf.2.1
    have f4 : (fun v u => v = .int .i64 (k : Int)) (vs 4) u := hf.2.2.1
    clear hf
    simp only [putsA, List.foldl_cons, List.foldl_nil, Act.put, List.setIfInBounds_toArray, List.set_cons_zero, List.set_cons_succ] at hK ⊢
    generalize vs 2 = v2 at f2 hK ⊢
    generalize vs 3 = v3 at f3 hK ⊢
    generalize vs 4 = v4 at f4 hK ⊢
    subst f2 f3 f4
    rw [if_pos (by rfl)]
    have hkl : (k : Int) < (l.length : Int) := by omega
    go_simp
    exact hK.out _ _ (Below.refl _ _) rfl
  case s6 =>
    refine StepF.of rfl [(2, some 40), (5, some 43)] (by kernel_rfl) ?_
    intro vs u hB hf K hK
    have f2 : (fun v u => v = .bool true) (vs 2) u := hf.1
    have f5 : (fun v u => v = Value.pointer (some ⟨g, k * 5, none⟩)) (vs 5) u := hf.2.1
    clear hf
    simp only [putsA, List.foldl_cons, List.foldl_nil, Act.put, List.setIfInBounds_toArray, List.set_cons_zero, List.set_cons_succ] at hK ⊢
    generalize vs 2 = v2 at f2 hK ⊢
    generalize vs 5 = v5 at f5 hK ⊢
    subst f2 f5
    rw [if_pos (by rfl)]
    go_simp
    exact hK.out _ _ (Below.refl _ _) rfl
  case s7 =>
    refine StepF.of rfl [(2, some 40), (6, some 44)] (by kernel_rfl) ?_
    intro vs u hB hf K hK
    have f2 : (fun v u => v = .bool true) (vs 2) u := hf.1
    have f6 : (fun v u => v = Value.pointer (some ⟨g, k * 5 + 4, none⟩)) (vs 6) u := hf.2.1
    clear hf
    simp only [putsA, List.foldl_cons, List.foldl_nil, Act.put, List.setIfInBounds_toArray, List.set_cons_zero, List.set_cons_succ] at hK ⊢
    generalize vs 2 = v2 at f2 hK ⊢
    generalize vs 6 = v6 at f6 hK ⊢
    subst f2 f6
    rw [if_pos (by rfl)]
    have d1 := (HRt.out _ hB).2.2.2.2
    go_simp
    exact hK.out _ _ (Below.refl _ _) rfl
  case s8 =>
    refine StepF.of rfl [(2, some 40)] (by kernel_rfl) ?_
    intro vs u hB hf K hK
    have f2 : (fun v u => v = .bool true) (vs 2) u := hf.1
    clear hf
    simp only [putsA, List.foldl_cons, List.foldl_nil, Act.put, List.setIfInBounds_toArray, List.set_cons_zero, List.set_cons_succ] at hK ⊢
    generalize vs 2 = v2 at f2 hK ⊢
    subst f2
    rw [if_pos (by rfl)]
    go_simp
    exact hK.out _ _ (Below.refl _ _) rfl
  case s9 =>
    refine StepF.of rfl [(2, some 40), (8, some 46)] (by kernel_rfl) ?_
    intro vs u hB hf K hK
    have f2 : (fun v u => v = .bool true) (vs 2) u := hf.1
    have f8 : (fun v u => v = Value.pointer (some ⟨bs, 0, none⟩)) (vs 8) u := hf.2.1
    clear hf
    simp only [putsA, List.foldl_cons, List.foldl_nil, Act.put, List.setIfInBounds_toArray, List.set_cons_zero, List.set_cons_succ] at hK ⊢
    generalize vs 2 = v2 at f2 hK ⊢
    generalize vs 8 = v8 at f8 hK ⊢
    subst f2 f8
    rw [if_pos (by rfl)]
    go_simp
    exact hK.out _ _ (Below.refl _ _) rfl
  case s10 =>
    refine StepF.of rfl [(2, some 40), (9, some 47)] (by kernel_rfl) ?_
    intro vs u hB hf K hK
    have f2 : (fun v u => v = .bool true) (vs 2) u := hf.1
    have f9 : (fun v u => v = Value.pointer (some ⟨bs, 0, none⟩)) (vs 9) u := hf.2.1
    clear hf
    simp only [putsA, List.foldl_cons, List.foldl_nil, Act.put, List.setIfInBounds_toArray, List.set_cons_zero, List.set_cons_succ] at hK ⊢
    generalize vs 2 = v2 at f2 hK ⊢
    generalize vs 9 = v9 at f9 hK ⊢
    subst f2 f9
    rw [if_pos (by rfl)]
    go_simp
    exact hK.out _ _ (Below.refl _ _) rfl
  case s11 =>
    refine StepF.of rfl [(2, some 40), (10, some 48)] (by kernel_rfl) ?_
    intro vs u hB hf K hK
    have f2 : (fun v u => v = .bool true) (vs 2) u := hf.1
    have f10 : (fun v u => v = Value.pointer (some ⟨bs, 0, none⟩)) (vs 10) u := hf.2.1
    clear hf
    simp only [putsA, List.foldl_cons, List.foldl_nil, Act.put, List.setIfInBounds_toArray, List.set_cons_zero, List.set_cons_succ] at hK ⊢
    generalize vs 2 = v2 at f2 hK ⊢
    generalize vs 10 = v10 at f10 hK ⊢
    subst f2 f10
    rw [if_pos (by rfl)]
    have d1 := (HS.out.below hB).c0
    go_simp
    exact hK.out _ _ (Below.refl _ _) rfl
  case s12 =>
    refine StepF.of rfl [(2, some 40), (7, some 45), (11, some 49)] (by kernel_rfl) ?_
    intro vs u hB hf K hK
    have f2 : (fun v u => v = .bool true) (vs 2) u := hf.1
    have f7 : (fun v u => v = .int .i64 t'.ver) (vs 7) u := hf.2.1
    have f11 : (fun v u => v = .int .i64 t.ver) (vs 11) u := hf.2.2.1
    clear hf
    simp only [putsA, List.foldl_cons, List.foldl_nil, Act.put, List.setIfInBounds_toArray, List.set_cons_zero, List.set_cons_succ] at hK ⊢
    generalize vs 2 = v2 at f2 hK ⊢
    generalize vs 7 = v7 at f7 hK ⊢
    generalize vs 11 = v11 at f11 hK ⊢
    subst f2 f7 f11
    rw [if_pos (by rfl)]
    have d1 := HV1.out
    go_simp
    exact hK.out _ _ (Below.refl _ _) rfl
  case s13 =>
    refine StepF.of rfl [(2, some 40), (12, some 50)] (by kernel_rfl) ?_
    intro vs u hB hf K hK
    have f2 : (fun v u => v = .bool true) (vs 2) u := hf.1
    have f12 : (fun v u => v = .bool true) (vs 12) u := hf.2.1
    clear hf
    simp only [putsA, List.foldl_cons, List.foldl_nil, Act.put, List.setIfInBounds_toArray, List.set_cons_zero, List.set_cons_succ] at hK ⊢
    generalize vs 2 = v2 at f2 hK ⊢
    generalize vs 12 = v12 at f12 hK ⊢
    subst f2 f12
    rw [if_pos (by rfl)]
    go_simp
    exact hK.out _ _ (Below.refl _ _) rfl
  case s14 =>
    refine StepF.of rfl [(2, some 40), (13, some 51)] (by kernel_rfl) ?_
    intro vs u hB hf K hK
    have f2 : (fun v u => v = .bool true) (vs 2) u := hf.1
    have f13 : (fun v u => v = .bool true) (vs 13) u := hf.2.1
    clear hf
    simp only [putsA, List.foldl_cons, List.foldl_nil, Act.put, List.setIfInBounds_toArray, List.set_cons_zero, List.set_cons_succ] at hK ⊢
    generalize vs 2 = v2 at f2 hK ⊢
    generalize vs 13 = v13 at f13 hK ⊢
    subst f2 f13
    rw [if_pos (by rfl)]
    go_simp
    exact hK.out _ _ (Below.refl _ _) rfl
  case s15 =>
    refine StepF.of rfl [(14, some 52)] (by kernel_rfl) ?_
    intro vs u hB hf K hK
    have f14 : (fun v u => v = .bool true) (vs 14) u := hf.1
    clear hf
    simp only [putsA, List.foldl_cons, List.foldl_nil, Act.put, List.setIfInBounds_toArray, List.set_cons_zero, List.set_cons_succ] at hK ⊢
    generalize vs 14 = v14 at f14 hK ⊢
    subst f14
    rw [if_pos (by rfl)]
    go_simp
    exact hK.out _ _ (Below.refl _ _) rfl
  case s16 =>
    refine StepF.of rfl [(14, some 52)] (by kernel_rfl) ?_
    intro vs u hB hf K hK
    have f14 : (fun v u => v = .bool true) (vs 14) u := hf.1
    clear hf
    simp only [putsA, List.foldl_cons, List.foldl_nil, Act.put, List.setIfInBounds_toArray, List.set_cons_zero, List.set_cons_succ] at hK ⊢
    generalize vs 14 = v14 at f14 hK ⊢
    subst f14
    rw [if_pos (by rfl)]
    go_simp
    exact hK.out _ _ (Below.refl _ _) rfl
  case s17 =>
    refine StepF.of rfl [(14, some 52), (15, some 53), (16, some 54)] (by kernel_rfl) ?_
    intro vs u hB hf K hK
    have f14 : (fun v u => v = .bool true) (vs 14) u := hf.1
    have f15 : (fun v u => v = .slice (some ⟨g, 0, none⟩) l.length cap) (vs 15) u := hf.2.1
    have f16 : (fun v u => v = .int .i64 (k : Int)) (vs 16) u := hf.2.2.1
    clear hf
    simp only [putsA, List.foldl_cons, List.foldl_nil, Act.put, List.setIfInBounds_toArray, List.set_cons_zero, List.set_cons_succ] at hK ⊢
    generalize vs 14 = v14 at f14 hK ⊢
    generalize vs 15 = v15 at f15 hK ⊢
    generalize vs 16 = v16 at f16 hK ⊢
    subst f14 f15 f16
    rw [if_pos (by rfl)]
    have hkl : (k : Int) < (l.length : Int) := by omega
    go_simp
    exact hK.out _ _ (Below.refl _ _) rfl
  case s18 =>
    refine StepF.of rfl [(14, some 52), (17, some 55)] (by kernel_rfl) ?_
    intro vs u hB hf K hK
    have f14 : (fun v u => v = .bool true) (vs 14) u := hf.1
    have f17 : (fun v u => v = Value.pointer (some ⟨g, k * 5, none⟩)) (vs 17) u := hf.2.1
    clear hf
    simp only [putsA, List.foldl_cons, List.foldl_nil, Act.put, List.setIfInBounds_toArray, List.set_cons_zero, List.set_cons_succ] at hK ⊢
    generalize vs 14 = v14 at f14 hK ⊢
    generalize vs 17 = v17 at f17 hK ⊢
    subst f14 f17
    rw [if_pos (by rfl)]
    go_simp
    exact hK.out _ _ (Below.refl _ _) rfl
  case s19 =>
    refine StepF.of rfl [(14, some 52), (18, some 56)] (by kernel_rfl) ?_
    intro vs u hB hf K hK
    have f14 : (fun v u => v = .bool true) (vs 14) u := hf.1
    have f18 : (fun v u => v = Value.pointer (some ⟨g, k * 5 + 1, none⟩)) (vs 18) u := hf.2.1
    clear hf
    simp only [putsA, List.foldl_cons, List.foldl_nil, Act.put, List.setIfInBounds_toArray, List.set_cons_zero, List.set_cons_succ] at hK ⊢
    generalize vs 14 = v14 at f14 hK ⊢
    generalize vs 18 = v18 at f18 hK ⊢
    subst f14 f18
    rw [if_pos (by rfl)]
    have d1 := (HRt.out _ hB).2.1
    have d2 := (HRt.out _ hB).2.2.1
    have d3 := (HRt.out _ hB).2.2.2.1
    go_simp
    exact hK.out _ _ (Below.refl _ _) rfl
  case s20 =>
    refine StepF.of rfl [(14, some 52)] (by kernel_rfl) ?_
    intro vs u hB hf K hK
    have f14 : (fun v u => v = .bool true) (vs 14) u := hf.1
    clear hf
    simp only [putsA, List.foldl_cons, List.foldl_nil, Act.put, List.setIfInBounds_toArray, List.set_cons_zero, List.set_cons_succ] at hK ⊢
    generalize vs 14 = v14 at f14 hK ⊢
    subst f14
    rw [if_pos (by rfl)]
    go_simp
    exact hK.out _ _ (Below.refl _ _) rfl
  case s21 =>
    refine StepF.of rfl [(14, some 52), (20, some 58)] (by kernel_rfl) ?_
    intro vs u hB hf K hK
    have f14 : (fun v u => v = .bool true) (vs 14) u := hf.1
    have f20 : (fun v u => v = Value.pointer (some ⟨bs, 0, none⟩)) (vs 20) u := hf.2.1
    clear hf
    simp only [putsA, List.foldl_cons, List.foldl_nil, Act.put, List.setIfInBounds_toArray, List.set_cons_zero, List.set_cons_succ] at hK ⊢
    generalize vs 14 = v14 at f14 hK ⊢
    generalize vs 20 = v20 at f20 hK ⊢
    subst f14 f20
    rw [if_pos (by rfl)]
    go_simp
    exact hK.out _ _ (Below.refl _ _) rfl
  case s22 =>
    refine StepF.of rfl [(14, some 52), (21, some 59)] (by kernel_rfl) ?_
    intro vs u hB hf K hK
    have f14 : (fun v u => v = .bool true) (vs 14) u := hf.1
    have f21 : (fun v u => v = Value.pointer (some ⟨bs, 0, none⟩)) (vs 21) u := hf.2.1
    clear hf
    simp only [putsA, List.foldl_cons, List.foldl_nil, Act.put, List.setIfInBounds_toArray, List.set_cons_zero, List.set_cons_succ] at hK ⊢
    generalize vs 14 = v14 at f14 hK ⊢
    generalize vs 21 = v21 at f21 hK ⊢
    subst f14 f21
    rw [if_pos (by rfl)]
    go_simp
    exact hK.out _ _ (Below.refl _ _) rfl
  case s23 =>
    refine StepF.of rfl [(14, some 52), (22, some 60)] (by kernel_rfl) ?_
    intro vs u hB hf K hK
    have f14 : (fun v u => v = .bool true) (vs 14) u := hf.1
    have f22 : (fun v u => v = Value.pointer (some ⟨bs, 1, none⟩)) (vs 22) u := hf.2.1
    clear hf
    simp only [putsA, List.foldl_cons, List.foldl_nil, Act.put, List.setIfInBounds_toArray, List.set_cons_zero, List.set_cons_succ] at hK ⊢
    generalize vs 14 = v14 at f14 hK ⊢
    generalize vs 22 = v22 at f22 hK ⊢
    subst f14 f22
    rw [if_pos (by rfl)]
    have d1 := (HS.out.below hB).c1
    have d2 := (HS.out.below hB).c2
    have d3 := (HS.out.below hB).c3
    go_simp
    exact hK.out _ _ (Below.refl _ _) rfl
  case s24 =>
    refine StepF.of rfl [(14, some 52), (19, some 57), (23, some 61)] (by kernel_rfl) ?_
    intro vs u hB hf K hK
    have f14 : (fun v u => v = .bool true) (vs 14) u := hf.1
    have f19 : (fun v u => v = t'.value.val) (vs 19) u := hf.2.1
    have f23 : (fun v u => v = t.value.val) (vs 23) u := hf.2.2.1
    clear hf
    simp only [putsA, List.foldl_cons, List.foldl_nil, Act.put, List.setIfInBounds_toArray, List.set_cons_zero, List.set_cons_succ] at hK ⊢
    generalize vs 14 = v14 at f14 hK ⊢
    generalize vs 19 = v19 at f19 hK ⊢
    generalize vs 23 = v23 at f23 hK ⊢
    subst f14 f19 f23
    rw [if_pos (by rfl)]
    have hq := HNB.out
    cases e0 : (t'.value.kind == t.value.kind) <;> cases e1 : (t'.value.num == t.value.num) <;> cases e2 : (t'.value.name.toList == t.value.name.toList) <;> (rw [e0, e1, e2] at hq; go_simp; exact hK.out _ _ (Below.refl _ _) (by rw [hq]; rfl))
  case last =>
    intro vs u hB hf K hK
    have f0 : (fun v u => v = .int .i64 (k : Int)) (vs 0) u := hf.1
    have f1 : (fun v u => v = .bool true) (vs 1) u := hf.2.1
    have f2 : (fun v u => v = .bool true) (vs 2) u := hf.2.2.1
    have f3 : (fun v u => v = .slice (some ⟨g, 0, none⟩) l.length cap) (vs 3) u := hf.2.2.2.1
    have f4 : (fun v u => v = .int .i64 (k : Int)) (vs 4) u := hf.2.2.2.2.1
    have f5 : (fun v u => v = Value.pointer (some ⟨g, k * 5, none⟩)) (vs 5) u := hf.2.2.2.2.2.1
    have f6 : (fun v u => v = Value.pointer (some ⟨g, k * 5 + 4, none⟩)) (vs 6) u := hf.2.2.2.2.2.2.1
    have f7 : (fun v u => v = .int .i64 t'.ver) (vs 7) u := hf.2.2.2.2.2.2.2.1
    have f8 : (fun v u => v = Value.pointer (some ⟨bs, 0, none⟩)) (vs 8) u := hf.2.2.2.2.2.2.2.2.1
    have f9 : (fun v u => v = Value.pointer (some ⟨bs, 0, none⟩)) (vs 9) u := hf.2.2.2.2.2.2.2.2.2.1
    have f10 : (fun v u => v = Value.pointer (some ⟨bs, 0, none⟩)) (vs 10) u := hf.2.2.2.2.2.2.2.2.2.2.1
    have f11 : (fun v u => v = .int .i64 t.ver) (vs 11) u := hf.2.2.2.2.2.2.2.2.2.2.2.1
    have f12 : (fun v u => v = .bool true) (vs 12) u := hf.2.2.2.2.2.2.2.2.2.2.2.2.1
    have f13 : (fun v u => v = .bool true) (vs 13) u := hf.2.2.2.2.2.2.2.2.2.2.2.2.2.1
    have f14 : (fun v u => v = .bool true) (vs 14) u := hf.2.2.2.2.2.2.2.2.2.2.2.2.2.2.1
    have f15 : (fun v u => v = .slice (some ⟨g, 0, none⟩) l.length cap) (vs 15) u := hf.2.2.2.2.2.2.2.2.2.2.2.2.2.2.2.1
    have f16 : (fun v u => v = .int .i64 (k : Int)) (vs 16) u := hf.2.2.2.2.2.2.2.2.2.2.2.2.2.2.2.2.1
    have f17 : (fun v u => v = Value.pointer (some ⟨g, k * 5, none⟩)) (vs 17) u := hf.2.2.2.2.2.2.2.2.2.2.2.2.2.2.2.2.2.1
    have f18 : (fun v u => v = Value.pointer (some ⟨g, k * 5 + 1, none⟩)) (vs 18) u := hf.2.2.2.2.2.2.2.2.2.2.2.2.2.2.2.2.2.2.1
    have f19 : (fun v u => v = t'.value.val) (vs 19) u := hf.2.2.2.2.2.2.2.2.2.2.2.2.2.2.2.2.2.2.2.1
    have f20 : (fun v u => v = Value.pointer (some ⟨bs, 0, none⟩)) (vs 20) u := hf.2.2.2.2.2.2.2.2.2.2.2.2.2.2.2.2.2.2.2.2.1
    have f21 : (fun v u => v = Value.pointer (some ⟨bs, 0, none⟩)) (vs 21) u := hf.2.2.2.2.2.2.2.2.2.2.2.2.2.2.2.2.2.2.2.2.2.1
    have f22 : (fun v u => v = Value.pointer (some ⟨bs, 1, none⟩)) (vs 22) u := hf.2.2.2.2.2.2.2.2.2.2.2.2.2.2.2.2.2.2.2.2.2.2.1
    have f23 : (fun v u => v = t.value.val) (vs 23) u := hf.2.2.2.2.2.2.2.2.2.2.2.2.2.2.2.2.2.2.2.2.2.2.2.1
    have f24 : (fun v u => v = .bool nq) (vs 24) u := hf.2.2.2.2.2.2.2.2.2.2.2.2.2.2.2.2.2.2.2.2.2.2.2.2.1
    clear hf
    simp only [putsA, List.foldl_cons, List.foldl_nil, Act.put, List.setIfInBounds_toArray, List.set_cons_zero, List.set_cons_succ]
    generalize vs 0 = v0 at f0 ⊢
    generalize vs 1 = v1 at f1 ⊢
    generalize vs 2 = v2 at f2 ⊢
    generalize vs 3 = v3 at f3 ⊢
    generalize vs 4 = v4 at f4 ⊢
    generalize vs 5 = v5 at f5 ⊢
    generalize vs 6 = v6 at f6 ⊢
    generalize vs 7 = v7 at f7 ⊢
    generalize vs 8 = v8 at f8 ⊢
    generalize vs 9 = v9 at f9 ⊢
    generalize vs 10 = v10 at f10 ⊢
    generalize vs 11 = v11 at f11 ⊢
    generalize vs 12 = v12 at f12 ⊢
    generalize vs 13 = v13 at f13 ⊢
    generalize vs 14 = v14 at f14 ⊢
    generalize vs 15 = v15 at f15 ⊢
    generalize vs 16 = v16 at f16 ⊢
    generalize vs 17 = v17 at f17 ⊢
    generalize vs 18 = v18 at f18 ⊢
    generalize vs 19 = v19 at f19 ⊢
    generalize vs 20 = v20 at f20 ⊢
    generalize vs 21 = v21 at f21 ⊢
    generalize vs 22 = v22 at f22 ⊢
    generalize vs 23 = v23 at f23 ⊢
    generalize vs 24 = v24 at f24 ⊢
    subst f0 f1 f2 f3 f4 f5 f6 f7 f8 f9 f10 f11 f12 f13 f14 f15 f16 f17 f18 f19 f20 f21 f22 f23 f24
    rw [if_pos (by rfl)]
    go_simp
    refine hK.out _ _ ?_
    clear hK
    have HBu : Hid _ := HBW.out.trans (hB.mono HBW.out.size)
    clear hB
    cases nq
    · go_wp2
      go_ret
      exact ⟨by rw [HR3.out]; rfl, HBu.out⟩
    · go_wp2
      go_ret
      exact ⟨by rw [HR3.out]; rfl, HBu.out⟩
end Go.Proofs.Ytgfienijabkpjaa
/-
  The model's SiteFault; nothing that was there is turned.
-/
namespace Go.Proofs.Ytgfienijabkpjaa
open Go.RowKit Go.Extern.Stop Go.Stop Go.Extern Num Go.Lib

theorem l7Site_any (ao : Option Addr) (cap g bs : Nat) (l : List Glb) (s : ByteArray) (t : Ste) (w : World) (hl : l.length ≤ 1048576) (hao : 0 < l.length → ao = some ⟨g, 0, none⟩) (hr : RowG w g l) (ht : t.value.name.size ≤ 9223372036854775807) (hb : SteAt bs t w) :
    Calls Try.prog 80 #[.slice ao l.length cap, .string s, .pointer (some ⟨bs, 0, none⟩)] w fun e w' => e = .returned (.int .i64 (siteM l s t)) ∧ Below w.heap.size w w' := by
  by_cases h0 : t.ver = 0
  · exact site_zero ao cap bs l s t w hb h0
  by_cases h1 : 1 ≤ t.ver ∧ t.ver ≤ 99999
  · cases hat : atG l s with
    | none => exact site_none ao cap g bs l s t w hl hao hr ht hb h1 hat
    | some k =>
      by_cases he : (l.getD k gZ).ver = t.ver
      · exact site_same ao cap g bs l s t w hl hao hr ht hb h1 k hat he
      · exact site_apart ao cap g bs l s t w hl hao hr ht hb h1 k hat he
  · exact site_out ao cap bs l s t w hb (by omega)
theorem specSiteF_any (ao : Option Addr) (cap g : Nat) (l : List Glb) (s : ByteArray) (t : Ste) (w : World) (hl : l.length ≤ 1048576) (hcap : l.length ≤ cap) (hcm : cap ≤ 9223372036854775807) (hao : 0 < l.length → ao = some ⟨g, 0, none⟩) (hr : RowG w g l) (hz : ableG l) (hs : s.size ≤ 9223372036854775807) (ht : t.value.name.size ≤ 9223372036854775807) :
    Calls Try.prog 55 #[.slice ao l.length cap, .string s, t.val] w fun e w' => e = .returned (.int .i64 (codeSF l s t)) ∧ Below w.heap.size w w' := by
  obtain ⟨R, hR⟩ : ∃ R, R = codeSF l s t := ⟨_, rfl⟩
  rw [← hR]
  obtain ⟨c, hc⟩ : ∃ c, c = askG l s := ⟨_, rfl⟩
  obtain ⟨d, hd⟩ : ∃ d, d = siteM l s t := ⟨_, rfl⟩
  have HR : Hid (R = if c ≠ 0 then c else d) := by show R = _; rw [hR, codeSF_site, hc, hd]
  obtain ⟨W, hW⟩ : ∃ W, W = w.alloc (.cells #[.int .i64 t.ver, .int .i64 t.value.kind, .int .i64 t.value.num, .string t.value.name] 39) := ⟨_, rfl⟩
  have HW : Hid (W = w.alloc (.cells #[.int .i64 t.ver, .int .i64 t.value.kind, .int .i64 t.value.num, .string t.value.name] 39)) := hW
  have HBW : Hid (Below w.heap.size w W) := by rw [hW]; exact (Below.refl _ _).alloc (Nat.le_refl _) _
  have HS : Hid (SteAt w.heap.size t W) := by
    rw [hW]
    exact ⟨by rw [World.cell?_alloc_at _ _ _ _ rfl]; rfl, by rw [World.cell?_alloc_at _ _ _ _ rfl]; rfl, by rw [World.cell?_alloc_at _ _ _ _ rfl]; rfl, by rw [World.cell?_alloc_at _ _ _ _ rfl]; rfl⟩
  have HC : Hid (Calls Try.prog 41 #[.slice ao l.length cap, .string s] W fun e w' => e = .returned (.int .i64 c) ∧ Below W.heap.size W w') := by rw [hc]; exact asked_any ao cap g l s W hl hcap hcm hao (hr.below HBW.out) hz hs
  have HD : Hid (∀ u, Below W.heap.size W u → Calls Try.prog 80 #[.slice ao l.length cap, .string s, .pointer (some ⟨w.heap.size, 0, none⟩)] u fun e w' => e = .returned (.int .i64 d) ∧ Below u.heap.size u w') := fun u hu => by rw [hd]; exact l7Site_any ao cap g w.heap.size l s t u hl hao ((hr.below HBW.out).below hu) ht (HS.out.below hu)
  clear hW hR hc hd hl hcap hcm hao hr hz hs ht
  go_enter Try.func55, Try.ntmps55
  go_wp2_with fail
  rw [← HW.out]
  refine HC.out.mono ?_
  rintro e w1 ⟨rfl, hb1⟩
  have HB1 : Hid (Below W.heap.size W w1) := hb1
  have HBw : Hid (Below w.heap.size w w1) := HBW.out.trans (hb1.mono HBW.out.size)
  clear hb1
  by_cases h0 : c = 0
  · subst h0
    have HE : Hid (R = d) := by show R = d; rw [HR.out]; simp
    clear HR
    go_wp2_with fail
    refine (HD.out _ HB1.out).mono ?_
    rintro e w2 ⟨rfl, hb2⟩
    have HB2 : Hid (Below w.heap.size w w2) := HBw.out.trans (hb2.mono HBw.out.size)
    clear hb2
    go_wp2
    go_ret
    exact ⟨by rw [HE.out]; rfl, HB2.out⟩
  · have HE : Hid (R = c) := by show R = c; rw [HR.out, if_pos h0]
    have h0' : (c != 0) = true := by simpa using h0
    clear HR h0
    go_wp2
    go_ret
    exact ⟨by rw [HE.out]; rfl, HBw.out⟩
end Go.Proofs.Ytgfienijabkpjaa
/-
  The model's FetchSite; nothing that was there is turned.
-/
namespace Go.Proofs.Ytgfienijabkpjaa
open Go.RowKit Go.Extern.Stop Go.Stop Go.Extern Num Go.Lib

set_option maxRecDepth 100000 in
set_option maxHeartbeats 4000000 in
theorem specFS_any (ao : Option Addr) (cap g : Nat) (l : List Glb) (s : ByteArray) (t : Ste) (w : World) (hl : l.length ≤ 1048576) (hcap : l.length ≤ cap) (hcm : cap ≤ 9223372036854775807) (hao : 0 < l.length → ao = some ⟨g, 0, none⟩) (hr : RowG w g l) (hz : ableG l) (hs : s.size ≤ 9223372036854775807) (ht : t.value.name.size ≤ 9223372036854775807) :
    Calls Try.prog 18 #[.slice ao l.length cap, .string s, t.val] w fun e w' => e = .returned (FR (outFS l s t)) ∧ Below w.heap.size w w' := by
  obtain ⟨c, hc⟩ : ∃ c, c = codeSF l s t := ⟨_, rfl⟩
  obtain ⟨W, hW⟩ : ∃ W, W = (w.alloc (.cells #[.int .i64 t.ver, .int .i64 t.value.kind, .int .i64 t.value.num, .string t.value.name] 39)).alloc (.cells #[.int .i64 0, .bool false, .int .i64 0, .int .i64 0, .string ⟨#[]⟩, .int .i64 0, .int .i64 0, .int .i64 0, .string ⟨#[]⟩] 43) := ⟨_, rfl⟩
  have HW : Hid (W = (w.alloc (.cells #[.int .i64 t.ver, .int .i64 t.value.kind, .int .i64 t.value.num, .string t.value.name] 39)).alloc (.cells #[.int .i64 0, .bool false, .int .i64 0, .int .i64 0, .string ⟨#[]⟩, .int .i64 0, .int .i64 0, .int .i64 0, .string ⟨#[]⟩] 43)) := hW
  have HBW : Hid (Below w.heap.size w W) := by rw [hW]; exact ((Below.refl _ _).alloc (Nat.le_refl _) _).alloc (by simp) _
  have zW : W.heap.size = w.heap.size + 2 := by rw [hW]; simp
  have HZ : Hid (Fr9 W (w.heap.size + 1)) := by
    rw [hW]
    exact ⟨fun o v h => by rw [World.cell?_alloc_at _ _ _ _ (by simp)]; simpa using h, fun o => by rw [World.frozen?_alloc_at _ _ _ _ (by simp)]⟩
  have HSt : Hid (SteAt w.heap.size t W) := by
    rw [hW]
    exact ⟨by rw [World.cell?_alloc_past _ _ _ (by simp), World.cell?_alloc_at _ _ _ _ rfl]; rfl, by rw [World.cell?_alloc_past _ _ _ (by simp), World.cell?_alloc_at _ _ _ _ rfl]; rfl, by rw [World.cell?_alloc_past _ _ _ (by simp), World.cell?_alloc_at _ _ _ _ rfl]; rfl, by rw [World.cell?_alloc_past _ _ _ (by simp), World.cell?_alloc_at _ _ _ _ rfl]; rfl⟩
  have HP : Hid (RowG W g l) := hr.below HBW.out
  have HC : Hid (Calls Try.prog 55 #[.slice ao l.length cap, .string s, t.val] W fun e w' => e = .returned (.int .i64 c) ∧ Below W.heap.size W w') := by rw [hc]; exact specSiteF_any ao cap g l s t W hl hcap hcm hao HP.out hz hs ht
  have HA : Hid (∀ u, Below W.heap.size W u → Calls Try.prog 44 #[.slice ao l.length cap, .string s] u fun e w' => e = .returned (.int .i64 (atI (atG l s))) ∧ w' = u) := fun u hu => l7At_any ao cap g l s u hl hao (HP.out.below hu)
  obtain ⟨R, hR⟩ : ∃ R, R = outFS l s t := ⟨_, rfl⟩
  have HR : Hid (R = outFS l s t ∧ c = codeSF l s t) := ⟨hR, hc⟩
  have HAO : Hid (0 < l.length → ao = some ⟨g, 0, none⟩) := hao
  rw [← hR]
  clear hW hc hR hcap hcm hao hr hz hs ht
  go_enter Try.func18, Try.ntmps18
  go_wp2_with fail
  rw [← HW.out]
  refine HC.out.mono ?_
  rintro e w1 ⟨rfl, b1⟩
  have HB1 : Hid (Below W.heap.size W w1) := b1
  have HBw : Hid (Below w.heap.size w w1) := HBW.out.trans (b1.mono HBW.out.size)
  have HZ1 : Hid (Fr9 w1 (w.heap.size + 1)) := HZ.out.below b1 (by omega)
  have HS1 : Hid (SteAt w.heap.size t w1) := HSt.out.below b1
  have z1 : w.heap.size + 1 < w1.heap.size := by have := b1.size; omega
  clear b1 HC HZ HSt
  by_cases h0 : c = 0
  case neg =>
    have HE : Hid (R = (c, false, vZ, 0)) := by show R = _; rw [HR.out.1, HR.out.2]; exact fs_bad (by rw [← HR.out.2]; exact h0)
    have h0' : (c != 0) = true := by simpa using h0
    have HTs : Hid (w1.there (w.heap.size + 1) 0 (frL (c, false, vZ, 0)).toArray.size) := by rw [show (frL (c, false, vZ, 0)).toArray.size = 9 from rfl]; exact HZ1.out.there
    clear HR h0 HA HP
    go_wp2_with (refine wpList_store_mid rfl 43 _ _ rfl (w.heap.size + 1) 0 (frL (c, false, vZ, 0)).toArray rfl rfl HTs.out (by rw [infoFr]; rfl) (frL_one _) ?_)
    exact bodyPost_ret (v := FR (c, false, vZ, 0)) (resFR rfl _ w1 (w.heap.size + 1) (c, false, vZ, 0) HZ1.out.there rfl) rfl ⟨by rw [HE.out], below_setCells HBw.out (by omega) _ _⟩
  subst h0
  cases hat : atG l s with
  | none =>
    have HE : Hid (R = (4, false, vZ, 0)) := by show R = _; rw [HR.out.1]; exact fs_none HR.out.2.symm hat
    have HAn : Hid (Calls Try.prog 44 #[.slice ao l.length cap, .string s] w1 fun e w' => e = .returned (.int .i64 (-1)) ∧ w' = w1) := by have := HA.out w1 HB1.out; rw [hat] at this; exact this
    have HTs : Hid (w1.there (w.heap.size + 1) 0 (frL (4, false, vZ, 0)).toArray.size) := by rw [show (frL (4, false, vZ, 0)).toArray.size = 9 from rfl]; exact HZ1.out.there
    clear HR HA HP hat
    go_wp2_with fail
    refine HAn.out.mono ?_
    rintro e w2 ⟨rfl, hw2⟩
    replace hw2 := hw2.symm
    subst hw2
    go_wp2_with (refine wpList_store_mid rfl 43 _ _ rfl (w.heap.size + 1) 0 (frL (4, false, vZ, 0)).toArray rfl rfl HTs.out (by rw [infoFr]; rfl) (frL_one _) ?_)
    exact bodyPost_ret (v := FR (4, false, vZ, 0)) (resFR rfl _ w1 (w.heap.size + 1) (4, false, vZ, 0) HZ1.out.there rfl) rfl ⟨by rw [HE.out], below_setCells HBw.out (by omega) _ _⟩
  | some k =>
    obtain ⟨hk, _, _⟩ := atG_some hat
    obtain rfl := HAO.out (by omega)
    have hfs := fs_some HR.out.2.symm hat hk
    rw [← HR.out.1] at hfs
    have HAn : Hid (Calls Try.prog 44 #[.slice (some ⟨g, 0, none⟩) l.length cap, .string s] w1 fun e w' => e = .returned (.int .i64 (k : Int)) ∧ w' = w1) := by have := HA.out w1 HB1.out; rw [hat] at this; exact this
    obtain ⟨t', ht'⟩ : ∃ t', t' = l[k]'hk := ⟨_, rfl⟩
    have HRt : Hid (∀ u, Below w1.heap.size w1 u → u.cell? ⟨g, k * 5, none⟩ = some (.string t'.name) ∧ u.cell? ⟨g, k * 5 + 1, none⟩ = some (.int .i64 t'.value.kind) ∧ u.cell? ⟨g, k * 5 + 2, none⟩ = some (.int .i64 t'.value.num) ∧ u.cell? ⟨g, k * 5 + 3, none⟩ = some (.string t'.value.name) ∧ u.cell? ⟨g, k * 5 + 4, none⟩ = some (.int .i64 t'.ver)) := fun u hu => by rw [ht']; exact (HP.out.below HB1.out).below hu k hk
    rw [← ht'] at hfs
    have HFs : Hid (R = if t'.ver = t.ver then (0, true, t.value, t.ver) else (0, false, t'.value, t'.ver)) := hfs
    have HZf : Hid (∀ u, Below w1.heap.size w1 u → Fr9 u (w.heap.size + 1) ∧ Below w.heap.size w u) := fun u hu => ⟨HZ1.out.below hu z1, HBw.out.trans (hu.mono HBw.out.size)⟩
    clear HR HA HP hat ht' hfs HAO
    obtain ⟨eq, heq⟩ : ∃ eq : Bool, eq = (t'.ver == t.ver) := ⟨_, rfl⟩
    have HEq : Hid ((t'.ver == t.ver) = eq) := heq.symm
    clear heq
    go_wp2_with fail
    refine HAn.out.mono ?_
    rintro e w2 ⟨rfl, hw2⟩
    replace hw2 := hw2.symm
    subst hw2
    go_wp2_with fail
    refine wp_region_facts (by kernel_rfl) 7 (fun v => Below w1.heap.size w1 v) (fun u v => Below u.heap.size u v) (fun i v u => match i with | 0 => (fun v u => v = .slice (some ⟨g, 0, none⟩) l.length cap) v u | 1 => (fun v u => v = .int .i64 (k : Int)) v u | 2 => (fun v u => v = Value.pointer (some ⟨g, k * 5, none⟩)) v u | 3 => (fun v u => v = Value.pointer (some ⟨g, k * 5 + 4, none⟩)) v u | 4 => (fun v u => v = .int .i64 t'.ver) v u | 5 => (fun v u => v = Value.pointer (some ⟨w.heap.size, 0, none⟩)) v u | 6 => (fun v u => v = .int .i64 t.ver) v u | _ => True) (by kernel_rfl) [0, 1, 2, 3, 4, 5, 6] (by kernel_rfl) ?b0 ?bk ?fk ⟨?s0, ?s1, ?s2, ?s3, ?s4, ?s5, ?s6, trivial⟩ _ rfl [(0, some 23), (1, some 24), (2, some 25), (3, some 26), (4, some 27), (5, some 28), (6, some 29)] (by kernel_rfl) ?last
    case b0 => exact Below.drew (Below.refl _ _)
    case bk => exact fun u v h hb => h.trans (hb.mono h.size)
    case fk => intro i v u u' h hb; match i, h with | 0, h => exact (h) | 1, h => exact (h) | 2, h => exact (h) | 3, h => exact (h) | 4, h => exact (h) | 5, h => exact (h) | 6, h => exact (h) | _ + 7, _ => exact trivial
    case s0 =>
      refine StepF.of rfl [] (by kernel_rfl) ?_
      intro vs u hB hf K hK
      clear hf
      simp only [putsA, List.foldl_nil, Act.put, List.setIfInBounds_toArray] at hK ⊢
      rw [if_pos (by rfl)]
      go_simp
      exact hK.out _ _ (Below.refl _ _) rfl
    case s1 =>
      refine StepF.of rfl [] (by kernel_rfl) ?_
      intro vs u hB hf K hK
      clear hf
      simp only [putsA, List.foldl_nil, Act.put, List.setIfInBounds_toArray] at hK ⊢
      rw [if_pos (by rfl)]
      go_simp
      exact hK.out _ _ (Below.refl _ _) rfl
    case s2 =>
      refine StepF.of rfl [(0, some 23), (1, some 24)] (by kernel_rfl) ?_
      intro vs u hB hf K hK
      have f0 : (fun v u => v = .slice (some ⟨g, 0, none⟩) l.length cap) (vs 0) u := hf.1
      have f1 : (fun v u => v = .int .i64 (k : Int)) (vs 1) u := hf.2.1
      clear hf
      simp only [putsA, List.foldl_cons, List.foldl_nil, Act.put, List.setIfInBounds_toArray, List.set_cons_zero, List.set_cons_succ] at hK ⊢
      generalize vs 0 = v0 at f0 hK ⊢
      generalize vs 1 = v1 at f1 hK ⊢
      rw [if_pos (by rfl)]
      subst f0 f1
      have hkl : (k : Int) < (l.length : Int) := by omega
      go_simp
      exact hK.out _ _ (Below.refl _ _) rfl
    case s3 =>
      refine StepF.of rfl [(2, some 25)] (by kernel_rfl) ?_
      intro vs u hB hf K hK
      have f2 : (fun v u => v = Value.pointer (some ⟨g, k * 5, none⟩)) (vs 2) u := hf.1
      clear hf
      simp only [putsA, List.foldl_cons, List.foldl_nil, Act.put, List.setIfInBounds_toArray, List.set_cons_zero, List.set_cons_succ] at hK ⊢
      generalize vs 2 = v2 at f2 hK ⊢
      rw [if_pos (by rfl)]
      subst f2
      go_simp
      exact hK.out _ _ (Below.refl _ _) rfl
    case s4 =>
      refine StepF.of rfl [(3, some 26)] (by kernel_rfl) ?_
      intro vs u hB hf K hK
      have f3 : (fun v u => v = Value.pointer (some ⟨g, k * 5 + 4, none⟩)) (vs 3) u := hf.1
      clear hf
      simp only [putsA, List.foldl_cons, List.foldl_nil, Act.put, List.setIfInBounds_toArray, List.set_cons_zero, List.set_cons_succ] at hK ⊢
      generalize vs 3 = v3 at f3 hK ⊢
      rw [if_pos (by rfl)]
      subst f3
      have d0 := (HRt.out _ hB).2.2.2.2
      go_simp
      exact hK.out _ _ (Below.refl _ _) rfl
    case s5 =>
      refine StepF.of rfl [] (by kernel_rfl) ?_
      intro vs u hB hf K hK
      clear hf
      simp only [putsA, List.foldl_nil, Act.put, List.setIfInBounds_toArray] at hK ⊢
      rw [if_pos (by rfl)]
      go_simp
      exact hK.out _ _ (Below.refl _ _) rfl
    case s6 =>
      refine StepF.of rfl [(5, some 28)] (by kernel_rfl) ?_
      intro vs u hB hf K hK
      have f5 : (fun v u => v = Value.pointer (some ⟨w.heap.size, 0, none⟩)) (vs 5) u := hf.1
      clear hf
      simp only [putsA, List.foldl_cons, List.foldl_nil, Act.put, List.setIfInBounds_toArray, List.set_cons_zero, List.set_cons_succ] at hK ⊢
      generalize vs 5 = v5 at f5 hK ⊢
      rw [if_pos (by rfl)]
      subst f5
      have d0 := (HS1.out.below hB).c0
      go_simp
      exact hK.out _ _ (Below.refl _ _) rfl
    case last =>
      intro vs u hB hf K hK
      have f0 : (fun v u => v = .slice (some ⟨g, 0, none⟩) l.length cap) (vs 0) u := hf.1
      have f1 : (fun v u => v = .int .i64 (k : Int)) (vs 1) u := hf.2.1
      have f2 : (fun v u => v = Value.pointer (some ⟨g, k * 5, none⟩)) (vs 2) u := hf.2.2.1
      have f3 : (fun v u => v = Value.pointer (some ⟨g, k * 5 + 4, none⟩)) (vs 3) u := hf.2.2.2.1
      have f4 : (fun v u => v = .int .i64 t'.ver) (vs 4) u := hf.2.2.2.2.1
      have f5 : (fun v u => v = Value.pointer (some ⟨w.heap.size, 0, none⟩)) (vs 5) u := hf.2.2.2.2.2.1
      have f6 : (fun v u => v = .int .i64 t.ver) (vs 6) u := hf.2.2.2.2.2.2.1
      clear hf
      simp only [putsA, List.foldl_cons, List.foldl_nil, Act.put, List.setIfInBounds_toArray, List.set_cons_zero, List.set_cons_succ]
      generalize vs 0 = v0 at f0 ⊢
      generalize vs 1 = v1 at f1 ⊢
      generalize vs 2 = v2 at f2 ⊢
      generalize vs 3 = v3 at f3 ⊢
      generalize vs 4 = v4 at f4 ⊢
      generalize vs 5 = v5 at f5 ⊢
      generalize vs 6 = v6 at f6 ⊢
      rw [if_pos (by rfl)]
      subst f4 f6
      clear f0 f1 f2 f3 f5
      have d1 := HEq.out
      have HB2 : Hid (Below w1.heap.size w1 u) := hB
      clear hB
      cases eq
      case false =>
        have HE : Hid (R = (0, false, t'.value, t'.ver)) := by show R = _; rw [HFs.out, if_neg (by simpa using d1)]
        go_simp
        refine hK.out _ _ ?_
        clear hK d1
        go_wp2_with fail
        refine wp_region_facts (by kernel_rfl) 17 (fun v => Below u.heap.size u v) (fun u v => Below u.heap.size u v) (fun i v u => match i with | 0 => (fun v u => v = .slice (some ⟨g, 0, none⟩) l.length cap) v u | 1 => (fun v u => v = .int .i64 (k : Int)) v u | 2 => (fun v u => v = Value.pointer (some ⟨g, k * 5, none⟩)) v u | 3 => (fun v u => v = Value.pointer (some ⟨g, k * 5 + 1, none⟩)) v u | 4 => (fun v u => v = t'.value.val) v u | 5 => (fun v u => v = .slice (some ⟨g, 0, none⟩) l.length cap) v u | 6 => (fun v u => v = .int .i64 (k : Int)) v u | 7 => (fun v u => v = Value.pointer (some ⟨g, k * 5, none⟩)) v u | 8 => (fun v u => v = Value.pointer (some ⟨g, k * 5 + 4, none⟩)) v u | 9 => (fun v u => v = .int .i64 t'.ver) v u | 10 => (fun v u => v = .slice (some ⟨g, 0, none⟩) l.length cap) v u | 11 => (fun v u => v = .int .i64 (k : Int)) v u | 12 => (fun v u => v = Value.pointer (some ⟨g, k * 5, none⟩)) v u | 13 => (fun v u => v = Value.pointer (some ⟨g, k * 5 + 1, none⟩)) v u | 14 => (fun v u => v = t'.value.val) v u | 15 => (fun v u => v = .agg #[.int .i64 t'.ver, .int .i64 t'.value.kind, .int .i64 t'.value.num, .string t'.value.name]) v u | 16 => (fun v u => v = FR (0, false, t'.value, t'.ver)) v u | _ => True) (by kernel_rfl) [0, 1, 2, 3, 4, 5, 6, 7, 8, 9, 10, 11, 12, 13, 14, 15, 16] (by kernel_rfl) ?b0 ?bk ?fk ⟨?s0, ?s1, ?s2, ?s3, ?s4, ?s5, ?s6, ?s7, ?s8, ?s9, ?s10, ?s11, ?s12, ?s13, ?s14, ?s15, ?s16, trivial⟩ _ rfl [(0, some 35), (1, some 36), (2, some 37), (3, some 38), (4, some 39), (5, some 40), (6, some 41), (7, some 42), (8, some 43), (9, some 44), (10, some 45), (11, some 46), (12, some 47), (13, some 48), (14, some 49), (15, some 50), (16, some 51)] (by kernel_rfl) ?last
        case b0 => exact Below.drew (Below.refl _ _)
        case bk => exact fun u v h hb => h.trans (hb.mono h.size)
        case fk => intro i v u u' h hb; match i, h with | 0, h => exact (h) | 1, h => exact (h) | 2, h => exact (h) | 3, h => exact (h) | 4, h => exact (h) | 5, h => exact (h) | 6, h => exact (h) | 7, h => exact (h) | 8, h => exact (h) | 9, h => exact (h) | 10, h => exact (h) | 11, h => exact (h) | 12, h => exact (h) | 13, h => exact (h) | 14, h => exact (h) | 15, h => exact (h) | 16, h => exact (h) | _ + 17, _ => exact trivial
        case s0 =>
          refine StepF.of rfl [] (by kernel_rfl) ?_
          intro vs x hB hf K hK
          clear hf
          simp only [putsA, List.foldl_nil, Act.put, List.setIfInBounds_toArray] at hK ⊢
          rw [if_pos (by rfl)]
          go_simp
          exact hK.out _ _ (Below.refl _ _) rfl
        case s1 =>
          refine StepF.of rfl [] (by kernel_rfl) ?_
          intro vs x hB hf K hK
          clear hf
          simp only [putsA, List.foldl_nil, Act.put, List.setIfInBounds_toArray] at hK ⊢
          rw [if_pos (by rfl)]
          go_simp
          exact hK.out _ _ (Below.refl _ _) rfl
        case s2 =>
          refine StepF.of rfl [(0, some 35), (1, some 36)] (by kernel_rfl) ?_
          intro vs x hB hf K hK
          have f0 : (fun v u => v = .slice (some ⟨g, 0, none⟩) l.length cap) (vs 0) x := hf.1
          have f1 : (fun v u => v = .int .i64 (k : Int)) (vs 1) x := hf.2.1
          clear hf
          simp only [putsA, List.foldl_cons, List.foldl_nil, Act.put, List.setIfInBounds_toArray, List.set_cons_zero, List.set_cons_succ] at hK ⊢
          generalize vs 0 = v0 at f0 hK ⊢
          generalize vs 1 = v1 at f1 hK ⊢
          rw [if_pos (by rfl)]
          subst f0 f1
          have hkl : (k : Int) < (l.length : Int) := by omega
          go_simp
          exact hK.out _ _ (Below.refl _ _) rfl
        case s3 =>
          refine StepF.of rfl [(2, some 37)] (by kernel_rfl) ?_
          intro vs x hB hf K hK
          have f2 : (fun v u => v = Value.pointer (some ⟨g, k * 5, none⟩)) (vs 2) x := hf.1
          clear hf
          simp only [putsA, List.foldl_cons, List.foldl_nil, Act.put, List.setIfInBounds_toArray, List.set_cons_zero, List.set_cons_succ] at hK ⊢
          generalize vs 2 = v2 at f2 hK ⊢
          rw [if_pos (by rfl)]
          subst f2
          go_simp
          exact hK.out _ _ (Below.refl _ _) rfl
        case s4 =>
          refine StepF.of rfl [(3, some 38)] (by kernel_rfl) ?_
          intro vs x hB hf K hK
          have f3 : (fun v u => v = Value.pointer (some ⟨g, k * 5 + 1, none⟩)) (vs 3) x := hf.1
          clear hf
          simp only [putsA, List.foldl_cons, List.foldl_nil, Act.put, List.setIfInBounds_toArray, List.set_cons_zero, List.set_cons_succ] at hK ⊢
          generalize vs 3 = v3 at f3 hK ⊢
          rw [if_pos (by rfl)]
          subst f3
          have d0 := (HRt.out _ (HB2.out.trans (hB.mono HB2.out.size))).2.1
          have d1 := (HRt.out _ (HB2.out.trans (hB.mono HB2.out.size))).2.2.1
          have d2 := (HRt.out _ (HB2.out.trans (hB.mono HB2.out.size))).2.2.2.1
          go_simp
          exact hK.out _ _ (Below.refl _ _) rfl
        case s5 =>
          refine StepF.of rfl [] (by kernel_rfl) ?_
          intro vs x hB hf K hK
          clear hf
          simp only [putsA, List.foldl_nil, Act.put, List.setIfInBounds_toArray] at hK ⊢
          rw [if_pos (by rfl)]
          go_simp
          exact hK.out _ _ (Below.refl _ _) rfl
        case s6 =>
          refine StepF.of rfl [] (by kernel_rfl) ?_
          intro vs x hB hf K hK
          clear hf
          simp only [putsA, List.foldl_nil, Act.put, List.setIfInBounds_toArray] at hK ⊢
          rw [if_pos (by rfl)]
          go_simp
          exact hK.out _ _ (Below.refl _ _) rfl
        case s7 =>
          refine StepF.of rfl [(5, some 40), (6, some 41)] (by kernel_rfl) ?_
          intro vs x hB hf K hK
          have f5 : (fun v u => v = .slice (some ⟨g, 0, none⟩) l.length cap) (vs 5) x := hf.1
          have f6 : (fun v u => v = .int .i64 (k : Int)) (vs 6) x := hf.2.1
          clear hf
          simp only [putsA, List.foldl_cons, List.foldl_nil, Act.put, List.setIfInBounds_toArray, List.set_cons_zero, List.set_cons_succ] at hK ⊢
          generalize vs 5 = v5 at f5 hK ⊢
          generalize vs 6 = v6 at f6 hK ⊢
          rw [if_pos (by rfl)]
          subst f5 f6
          have hkl : (k : Int) < (l.length : Int) := by omega
          go_simp
          exact hK.out _ _ (Below.refl _ _) rfl
        case s8 =>
          refine StepF.of rfl [(7, some 42)] (by kernel_rfl) ?_
          intro vs x hB hf K hK
          have f7 : (fun v u => v = Value.pointer (some ⟨g, k * 5, none⟩)) (vs 7) x := hf.1
          clear hf
          simp only [putsA, List.foldl_cons, List.foldl_nil, Act.put, List.setIfInBounds_toArray, List.set_cons_zero, List.set_cons_succ] at hK ⊢
          generalize vs 7 = v7 at f7 hK ⊢
          rw [if_pos (by rfl)]
          subst f7
          go_simp
          exact hK.out _ _ (Below.refl _ _) rfl
        case s9 =>
          refine StepF.of rfl [(8, some 43)] (by kernel_rfl) ?_
          intro vs x hB hf K hK
          have f8 : (fun v u => v = Value.pointer (some ⟨g, k * 5 + 4, none⟩)) (vs 8) x := hf.1
          clear hf
          simp only [putsA, List.foldl_cons, List.foldl_nil, Act.put, List.setIfInBounds_toArray, List.set_cons_zero, List.set_cons_succ] at hK ⊢
          generalize vs 8 = v8 at f8 hK ⊢
          rw [if_pos (by rfl)]
          subst f8
          have d0 := (HRt.out _ (HB2.out.trans (hB.mono HB2.out.size))).2.2.2.2
          go_simp
          exact hK.out _ _ (Below.refl _ _) rfl
        case s10 =>
          refine StepF.of rfl [] (by kernel_rfl) ?_
          intro vs x hB hf K hK
          clear hf
          simp only [putsA, List.foldl_nil, Act.put, List.setIfInBounds_toArray] at hK ⊢
          rw [if_pos (by rfl)]
          go_simp
          exact hK.out _ _ (Below.refl _ _) rfl
        case s11 =>
          refine StepF.of rfl [] (by kernel_rfl) ?_
          intro vs x hB hf K hK
          clear hf
          simp only [putsA, List.foldl_nil, Act.put, List.setIfInBounds_toArray] at hK ⊢
          rw [if_pos (by rfl)]
          go_simp
          exact hK.out _ _ (Below.refl _ _) rfl
        case s12 =>
          refine StepF.of rfl [(10, some 45), (11, some 46)] (by kernel_rfl) ?_
          intro vs x hB hf K hK
          have f10 : (fun v u => v = .slice (some ⟨g, 0, none⟩) l.length cap) (vs 10) x := hf.1
          have f11 : (fun v u => v = .int .i64 (k : Int)) (vs 11) x := hf.2.1
          clear hf
          simp only [putsA, List.foldl_cons, List.foldl_nil, Act.put, List.setIfInBounds_toArray, List.set_cons_zero, List.set_cons_succ] at hK ⊢
          generalize vs 10 = v10 at f10 hK ⊢
          generalize vs 11 = v11 at f11 hK ⊢
          rw [if_pos (by rfl)]
          subst f10 f11
          have hkl : (k : Int) < (l.length : Int) := by omega
          go_simp
          exact hK.out _ _ (Below.refl _ _) rfl
        case s13 =>
          refine StepF.of rfl [(12, some 47)] (by kernel_rfl) ?_
          intro vs x hB hf K hK
          have f12 : (fun v u => v = Value.pointer (some ⟨g, k * 5, none⟩)) (vs 12) x := hf.1
          clear hf
          simp only [putsA, List.foldl_cons, List.foldl_nil, Act.put, List.setIfInBounds_toArray, List.set_cons_zero, List.set_cons_succ] at hK ⊢
          generalize vs 12 = v12 at f12 hK ⊢
          rw [if_pos (by rfl)]
          subst f12
          go_simp
          exact hK.out _ _ (Below.refl _ _) rfl
        case s14 =>
          refine StepF.of rfl [(13, some 48)] (by kernel_rfl) ?_
          intro vs x hB hf K hK
          have f13 : (fun v u => v = Value.pointer (some ⟨g, k * 5 + 1, none⟩)) (vs 13) x := hf.1
          clear hf
          simp only [putsA, List.foldl_cons, List.foldl_nil, Act.put, List.setIfInBounds_toArray, List.set_cons_zero, List.set_cons_succ] at hK ⊢
          generalize vs 13 = v13 at f13 hK ⊢
          rw [if_pos (by rfl)]
          subst f13
          have d0 := (HRt.out _ (HB2.out.trans (hB.mono HB2.out.size))).2.1
          have d1 := (HRt.out _ (HB2.out.trans (hB.mono HB2.out.size))).2.2.1
          have d2 := (HRt.out _ (HB2.out.trans (hB.mono HB2.out.size))).2.2.2.1
          go_simp
          exact hK.out _ _ (Below.refl _ _) rfl
        case s15 =>
          refine StepF.of rfl [(9, some 44), (14, some 49)] (by kernel_rfl) ?_
          intro vs x hB hf K hK
          have f9 : (fun v u => v = .int .i64 t'.ver) (vs 9) x := hf.1
          have f14 : (fun v u => v = t'.value.val) (vs 14) x := hf.2.1
          clear hf
          simp only [putsA, List.foldl_cons, List.foldl_nil, Act.put, List.setIfInBounds_toArray, List.set_cons_zero, List.set_cons_succ] at hK ⊢
          generalize vs 9 = v9 at f9 hK ⊢
          generalize vs 14 = v14 at f14 hK ⊢
          rw [if_pos (by rfl)]
          subst f9 f14
          go_simp
          exact hK.out _ _ (Below.refl _ _) rfl
        case s16 =>
          refine StepF.of rfl [(4, some 39), (15, some 50)] (by kernel_rfl) ?_
          intro vs x hB hf K hK
          have f4 : (fun v u => v = t'.value.val) (vs 4) x := hf.1
          have f15 : (fun v u => v = .agg #[.int .i64 t'.ver, .int .i64 t'.value.kind, .int .i64 t'.value.num, .string t'.value.name]) (vs 15) x := hf.2.1
          clear hf
          simp only [putsA, List.foldl_cons, List.foldl_nil, Act.put, List.setIfInBounds_toArray, List.set_cons_zero, List.set_cons_succ] at hK ⊢
          generalize vs 4 = v4 at f4 hK ⊢
          generalize vs 15 = v15 at f15 hK ⊢
          rw [if_pos (by rfl)]
          subst f4 f15
          go_simp
          exact hK.out _ _ (Below.refl _ _) rfl
        case last =>
          intro vs u' hB hf K hK
          have f0 : (fun v u => v = .slice (some ⟨g, 0, none⟩) l.length cap) (vs 0) u' := hf.1
          have f1 : (fun v u => v = .int .i64 (k : Int)) (vs 1) u' := hf.2.1
          have f2 : (fun v u => v = Value.pointer (some ⟨g, k * 5, none⟩)) (vs 2) u' := hf.2.2.1
          have f3 : (fun v u => v = Value.pointer (some ⟨g, k * 5 + 1, none⟩)) (vs 3) u' := hf.2.2.2.1
          have f4 : (fun v u => v = t'.value.val) (vs 4) u' := hf.2.2.2.2.1
          have f5 : (fun v u => v = .slice (some ⟨g, 0, none⟩) l.length cap) (vs 5) u' := hf.2.2.2.2.2.1
          have f6 : (fun v u => v = .int .i64 (k : Int)) (vs 6) u' := hf.2.2.2.2.2.2.1
          have f7 : (fun v u => v = Value.pointer (some ⟨g, k * 5, none⟩)) (vs 7) u' := hf.2.2.2.2.2.2.2.1
          have f8 : (fun v u => v = Value.pointer (some ⟨g, k * 5 + 4, none⟩)) (vs 8) u' := hf.2.2.2.2.2.2.2.2.1
          have f9 : (fun v u => v = .int .i64 t'.ver) (vs 9) u' := hf.2.2.2.2.2.2.2.2.2.1
          have f10 : (fun v u => v = .slice (some ⟨g, 0, none⟩) l.length cap) (vs 10) u' := hf.2.2.2.2.2.2.2.2.2.2.1
          have f11 : (fun v u => v = .int .i64 (k : Int)) (vs 11) u' := hf.2.2.2.2.2.2.2.2.2.2.2.1
          have f12 : (fun v u => v = Value.pointer (some ⟨g, k * 5, none⟩)) (vs 12) u' := hf.2.2.2.2.2.2.2.2.2.2.2.2.1
          have f13 : (fun v u => v = Value.pointer (some ⟨g, k * 5 + 1, none⟩)) (vs 13) u' := hf.2.2.2.2.2.2.2.2.2.2.2.2.2.1
          have f14 : (fun v u => v = t'.value.val) (vs 14) u' := hf.2.2.2.2.2.2.2.2.2.2.2.2.2.2.1
          have f15 : (fun v u => v = .agg #[.int .i64 t'.ver, .int .i64 t'.value.kind, .int .i64 t'.value.num, .string t'.value.name]) (vs 15) u' := hf.2.2.2.2.2.2.2.2.2.2.2.2.2.2.2.1
          have f16 : (fun v u => v = FR (0, false, t'.value, t'.ver)) (vs 16) u' := hf.2.2.2.2.2.2.2.2.2.2.2.2.2.2.2.2.1
          clear hf
          simp only [putsA, List.foldl_cons, List.foldl_nil, Act.put, List.setIfInBounds_toArray, List.set_cons_zero, List.set_cons_succ]
          generalize vs 0 = v0 at f0 ⊢
          generalize vs 1 = v1 at f1 ⊢
          generalize vs 2 = v2 at f2 ⊢
          generalize vs 3 = v3 at f3 ⊢
          generalize vs 4 = v4 at f4 ⊢
          generalize vs 5 = v5 at f5 ⊢
          generalize vs 6 = v6 at f6 ⊢
          generalize vs 7 = v7 at f7 ⊢
          generalize vs 8 = v8 at f8 ⊢
          generalize vs 9 = v9 at f9 ⊢
          generalize vs 10 = v10 at f10 ⊢
          generalize vs 11 = v11 at f11 ⊢
          generalize vs 12 = v12 at f12 ⊢
          generalize vs 13 = v13 at f13 ⊢
          generalize vs 14 = v14 at f14 ⊢
          generalize vs 15 = v15 at f15 ⊢
          generalize vs 16 = v16 at f16 ⊢
          rw [if_pos (by rfl)]
          subst f16
          clear f0 f1 f2 f3 f4 f5 f6 f7 f8 f9 f10 f11 f12 f13 f14 f15
          have hq := HZf.out _ (HB2.out.trans (hB.mono HB2.out.size))
          have HTs : Hid (u'.there (w.heap.size + 1) 0 (frL (0, false, t'.value, t'.ver)).toArray.size) := by rw [show (frL (0, false, t'.value, t'.ver)).toArray.size = 9 from rfl]; exact hq.1.there
          refine wp_store_mid 43 _ _ rfl (w.heap.size + 1) 0 (frL (0, false, t'.value, t'.ver)).toArray rfl rfl HTs.out (by rw [infoFr]; rfl) (frL_one _) ?_
          refine hK.out _ _ ?_
          clear hK
          go_wp2
          exact bodyPost_ret (v := FR (0, false, t'.value, t'.ver)) (resFR rfl _ u' (w.heap.size + 1) (0, false, t'.value, t'.ver) hq.1.there rfl) rfl ⟨by rw [HE.out], below_setCells hq.2 (by omega) _ _⟩
      case true =>
        have HE : Hid (R = (0, true, t.value, t.ver)) := by show R = _; rw [HFs.out, if_pos (by simpa using d1)]
        go_simp
        refine hK.out _ _ ?_
        clear hK d1
        have hq := HZf.out _ HB2.out
        have HQ : Hid (Fr9 u (w.heap.size + 1) ∧ Below w.heap.size w u) := hq
        have HTs : Hid (u.there (w.heap.size + 1) 0 (frL (0, true, t.value, t.ver)).toArray.size) := by rw [show (frL (0, true, t.value, t.ver)).toArray.size = 9 from rfl]; exact hq.1.there
        have c0 := (HS1.out.below HB2.out).c0
        have c1 := (HS1.out.below HB2.out).c1
        have c2 := (HS1.out.below HB2.out).c2
        have c3 := (HS1.out.below HB2.out).c3
        clear hq
        go_wp2_with (refine wpList_store_mid rfl 43 _ _ rfl (w.heap.size + 1) 0 (frL (0, true, t.value, t.ver)).toArray rfl rfl HTs.out (by rw [infoFr]; rfl) (frL_one _) ?_)
        exact bodyPost_ret (v := FR (0, true, t.value, t.ver)) (resFR rfl _ u (w.heap.size + 1) (0, true, t.value, t.ver) HQ.out.1.there rfl) rfl ⟨by rw [HE.out], below_setCells HQ.out.2 (by omega) _ _⟩
end Go.Proofs.Ytgfienijabkpjaa
