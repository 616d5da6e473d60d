/-
  The model's FetchSite; nothing that was there is turned.
-/
import Derived.Test.YtlamkbggfbancaaSpecSF
import Derived.Test.YtlamkbggfbancaaFrKit
import Derived.Test.YtlamkbggfbancaaImplG
import Derived.Test.YtlamkbggfbancaaFacts
namespace Go.Proofs.Ytlamkbggfbancaa
open Go.RowKit Go.Extern.Stop Go.Stop Go.Extern Num Go.Lib

set_option maxRecDepth 100000 in
set_option maxHeartbeats 4000000 in
theorem specFS_any (ao : Option Addr) (cap g : Nat) (l : List Glb) (s : ByteArray) (t : Ste) (w : World) (hl : l.length ≤ 1048576) (hcap : l.length ≤ cap) (hcm : cap ≤ 9223372036854775807) (hao : 0 < l.length → ao = some ⟨g, 0, none⟩) (hr : RowG w g l) (hz : ableG l) (hs : s.size ≤ 9223372036854775807) (ht : t.value.name.size ≤ 9223372036854775807) :
    Calls Try.prog 21 #[.slice ao l.length cap, .string s, t.val] w fun e w' => e = .returned (FR (outFS l s t)) ∧ Below w.heap.size w w' := by
  obtain ⟨c, hc⟩ : ∃ c, c = codeSF l s t := ⟨_, rfl⟩
  obtain ⟨W, hW⟩ : ∃ W, W = (w.alloc (.cells #[.int .i64 t.ver, .int .i64 t.value.kind, .int .i64 t.value.num, .string t.value.name] 39)).alloc (.cells #[.int .i64 0, .bool false, .int .i64 0, .int .i64 0, .string ⟨#[]⟩, .int .i64 0, .int .i64 0, .int .i64 0, .string ⟨#[]⟩] 43) := ⟨_, rfl⟩
  have HW : Hid (W = (w.alloc (.cells #[.int .i64 t.ver, .int .i64 t.value.kind, .int .i64 t.value.num, .string t.value.name] 39)).alloc (.cells #[.int .i64 0, .bool false, .int .i64 0, .int .i64 0, .string ⟨#[]⟩, .int .i64 0, .int .i64 0, .int .i64 0, .string ⟨#[]⟩] 43)) := hW
  have HBW : Hid (Below w.heap.size w W) := by rw [hW]; exact ((Below.refl _ _).alloc (Nat.le_refl _) _).alloc (by simp) _
  have zW : W.heap.size = w.heap.size + 2 := by rw [hW]; simp
  have HZ : Hid (Fr9 W (w.heap.size + 1)) := by
    rw [hW]
    exact ⟨fun o v h => by rw [World.cell?_alloc_at _ _ _ _ (by simp)]; simpa using h, fun o => by rw [World.frozen?_alloc_at _ _ _ _ (by simp)]⟩
  have HSt : Hid (SteAt w.heap.size t W) := by
    rw [hW]
    exact ⟨by rw [World.cell?_alloc_past _ _ _ (by simp), World.cell?_alloc_at _ _ _ _ rfl]; rfl, by rw [World.cell?_alloc_past _ _ _ (by simp), World.cell?_alloc_at _ _ _ _ rfl]; rfl, by rw [World.cell?_alloc_past _ _ _ (by simp), World.cell?_alloc_at _ _ _ _ rfl]; rfl, by rw [World.cell?_alloc_past _ _ _ (by simp), World.cell?_alloc_at _ _ _ _ rfl]; rfl⟩
  have HP : Hid (RowG W g l) := hr.below HBW.out
  have HC : Hid (Calls Try.prog 36 #[.slice ao l.length cap, .string s, t.val] W fun e w' => e = .returned (.int .i64 c) ∧ Below W.heap.size W w') := by rw [hc]; exact specSiteF_any ao cap g l s t W hl hcap hcm hao HP.out hz hs ht
  have HA : Hid (∀ u, Below W.heap.size W u → Calls Try.prog 49 #[.slice ao l.length cap, .string s] u fun e w' => e = .returned (.int .i64 (atI (atG l s))) ∧ w' = u) := fun u hu => l7At_any ao cap g l s u hl hao (HP.out.below hu)
  obtain ⟨R, hR⟩ : ∃ R, R = outFS l s t := ⟨_, rfl⟩
  have HR : Hid (R = outFS l s t ∧ c = codeSF l s t) := ⟨hR, hc⟩
  have HAO : Hid (0 < l.length → ao = some ⟨g, 0, none⟩) := hao
  rw [← hR]
  clear hW hc hR hcap hcm hao hr hz hs ht
  go_enter Try.func21, Try.ntmps21
  go_wp2_with fail
  rw [← HW.out]
  refine HC.out.mono ?_
  rintro e w1 ⟨rfl, b1⟩
  have HB1 : Hid (Below W.heap.size W w1) := b1
  have HBw : Hid (Below w.heap.size w w1) := HBW.out.trans (b1.mono HBW.out.size)
  have HZ1 : Hid (Fr9 w1 (w.heap.size + 1)) := HZ.out.below b1 (by omega)
  have HS1 : Hid (SteAt w.heap.size t w1) := HSt.out.below b1
  have z1 : w.heap.size + 1 < w1.heap.size := by have := b1.size; omega
  clear b1 HC HZ HSt
  by_cases h0 : c = 0
  case neg =>
    have HE : Hid (R = (c, false, vZ, 0)) := by show R = _; rw [HR.out.1, HR.out.2]; exact fs_bad (by rw [← HR.out.2]; exact h0)
    have h0' : (c != 0) = true := by simpa using h0
    have HTs : Hid (w1.there (w.heap.size + 1) 0 (frL (c, false, vZ, 0)).toArray.size) := by rw [show (frL (c, false, vZ, 0)).toArray.size = 9 from rfl]; exact HZ1.out.there
    clear HR h0 HA HP
    go_wp2_with (refine wpList_store_mid rfl 43 _ _ rfl (w.heap.size + 1) 0 (frL (c, false, vZ, 0)).toArray rfl rfl HTs.out (by rw [infoFr]; rfl) (frL_one _) ?_)
    exact bodyPost_ret (v := FR (c, false, vZ, 0)) (resFR rfl _ w1 (w.heap.size + 1) (c, false, vZ, 0) HZ1.out.there rfl) rfl ⟨by rw [HE.out], below_setCells HBw.out (by omega) _ _⟩
  subst h0
  cases hat : atG l s with
  | none =>
    have HE : Hid (R = (4, false, vZ, 0)) := by show R = _; rw [HR.out.1]; exact fs_none HR.out.2.symm hat
    have HAn : Hid (Calls Try.prog 49 #[.slice ao l.length cap, .string s] w1 fun e w' => e = .returned (.int .i64 (-1)) ∧ w' = w1) := by have := HA.out w1 HB1.out; rw [hat] at this; exact this
    have HTs : Hid (w1.there (w.heap.size + 1) 0 (frL (4, false, vZ, 0)).toArray.size) := by rw [show (frL (4, false, vZ, 0)).toArray.size = 9 from rfl]; exact HZ1.out.there
    clear HR HA HP hat
    go_wp2_with fail
    refine HAn.out.mono ?_
    rintro e w2 ⟨rfl, hw2⟩
    replace hw2 := hw2.symm
    subst hw2
    go_wp2_with (refine wpList_store_mid rfl 43 _ _ rfl (w.heap.size + 1) 0 (frL (4, false, vZ, 0)).toArray rfl rfl HTs.out (by rw [infoFr]; rfl) (frL_one _) ?_)
    exact bodyPost_ret (v := FR (4, false, vZ, 0)) (resFR rfl _ w1 (w.heap.size + 1) (4, false, vZ, 0) HZ1.out.there rfl) rfl ⟨by rw [HE.out], below_setCells HBw.out (by omega) _ _⟩
  | some k =>
    obtain ⟨hk, _, _⟩ := atG_some hat
    obtain rfl := HAO.out (by omega)
    have hfs := fs_some HR.out.2.symm hat hk
    rw [← HR.out.1] at hfs
    have HAn : Hid (Calls Try.prog 49 #[.slice (some ⟨g, 0, none⟩) l.length cap, .string s] w1 fun e w' => e = .returned (.int .i64 (k : Int)) ∧ w' = w1) := by have := HA.out w1 HB1.out; rw [hat] at this; exact this
    obtain ⟨t', ht'⟩ : ∃ t', t' = l[k]'hk := ⟨_, rfl⟩
    have HRt : Hid (∀ u, Below w1.heap.size w1 u → u.cell? ⟨g, k * 5, none⟩ = some (.string t'.name) ∧ u.cell? ⟨g, k * 5 + 1, none⟩ = some (.int .i64 t'.value.kind) ∧ u.cell? ⟨g, k * 5 + 2, none⟩ = some (.int .i64 t'.value.num) ∧ u.cell? ⟨g, k * 5 + 3, none⟩ = some (.string t'.value.name) ∧ u.cell? ⟨g, k * 5 + 4, none⟩ = some (.int .i64 t'.ver)) := fun u hu => by rw [ht']; exact (HP.out.below HB1.out).below hu k hk
    rw [← ht'] at hfs
    have HFs : Hid (R = if t'.ver = t.ver then (0, true, t.value, t.ver) else (0, false, t'.value, t'.ver)) := hfs
    have HZf : Hid (∀ u, Below w1.heap.size w1 u → Fr9 u (w.heap.size + 1) ∧ Below w.heap.size w u) := fun u hu => ⟨HZ1.out.below hu z1, HBw.out.trans (hu.mono HBw.out.size)⟩
    clear HR HA HP hat ht' hfs HAO
    obtain ⟨eq, heq⟩ : ∃ eq : Bool, eq = (t'.ver == t.ver) := ⟨_, rfl⟩
    have HEq : Hid ((t'.ver == t.ver) = eq) := heq.symm
    clear heq
    go_wp2_with fail
    refine HAn.out.mono ?_
    rintro e w2 ⟨rfl, hw2⟩
    replace hw2 := hw2.symm
    subst hw2
    go_wp2_with fail
    refine wp_region_facts (by kernel_rfl) 7 (fun v => Below w1.heap.size w1 v) (fun u v => Below u.heap.size u v) (fun i v u => match i with | 0 => (fun v u => v = .slice (some ⟨g, 0, none⟩) l.length cap) v u | 1 => (fun v u => v = .int .i64 (k : Int)) v u | 2 => (fun v u => v = Value.pointer (some ⟨g, k * 5, none⟩)) v u | 3 => (fun v u => v = Value.pointer (some ⟨g, k * 5 + 4, none⟩)) v u | 4 => (fun v u => v = .int .i64 t'.ver) v u | 5 => (fun v u => v = Value.pointer (some ⟨w.heap.size, 0, none⟩)) v u | 6 => (fun v u => v = .int .i64 t.ver) v u | _ => True) (by kernel_rfl) [0, 1, 2, 3, 4, 5, 6] (by kernel_rfl) ?b0 ?bk ?fk ⟨?s0, ?s1, ?s2, ?s3, ?s4, ?s5, ?s6, trivial⟩ _ rfl [(0, some 23), (1, some 24), (2, some 25), (3, some 26), (4, some 27), (5, some 28), (6, some 29)] (by kernel_rfl) ?last
    case b0 => exact Below.drew (Below.refl _ _)
    case bk => exact fun u v h hb => h.trans (hb.mono h.size)
    case fk => intro i v u u' h hb; match i, h with | 0, h => exact (h) | 1, h => exact (h) | 2, h => exact (h) | 3, h => exact (h) | 4, h => exact (h) | 5, h => exact (h) | 6, h => exact (h) | _ + 7, _ => exact trivial
    case s0 =>
      refine StepF.of rfl [] (by kernel_rfl) ?_
      intro vs u hB hf K hK
      clear hf
      simp only [putsA, List.foldl_nil, Act.put, List.setIfInBounds_toArray] at hK ⊢
      rw [if_pos (by rfl)]
      go_simp
      exact hK.out _ _ (Below.refl _ _) rfl
    case s1 =>
      refine StepF.of rfl [] (by kernel_rfl) ?_
      intro vs u hB hf K hK
      clear hf
      simp only [putsA, List.foldl_nil, Act.put, List.setIfInBounds_toArray] at hK ⊢
      rw [if_pos (by rfl)]
      go_simp
      exact hK.out _ _ (Below.refl _ _) rfl
    case s2 =>
      refine StepF.of rfl [(0, some 23), (1, some 24)] (by kernel_rfl) ?_
      intro vs u hB hf K hK
      have f0 : (fun v u => v = .slice (some ⟨g, 0, none⟩) l.length cap) (vs 0) u := hf.1
      have f1 : (fun v u => v = .int .i64 (k : Int)) (vs 1) u := hf.2.1
      clear hf
      simp only [putsA, List.foldl_cons, List.foldl_nil, Act.put, List.setIfInBounds_toArray, List.set_cons_zero, List.set_cons_succ] at hK ⊢
      generalize vs 0 = v0 at f0 hK ⊢
      generalize vs 1 = v1 at f1 hK ⊢
      rw [if_pos (by rfl)]
      subst f0 f1
      have hkl : (k : Int) < (l.length : Int) := by omega
      go_simp
      exact hK.out _ _ (Below.refl _ _) rfl
    case s3 =>
      refine StepF.of rfl [(2, some 25)] (by kernel_rfl) ?_
      intro vs u hB hf K hK
      have f2 : (fun v u => v = Value.pointer (some ⟨g, k * 5, none⟩)) (vs 2) u := hf.1
      clear hf
      simp only [putsA, List.foldl_cons, List.foldl_nil, Act.put, List.setIfInBounds_toArray, List.set_cons_zero, List.set_cons_succ] at hK ⊢
      generalize vs 2 = v2 at f2 hK ⊢
      rw [if_pos (by rfl)]
      subst f2
      go_simp
      exact hK.out _ _ (Below.refl _ _) rfl
    case s4 =>
      refine StepF.of rfl [(3, some 26)] (by kernel_rfl) ?_
      intro vs u hB hf K hK
      have f3 : (fun v u => v = Value.pointer (some ⟨g, k * 5 + 4, none⟩)) (vs 3) u := hf.1
      clear hf
      simp only [putsA, List.foldl_cons, List.foldl_nil, Act.put, List.setIfInBounds_toArray, List.set_cons_zero, List.set_cons_succ] at hK ⊢
      generalize vs 3 = v3 at f3 hK ⊢
      rw [if_pos (by rfl)]
      subst f3
      have d0 := (HRt.out _ hB).2.2.2.2
      go_simp
      exact hK.out _ _ (Below.refl _ _) rfl
    case s5 =>
      refine StepF.of rfl [] (by kernel_rfl) ?_
      intro vs u hB hf K hK
      clear hf
      simp only [putsA, List.foldl_nil, Act.put, List.setIfInBounds_toArray] at hK ⊢
      rw [if_pos (by rfl)]
      go_simp
      exact hK.out _ _ (Below.refl _ _) rfl
    case s6 =>
      refine StepF.of rfl [(5, some 28)] (by kernel_rfl) ?_
      intro vs u hB hf K hK
      have f5 : (fun v u => v = Value.pointer (some ⟨w.heap.size, 0, none⟩)) (vs 5) u := hf.1
      clear hf
      simp only [putsA, List.foldl_cons, List.foldl_nil, Act.put, List.setIfInBounds_toArray, List.set_cons_zero, List.set_cons_succ] at hK ⊢
      generalize vs 5 = v5 at f5 hK ⊢
      rw [if_pos (by rfl)]
      subst f5
      have d0 := (HS1.out.below hB).c0
      go_simp
      exact hK.out _ _ (Below.refl _ _) rfl
    case last =>
      intro vs u hB hf K hK
      have f0 : (fun v u => v = .slice (some ⟨g, 0, none⟩) l.length cap) (vs 0) u := hf.1
      have f1 : (fun v u => v = .int .i64 (k : Int)) (vs 1) u := hf.2.1
      have f2 : (fun v u => v = Value.pointer (some ⟨g, k * 5, none⟩)) (vs 2) u := hf.2.2.1
      have f3 : (fun v u => v = Value.pointer (some ⟨g, k * 5 + 4, none⟩)) (vs 3) u := hf.2.2.2.1
      have f4 : (fun v u => v = .int .i64 t'.ver) (vs 4) u := hf.2.2.2.2.1
      have f5 : (fun v u => v = Value.pointer (some ⟨w.heap.size, 0, none⟩)) (vs 5) u := hf.2.2.2.2.2.1
      have f6 : (fun v u => v = .int .i64 t.ver) (vs 6) u := hf.2.2.2.2.2.2.1
      clear hf
      simp only [putsA, List.foldl_cons, List.foldl_nil, Act.put, List.setIfInBounds_toArray, List.set_cons_zero, List.set_cons_succ]
      generalize vs 0 = v0 at f0 ⊢
      generalize vs 1 = v1 at f1 ⊢
      generalize vs 2 = v2 at f2 ⊢
      generalize vs 3 = v3 at f3 ⊢
      generalize vs 4 = v4 at f4 ⊢
      generalize vs 5 = v5 at f5 ⊢
      generalize vs 6 = v6 at f6 ⊢
      rw [if_pos (by rfl)]
      subst f4 f6
      clear f0 f1 f2 f3 f5
      have d1 := HEq.out
      have HB2 : Hid (Below w1.heap.size w1 u) := hB
      clear hB
      cases eq
      case false =>
        have HE : Hid (R = (0, false, t'.value, t'.ver)) := by show R = _; rw [HFs.out, if_neg (by simpa using d1)]
        go_simp
        refine hK.out _ _ ?_
        clear hK d1
        go_wp2_with fail
        refine wp_region_facts (by kernel_rfl) 17 (fun v => Below u.heap.size u v) (fun u v => Below u.heap.size u v) (fun i v u => match i with | 0 => (fun v u => v = .slice (some ⟨g, 0, none⟩) l.length cap) v u | 1 => (fun v u => v = .int .i64 (k : Int)) v u | 2 => (fun v u => v = Value.pointer (some ⟨g, k * 5, none⟩)) v u | 3 => (fun v u => v = Value.pointer (some ⟨g, k * 5 + 1, none⟩)) v u | 4 => (fun v u => v = t'.value.val) v u | 5 => (fun v u => v = .slice (some ⟨g, 0, none⟩) l.length cap) v u | 6 => (fun v u => v = .int .i64 (k : Int)) v u | 7 => (fun v u => v = Value.pointer (some ⟨g, k * 5, none⟩)) v u | 8 => (fun v u => v = Value.pointer (some ⟨g, k * 5 + 4, none⟩)) v u | 9 => (fun v u => v = .int .i64 t'.ver) v u | 10 => (fun v u => v = .slice (some ⟨g, 0, none⟩) l.length cap) v u | 11 => (fun v u => v = .int .i64 (k : Int)) v u | 12 => (fun v u => v = Value.pointer (some ⟨g, k * 5, none⟩)) v u | 13 => (fun v u => v = Value.pointer (some ⟨g, k * 5 + 1, none⟩)) v u | 14 => (fun v u => v = t'.value.val) v u | 15 => (fun v u => v = .agg #[.int .i64 t'.ver, .int .i64 t'.value.kind, .int .i64 t'.value.num, .string t'.value.name]) v u | 16 => (fun v u => v = FR (0, false, t'.value, t'.ver)) v u | _ => True) (by kernel_rfl) [0, 1, 2, 3, 4, 5, 6, 7, 8, 9, 10, 11, 12, 13, 14, 15, 16] (by kernel_rfl) ?b0 ?bk ?fk ⟨?s0, ?s1, ?s2, ?s3, ?s4, ?s5, ?s6, ?s7, ?s8, ?s9, ?s10, ?s11, ?s12, ?s13, ?s14, ?s15, ?s16, trivial⟩ _ rfl [(0, some 35), (1, some 36), (2, some 37), (3, some 38), (4, some 39), (5, some 40), (6, some 41), (7, some 42), (8, some 43), (9, some 44), (10, some 45), (11, some 46), (12, some 47), (13, some 48), (14, some 49), (15, some 50), (16, some 51)] (by kernel_rfl) ?last
        case b0 => exact Below.drew (Below.refl _ _)
        case bk => exact fun u v h hb => h.trans (hb.mono h.size)
        case fk => intro i v u u' h hb; match i, h with | 0, h => exact (h) | 1, h => exact (h) | 2, h => exact (h) | 3, h => exact (h) | 4, h => exact (h) | 5, h => exact (h) | 6, h => exact (h) | 7, h => exact (h) | 8, h => exact (h) | 9, h => exact (h) | 10, h => exact (h) | 11, h => exact (h) | 12, h => exact (h) | 13, h => exact (h) | 14, h => exact (h) | 15, h => exact (h) | 16, h => exact (h) | _ + 17, _ => exact trivial
        case s0 =>
          refine StepF.of rfl [] (by kernel_rfl) ?_
          intro vs x hB hf K hK
          clear hf
          simp only [putsA, List.foldl_nil, Act.put, List.setIfInBounds_toArray] at hK ⊢
          rw [if_pos (by rfl)]
          go_simp
          exact hK.out _ _ (Below.refl _ _) rfl
        case s1 =>
          refine StepF.of rfl [] (by kernel_rfl) ?_
          intro vs x hB hf K hK
          clear hf
          simp only [putsA, List.foldl_nil, Act.put, List.setIfInBounds_toArray] at hK ⊢
          rw [if_pos (by rfl)]
          go_simp
          exact hK.out _ _ (Below.refl _ _) rfl
        case s2 =>
          refine StepF.of rfl [(0, some 35), (1, some 36)] (by kernel_rfl) ?_
          intro vs x hB hf K hK
          have f0 : (fun v u => v = .slice (some ⟨g, 0, none⟩) l.length cap) (vs 0) x := hf.1
          have f1 : (fun v u => v = .int .i64 (k : Int)) (vs 1) x := hf.2.1
          clear hf
          simp only [putsA, List.foldl_cons, List.foldl_nil, Act.put, List.setIfInBounds_toArray, List.set_cons_zero, List.set_cons_succ] at hK ⊢
          generalize vs 0 = v0 at f0 hK ⊢
          generalize vs 1 = v1 at f1 hK ⊢
          rw [if_pos (by rfl)]
          subst f0 f1
          have hkl : (k : Int) < (l.length : Int) := by omega
          go_simp
          exact hK.out _ _ (Below.refl _ _) rfl
        case s3 =>
          refine StepF.of rfl [(2, some 37)] (by kernel_rfl) ?_
          intro vs x hB hf K hK
          have f2 : (fun v u => v = Value.pointer (some ⟨g, k * 5, none⟩)) (vs 2) x := hf.1
          clear hf
          simp only [putsA, List.foldl_cons, List.foldl_nil, Act.put, List.setIfInBounds_toArray, List.set_cons_zero, List.set_cons_succ] at hK ⊢
          generalize vs 2 = v2 at f2 hK ⊢
          rw [if_pos (by rfl)]
          subst f2
          go_simp
          exact hK.out _ _ (Below.refl _ _) rfl
        case s4 =>
          refine StepF.of rfl [(3, some 38)] (by kernel_rfl) ?_
          intro vs x hB hf K hK
          have f3 : (fun v u => v = Value.pointer (some ⟨g, k * 5 + 1, none⟩)) (vs 3) x := hf.1
          clear hf
          simp only [putsA, List.foldl_cons, List.foldl_nil, Act.put, List.setIfInBounds_toArray, List.set_cons_zero, List.set_cons_succ] at hK ⊢
          generalize vs 3 = v3 at f3 hK ⊢
          rw [if_pos (by rfl)]
          subst f3
          have d0 := (HRt.out _ (HB2.out.trans (hB.mono HB2.out.size))).2.1
          have d1 := (HRt.out _ (HB2.out.trans (hB.mono HB2.out.size))).2.2.1
          have d2 := (HRt.out _ (HB2.out.trans (hB.mono HB2.out.size))).2.2.2.1
          go_simp
          exact hK.out _ _ (Below.refl _ _) rfl
        case s5 =>
          refine StepF.of rfl [] (by kernel_rfl) ?_
          intro vs x hB hf K hK
          clear hf
          simp only [putsA, List.foldl_nil, Act.put, List.setIfInBounds_toArray] at hK ⊢
          rw [if_pos (by rfl)]
          go_simp
          exact hK.out _ _ (Below.refl _ _) rfl
        case s6 =>
          refine StepF.of rfl [] (by kernel_rfl) ?_
          intro vs x hB hf K hK
          clear hf
          simp only [putsA, List.foldl_nil, Act.put, List.setIfInBounds_toArray] at hK ⊢
          rw [if_pos (by rfl)]
          go_simp
          exact hK.out _ _ (Below.refl _ _) rfl
        case s7 =>
          refine StepF.of rfl [(5, some 40), (6, some 41)] (by kernel_rfl) ?_
          intro vs x hB hf K hK
          have f5 : (fun v u => v = .slice (some ⟨g, 0, none⟩) l.length cap) (vs 5) x := hf.1
          have f6 : (fun v u => v = .int .i64 (k : Int)) (vs 6) x := hf.2.1
          clear hf
          simp only [putsA, List.foldl_cons, List.foldl_nil, Act.put, List.setIfInBounds_toArray, List.set_cons_zero, List.set_cons_succ] at hK ⊢
          generalize vs 5 = v5 at f5 hK ⊢
          generalize vs 6 = v6 at f6 hK ⊢
          rw [if_pos (by rfl)]
          subst f5 f6
          have hkl : (k : Int) < (l.length : Int) := by omega
          go_simp
          exact hK.out _ _ (Below.refl _ _) rfl
        case s8 =>
          refine StepF.of rfl [(7, some 42)] (by kernel_rfl) ?_
          intro vs x hB hf K hK
          have f7 : (fun v u => v = Value.pointer (some ⟨g, k * 5, none⟩)) (vs 7) x := hf.1
          clear hf
          simp only [putsA, List.foldl_cons, List.foldl_nil, Act.put, List.setIfInBounds_toArray, List.set_cons_zero, List.set_cons_succ] at hK ⊢
          generalize vs 7 = v7 at f7 hK ⊢
          rw [if_pos (by rfl)]
          subst f7
          go_simp
          exact hK.out _ _ (Below.refl _ _) rfl
        case s9 =>
          refine StepF.of rfl [(8, some 43)] (by kernel_rfl) ?_
          intro vs x hB hf K hK
          have f8 : (fun v u => v = Value.pointer (some ⟨g, k * 5 + 4, none⟩)) (vs 8) x := hf.1
          clear hf
          simp only [putsA, List.foldl_cons, List.foldl_nil, Act.put, List.setIfInBounds_toArray, List.set_cons_zero, List.set_cons_succ] at hK ⊢
          generalize vs 8 = v8 at f8 hK ⊢
          rw [if_pos (by rfl)]
          subst f8
          have d0 := (HRt.out _ (HB2.out.trans (hB.mono HB2.out.size))).2.2.2.2
          go_simp
          exact hK.out _ _ (Below.refl _ _) rfl
        case s10 =>
          refine StepF.of rfl [] (by kernel_rfl) ?_
          intro vs x hB hf K hK
          clear hf
          simp only [putsA, List.foldl_nil, Act.put, List.setIfInBounds_toArray] at hK ⊢
          rw [if_pos (by rfl)]
          go_simp
          exact hK.out _ _ (Below.refl _ _) rfl
        case s11 =>
          refine StepF.of rfl [] (by kernel_rfl) ?_
          intro vs x hB hf K hK
          clear hf
          simp only [putsA, List.foldl_nil, Act.put, List.setIfInBounds_toArray] at hK ⊢
          rw [if_pos (by rfl)]
          go_simp
          exact hK.out _ _ (Below.refl _ _) rfl
        case s12 =>
          refine StepF.of rfl [(10, some 45), (11, some 46)] (by kernel_rfl) ?_
          intro vs x hB hf K hK
          have f10 : (fun v u => v = .slice (some ⟨g, 0, none⟩) l.length cap) (vs 10) x := hf.1
          have f11 : (fun v u => v = .int .i64 (k : Int)) (vs 11) x := hf.2.1
          clear hf
          simp only [putsA, List.foldl_cons, List.foldl_nil, Act.put, List.setIfInBounds_toArray, List.set_cons_zero, List.set_cons_succ] at hK ⊢
          generalize vs 10 = v10 at f10 hK ⊢
          generalize vs 11 = v11 at f11 hK ⊢
          rw [if_pos (by rfl)]
          subst f10 f11
          have hkl : (k : Int) < (l.length : Int) := by omega
          go_simp
          exact hK.out _ _ (Below.refl _ _) rfl
        case s13 =>
          refine StepF.of rfl [(12, some 47)] (by kernel_rfl) ?_
          intro vs x hB hf K hK
          have f12 : (fun v u => v = Value.pointer (some ⟨g, k * 5, none⟩)) (vs 12) x := hf.1
          clear hf
          simp only [putsA, List.foldl_cons, List.foldl_nil, Act.put, List.setIfInBounds_toArray, List.set_cons_zero, List.set_cons_succ] at hK ⊢
          generalize vs 12 = v12 at f12 hK ⊢
          rw [if_pos (by rfl)]
          subst f12
          go_simp
          exact hK.out _ _ (Below.refl _ _) rfl
        case s14 =>
          refine StepF.of rfl [(13, some 48)] (by kernel_rfl) ?_
          intro vs x hB hf K hK
          have f13 : (fun v u => v = Value.pointer (some ⟨g, k * 5 + 1, none⟩)) (vs 13) x := hf.1
          clear hf
          simp only [putsA, List.foldl_cons, List.foldl_nil, Act.put, List.setIfInBounds_toArray, List.set_cons_zero, List.set_cons_succ] at hK ⊢
          generalize vs 13 = v13 at f13 hK ⊢
          rw [if_pos (by rfl)]
          subst f13
          have d0 := (HRt.out _ (HB2.out.trans (hB.mono HB2.out.size))).2.1
          have d1 := (HRt.out _ (HB2.out.trans (hB.mono HB2.out.size))).2.2.1
          have d2 := (HRt.out _ (HB2.out.trans (hB.mono HB2.out.size))).2.2.2.1
          go_simp
          exact hK.out _ _ (Below.refl _ _) rfl
        case s15 =>
          refine StepF.of rfl [(9, some 44), (14, some 49)] (by kernel_rfl) ?_
          intro vs x hB hf K hK
          have f9 : (fun v u => v = .int .i64 t'.ver) (vs 9) x := hf.1
          have f14 : (fun v u => v = t'.value.val) (vs 14) x := hf.2.1
          clear hf
          simp only [putsA, List.foldl_cons, List.foldl_nil, Act.put, List.setIfInBounds_toArray, List.set_cons_zero, List.set_cons_succ] at hK ⊢
          generalize vs 9 = v9 at f9 hK ⊢
          generalize vs 14 = v14 at f14 hK ⊢
          rw [if_pos (by rfl)]
          subst f9 f14
          go_simp
          exact hK.out _ _ (Below.refl _ _) rfl
        case s16 =>
          refine StepF.of rfl [(4, some 39), (15, some 50)] (by kernel_rfl) ?_
          intro vs x hB hf K hK
          have f4 : (fun v u => v = t'.value.val) (vs 4) x := hf.1
          have f15 : (fun v u => v = .agg #[.int .i64 t'.ver, .int .i64 t'.value.kind, .int .i64 t'.value.num, .string t'.value.name]) (vs 15) x := hf.2.1
          clear hf
          simp only [putsA, List.foldl_cons, List.foldl_nil, Act.put, List.setIfInBounds_toArray, List.set_cons_zero, List.set_cons_succ] at hK ⊢
          generalize vs 4 = v4 at f4 hK ⊢
          generalize vs 15 = v15 at f15 hK ⊢
          rw [if_pos (by rfl)]
          subst f4 f15
          go_simp
          exact hK.out _ _ (Below.refl _ _) rfl
        case last =>
          intro vs u' hB hf K hK
          have f0 : (fun v u => v = .slice (some ⟨g, 0, none⟩) l.length cap) (vs 0) u' := hf.1
          have f1 : (fun v u => v = .int .i64 (k : Int)) (vs 1) u' := hf.2.1
          have f2 : (fun v u => v = Value.pointer (some ⟨g, k * 5, none⟩)) (vs 2) u' := hf.2.2.1
          have f3 : (fun v u => v = Value.pointer (some ⟨g, k * 5 + 1, none⟩)) (vs 3) u' := hf.2.2.2.1
          have f4 : (fun v u => v = t'.value.val) (vs 4) u' := hf.2.2.2.2.1
          have f5 : (fun v u => v = .slice (some ⟨g, 0, none⟩) l.length cap) (vs 5) u' := hf.2.2.2.2.2.1
          have f6 : (fun v u => v = .int .i64 (k : Int)) (vs 6) u' := hf.2.2.2.2.2.2.1
          have f7 : (fun v u => v = Value.pointer (some ⟨g, k * 5, none⟩)) (vs 7) u' := hf.2.2.2.2.2.2.2.1
          have f8 : (fun v u => v = Value.pointer (some ⟨g, k * 5 + 4, none⟩)) (vs 8) u' := hf.2.2.2.2.2.2.2.2.1
          have f9 : (fun v u => v = .int .i64 t'.ver) (vs 9) u' := hf.2.2.2.2.2.2.2.2.2.1
          have f10 : (fun v u => v = .slice (some ⟨g, 0, none⟩) l.length cap) (vs 10) u' := hf.2.2.2.2.2.2.2.2.2.2.1
          have f11 : (fun v u => v = .int .i64 (k : Int)) (vs 11) u' := hf.2.2.2.2.2.2.2.2.2.2.2.1
          have f12 : (fun v u => v = Value.pointer (some ⟨g, k * 5, none⟩)) (vs 12) u' := hf.2.2.2.2.2.2.2.2.2.2.2.2.1
          have f13 : (fun v u => v = Value.pointer (some ⟨g, k * 5 + 1, none⟩)) (vs 13) u' := hf.2.2.2.2.2.2.2.2.2.2.2.2.2.1
          have f14 : (fun v u => v = t'.value.val) (vs 14) u' := hf.2.2.2.2.2.2.2.2.2.2.2.2.2.2.1
          have f15 : (fun v u => v = .agg #[.int .i64 t'.ver, .int .i64 t'.value.kind, .int .i64 t'.value.num, .string t'.value.name]) (vs 15) u' := hf.2.2.2.2.2.2.2.2.2.2.2.2.2.2.2.1
          have f16 : (fun v u => v = FR (0, false, t'.value, t'.ver)) (vs 16) u' := hf.2.2.2.2.2.2.2.2.2.2.2.2.2.2.2.2.1
          clear hf
          simp only [putsA, List.foldl_cons, List.foldl_nil, Act.put, List.setIfInBounds_toArray, List.set_cons_zero, List.set_cons_succ]
          generalize vs 0 = v0 at f0 ⊢
          generalize vs 1 = v1 at f1 ⊢
          generalize vs 2 = v2 at f2 ⊢
          generalize vs 3 = v3 at f3 ⊢
          generalize vs 4 = v4 at f4 ⊢
          generalize vs 5 = v5 at f5 ⊢
          generalize vs 6 = v6 at f6 ⊢
          generalize vs 7 = v7 at f7 ⊢
          generalize vs 8 = v8 at f8 ⊢
          generalize vs 9 = v9 at f9 ⊢
          generalize vs 10 = v10 at f10 ⊢
          generalize vs 11 = v11 at f11 ⊢
          generalize vs 12 = v12 at f12 ⊢
          generalize vs 13 = v13 at f13 ⊢
          generalize vs 14 = v14 at f14 ⊢
          generalize vs 15 = v15 at f15 ⊢
          generalize vs 16 = v16 at f16 ⊢
          rw [if_pos (by rfl)]
          subst f16
          clear f0 f1 f2 f3 f4 f5 f6 f7 f8 f9 f10 f11 f12 f13 f14 f15
          have hq := HZf.out _ (HB2.out.trans (hB.mono HB2.out.size))
          have HTs : Hid (u'.there (w.heap.size + 1) 0 (frL (0, false, t'.value, t'.ver)).toArray.size) := by rw [show (frL (0, false, t'.value, t'.ver)).toArray.size = 9 from rfl]; exact hq.1.there
          refine wp_store_mid 43 _ _ rfl (w.heap.size + 1) 0 (frL (0, false, t'.value, t'.ver)).toArray rfl rfl HTs.out (by rw [infoFr]; rfl) (frL_one _) ?_
          refine hK.out _ _ ?_
          clear hK
          go_wp2
          exact bodyPost_ret (v := FR (0, false, t'.value, t'.ver)) (resFR rfl _ u' (w.heap.size + 1) (0, false, t'.value, t'.ver) hq.1.there rfl) rfl ⟨by rw [HE.out], below_setCells hq.2 (by omega) _ _⟩
      case true =>
        have HE : Hid (R = (0, true, t.value, t.ver)) := by show R = _; rw [HFs.out, if_pos (by simpa using d1)]
        go_simp
        refine hK.out _ _ ?_
        clear hK d1
        have hq := HZf.out _ HB2.out
        have HQ : Hid (Fr9 u (w.heap.size + 1) ∧ Below w.heap.size w u) := hq
        have HTs : Hid (u.there (w.heap.size + 1) 0 (frL (0, true, t.value, t.ver)).toArray.size) := by rw [show (frL (0, true, t.value, t.ver)).toArray.size = 9 from rfl]; exact hq.1.there
        have c0 := (HS1.out.below HB2.out).c0
        have c1 := (HS1.out.below HB2.out).c1
        have c2 := (HS1.out.below HB2.out).c2
        have c3 := (HS1.out.below HB2.out).c3
        clear hq
        go_wp2_with (refine wpList_store_mid rfl 43 _ _ rfl (w.heap.size + 1) 0 (frL (0, true, t.value, t.ver)).toArray rfl rfl HTs.out (by rw [infoFr]; rfl) (frL_one _) ?_)
        exact bodyPost_ret (v := FR (0, true, t.value, t.ver)) (resFR rfl _ u (w.heap.size + 1) (0, true, t.value, t.ver) HQ.out.1.there rfl) rfl ⟨by rw [HE.out], below_setCells HQ.out.2 (by omega) _ _⟩
end Go.Proofs.Ytlamkbggfbancaa
