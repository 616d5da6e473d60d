/-
  Parts of the proof laid into one text, one behind the other; each says at its head what is proved in it.
-/
import Derived.Test.YtebnonpdaddniaaGreatDoorSpecCoCHt
import Derived.Test.YtebnonpdaddniaaGreatDoorFacts
/-
  The model's l4Fault, and its CoreFault: what is wrong with cores; nothing that was there is turned.
-/
namespace Go.Proofs.YtebnonpdaddniaaGreatDoor
open Go.RowKit Go.Extern.Stop Go.Stop Go.Extern Num Go.Lib

theorem parZ_kids (l : List Cor) (a : Int) : ∀ k, k ≤ l.length → (kidsTo l a k).length = ((l.take k).filter fun t => t.parent == a).length
  | 0, _ => rfl
  | k + 1, h => by
    have ih := parZ_kids l a k (by omega)
    have hk : k < l.length := by omega
    rw [takeC l k hk, List.filter_append, List.length_append, ← ih, kidsTo, parZ_at l k hk]
    by_cases hp : l[k].parent = a
    · rw [if_pos hp, List.length_append]; simp [hp]
    · rw [if_neg hp]; simp [hp]
theorem kidsD_len (l : List Cor) (a : Int) : (kidsD l a).length = kidN l a := by
  have := parZ_kids l a l.length (Nat.le_refl _)
  rw [List.take_length] at this
  exact this
set_option maxRecDepth 100000 in
set_option maxHeartbeats 4000000 in
theorem l4Fault_few (B g cap : Nat) (l : List Cor) (w : World) (hR : RowC w B g l) (h1 : 1 ≤ (l.length : Int)) (h160 : (l.length : Int) ≤ 160) (hz : ∀ (k : Nat) (h : k < l.length), l[k].small) :
    Calls Tryz.prog 55 #[.slice (some ⟨g, 0, none⟩) l.length cap] w fun e w' => e = .returned (.int .i64 (coreF l)) ∧ Below w.heap.size w w' := by
  have HR : Hid (RowC w B g l) := hR
  have HZ : Hid (∀ (k : Nat) (h : k < l.length), l[k].small) := hz
  have HF : Hid (coreF l = if onesC l l.length 0 ≠ 0 then onesC l l.length 0 else if kidsAll l l.length 0 = true then 0 else 1) := by show coreF l = _; unfold coreF; rw [if_neg (by omega)]
  clear hR hz
  obtain ⟨R, hRe⟩ : ∃ R : Int, R = coreF l := ⟨_, rfl⟩
  rw [← hRe] at HF ⊢
  clear hRe
  go_enter Tryz.func55, Tryz.ntmps55
  go_wp2_with fail
  go_loopw [3, 4] (fun v x wr => ∃ k : Nat, k ≤ l.length ∧ v = .int .i64 (k : Int) ∧ Hid (okC l k) ∧ Hid (Below w.heap.size w wr)) (fun v _ _ => l.length - (RowKit.intOf v).toNat)
  case atStart => exact ⟨0, Nat.zero_le _, rfl, fun j _ hj => by omega, Below.refl _ _⟩
  case round =>
    obtain ⟨k, hk, rfl, HK, HB⟩ := hrel
    by_cases hlt : k < l.length
    · have HO : Hid (Calls Tryz.prog 91 #[.slice (some ⟨g, 0, none⟩) l.length cap, .int .i64 (k : Int)] wr fun e w' => e = .returned (.int .i64 (oneC l k (l[k]'hlt))) ∧ Below wr.heap.size wr w') := by
        rw [oneC_model l k (by omega)]
        exact l4One_any B g cap l wr k (HR.out.below HB.out) hlt (by omega) HK.out (HZ.out k hlt)
      have HNx : Hid (oneC l k (l[k]'hlt) = 0 → okC l (k + 1)) := fun h => okC_next HK.out hlt h
      have HHit : Hid (oneC l k (l[k]'hlt) ≠ 0 → R = oneC l k (l[k]'hlt)) := fun h => by
        have := onesC_hit HK.out hlt h
        rw [HF.out, this, if_pos h]
      generalize oneC l k (l[k]'hlt) = c at HO HNx HHit
      by_cases hc : c = 0
      · subst hc
        go_wp2_with (go_at_call 91; refine HO.out.mono ?_; rintro e w1 ⟨rfl, b1⟩)
        exact ⟨⟨k + 1, by omega, by go_num, HNx.out (by trivial), HB.out.trans (b1.mono HB.out.size)⟩, by simp [RowKit.intOf]; omega⟩
      · have hne : (c != 0) = true := by simpa using hc
        have HC : Hid (R = c) := HHit.out hc
        clear hc HHit HNx
        go_wp2_with (go_at_call 91; refine HO.out.mono ?_; rintro e w1 ⟨rfl, b1⟩)
        go_ret
        exact ⟨by rw [HC.out]; rfl, HB.out.trans (b1.mono HB.out.size)⟩
    · obtain rfl : k = l.length := by omega
      have HOn : Hid (onesC l l.length 0 = 0) := onesC_end HK.out
      have HF2 : Hid (R = if kidsAll l l.length 0 = true then 0 else 1) := by show _ = _; rw [HF.out, HOn.out, if_neg (by simp)]
      obtain ⟨wo, rfl⟩ : ∃ wo, wo = wr := ⟨wr, rfl⟩
      go_wp2_with fail
      go_loopw [5] (fun v wt => ∃ a : Nat, a ≤ l.length ∧ v = .int .i64 (a : Int) ∧ Hid (∀ j, j < a → manyK (kdC l j) (kidN l (j : Int)) = true) ∧ Hid (Below w.heap.size w wt)) (fun v _ => l.length - (RowKit.intOf v).toNat)
      case atStart => exact ⟨0, Nat.zero_le _, rfl, fun j hj => by omega, HB.out⟩
      case round =>
        obtain ⟨k, hk, rfl, HM, HBt⟩ := hrel
        by_cases hat : k < l.length
        · obtain ⟨kd, hkd⟩ : ∃ kd, kd = (l[k]'hat).kind := ⟨_, rfl⟩
          obtain ⟨kn, hkn⟩ : ∃ kn, kn = (kidsD l (k : Int)).length := ⟨_, rfl⟩
          obtain ⟨mk, hmk⟩ : ∃ mk, mk = manyK kd kn := ⟨_, rfl⟩
          have HMk : Hid (manyK (kdC l k) (kidN l (k : Int)) = mk) := by show _ = _; rw [kdC_at l k hat, ← hkd, ← kidsD_len, ← hkn, hmk]
          obtain ⟨W, hW⟩ : ∃ W, W = wr := ⟨_, rfl⟩
          subst hW
          have hC : Hid (∀ u, Below W.heap.size W u → u.cell? ⟨g, k * 6, none⟩ = some (.int .i64 kd)) := fun u hu => by rw [hkd]; exact ((HR.out.below HBt.out).below hu k hat).1
          have HKi : Hid (∀ u, Below W.heap.size W u → Calls Tryz.prog 93 #[.slice (some ⟨g, 0, none⟩) l.length cap, .int .i64 (k : Int)] u fun e w' => ∃ q c, e = .returned (.slice (some ⟨q, 0, none⟩) kn c) ∧ Below u.heap.size u w') := fun u hu => (l4Kids_any B g cap l (k : Int) u ((HR.out.below HBt.out).below hu) (by omega)).mono fun e w' ⟨q, c, h1, _, h3⟩ => ⟨q, c, by rw [hkn]; exact h1, h3⟩
          have hkn160 : kn ≤ 160 := by rw [hkn]; have := kidsTo_len l (k : Int) l.length; unfold kidsD; omega
          have HMa : Hid (∀ u, Calls Tryz.prog 92 #[.int .i64 kd, .int .i64 (kn : Int)] u fun e w' => e = .returned (.bool mk) ∧ w' = u) := fun u => by rw [hmk]; exact l4Many_any kd kn hkn160 u
          clear hkd hkn hmk
          have hkl : (k : Int) < (l.length : Int) := by omega
          go_wp2_with fail
          refine wp_region_facts (by kernel_rfl) 10 (fun v => Below W.heap.size W v) (fun u v => Below u.heap.size u v) (fun i vv u => match i with | 0 => (fun v _ => v = .slice (some ⟨g, 0, none⟩) l.length cap) vv u | 1 => (fun v _ => v = .int .i64 (k : Int)) vv u | 2 => (fun v _ => v = .pointer (some ⟨g, k * 6, none⟩)) vv u | 3 => (fun v _ => v = .pointer (some ⟨g, k * 6, none⟩)) vv u | 4 => (fun v _ => v = .int .i64 kd) vv u | 5 => (fun v _ => v = .slice (some ⟨g, 0, none⟩) l.length cap) vv u | 6 => (fun v _ => v = .int .i64 (k : Int)) vv u | 7 => (fun v _ => ∃ q c, v = .slice (some ⟨q, 0, none⟩) kn c) vv u | 8 => (fun v _ => v = .int .i64 (kn : Int)) vv u | 9 => (fun v _ => v = .bool mk) vv u | _ => True) (by kernel_rfl) [0, 1, 2, 3, 4, 5, 6, 7, 8, 9] (by kernel_rfl) ?b0 ?bk ?fk ⟨?s0, ?s1, ?s2, ?s3, ?s4, ?s5, ?s6, ?s7, ?s8, ?s9, trivial⟩ _ rfl [(0, some 32), (1, some 33), (2, some 34), (3, some 35), (4, some 36), (5, some 37), (6, some 38), (7, some 39), (8, some 40), (9, some 41)] (by kernel_rfl) ?last
          case b0 => exact Below.drew (Below.refl _ _)
          case bk => exact fun u v h hb => h.trans (hb.mono h.size)
          case fk => intro i vv u u' h hb; match i, h with | 0, h => exact (h) | 1, h => exact (h) | 2, h => exact (h) | 3, h => exact (h) | 4, h => exact (h) | 5, h => exact (h) | 6, h => exact (h) | 7, h => exact (h) | 8, h => exact (h) | 9, h => exact (h) | _ + 10, _ => exact trivial
          case s0 =>
            refine StepF.of rfl [] (by kernel_rfl) ?_
            intro vs u hB hf K hK
            clear hf
            simp only [putsA, List.foldl_nil, Act.put, List.setIfInBounds_toArray] at hK ⊢
            rw [if_pos (by rfl)]
            go_simp
            exact hK.out _ _ (Below.refl _ _) rfl
          case s1 =>
            refine StepF.of rfl [] (by kernel_rfl) ?_
            intro vs u hB hf K hK
            clear hf
            simp only [putsA, List.foldl_nil, Act.put, List.setIfInBounds_toArray] at hK ⊢
            rw [if_pos (by rfl)]
            go_simp
            exact hK.out _ _ (Below.refl _ _) rfl
          case s2 =>
            refine StepF.of rfl [(0, some 32), (1, some 33)] (by kernel_rfl) ?_
            intro vs u hB hf K hK
            have f0 : (fun v _ => v = .slice (some ⟨g, 0, none⟩) l.length cap) (vs 0) u := hf.1
            have f1 : (fun v _ => v = .int .i64 (k : Int)) (vs 1) u := hf.2.1
            clear hf
            simp only [putsA, List.foldl_cons, List.foldl_nil, Act.put, List.setIfInBounds_toArray, List.set_cons_zero, List.set_cons_succ] at hK ⊢
            generalize vs 0 = v0 at f0 hK ⊢
            generalize vs 1 = v1 at f1 hK ⊢
            subst f0 f1
            rw [if_pos (by rfl)]
            go_simp
            exact hK.out _ _ (Below.refl _ _) rfl
          case s3 =>
            refine StepF.of rfl [(2, some 34)] (by kernel_rfl) ?_
            intro vs u hB hf K hK
            have f2 : (fun v _ => v = .pointer (some ⟨g, k * 6, none⟩)) (vs 2) u := hf.1
            clear hf
            simp only [putsA, List.foldl_cons, List.foldl_nil, Act.put, List.setIfInBounds_toArray, List.set_cons_zero, List.set_cons_succ] at hK ⊢
            generalize vs 2 = v2 at f2 hK ⊢
            subst f2
            rw [if_pos (by rfl)]
            go_simp
            exact hK.out _ _ (Below.refl _ _) rfl
          case s4 =>
            refine StepF.of rfl [(3, some 35)] (by kernel_rfl) ?_
            intro vs u hB hf K hK
            have f3 : (fun v _ => v = .pointer (some ⟨g, k * 6, none⟩)) (vs 3) u := hf.1
            clear hf
            simp only [putsA, List.foldl_cons, List.foldl_nil, Act.put, List.setIfInBounds_toArray, List.set_cons_zero, List.set_cons_succ] at hK ⊢
            generalize vs 3 = v3 at f3 hK ⊢
            subst f3
            rw [if_pos (by rfl)]
            have c0 := hC.out u hB
            go_simp
            exact hK.out _ _ (Below.refl _ _) rfl
          case s5 =>
            refine StepF.of rfl [] (by kernel_rfl) ?_
            intro vs u hB hf K hK
            clear hf
            simp only [putsA, List.foldl_nil, Act.put, List.setIfInBounds_toArray] at hK ⊢
            rw [if_pos (by rfl)]
            go_simp
            exact hK.out _ _ (Below.refl _ _) rfl
          case s6 =>
            refine StepF.of rfl [] (by kernel_rfl) ?_
            intro vs u hB hf K hK
            clear hf
            simp only [putsA, List.foldl_nil, Act.put, List.setIfInBounds_toArray] at hK ⊢
            rw [if_pos (by rfl)]
            go_simp
            exact hK.out _ _ (Below.refl _ _) rfl
          case s7 =>
            refine StepF.of rfl [(5, some 37), (6, some 38)] (by kernel_rfl) ?_
            intro vs u hB hf K hK
            have f5 : (fun v _ => v = .slice (some ⟨g, 0, none⟩) l.length cap) (vs 5) u := hf.1
            have f6 : (fun v _ => v = .int .i64 (k : Int)) (vs 6) u := hf.2.1
            clear hf
            simp only [putsA, List.foldl_cons, List.foldl_nil, Act.put, List.setIfInBounds_toArray, List.set_cons_zero, List.set_cons_succ] at hK ⊢
            generalize vs 5 = v5 at f5 hK ⊢
            generalize vs 6 = v6 at f6 hK ⊢
            subst f5 f6
            rw [if_pos (by rfl)]
            go_simp
            refine (HKi.out u hB).mono ?_
            rintro e w' ⟨q, c, rfl, hb⟩
            exact hK.out _ _ hb ⟨q, c, rfl⟩
          case s8 =>
            refine StepF.of rfl [(7, some 39)] (by kernel_rfl) ?_
            intro vs u hB hf K hK
            have f7 : (fun v _ => ∃ q c, v = .slice (some ⟨q, 0, none⟩) kn c) (vs 7) u := hf.1
            clear hf
            simp only [putsA, List.foldl_cons, List.foldl_nil, Act.put, List.setIfInBounds_toArray, List.set_cons_zero, List.set_cons_succ] at hK ⊢
            generalize vs 7 = v7 at f7 hK ⊢
            obtain ⟨q, c, rfl⟩ := f7
            rw [if_pos (by rfl)]
            go_simp
            exact hK.out _ _ (Below.refl _ _) rfl
          case s9 =>
            refine StepF.of rfl [(4, some 36), (7, some 39), (8, some 40)] (by kernel_rfl) ?_
            intro vs u hB hf K hK
            have f4 : (fun v _ => v = .int .i64 kd) (vs 4) u := hf.1
            have f7 : (fun v _ => ∃ q c, v = .slice (some ⟨q, 0, none⟩) kn c) (vs 7) u := hf.2.1
            have f8 : (fun v _ => v = .int .i64 (kn : Int)) (vs 8) u := hf.2.2.1
            clear hf
            simp only [putsA, List.foldl_cons, List.foldl_nil, Act.put, List.setIfInBounds_toArray, List.set_cons_zero, List.set_cons_succ] at hK ⊢
            generalize vs 4 = v4 at f4 hK ⊢
            generalize vs 7 = v7 at f7 hK ⊢
            generalize vs 8 = v8 at f8 hK ⊢
            subst f4 f8
            clear f7
            rw [if_pos (by rfl)]
            go_simp
            refine (HMa.out u).mono ?_
            rintro e w' ⟨rfl, rfl⟩
            exact hK.out _ _ (Below.refl _ _) rfl
          case last =>
            intro vs u hB hf K hK
            have f0 : (fun v _ => v = .slice (some ⟨g, 0, none⟩) l.length cap) (vs 0) u := hf.1
            have f1 : (fun v _ => v = .int .i64 (k : Int)) (vs 1) u := hf.2.1
            have f2 : (fun v _ => v = .pointer (some ⟨g, k * 6, none⟩)) (vs 2) u := hf.2.2.1
            have f3 : (fun v _ => v = .pointer (some ⟨g, k * 6, none⟩)) (vs 3) u := hf.2.2.2.1
            have f4 : (fun v _ => v = .int .i64 kd) (vs 4) u := hf.2.2.2.2.1
            have f5 : (fun v _ => v = .slice (some ⟨g, 0, none⟩) l.length cap) (vs 5) u := hf.2.2.2.2.2.1
            have f6 : (fun v _ => v = .int .i64 (k : Int)) (vs 6) u := hf.2.2.2.2.2.2.1
            have f7 : (fun v _ => ∃ q c, v = .slice (some ⟨q, 0, none⟩) kn c) (vs 7) u := hf.2.2.2.2.2.2.2.1
            have f8 : (fun v _ => v = .int .i64 (kn : Int)) (vs 8) u := hf.2.2.2.2.2.2.2.2.1
            have f9 : (fun v _ => v = .bool mk) (vs 9) u := hf.2.2.2.2.2.2.2.2.2.1
            clear hf
            simp only [putsA, List.foldl_cons, List.foldl_nil, Act.put, List.setIfInBounds_toArray, List.set_cons_zero, List.set_cons_succ]
            generalize vs 0 = v0 at f0 ⊢
            generalize vs 1 = v1 at f1 ⊢
            generalize vs 2 = v2 at f2 ⊢
            generalize vs 3 = v3 at f3 ⊢
            generalize vs 4 = v4 at f4 ⊢
            generalize vs 5 = v5 at f5 ⊢
            generalize vs 6 = v6 at f6 ⊢
            generalize vs 7 = v7 at f7 ⊢
            generalize vs 8 = v8 at f8 ⊢
            generalize vs 9 = v9 at f9 ⊢
            rw [if_pos (by rfl)]
            obtain ⟨q, c, rfl⟩ := f7
            subst f0 f1 f2 f3 f4 f5 f6 f8 f9
            have HU : Hid (Below W.heap.size W u) := hB
            go_simp
            refine hK.out _ _ ?_
            clear hB hK
            clear HKi HMa hC
            cases mk with
            | true =>
              go_wp2
              exact ⟨⟨k + 1, by omega, by go_num, fun j hj => by
                by_cases e : j = k
                · subst e; exact HMk.out
                · exact HM.out j (by omega), HBt.out.trans (HU.out.mono HBt.out.size)⟩, by simp [RowKit.intOf]; omega⟩
            | false =>
              have HV : Hid (R = 1) := by
                show _ = _
                rw [HF2.out, kidsAll_hit HM.out hat HMk.out]; rfl
              go_wp2
              go_ret
              exact ⟨by rw [HV.out]; rfl, HBt.out.trans (HU.out.mono HBt.out.size)⟩
        · have HV : Hid (R = 0) := by
            show _ = _
            rw [HF2.out, kidsAll_end (fun j hj => HM.out j (by omega))]; rfl
          go_wp2
          go_ret
          exact ⟨by rw [HV.out]; rfl, HBt.out⟩
theorem l4Fault_wrong (ao : Option Addr) (n cap : Nat) (w : World) (h : (n : Int) < 1 ∨ 160 < (n : Int)) :
    Calls Tryz.prog 55 #[.slice ao n cap] w fun e w' => e = .returned (.int .i64 2) ∧ w' = w := by
  by_cases h1 : (n : Int) < 1
  · clear h
    go_enter Tryz.func55, Tryz.ntmps55
    go_wp2
    go_ret
    exact ⟨rfl, rfl⟩
  · have h2 : 160 < (n : Int) := by omega
    clear h
    go_enter Tryz.func55, Tryz.ntmps55
    go_wp2
    go_ret
    exact ⟨rfl, rfl⟩
theorem l4Fault_any (B g cap : Nat) (l : List Cor) (w : World) (hR : RowC w B g l) (hz : ∀ (k : Nat) (h : k < l.length), l[k].small) :
    Calls Tryz.prog 55 #[.slice (some ⟨g, 0, none⟩) l.length cap] w fun e w' => e = .returned (.int .i64 (coreF l)) ∧ Below w.heap.size w w' := by
  by_cases h : (l.length : Int) < 1 ∨ 160 < (l.length : Int)
  · refine (l4Fault_wrong _ _ _ w h).mono ?_
    rintro e w' ⟨rfl, rfl⟩
    have e2 : coreF l = 2 := by unfold coreF; rw [if_pos (by omega)]
    exact ⟨by rw [e2], Below.refl _ _⟩
  · exact l4Fault_few B g cap l w hR (by omega) (by omega) hz
theorem specCoF_any (B g cap : Nat) (l : List Cor) (w : World) (hR : RowC w B g l) (hz : ∀ (k : Nat) (h : k < l.length), l[k].small) :
    Calls Tryz.prog 17 #[.slice (some ⟨g, 0, none⟩) l.length cap] w fun e w' => e = .returned (.int .i64 (coreF l)) ∧ Below w.heap.size w w' := by
  have HF : Hid (Calls Tryz.prog 55 #[.slice (some ⟨g, 0, none⟩) l.length cap] w fun e w' => e = .returned (.int .i64 (coreF l)) ∧ Below w.heap.size w w') := l4Fault_any B g cap l w hR hz
  clear hR hz
  generalize coreF l = c at HF ⊢
  go_enter Tryz.func17, Tryz.ntmps17
  go_wp2_with (go_at_call 55; refine HF.out.mono ?_; rintro e w1 ⟨rfl, b1⟩)
  go_ret
  exact ⟨rfl, b1⟩
end Go.Proofs.YtebnonpdaddniaaGreatDoor
