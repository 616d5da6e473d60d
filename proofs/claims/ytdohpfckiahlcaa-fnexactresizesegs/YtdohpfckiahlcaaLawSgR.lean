/-
  The exact law of ResizeSegs answers true at every stack; nothing that was there is turned.
-/
import Derived.Test.YtdohpfckiahlcaaSgPcResize
import Derived.Test.YtdohpfckiahlcaaSgAns
namespace Go.Proofs.Ytdohpfckiahlcaa
open Go.RowKit Go.Extern.Stop Go.Stop Go.Extern Num Go.Lib

set_option maxRecDepth 100000 in
set_option maxHeartbeats 4000000 in
theorem lawSgR_any (w : World) (size : Int) (v : Value) (ps : List (List Int)) (ha : AbleP ps) (h : SeeP w v ps) (item : Int) :
    Calls Try.prog 3 #[segV size v, .int .i64 item] w fun e w' => e = .returned (.bool true) ∧ Below w.heap.size w w' := by
  have HS : Hid (∀ u, Below w.heap.size w u → Calls Try.prog 4 #[segV size v, .int .i64 1048576] u fun e w' => (e = .returned (.int .i64 (-1)) ∨ (∃ q : Nat, q ≤ 1048576 ∧ e = .returned (.int .i64 (q : Int)) ∧ SmallS ps)) ∧ Below u.heap.size u w') := fun u hu => szSegs_any size v ps u ha (h.below hu)
  have HT : Hid (∀ u, Below w.heap.size w u → SeeP u v ps) := fun u hu => h.below hu
  obtain ⟨a, c, rfl, -⟩ := id h
  have HA : Hid (∀ u, Below (w.alloc (.cells #[.int .i64 size, .slice a ps.length c] 24)).heap.size (w.alloc (.cells #[.int .i64 size, .slice a ps.length c] 24)) u → SegAt u w.heap.size size (.slice a ps.length c)) := fun u hu => (SegAt.new w size _ _).below hu
  have H0 : Hid (∀ u, Below (w.alloc (.cells #[.int .i64 size, .slice a ps.length c] 24)).heap.size (w.alloc (.cells #[.int .i64 size, .slice a ps.length c] 24)) u → Below w.heap.size w u) := fun u hu => ((Below.refl _ _).alloc (Nat.le_refl _) _).trans (hu.mono (by simp))
  clear h ha
  go_enter Try.func3, Try.ntmps3
  go_wp2_with fail
  refine (HS.out _ (H0.out _ (Below.refl _ _))).mono ?_
  rintro e w1 ⟨h1, b1⟩
  have B1 : Hid (Below (w.alloc (.cells #[.int .i64 size, .slice a ps.length c] 24)).heap.size (w.alloc (.cells #[.int .i64 size, .slice a ps.length c] 24)) w1) := b1
  clear b1
  rcases h1 with rfl | ⟨q, hq, rfl, hsm⟩
  · go_wp2
    go_ret
    exact ⟨rfl, H0.out _ B1.out⟩
  have HSm : Hid (SmallS ps) := hsm
  obtain ⟨R, hR⟩ : ∃ R : Int, R = resC size ps item := ⟨_, rfl⟩
  obtain ⟨N, hN⟩ : ∃ N : Int, N = 0 := ⟨_, rfl⟩
  obtain ⟨Z, hZ⟩ : ∃ Z : Int, Z = resZ size ps item := ⟨_, rfl⟩
  obtain ⟨M, hM⟩ : ∃ M, M = resQ size ps item := ⟨_, rfl⟩
  have HMs : Hid (SmallS M) := by
    show SmallS M
    rw [hM]; exact resQ_small size ps item
  have HU : Hid (∀ u, Below w.heap.size w u → Calls Try.prog 6 #[segV size (.slice a ps.length c)] u fun e w' => ∃ g P, e = .returned (segV size (.slice (some ⟨g, 0, none⟩) ps.length ps.length)) ∧ PV 54 w' u.heap.size (.slice (some ⟨g, 0, none⟩) ps.length ps.length) P ∧ P.map Prod.fst = ps ∧ Below u.heap.size u w') := fun u hu => toSegs_any size _ ps u hsm (HT.out u hu)
  have HSp : Hid (∀ (u : World) (x : Value), SeeP u x ps → Calls Try.prog 5 #[segV size x, .int .i64 item] u fun e w' => AnsS R N Z M u e w') := fun u x hx => by rw [hR, hN, hZ, hM]; exact specRe_any size x ps item u hsm hx
  have HIm : Hid (∀ (u : World) (x : Value), SeeP u x ps → Calls Try.prog 7 #[segV size x, .int .i64 item] u fun e w' => AnsS R N Z M u e w') := fun u x hx => by rw [hR, hN, hZ, hM]; exact implRe_any size x ps item u hsm hx
  have HEq : Hid (∀ (u : World) (x y : Value), SeeP u x ps → SeeP u y ps → Calls Try.prog 9 #[segV size x, segV size y] u fun e w' => e = .returned (.bool true) ∧ Below u.heap.size u w') := fun u x y hx hy => eqSegs_see size x y ps u hsm hx hy
  have HEr : Hid (∀ (u : World) (x y : Value), SeeP u x M → SeeP u y M → Calls Try.prog 8 #[srV R N Z x, srV R N Z y] u fun e w' => e = .returned (.bool true) ∧ Below u.heap.size u w') := fun u x y hx hy => eqSr_see R N Z x y M u HMs.out hx hy
  have HMkA : Hid (∀ (u : World) (x : Value) (P : List (List Int × Value)) (B : Nat), P.map Prod.fst = ps → PV 54 u B x P → Calls Try.prog 10 #[segV size x, .int .i64 1] u fun e w' => ∃ E : Nat, E ≤ 2000000 ∧ e = .returned (.int .i64 (E : Int)) ∧ Keeps (footP x P) u w') := fun u x P B hP ho => (markSegs_any size x P B u (by rw [hP]; exact hsm) ho).mono fun e w' ⟨h1, _, h3⟩ => ⟨_, by have := hsm.all; rw [← hP] at this; unfold totP; omega, h1, h3⟩
  clear hsm hR hN hZ hM
  obtain ⟨a0, a1⟩ := HA.out _ B1.out
  go_wp2_with fail
  refine (HU.out _ (H0.out _ B1.out)).mono ?_
  rintro e w2 ⟨g2, P2, rfl, o2, m2, b2⟩
  have S2 : Hid (SeeP w2 (.slice (some ⟨g2, 0, none⟩) ps.length ps.length) ps) := by have := o2.see; rw [m2] at this; exact this
  have B2 : Hid (Below (w.alloc (.cells #[.int .i64 size, .slice a ps.length c] 24)).heap.size (w.alloc (.cells #[.int .i64 size, .slice a ps.length c] 24)) w2) := B1.out.trans (b2.mono B1.out.size)
  clear o2 m2 b2 a0 a1
  go_wp2_with fail
  refine (HSp.out w2 _ S2.out).mono ?_
  rintro e w3 ⟨vw, Pw, rfl, ow, mw, b3⟩
  have B3 : Hid (Below (w.alloc (.cells #[.int .i64 size, .slice a ps.length c] 24)).heap.size (w.alloc (.cells #[.int .i64 size, .slice a ps.length c] 24)) w3) := B2.out.trans (b3.mono B2.out.size)
  obtain ⟨aw, nw, cw, rfl⟩ := OwnS.form ow
  have hsw : SeeP w3 (.slice aw nw cw) M := by have := OwnS.see ow; rw [mw] at this; exact this
  obtain ⟨u3, hu3⟩ : ∃ u, u = w3.alloc (.cells #[.int .i64 R, .int .i64 N, .int .i64 Z, .slice aw nw cw] 30) := ⟨_, rfl⟩
  have HU3 : Hid (u3 = w3.alloc (.cells #[.int .i64 R, .int .i64 N, .int .i64 Z, .slice aw nw cw] 30)) := hu3
  have hs3 : w3.heap.size < u3.heap.size := by rw [hu3]; simp
  have BU3 : Hid (Below (w.alloc (.cells #[.int .i64 size, .slice a ps.length c] 24)).heap.size (w.alloc (.cells #[.int .i64 size, .slice a ps.length c] 24)) u3) := by rw [hu3]; exact B3.out.alloc B3.out.size _
  have hs03 : w.heap.size < u3.heap.size := by have h1 := BU3.out.size; have h2 : w.heap.size < (w.alloc (.cells #[.int .i64 size, .slice a ps.length c] 24)).heap.size := by simp
                                               omega
  have HX : Hid (∀ u, Below u3.heap.size u3 u → Cells u w3.heap.size #[.int .i64 R, .int .i64 N, .int .i64 Z, .slice aw nw cw].toList ∧ SeeP u (.slice aw nw cw) M) := fun u hu => by
    rw [hu3] at hu
    exact ⟨(Cells.new w3 _ _).below hu, (hsw.below (bnewK _ _)).below hu⟩
  obtain ⟨a0, a1⟩ := HA.out _ BU3.out
  rw [hu3] at a0 a1
  clear hu3 hsw b3 B2 S2 ow mw
  go_wp2_with fail
  rw [← HU3.out]
  clear HU3 a0 a1
  refine (HU.out _ (H0.out _ BU3.out)).mono ?_
  rintro e w4 ⟨g4, P4, rfl, o4, m4, b4⟩
  obtain ⟨u4, hu4⟩ : ∃ u, u = w4.alloc (.cells #[.int .i64 size, .slice (some ⟨g4, 0, none⟩) ps.length ps.length] 28) := ⟨_, rfl⟩
  have HU4 : Hid (u4 = w4.alloc (.cells #[.int .i64 size, .slice (some ⟨g4, 0, none⟩) ps.length ps.length] 28)) := hu4
  have hs4 : w4.heap.size < u4.heap.size := by rw [hu4]; simp
  have hs34 : u3.heap.size ≤ w4.heap.size := b4.size
  have BU4 : Hid (Below u3.heap.size u3 u4) := by rw [hu4]; exact b4.alloc b4.size _
  have HV4 : Hid (PV 54 u4 u3.heap.size (.slice (some ⟨g4, 0, none⟩) ps.length ps.length) P4) := by rw [hu4]; exact o4.below (bnewK _ _)
  have HF4 : Hid (∀ b, footP (.slice (some ⟨g4, 0, none⟩) ps.length ps.length) P4 b → u3.heap.size ≤ b ∧ b < w4.heap.size) := fun b hb => o4.foot hb
  have HM4 : Hid (P4.map Prod.fst = ps) := m4
  have HX4 : Hid (SegAt u4 w4.heap.size size (.slice (some ⟨g4, 0, none⟩) ps.length ps.length)) := by rw [hu4]; exact SegAt.new _ _ _ _
  have HS4 : Hid (SeeP u4 (.slice (some ⟨g4, 0, none⟩) ps.length ps.length) ps) := by have := HV4.out.see; rw [m4] at this; exact this
  obtain ⟨c0, c1⟩ := HX4.out
  rw [hu4] at c0 c1
  clear hu4 o4 m4 b4
  go_wp2_with fail
  rw [← HU4.out]
  clear HU4 c0 c1
  refine (HIm.out u4 _ HS4.out).mono ?_
  rintro e w5 ⟨vg, Q, rfl, og, mg, b5⟩
  obtain ⟨ag, ng, cg, hvg⟩ := OwnS.form og
  obtain ⟨u5, hu5⟩ : ∃ u, u = w5.alloc (.cells #[.int .i64 R, .int .i64 N, .int .i64 Z, vg] 30) := ⟨_, rfl⟩
  have HU5 : Hid (u5 = w5.alloc (.cells #[.int .i64 R, .int .i64 N, .int .i64 Z, vg] 30)) := hu5
  have hs5 : w5.heap.size < u5.heap.size := by rw [hu5]; simp
  have hs45 : u4.heap.size ≤ w5.heap.size := b5.size
  have HB5 : Hid (Below u4.heap.size u4 u5) := by rw [hu5]; exact b5.alloc b5.size _
  have HVg : Hid (OwnS u5 u4.heap.size vg Q) := by rw [hu5]; exact OwnS.below og (bnewK _ _)
  have HFg : Hid (∀ b, footP vg Q b → u4.heap.size ≤ b ∧ b < w5.heap.size) := fun b hb => OwnS.foot og hb
  have HCg : Hid (Cells u5 w5.heap.size #[.int .i64 R, .int .i64 N, .int .i64 Z, vg].toList) := by rw [hu5]; exact Cells.new _ _ _
  have BX5 : Hid (Below u3.heap.size u3 u5) := BU4.out.trans (HB5.out.mono BU4.out.size)
  have HMq : Hid (Q.map Prod.fst = M) := mg
  have HSee : Hid (∀ u, OwnS u u4.heap.size vg Q → SeeP u vg M) := fun u hu => by have := OwnS.see hu; rw [HMq.out] at this; exact this
  have HMk : Hid (∀ (u : World) (B : Nat), OwnS u B vg Q → Calls Try.prog 11 #[srV R N Z vg, .int .i64 1] u fun e w' => e = .returned (.int .i64 ((endS Q : Nat) : Int)) ∧ MarS w' B vg Q ∧ Keeps (footP vg Q) u w') := fun u B h => markSr_any R N Z vg Q B u (by rw [HMq.out]; exact HMs.out) h
  have HHk : Hid (∀ (u : World) (B : Nat), MarS u B vg Q → Calls Try.prog 12 #[srV R N Z vg, .int .i64 1] u fun e w' => e = .returned (.int .i64 ((endS Q : Nat) : Int)) ∧ Below u.heap.size u w') := fun u B h => heldSr_any R N Z vg Q B u (by rw [HMq.out]; exact HMs.out) h
  have hEb : endS Q ≤ 2000000 := by have := HMs.out.all; rw [← HMq.out] at this; unfold endS totP; omega
  obtain ⟨E, hE⟩ : ∃ E, E = endS Q := ⟨_, rfl⟩
  rw [← hE] at HMk HHk hEb
  have hq := fun j x => HCg.out j x
  have hp := fun j x => (HX.out u5 BX5.out).1 j x
  rw [hu5] at hq hp
  subst hvg
  have q0 := hq 0 _ rfl
  have q1 := hq 1 _ rfl
  have q2 := hq 2 _ rfl
  have q3 := hq 3 _ rfl
  have p0 := hp 0 _ rfl
  have p1 := hp 1 _ rfl
  have p2 := hp 2 _ rfl
  have p3 := hp 3 _ rfl
  clear hu5 og b5 hE hq hp HS4 mg
  go_wp2_with fail
  rw [← HU5.out]
  clear HU5 q0 q1 q2 q3 p0 p1 p2 p3
  refine (HEr.out u5 _ _ (HSee.out _ HVg.out) (HX.out u5 BX5.out).2).mono ?_
  rintro e w6 ⟨rfl, b6⟩
  have B6 : Hid (Below u5.heap.size u5 w6) := b6
  have HBx : Hid (∀ u, Below w6.heap.size w6 u → Below u5.heap.size u5 u ∧ Below u4.heap.size u4 u ∧ Below u3.heap.size u3 u ∧ Below (w.alloc (.cells #[.int .i64 size, .slice a ps.length c] 24)).heap.size (w.alloc (.cells #[.int .i64 size, .slice a ps.length c] 24)) u) := fun u hu => by
    have h1 := B6.out.trans (hu.mono B6.out.size)
    have h2 := HB5.out.trans (h1.mono HB5.out.size)
    have h3 := BU4.out.trans (h2.mono BU4.out.size)
    exact ⟨h1, h2, h3, BU3.out.trans (h3.mono BU3.out.size)⟩
  clear b6
  go_wp2_with fail
  refine wp_region_facts_all (by kernel_rfl) (fun v => Below w6.heap.size w6 v) (fun u v => Below u.heap.size u v) (fun i v u => match i with | 0 => (fun v u => v = segV size (.slice (some ⟨g4, 0, none⟩) ps.length ps.length)) v u | 1 => (fun v u => v = segV size (.slice a ps.length c)) v u | 2 => (fun v u => ∃ x, v = segV size x ∧ SeeP u x ps) v u | 3 => (fun v u => v = .bool true) v u | 4 => (fun v u => v = .bool false) v u | _ => True) (by kernel_rfl) [0, 1, 2, 3, 4] (by kernel_rfl) ?b0 ?bk ?fk ⟨?s0, ?s1, ?s2, ?s3, ?s4, trivial⟩ [(0, some 31), (1, some 32), (2, some 33), (3, some 34), (4, some 35)] (by kernel_rfl) ?last
  case b0 => exact Below.drew (Below.refl _ _)
  case bk => exact fun u v h hb => h.trans (hb.mono h.size)
  case fk => intro i v u u' h hb; match i, h with | 0, h => exact (h) | 1, h => exact (h) | 2, h => exact (let ⟨x, e, o⟩ := h; ⟨x, e, o.below hb⟩) | 3, h => exact (h) | 4, h => exact (h) | _ + 5, _ => exact trivial
  case s0 =>
    refine StepF.of rfl [] (by kernel_rfl) ?_
    intro vs u hB hf K hK
    clear hf
    simp only [putsA, List.foldl_nil, Act.put, List.setIfInBounds_toArray] at hK ⊢
    rw [if_pos (by rfl)]
    obtain ⟨c0', c1'⟩ := HX4.out.below (HBx.out u hB).2.1
    go_simp
    exact hK.out _ _ (Below.refl _ _) rfl
  case s1 =>
    refine StepF.of rfl [] (by kernel_rfl) ?_
    intro vs u hB hf K hK
    clear hf
    simp only [putsA, List.foldl_nil, Act.put, List.setIfInBounds_toArray] at hK ⊢
    rw [if_pos (by rfl)]
    obtain ⟨c0', c1'⟩ := HA.out u (HBx.out u hB).2.2.2
    go_simp
    exact hK.out _ _ (Below.refl _ _) rfl
  case s2 =>
    refine StepF.of rfl [(1, some 32)] (by kernel_rfl) ?_
    intro vs u hB hf K hK
    have f1 : (fun v u => v = segV size (.slice a ps.length c)) (vs 1) u := hf.1
    clear hf
    simp only [putsA, List.foldl_cons, List.foldl_nil, Act.put, List.setIfInBounds_toArray, List.set_cons_zero, List.set_cons_succ] at hK ⊢
    generalize vs 1 = v1 at f1 hK ⊢
    rw [if_pos (by rfl)]
    subst f1
    go_simp
    refine (HU.out u (H0.out _ (HBx.out u hB).2.2.2)).mono ?_
    rintro e w8 ⟨g8, P8, rfl, o8, m8, b8⟩
    exact hK.out _ _ b8 ⟨_, rfl, by have := o8.see; rw [m8] at this; exact this⟩
  case s3 =>
    refine StepF.of rfl [(0, some 31), (2, some 33)] (by kernel_rfl) ?_
    intro vs u hB hf K hK
    have f0 : (fun v u => v = segV size (.slice (some ⟨g4, 0, none⟩) ps.length ps.length)) (vs 0) u := hf.1
    have f2 : (fun v u => ∃ x, v = segV size x ∧ SeeP u x ps) (vs 2) u := hf.2.1
    clear hf
    simp only [putsA, List.foldl_cons, List.foldl_nil, Act.put, List.setIfInBounds_toArray, List.set_cons_zero, List.set_cons_succ] at hK ⊢
    generalize vs 0 = v0 at f0 hK ⊢
    generalize vs 2 = v2 at f2 hK ⊢
    rw [if_pos (by rfl)]
    subst f0
    obtain ⟨x, rfl, hx⟩ := f2
    obtain ⟨ax, cx, rfl, -⟩ := id hx
    go_simp
    refine (HEq.out u _ _ (by have := (HV4.out.below (HBx.out u hB).2.1).see; rw [HM4.out] at this; exact this) hx).mono ?_
    rintro e w8 ⟨rfl, b8⟩
    exact hK.out _ _ b8 rfl
  case s4 =>
    refine StepF.of rfl [(3, some 34)] (by kernel_rfl) ?_
    intro vs u hB hf K hK
    have f3 : (fun v u => v = .bool true) (vs 3) u := hf.1
    clear hf
    simp only [putsA, List.foldl_cons, List.foldl_nil, Act.put, List.setIfInBounds_toArray, List.set_cons_zero, List.set_cons_succ] at hK ⊢
    generalize vs 3 = v3 at f3 hK ⊢
    rw [if_pos (by rfl)]
    subst f3
    go_simp
    exact hK.out _ _ (Below.refl _ _) rfl
  case last =>
    intro vs u hB hf
    have f0 : (fun v u => v = segV size (.slice (some ⟨g4, 0, none⟩) ps.length ps.length)) (vs 0) u := hf.1
    have f1 : (fun v u => v = segV size (.slice a ps.length c)) (vs 1) u := hf.2.1
    have f2 : (fun v u => ∃ x, v = segV size x ∧ SeeP u x ps) (vs 2) u := hf.2.2.1
    have f3 : (fun v u => v = .bool true) (vs 3) u := hf.2.2.2.1
    have f4 : (fun v u => v = .bool false) (vs 4) u := hf.2.2.2.2.1
    clear hf
    simp only [putsA, List.foldl_cons, List.foldl_nil, Act.put, List.setIfInBounds_toArray, List.set_cons_zero, List.set_cons_succ]
    generalize vs 0 = v0 at f0 ⊢
    generalize vs 1 = v1 at f1 ⊢
    generalize vs 2 = v2 at f2 ⊢
    generalize vs 3 = v3 at f3 ⊢
    generalize vs 4 = v4 at f4 ⊢
    subst f0
    subst f1
    subst f3
    subst f4
    obtain ⟨x, rfl, hx⟩ := f2
    obtain ⟨ax, cx, rfl, -⟩ := hx
    obtain ⟨h5, h4, h3, hw0⟩ := HBx.out u hB
    have BX8 : Hid (Below u3.heap.size u3 u) := h3
    have HV8 : Hid (PV 54 u u3.heap.size (.slice (some ⟨g4, 0, none⟩) ps.length ps.length) P4) := HV4.out.below h4
    have HVg8 : Hid (OwnS u u4.heap.size (.slice ag ng cg) Q) := OwnS.below HVg.out h5
    have HCg8 : Hid (Cells u w5.heap.size #[.int .i64 R, .int .i64 N, .int .i64 Z, .slice ag ng cg].toList) := HCg.out.below h5
    have hs8 : u5.heap.size ≤ u.heap.size := h5.size
    obtain ⟨c0, c1⟩ := HX4.out.below h4
    clear hB h5 h4 h3 hw0 HV4 HVg HCg
    go_simp
    go_wp2_with fail
    clear c0 c1
    refine (HMkA.out u _ P4 _ HM4.out HV8.out).mono ?_
    rintro e w9 ⟨E4, hE4, rfl, hk9⟩
    have BX9 : Hid (Below u3.heap.size u3 w9) := keepsB BX8.out (by omega) hk9 (fun b hb => (HF4.out b hb).1)
    have HV9 : Hid (OwnS w9 u4.heap.size (.slice ag ng cg) Q) := OwnS.keeps HVg8.out hk9 (fun b hb hb' => by have h1 := HFg.out b hb; have h2 := HF4.out b hb'; omega)
    have HC9 : Hid (Cells w9 w5.heap.size #[.int .i64 R, .int .i64 N, .int .i64 Z, .slice ag ng cg].toList) := HCg8.out.keeps hk9 (fun hb => by have h2 := HF4.out _ hb; omega)
    have hs9 : u.heap.size ≤ w9.heap.size := hk9.size
    clear hk9 BX8 HV8 HVg8 HCg8 HF4
    have q0 := HC9.out 0 _ rfl
    have q1 := HC9.out 1 _ rfl
    have q2 := HC9.out 2 _ rfl
    have q3 := HC9.out 3 _ rfl
    have p0 := (HX.out w9 BX9.out).1 0 _ rfl
    have p1 := (HX.out w9 BX9.out).1 1 _ rfl
    have p2 := (HX.out w9 BX9.out).1 2 _ rfl
    have p3 := (HX.out w9 BX9.out).1 3 _ rfl
    go_wp2_with fail
    clear q0 q1 q2 q3 p0 p1 p2 p3
    refine (HEr.out _ _ _ (HSee.out _ HV9.out) (HX.out _ BX9.out).2).mono ?_
    rintro e w10 ⟨rfl, b10⟩
    have BX10 : Hid (Below u3.heap.size u3 w10) := BX9.out.trans (b10.mono BX9.out.size)
    have HV10 : Hid (OwnS w10 u4.heap.size (.slice ag ng cg) Q) := OwnS.below HV9.out b10
    have HC10 : Hid (Cells w10 w5.heap.size #[.int .i64 R, .int .i64 N, .int .i64 Z, .slice ag ng cg].toList) := HC9.out.below b10
    have hs10 : w9.heap.size ≤ w10.heap.size := b10.size
    clear b10 BX9 HV9 HC9
    have q0 := HC10.out 0 _ rfl
    have q1 := HC10.out 1 _ rfl
    have q2 := HC10.out 2 _ rfl
    have q3 := HC10.out 3 _ rfl
    go_wp2_with fail
    clear q0 q1 q2 q3
    refine (HMk.out w10 _ HV10.out).mono ?_
    rintro e w11 ⟨rfl, hv11, hk11⟩
    have BX11 : Hid (Below u3.heap.size u3 w11) := keepsB BX10.out (by omega) hk11 (fun b hb => by have := HFg.out b hb; omega)
    have HV11 : Hid (MarS w11 u4.heap.size (.slice ag ng cg) Q) := hv11
    have HC11 : Hid (Cells w11 w5.heap.size #[.int .i64 R, .int .i64 N, .int .i64 Z, .slice ag ng cg].toList) := HC10.out.keeps hk11 (fun hb => by have h2 := HFg.out _ hb; omega)
    have hkn : ((E : Int) != (E : Int)) = false := by simp
    clear hv11 hk11 BX10 HV10 HC10
    have q0 := HC11.out 0 _ rfl
    have q1 := HC11.out 1 _ rfl
    have q2 := HC11.out 2 _ rfl
    have q3 := HC11.out 3 _ rfl
    go_wp2_with fail
    clear q0 q1 q2 q3
    refine (HHk.out w11 _ HV11.out).mono ?_
    rintro e w12 ⟨rfl, b12⟩
    have BX12 : Hid (Below u3.heap.size u3 w12) := BX11.out.trans (b12.mono BX11.out.size)
    have HV12 : Hid (MarS w12 u4.heap.size (.slice ag ng cg) Q) := MarS.below HV11.out b12
    have HC12 : Hid (Cells w12 w5.heap.size #[.int .i64 R, .int .i64 N, .int .i64 Z, .slice ag ng cg].toList) := HC11.out.below b12
    have BW12 : Hid (Below (w.alloc (.cells #[.int .i64 size, .slice a ps.length c] 24)).heap.size (w.alloc (.cells #[.int .i64 size, .slice a ps.length c] 24)) w12) := BU3.out.trans (BX12.out.mono BU3.out.size)
    obtain ⟨a0, a1⟩ := HA.out _ BW12.out
    clear b12 BX11 HV11 HC11
    go_wp2_with fail
    clear a0 a1
    refine (HU.out _ (H0.out _ BW12.out)).mono ?_
    rintro e w13 ⟨g13, P13, rfl, o13, m13, b13⟩
    have S13 : Hid (SeeP w13 (.slice (some ⟨g13, 0, none⟩) ps.length ps.length) ps) := by have := o13.see; rw [m13] at this; exact this
    have HB13 : Hid (Below w12.heap.size w12 w13) := b13
    clear o13 m13 b13
    go_wp2_with fail
    refine (HIm.out w13 _ S13.out).mono ?_
    rintro e w14 ⟨vh, Qh, rfl, oh, mh, b14⟩
    obtain ⟨ah, nh, ch, hvh⟩ := OwnS.form oh
    obtain ⟨u14, hu14⟩ : ∃ u, u = w14.alloc (.cells #[.int .i64 R, .int .i64 N, .int .i64 Z, vh] 30) := ⟨_, rfl⟩
    have HU14 : Hid (u14 = w14.alloc (.cells #[.int .i64 R, .int .i64 N, .int .i64 Z, vh] 30)) := hu14
    have hb14 : Below w12.heap.size w12 u14 := by rw [hu14]; exact (HB13.out.trans (b14.mono HB13.out.size)).alloc (Nat.le_trans HB13.out.size b14.size) _
    have HSh : Hid (SeeP u14 vh M) := by rw [hu14]; have := OwnS.see (OwnS.below oh (bnewK w14 (.cells #[.int .i64 R, .int .i64 N, .int .i64 Z, vh] 30))); rw [mh] at this; exact this
    have HCh : Cells u14 w14.heap.size #[.int .i64 R, .int .i64 N, .int .i64 Z, vh].toList := by rw [hu14]; exact Cells.new _ _ _
    have BX14 : Hid (Below u3.heap.size u3 u14) := BX12.out.trans (hb14.mono BX12.out.size)
    have HV14 : Hid (MarS u14 u4.heap.size (.slice ag ng cg) Q) := MarS.below HV12.out hb14
    have HC14 : Hid (Cells u14 w5.heap.size #[.int .i64 R, .int .i64 N, .int .i64 Z, .slice ag ng cg].toList) := HC12.out.below hb14
    have hq := fun j x => HCh j x
    have hp := fun j x => (HX.out u14 BX14.out).1 j x
    rw [hu14] at hq hp
    subst hvh
    have q0 := hq 0 _ rfl
    have q1 := hq 1 _ rfl
    have q2 := hq 2 _ rfl
    have q3 := hq 3 _ rfl
    have p0 := hp 0 _ rfl
    have p1 := hp 1 _ rfl
    have p2 := hp 2 _ rfl
    have p3 := hp 3 _ rfl
    clear hu14 oh b14 hb14 HV12 HC12 BX12 S13 HB13 BW12 hq hp HCh mh
    go_wp2_with fail
    rw [← HU14.out]
    clear HU14 q0 q1 q2 q3 p0 p1 p2 p3
    refine (HEr.out u14 _ _ HSh.out (HX.out u14 BX14.out).2).mono ?_
    rintro e w15 ⟨rfl, b15⟩
    have BX15 : Hid (Below u3.heap.size u3 w15) := BX14.out.trans (b15.mono BX14.out.size)
    have HV15 : Hid (MarS w15 u4.heap.size (.slice ag ng cg) Q) := MarS.below HV14.out b15
    have HC15 : Hid (Cells w15 w5.heap.size #[.int .i64 R, .int .i64 N, .int .i64 Z, .slice ag ng cg].toList) := HC14.out.below b15
    clear b15 HV14 HC14 BX14 HSh
    have q0 := HC15.out 0 _ rfl
    have q1 := HC15.out 1 _ rfl
    have q2 := HC15.out 2 _ rfl
    have q3 := HC15.out 3 _ rfl
    go_wp2_with fail
    clear q0 q1 q2 q3
    refine (HHk.out w15 _ HV15.out).mono ?_
    rintro e w16 ⟨rfl, b16⟩
    have BW16 : Hid (Below w.heap.size w w16) := H0.out _ ((BU3.out.trans (BX15.out.mono BU3.out.size)).trans (b16.mono (Nat.le_trans BU3.out.size BX15.out.size)))
    clear b16 BX15 HV15 HC15
    go_wp2
    go_ret
    exact ⟨rfl, BW16.out⟩
end Go.Proofs.Ytdohpfckiahlcaa
