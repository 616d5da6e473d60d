/-
  The exact law of DepthSegs answers true at every stack; nothing that was there is turned.
-/
import Derived.Test.YtienmmgkiphkdaaSgImplF
import Derived.Test.YtienmmgkiphkdaaSgSpecD
namespace Go.Proofs.Ytienmmgkiphkdaa
open Go.RowKit Go.Extern.Stop Go.Stop Go.Extern Num Go.Lib

theorem eqIR_sg (R N : Int) (u : World) : Calls Try.prog 43 #[IR R N, IR R N] u fun e w' => e = .returned (.bool true) ∧ Below u.heap.size u w' := by
  go_enter Try.func43, Try.ntmps43
  go_wp2
  go_ret
  exact ⟨rfl, by repeat (first | exact Below.refl _ _ | refine Below.alloc ?_ (by simp <;> omega) _ | refine Below.drew ?_)⟩

set_option maxRecDepth 100000 in
set_option maxHeartbeats 2000000 in
theorem lawSgD_any (w : World) (size : Int) (v : Value) (ps : List (List Int)) (ha : AbleP ps) (h : SeeP w v ps) :
    Calls Try.prog 10 #[segV size v] w fun e w' => e = .returned (.bool true) ∧ Below w.heap.size w w' := by
  have HS : Hid (∀ u, Below w.heap.size w u → Calls Try.prog 25 #[segV size v, .int .i64 1048576] u fun e w' => (e = .returned (.int .i64 (-1)) ∨ (∃ q : Nat, q ≤ 1048576 ∧ e = .returned (.int .i64 (q : Int)) ∧ SmallS ps)) ∧ Below u.heap.size u w') := fun u hu => szSegs_any size v ps u ha (h.below hu)
  have HT : Hid (∀ u, Below w.heap.size w u → SeeP u v ps) := fun u hu => h.below hu
  obtain ⟨a, c, rfl, -⟩ := id h
  have HA : Hid (∀ u, Below (w.alloc (.cells #[.int .i64 size, .slice a ps.length c] 45)).heap.size (w.alloc (.cells #[.int .i64 size, .slice a ps.length c] 45)) u → SegAt u w.heap.size size (.slice a ps.length c)) := fun u hu => (SegAt.new w size _ _).below hu
  have H0 : Hid (∀ u, Below (w.alloc (.cells #[.int .i64 size, .slice a ps.length c] 45)).heap.size (w.alloc (.cells #[.int .i64 size, .slice a ps.length c] 45)) u → Below w.heap.size w u) := fun u hu => ((Below.refl _ _).alloc (Nat.le_refl _) _).trans (hu.mono (by simp))
  clear h ha
  go_enter Try.func10, Try.ntmps10
  go_wp2_with fail
  refine (HS.out _ (H0.out _ (Below.refl _ _))).mono ?_
  rintro e w1 ⟨h1, b1⟩
  have B1 : Hid (Below (w.alloc (.cells #[.int .i64 size, .slice a ps.length c] 45)).heap.size (w.alloc (.cells #[.int .i64 size, .slice a ps.length c] 45)) w1) := b1
  clear b1
  rcases h1 with rfl | ⟨q, hq, rfl, hsm⟩
  · go_wp2
    go_ret
    exact ⟨rfl, H0.out _ B1.out⟩
  have HSm : Hid (SmallS ps) := hsm
  obtain ⟨R, hR⟩ : ∃ R : Int, R = faultS size ps := ⟨_, rfl⟩
  obtain ⟨N, hN⟩ : ∃ N : Int, N = if R = 0 then (ps.flatten.length : Int) else 0 := ⟨_, rfl⟩
  have HU : Hid (∀ u, Below w.heap.size w u → Calls Try.prog 27 #[segV size (.slice a ps.length c)] u fun e w' => ∃ g P, e = .returned (segV size (.slice (some ⟨g, 0, none⟩) ps.length ps.length)) ∧ PV 78 w' u.heap.size (.slice (some ⟨g, 0, none⟩) ps.length ps.length) P ∧ P.map Prod.fst = ps ∧ Below u.heap.size u w') := fun u hu => toSegs_any size _ ps u hsm (HT.out u hu)
  have HSp : Hid (∀ (u : World) (x : Value), SeeP u x ps → Calls Try.prog 42 #[segV size x] u fun e w' => e = .returned (IR R N) ∧ Below u.heap.size u w') := fun u x hx => by rw [hN, hR]; exact specDp_seg size x ps u hsm hx
  have HIm : Hid (∀ (u : World) (x : Value), SeeP u x ps → Calls Try.prog 20 #[segV size x] u fun e w' => e = .returned (IR R N) ∧ Below u.heap.size u w') := fun u x hx => by rw [hN, hR]; exact implDp_seg size x ps u hsm hx
  have HEq : Hid (∀ (u : World) (x y : Value), SeeP u x ps → SeeP u y ps → Calls Try.prog 28 #[segV size x, segV size y] u fun e w' => e = .returned (.bool true) ∧ Below u.heap.size u w') := fun u x y hx hy => eqSegs_see size x y ps u hsm hx hy
  clear hsm hR hN
  obtain ⟨a0, a1⟩ := HA.out _ B1.out
  go_wp2_with fail
  refine (HU.out _ (H0.out _ B1.out)).mono ?_
  rintro e w2 ⟨g2, P2, rfl, o2, m2, b2⟩
  have S2 : Hid (SeeP w2 (.slice (some ⟨g2, 0, none⟩) ps.length ps.length) ps) := by have := o2.see; rw [m2] at this; exact this
  have B2 : Hid (Below (w.alloc (.cells #[.int .i64 size, .slice a ps.length c] 45)).heap.size (w.alloc (.cells #[.int .i64 size, .slice a ps.length c] 45)) w2) := B1.out.trans (b2.mono B1.out.size)
  clear o2 m2 b2 a0 a1
  go_wp2_with fail
  refine (HSp.out w2 _ S2.out).mono ?_
  rintro e w3 ⟨rfl, b3⟩
  have B3 : Hid (Below (w.alloc (.cells #[.int .i64 size, .slice a ps.length c] 45)).heap.size (w.alloc (.cells #[.int .i64 size, .slice a ps.length c] 45)) w3) := B2.out.trans (b3.mono B2.out.size)
  obtain ⟨a0, a1⟩ := HA.out _ B3.out
  have hz3 : (w.alloc (.cells #[.int .i64 size, .slice a ps.length c] 45)).heap.size ≤ w3.heap.size := B3.out.size
  have hz3' : w.heap.size < w3.heap.size := by have := hz3; simp at this; omega
  clear b3 B2 S2 hz3
  have E3 : Hid (∀ u, Below (w3.alloc (.cells #[.int .i64 R, .int .i64 N] 40)).heap.size (w3.alloc (.cells #[.int .i64 R, .int .i64 N] 40)) u → u.cell? ⟨w3.heap.size, 0, none⟩ = some (.int .i64 R) ∧ u.cell? ⟨w3.heap.size, 1, none⟩ = some (.int .i64 N)) := fun u hu => ⟨cell_keep hu (by rw [World.cell?_alloc_at _ _ _ _ rfl]; rfl), cell_keep hu (by rw [World.cell?_alloc_at _ _ _ _ rfl]; rfl)⟩
  have HE : Hid (∀ u, Calls Try.prog 43 #[IR R N, IR R N] u fun e w' => e = .returned (.bool true) ∧ Below u.heap.size u w') := fun u => eqIR_sg R N u
  go_wp2_with fail
  refine (HU.out _ (H0.out _ (B3.out.alloc B3.out.size _))).mono ?_
  rintro e w4 ⟨g4, P4, rfl, o4, m4, b4⟩
  have S4 : Hid (SeeP w4 (.slice (some ⟨g4, 0, none⟩) ps.length ps.length) ps) := by have := o4.see; rw [m4] at this; exact this
  have B4 : Hid (Below (w3.alloc (.cells #[.int .i64 R, .int .i64 N] 40)).heap.size (w3.alloc (.cells #[.int .i64 R, .int .i64 N] 40)) w4) := b4
  obtain ⟨u4, hu4⟩ : ∃ u, u = w4.alloc (.cells #[.int .i64 size, .slice (some ⟨g4, 0, none⟩) ps.length ps.length] 26) := ⟨_, rfl⟩
  have HU4 : Hid (u4 = w4.alloc (.cells #[.int .i64 size, .slice (some ⟨g4, 0, none⟩) ps.length ps.length] 26)) := hu4
  have BU4 : Hid (Below (w3.alloc (.cells #[.int .i64 R, .int .i64 N] 40)).heap.size (w3.alloc (.cells #[.int .i64 R, .int .i64 N] 40)) u4) := by rw [hu4]; exact b4.alloc b4.size _
  have BU3 : Hid (Below (w.alloc (.cells #[.int .i64 size, .slice a ps.length c] 45)).heap.size (w.alloc (.cells #[.int .i64 size, .slice a ps.length c] 45)) (w3.alloc (.cells #[.int .i64 R, .int .i64 N] 40))) := B3.out.alloc B3.out.size _
  have HX4 : Hid (∀ u, Below u4.heap.size u4 u → SegAt u w4.heap.size size (.slice (some ⟨g4, 0, none⟩) ps.length ps.length) ∧ SeeP u (.slice (some ⟨g4, 0, none⟩) ps.length ps.length) ps) := fun u hu => by
    rw [hu4] at hu
    exact ⟨(SegAt.new w4 size _ _).below hu, (S4.out.below ((Below.refl _ _).alloc (Nat.le_refl _) _)).below hu⟩
  have BX : Hid (∀ u, Below u4.heap.size u4 u → Below (w3.alloc (.cells #[.int .i64 R, .int .i64 N] 40)).heap.size (w3.alloc (.cells #[.int .i64 R, .int .i64 N] 40)) u ∧ Below (w.alloc (.cells #[.int .i64 size, .slice a ps.length c] 45)).heap.size (w.alloc (.cells #[.int .i64 size, .slice a ps.length c] 45)) u) := fun u hu => by
    have h1 := BU4.out.trans (hu.mono BU4.out.size)
    exact ⟨h1, BU3.out.trans (h1.mono BU3.out.size)⟩
  clear hu4 o4 m4 b4 a0 a1 S4
  go_wp2_with fail
  rw [← HU4.out]
  obtain ⟨⟨c0, c1⟩, hse⟩ := HX4.out u4 (Below.refl _ _)
  have S5 : Hid (SeeP u4 (.slice (some ⟨g4, 0, none⟩) ps.length ps.length) ps) := hse
  clear hse HU4
  go_wp2_with fail
  refine (HIm.out u4 _ S5.out).mono ?_
  rintro e w5 ⟨rfl, b5⟩
  have B5 : Hid (Below u4.heap.size u4 w5) := b5
  clear b5 c0 c1 S5
  obtain ⟨u5, hu5⟩ : ∃ u, u = w5.alloc (.cells #[.int .i64 R, .int .i64 N] 40) := ⟨_, rfl⟩
  have HU5 : Hid (u5 = w5.alloc (.cells #[.int .i64 R, .int .i64 N] 40)) := hu5
  have B55 : Hid (Below u4.heap.size u4 u5) := by rw [hu5]; exact B5.out.alloc B5.out.size _
  have e01 := E3.out u5 (BX.out u5 B55.out).1
  rw [hu5] at e01
  obtain ⟨e0, e1⟩ := e01
  clear hu5
  go_wp2_with fail
  rw [← HU5.out]
  refine (HE.out u5).mono ?_
  rintro e w6 ⟨rfl, b6⟩
  have B6 : Hid (Below u4.heap.size u4 w6) := B55.out.trans (b6.mono B55.out.size)
  clear b6 e0 e1
  go_wp2_with fail
  refine wp_region_facts_all (by kernel_rfl) (fun v => Below w6.heap.size w6 v) (fun u v => Below u.heap.size u v) (fun i v u => match i with | 0 => (fun v u => v = segV size (.slice (some ⟨g4, 0, none⟩) ps.length ps.length)) v u | 1 => (fun v u => v = segV size (.slice a ps.length c)) v u | 2 => (fun v u => ∃ x, v = segV size x ∧ SeeP u x ps) v u | 3 => (fun v u => v = .bool true) v u | 4 => (fun v u => v = .bool false) v u | _ => True) (by kernel_rfl) [0, 1, 2, 3, 4] (by kernel_rfl) ?b0 ?bk ?fk ⟨?s0, ?s1, ?s2, ?s3, ?s4, trivial⟩ [(0, some 23), (1, some 24), (2, some 25), (3, some 26), (4, some 27)] (by kernel_rfl) ?last
  case b0 => exact Below.drew (Below.refl _ _)
  case bk => exact fun u v h hb => h.trans (hb.mono h.size)
  case fk => intro i v u u' h hb; match i, h with | 0, h => exact (h) | 1, h => exact (h) | 2, h => exact (let ⟨x, e, o⟩ := h; ⟨x, e, o.below hb⟩) | 3, h => exact (h) | 4, h => exact (h) | _ + 5, _ => exact trivial
  case s0 =>
    refine StepF.of rfl [] (by kernel_rfl) ?_
    intro vs u hB hf K hK
    clear hf
    simp only [putsA, List.foldl_nil, Act.put, List.setIfInBounds_toArray] at hK ⊢
    rw [if_pos (by rfl)]
    obtain ⟨⟨c0', c1'⟩, -⟩ := HX4.out u (B6.out.trans (hB.mono B6.out.size))
    go_simp
    exact hK.out _ _ (Below.refl _ _) rfl
  case s1 =>
    refine StepF.of rfl [] (by kernel_rfl) ?_
    intro vs u hB hf K hK
    clear hf
    simp only [putsA, List.foldl_nil, Act.put, List.setIfInBounds_toArray] at hK ⊢
    rw [if_pos (by rfl)]
    obtain ⟨c0', c1'⟩ := HA.out u (BX.out _ (B6.out.trans (hB.mono B6.out.size))).2
    go_simp
    exact hK.out _ _ (Below.refl _ _) rfl
  case s2 =>
    refine StepF.of rfl [(1, some 24)] (by kernel_rfl) ?_
    intro vs u hB hf K hK
    have f1 : (fun v u => v = segV size (.slice a ps.length c)) (vs 1) u := hf.1
    clear hf
    simp only [putsA, List.foldl_cons, List.foldl_nil, Act.put, List.setIfInBounds_toArray, List.set_cons_zero, List.set_cons_succ] at hK ⊢
    generalize vs 1 = v1 at f1 hK ⊢
    rw [if_pos (by rfl)]
    subst f1
    go_simp
    refine (HU.out u (H0.out _ (BX.out _ (B6.out.trans (hB.mono B6.out.size))).2)).mono ?_
    rintro e w8 ⟨g8, P8, rfl, o8, m8, b8⟩
    exact hK.out _ _ b8 ⟨_, rfl, by have := o8.see; rw [m8] at this; exact this⟩
  case s3 =>
    refine StepF.of rfl [(0, some 23), (2, some 25)] (by kernel_rfl) ?_
    intro vs u hB hf K hK
    have f0 : (fun v u => v = segV size (.slice (some ⟨g4, 0, none⟩) ps.length ps.length)) (vs 0) u := hf.1
    have f2 : (fun v u => ∃ x, v = segV size x ∧ SeeP u x ps) (vs 2) u := hf.2.1
    clear hf
    simp only [putsA, List.foldl_cons, List.foldl_nil, Act.put, List.setIfInBounds_toArray, List.set_cons_zero, List.set_cons_succ] at hK ⊢
    generalize vs 0 = v0 at f0 hK ⊢
    generalize vs 2 = v2 at f2 hK ⊢
    rw [if_pos (by rfl)]
    subst f0
    obtain ⟨x, rfl, hx⟩ := f2
    obtain ⟨ax, cx, rfl, -⟩ := id hx
    go_simp
    refine (HEq.out u _ _ (HX4.out u (B6.out.trans (hB.mono B6.out.size))).2 hx).mono ?_
    rintro e w8 ⟨rfl, b8⟩
    exact hK.out _ _ b8 rfl
  case s4 =>
    refine StepF.of rfl [(3, some 26)] (by kernel_rfl) ?_
    intro vs u hB hf K hK
    have f3 : (fun v u => v = .bool true) (vs 3) u := hf.1
    clear hf
    simp only [putsA, List.foldl_cons, List.foldl_nil, Act.put, List.setIfInBounds_toArray, List.set_cons_zero, List.set_cons_succ] at hK ⊢
    generalize vs 3 = v3 at f3 hK ⊢
    rw [if_pos (by rfl)]
    subst f3
    go_simp
    exact hK.out _ _ (Below.refl _ _) rfl
  case last =>
    intro vs u hB hf
    have f0 : (fun v u => v = segV size (.slice (some ⟨g4, 0, none⟩) ps.length ps.length)) (vs 0) u := hf.1
    have f1 : (fun v u => v = segV size (.slice a ps.length c)) (vs 1) u := hf.2.1
    have f2 : (fun v u => ∃ x, v = segV size x ∧ SeeP u x ps) (vs 2) u := hf.2.2.1
    have f3 : (fun v u => v = .bool true) (vs 3) u := hf.2.2.2.1
    have f4 : (fun v u => v = .bool false) (vs 4) u := hf.2.2.2.2.1
    clear hf
    simp only [putsA, List.foldl_cons, List.foldl_nil, Act.put, List.setIfInBounds_toArray, List.set_cons_zero, List.set_cons_succ]
    generalize vs 0 = v0 at f0 ⊢
    generalize vs 1 = v1 at f1 ⊢
    generalize vs 2 = v2 at f2 ⊢
    generalize vs 3 = v3 at f3 ⊢
    generalize vs 4 = v4 at f4 ⊢
    subst f0
    subst f1
    subst f3
    subst f4
    obtain ⟨x, rfl, -⟩ := f2
    have HBl : Hid (Below w.heap.size w u) := H0.out _ (BX.out _ (B6.out.trans (hB.mono B6.out.size))).2
    clear hB
    go_simp
    go_wp2
    go_ret
    exact ⟨rfl, HBl.out⟩
end Go.Proofs.Ytienmmgkiphkdaa
