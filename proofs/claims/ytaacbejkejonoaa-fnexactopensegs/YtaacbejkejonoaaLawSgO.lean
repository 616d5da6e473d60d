/-
  The exact law of OpenSegs answers true at every size and list; nothing that was there is turned.
-/
import Derived.Test.YtaacbejkejonoaaSgPcOpen
import Derived.Test.YtaacbejkejonoaaSgAns
namespace Go.Proofs.Ytaacbejkejonoaa
open Go.RowKit Go.Extern.Stop Go.Stop Go.Extern Num Go.Lib

set_option maxRecDepth 100000 in
set_option maxHeartbeats 2000000 in
theorem lawSgO_any (w : World) (size : Int) (v : Value) (l : List Int) (h : SeeI w v l) :
    Calls Try.prog 3 #[.int .i64 size, v] w fun e w' => e = .returned (.bool true) ∧ Below w.heap.size w w' := by
  have HT : Hid (∀ u, Below w.heap.size w u → SeeI u v l) := fun u hu => h.below hu
  obtain ⟨a, c, rfl, -⟩ := id h
  by_cases hl : (1048576 : Int) < (l.length : Int)
  · clear h
    go_enter Try.func3, Try.ntmps3
    go_wp2
    go_ret
    exact ⟨rfl, Below.refl _ _⟩
  have hl' : l.length ≤ 1048576 := by omega
  obtain ⟨R, hR⟩ : ∃ R : Int, R = openC size l := ⟨_, rfl⟩
  obtain ⟨Z, hZ⟩ : ∃ Z : Int, Z = openZ size l := ⟨_, rfl⟩
  obtain ⟨M, hM⟩ : ∃ M, M = openQ size l := ⟨_, rfl⟩
  have HMs : Hid (SmallS M) := by show SmallS M; rw [hM]; exact openQ_small size l
  have HU : Hid (∀ u, Below w.heap.size w u → Calls Try.prog 6 #[.slice a l.length c] u fun e w' => ∃ g, e = .returned (.slice (some ⟨g, 0, none⟩) l.length l.length) ∧ w'.ownsRow u.heap.size 2 1 (.slice (some ⟨g, 0, none⟩) l.length l.length) l.length (cellsI l) ∧ Below u.heap.size u w') := fun u hu => toI_any _ l u hl' (HT.out u hu)
  have HSp : Hid (∀ (u : World) (x : Value), SeeI u x l → Calls Try.prog 5 #[.int .i64 size, x] u fun e w' => AnsS R 0 Z M u e w') := fun u x hx => by rw [hR, hZ, hM]; exact specOs_any size x l u hl' hx
  have HIm : Hid (∀ (u : World) (x : Value) (B : Nat), u.ownsRow B 2 1 x l.length (cellsI l) → Calls Try.prog 7 #[.int .i64 size, x] u fun e w' => AnsS R 0 Z M u e w') := fun u x B hx => by rw [hR, hZ, hM]; exact implOs_any size x l B u hl' hx
  have HEq : Hid (∀ (u : World) (x y : Value), SeeI u x l → SeeI u y l → Calls Try.prog 9 #[x, y] u fun e w' => e = .returned (.bool true) ∧ Below u.heap.size u w') := fun u x y hx hy => eqI_see x y l u hl' hx hy
  have HEr : Hid (∀ (u : World) (x y : Value), SeeP u x M → SeeP u y M → Calls Try.prog 8 #[srV R 0 Z x, srV R 0 Z y] u fun e w' => e = .returned (.bool true) ∧ Below u.heap.size u w') := fun u x y hx hy => eqSr_see R 0 Z x y M u HMs.out hx hy
  have HMkA : Hid (∀ (u : World) (g B : Nat), u.ownsRow B 2 1 (.slice (some ⟨g, 0, none⟩) l.length l.length) l.length (cellsI l) → Calls Try.prog 10 #[.slice (some ⟨g, 0, none⟩) l.length l.length, .int .i64 1] u fun e w' => ∃ E : Nat, e = .returned (.int .i64 (E : Int)) ∧ u.grownBy w' (some g)) := fun u g B ho => (markIS_some g l.length B 1 l u hl' (by omega) ho).mono fun e w' ⟨h1, _, h3⟩ => ⟨_, h1, h3⟩
  clear h hR hZ hM hl'
  go_enter Try.func3, Try.ntmps3
  go_wp2_with fail
  refine (HU.out _ (Below.refl _ _)).mono ?_
  rintro e w2 ⟨g2, rfl, o2, b2⟩
  have HS2 : Hid (SeeI w2 (.slice (some ⟨g2, 0, none⟩) l.length l.length) l) := seeI_own o2
  have B2 : Hid (Below w.heap.size w w2) := b2
  clear o2 b2
  go_wp2_with fail
  refine (HSp.out w2 _ HS2.out).mono ?_
  rintro e w3 ⟨vw, Pw, rfl, ow, mw, b3⟩
  have B3 : Hid (Below w.heap.size w w3) := B2.out.trans (b3.mono B2.out.size)
  obtain ⟨aw, nw, cw, rfl⟩ := OwnS.form ow
  have hsw : SeeP w3 (.slice aw nw cw) M := by have := OwnS.see ow; rw [mw] at this; exact this
  obtain ⟨u3, hu3⟩ : ∃ u, u = w3.alloc (.cells #[.int .i64 R, .int .i64 0, .int .i64 Z, .slice aw nw cw] 27) := ⟨_, rfl⟩
  have HU3 : Hid (u3 = w3.alloc (.cells #[.int .i64 R, .int .i64 0, .int .i64 Z, .slice aw nw cw] 27)) := hu3
  have hs3 : w3.heap.size < u3.heap.size := by rw [hu3]; simp
  have BU3 : Hid (Below w.heap.size w u3) := by rw [hu3]; exact B3.out.alloc B3.out.size _
  have HX : Hid (∀ u, Below u3.heap.size u3 u → Cells u w3.heap.size #[.int .i64 R, .int .i64 0, .int .i64 Z, .slice aw nw cw].toList ∧ SeeP u (.slice aw nw cw) M) := fun u hu => by
    rw [hu3] at hu
    exact ⟨(Cells.new w3 _ _).below hu, (hsw.below (bnewK _ _)).below hu⟩
  clear hu3 hsw b3 B2 HS2 ow mw
  go_wp2_with fail
  rw [← HU3.out]
  clear HU3
  refine (HU.out _ BU3.out).mono ?_
  rintro e w4 ⟨g4, rfl, o4, b4⟩
  have hs34 : u3.heap.size ≤ w4.heap.size := b4.size
  have BU4 : Hid (Below u3.heap.size u3 w4) := b4
  have HO4 : Hid (w4.ownsRow u3.heap.size 2 1 (.slice (some ⟨g4, 0, none⟩) l.length l.length) l.length (cellsI l)) := o4
  have HF4 : Hid (u3.heap.size ≤ g4 ∧ g4 < w4.heap.size) := o4.lt g4 rfl
  clear o4 b4
  go_wp2_with fail
  refine (HIm.out w4 _ _ HO4.out).mono ?_
  rintro e w5 ⟨vg, Q, rfl, og, mg, b5⟩
  obtain ⟨ag, ng, cg, hvg⟩ := OwnS.form og
  obtain ⟨u5, hu5⟩ : ∃ u, u = w5.alloc (.cells #[.int .i64 R, .int .i64 0, .int .i64 Z, vg] 27) := ⟨_, rfl⟩
  have HU5 : Hid (u5 = w5.alloc (.cells #[.int .i64 R, .int .i64 0, .int .i64 Z, vg] 27)) := hu5
  have hs5 : w5.heap.size < u5.heap.size := by rw [hu5]; simp
  have hs45 : w4.heap.size ≤ w5.heap.size := b5.size
  have HB5 : Hid (Below w4.heap.size w4 u5) := by rw [hu5]; exact b5.alloc b5.size _
  have HVg : Hid (OwnS u5 w4.heap.size vg Q) := by rw [hu5]; exact OwnS.below og (bnewK _ _)
  have HFg : Hid (∀ b, footP vg Q b → w4.heap.size ≤ b ∧ b < w5.heap.size) := fun b hb => OwnS.foot og hb
  have HCg : Hid (Cells u5 w5.heap.size #[.int .i64 R, .int .i64 0, .int .i64 Z, vg].toList) := by rw [hu5]; exact Cells.new _ _ _
  have BX5 : Hid (Below u3.heap.size u3 u5) := BU4.out.trans (HB5.out.mono BU4.out.size)
  have HMq : Hid (Q.map Prod.fst = M) := mg
  have HSee : Hid (∀ u, OwnS u w4.heap.size vg Q → SeeP u vg M) := fun u hu => by have := OwnS.see hu; rw [HMq.out] at this; exact this
  have HMk : Hid (∀ (u : World) (B : Nat), OwnS u B vg Q → Calls Try.prog 11 #[srV R 0 Z vg, .int .i64 1] u fun e w' => e = .returned (.int .i64 ((endS Q : Nat) : Int)) ∧ MarS w' B vg Q ∧ Keeps (footP vg Q) u w') := fun u B h => markSr_any R 0 Z vg Q B u (by rw [HMq.out]; exact HMs.out) h
  have HHk : Hid (∀ (u : World) (B : Nat), MarS u B vg Q → Calls Try.prog 12 #[srV R 0 Z vg, .int .i64 1] u fun e w' => e = .returned (.int .i64 ((endS Q : Nat) : Int)) ∧ Below u.heap.size u w') := fun u B h => heldSr_any R 0 Z vg Q B u (by rw [HMq.out]; exact HMs.out) h
  have hEb : endS Q ≤ 2000000 := by have := HMs.out.all; rw [← HMq.out] at this; unfold endS totP; omega
  obtain ⟨E, hE⟩ : ∃ E, E = endS Q := ⟨_, rfl⟩
  rw [← hE] at HMk HHk hEb
  have hq := fun j x => HCg.out j x
  have hp := fun j x => (HX.out u5 BX5.out).1 j x
  rw [hu5] at hq hp
  subst hvg
  have q0 := hq 0 _ rfl
  have q1 := hq 1 _ rfl
  have q2 := hq 2 _ rfl
  have q3 := hq 3 _ rfl
  have p0 := hp 0 _ rfl
  have p1 := hp 1 _ rfl
  have p2 := hp 2 _ rfl
  have p3 := hp 3 _ rfl
  clear hu5 og b5 hE hq hp mg
  go_wp2_with fail
  rw [← HU5.out]
  clear HU5 q0 q1 q2 q3 p0 p1 p2 p3
  refine (HEr.out u5 _ _ (HSee.out _ HVg.out) (HX.out u5 BX5.out).2).mono ?_
  rintro e w6 ⟨rfl, b6⟩
  have BW6 : Hid (Below w.heap.size w w6) := (BU3.out.trans (BX5.out.mono BU3.out.size)).trans (b6.mono (Nat.le_trans BU3.out.size BX5.out.size))
  have B46 : Hid (Below w4.heap.size w4 w6) := HB5.out.trans (b6.mono HB5.out.size)
  have B56 : Hid (Below u5.heap.size u5 w6) := b6
  clear b6
  go_wp2_with fail
  refine (HU.out _ BW6.out).mono ?_
  rintro e w7 ⟨g7, rfl, o7, b7⟩
  have HS7 : Hid (SeeI w7 (.slice (some ⟨g7, 0, none⟩) l.length l.length) l) := seeI_own o7
  have B47 : Hid (Below w4.heap.size w4 w7) := B46.out.trans (b7.mono B46.out.size)
  have B57 : Hid (Below u5.heap.size u5 w7) := B56.out.trans (b7.mono B56.out.size)
  clear o7 b7 B46 B56 BW6
  go_wp2_with fail
  refine (HEq.out w7 _ _ (seeI_own (own_below HO4.out B47.out)) HS7.out).mono ?_
  rintro e w8 ⟨rfl, b8⟩
  have HO8 : Hid (w8.ownsRow u3.heap.size 2 1 (.slice (some ⟨g4, 0, none⟩) l.length l.length) l.length (cellsI l)) := own_below (own_below HO4.out B47.out) b8
  have B58 : Hid (Below u5.heap.size u5 w8) := B57.out.trans (b8.mono B57.out.size)
  have HV8 : Hid (OwnS w8 w4.heap.size (.slice ag ng cg) Q) := OwnS.below HVg.out B58.out
  have HC8 : Hid (Cells w8 w5.heap.size #[.int .i64 R, .int .i64 0, .int .i64 Z, .slice ag ng cg].toList) := HCg.out.below B58.out
  have BX8 : Hid (Below u3.heap.size u3 w8) := BX5.out.trans (B58.out.mono BX5.out.size)
  have hs8 : u5.heap.size ≤ w8.heap.size := B58.out.size
  clear b8 B47 B57 HS7
  go_wp2_with fail
  refine (HMkA.out w8 _ _ HO8.out).mono ?_
  rintro e w9 ⟨E4, rfl, hg9⟩
  have hk9 : Keeps (fun b => b = g4) w8 w9 := (Keeps.refl _ _).grown hg9 (fun g hg => by injection hg with hg; exact hg.symm)
  have BX9 : Hid (Below u3.heap.size u3 w9) := keepsB BX8.out (by omega) hk9 (fun b hb => by rw [hb]; exact HF4.out.1)
  have HV9 : Hid (OwnS w9 w4.heap.size (.slice ag ng cg) Q) := OwnS.keeps HV8.out hk9 (fun b hb hb' => by have h1 := HFg.out b hb; have h2 := HF4.out.2; omega)
  have HC9 : Hid (Cells w9 w5.heap.size #[.int .i64 R, .int .i64 0, .int .i64 Z, .slice ag ng cg].toList) := HC8.out.keeps hk9 (fun hb => by have h2 := HF4.out.2; omega)
  have hs9 : w8.heap.size ≤ w9.heap.size := hk9.size
  clear hk9 hg9 BX8 HV8 HC8 HO8
  have q0 := HC9.out 0 _ rfl
  have q1 := HC9.out 1 _ rfl
  have q2 := HC9.out 2 _ rfl
  have q3 := HC9.out 3 _ rfl
  have p0 := (HX.out w9 BX9.out).1 0 _ rfl
  have p1 := (HX.out w9 BX9.out).1 1 _ rfl
  have p2 := (HX.out w9 BX9.out).1 2 _ rfl
  have p3 := (HX.out w9 BX9.out).1 3 _ rfl
  go_wp2_with fail
  clear q0 q1 q2 q3 p0 p1 p2 p3
  refine (HEr.out _ _ _ (HSee.out _ HV9.out) (HX.out _ BX9.out).2).mono ?_
  rintro e w10 ⟨rfl, b10⟩
  have BX10 : Hid (Below u3.heap.size u3 w10) := BX9.out.trans (b10.mono BX9.out.size)
  have HV10 : Hid (OwnS w10 w4.heap.size (.slice ag ng cg) Q) := OwnS.below HV9.out b10
  have HC10 : Hid (Cells w10 w5.heap.size #[.int .i64 R, .int .i64 0, .int .i64 Z, .slice ag ng cg].toList) := HC9.out.below b10
  have hs10 : w9.heap.size ≤ w10.heap.size := b10.size
  clear b10 BX9 HV9 HC9
  have q0 := HC10.out 0 _ rfl
  have q1 := HC10.out 1 _ rfl
  have q2 := HC10.out 2 _ rfl
  have q3 := HC10.out 3 _ rfl
  go_wp2_with fail
  clear q0 q1 q2 q3
  refine (HMk.out w10 _ HV10.out).mono ?_
  rintro e w11 ⟨rfl, hv11, hk11⟩
  have BX11 : Hid (Below u3.heap.size u3 w11) := keepsB BX10.out (by omega) hk11 (fun b hb => by have := HFg.out b hb; omega)
  have HV11 : Hid (MarS w11 w4.heap.size (.slice ag ng cg) Q) := hv11
  have HC11 : Hid (Cells w11 w5.heap.size #[.int .i64 R, .int .i64 0, .int .i64 Z, .slice ag ng cg].toList) := HC10.out.keeps hk11 (fun hb => by have h2 := HFg.out _ hb; omega)
  have hkn : ((E : Int) != (E : Int)) = false := by simp
  clear hv11 hk11 BX10 HV10 HC10
  have q0 := HC11.out 0 _ rfl
  have q1 := HC11.out 1 _ rfl
  have q2 := HC11.out 2 _ rfl
  have q3 := HC11.out 3 _ rfl
  go_wp2_with fail
  clear q0 q1 q2 q3
  refine (HHk.out w11 _ HV11.out).mono ?_
  rintro e w12 ⟨rfl, b12⟩
  have BX12 : Hid (Below u3.heap.size u3 w12) := BX11.out.trans (b12.mono BX11.out.size)
  have HV12 : Hid (MarS w12 w4.heap.size (.slice ag ng cg) Q) := MarS.below HV11.out b12
  have HC12 : Hid (Cells w12 w5.heap.size #[.int .i64 R, .int .i64 0, .int .i64 Z, .slice ag ng cg].toList) := HC11.out.below b12
  have BW12 : Hid (Below w.heap.size w w12) := BU3.out.trans (BX12.out.mono BU3.out.size)
  clear b12 BX11 HV11 HC11
  go_wp2_with fail
  refine (HU.out _ BW12.out).mono ?_
  rintro e w13 ⟨g13, rfl, o13, b13⟩
  have HO13 : Hid (w13.ownsRow w12.heap.size 2 1 (.slice (some ⟨g13, 0, none⟩) l.length l.length) l.length (cellsI l)) := o13
  have HB13 : Hid (Below w12.heap.size w12 w13) := b13
  clear o13 b13
  go_wp2_with fail
  refine (HIm.out w13 _ _ HO13.out).mono ?_
  rintro e w14 ⟨vh, Qh, rfl, oh, mh, b14⟩
  obtain ⟨ah, nh, ch, hvh⟩ := OwnS.form oh
  obtain ⟨u14, hu14⟩ : ∃ u, u = w14.alloc (.cells #[.int .i64 R, .int .i64 0, .int .i64 Z, vh] 27) := ⟨_, rfl⟩
  have HU14 : Hid (u14 = w14.alloc (.cells #[.int .i64 R, .int .i64 0, .int .i64 Z, vh] 27)) := hu14
  have hb14 : Below w12.heap.size w12 u14 := by rw [hu14]; exact (HB13.out.trans (b14.mono HB13.out.size)).alloc (Nat.le_trans HB13.out.size b14.size) _
  have HSh : Hid (SeeP u14 vh M) := by rw [hu14]; have := OwnS.see (OwnS.below oh (bnewK w14 (.cells #[.int .i64 R, .int .i64 0, .int .i64 Z, vh] 27))); rw [mh] at this; exact this
  have HCh : Cells u14 w14.heap.size #[.int .i64 R, .int .i64 0, .int .i64 Z, vh].toList := by rw [hu14]; exact Cells.new _ _ _
  have BX14 : Hid (Below u3.heap.size u3 u14) := BX12.out.trans (hb14.mono BX12.out.size)
  have HV14 : Hid (MarS u14 w4.heap.size (.slice ag ng cg) Q) := MarS.below HV12.out hb14
  have HC14 : Hid (Cells u14 w5.heap.size #[.int .i64 R, .int .i64 0, .int .i64 Z, .slice ag ng cg].toList) := HC12.out.below hb14
  have hq := fun j x => HCh j x
  have hp := fun j x => (HX.out u14 BX14.out).1 j x
  rw [hu14] at hq hp
  subst hvh
  have q0 := hq 0 _ rfl
  have q1 := hq 1 _ rfl
  have q2 := hq 2 _ rfl
  have q3 := hq 3 _ rfl
  have p0 := hp 0 _ rfl
  have p1 := hp 1 _ rfl
  have p2 := hp 2 _ rfl
  have p3 := hp 3 _ rfl
  clear hu14 oh b14 hb14 HV12 HC12 BX12 HO13 HB13 BW12 hq hp HCh mh
  go_wp2_with fail
  rw [← HU14.out]
  clear HU14 q0 q1 q2 q3 p0 p1 p2 p3
  refine (HEr.out u14 _ _ HSh.out (HX.out u14 BX14.out).2).mono ?_
  rintro e w15 ⟨rfl, b15⟩
  have BX15 : Hid (Below u3.heap.size u3 w15) := BX14.out.trans (b15.mono BX14.out.size)
  have HV15 : Hid (MarS w15 w4.heap.size (.slice ag ng cg) Q) := MarS.below HV14.out b15
  have HC15 : Hid (Cells w15 w5.heap.size #[.int .i64 R, .int .i64 0, .int .i64 Z, .slice ag ng cg].toList) := HC14.out.below b15
  clear b15 HV14 HC14 BX14 HSh
  have q0 := HC15.out 0 _ rfl
  have q1 := HC15.out 1 _ rfl
  have q2 := HC15.out 2 _ rfl
  have q3 := HC15.out 3 _ rfl
  go_wp2_with fail
  clear q0 q1 q2 q3
  refine (HHk.out w15 _ HV15.out).mono ?_
  rintro e w16 ⟨rfl, b16⟩
  have BW16 : Hid (Below w.heap.size w w16) := (BU3.out.trans (BX15.out.mono BU3.out.size)).trans (b16.mono (Nat.le_trans BU3.out.size BX15.out.size))
  clear b16 BX15 HV15 HC15
  go_wp2
  go_ret
  exact ⟨rfl, BW16.out⟩
end Go.Proofs.Ytaacbejkejonoaa
