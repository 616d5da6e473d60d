/-
  The law FnResizes answers true at all bytes: a stack of pieces of another size has the same items; nothing that was there is turned.
-/
import Derived.Test.YtienmmgkiphkdaaSgNums
import Derived.Test.YtienmmgkiphkdaaDrawSg2
namespace Go.Proofs.Ytienmmgkiphkdaa
open Go.RowKit Go.Extern.Stop Go.Stop Go.Extern Num Go.Lib

theorem res_res {size x : Int} {ps : List (List Int)} (h : resC size ps x = 0) :
    faultS size ps = 0 ∧ resZ size ps x = x ∧ resQ size ps x = openL x.toNat ps.flatten ∧ openC x ps.flatten = 0 ∧ openZ x ps.flatten = x ∧ openQ x ps.flatten = openL x.toNat ps.flatten ∧ faultS x (openL x.toNat ps.flatten) = 0 ∧ (openL x.toNat ps.flatten).flatten = ps.flatten ∧ resC x (openL x.toNat ps.flatten) size = 0 ∧ resZ x (openL x.toNat ps.flatten) size = size ∧ resQ x (openL x.toNat ps.flatten) size = ps ∧ popC x [] = 4 := by
  obtain ⟨hf, ho⟩ := resC_zero h
  have hF := openL_fineS ho
  obtain ⟨o1, o2, o3⟩ := openC_zero ho
  obtain ⟨k1, k2⟩ := openL_both x.toNat (by omega) ps.flatten
  have hlo := hf.lo
  have hhi := hf.hi
  have hc : openC size ps.flatten = 0 := by
    unfold openC
    rw [if_pos (by unfold sizeB; simp; omega), if_neg (by have := hf.many; omega)]
  have h5 : resC x (openL x.toNat ps.flatten) size = 0 := by
    unfold resC; rw [if_pos hF.fault, k2]; exact hc
  have h6 : faultS x [] = 0 := by
    unfold faultS
    rw [if_pos (by unfold sizeB; simp; omega)]
    simp [okS]
  refine ⟨hf.fault, ?_, ?_, ho, ?_, ?_, hF.fault, k2, h5, ?_, ?_, ?_⟩
  · unfold resZ; rw [if_pos h]
  · unfold resQ; rw [if_pos h]
  · unfold openZ; rw [if_pos ho]
  · unfold openQ; rw [if_pos ho]
  · unfold resZ; rw [if_pos h5]
  · unfold resQ; rw [if_pos h5, k2]; exact openL_of (by omega) hf.parts
  · unfold popC; rw [if_pos h6]; simp
set_option maxRecDepth 100000 in
set_option maxHeartbeats 2000000 in
theorem lawResizes_any (w : World) (ca0 : Option Addr) (len cap : Nat) (h : Bytes w ca0 len) (hmax : (len : Int) ≤ 9223372036854775807) :
    Calls Try.prog 4 #[.slice ca0 len cap] w fun e w' => e = .returned (.bool true) ∧ Below w.heap.size w w' := by
  have HBy : Hid (Bytes w ca0 len) := h
  clear h
  go_enter Try.func4, Try.ntmps4
  go_wp2_with fail
  refine (big_any _ ca0 len cap).mono ?_
  rintro e w0 ⟨t, rfl, e1⟩
  replace e1 := e1.symm
  subst e1
  cases t with
  | true =>
    go_wp2
    go_ret
    exact ⟨rfl, Below.refl _ _⟩
  | false =>
  go_wp2_with fail
  refine (drawRes_any _ ca0 len cap HBy.out hmax).mono ?_
  rintro e w1 ⟨size, v, ps, x, rfl, hv, hsm, b1⟩
  have HSm : Hid (SmallS ps) := hsm
  obtain ⟨a, c, hvE, -⟩ := id hv
  obtain ⟨m, hm⟩ : ∃ m, m = ps.length := ⟨_, rfl⟩
  have HM : Hid (m = ps.length) := hm
  rw [← hm] at hvE
  subst hvE
  obtain ⟨u1, hu1⟩ : ∃ u, u = w1.alloc (.cells #[.int .i64 size, .slice a m c] 26) := ⟨_, rfl⟩
  have HU1 : Hid (u1 = w1.alloc (.cells #[.int .i64 size, .slice a m c] 26)) := hu1
  have HS1 : Hid (∀ u, Below u1.heap.size u1 u → SegAt u w1.heap.size size (.slice a m c) ∧ SeeP u (.slice a m c) ps) := fun u hu => by
    rw [hu1] at hu
    exact ⟨(SegAt.new w1 _ _ _).below hu, (hv.below (bnewK _ _)).below hu⟩
  have B1 : Hid (Below w.heap.size w u1) := by rw [hu1]; exact b1.alloc b1.size _
  have hz1 : w1.heap.size < u1.heap.size := by rw [hu1]; simp
  have hmb : m ≤ 1048576 := by rw [hm]; exact hsm.len
  obtain ⟨C, hC⟩ : ∃ C, C = resC size ps x := ⟨_, rfl⟩
  obtain ⟨Z, hZ⟩ : ∃ Z, Z = resZ size ps x := ⟨_, rfl⟩
  obtain ⟨Q, hQ⟩ : ∃ Q, Q = resQ size ps x := ⟨_, rfl⟩
  have HQs : Hid (SmallS Q) := by show SmallS Q; rw [hQ]; exact resQ_small size ps x
  have HIp : Hid (∀ u, Below u1.heap.size u1 u → Calls Try.prog 22 #[segV size (.slice a m c), .int .i64 x] u fun e w' => AnsS C 0 Z Q u e w') := fun u hu => by rw [hC, hZ, hQ]; exact implRe_any size _ ps x u hsm (HS1.out u hu).2
  have HSp : Hid (∀ u, Below u1.heap.size u1 u → Calls Try.prog 23 #[segV size (.slice a m c), .int .i64 x] u fun e w' => AnsS C 0 Z Q u e w') := fun u hu => by rw [hC, hZ, hQ]; exact specRe_any size _ ps x u hsm (HS1.out u hu).2
  have HRR : Hid (C = 0 → resC size ps x = 0) := fun h0 => by rw [← hC]; exact h0
  have HZe : Hid (Z = resZ size ps x) := hZ
  have HQe : Hid (Q = resQ size ps x) := hQ
  obtain ⟨s0, s1⟩ := (HS1.out u1 (Below.refl _ _)).1
  rw [hu1] at s0 s1
  clear hu1 hv hsm b1 hC hZ hQ hm
  go_wp2_with fail
  rw [← HU1.out]
  clear s0 s1 HU1
  refine (HIp.out u1 (Below.refl _ _)).mono ?_
  rintro e w2 ⟨vr, P, rfl, o2, m2, b2⟩
  obtain ⟨ar, nr, cr, rfl⟩ := OwnS.form o2
  obtain ⟨u2, hu2⟩ : ∃ u, u = w2.alloc (.cells #[.int .i64 C, .int .i64 0, .int .i64 Z, .slice ar nr cr] 30) := ⟨_, rfl⟩
  have HU2 : Hid (u2 = w2.alloc (.cells #[.int .i64 C, .int .i64 0, .int .i64 Z, .slice ar nr cr] 30)) := hu2
  have hsr : SeeP w2 (.slice ar nr cr) Q := by have := OwnS.see o2; rw [m2] at this; exact this
  have HX2 : Hid (∀ u, Below u2.heap.size u2 u → Cells u w2.heap.size #[.int .i64 C, .int .i64 0, .int .i64 Z, .slice ar nr cr].toList ∧ SeeP u (.slice ar nr cr) Q) := fun u hu => by
    rw [hu2] at hu
    exact ⟨(Cells.new w2 _ _).below hu, (hsr.below (bnewK _ _)).below hu⟩
  have B2 : Hid (Below u1.heap.size u1 u2) := by rw [hu2]; exact b2.alloc b2.size _
  have hz2 : w2.heap.size < u2.heap.size := by rw [hu2]; simp
  have hq := fun j y => (HX2.out u2 (Below.refl _ _)).1 j y
  rw [hu2] at hq
  have q0 := hq 0 _ rfl
  obtain ⟨t0, t1⟩ := (HS1.out u2 B2.out).1
  rw [hu2] at t0 t1
  clear hu2 hsr o2 m2 b2 hq
  by_cases hc : C = 0
  · obtain ⟨p1, p2, p3, p4, p5, p6, p7, p8, p9, p10, p11, p12⟩ := res_res (HRR.out hc)
    obtain ⟨F, hF⟩ : ∃ F, F = ps.flatten := ⟨_, rfl⟩
    have hQe : Q = openL x.toNat F := by rw [HQe.out, p3, hF]
    have hZx : x = Z := by rw [HZe.out, p2]
    rw [← hF] at p4 p5 p6 p7 p8 p9 p10 p11
    rw [← hQe] at p6 p7 p8 p9 p10 p11
    have HLs : Hid (∀ u, Below u1.heap.size u1 u → Calls Try.prog 17 #[segV size (.slice a m c)] u fun e w' => AnsL 0 F u e w') := fun u hu => by
      have := implLs_any size _ ps u HSm.out (HS1.out u hu).2
      rw [p1, listC_fine p1, ← hF] at this
      exact this
    have HDp : Hid (∀ u y, SeeP u y ps → Calls Try.prog 20 #[segV size y] u fun e w' => e = .returned (IR 0 (F.length : Int)) ∧ Below u.heap.size u w') := fun u y hy => by
      have := implDp_seg size y ps u HSm.out hy
      rw [p1, if_pos rfl, ← hF] at this
      exact this
    have HLr : Hid (∀ u y, SeeP u y Q → Calls Try.prog 17 #[segV x y] u fun e w' => AnsL 0 F u e w') := fun u y hy => by
      have := implLs_any x y Q u HQs.out hy
      rw [p7, listC_fine p7, p8] at this
      exact this
    have HFr : Hid (∀ u, Below u2.heap.size u2 u → Calls Try.prog 18 #[segV x (.slice ar nr cr)] u fun e w' => e = .returned (.int .i64 0) ∧ Below u.heap.size u w') := fun u hu => by
      have := implSF_any x _ Q u HQs.out (HX2.out u hu).2
      rw [p7] at this
      exact this
    have HOp : Hid (∀ (u : World) (y : Value) (B : Nat), u.ownsRow B 2 1 y F.length (cellsI F) → Calls Try.prog 24 #[.int .i64 x, y] u fun e w' => AnsS 0 0 x Q u e w') := fun u y B hy => by
      have := implOs_any x y F B u (by rw [hF]; exact HSm.out.all) hy
      rw [p4, p5, p6] at this
      exact this
    have HRb : Hid (∀ u, Below u2.heap.size u2 u → Calls Try.prog 22 #[segV x (.slice ar nr cr), .int .i64 size] u fun e w' => AnsS 0 0 size ps u e w') := fun u hu => by
      have := implRe_any x _ Q size u HQs.out (HX2.out u hu).2
      rw [p9, p10, p11] at this
      exact this
    have HPo : Hid (∀ u, Calls Try.prog 16 #[segV x (.slice none 0 0)] u fun e w' => AnsS 4 0 0 [] u e w') := fun u => by
      have := implPo_any x (.slice none 0 0) [] u small_nil ⟨_, _, rfl, fun h => by simp at h⟩
      have q2 : popN x [] = 0 := by unfold popN; rw [p12]; rfl
      have q3 : popZ x [] = 0 := by unfold popZ; rw [p12]; rfl
      have q4 : popQ x [] = [] := by unfold popQ; rw [p12]; rfl
      rw [p12, q2, q3, q4] at this
      exact this
    have HNu : Hid (∀ u y z, SeeI u y F → SeeI u z F → Calls Try.prog 19 #[y, z] u fun e w' => e = .returned (.bool true) ∧ Below u.heap.size u w') := fun u y z hy hz => nums_see y z F u (by rw [hF]; exact HSm.out.all) hy hz
    clear p1 p2 p3 p4 p5 p6 p7 p8 p9 p10 p11 p12 HRR HZe HQe hQe hF HIp HSp HQs
    subst hc hZx
    have BW2 : Hid (Below w.heap.size w u2) := B1.out.trans (B2.out.mono B1.out.size)
    go_wp2_with fail
    rw [← HU2.out]
    clear q0 t0 t1 HU2
    refine (HLs.out u2 B2.out).mono ?_
    rintro e w3 ⟨va, rfl, o3, b3⟩
    obtain ⟨aa, ca, rfl⟩ := own_form o3
    obtain ⟨u3, hu3⟩ : ∃ u, u = w3.alloc (.cells #[.int .i64 0, .slice aa F.length ca] 35) := ⟨_, rfl⟩
    have HU3 : Hid (u3 = w3.alloc (.cells #[.int .i64 0, .slice aa F.length ca] 35)) := hu3
    have hsa : SeeI w3 (.slice aa F.length ca) F := seeI_own o3
    have HO3 : Hid (u3.ownsRow u2.heap.size 2 1 (.slice aa F.length ca) F.length (cellsI F)) := by rw [hu3]; exact own_below o3 (bnewK _ _)
    have HX3 : Hid (∀ u, Below u3.heap.size u3 u → Cells u w3.heap.size #[.int .i64 0, .slice aa F.length ca].toList ∧ SeeI u (.slice aa F.length ca) F) := fun u hu => by
      rw [hu3] at hu
      exact ⟨(Cells.new w3 _ _).below hu, (hsa.below (bnewK _ _)).below hu⟩
    have B3 : Hid (Below u2.heap.size u2 u3) := by rw [hu3]; exact b3.alloc b3.size _
    have k1 : u3.cell? ⟨w3.heap.size, 1, none⟩ = some (.slice aa F.length ca) := (HX3.out u3 (Below.refl _ _)).1 1 _ rfl
    rw [hu3] at k1
    obtain ⟨f, hf⟩ : ∃ f, f = F.length := ⟨_, rfl⟩
    rw [← hf] at HX3 HO3 HU3 HDp HOp k1 ⊢
    clear hu3 hsa o3 b3 HLs hf
    go_wp2_with fail
    rw [← HU3.out]
    clear HU3 k1
    refine (HOp.out u3 _ _ HO3.out).mono ?_
    rintro e w4 ⟨vo, P4, rfl, o4, m4, b4⟩
    obtain ⟨ao, no, co, rfl⟩ := OwnS.form o4
    obtain ⟨u4, hu4⟩ : ∃ u, u = w4.alloc (.cells #[.int .i64 0, .int .i64 0, .int .i64 x, .slice ao no co] 30) := ⟨_, rfl⟩
    have HU4 : Hid (u4 = w4.alloc (.cells #[.int .i64 0, .int .i64 0, .int .i64 x, .slice ao no co] 30)) := hu4
    have hso : SeeP w4 (.slice ao no co) Q := by have := OwnS.see o4; rw [m4] at this; exact this
    have HX4 : Hid (∀ u, Below u4.heap.size u4 u → Cells u w4.heap.size #[.int .i64 0, .int .i64 0, .int .i64 x, .slice ao no co].toList ∧ SeeP u (.slice ao no co) Q) := fun u hu => by
      rw [hu4] at hu
      exact ⟨(Cells.new w4 _ _).below hu, (hso.below (bnewK _ _)).below hu⟩
    have B4 : Hid (Below u3.heap.size u3 u4) := by rw [hu4]; exact b4.alloc b4.size _
    have B24 : Hid (Below u2.heap.size u2 u4) := B3.out.trans (B4.out.mono B3.out.size)
    have hq := fun j y => (HX2.out u4 B24.out).1 j y
    rw [hu4] at hq
    have q2 := hq 2 _ rfl
    have q3 := hq 3 _ rfl
    obtain ⟨t0, t1⟩ := (HS1.out u4 (B2.out.trans (B24.out.mono B2.out.size))).1
    rw [hu4] at t0 t1
    clear hu4 hso o4 m4 b4 HOp HO3 hq
    go_wp2_with fail
    rw [← HU4.out]
    clear HU4 q2 q3 t0 t1
    refine (HRb.out u4 B24.out).mono ?_
    rintro e w5 ⟨vb, P5, rfl, o5, m5, b5⟩
    obtain ⟨ab, cb, hvb⟩ := PV.form o5
    have hpl : P5.length = m := by rw [HM.out]; exact map_len m5
    rw [hpl] at hvb
    subst hvb
    obtain ⟨u5, hu5⟩ : ∃ u, u = w5.alloc (.cells #[.int .i64 0, .int .i64 0, .int .i64 size, .slice ab m cb] 30) := ⟨_, rfl⟩
    have HU5 : Hid (u5 = w5.alloc (.cells #[.int .i64 0, .int .i64 0, .int .i64 size, .slice ab m cb] 30)) := hu5
    have hsb : SeeP w5 (.slice ab m cb) ps := by have := OwnS.see o5; rw [m5] at this; exact this
    have HX5 : Hid (∀ u, Below u5.heap.size u5 u → Cells u w5.heap.size #[.int .i64 0, .int .i64 0, .int .i64 size, .slice ab m cb].toList ∧ SeeP u (.slice ab m cb) ps) := fun u hu => by
      rw [hu5] at hu
      exact ⟨(Cells.new w5 _ _).below hu, (hsb.below (bnewK _ _)).below hu⟩
    have B5 : Hid (Below u4.heap.size u4 u5) := by rw [hu5]; exact b5.alloc b5.size _
    have HBx : Hid (∀ u, Below u5.heap.size u5 u → Below u4.heap.size u4 u ∧ Below u3.heap.size u3 u ∧ Below u2.heap.size u2 u ∧ Below u1.heap.size u1 u ∧ Below w.heap.size w u) := fun u hu => by
      have h1 := B5.out.trans (hu.mono B5.out.size)
      have h2 := B4.out.trans (h1.mono B4.out.size)
      have h3 := B3.out.trans (h2.mono B3.out.size)
      exact ⟨h1, h2, h3, B2.out.trans (h3.mono B2.out.size), BW2.out.trans (h3.mono BW2.out.size)⟩
    clear hu5 hsb o5 m5 b5 hpl HRb
    go_wp2_with fail
    rw [← HU5.out]
    clear HU5
    obtain ⟨bs, hbs⟩ : ∃ bs, bs = w1.heap.size := ⟨_, rfl⟩
    obtain ⟨br, hbr⟩ : ∃ br, br = w2.heap.size := ⟨_, rfl⟩
    obtain ⟨ba, hba⟩ : ∃ ba, ba = w3.heap.size := ⟨_, rfl⟩
    obtain ⟨bo, hbo⟩ : ∃ bo, bo = w4.heap.size := ⟨_, rfl⟩
    obtain ⟨bb, hbb⟩ : ∃ bb, bb = w5.heap.size := ⟨_, rfl⟩
    rw [← hbs] at HS1
    rw [← hbr] at HX2
    rw [← hba] at HX3
    rw [← hbo] at HX4
    rw [← hbb] at HX5
    rw [← hbs, ← hbr, ← hba, ← hbo, ← hbb]
    clear hbs hbr hba hbo hbb HBy B1 B2 B3 B4 B5 B24 BW2 hz1 hz2
    refine wp_region_facts (by kernel_rfl) 54 (fun v => Below u5.heap.size u5 v) (fun u v => Below u.heap.size u v) (fun i a9 u => match i with | 0 => (fun v u => v = .pointer (some ⟨br, 2, none⟩)) a9 u | 1 => (fun v u => v = segV x (.slice ar nr cr)) a9 u | 2 => (fun v u => v = .int .i64 0) a9 u | 3 => (fun v u => v = .bool true) a9 u | 4 => (fun v u => v = .bool true) a9 u | 5 => (fun v u => v = .pointer (some ⟨br, 2, none⟩)) a9 u | 6 => (fun v u => v = segV x (.slice ar nr cr)) a9 u | 7 => (fun v u => ∃ y, v = .agg #[.int .i64 0, y] ∧ SeeI u y F) a9 u | 8 => (fun v u => SeeI u v F) a9 u | 9 => (fun v u => v = .pointer (some ⟨ba, 1, none⟩)) a9 u | 10 => (fun v u => v = (.slice aa f ca)) a9 u | 11 => (fun v u => v = .bool true) a9 u | 12 => (fun v u => v = .bool true) a9 u | 13 => (fun v u => v = .bool true) a9 u | 14 => (fun v u => v = .pointer (some ⟨bo, 0, none⟩)) a9 u | 15 => (fun v u => v = .int .i64 0) a9 u | 16 => (fun v u => v = .bool true) a9 u | 17 => (fun v u => v = .bool true) a9 u | 18 => (fun v u => v = .bool true) a9 u | 19 => (fun v u => v = .pointer (some ⟨bo, 2, none⟩)) a9 u | 20 => (fun v u => v = segV x (.slice ao no co)) a9 u | 21 => (fun v u => ∃ y, v = .agg #[.int .i64 0, y] ∧ SeeI u y F) a9 u | 22 => (fun v u => SeeI u v F) a9 u | 23 => (fun v u => v = .pointer (some ⟨ba, 1, none⟩)) a9 u | 24 => (fun v u => v = (.slice aa f ca)) a9 u | 25 => (fun v u => v = .bool true) a9 u | 26 => (fun v u => v = .bool true) a9 u | 27 => (fun v u => v = .bool true) a9 u | 28 => (fun v u => v = .pointer (some ⟨bb, 2, none⟩)) a9 u | 29 => (fun v u => v = .pointer (some ⟨bb, 3, none⟩)) a9 u | 30 => (fun v u => v = (.slice ab m cb)) a9 u | 31 => (fun v u => v = .int .i64 (m : Int)) a9 u | 32 => (fun v u => v = .pointer (some ⟨bs, 1, none⟩)) a9 u | 33 => (fun v u => v = (.slice a m c)) a9 u | 34 => (fun v u => v = .int .i64 (m : Int)) a9 u | 35 => (fun v u => v = .bool true) a9 u | 36 => (fun v u => v = .bool true) a9 u | 37 => (fun v u => v = .bool true) a9 u | 38 => (fun v u => v = .pointer (some ⟨bb, 2, none⟩)) a9 u | 39 => (fun v u => v = segV size (.slice ab m cb)) a9 u | 40 => (fun v u => v = IR 0 (f : Int)) a9 u | 41 => (fun v u => v = .int .i64 (f : Int)) a9 u | 42 => (fun v u => v = segV size (.slice a m c)) a9 u | 43 => (fun v u => v = IR 0 (f : Int)) a9 u | 44 => (fun v u => v = .int .i64 (f : Int)) a9 u | 45 => (fun v u => v = .bool true) a9 u | 46 => (fun v u => v = .bool true) a9 u | 47 => (fun v u => v = .bool true) a9 u | 48 => (fun v u => v = .int .i64 x) a9 u | 49 => (fun v u => v = segV x (.slice none 0 0)) a9 u | 50 => (fun v u => ∃ y, v = srV 4 0 0 y) a9 u | 51 => (fun v u => v = .int .i64 4) a9 u | 52 => (fun v u => v = .bool true) a9 u | 53 => (fun v u => v = .bool true) a9 u | _ => True) (by kernel_rfl) [0, 1, 2, 3, 4, 5, 6, 7, 8, 9, 10, 11, 12, 13, 14, 15, 16, 17, 18, 19, 20, 21, 22, 23, 24, 25, 26, 27, 28, 29, 30, 31, 32, 33, 34, 35, 36, 37, 38, 39, 40, 41, 42, 43, 44, 45, 46, 47, 48, 49, 50, 51, 52, 53] (by kernel_rfl) ?b0 ?bk ?fk ⟨?s0, ?s1, ?s2, ?s3, ?s4, ?s5, ?s6, ?s7, ?s8, ?s9, ?s10, ?s11, ?s12, ?s13, ?s14, ?s15, ?s16, ?s17, ?s18, ?s19, ?s20, ?s21, ?s22, ?s23, ?s24, ?s25, ?s26, ?s27, ?s28, ?s29, ?s30, ?s31, ?s32, ?s33, ?s34, ?s35, ?s36, ?s37, ?s38, ?s39, ?s40, ?s41, ?s42, ?s43, ?s44, ?s45, ?s46, ?s47, ?s48, ?s49, ?s50, ?s51, ?s52, ?s53, trivial⟩ _ rfl [(0, some 40), (1, some 41), (2, some 42), (3, some 43), (4, some 44), (5, some 45), (6, some 46), (7, some 47), (8, some 48), (9, some 49), (10, some 50), (11, some 51), (12, some 52), (13, some 53), (14, some 54), (15, some 55), (16, some 56), (17, some 57), (18, some 58), (19, some 59), (20, some 60), (21, some 61), (22, some 62), (23, some 63), (24, some 64), (25, some 65), (26, some 66), (27, some 67), (28, some 68), (29, some 69), (30, some 70), (31, some 71), (32, some 72), (33, some 73), (34, some 74), (35, some 75), (36, some 76), (37, some 77), (38, some 78), (39, some 79), (40, some 80), (41, some 81), (42, some 82), (43, some 83), (44, some 84), (45, some 85), (46, some 86), (47, some 87), (48, some 88), (49, some 89), (50, some 90), (51, some 91), (52, some 92), (53, some 93)] (by kernel_rfl) ?last
    case b0 => exact Below.drew (Below.refl _ _)
    case bk => exact fun u v h hb => h.trans (hb.mono h.size)
    case fk => intro i a9 u u' h hb; match i, h with | 0, h => exact (h) | 1, h => exact (h) | 2, h => exact (h) | 3, h => exact (h) | 4, h => exact (h) | 5, h => exact (h) | 6, h => exact (h) | 7, h => exact (let ⟨y, e, o⟩ := h; ⟨y, e, o.below hb⟩) | 8, h => exact (h.below hb) | 9, h => exact (h) | 10, h => exact (h) | 11, h => exact (h) | 12, h => exact (h) | 13, h => exact (h) | 14, h => exact (h) | 15, h => exact (h) | 16, h => exact (h) | 17, h => exact (h) | 18, h => exact (h) | 19, h => exact (h) | 20, h => exact (h) | 21, h => exact (let ⟨y, e, o⟩ := h; ⟨y, e, o.below hb⟩) | 22, h => exact (h.below hb) | 23, h => exact (h) | 24, h => exact (h) | 25, h => exact (h) | 26, h => exact (h) | 27, h => exact (h) | 28, h => exact (h) | 29, h => exact (h) | 30, h => exact (h) | 31, h => exact (h) | 32, h => exact (h) | 33, h => exact (h) | 34, h => exact (h) | 35, h => exact (h) | 36, h => exact (h) | 37, h => exact (h) | 38, h => exact (h) | 39, h => exact (h) | 40, h => exact (h) | 41, h => exact (h) | 42, h => exact (h) | 43, h => exact (h) | 44, h => exact (h) | 45, h => exact (h) | 46, h => exact (h) | 47, h => exact (h) | 48, h => exact (h) | 49, h => exact (h) | 50, h => exact (h) | 51, h => exact (h) | 52, h => exact (h) | 53, h => exact (h) | _ + 54, _ => exact trivial
    case s0 =>
      refine StepF.of rfl [] (by kernel_rfl) ?_
      intro vs u hB hf K hK
      clear hf
      simp only [putsA, List.foldl_nil, Act.put, List.setIfInBounds_toArray] at hK ⊢
      rw [if_pos (by rfl)]
      go_simp
      exact hK.out _ _ (Below.refl _ _) rfl
    case s1 =>
      refine StepF.of rfl [(0, some 40)] (by kernel_rfl) ?_
      intro vs u hB hf K hK
      have f0 : (fun v u => v = .pointer (some ⟨br, 2, none⟩)) (vs 0) u := hf.1
      clear hf
      simp only [putsA, List.foldl_cons, List.foldl_nil, Act.put, List.setIfInBounds_toArray, List.set_cons_zero, List.set_cons_succ] at hK ⊢
      generalize vs 0 = v0 at f0 hK ⊢
      subst f0
      rw [if_pos (by rfl)]
      have k2 := (HX2.out u (HBx.out u hB).2.2.1).1 2 _ rfl
      have k3 := (HX2.out u (HBx.out u hB).2.2.1).1 3 _ rfl
      go_simp
      exact hK.out _ _ (Below.refl _ _) rfl
    case s2 =>
      refine StepF.of rfl [(1, some 41)] (by kernel_rfl) ?_
      intro vs u hB hf K hK
      have f1 : (fun v u => v = segV x (.slice ar nr cr)) (vs 1) u := hf.1
      clear hf
      simp only [putsA, List.foldl_cons, List.foldl_nil, Act.put, List.setIfInBounds_toArray, List.set_cons_zero, List.set_cons_succ] at hK ⊢
      generalize vs 1 = v1 at f1 hK ⊢
      subst f1
      rw [if_pos (by rfl)]
      go_simp
      refine (HFr.out u (HBx.out u hB).2.2.1).mono ?_
      rintro e w8 ⟨rfl, b8⟩
      exact hK.out _ _ b8 rfl
    case s3 =>
      refine StepF.of rfl [(2, some 42)] (by kernel_rfl) ?_
      intro vs u hB hf K hK
      have f2 : (fun v u => v = .int .i64 0) (vs 2) u := hf.1
      clear hf
      simp only [putsA, List.foldl_cons, List.foldl_nil, Act.put, List.setIfInBounds_toArray, List.set_cons_zero, List.set_cons_succ] at hK ⊢
      generalize vs 2 = v2 at f2 hK ⊢
      subst f2
      rw [if_pos (by rfl)]
      go_simp
      exact hK.out _ _ (Below.refl _ _) rfl
    case s4 =>
      refine StepF.of rfl [(2, some 42), (3, some 43)] (by kernel_rfl) ?_
      intro vs u hB hf K hK
      have f2 : (fun v u => v = .int .i64 0) (vs 2) u := hf.1
      have f3 : (fun v u => v = .bool true) (vs 3) u := hf.2.1
      clear hf
      simp only [putsA, List.foldl_cons, List.foldl_nil, Act.put, List.setIfInBounds_toArray, List.set_cons_zero, List.set_cons_succ] at hK ⊢
      generalize vs 2 = v2 at f2 hK ⊢
      generalize vs 3 = v3 at f3 hK ⊢
      subst f2
      subst f3
      rw [if_pos (by rfl)]
      go_simp
      exact hK.out _ _ (Below.refl _ _) rfl
    case s5 =>
      refine StepF.of rfl [(4, some 44)] (by kernel_rfl) ?_
      intro vs u hB hf K hK
      have f4 : (fun v u => v = .bool true) (vs 4) u := hf.1
      clear hf
      simp only [putsA, List.foldl_cons, List.foldl_nil, Act.put, List.setIfInBounds_toArray, List.set_cons_zero, List.set_cons_succ] at hK ⊢
      generalize vs 4 = v4 at f4 hK ⊢
      subst f4
      rw [if_pos (by rfl)]
      go_simp
      exact hK.out _ _ (Below.refl _ _) rfl
    case s6 =>
      refine StepF.of rfl [(4, some 44), (5, some 45)] (by kernel_rfl) ?_
      intro vs u hB hf K hK
      have f4 : (fun v u => v = .bool true) (vs 4) u := hf.1
      have f5 : (fun v u => v = .pointer (some ⟨br, 2, none⟩)) (vs 5) u := hf.2.1
      clear hf
      simp only [putsA, List.foldl_cons, List.foldl_nil, Act.put, List.setIfInBounds_toArray, List.set_cons_zero, List.set_cons_succ] at hK ⊢
      generalize vs 4 = v4 at f4 hK ⊢
      generalize vs 5 = v5 at f5 hK ⊢
      subst f4
      subst f5
      rw [if_pos (by rfl)]
      have k2 := (HX2.out u (HBx.out u hB).2.2.1).1 2 _ rfl
      have k3 := (HX2.out u (HBx.out u hB).2.2.1).1 3 _ rfl
      go_simp
      exact hK.out _ _ (Below.refl _ _) rfl
    case s7 =>
      refine StepF.of rfl [(4, some 44), (6, some 46)] (by kernel_rfl) ?_
      intro vs u hB hf K hK
      have f4 : (fun v u => v = .bool true) (vs 4) u := hf.1
      have f6 : (fun v u => v = segV x (.slice ar nr cr)) (vs 6) u := hf.2.1
      clear hf
      simp only [putsA, List.foldl_cons, List.foldl_nil, Act.put, List.setIfInBounds_toArray, List.set_cons_zero, List.set_cons_succ] at hK ⊢
      generalize vs 4 = v4 at f4 hK ⊢
      generalize vs 6 = v6 at f6 hK ⊢
      subst f4
      subst f6
      rw [if_pos (by rfl)]
      go_simp
      refine (HLr.out u _ (HX2.out u (HBx.out u hB).2.2.1).2).mono ?_
      rintro e w8 ⟨y, rfl, o8, b8⟩
      exact hK.out _ _ b8 ⟨y, rfl, seeI_own o8⟩
    case s8 =>
      refine StepF.of rfl [(4, some 44), (7, some 47)] (by kernel_rfl) ?_
      intro vs u hB hf K hK
      have f4 : (fun v u => v = .bool true) (vs 4) u := hf.1
      have f7 : (fun v u => ∃ y, v = .agg #[.int .i64 0, y] ∧ SeeI u y F) (vs 7) u := hf.2.1
      clear hf
      simp only [putsA, List.foldl_cons, List.foldl_nil, Act.put, List.setIfInBounds_toArray, List.set_cons_zero, List.set_cons_succ] at hK ⊢
      generalize vs 4 = v4 at f4 hK ⊢
      generalize vs 7 = v7 at f7 hK ⊢
      subst f4
      rw [if_pos (by rfl)]
      obtain ⟨y, rfl, hy⟩ := f7
      obtain ⟨ay, cy, rfl, -⟩ := id hy
      go_simp
      exact hK.out _ _ (Below.refl _ _) hy
    case s9 =>
      refine StepF.of rfl [(4, some 44)] (by kernel_rfl) ?_
      intro vs u hB hf K hK
      have f4 : (fun v u => v = .bool true) (vs 4) u := hf.1
      clear hf
      simp only [putsA, List.foldl_cons, List.foldl_nil, Act.put, List.setIfInBounds_toArray, List.set_cons_zero, List.set_cons_succ] at hK ⊢
      generalize vs 4 = v4 at f4 hK ⊢
      subst f4
      rw [if_pos (by rfl)]
      go_simp
      exact hK.out _ _ (Below.refl _ _) rfl
    case s10 =>
      refine StepF.of rfl [(4, some 44), (9, some 49)] (by kernel_rfl) ?_
      intro vs u hB hf K hK
      have f4 : (fun v u => v = .bool true) (vs 4) u := hf.1
      have f9 : (fun v u => v = .pointer (some ⟨ba, 1, none⟩)) (vs 9) u := hf.2.1
      clear hf
      simp only [putsA, List.foldl_cons, List.foldl_nil, Act.put, List.setIfInBounds_toArray, List.set_cons_zero, List.set_cons_succ] at hK ⊢
      generalize vs 4 = v4 at f4 hK ⊢
      generalize vs 9 = v9 at f9 hK ⊢
      subst f4
      subst f9
      rw [if_pos (by rfl)]
      have k1 := (HX3.out u (HBx.out u hB).2.1).1 1 _ rfl
      go_simp
      exact hK.out _ _ (Below.refl _ _) rfl
    case s11 =>
      refine StepF.of rfl [(4, some 44), (7, some 47), (8, some 48), (10, some 50)] (by kernel_rfl) ?_
      intro vs u hB hf K hK
      have f4 : (fun v u => v = .bool true) (vs 4) u := hf.1
      have f7 : (fun v u => ∃ y, v = .agg #[.int .i64 0, y] ∧ SeeI u y F) (vs 7) u := hf.2.1
      have f8 : (fun v u => SeeI u v F) (vs 8) u := hf.2.2.1
      have f10 : (fun v u => v = (.slice aa f ca)) (vs 10) u := hf.2.2.2.1
      clear hf
      simp only [putsA, List.foldl_cons, List.foldl_nil, Act.put, List.setIfInBounds_toArray, List.set_cons_zero, List.set_cons_succ] at hK ⊢
      generalize vs 4 = v4 at f4 hK ⊢
      generalize vs 7 = v7 at f7 hK ⊢
      generalize vs 8 = v8 at f8 hK ⊢
      generalize vs 10 = v10 at f10 hK ⊢
      subst f4
      subst f10
      rw [if_pos (by rfl)]
      obtain ⟨ay, cy, rfl, -⟩ := id f8
      go_simp
      refine (HNu.out u _ _ f8 (HX3.out u (HBx.out u hB).2.1).2).mono ?_
      rintro e w8 ⟨rfl, b8⟩
      exact hK.out _ _ b8 rfl
    case s12 =>
      refine StepF.of rfl [(4, some 44), (11, some 51)] (by kernel_rfl) ?_
      intro vs u hB hf K hK
      have f4 : (fun v u => v = .bool true) (vs 4) u := hf.1
      have f11 : (fun v u => v = .bool true) (vs 11) u := hf.2.1
      clear hf
      simp only [putsA, List.foldl_cons, List.foldl_nil, Act.put, List.setIfInBounds_toArray, List.set_cons_zero, List.set_cons_succ] at hK ⊢
      generalize vs 4 = v4 at f4 hK ⊢
      generalize vs 11 = v11 at f11 hK ⊢
      subst f4
      subst f11
      rw [if_pos (by rfl)]
      go_simp
      exact hK.out _ _ (Below.refl _ _) rfl
    case s13 =>
      refine StepF.of rfl [(11, some 51), (12, some 52)] (by kernel_rfl) ?_
      intro vs u hB hf K hK
      have f11 : (fun v u => v = .bool true) (vs 11) u := hf.1
      have f12 : (fun v u => v = .bool true) (vs 12) u := hf.2.1
      clear hf
      simp only [putsA, List.foldl_cons, List.foldl_nil, Act.put, List.setIfInBounds_toArray, List.set_cons_zero, List.set_cons_succ] at hK ⊢
      generalize vs 11 = v11 at f11 hK ⊢
      generalize vs 12 = v12 at f12 hK ⊢
      subst f11
      subst f12
      rw [if_pos (by rfl)]
      go_simp
      exact hK.out _ _ (Below.refl _ _) rfl
    case s14 =>
      refine StepF.of rfl [(13, some 53)] (by kernel_rfl) ?_
      intro vs u hB hf K hK
      have f13 : (fun v u => v = .bool true) (vs 13) u := hf.1
      clear hf
      simp only [putsA, List.foldl_cons, List.foldl_nil, Act.put, List.setIfInBounds_toArray, List.set_cons_zero, List.set_cons_succ] at hK ⊢
      generalize vs 13 = v13 at f13 hK ⊢
      subst f13
      rw [if_pos (by rfl)]
      go_simp
      exact hK.out _ _ (Below.refl _ _) rfl
    case s15 =>
      refine StepF.of rfl [(13, some 53), (14, some 54)] (by kernel_rfl) ?_
      intro vs u hB hf K hK
      have f13 : (fun v u => v = .bool true) (vs 13) u := hf.1
      have f14 : (fun v u => v = .pointer (some ⟨bo, 0, none⟩)) (vs 14) u := hf.2.1
      clear hf
      simp only [putsA, List.foldl_cons, List.foldl_nil, Act.put, List.setIfInBounds_toArray, List.set_cons_zero, List.set_cons_succ] at hK ⊢
      generalize vs 13 = v13 at f13 hK ⊢
      generalize vs 14 = v14 at f14 hK ⊢
      subst f13
      subst f14
      rw [if_pos (by rfl)]
      have k0 := (HX4.out u (HBx.out u hB).1).1 0 _ rfl
      go_simp
      exact hK.out _ _ (Below.refl _ _) rfl
    case s16 =>
      refine StepF.of rfl [(13, some 53), (15, some 55)] (by kernel_rfl) ?_
      intro vs u hB hf K hK
      have f13 : (fun v u => v = .bool true) (vs 13) u := hf.1
      have f15 : (fun v u => v = .int .i64 0) (vs 15) u := hf.2.1
      clear hf
      simp only [putsA, List.foldl_cons, List.foldl_nil, Act.put, List.setIfInBounds_toArray, List.set_cons_zero, List.set_cons_succ] at hK ⊢
      generalize vs 13 = v13 at f13 hK ⊢
      generalize vs 15 = v15 at f15 hK ⊢
      subst f13
      subst f15
      rw [if_pos (by rfl)]
      go_simp
      exact hK.out _ _ (Below.refl _ _) rfl
    case s17 =>
      refine StepF.of rfl [(13, some 53), (16, some 56)] (by kernel_rfl) ?_
      intro vs u hB hf K hK
      have f13 : (fun v u => v = .bool true) (vs 13) u := hf.1
      have f16 : (fun v u => v = .bool true) (vs 16) u := hf.2.1
      clear hf
      simp only [putsA, List.foldl_cons, List.foldl_nil, Act.put, List.setIfInBounds_toArray, List.set_cons_zero, List.set_cons_succ] at hK ⊢
      generalize vs 13 = v13 at f13 hK ⊢
      generalize vs 16 = v16 at f16 hK ⊢
      subst f13
      subst f16
      rw [if_pos (by rfl)]
      go_simp
      exact hK.out _ _ (Below.refl _ _) rfl
    case s18 =>
      refine StepF.of rfl [(13, some 53), (17, some 57)] (by kernel_rfl) ?_
      intro vs u hB hf K hK
      have f13 : (fun v u => v = .bool true) (vs 13) u := hf.1
      have f17 : (fun v u => v = .bool true) (vs 17) u := hf.2.1
      clear hf
      simp only [putsA, List.foldl_cons, List.foldl_nil, Act.put, List.setIfInBounds_toArray, List.set_cons_zero, List.set_cons_succ] at hK ⊢
      generalize vs 13 = v13 at f13 hK ⊢
      generalize vs 17 = v17 at f17 hK ⊢
      subst f13
      subst f17
      rw [if_pos (by rfl)]
      go_simp
      exact hK.out _ _ (Below.refl _ _) rfl
    case s19 =>
      refine StepF.of rfl [(18, some 58)] (by kernel_rfl) ?_
      intro vs u hB hf K hK
      have f18 : (fun v u => v = .bool true) (vs 18) u := hf.1
      clear hf
      simp only [putsA, List.foldl_cons, List.foldl_nil, Act.put, List.setIfInBounds_toArray, List.set_cons_zero, List.set_cons_succ] at hK ⊢
      generalize vs 18 = v18 at f18 hK ⊢
      subst f18
      rw [if_pos (by rfl)]
      go_simp
      exact hK.out _ _ (Below.refl _ _) rfl
    case s20 =>
      refine StepF.of rfl [(18, some 58), (19, some 59)] (by kernel_rfl) ?_
      intro vs u hB hf K hK
      have f18 : (fun v u => v = .bool true) (vs 18) u := hf.1
      have f19 : (fun v u => v = .pointer (some ⟨bo, 2, none⟩)) (vs 19) u := hf.2.1
      clear hf
      simp only [putsA, List.foldl_cons, List.foldl_nil, Act.put, List.setIfInBounds_toArray, List.set_cons_zero, List.set_cons_succ] at hK ⊢
      generalize vs 18 = v18 at f18 hK ⊢
      generalize vs 19 = v19 at f19 hK ⊢
      subst f18
      subst f19
      rw [if_pos (by rfl)]
      have k2 := (HX4.out u (HBx.out u hB).1).1 2 _ rfl
      have k3 := (HX4.out u (HBx.out u hB).1).1 3 _ rfl
      go_simp
      exact hK.out _ _ (Below.refl _ _) rfl
    case s21 =>
      refine StepF.of rfl [(18, some 58), (20, some 60)] (by kernel_rfl) ?_
      intro vs u hB hf K hK
      have f18 : (fun v u => v = .bool true) (vs 18) u := hf.1
      have f20 : (fun v u => v = segV x (.slice ao no co)) (vs 20) u := hf.2.1
      clear hf
      simp only [putsA, List.foldl_cons, List.foldl_nil, Act.put, List.setIfInBounds_toArray, List.set_cons_zero, List.set_cons_succ] at hK ⊢
      generalize vs 18 = v18 at f18 hK ⊢
      generalize vs 20 = v20 at f20 hK ⊢
      subst f18
      subst f20
      rw [if_pos (by rfl)]
      go_simp
      refine (HLr.out u _ (HX4.out u (HBx.out u hB).1).2).mono ?_
      rintro e w8 ⟨y, rfl, o8, b8⟩
      exact hK.out _ _ b8 ⟨y, rfl, seeI_own o8⟩
    case s22 =>
      refine StepF.of rfl [(18, some 58), (21, some 61)] (by kernel_rfl) ?_
      intro vs u hB hf K hK
      have f18 : (fun v u => v = .bool true) (vs 18) u := hf.1
      have f21 : (fun v u => ∃ y, v = .agg #[.int .i64 0, y] ∧ SeeI u y F) (vs 21) u := hf.2.1
      clear hf
      simp only [putsA, List.foldl_cons, List.foldl_nil, Act.put, List.setIfInBounds_toArray, List.set_cons_zero, List.set_cons_succ] at hK ⊢
      generalize vs 18 = v18 at f18 hK ⊢
      generalize vs 21 = v21 at f21 hK ⊢
      subst f18
      rw [if_pos (by rfl)]
      obtain ⟨y, rfl, hy⟩ := f21
      obtain ⟨ay, cy, rfl, -⟩ := id hy
      go_simp
      exact hK.out _ _ (Below.refl _ _) hy
    case s23 =>
      refine StepF.of rfl [(18, some 58)] (by kernel_rfl) ?_
      intro vs u hB hf K hK
      have f18 : (fun v u => v = .bool true) (vs 18) u := hf.1
      clear hf
      simp only [putsA, List.foldl_cons, List.foldl_nil, Act.put, List.setIfInBounds_toArray, List.set_cons_zero, List.set_cons_succ] at hK ⊢
      generalize vs 18 = v18 at f18 hK ⊢
      subst f18
      rw [if_pos (by rfl)]
      go_simp
      exact hK.out _ _ (Below.refl _ _) rfl
    case s24 =>
      refine StepF.of rfl [(18, some 58), (23, some 63)] (by kernel_rfl) ?_
      intro vs u hB hf K hK
      have f18 : (fun v u => v = .bool true) (vs 18) u := hf.1
      have f23 : (fun v u => v = .pointer (some ⟨ba, 1, none⟩)) (vs 23) u := hf.2.1
      clear hf
      simp only [putsA, List.foldl_cons, List.foldl_nil, Act.put, List.setIfInBounds_toArray, List.set_cons_zero, List.set_cons_succ] at hK ⊢
      generalize vs 18 = v18 at f18 hK ⊢
      generalize vs 23 = v23 at f23 hK ⊢
      subst f18
      subst f23
      rw [if_pos (by rfl)]
      have k1 := (HX3.out u (HBx.out u hB).2.1).1 1 _ rfl
      go_simp
      exact hK.out _ _ (Below.refl _ _) rfl
    case s25 =>
      refine StepF.of rfl [(18, some 58), (21, some 61), (22, some 62), (24, some 64)] (by kernel_rfl) ?_
      intro vs u hB hf K hK
      have f18 : (fun v u => v = .bool true) (vs 18) u := hf.1
      have f21 : (fun v u => ∃ y, v = .agg #[.int .i64 0, y] ∧ SeeI u y F) (vs 21) u := hf.2.1
      have f22 : (fun v u => SeeI u v F) (vs 22) u := hf.2.2.1
      have f24 : (fun v u => v = (.slice aa f ca)) (vs 24) u := hf.2.2.2.1
      clear hf
      simp only [putsA, List.foldl_cons, List.foldl_nil, Act.put, List.setIfInBounds_toArray, List.set_cons_zero, List.set_cons_succ] at hK ⊢
      generalize vs 18 = v18 at f18 hK ⊢
      generalize vs 21 = v21 at f21 hK ⊢
      generalize vs 22 = v22 at f22 hK ⊢
      generalize vs 24 = v24 at f24 hK ⊢
      subst f18
      subst f24
      rw [if_pos (by rfl)]
      obtain ⟨ay, cy, rfl, -⟩ := id f22
      go_simp
      refine (HNu.out u _ _ f22 (HX3.out u (HBx.out u hB).2.1).2).mono ?_
      rintro e w8 ⟨rfl, b8⟩
      exact hK.out _ _ b8 rfl
    case s26 =>
      refine StepF.of rfl [(18, some 58), (25, some 65)] (by kernel_rfl) ?_
      intro vs u hB hf K hK
      have f18 : (fun v u => v = .bool true) (vs 18) u := hf.1
      have f25 : (fun v u => v = .bool true) (vs 25) u := hf.2.1
      clear hf
      simp only [putsA, List.foldl_cons, List.foldl_nil, Act.put, List.setIfInBounds_toArray, List.set_cons_zero, List.set_cons_succ] at hK ⊢
      generalize vs 18 = v18 at f18 hK ⊢
      generalize vs 25 = v25 at f25 hK ⊢
      subst f18
      subst f25
      rw [if_pos (by rfl)]
      go_simp
      exact hK.out _ _ (Below.refl _ _) rfl
    case s27 =>
      refine StepF.of rfl [(25, some 65), (26, some 66)] (by kernel_rfl) ?_
      intro vs u hB hf K hK
      have f25 : (fun v u => v = .bool true) (vs 25) u := hf.1
      have f26 : (fun v u => v = .bool true) (vs 26) u := hf.2.1
      clear hf
      simp only [putsA, List.foldl_cons, List.foldl_nil, Act.put, List.setIfInBounds_toArray, List.set_cons_zero, List.set_cons_succ] at hK ⊢
      generalize vs 25 = v25 at f25 hK ⊢
      generalize vs 26 = v26 at f26 hK ⊢
      subst f25
      subst f26
      rw [if_pos (by rfl)]
      go_simp
      exact hK.out _ _ (Below.refl _ _) rfl
    case s28 =>
      refine StepF.of rfl [(27, some 67)] (by kernel_rfl) ?_
      intro vs u hB hf K hK
      have f27 : (fun v u => v = .bool true) (vs 27) u := hf.1
      clear hf
      simp only [putsA, List.foldl_cons, List.foldl_nil, Act.put, List.setIfInBounds_toArray, List.set_cons_zero, List.set_cons_succ] at hK ⊢
      generalize vs 27 = v27 at f27 hK ⊢
      subst f27
      rw [if_pos (by rfl)]
      go_simp
      exact hK.out _ _ (Below.refl _ _) rfl
    case s29 =>
      refine StepF.of rfl [(27, some 67), (28, some 68)] (by kernel_rfl) ?_
      intro vs u hB hf K hK
      have f27 : (fun v u => v = .bool true) (vs 27) u := hf.1
      have f28 : (fun v u => v = .pointer (some ⟨bb, 2, none⟩)) (vs 28) u := hf.2.1
      clear hf
      simp only [putsA, List.foldl_cons, List.foldl_nil, Act.put, List.setIfInBounds_toArray, List.set_cons_zero, List.set_cons_succ] at hK ⊢
      generalize vs 27 = v27 at f27 hK ⊢
      generalize vs 28 = v28 at f28 hK ⊢
      subst f27
      subst f28
      rw [if_pos (by rfl)]
      go_simp
      exact hK.out _ _ (Below.refl _ _) rfl
    case s30 =>
      refine StepF.of rfl [(27, some 67), (29, some 69)] (by kernel_rfl) ?_
      intro vs u hB hf K hK
      have f27 : (fun v u => v = .bool true) (vs 27) u := hf.1
      have f29 : (fun v u => v = .pointer (some ⟨bb, 3, none⟩)) (vs 29) u := hf.2.1
      clear hf
      simp only [putsA, List.foldl_cons, List.foldl_nil, Act.put, List.setIfInBounds_toArray, List.set_cons_zero, List.set_cons_succ] at hK ⊢
      generalize vs 27 = v27 at f27 hK ⊢
      generalize vs 29 = v29 at f29 hK ⊢
      subst f27
      subst f29
      rw [if_pos (by rfl)]
      have k3 := (HX5.out u hB).1 3 _ rfl
      go_simp
      exact hK.out _ _ (Below.refl _ _) rfl
    case s31 =>
      refine StepF.of rfl [(27, some 67), (30, some 70)] (by kernel_rfl) ?_
      intro vs u hB hf K hK
      have f27 : (fun v u => v = .bool true) (vs 27) u := hf.1
      have f30 : (fun v u => v = (.slice ab m cb)) (vs 30) u := hf.2.1
      clear hf
      simp only [putsA, List.foldl_cons, List.foldl_nil, Act.put, List.setIfInBounds_toArray, List.set_cons_zero, List.set_cons_succ] at hK ⊢
      generalize vs 27 = v27 at f27 hK ⊢
      generalize vs 30 = v30 at f30 hK ⊢
      subst f27
      subst f30
      rw [if_pos (by rfl)]
      go_simp
      exact hK.out _ _ (Below.refl _ _) rfl
    case s32 =>
      refine StepF.of rfl [(27, some 67)] (by kernel_rfl) ?_
      intro vs u hB hf K hK
      have f27 : (fun v u => v = .bool true) (vs 27) u := hf.1
      clear hf
      simp only [putsA, List.foldl_cons, List.foldl_nil, Act.put, List.setIfInBounds_toArray, List.set_cons_zero, List.set_cons_succ] at hK ⊢
      generalize vs 27 = v27 at f27 hK ⊢
      subst f27
      rw [if_pos (by rfl)]
      go_simp
      exact hK.out _ _ (Below.refl _ _) rfl
    case s33 =>
      refine StepF.of rfl [(27, some 67), (32, some 72)] (by kernel_rfl) ?_
      intro vs u hB hf K hK
      have f27 : (fun v u => v = .bool true) (vs 27) u := hf.1
      have f32 : (fun v u => v = .pointer (some ⟨bs, 1, none⟩)) (vs 32) u := hf.2.1
      clear hf
      simp only [putsA, List.foldl_cons, List.foldl_nil, Act.put, List.setIfInBounds_toArray, List.set_cons_zero, List.set_cons_succ] at hK ⊢
      generalize vs 27 = v27 at f27 hK ⊢
      generalize vs 32 = v32 at f32 hK ⊢
      subst f27
      subst f32
      rw [if_pos (by rfl)]
      obtain ⟨k0, k1⟩ := (HS1.out u (HBx.out u hB).2.2.2.1).1
      go_simp
      exact hK.out _ _ (Below.refl _ _) rfl
    case s34 =>
      refine StepF.of rfl [(27, some 67), (33, some 73)] (by kernel_rfl) ?_
      intro vs u hB hf K hK
      have f27 : (fun v u => v = .bool true) (vs 27) u := hf.1
      have f33 : (fun v u => v = (.slice a m c)) (vs 33) u := hf.2.1
      clear hf
      simp only [putsA, List.foldl_cons, List.foldl_nil, Act.put, List.setIfInBounds_toArray, List.set_cons_zero, List.set_cons_succ] at hK ⊢
      generalize vs 27 = v27 at f27 hK ⊢
      generalize vs 33 = v33 at f33 hK ⊢
      subst f27
      subst f33
      rw [if_pos (by rfl)]
      go_simp
      exact hK.out _ _ (Below.refl _ _) rfl
    case s35 =>
      refine StepF.of rfl [(27, some 67), (31, some 71), (34, some 74)] (by kernel_rfl) ?_
      intro vs u hB hf K hK
      have f27 : (fun v u => v = .bool true) (vs 27) u := hf.1
      have f31 : (fun v u => v = .int .i64 (m : Int)) (vs 31) u := hf.2.1
      have f34 : (fun v u => v = .int .i64 (m : Int)) (vs 34) u := hf.2.2.1
      clear hf
      simp only [putsA, List.foldl_cons, List.foldl_nil, Act.put, List.setIfInBounds_toArray, List.set_cons_zero, List.set_cons_succ] at hK ⊢
      generalize vs 27 = v27 at f27 hK ⊢
      generalize vs 31 = v31 at f31 hK ⊢
      generalize vs 34 = v34 at f34 hK ⊢
      subst f27
      subst f31
      subst f34
      rw [if_pos (by rfl)]
      go_simp
      exact hK.out _ _ (Below.refl _ _) rfl
    case s36 =>
      refine StepF.of rfl [(27, some 67), (35, some 75)] (by kernel_rfl) ?_
      intro vs u hB hf K hK
      have f27 : (fun v u => v = .bool true) (vs 27) u := hf.1
      have f35 : (fun v u => v = .bool true) (vs 35) u := hf.2.1
      clear hf
      simp only [putsA, List.foldl_cons, List.foldl_nil, Act.put, List.setIfInBounds_toArray, List.set_cons_zero, List.set_cons_succ] at hK ⊢
      generalize vs 27 = v27 at f27 hK ⊢
      generalize vs 35 = v35 at f35 hK ⊢
      subst f27
      subst f35
      rw [if_pos (by rfl)]
      go_simp
      exact hK.out _ _ (Below.refl _ _) rfl
    case s37 =>
      refine StepF.of rfl [(27, some 67), (36, some 76)] (by kernel_rfl) ?_
      intro vs u hB hf K hK
      have f27 : (fun v u => v = .bool true) (vs 27) u := hf.1
      have f36 : (fun v u => v = .bool true) (vs 36) u := hf.2.1
      clear hf
      simp only [putsA, List.foldl_cons, List.foldl_nil, Act.put, List.setIfInBounds_toArray, List.set_cons_zero, List.set_cons_succ] at hK ⊢
      generalize vs 27 = v27 at f27 hK ⊢
      generalize vs 36 = v36 at f36 hK ⊢
      subst f27
      subst f36
      rw [if_pos (by rfl)]
      go_simp
      exact hK.out _ _ (Below.refl _ _) rfl
    case s38 =>
      refine StepF.of rfl [(37, some 77)] (by kernel_rfl) ?_
      intro vs u hB hf K hK
      have f37 : (fun v u => v = .bool true) (vs 37) u := hf.1
      clear hf
      simp only [putsA, List.foldl_cons, List.foldl_nil, Act.put, List.setIfInBounds_toArray, List.set_cons_zero, List.set_cons_succ] at hK ⊢
      generalize vs 37 = v37 at f37 hK ⊢
      subst f37
      rw [if_pos (by rfl)]
      go_simp
      exact hK.out _ _ (Below.refl _ _) rfl
    case s39 =>
      refine StepF.of rfl [(37, some 77), (38, some 78)] (by kernel_rfl) ?_
      intro vs u hB hf K hK
      have f37 : (fun v u => v = .bool true) (vs 37) u := hf.1
      have f38 : (fun v u => v = .pointer (some ⟨bb, 2, none⟩)) (vs 38) u := hf.2.1
      clear hf
      simp only [putsA, List.foldl_cons, List.foldl_nil, Act.put, List.setIfInBounds_toArray, List.set_cons_zero, List.set_cons_succ] at hK ⊢
      generalize vs 37 = v37 at f37 hK ⊢
      generalize vs 38 = v38 at f38 hK ⊢
      subst f37
      subst f38
      rw [if_pos (by rfl)]
      have k2 := (HX5.out u hB).1 2 _ rfl
      have k3 := (HX5.out u hB).1 3 _ rfl
      go_simp
      exact hK.out _ _ (Below.refl _ _) rfl
    case s40 =>
      refine StepF.of rfl [(37, some 77), (39, some 79)] (by kernel_rfl) ?_
      intro vs u hB hf K hK
      have f37 : (fun v u => v = .bool true) (vs 37) u := hf.1
      have f39 : (fun v u => v = segV size (.slice ab m cb)) (vs 39) u := hf.2.1
      clear hf
      simp only [putsA, List.foldl_cons, List.foldl_nil, Act.put, List.setIfInBounds_toArray, List.set_cons_zero, List.set_cons_succ] at hK ⊢
      generalize vs 37 = v37 at f37 hK ⊢
      generalize vs 39 = v39 at f39 hK ⊢
      subst f37
      subst f39
      rw [if_pos (by rfl)]
      go_simp
      refine (HDp.out u _ (HX5.out u hB).2).mono ?_
      rintro e w8 ⟨rfl, b8⟩
      exact hK.out _ _ b8 rfl
    case s41 =>
      refine StepF.of rfl [(37, some 77), (40, some 80)] (by kernel_rfl) ?_
      intro vs u hB hf K hK
      have f37 : (fun v u => v = .bool true) (vs 37) u := hf.1
      have f40 : (fun v u => v = IR 0 (f : Int)) (vs 40) u := hf.2.1
      clear hf
      simp only [putsA, List.foldl_cons, List.foldl_nil, Act.put, List.setIfInBounds_toArray, List.set_cons_zero, List.set_cons_succ] at hK ⊢
      generalize vs 37 = v37 at f37 hK ⊢
      generalize vs 40 = v40 at f40 hK ⊢
      subst f37
      subst f40
      rw [if_pos (by rfl)]
      go_simp
      exact hK.out _ _ (Below.refl _ _) rfl
    case s42 =>
      refine StepF.of rfl [(37, some 77)] (by kernel_rfl) ?_
      intro vs u hB hf K hK
      have f37 : (fun v u => v = .bool true) (vs 37) u := hf.1
      clear hf
      simp only [putsA, List.foldl_cons, List.foldl_nil, Act.put, List.setIfInBounds_toArray, List.set_cons_zero, List.set_cons_succ] at hK ⊢
      generalize vs 37 = v37 at f37 hK ⊢
      subst f37
      rw [if_pos (by rfl)]
      obtain ⟨k0, k1⟩ := (HS1.out u (HBx.out u hB).2.2.2.1).1
      go_simp
      exact hK.out _ _ (Below.refl _ _) rfl
    case s43 =>
      refine StepF.of rfl [(37, some 77), (40, some 80), (42, some 82)] (by kernel_rfl) ?_
      intro vs u hB hf K hK
      have f37 : (fun v u => v = .bool true) (vs 37) u := hf.1
      have f40 : (fun v u => v = IR 0 (f : Int)) (vs 40) u := hf.2.1
      have f42 : (fun v u => v = segV size (.slice a m c)) (vs 42) u := hf.2.2.1
      clear hf
      simp only [putsA, List.foldl_cons, List.foldl_nil, Act.put, List.setIfInBounds_toArray, List.set_cons_zero, List.set_cons_succ] at hK ⊢
      generalize vs 37 = v37 at f37 hK ⊢
      generalize vs 40 = v40 at f40 hK ⊢
      generalize vs 42 = v42 at f42 hK ⊢
      subst f37
      subst f40
      subst f42
      rw [if_pos (by rfl)]
      go_simp
      refine (HDp.out u _ (HS1.out u (HBx.out u hB).2.2.2.1).2).mono ?_
      rintro e w8 ⟨rfl, b8⟩
      exact hK.out _ _ b8 rfl
    case s44 =>
      refine StepF.of rfl [(37, some 77), (43, some 83)] (by kernel_rfl) ?_
      intro vs u hB hf K hK
      have f37 : (fun v u => v = .bool true) (vs 37) u := hf.1
      have f43 : (fun v u => v = IR 0 (f : Int)) (vs 43) u := hf.2.1
      clear hf
      simp only [putsA, List.foldl_cons, List.foldl_nil, Act.put, List.setIfInBounds_toArray, List.set_cons_zero, List.set_cons_succ] at hK ⊢
      generalize vs 37 = v37 at f37 hK ⊢
      generalize vs 43 = v43 at f43 hK ⊢
      subst f37
      subst f43
      rw [if_pos (by rfl)]
      go_simp
      exact hK.out _ _ (Below.refl _ _) rfl
    case s45 =>
      refine StepF.of rfl [(37, some 77), (41, some 81), (44, some 84)] (by kernel_rfl) ?_
      intro vs u hB hf K hK
      have f37 : (fun v u => v = .bool true) (vs 37) u := hf.1
      have f41 : (fun v u => v = .int .i64 (f : Int)) (vs 41) u := hf.2.1
      have f44 : (fun v u => v = .int .i64 (f : Int)) (vs 44) u := hf.2.2.1
      clear hf
      simp only [putsA, List.foldl_cons, List.foldl_nil, Act.put, List.setIfInBounds_toArray, List.set_cons_zero, List.set_cons_succ] at hK ⊢
      generalize vs 37 = v37 at f37 hK ⊢
      generalize vs 41 = v41 at f41 hK ⊢
      generalize vs 44 = v44 at f44 hK ⊢
      subst f37
      subst f41
      subst f44
      rw [if_pos (by rfl)]
      go_simp
      exact hK.out _ _ (Below.refl _ _) rfl
    case s46 =>
      refine StepF.of rfl [(37, some 77), (45, some 85)] (by kernel_rfl) ?_
      intro vs u hB hf K hK
      have f37 : (fun v u => v = .bool true) (vs 37) u := hf.1
      have f45 : (fun v u => v = .bool true) (vs 45) u := hf.2.1
      clear hf
      simp only [putsA, List.foldl_cons, List.foldl_nil, Act.put, List.setIfInBounds_toArray, List.set_cons_zero, List.set_cons_succ] at hK ⊢
      generalize vs 37 = v37 at f37 hK ⊢
      generalize vs 45 = v45 at f45 hK ⊢
      subst f37
      subst f45
      rw [if_pos (by rfl)]
      go_simp
      exact hK.out _ _ (Below.refl _ _) rfl
    case s47 =>
      refine StepF.of rfl [(43, some 83), (46, some 86)] (by kernel_rfl) ?_
      intro vs u hB hf K hK
      have f43 : (fun v u => v = IR 0 (f : Int)) (vs 43) u := hf.1
      have f46 : (fun v u => v = .bool true) (vs 46) u := hf.2.1
      clear hf
      simp only [putsA, List.foldl_cons, List.foldl_nil, Act.put, List.setIfInBounds_toArray, List.set_cons_zero, List.set_cons_succ] at hK ⊢
      generalize vs 43 = v43 at f43 hK ⊢
      generalize vs 46 = v46 at f46 hK ⊢
      subst f43
      subst f46
      rw [if_pos (by rfl)]
      go_simp
      exact hK.out _ _ (Below.refl _ _) rfl
    case s48 =>
      refine StepF.of rfl [(47, some 87)] (by kernel_rfl) ?_
      intro vs u hB hf K hK
      have f47 : (fun v u => v = .bool true) (vs 47) u := hf.1
      clear hf
      simp only [putsA, List.foldl_cons, List.foldl_nil, Act.put, List.setIfInBounds_toArray, List.set_cons_zero, List.set_cons_succ] at hK ⊢
      generalize vs 47 = v47 at f47 hK ⊢
      subst f47
      rw [if_pos (by rfl)]
      go_simp
      exact hK.out _ _ (Below.refl _ _) rfl
    case s49 =>
      refine StepF.of rfl [(47, some 87), (48, some 88)] (by kernel_rfl) ?_
      intro vs u hB hf K hK
      have f47 : (fun v u => v = .bool true) (vs 47) u := hf.1
      have f48 : (fun v u => v = .int .i64 x) (vs 48) u := hf.2.1
      clear hf
      simp only [putsA, List.foldl_cons, List.foldl_nil, Act.put, List.setIfInBounds_toArray, List.set_cons_zero, List.set_cons_succ] at hK ⊢
      generalize vs 47 = v47 at f47 hK ⊢
      generalize vs 48 = v48 at f48 hK ⊢
      subst f47
      subst f48
      rw [if_pos (by rfl)]
      go_simp
      exact hK.out _ _ (Below.refl _ _) rfl
    case s50 =>
      refine StepF.of rfl [(47, some 87), (49, some 89)] (by kernel_rfl) ?_
      intro vs u hB hf K hK
      have f47 : (fun v u => v = .bool true) (vs 47) u := hf.1
      have f49 : (fun v u => v = segV x (.slice none 0 0)) (vs 49) u := hf.2.1
      clear hf
      simp only [putsA, List.foldl_cons, List.foldl_nil, Act.put, List.setIfInBounds_toArray, List.set_cons_zero, List.set_cons_succ] at hK ⊢
      generalize vs 47 = v47 at f47 hK ⊢
      generalize vs 49 = v49 at f49 hK ⊢
      subst f47
      subst f49
      rw [if_pos (by rfl)]
      go_simp
      refine (HPo.out u).mono ?_
      rintro e w8 ⟨y, P8, rfl, o8, m8, b8⟩
      exact hK.out _ _ b8 ⟨y, rfl⟩
    case s51 =>
      refine StepF.of rfl [(47, some 87), (50, some 90)] (by kernel_rfl) ?_
      intro vs u hB hf K hK
      have f47 : (fun v u => v = .bool true) (vs 47) u := hf.1
      have f50 : (fun v u => ∃ y, v = srV 4 0 0 y) (vs 50) u := hf.2.1
      clear hf
      simp only [putsA, List.foldl_cons, List.foldl_nil, Act.put, List.setIfInBounds_toArray, List.set_cons_zero, List.set_cons_succ] at hK ⊢
      generalize vs 47 = v47 at f47 hK ⊢
      generalize vs 50 = v50 at f50 hK ⊢
      subst f47
      rw [if_pos (by rfl)]
      obtain ⟨y, rfl⟩ := f50
      go_simp
      exact hK.out _ _ (Below.refl _ _) rfl
    case s52 =>
      refine StepF.of rfl [(47, some 87), (51, some 91)] (by kernel_rfl) ?_
      intro vs u hB hf K hK
      have f47 : (fun v u => v = .bool true) (vs 47) u := hf.1
      have f51 : (fun v u => v = .int .i64 4) (vs 51) u := hf.2.1
      clear hf
      simp only [putsA, List.foldl_cons, List.foldl_nil, Act.put, List.setIfInBounds_toArray, List.set_cons_zero, List.set_cons_succ] at hK ⊢
      generalize vs 47 = v47 at f47 hK ⊢
      generalize vs 51 = v51 at f51 hK ⊢
      subst f47
      subst f51
      rw [if_pos (by rfl)]
      go_simp
      exact hK.out _ _ (Below.refl _ _) rfl
    case s53 =>
      refine StepF.of rfl [(47, some 87), (52, some 92)] (by kernel_rfl) ?_
      intro vs u hB hf K hK
      have f47 : (fun v u => v = .bool true) (vs 47) u := hf.1
      have f52 : (fun v u => v = .bool true) (vs 52) u := hf.2.1
      clear hf
      simp only [putsA, List.foldl_cons, List.foldl_nil, Act.put, List.setIfInBounds_toArray, List.set_cons_zero, List.set_cons_succ] at hK ⊢
      generalize vs 47 = v47 at f47 hK ⊢
      generalize vs 52 = v52 at f52 hK ⊢
      subst f47
      subst f52
      rw [if_pos (by rfl)]
      go_simp
      exact hK.out _ _ (Below.refl _ _) rfl
    case last =>
      intro vs u hB hf K hK
      have f0 : (fun v u => v = .pointer (some ⟨br, 2, none⟩)) (vs 0) u := hf.1
      have f1 : (fun v u => v = segV x (.slice ar nr cr)) (vs 1) u := hf.2.1
      have f2 : (fun v u => v = .int .i64 0) (vs 2) u := hf.2.2.1
      have f3 : (fun v u => v = .bool true) (vs 3) u := hf.2.2.2.1
      have f4 : (fun v u => v = .bool true) (vs 4) u := hf.2.2.2.2.1
      have f5 : (fun v u => v = .pointer (some ⟨br, 2, none⟩)) (vs 5) u := hf.2.2.2.2.2.1
      have f6 : (fun v u => v = segV x (.slice ar nr cr)) (vs 6) u := hf.2.2.2.2.2.2.1
      have f7 : (fun v u => ∃ y, v = .agg #[.int .i64 0, y] ∧ SeeI u y F) (vs 7) u := hf.2.2.2.2.2.2.2.1
      have f8 : (fun v u => SeeI u v F) (vs 8) u := hf.2.2.2.2.2.2.2.2.1
      have f9 : (fun v u => v = .pointer (some ⟨ba, 1, none⟩)) (vs 9) u := hf.2.2.2.2.2.2.2.2.2.1
      have f10 : (fun v u => v = (.slice aa f ca)) (vs 10) u := hf.2.2.2.2.2.2.2.2.2.2.1
      have f11 : (fun v u => v = .bool true) (vs 11) u := hf.2.2.2.2.2.2.2.2.2.2.2.1
      have f12 : (fun v u => v = .bool true) (vs 12) u := hf.2.2.2.2.2.2.2.2.2.2.2.2.1
      have f13 : (fun v u => v = .bool true) (vs 13) u := hf.2.2.2.2.2.2.2.2.2.2.2.2.2.1
      have f14 : (fun v u => v = .pointer (some ⟨bo, 0, none⟩)) (vs 14) u := hf.2.2.2.2.2.2.2.2.2.2.2.2.2.2.1
      have f15 : (fun v u => v = .int .i64 0) (vs 15) u := hf.2.2.2.2.2.2.2.2.2.2.2.2.2.2.2.1
      have f16 : (fun v u => v = .bool true) (vs 16) u := hf.2.2.2.2.2.2.2.2.2.2.2.2.2.2.2.2.1
      have f17 : (fun v u => v = .bool true) (vs 17) u := hf.2.2.2.2.2.2.2.2.2.2.2.2.2.2.2.2.2.1
      have f18 : (fun v u => v = .bool true) (vs 18) u := hf.2.2.2.2.2.2.2.2.2.2.2.2.2.2.2.2.2.2.1
      have f19 : (fun v u => v = .pointer (some ⟨bo, 2, none⟩)) (vs 19) u := hf.2.2.2.2.2.2.2.2.2.2.2.2.2.2.2.2.2.2.2.1
      have f20 : (fun v u => v = segV x (.slice ao no co)) (vs 20) u := hf.2.2.2.2.2.2.2.2.2.2.2.2.2.2.2.2.2.2.2.2.1
      have f21 : (fun v u => ∃ y, v = .agg #[.int .i64 0, y] ∧ SeeI u y F) (vs 21) u := hf.2.2.2.2.2.2.2.2.2.2.2.2.2.2.2.2.2.2.2.2.2.1
      have f22 : (fun v u => SeeI u v F) (vs 22) u := hf.2.2.2.2.2.2.2.2.2.2.2.2.2.2.2.2.2.2.2.2.2.2.1
      have f23 : (fun v u => v = .pointer (some ⟨ba, 1, none⟩)) (vs 23) u := hf.2.2.2.2.2.2.2.2.2.2.2.2.2.2.2.2.2.2.2.2.2.2.2.1
      have f24 : (fun v u => v = (.slice aa f ca)) (vs 24) u := hf.2.2.2.2.2.2.2.2.2.2.2.2.2.2.2.2.2.2.2.2.2.2.2.2.1
      have f25 : (fun v u => v = .bool true) (vs 25) u := hf.2.2.2.2.2.2.2.2.2.2.2.2.2.2.2.2.2.2.2.2.2.2.2.2.2.1
      have f26 : (fun v u => v = .bool true) (vs 26) u := hf.2.2.2.2.2.2.2.2.2.2.2.2.2.2.2.2.2.2.2.2.2.2.2.2.2.2.1
      have f27 : (fun v u => v = .bool true) (vs 27) u := hf.2.2.2.2.2.2.2.2.2.2.2.2.2.2.2.2.2.2.2.2.2.2.2.2.2.2.2.1
      have f28 : (fun v u => v = .pointer (some ⟨bb, 2, none⟩)) (vs 28) u := hf.2.2.2.2.2.2.2.2.2.2.2.2.2.2.2.2.2.2.2.2.2.2.2.2.2.2.2.2.1
      have f29 : (fun v u => v = .pointer (some ⟨bb, 3, none⟩)) (vs 29) u := hf.2.2.2.2.2.2.2.2.2.2.2.2.2.2.2.2.2.2.2.2.2.2.2.2.2.2.2.2.2.1
      have f30 : (fun v u => v = (.slice ab m cb)) (vs 30) u := hf.2.2.2.2.2.2.2.2.2.2.2.2.2.2.2.2.2.2.2.2.2.2.2.2.2.2.2.2.2.2.1
      have f31 : (fun v u => v = .int .i64 (m : Int)) (vs 31) u := hf.2.2.2.2.2.2.2.2.2.2.2.2.2.2.2.2.2.2.2.2.2.2.2.2.2.2.2.2.2.2.2.1
      have f32 : (fun v u => v = .pointer (some ⟨bs, 1, none⟩)) (vs 32) u := hf.2.2.2.2.2.2.2.2.2.2.2.2.2.2.2.2.2.2.2.2.2.2.2.2.2.2.2.2.2.2.2.2.1
      have f33 : (fun v u => v = (.slice a m c)) (vs 33) u := hf.2.2.2.2.2.2.2.2.2.2.2.2.2.2.2.2.2.2.2.2.2.2.2.2.2.2.2.2.2.2.2.2.2.1
      have f34 : (fun v u => v = .int .i64 (m : Int)) (vs 34) u := hf.2.2.2.2.2.2.2.2.2.2.2.2.2.2.2.2.2.2.2.2.2.2.2.2.2.2.2.2.2.2.2.2.2.2.1
      have f35 : (fun v u => v = .bool true) (vs 35) u := hf.2.2.2.2.2.2.2.2.2.2.2.2.2.2.2.2.2.2.2.2.2.2.2.2.2.2.2.2.2.2.2.2.2.2.2.1
      have f36 : (fun v u => v = .bool true) (vs 36) u := hf.2.2.2.2.2.2.2.2.2.2.2.2.2.2.2.2.2.2.2.2.2.2.2.2.2.2.2.2.2.2.2.2.2.2.2.2.1
      have f37 : (fun v u => v = .bool true) (vs 37) u := hf.2.2.2.2.2.2.2.2.2.2.2.2.2.2.2.2.2.2.2.2.2.2.2.2.2.2.2.2.2.2.2.2.2.2.2.2.2.1
      have f38 : (fun v u => v = .pointer (some ⟨bb, 2, none⟩)) (vs 38) u := hf.2.2.2.2.2.2.2.2.2.2.2.2.2.2.2.2.2.2.2.2.2.2.2.2.2.2.2.2.2.2.2.2.2.2.2.2.2.2.1
      have f39 : (fun v u => v = segV size (.slice ab m cb)) (vs 39) u := hf.2.2.2.2.2.2.2.2.2.2.2.2.2.2.2.2.2.2.2.2.2.2.2.2.2.2.2.2.2.2.2.2.2.2.2.2.2.2.2.1
      have f40 : (fun v u => v = IR 0 (f : Int)) (vs 40) u := hf.2.2.2.2.2.2.2.2.2.2.2.2.2.2.2.2.2.2.2.2.2.2.2.2.2.2.2.2.2.2.2.2.2.2.2.2.2.2.2.2.1
      have f41 : (fun v u => v = .int .i64 (f : Int)) (vs 41) u := hf.2.2.2.2.2.2.2.2.2.2.2.2.2.2.2.2.2.2.2.2.2.2.2.2.2.2.2.2.2.2.2.2.2.2.2.2.2.2.2.2.2.1
      have f42 : (fun v u => v = segV size (.slice a m c)) (vs 42) u := hf.2.2.2.2.2.2.2.2.2.2.2.2.2.2.2.2.2.2.2.2.2.2.2.2.2.2.2.2.2.2.2.2.2.2.2.2.2.2.2.2.2.2.1
      have f43 : (fun v u => v = IR 0 (f : Int)) (vs 43) u := hf.2.2.2.2.2.2.2.2.2.2.2.2.2.2.2.2.2.2.2.2.2.2.2.2.2.2.2.2.2.2.2.2.2.2.2.2.2.2.2.2.2.2.2.1
      have f44 : (fun v u => v = .int .i64 (f : Int)) (vs 44) u := hf.2.2.2.2.2.2.2.2.2.2.2.2.2.2.2.2.2.2.2.2.2.2.2.2.2.2.2.2.2.2.2.2.2.2.2.2.2.2.2.2.2.2.2.2.1
      have f45 : (fun v u => v = .bool true) (vs 45) u := hf.2.2.2.2.2.2.2.2.2.2.2.2.2.2.2.2.2.2.2.2.2.2.2.2.2.2.2.2.2.2.2.2.2.2.2.2.2.2.2.2.2.2.2.2.2.1
      have f46 : (fun v u => v = .bool true) (vs 46) u := hf.2.2.2.2.2.2.2.2.2.2.2.2.2.2.2.2.2.2.2.2.2.2.2.2.2.2.2.2.2.2.2.2.2.2.2.2.2.2.2.2.2.2.2.2.2.2.1
      have f47 : (fun v u => v = .bool true) (vs 47) u := hf.2.2.2.2.2.2.2.2.2.2.2.2.2.2.2.2.2.2.2.2.2.2.2.2.2.2.2.2.2.2.2.2.2.2.2.2.2.2.2.2.2.2.2.2.2.2.2.1
      have f48 : (fun v u => v = .int .i64 x) (vs 48) u := hf.2.2.2.2.2.2.2.2.2.2.2.2.2.2.2.2.2.2.2.2.2.2.2.2.2.2.2.2.2.2.2.2.2.2.2.2.2.2.2.2.2.2.2.2.2.2.2.2.1
      have f49 : (fun v u => v = segV x (.slice none 0 0)) (vs 49) u := hf.2.2.2.2.2.2.2.2.2.2.2.2.2.2.2.2.2.2.2.2.2.2.2.2.2.2.2.2.2.2.2.2.2.2.2.2.2.2.2.2.2.2.2.2.2.2.2.2.2.1
      have f50 : (fun v u => ∃ y, v = srV 4 0 0 y) (vs 50) u := hf.2.2.2.2.2.2.2.2.2.2.2.2.2.2.2.2.2.2.2.2.2.2.2.2.2.2.2.2.2.2.2.2.2.2.2.2.2.2.2.2.2.2.2.2.2.2.2.2.2.2.1
      have f51 : (fun v u => v = .int .i64 4) (vs 51) u := hf.2.2.2.2.2.2.2.2.2.2.2.2.2.2.2.2.2.2.2.2.2.2.2.2.2.2.2.2.2.2.2.2.2.2.2.2.2.2.2.2.2.2.2.2.2.2.2.2.2.2.2.1
      have f52 : (fun v u => v = .bool true) (vs 52) u := hf.2.2.2.2.2.2.2.2.2.2.2.2.2.2.2.2.2.2.2.2.2.2.2.2.2.2.2.2.2.2.2.2.2.2.2.2.2.2.2.2.2.2.2.2.2.2.2.2.2.2.2.2.1
      have f53 : (fun v u => v = .bool true) (vs 53) u := hf.2.2.2.2.2.2.2.2.2.2.2.2.2.2.2.2.2.2.2.2.2.2.2.2.2.2.2.2.2.2.2.2.2.2.2.2.2.2.2.2.2.2.2.2.2.2.2.2.2.2.2.2.2.1
      clear hf
      simp only [putsA, List.foldl_cons, List.foldl_nil, Act.put, List.setIfInBounds_toArray, List.set_cons_zero, List.set_cons_succ]
      generalize vs 0 = v0 at f0 ⊢
      generalize vs 1 = v1 at f1 ⊢
      generalize vs 2 = v2 at f2 ⊢
      generalize vs 3 = v3 at f3 ⊢
      generalize vs 4 = v4 at f4 ⊢
      generalize vs 5 = v5 at f5 ⊢
      generalize vs 6 = v6 at f6 ⊢
      generalize vs 7 = v7 at f7 ⊢
      generalize vs 8 = v8 at f8 ⊢
      generalize vs 9 = v9 at f9 ⊢
      generalize vs 10 = v10 at f10 ⊢
      generalize vs 11 = v11 at f11 ⊢
      generalize vs 12 = v12 at f12 ⊢
      generalize vs 13 = v13 at f13 ⊢
      generalize vs 14 = v14 at f14 ⊢
      generalize vs 15 = v15 at f15 ⊢
      generalize vs 16 = v16 at f16 ⊢
      generalize vs 17 = v17 at f17 ⊢
      generalize vs 18 = v18 at f18 ⊢
      generalize vs 19 = v19 at f19 ⊢
      generalize vs 20 = v20 at f20 ⊢
      generalize vs 21 = v21 at f21 ⊢
      generalize vs 22 = v22 at f22 ⊢
      generalize vs 23 = v23 at f23 ⊢
      generalize vs 24 = v24 at f24 ⊢
      generalize vs 25 = v25 at f25 ⊢
      generalize vs 26 = v26 at f26 ⊢
      generalize vs 27 = v27 at f27 ⊢
      generalize vs 28 = v28 at f28 ⊢
      generalize vs 29 = v29 at f29 ⊢
      generalize vs 30 = v30 at f30 ⊢
      generalize vs 31 = v31 at f31 ⊢
      generalize vs 32 = v32 at f32 ⊢
      generalize vs 33 = v33 at f33 ⊢
      generalize vs 34 = v34 at f34 ⊢
      generalize vs 35 = v35 at f35 ⊢
      generalize vs 36 = v36 at f36 ⊢
      generalize vs 37 = v37 at f37 ⊢
      generalize vs 38 = v38 at f38 ⊢
      generalize vs 39 = v39 at f39 ⊢
      generalize vs 40 = v40 at f40 ⊢
      generalize vs 41 = v41 at f41 ⊢
      generalize vs 42 = v42 at f42 ⊢
      generalize vs 43 = v43 at f43 ⊢
      generalize vs 44 = v44 at f44 ⊢
      generalize vs 45 = v45 at f45 ⊢
      generalize vs 46 = v46 at f46 ⊢
      generalize vs 47 = v47 at f47 ⊢
      generalize vs 48 = v48 at f48 ⊢
      generalize vs 49 = v49 at f49 ⊢
      generalize vs 50 = v50 at f50 ⊢
      generalize vs 51 = v51 at f51 ⊢
      generalize vs 52 = v52 at f52 ⊢
      generalize vs 53 = v53 at f53 ⊢
      rw [if_pos (by rfl)]
      clear f0 f1 f2 f3 f4 f5 f6 f7 f8 f9 f10 f11 f12 f13 f14 f15 f16 f17 f18 f19 f20 f21 f22 f23 f24 f25 f26 f27 f28 f29 f30 f31 f32 f33 f34 f35 f36 f37 f38 f39 f40 f41 f42 f43 f44 f45 f46 f47 f48 f49 f50 f51 f52
      subst f53
      have hw0 := (HBx.out u hB).2.2.2.2
      go_simp
      refine hK.out _ _ ?_
      clear hK
      go_wp2
      go_ret
      exact ⟨rfl, hw0⟩
  · have hcn : (C != 0) = true := by rw [bne_iff_ne]; exact hc
    have BW2 : Hid (Below w.heap.size w u2) := B1.out.trans (B2.out.mono B1.out.size)
    clear HRR HZe HQe HIp hc
    go_wp2_with fail
    rw [← HU2.out]
    clear q0 t0 t1 HU2
    refine wp_region_facts (by kernel_rfl) 7 (fun v => Below u2.heap.size u2 v) (fun u v => Below u.heap.size u v) (fun i a9 u => match i with | 0 => (fun v u => v = segV size (.slice a m c)) a9 u | 1 => (fun v u => v = .int .i64 x) a9 u | 2 => (fun v u => ∃ y, v = srV C 0 Z y) a9 u | 3 => (fun v u => v = .int .i64 C) a9 u | 4 => (fun v u => v = .pointer (some ⟨w2.heap.size, 0, none⟩)) a9 u | 5 => (fun v u => v = .int .i64 C) a9 u | 6 => (fun v u => v = .bool true) a9 u | _ => True) (by kernel_rfl) [0, 1, 2, 3, 4, 5, 6] (by kernel_rfl) ?b0 ?bk ?fk ⟨?s0, ?s1, ?s2, ?s3, ?s4, ?s5, ?s6, trivial⟩ _ rfl [(0, some 22), (1, some 23), (2, some 24), (3, some 25), (4, some 26), (5, some 27), (6, some 28)] (by kernel_rfl) ?last
    case b0 => exact Below.drew (Below.refl _ _)
    case bk => exact fun u v h hb => h.trans (hb.mono h.size)
    case fk => intro i a9 u u' h hb; match i, h with | 0, h => exact (h) | 1, h => exact (h) | 2, h => exact (h) | 3, h => exact (h) | 4, h => exact (h) | 5, h => exact (h) | 6, h => exact (h) | _ + 7, _ => exact trivial
    case s0 =>
      refine StepF.of rfl [] (by kernel_rfl) ?_
      intro vs u hB hf K hK
      clear hf
      simp only [putsA, List.foldl_nil, Act.put, List.setIfInBounds_toArray] at hK ⊢
      rw [if_pos (by rfl)]
      obtain ⟨k0, k1⟩ := (HS1.out u (B2.out.trans (hB.mono B2.out.size))).1
      go_simp
      exact hK.out _ _ (Below.refl _ _) rfl
    case s1 =>
      refine StepF.of rfl [] (by kernel_rfl) ?_
      intro vs u hB hf K hK
      clear hf
      simp only [putsA, List.foldl_nil, Act.put, List.setIfInBounds_toArray] at hK ⊢
      rw [if_pos (by rfl)]
      go_simp
      exact hK.out _ _ (Below.refl _ _) rfl
    case s2 =>
      refine StepF.of rfl [(0, some 22), (1, some 23)] (by kernel_rfl) ?_
      intro vs u hB hf K hK
      have f0 : (fun v u => v = segV size (.slice a m c)) (vs 0) u := hf.1
      have f1 : (fun v u => v = .int .i64 x) (vs 1) u := hf.2.1
      clear hf
      simp only [putsA, List.foldl_cons, List.foldl_nil, Act.put, List.setIfInBounds_toArray, List.set_cons_zero, List.set_cons_succ] at hK ⊢
      generalize vs 0 = v0 at f0 hK ⊢
      generalize vs 1 = v1 at f1 hK ⊢
      subst f0
      subst f1
      rw [if_pos (by rfl)]
      go_simp
      refine (HSp.out u (B2.out.trans (hB.mono B2.out.size))).mono ?_
      rintro e w8 ⟨y, P8, rfl, o8, m8, b8⟩
      exact hK.out _ _ b8 ⟨y, rfl⟩
    case s3 =>
      refine StepF.of rfl [(2, some 24)] (by kernel_rfl) ?_
      intro vs u hB hf K hK
      have f2 : (fun v u => ∃ y, v = srV C 0 Z y) (vs 2) u := hf.1
      clear hf
      simp only [putsA, List.foldl_cons, List.foldl_nil, Act.put, List.setIfInBounds_toArray, List.set_cons_zero, List.set_cons_succ] at hK ⊢
      generalize vs 2 = v2 at f2 hK ⊢
      rw [if_pos (by rfl)]
      obtain ⟨y, rfl⟩ := f2
      go_simp
      exact hK.out _ _ (Below.refl _ _) rfl
    case s4 =>
      refine StepF.of rfl [] (by kernel_rfl) ?_
      intro vs u hB hf K hK
      clear hf
      simp only [putsA, List.foldl_nil, Act.put, List.setIfInBounds_toArray] at hK ⊢
      rw [if_pos (by rfl)]
      go_simp
      exact hK.out _ _ (Below.refl _ _) rfl
    case s5 =>
      refine StepF.of rfl [(4, some 26)] (by kernel_rfl) ?_
      intro vs u hB hf K hK
      have f4 : (fun v u => v = .pointer (some ⟨w2.heap.size, 0, none⟩)) (vs 4) u := hf.1
      clear hf
      simp only [putsA, List.foldl_cons, List.foldl_nil, Act.put, List.setIfInBounds_toArray, List.set_cons_zero, List.set_cons_succ] at hK ⊢
      generalize vs 4 = v4 at f4 hK ⊢
      subst f4
      rw [if_pos (by rfl)]
      have k0 := (HX2.out u hB).1 0 _ rfl
      go_simp
      exact hK.out _ _ (Below.refl _ _) rfl
    case s6 =>
      refine StepF.of rfl [(3, some 25), (5, some 27)] (by kernel_rfl) ?_
      intro vs u hB hf K hK
      have f3 : (fun v u => v = .int .i64 C) (vs 3) u := hf.1
      have f5 : (fun v u => v = .int .i64 C) (vs 5) u := hf.2.1
      clear hf
      simp only [putsA, List.foldl_cons, List.foldl_nil, Act.put, List.setIfInBounds_toArray, List.set_cons_zero, List.set_cons_succ] at hK ⊢
      generalize vs 3 = v3 at f3 hK ⊢
      generalize vs 5 = v5 at f5 hK ⊢
      subst f3
      subst f5
      rw [if_pos (by rfl)]
      go_simp
      exact hK.out _ _ (Below.refl _ _) rfl
    case last =>
      intro vs u hB hf K hK
      have f0 : (fun v u => v = segV size (.slice a m c)) (vs 0) u := hf.1
      have f1 : (fun v u => v = .int .i64 x) (vs 1) u := hf.2.1
      have f2 : (fun v u => ∃ y, v = srV C 0 Z y) (vs 2) u := hf.2.2.1
      have f3 : (fun v u => v = .int .i64 C) (vs 3) u := hf.2.2.2.1
      have f4 : (fun v u => v = .pointer (some ⟨w2.heap.size, 0, none⟩)) (vs 4) u := hf.2.2.2.2.1
      have f5 : (fun v u => v = .int .i64 C) (vs 5) u := hf.2.2.2.2.2.1
      have f6 : (fun v u => v = .bool true) (vs 6) u := hf.2.2.2.2.2.2.1
      clear hf
      simp only [putsA, List.foldl_cons, List.foldl_nil, Act.put, List.setIfInBounds_toArray, List.set_cons_zero, List.set_cons_succ]
      generalize vs 0 = v0 at f0 ⊢
      generalize vs 1 = v1 at f1 ⊢
      generalize vs 2 = v2 at f2 ⊢
      generalize vs 3 = v3 at f3 ⊢
      generalize vs 4 = v4 at f4 ⊢
      generalize vs 5 = v5 at f5 ⊢
      generalize vs 6 = v6 at f6 ⊢
      rw [if_pos (by rfl)]
      clear f0 f1 f2 f3 f4 f5
      subst f6
      have hw0 := BW2.out.trans (hB.mono BW2.out.size)
      go_simp
      refine hK.out _ _ ?_
      clear hK
      go_wp2
      go_ret
      exact ⟨rfl, hw0⟩
end Go.Proofs.Ytienmmgkiphkdaa
