/-
  ResizeSegs of the model and of the program (since stage 14): their codes, and stacks in rows of their own; nothing that was there is turned.
-/
import Derived.Test.YtdohpfckiahlcaaSgPcOpen
namespace Go.Proofs.Ytdohpfckiahlcaa
open Go.RowKit Go.Extern.Stop Go.Stop Go.Extern Num Go.Lib

set_option maxRecDepth 100000 in
set_option maxHeartbeats 1000000 in
theorem specRe_any (size : Int) (v : Value) (ps : List (List Int)) (item : Int) (w : World) (hs : SmallS ps) (h : SeeP w v ps) :
    Calls Try.prog 5 #[segV size v, .int .i64 item] w fun e w' => AnsS (resC size ps item) 0 (resZ size ps item) (resQ size ps item) w e w' := by
  obtain ⟨R, hR⟩ : ∃ R, R = faultS size ps := ⟨_, rfl⟩
  obtain ⟨C, hC⟩ : ∃ C, C = resC size ps item := ⟨_, rfl⟩
  obtain ⟨Z, hZ⟩ : ∃ Z, Z = resZ size ps item := ⟨_, rfl⟩
  obtain ⟨Q, hQ⟩ : ∃ Q, Q = resQ size ps item := ⟨_, rfl⟩
  obtain ⟨F, hFe⟩ : ∃ F, F = ps.flatten := ⟨_, rfl⟩
  have HC : Hid (C = if R = 0 then openC item F else R) := by show _ = _; rw [hC, hR, hFe]; rfl
  have HZ : Hid (Z = if C = 0 then item else 0) := by show _ = _; rw [hZ, hC]; rfl
  have HQ : Hid (Q = if C = 0 then openL item.toNat F else []) := by show _ = _; rw [hQ, hC, hFe]; rfl
  have HFi : Hid (R = 0 → FineS size ps) := fun h0 => faultS_fine (hR ▸ h0)
  have HFl : Hid (F.length ≤ 1048576) := by show _ ≤ _; rw [hFe]; exact hs.all
  rw [← hC, ← hZ, ← hQ]
  have HS1 : Hid (∀ u, Below w.heap.size w u → ∀ b, SegAt u b size v → Calls Try.prog 14 #[.pointer (some ⟨b, 0, none⟩)] u fun e w' => e = .returned (.int .i64 R) ∧ w' = u) := fun u hu b hb => by rw [hR]; exact l12Fault_any b size v ps u hs hb (h.below hu)
  have HS3 : Hid (FineS size ps → ∀ u, Below w.heap.size w u → ∀ b, SegAt u b size v → Calls Try.prog 16 #[.pointer (some ⟨b, 0, none⟩)] u fun e w' => ∃ x, e = .returned x ∧ w'.ownsRow u.heap.size 2 1 x F.length (cellsI F) ∧ Below u.heap.size u w') := fun hf u hu b hb => by rw [hFe]; exact l12List_any b size v ps u hf hb (h.below hu)
  have HS4 : Hid (∀ (u : World) (x : Value), SeeI u x F → Calls Try.prog 15 #[.int .i64 item, x] u fun e w' => AnsS (openC item F) 0 (openZ item F) (openQ item F) u e w') := fun u x hx => specOs_any item x F u HFl.out hx
  obtain ⟨a, c, rfl, -⟩ := id h
  clear h hs hR hC hZ hQ hFe
  have HA : Hid (∀ u, Below ((w.alloc (.cells #[.int .i64 size, .slice a ps.length c] 28)).alloc (.cells #[.int .i64 0, .int .i64 0, .int .i64 0, .slice none 0 0] 30)).heap.size ((w.alloc (.cells #[.int .i64 size, .slice a ps.length c] 28)).alloc (.cells #[.int .i64 0, .int .i64 0, .int .i64 0, .slice none 0 0] 30)) u → SegAt u w.heap.size size (.slice a ps.length c) ∧ u.cell? ⟨w.heap.size + 1, 0, none⟩ = some (.int .i64 0) ∧ u.cell? ⟨w.heap.size + 1, 1, none⟩ = some (.int .i64 0) ∧ u.cell? ⟨w.heap.size + 1, 2, none⟩ = some (.int .i64 0) ∧ u.cell? ⟨w.heap.size + 1, 3, none⟩ = some (.slice none 0 0) ∧ (∀ j, u.frozen? ⟨w.heap.size + 1, j, none⟩ = false) ∧ w.heap.size + 2 ≤ u.heap.size) := fun u hu => by
    have hz : ((w.alloc (.cells #[.int .i64 size, .slice a ps.length c] 28)).alloc (.cells #[.int .i64 0, .int .i64 0, .int .i64 0, .slice none 0 0] 30)).heap.size = w.heap.size + 2 := by simp
    refine ⟨(SegAt.new w size _ _).below (((Below.refl _ _).alloc (Nat.le_refl _) _).trans (hu.mono (by simp))), ?_, ?_, ?_, ?_, fun j => ?_, by have := hu.size; omega⟩
    · exact cell_keep hu (by simp [go_sem])
    · exact cell_keep hu (by simp [go_sem])
    · exact cell_keep hu (by simp [go_sem])
    · exact cell_keep hu (by simp [go_sem])
    · rw [(bcell hu).2 _ _ (by simp)]; simp [go_sem]
  have H0 : Hid (∀ u, Below ((w.alloc (.cells #[.int .i64 size, .slice a ps.length c] 28)).alloc (.cells #[.int .i64 0, .int .i64 0, .int .i64 0, .slice none 0 0] 30)).heap.size ((w.alloc (.cells #[.int .i64 size, .slice a ps.length c] 28)).alloc (.cells #[.int .i64 0, .int .i64 0, .int .i64 0, .slice none 0 0] 30)) u → Below w.heap.size w u) := fun u hu => (((Below.refl _ _).alloc (Nat.le_refl _) _).alloc (by simp) _).trans (hu.mono (by simp; omega))
  go_enter Try.func5, Try.ntmps5
  go_wp2_with fail
  refine (HS1.out _ (H0.out _ (Below.refl _ _)) _ (HA.out _ (Below.refl _ _)).1).mono ?_
  rintro e w1 ⟨rfl, e1⟩
  have B1 : Hid (Below ((w.alloc (.cells #[.int .i64 size, .slice a ps.length c] 28)).alloc (.cells #[.int .i64 0, .int .i64 0, .int .i64 0, .slice none 0 0] 30)).heap.size ((w.alloc (.cells #[.int .i64 size, .slice a ps.length c] 28)).alloc (.cells #[.int .i64 0, .int .i64 0, .int .i64 0, .slice none 0 0] 30)) w1) := by rw [e1]; exact Below.refl _ _
  clear e1
  obtain ⟨⟨d0, d1⟩, r0, r1, r2, r3, rf, hz⟩ := HA.out w1 B1.out
  have hrl : w.heap.size + 1 < w1.heap.size := by omega
  by_cases hc : R = 0
  · have HF : Hid (FineS size ps) := HFi.out hc
    have e1 : C = openC item F := by rw [HC.out, if_pos hc]
    have HZ0 : Hid (openZ item F = Z) := by show _ = _; rw [HZ.out, e1]; rfl
    have HQ0 : Hid (openQ item F = Q) := by show _ = _; rw [HQ.out, e1]; rfl
    have HC0 : Hid (openC item F = C) := e1.symm
    clear HC HFi HZ HQ e1
    subst hc
    go_wp2_with fail
    refine (HS3.out HF.out _ (H0.out _ B1.out) _ (HA.out _ B1.out).1).mono ?_
    rintro e w2 ⟨x, rfl, o2, b2⟩
    have B2 : Hid (Below ((w.alloc (.cells #[.int .i64 size, .slice a ps.length c] 28)).alloc (.cells #[.int .i64 0, .int .i64 0, .int .i64 0, .slice none 0 0] 30)).heap.size ((w.alloc (.cells #[.int .i64 size, .slice a ps.length c] 28)).alloc (.cells #[.int .i64 0, .int .i64 0, .int .i64 0, .slice none 0 0] 30)) w2) := B1.out.trans (b2.mono B1.out.size)
    have HSx : Hid (SeeI w2 x F) := seeI_own o2
    obtain ⟨ax, cx, hx⟩ := own_form o2
    subst hx
    clear d0 d1 r0 r1 r2 r3 rf hz hrl b2 o2
    go_wp2_with fail
    refine (HS4.out w2 _ HSx.out).mono ?_
    rintro e w3 ⟨x, P, rfl, o3, m3, b3⟩
    rw [HC0.out, HZ0.out]
    have B3 : Hid (Below ((w.alloc (.cells #[.int .i64 size, .slice a ps.length c] 28)).alloc (.cells #[.int .i64 0, .int .i64 0, .int .i64 0, .slice none 0 0] 30)).heap.size ((w.alloc (.cells #[.int .i64 size, .slice a ps.length c] 28)).alloc (.cells #[.int .i64 0, .int .i64 0, .int .i64 0, .slice none 0 0] 30)) w3) := B2.out.trans (b3.mono B2.out.size)
    obtain ⟨⟨d0, d1⟩, r0, r1, r2, r3, rf, hz⟩ := HA.out w3 B3.out
    have hrl : w.heap.size + 1 < w3.heap.size := by omega
    have hz2 : w.heap.size + 2 ≤ w2.heap.size := (HA.out w2 B2.out).2.2.2.2.2.2
    have HV : Hid (PV 54 w3 (w.heap.size + 2) x P) := o3.base hz2
    have HM : Hid (P.map Prod.fst = Q) := by show _ = _; rw [m3, HQ0.out]
    have HBw : Hid (Below w.heap.size w w3) := H0.out _ B3.out
    obtain ⟨av, cv, hv⟩ := o3.form
    subst hv
    generalize P.length = m at HV ⊢
    clear o3 m3 b3
    go_wp2
    refine bodyPost_ret (v := srV C 0 Z (.slice av m cv)) (by simp [results, Try.results5, go_sem, r0, r1, r2, r3]) rfl ⟨_, P, rfl, ?_, HM.out, ?_⟩
    · refine PV.base (B := w.heap.size + 2) ?_ (by omega)
      repeat (first | exact HV.out | refine PV.setLow ?_ (by omega))
    · repeat (first | exact HBw.out | refine Below.setCell ?_ (by simp) _)
  · have hcn : (R != 0) = true := by rw [bne_iff_ne]; exact hc
    have e1 : C = R := by rw [HC.out, if_neg hc]
    have HZ0 : Hid (Z = 0) := by show _ = _; rw [HZ.out, e1, if_neg hc]
    have HQ0 : Hid (Q = []) := by show _ = _; rw [HQ.out, e1, if_neg hc]
    have HR3 : Hid (C = R) := e1
    have HBw : Hid (Below w.heap.size w w1) := H0.out _ B1.out
    clear hc HC HZ HQ e1 HFi
    go_wp2
    refine bodyPost_ret (v := srV R 0 0 (.slice none 0 0)) (by simp [results, Try.results5, go_sem, r0, r1, r2, r3]) rfl ⟨_, [], by rw [HR3.out, HZ0.out], pv_nil _ _ _, by rw [HQ0.out]; rfl, ?_⟩
    repeat (first | exact HBw.out | refine Below.setCell ?_ (by simp) _)
set_option maxRecDepth 100000 in
set_option maxHeartbeats 1000000 in
theorem implRe_any (size : Int) (v : Value) (ps : List (List Int)) (item : Int) (w : World) (hs : SmallS ps) (h : SeeP w v ps) :
    Calls Try.prog 7 #[segV size v, .int .i64 item] w fun e w' => AnsS (resC size ps item) 0 (resZ size ps item) (resQ size ps item) w e w' := by
  obtain ⟨R, hR⟩ : ∃ R, R = faultS size ps := ⟨_, rfl⟩
  obtain ⟨C, hC⟩ : ∃ C, C = resC size ps item := ⟨_, rfl⟩
  obtain ⟨Z, hZ⟩ : ∃ Z, Z = resZ size ps item := ⟨_, rfl⟩
  obtain ⟨Q, hQ⟩ : ∃ Q, Q = resQ size ps item := ⟨_, rfl⟩
  obtain ⟨F, hFe⟩ : ∃ F, F = listC size ps := ⟨_, rfl⟩
  have hFz : R = 0 → F = ps.flatten := fun h0 => by rw [hFe]; unfold listC; rw [if_pos (hR ▸ h0)]
  have HC : Hid (C = if R = 0 then openC item F else R) := by
    show _ = _
    rw [hC]; unfold resC; rw [← hR]
    by_cases h0 : R = 0
    · rw [if_pos h0, if_pos h0, hFz h0]
    · rw [if_neg h0, if_neg h0]
  have HZ : Hid (Z = if C = 0 then item else 0) := by show _ = _; rw [hZ, hC]; rfl
  have HQ : Hid (R = 0 → Q = if C = 0 then openL item.toNat F else []) := fun h0 => by rw [hQ, hC, hFz h0]; rfl
  have HQn : Hid (R ≠ 0 → Q = []) := fun h0 => by
    rw [hQ]; unfold resQ resC; rw [← hR, if_neg h0, if_neg h0]
  have HFl : Hid (F.length ≤ 1048576) := by
    show _ ≤ _
    rw [hFe]; unfold listC
    split
    · exact hs.all
    · simp
  rw [← hC, ← hZ, ← hQ]
  have HS1 : Hid (∀ u, Below w.heap.size w u → Calls Try.prog 18 #[segV size v] u fun e w' => AnsL R F u e w') := fun u hu => by rw [hR, hFe]; exact implLs_any size v ps u hs (h.below hu)
  have HS4 : Hid (∀ (u : World) (x : Value) (B : Nat), u.ownsRow B 2 1 x F.length (cellsI F) → Calls Try.prog 19 #[.int .i64 item, x] u fun e w' => AnsS (openC item F) 0 (openZ item F) (openQ item F) u e w') := fun u x B hx => implOs_any item x F B u HFl.out hx
  obtain ⟨a, c, rfl, -⟩ := id h
  clear h hs hR hC hZ hQ hFe hFz
  have HA : Hid (∀ u, Below ((w.alloc (.cells #[.int .i64 size, .slice a ps.length c] 28)).alloc (.cells #[.int .i64 0, .int .i64 0, .int .i64 0, .slice none 0 0] 30)).heap.size ((w.alloc (.cells #[.int .i64 size, .slice a ps.length c] 28)).alloc (.cells #[.int .i64 0, .int .i64 0, .int .i64 0, .slice none 0 0] 30)) u → SegAt u w.heap.size size (.slice a ps.length c) ∧ u.cell? ⟨w.heap.size + 1, 0, none⟩ = some (.int .i64 0) ∧ u.cell? ⟨w.heap.size + 1, 1, none⟩ = some (.int .i64 0) ∧ u.cell? ⟨w.heap.size + 1, 2, none⟩ = some (.int .i64 0) ∧ u.cell? ⟨w.heap.size + 1, 3, none⟩ = some (.slice none 0 0) ∧ (∀ j, u.frozen? ⟨w.heap.size + 1, j, none⟩ = false) ∧ w.heap.size + 2 ≤ u.heap.size) := fun u hu => by
    have hz : ((w.alloc (.cells #[.int .i64 size, .slice a ps.length c] 28)).alloc (.cells #[.int .i64 0, .int .i64 0, .int .i64 0, .slice none 0 0] 30)).heap.size = w.heap.size + 2 := by simp
    refine ⟨(SegAt.new w size _ _).below (((Below.refl _ _).alloc (Nat.le_refl _) _).trans (hu.mono (by simp))), ?_, ?_, ?_, ?_, fun j => ?_, by have := hu.size; omega⟩
    · exact cell_keep hu (by simp [go_sem])
    · exact cell_keep hu (by simp [go_sem])
    · exact cell_keep hu (by simp [go_sem])
    · exact cell_keep hu (by simp [go_sem])
    · rw [(bcell hu).2 _ _ (by simp)]; simp [go_sem]
  have H0 : Hid (∀ u, Below ((w.alloc (.cells #[.int .i64 size, .slice a ps.length c] 28)).alloc (.cells #[.int .i64 0, .int .i64 0, .int .i64 0, .slice none 0 0] 30)).heap.size ((w.alloc (.cells #[.int .i64 size, .slice a ps.length c] 28)).alloc (.cells #[.int .i64 0, .int .i64 0, .int .i64 0, .slice none 0 0] 30)) u → Below w.heap.size w u) := fun u hu => (((Below.refl _ _).alloc (Nat.le_refl _) _).alloc (by simp) _).trans (hu.mono (by simp; omega))
  obtain ⟨⟨d0, d1⟩, -⟩ := HA.out _ (Below.refl _ _)
  go_enter Try.func7, Try.ntmps7
  go_wp2_with fail
  clear d0 d1
  refine (HS1.out _ (H0.out _ (Below.refl _ _))).mono ?_
  rintro e w1 ⟨x, rfl, o1, b1⟩
  obtain ⟨ax, cx, hx⟩ := own_form o1
  obtain ⟨u1, hu1⟩ : ∃ u, u = w1.alloc (.cells #[.int .i64 R, x] 46) := ⟨_, rfl⟩
  have HU1 : Hid (u1 = w1.alloc (.cells #[.int .i64 R, x] 46)) := hu1
  have B1 : Hid (Below ((w.alloc (.cells #[.int .i64 size, .slice a ps.length c] 28)).alloc (.cells #[.int .i64 0, .int .i64 0, .int .i64 0, .slice none 0 0] 30)).heap.size ((w.alloc (.cells #[.int .i64 size, .slice a ps.length c] 28)).alloc (.cells #[.int .i64 0, .int .i64 0, .int .i64 0, .slice none 0 0] 30)) u1) := by rw [hu1]; exact b1.alloc b1.size _
  have y0 : u1.cell? ⟨w1.heap.size, 0, none⟩ = some (.int .i64 R) := by rw [hu1, World.cell?_alloc_at _ _ _ _ rfl]; rfl
  have y1 : u1.cell? ⟨w1.heap.size, 1, none⟩ = some x := by rw [hu1, World.cell?_alloc_at _ _ _ _ rfl]; rfl
  have HO1 : Hid (u1.ownsRow 0 2 1 x F.length (cellsI F)) := by rw [hu1]; exact own_base (o1.alloc _) (Nat.zero_le _)
  obtain ⟨⟨d0, d1⟩, r0, r1, r2, r3, rf, hz⟩ := HA.out u1 B1.out
  have hrl : w.heap.size + 1 < u1.heap.size := by omega
  have HBw : Hid (Below w.heap.size w u1) := H0.out _ B1.out
  subst hx
  by_cases hc : R = 0
  · have e1 : C = openC item F := by rw [HC.out, if_pos hc]
    have HZ0 : Hid (openZ item F = Z) := by show _ = _; rw [HZ.out, e1]; rfl
    have HQ0 : Hid (openQ item F = Q) := by show _ = _; rw [HQ.out hc, e1]; rfl
    have HC0 : Hid (openC item F = C) := e1.symm
    clear HC HZ HQ HQn e1 o1 b1
    subst hc
    rw [hu1] at y0 y1
    clear hu1 d0 d1 r0 r1 r2 r3 rf
    go_wp2_with fail
    rw [← HU1.out]
    clear HU1 y0 y1
    refine (HS4.out u1 _ _ HO1.out).mono ?_
    rintro e w3 ⟨x, P, rfl, o3, m3, b3⟩
    rw [HC0.out, HZ0.out]
    have B3 : Hid (Below ((w.alloc (.cells #[.int .i64 size, .slice a ps.length c] 28)).alloc (.cells #[.int .i64 0, .int .i64 0, .int .i64 0, .slice none 0 0] 30)).heap.size ((w.alloc (.cells #[.int .i64 size, .slice a ps.length c] 28)).alloc (.cells #[.int .i64 0, .int .i64 0, .int .i64 0, .slice none 0 0] 30)) w3) := B1.out.trans (b3.mono B1.out.size)
    obtain ⟨⟨d0, d1⟩, r0, r1, r2, r3, rf, hz3⟩ := HA.out w3 B3.out
    have hrl3 : w.heap.size + 1 < w3.heap.size := by omega
    have HV : Hid (PV 54 w3 (w.heap.size + 2) x P) := o3.base hz
    have HM : Hid (P.map Prod.fst = Q) := by show _ = _; rw [m3, HQ0.out]
    have HBw3 : Hid (Below w.heap.size w w3) := H0.out _ B3.out
    obtain ⟨av, cv, hv⟩ := o3.form
    subst hv
    generalize P.length = m at HV ⊢
    clear o3 m3 b3 hrl hz
    go_wp2
    refine bodyPost_ret (v := srV C 0 Z (.slice av m cv)) (by simp [results, Try.results7, go_sem, r0, r1, r2, r3]) rfl ⟨_, P, rfl, ?_, HM.out, ?_⟩
    · refine PV.base (B := w.heap.size + 2) ?_ (by omega)
      repeat (first | exact HV.out | refine PV.setLow ?_ (by omega))
    · repeat (first | exact HBw3.out | refine Below.setCell ?_ (by simp) _)
  · have hcn : (R != 0) = true := by rw [bne_iff_ne]; exact hc
    have e1 : C = R := by rw [HC.out, if_neg hc]
    have HZ0 : Hid (Z = 0) := by show _ = _; rw [HZ.out, e1, if_neg hc]
    have HQ0 : Hid (Q = []) := HQn.out hc
    have HR3 : Hid (C = R) := e1
    rw [hu1] at y0 y1 d0 d1 r0 r1 r2 r3 rf hrl
    rw [HU1.out] at HBw
    clear hc HC HZ HQ HQn e1 hu1 HU1 o1 b1 HO1
    go_wp2
    refine bodyPost_ret (v := srV R 0 0 (.slice none 0 0)) (by simp [results, Try.results7, go_sem, r0, r1, r2, r3]) rfl ⟨_, [], by rw [HR3.out, HZ0.out], pv_nil _ _ _, by rw [HQ0.out]; rfl, ?_⟩
    repeat (first | exact HBw.out | refine Below.setCell ?_ (by simp) _)
end Go.Proofs.Ytdohpfckiahlcaa
