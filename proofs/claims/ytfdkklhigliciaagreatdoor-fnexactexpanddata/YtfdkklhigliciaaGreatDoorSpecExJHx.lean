/-
  Parts of the proof laid into one text, one behind the other; each says at its head what is proved in it.
-/
import Derived.Test.YtfdkklhigliciaaGreatDoorSpecExIHx
/-
  The model's l4Expand at a list, and so at every datum.
-/
namespace Go.Proofs.YtfdkklhigliciaaGreatDoor
open Go.RowKit Go.Extern.Stop Go.Stop Go.Extern Num Go.Lib

set_option maxRecDepth 100000 in
set_option maxHeartbeats 4000000 in
theorem l4Expand_list (l : List Dat) (hFi : Fine l) (n : Nat) (hX : ExS l n) (w : World) (B m g dc a : Nat) (par f : Int) (E : Env) (C : List Cor) (F : List Frm) (h : St w B m g dc l C F f E) (ha : a < l.length) (hn : l.length ≤ a + (n + 1)) (hE : E.length + (n + 1) ≤ 1000) (h9 : (expF l (n + 1) a par E C).2.length ≤ 900) (hk : ¬ (kindAt l a = 1 ∨ kindAt l a = 2 ∨ kindAt l a = 3)) :
    Calls Tryz.prog 19 #[.pointer (some ⟨m, 0, none⟩), .int .i64 (a : Int), .int .i64 par, .int .i64 f] w fun e w' => AnsX B m g dc l F (expF l (n + 1) a par E C) w e w' := by
  have hBw : B ≤ w.heap.size := by obtain ⟨P, h1, _⟩ := h; exact h1.hi
  have hmB : m < B := by obtain ⟨P, h1, _⟩ := h; exact h1.lo
  have HC : Hid (∀ u c D, c ≠ 0 → Below w.heap.size w u → AnsX B m g dc l F (c, D) w (.returned (.int .i64 c)) u) := fun u c D hc hu => AnsX.code hc (Kp.of_below hu) (hu.mono (show m ≤ w.heap.size by omega))
  have hC9 : C.length ≤ 900 := Nat.le_trans (expF_grows l (n + 1) a par E C) h9
  obtain ⟨R, HR⟩ : ∃ R, Hid (R = expF l (n + 1) a par E C) := ⟨_, rfl⟩
  rw [← show R = _ from HR.out] at h9 ⊢
  have HSt : Hid (St w B m g dc l C F f E) := h
  have hg0 : w.cell? ⟨m, 0, none⟩ = some (.slice (some ⟨g, 0, none⟩) l.length dc) := by obtain ⟨P, h1, _⟩ := h; exact h1.hd
  have hrow : RowD w g l := by obtain ⟨P, h1, _⟩ := h; exact h1.row
  obtain ⟨k0, _, _, _⟩ := hrow a ha
  obtain ⟨kd, Hkd⟩ : ∃ kd : Int, Hid (kd = l[a].kind) := ⟨l[a].kind, show l[a].kind = l[a].kind from rfl⟩
  rw [← show kd = _ from Hkd.out] at k0
  have ek : kindAt l a = kd := by rw [show kd = _ from Hkd.out]; unfold kindAt; simp [ha]
  obtain ⟨T, HT⟩ : ∃ T, Hid (T = partsD l a) := ⟨_, rfl⟩
  have HTm : Hid (∀ b ∈ T, ∃ i : Nat, b = (i : Int) ∧ i < l.length ∧ l.length ≤ i + n) := fun b hb => by
    rw [show T = _ from HT.out] at hb
    obtain ⟨i, h1, h2, h3⟩ := mem_partsD hFi hb
    exact ⟨i, h1, h2, by omega⟩
  have hTl : T.length ≤ 80 := by rw [show T = _ from HT.out]; exact Nat.le_trans (partsTo_len _ _ _) hFi.len
  have HR1 : Hid (R = if T.length = 0 then ((1 : Int), C)
    else if kindAt l (T.getD 0 0) = 3 ∧ kwB (nameAt l (T.getD 0 0)) = true then formF l (expF l n) (nameAt l (T.getD 0 0)) T par E C
    else if 4 < T.length then ((2 : Int), C)
    else allF (fun b D => expF l n b C.length E D) T (C ++ [coC 9 par 0 0 ⟨#[]⟩ []])) := by
    show _ = _
    rw [show R = _ from HR.out, show T = _ from HT.out]
    simp only [expF]
    rw [if_neg (fun e => hk (by omega)), if_neg (fun e => hk (by omega))]
  have HPa : Hid (Calls Tryz.prog 44 #[.slice (some ⟨g, 0, none⟩) l.length dc, .int .i64 (a : Int)] w fun e w' => ∃ q c, e = .returned (.slice (some ⟨q, 0, none⟩) T.length c) ∧ w'.ownsRow w.heap.size 2 1 (.slice (some ⟨q, 0, none⟩) T.length c) T.length (cellsI T) ∧ Below w.heap.size w w') := by
    rw [show T = _ from HT.out]
    exact l3Parts_any g dc l a w hrow (by have := hFi.len; omega)
  rw [ek] at hk
  have e1 : (kd == 1) = false := by simp; omega
  have e2 : (kd == 2) = false := by simp; omega
  have e3 : (kd == 3) = false := by simp; omega
  clear HR ek Hkd h HT hk
  go_enter Tryz.func19, Tryz.ntmps19
  go_wp2_with fail
  refine HPa.out.mono ?_
  rintro e w1 ⟨tq, tc, rfl, ho, b1⟩
  have HTo : Hid (w1.ownsRow w.heap.size 2 1 (.slice (some ⟨tq, 0, none⟩) T.length tc) T.length (cellsI T)) := ho
  have hTc : T.length ≤ tc := by
    rcases ho.2 with ⟨hv, _⟩ | ⟨g', cap, cur, hv, _, _, h1, _⟩
    · cases hv
    · injection hv with _ _ e; omega
  have HB1 : Hid (Below w.heap.size w w1) := b1
  have hg1 := cell_keep b1 hg0
  have hrow1 : Hid (RowD w1 g l) := hrow.below b1
  clear ho b1 HPa hrow hg0 k0
  by_cases hT0 : T.length = 0
  · have HW : Hid (AnsX B m g dc l F R w (.returned (.int .i64 1)) w1) := by rw [show R = _ from HR1.out, if_pos hT0]; exact HC.out _ _ _ (by decide) HB1.out
    have hT0' : ((T.length : Int) == 0) = true := by simpa using hT0
    clear HR1 HC HTo hT0
    go_wp2
    go_ret
    exact HW.out
  obtain ⟨j0, hj0, j0l, _⟩ := HTm.out (T[0]'(by omega)) (List.getElem_mem _)
  have t0 := rowI_at HTo.out 0 (by omega)
  rw [hj0] at t0
  have eg : T.getD 0 0 = (j0 : Int) := by rw [← hj0]; simp [List.getD, List.getElem?_eq_getElem (show 0 < T.length by omega)]
  obtain ⟨k0, _, _, k3⟩ := hrow1.out j0 j0l
  obtain ⟨kh, Hkh⟩ : ∃ kh : Int, Hid (kh = l[j0].kind) := ⟨l[j0].kind, show l[j0].kind = l[j0].kind from rfl⟩
  obtain ⟨z, HZ⟩ : ∃ z : ByteArray, Hid (z = l[j0].name) := ⟨l[j0].name, show l[j0].name = l[j0].name from rfl⟩
  rw [← show kh = _ from Hkh.out] at k0
  rw [← show z = _ from HZ.out] at k3
  have ekh : kindAt l (j0 : Int) = kh := by rw [show kh = _ from Hkh.out]; unfold kindAt; simp [j0l]
  have ezh : nameAt l (j0 : Int) = z := by rw [show z = _ from HZ.out]; unfold nameAt; simp [j0l]
  have HR2 : Hid (R = if kh = 3 ∧ kwB z = true then formF l (expF l n) z T par E C
    else if 4 < T.length then ((2 : Int), C)
    else allF (fun b D => expF l n b C.length E D) T (C ++ [coC 9 par 0 0 ⟨#[]⟩ []])) := by
    show _ = _
    rw [show R = _ from HR1.out, if_neg hT0, eg, ekh, ezh]
  have hT0' : ((T.length : Int) == 0) = false := beq_false_of_ne (by omega)
  clear HR1 hj0 eg ekh ezh Hkh HZ
  go_wp2_with fail
  have q0 : ∀ p : BW w1, p.x.cell? ⟨m, 0, none⟩ = some (.slice (some ⟨g, 0, none⟩) l.length dc) := fun p => p.cell hg1
  have q1 : ∀ p : BW w1, p.x.cell? ⟨tq, 0, none⟩ = some (.int .i64 (j0 : Int)) := fun p => p.cell t0
  have hne := bw_some w1
  refine wp_region_below (by kernel_rfl) (by kernel_rfl) ?_
  repeat (go_big_quiet_step (fail))
  refine wpQuiet_nil ?_
  intro wq hw'
  obtain ⟨⟨_, b2⟩, rfl⟩ := hw'
  have HBq : Hid (Below w.heap.size w wq) := HB1.out.trans (b2.mono HB1.out.size)
  have HTq : Hid (wq.ownsRow w.heap.size 2 1 (.slice (some ⟨tq, 0, none⟩) T.length tc) T.length (cellsI T)) := own_below HTo.out b2
  have k0' := cell_keep b2 k0
  have k3' := cell_keep b2 k3
  clear q0 q1 hne b2 k0 k3 t0 hg1 hrow1 HTo HB1
  have HKw : Hid (∀ u, Calls Tryz.prog 42 #[.string z] u fun e w' => e = .returned (.bool (kwB z)) ∧ Below u.heap.size u w') := fun u => specKw_any z u
  by_cases h3 : kh = 3
  · subst h3
    go_wp2_with fail
    refine (HKw.out _).mono ?_
    rintro e w2 ⟨rfl, b3⟩
    have HB2 : Hid (Below w.heap.size w w2) := HBq.out.trans (b3.mono HBq.out.size)
    have HT2 : Hid (w2.ownsRow w.heap.size 2 1 (.slice (some ⟨tq, 0, none⟩) T.length tc) T.length (cellsI T)) := own_below HTq.out b3
    have k3q := cell_keep b3 k3'
    clear b3 k0' k3' HTq HBq
    cases hkw : kwB z with
    | true =>
      have HR3 : Hid (R = formF l (expF l n) z T par E C) := by show _ = _; rw [show R = _ from HR2.out, if_pos ⟨trivial, hkw⟩]
      have HFm : Hid (Calls Tryz.prog 45 #[.pointer (some ⟨m, 0, none⟩), .string z, .slice (some ⟨tq, 0, none⟩) T.length tc, .int .i64 par, .int .i64 f] w2 fun e w' => AnsX B m g dc l F R w2 e w') := by
        rw [show R = _ from HR3.out] at h9 ⊢
        exact l4Form_of l hFi n hX w2 B m g dc tq 0 tc z T par f E C F (HSt.out.below HB2.out) (IRow.of HT2.out hBw) hTc (by omega) HTm.out (by omega) h9
      have HK2 : Hid (Kp B w w2 ∧ Below m w w2) := ⟨Kp.of_below HB2.out, HB2.out.mono (show m ≤ w.heap.size by omega)⟩
      clear HR2 HR3 h9 hX HSt HTm HC HT2 HKw hkw HB2
      go_wp2_with fail
      refine HFm.out.mono ?_
      rintro e wx hx
      have HX : Hid (AnsX B m g dc l F R w2 e wx) := hx
      have he := hx.1
      clear hx HFm
      subst he
      have HW : Hid (AnsX B m g dc l F R w (.returned (.int .i64 R.1)) wx) := HX.out.pre HK2.out.1 HK2.out.2
      clear HX HK2
      obtain ⟨cc, hcc⟩ : ∃ cc, Hid (cc = R.1) := ⟨_, rfl⟩
      rw [← show cc = _ from hcc.out] at HW ⊢
      go_wp2
      go_ret
      exact HW.out
    | false =>
      have HR3 : Hid (R = if 4 < T.length then ((2 : Int), C)
        else allF (fun b D => expF l n b C.length E D) T (C ++ [coC 9 par 0 0 ⟨#[]⟩ []])) := by show _ = _; rw [show R = _ from HR2.out, if_neg (fun e => by rw [hkw] at e; cases e.2)]
      clear HR2 hkw
      by_cases h4 : 4 < T.length
      · have HW : Hid (AnsX B m g dc l F R w (.returned (.int .i64 2)) w2) := by rw [show R = _ from HR3.out, if_pos h4]; exact HC.out _ _ _ (by decide) HB2.out
        have h4' : decide ((T.length : Int) > 4) = true := decide_eq_true (by omega)
        clear HR3 HC HT2 HKw
        go_wp2
        go_ret
        exact HW.out
      · have HR4 : Hid (R = allF (fun b D => expF l n b C.length E D) T (C ++ [coC 9 par 0 0 ⟨#[]⟩ []])) := by show _ = _; rw [show R = _ from HR3.out, if_neg h4]
        have h4' : decide ((T.length : Int) > 4) = false := decide_eq_false (by omega)
        have HPt : Hid (Calls Tryz.prog 40 #[.pointer (some ⟨m, 0, none⟩), .agg #[.int .i64 9, .int .i64 par, .int .i64 0, .int .i64 0, .string ⟨#[]⟩, .slice none 0 0]] w2 fun e w' => e = .returned (.int .i64 (C.length : Nat)) ∧ St w' B m g dc l (C ++ [coC 9 par 0 0 ⟨#[]⟩ []]) F f E ∧ Kp B w2 w' ∧ Below m w2 w') := putS_any w2 B m g dc l C F f E 9 par 0 0 ⟨#[]⟩ (HSt.out.below HB2.out) (by omega)
        have HLr : Hid (IRow w2 B (some ⟨tq, 0, none⟩) T) := IRow.of HT2.out hBw
        have HKq : Hid (Kp B w w2 ∧ Below m w w2) := ⟨Kp.of_below HB2.out, HB2.out.mono (show m ≤ w.heap.size by omega)⟩
        clear HC HT2 HKw HR3
        go_wp2_with fail
        refine HPt.out.mono ?_
        rintro e w3 ⟨rfl, hs, hk3, hb3⟩
        have HS3 : Hid (St w3 B m g dc l (C ++ [coC 9 par 0 0 ⟨#[]⟩ []]) F f E) := hs
        have HK3 : Hid (Kp B w w3 ∧ Below m w w3) := ⟨HKq.out.1.trans hk3, HKq.out.2.trans hb3⟩
        have HL3 : Hid (IRow w3 B (some ⟨tq, 0, none⟩) T) := HLr.out.keep hk3
        have HAl : Hid (Calls Tryz.prog 46 #[.pointer (some ⟨m, 0, none⟩), .slice (some ⟨tq, 0, none⟩) T.length tc, .int .i64 (C.length : Nat), .int .i64 f] w3 fun e w' => AnsX B m g dc l F R w3 e w') := by
          rw [show R = _ from HR4.out] at h9 ⊢
          exact l4All_of l n hX w3 B m g dc _ tc T C.length f E _ F HS3.out HL3.out HTm.out (by omega) (by omega) (fun a D => expF_grows l n a _ E D) h9
        clear hs hk3 hb3 HPt HKq HLr HS3 HL3 HR4 h9 hX HSt HTm
        go_wp2_with fail
        refine HAl.out.mono ?_
        rintro e wx hx
        have HX : Hid (AnsX B m g dc l F R w3 e wx) := hx
        have he := hx.1
        clear hx HAl
        subst he
        have HW : Hid (AnsX B m g dc l F R w (.returned (.int .i64 R.1)) wx) := HX.out.pre HK3.out.1 HK3.out.2
        clear HX HK3
        obtain ⟨cc, hcc⟩ : ∃ cc, Hid (cc = R.1) := ⟨_, rfl⟩
        rw [← show cc = _ from hcc.out] at HW ⊢
        go_wp2
        go_ret
        exact HW.out
  · have e4 : (kh == 3) = false := by simpa using h3
    have HR3 : Hid (R = if 4 < T.length then ((2 : Int), C)
      else allF (fun b D => expF l n b C.length E D) T (C ++ [coC 9 par 0 0 ⟨#[]⟩ []])) := by show _ = _; rw [show R = _ from HR2.out, if_neg (fun e => h3 e.1)]
    clear HR2 k3'
    by_cases h4 : 4 < T.length
    · have HW : Hid (AnsX B m g dc l F R w (.returned (.int .i64 2)) wq) := by rw [show R = _ from HR3.out, if_pos h4]; exact HC.out _ _ _ (by decide) HBq.out
      have h4' : decide ((T.length : Int) > 4) = true := decide_eq_true (by omega)
      clear HR3 HC HTq HKw
      go_wp2
      go_ret
      exact HW.out
    · have HR4 : Hid (R = allF (fun b D => expF l n b C.length E D) T (C ++ [coC 9 par 0 0 ⟨#[]⟩ []])) := by show _ = _; rw [show R = _ from HR3.out, if_neg h4]
      have h4' : decide ((T.length : Int) > 4) = false := decide_eq_false (by omega)
      have HPt : Hid (Calls Tryz.prog 40 #[.pointer (some ⟨m, 0, none⟩), .agg #[.int .i64 9, .int .i64 par, .int .i64 0, .int .i64 0, .string ⟨#[]⟩, .slice none 0 0]] wq fun e w' => e = .returned (.int .i64 (C.length : Nat)) ∧ St w' B m g dc l (C ++ [coC 9 par 0 0 ⟨#[]⟩ []]) F f E ∧ Kp B wq w' ∧ Below m wq w') := putS_any wq B m g dc l C F f E 9 par 0 0 ⟨#[]⟩ (HSt.out.below HBq.out) (by omega)
      have HLr : Hid (IRow wq B (some ⟨tq, 0, none⟩) T) := IRow.of HTq.out hBw
      have HKq : Hid (Kp B w wq ∧ Below m w wq) := ⟨Kp.of_below HBq.out, HBq.out.mono (show m ≤ w.heap.size by omega)⟩
      clear HC HTq HKw HR3
      go_wp2_with fail
      refine HPt.out.mono ?_
      rintro e w3 ⟨rfl, hs, hk3, hb3⟩
      have HS3 : Hid (St w3 B m g dc l (C ++ [coC 9 par 0 0 ⟨#[]⟩ []]) F f E) := hs
      have HK3 : Hid (Kp B w w3 ∧ Below m w w3) := ⟨HKq.out.1.trans hk3, HKq.out.2.trans hb3⟩
      have HL3 : Hid (IRow w3 B (some ⟨tq, 0, none⟩) T) := HLr.out.keep hk3
      have HAl : Hid (Calls Tryz.prog 46 #[.pointer (some ⟨m, 0, none⟩), .slice (some ⟨tq, 0, none⟩) T.length tc, .int .i64 (C.length : Nat), .int .i64 f] w3 fun e w' => AnsX B m g dc l F R w3 e w') := by
        rw [show R = _ from HR4.out] at h9 ⊢
        exact l4All_of l n hX w3 B m g dc _ tc T C.length f E _ F HS3.out HL3.out HTm.out (by omega) (by omega) (fun a D => expF_grows l n a _ E D) h9
      clear hs hk3 hb3 HPt HKq HLr HS3 HL3 HR4 h9 hX HSt HTm
      go_wp2_with fail
      refine HAl.out.mono ?_
      rintro e wx hx
      have HX : Hid (AnsX B m g dc l F R w3 e wx) := hx
      have he := hx.1
      clear hx HAl
      subst he
      have HW : Hid (AnsX B m g dc l F R w (.returned (.int .i64 R.1)) wx) := HX.out.pre HK3.out.1 HK3.out.2
      clear HX HK3
      obtain ⟨cc, hcc⟩ : ∃ cc, Hid (cc = R.1) := ⟨_, rfl⟩
      rw [← show cc = _ from hcc.out] at HW ⊢
      go_wp2
      go_ret
      exact HW.out
theorem l4Expand_any (l : List Dat) (hFi : Fine l) : ∀ n, ExS l n
  | 0 => fun w B m g dc a par f E C F h ha hn _ _ => absurd ha (by omega)
  | n + 1 => fun w B m g dc a par f E C F h ha hn hE h9 => by
    by_cases hk : kindAt l a = 1 ∨ kindAt l a = 2 ∨ kindAt l a = 3
    · exact l4Expand_atom l hFi n w B m g dc a par f E C F h ha hE h9 hk
    · exact l4Expand_list l hFi n (l4Expand_any l hFi n) w B m g dc a par f E C F h ha hn hE h9 hk
end Go.Proofs.YtfdkklhigliciaaGreatDoor
