/-
  Parts of the proof laid into one text, one behind the other; each says at its head what is proved in it.
-/
import Derived.Test.YtfdkklhigliciaaGreatDoorImExHHx
/-
  The program's listForm and formAt: what kind of form a datum is, or the panic that carries a code; nothing that was there is turned.
-/
namespace Go.Proofs.YtfdkklhigliciaaGreatDoor
open Go.RowKit Go.Extern.Stop Go.Stop Go.Extern Num Go.Lib Go.Shelf

set_option maxRecDepth 100000 in
set_option maxHeartbeats 600000 in
theorem listForm_any (w : World) (n₀ m tb : Nat) (l : List Dat) (h : Rd4 w n₀ m tb l) (B : Nat) (hB : B ≤ w.heap.size) (ao : Option Addr) (cp : Nat) (p : List Int) (hp : IRow w B ao p) (hcp : p.length ≤ cp) (hm : ∀ b ∈ p, ∃ j : Nat, b = (j : Int) ∧ j < l.length) :
    Calls Tryz.prog 108 #[.pointer (some ⟨m, 0, none⟩), .slice ao p.length cp] w fun e w' => AnsG B (listD l p) w e w' := by
  obtain ⟨R, hR⟩ : ∃ R, R = listD l p := ⟨_, rfl⟩
  rw [← hR]
  have HR : Hid (R = listD l p) := hR
  have HE : Hid (∀ (u : World) (c : Int), c ≠ 0 → R.1 = c → Below w.heap.size w u → AnsG B R w (.panicked (pan c)) u) := fun u c hc h0 hu => AnsG.code hc h0 hu
  cases p with
  | nil =>
    have HA : Hid (AnsG B R w (.panicked (pan 1)) w) := HE.out _ _ (by decide) (by rw [show R = _ from HR.out]; rfl) (Below.refl _ _)
    clear HE HR hR h hp
    go_enter Tryz.func108, Tryz.ntmps108
    go_wp2_with (go_at_call 53; refine (demand_no _ _).mono ?_; rintro e wd1 ⟨rfl, hwd⟩; replace hwd := hwd.symm; subst hwd)
    exact ⟨rfl, HA.out⟩
  | cons p0 r =>
    obtain ⟨j, rfl, hj⟩ := hm p0 (by simp)
    obtain ⟨q, off, rfl, hc⟩ := hp.at (by simp)
    have c0 := hc 0 (by simp)
    simp only [List.getElem_cons_zero, Nat.add_zero] at c0
    have HIr : Hid (IRow w B (some ⟨q, off + 1, none⟩) r) := hp.drop 1
    have HIp : Hid (IRow w B (some ⟨q, off, none⟩) ((j : Int) :: r)) := hp
    have HTo : Hid (∀ u, Below w.heap.size w u → Calls Tryz.prog 106 #[.pointer (some ⟨m, 0, none⟩), .int .i64 (j : Int)] u fun e w' => e = .returned (.agg #[.int .i64 (tkD l[j].kind), .int .i64 l[j].num, .string l[j].name]) ∧ Below u.heap.size u w') := fun u hu => tokenAt_any u n₀ m tb l (h.below hu).tk j hj
    have hnm : nameAt l j = l[j].name := by unfold nameAt; simp [hj]
    have HKw : Hid (∀ (z : ByteArray) (u : World) (o c : Nat), (o = off + 1 ∨ r = []) → Below w.heap.size w u → Calls Tryz.prog 139 #[.pointer (some ⟨m, 0, none⟩), .string z, .slice (some ⟨q, o, none⟩) r.length c] u fun e w' => AnsG B (keyD l z r) w e w') := fun z u o c ho hu => (keyword_any u n₀ m tb l (h.below hu) z B (Nat.le_trans hB hu.size) _ _ r (by rcases ho with rfl | rfl; exact HIr.out.below hu; exact .inl rfl) (fun b hb => hm b (by simp [hb]))).mono fun e w' h => h.pre hu
    have HR1 : Hid (R = if kwB l[j].name = true then keyD l l[j].name r else if 4 < r.length + 1 then (2, fm0) else (0, fmP 9 ((j : Int) :: r))) := by
      show _ = _
      rw [show R = _ from HR.out, ← hnm]
      simp [listD]
    have hfK : ∀ (x y : Int) (z : ByteArray) (u : World), (Instr.field 89 (.agg #[.int .i64 x, .int .i64 y, .string z]) 2).run Tryz.prog u = .ok (.string z) u := fieldTk2
    have HK : Hid (∀ u, Calls Tryz.prog 138 #[.string l[j].name] u fun e w' => e = .returned (.bool (kwB l[j].name)) ∧ w' = u) := fun u => implKw_any _ u
    simp only [List.length_cons] at hcp
    generalize l[j].name = z at HTo HR1 HK
    generalize l[j].num = nn at HTo
    generalize tkD l[j].kind = kk at HTo
    generalize kwB z = b at HR1 HK
    clear HR hR h hp hm hnm hc
    go_enter Tryz.func108, Tryz.ntmps108
    go_wp2_with (go_at_call 53; refine (demand_yes _ _).mono ?_; rintro e wd1 ⟨rfl, hwd⟩; replace hwd := hwd.symm; subst hwd)
    refine (HTo.out w (Below.refl _ _)).mono ?_
    rintro e ws ⟨rfl, hws⟩
    have HBs : Hid (Below w.heap.size w ws) := hws
    clear HTo hws c0
    cases b with
    | true =>
      have HR2 : Hid (R = keyD l z r) := by show _ = _; rw [show R = _ from HR1.out]; rfl
      have HKu : Hid (∀ o c, (o = off + 1 ∨ r = []) → Calls Tryz.prog 139 #[.pointer (some ⟨m, 0, none⟩), .string z, .slice (some ⟨q, o, none⟩) r.length c] ws fun e w' => AnsG B R w e w') := fun o c ho => by rw [show R = _ from HR2.out]; exact HKw.out z ws o c ho HBs.out
      clear HKw HR1 HR2
      have HN1 : Hid (cp = 1 → r = []) := fun e => List.length_eq_zero_iff.1 (by omega)
      by_cases h0 : R.1 = 0
      · have HKv : Hid (∀ o c, (o = off + 1 ∨ r = []) → Calls Tryz.prog 139 #[.pointer (some ⟨m, 0, none⟩), .string z, .slice (some ⟨q, o, none⟩) r.length c] ws fun e w' => ∃ v, e = .returned v ∧ AnsG B R w (.returned v) w') := fun o c ho => (HKu.out o c ho).mono fun e w' h => by
          obtain ⟨⟨h1, v, rfl, h3⟩ | ⟨h1, h2⟩, h4⟩ := h
          · exact ⟨v, rfl, .inl ⟨h1, v, rfl, h3⟩, h4⟩
          · exact absurd h0 h1
        clear HKu h0
        go_wp2_with (go_at_call 138; refine (HK.out _).mono ?_; rintro e wk ⟨rfl, hwk⟩; replace hwk := hwk.symm; subst hwk)
        case inl => refine (HKv.out off 0 (.inr (HN1.out (by omega)))).mono ?_; rintro e w2 ⟨v, rfl, ha⟩; have HA : Hid (AnsG B R w (.returned v) w2) := ha; clear ha; go_wp2; go_ret; exact HA.out
        case inr => refine (HKv.out (off + 1) (cp - 1) (.inl rfl)).mono ?_; rintro e w2 ⟨v, rfl, ha⟩; have HA : Hid (AnsG B R w (.returned v) w2) := ha; clear ha; go_wp2; go_ret; exact HA.out
      · have HKv : Hid (∀ o c, (o = off + 1 ∨ r = []) → Calls Tryz.prog 139 #[.pointer (some ⟨m, 0, none⟩), .string z, .slice (some ⟨q, o, none⟩) r.length c] ws fun e w' => e = .panicked (pan R.1) ∧ AnsG B R w (.panicked (pan R.1)) w') := fun o c ho => (HKu.out o c ho).mono fun e w' h => by
          obtain ⟨⟨h1, v, rfl, h3⟩ | ⟨h1, rfl⟩, h4⟩ := h
          · exact absurd h1 h0
          · exact ⟨rfl, .inr ⟨h1, rfl⟩, h4⟩
        clear HKu h0
        go_wp2_with (go_at_call 138; refine (HK.out _).mono ?_; rintro e wk ⟨rfl, hwk⟩; replace hwk := hwk.symm; subst hwk)
        case inl => refine (HKv.out off 0 (.inr (HN1.out (by omega)))).mono ?_; rintro e w2 ⟨rfl, ha⟩; exact ⟨rfl, ha⟩
        case inr => refine (HKv.out (off + 1) (cp - 1) (.inl rfl)).mono ?_; rintro e w2 ⟨rfl, ha⟩; exact ⟨rfl, ha⟩
    | false =>
      by_cases h4 : 4 < r.length + 1
      · have HA : Hid (AnsG B R w (.panicked (pan 2)) ws) := HE.out _ _ (by decide) (by rw [show R = _ from HR1.out]; simp [h4]) HBs.out
        have h4b : decide ((r.length : Int) + 1 ≤ 4) = false := decide_eq_false (by omega)
        clear HE HR1 HKw
        go_wp2_with (first | (go_at_call 138; refine (HK.out _).mono ?_; rintro e wk ⟨rfl, hwk⟩; replace hwk := hwk.symm; subst hwk) | (go_at_call 53; refine (demand_no _ _).mono ?_; rintro e wd1 ⟨rfl, hwd⟩; replace hwd := hwd.symm; subst hwd))
        exact ⟨rfl, HA.out⟩
      · have HR2 : Hid (R = (0, fmP 9 ((j : Int) :: r))) := by show _ = _; rw [show R = _ from HR1.out]; simp [h4]
        have HA : Hid (AnsG B R w (.returned (.iface 133 (.agg #[.int .i64 9, .slice (some ⟨q, off, none⟩) (r.length + 1) cp]))) ws) := ⟨.inl ⟨by rw [HR2.out], _, rfl, by rw [HR2.out]; exact ⟨_, cp, rfl, HIp.out.below HBs.out⟩⟩, HBs.out⟩
        have h4b : decide ((r.length : Int) + 1 ≤ 4) = true := decide_eq_true (by omega)
        clear HE HR1 HKw HR2
        go_wp2_with (first | (go_at_call 138; refine (HK.out _).mono ?_; rintro e wk ⟨rfl, hwk⟩; replace hwk := hwk.symm; subst hwk) | (go_at_call 53; refine (demand_yes _ _).mono ?_; rintro e wd1 ⟨rfl, hwd⟩; replace hwd := hwd.symm; subst hwd))
        go_ret
        exact HA.out
end Go.Proofs.YtfdkklhigliciaaGreatDoor
