/-
  Parts of the proof laid into one text, one behind the other; each says at its head what is proved in it.
-/
import Derived.Test.YtfdkklhigliciaaGreatDoorImExFHx
import Derived.Test.YtfdkklhigliciaaGreatDoorAnyRegHx
/-
  The program's keywordForm, listForm and formAt: what kind of form a datum is, or the panic that carries a code; nothing that was there is turned.
-/
namespace Go.Proofs.YtfdkklhigliciaaGreatDoor
open Go.RowKit Go.Extern.Stop Go.Stop Go.Extern Num Go.Lib Go.Shelf

theorem FmV.base {w : World} {B B' : Nat} {v : Value} {m : Fm} (hm : FmV w B v m) (hs : B' ≤ B) : FmV w B' v m := by
  unfold FmV at hm ⊢
  split at hm
  · exact hm
  · exact hm
  · obtain ⟨ao, c, k1, k2⟩ := hm; exact ⟨ao, c, k1, k2.base hs⟩
  · obtain ⟨nv, k1, k2, k3⟩ := hm; exact ⟨nv, k1, own_base k2 hs, k3⟩
  · obtain ⟨nv, ao, c, k1, ⟨k2, k3⟩, k4⟩ := hm; exact ⟨nv, ao, c, k1, ⟨own_base k2 hs, k3⟩, k4.base hs⟩
  · exact hm
  · exact hm
/-- What is answered: a form whose rows lie above a base, or the panic that carries a code. -/
def AnsG (B : Nat) (r : Int × Fm) (w : World) (e : Ending) (w' : World) : Prop :=
  ((r.1 = 0 ∧ ∃ v, e = .returned v ∧ FmV w' B v r.2) ∨ (r.1 ≠ 0 ∧ e = .panicked (pan r.1))) ∧ Below w.heap.size w w'
theorem AnsF.weak {B : Nat} {r : Int × Fm} {w u w' : World} {e : Ending} (h : AnsF r u e w') (hB : B ≤ u.heap.size) (hb : Below w.heap.size w u) : AnsG B r w e w' := by
  obtain ⟨h1, h2⟩ := h
  refine ⟨?_, hb.trans (h2.mono hb.size)⟩
  rcases h1 with ⟨h0, v, hv, hm⟩ | h1
  · exact .inl ⟨h0, v, hv, hm.base hB⟩
  · exact .inr h1
theorem AnsG.pre {B : Nat} {r : Int × Fm} {w u w' : World} {e : Ending} (h : AnsG B r u e w') (hb : Below w.heap.size w u) : AnsG B r w e w' := ⟨h.1, hb.trans (h.2.mono hb.size)⟩
theorem AnsG.code {B : Nat} {r : Int × Fm} {w u : World} {c : Int} (hc : c ≠ 0) (h : r.1 = c) (hb : Below w.heap.size w u) : AnsG B r w (.panicked (pan c)) u := ⟨.inr ⟨by rw [h]; exact hc, by rw [h]⟩, hb⟩
set_option maxRecDepth 100000 in
set_option maxHeartbeats 2000000 in
theorem keyword_any (w : World) (n₀ m tb : Nat) (l : List Dat) (h : Rd4 w n₀ m tb l) (z : ByteArray) (B : Nat) (hB : B ≤ w.heap.size) (ao : Option Addr) (cp : Nat) (r : List Int) (hr : IRow w B ao r) (hm : ∀ b ∈ r, ∃ j : Nat, b = (j : Int) ∧ j < l.length) :
    Calls Tryz.prog 139 #[.pointer (some ⟨m, 0, none⟩), .string z, .slice ao r.length cp] w fun e w' => AnsG B (keyD l z r) w e w' := by
  obtain ⟨R, hR⟩ : ∃ R, R = keyD l z r := ⟨_, rfl⟩
  rw [← hR]
  have HR : Hid (R = keyD l z r) := hR
  have HIr : Hid (IRow w B ao r) := hr
  have HE : Hid (∀ (u : World) (c : Int), c ≠ 0 → R.1 = c → Below w.heap.size w u → AnsG B R w (.panicked (pan c)) u) := fun u c hc h0 hu => AnsG.code hc h0 hu
  have HNf : Hid (∀ (x y : Nat) (u : World), x < l.length → Below w.heap.size w u → Calls Tryz.prog 171 #[.pointer (some ⟨m, 0, none⟩), .string z, .int .i64 (x : Int), .int .i64 (y : Int)] u fun e w' => AnsG B (nameD l z x y) w e w') := fun x y u hx hu => (naming_any u n₀ m tb l (h.below hu) z x hx y).mono fun e w' h => h.weak (Nat.le_trans hB hu.size) hu
  clear hR h
  by_cases g1 : (z.toList == [113, 117, 111, 116, 101]) = true
  · have HR1 : Hid (R = if r.length = 1 then (0, fmC (r.getD 0 0)) else (1, fm0)) := by
      show _ = _
      rw [show R = _ from HR.out]
      unfold keyD
      rw [if_pos g1]
    clear HR HNf
    by_cases h1 : r.length = 1
    · obtain ⟨x, rfl⟩ : ∃ x, r = [x] := by
        match r, h1 with
        | [x], _ => exact ⟨x, rfl⟩
      obtain ⟨q, off, rfl, hc⟩ := hr.at (by simp)
      have c0 := hc 0 (by simp)
      simp only [List.getElem_cons_zero, Nat.add_zero] at c0
      have HR2 : Hid (R = (0, fmC x)) := by show _ = _; rw [show R = _ from HR1.out]; rfl
      have HA : Hid (AnsG B R w (.returned (.iface 126 (.agg #[.int .i64 x]))) w) := ⟨.inl ⟨by rw [HR2.out], _, rfl, by rw [HR2.out]; rfl⟩, Below.refl _ _⟩
      clear HR1 hc HE h1 HR2
      go_enter Tryz.func139, Tryz.ntmps139
      go_wp2_with (go_at_call 53; refine (demand_yes _ _).mono ?_; rintro e wd1 ⟨rfl, hwd⟩; replace hwd := hwd.symm; subst hwd)
      go_ret
      exact HA.out
    · have HA : Hid (AnsG B R w (.panicked (pan 1)) w) := HE.out _ _ (by decide) (by rw [show R = _ from HR1.out, if_neg h1]) (Below.refl _ _)
      have h1b : ((r.length : Int) == 1) = false := beq_false_of_ne (by omega)
      clear HR1 h1 HE hr
      go_enter Tryz.func139, Tryz.ntmps139
      go_wp2_with (go_at_call 53; refine (demand_no _ _).mono ?_; rintro e wd1 ⟨rfl, hwd⟩; replace hwd := hwd.symm; subst hwd)
      exact ⟨rfl, HA.out⟩
  by_cases g2 : (z.toList == [105, 102]) = true
  · have HR1 : Hid (R = if r.length = 3 then (0, fmP 4 r) else (1, fm0)) := by
      show _ = _
      rw [show R = _ from HR.out]
      unfold keyD
      rw [if_neg g1, if_pos g2]
    clear HR HNf
    by_cases h1 : r.length = 3
    · have HR2 : Hid (R = (0, fmP 4 r)) := by show _ = _; rw [show R = _ from HR1.out, if_pos h1]
      have h1b : ((r.length : Int) == 3) = true := by rw [h1]; rfl
      have HA : Hid (AnsG B R w (.returned (.iface 133 (.agg #[.int .i64 4, .slice ao r.length cp]))) w) := ⟨.inl ⟨by rw [HR2.out], _, rfl, by rw [HR2.out]; exact ⟨ao, cp, rfl, HIr.out⟩⟩, Below.refl _ _⟩
      clear HR1 HR2 HE h1 hr
      go_enter Tryz.func139, Tryz.ntmps139
      go_wp2_with (go_at_call 53; refine (demand_yes _ _).mono ?_; rintro e wd1 ⟨rfl, hwd⟩; replace hwd := hwd.symm; subst hwd)
      go_ret
      exact HA.out
    · have HA : Hid (AnsG B R w (.panicked (pan 1)) w) := HE.out _ _ (by decide) (by rw [show R = _ from HR1.out, if_neg h1]) (Below.refl _ _)
      have h1b : ((r.length : Int) == 3) = false := beq_false_of_ne (by omega)
      clear HR1 h1 HE hr
      go_enter Tryz.func139, Tryz.ntmps139
      go_wp2_with (go_at_call 53; refine (demand_no _ _).mono ?_; rintro e wd1 ⟨rfl, hwd⟩; replace hwd := hwd.symm; subst hwd)
      exact ⟨rfl, HA.out⟩
  by_cases g3 : (z.toList == [98, 101, 103, 105, 110]) = true
  · have HR1 : Hid (R = if 0 < r.length then (0, fmP 6 r) else (1, fm0)) := by
      show _ = _
      rw [show R = _ from HR.out]
      unfold keyD
      rw [if_neg g1, if_neg g2, if_pos g3]
    clear HR HNf
    by_cases h1 : 0 < r.length
    · have HR2 : Hid (R = (0, fmP 6 r)) := by show _ = _; rw [show R = _ from HR1.out, if_pos h1]
      have h1b : decide (0 < r.length) = true := decide_eq_true h1
      have HA : Hid (AnsG B R w (.returned (.iface 133 (.agg #[.int .i64 6, .slice ao r.length cp]))) w) := ⟨.inl ⟨by rw [HR2.out], _, rfl, by rw [HR2.out]; exact ⟨ao, cp, rfl, HIr.out⟩⟩, Below.refl _ _⟩
      clear HR1 HR2 HE h1 hr
      go_enter Tryz.func139, Tryz.ntmps139
      go_wp2_with (go_at_call 53; refine (demand_yes _ _).mono ?_; rintro e wd1 ⟨rfl, hwd⟩; replace hwd := hwd.symm; subst hwd)
      go_ret
      exact HA.out
    · have HA : Hid (AnsG B R w (.panicked (pan 1)) w) := HE.out _ _ (by decide) (by rw [show R = _ from HR1.out, if_neg h1]) (Below.refl _ _)
      have h1b : decide (0 < r.length) = false := decide_eq_false h1
      clear HR1 h1 HE hr
      go_enter Tryz.func139, Tryz.ntmps139
      go_wp2_with (go_at_call 53; refine (demand_no _ _).mono ?_; rintro e wd1 ⟨rfl, hwd⟩; replace hwd := hwd.symm; subst hwd)
      exact ⟨rfl, HA.out⟩
  have HR1 : Hid (R = if r.length = 2 then nameD l z (r.getD 0 0) (r.getD 1 0) else (1, fm0)) := by
    show _ = _
    rw [show R = _ from HR.out]
    unfold keyD
    rw [if_neg g1, if_neg g2, if_neg g3]
  clear HR
  by_cases h1 : r.length = 2
  · obtain ⟨x, y, rfl⟩ : ∃ x y, r = [x, y] := by
      match r, h1 with
      | [x, y], _ => exact ⟨x, y, rfl⟩
    obtain ⟨q, off, rfl, hc⟩ := hr.at (by simp)
    have c0 := hc 0 (by simp)
    have c1 := hc 1 (by simp)
    simp only [List.getElem_cons_zero, List.getElem_cons_succ, Nat.add_zero] at c0 c1
    obtain ⟨jx, rfl, hjx⟩ := hm x (by simp)
    obtain ⟨jy, rfl, hjy⟩ := hm y (by simp)
    have HR2 : Hid (R = nameD l z jx jy) := by show _ = _; rw [show R = _ from HR1.out]; rfl
    have HNg : Hid (∀ u, Below w.heap.size w u → Calls Tryz.prog 171 #[.pointer (some ⟨m, 0, none⟩), .string z, .int .i64 (jx : Int), .int .i64 (jy : Int)] u fun e w' => AnsG B R w e w') := fun u hu => by rw [show R = _ from HR2.out]; exact HNf.out jx jy u hjx hu
    clear HR1 hc HE h1 HR2 HNf hm hr
    by_cases h0 : R.1 = 0
    · have HNh : Hid (∀ u, Below w.heap.size w u → Calls Tryz.prog 171 #[.pointer (some ⟨m, 0, none⟩), .string z, .int .i64 (jx : Int), .int .i64 (jy : Int)] u fun e w' => ∃ v, e = .returned v ∧ AnsG B R w (.returned v) w') := fun u hu => (HNg.out u hu).mono fun e w' h => by
        obtain ⟨⟨h1, v, rfl, h3⟩ | ⟨h1, h2⟩, h4⟩ := h
        · exact ⟨v, rfl, .inl ⟨h1, v, rfl, h3⟩, h4⟩
        · exact absurd h0 h1
      clear HNg h0
      go_enter Tryz.func139, Tryz.ntmps139
      go_wp2_with (go_at_call 53; refine (demand_yes _ _).mono ?_; rintro e wd1 ⟨rfl, hwd⟩; replace hwd := hwd.symm; subst hwd)
      go_region_with (first
        | (go_at_call 171; refine (HNh.out _ (by repeat (first | exact Below.refl _ _ | refine Below.drew ?_))).mono ?_; rintro e w2 ⟨v, rfl, ha⟩; have HA : Hid (AnsG B R w (.returned v) w2) := ha; clear ha)
        | fail)
      all_goals
        go_wp2
        go_ret
        exact HA.out
    · have HNh : Hid (∀ u, Below w.heap.size w u → Calls Tryz.prog 171 #[.pointer (some ⟨m, 0, none⟩), .string z, .int .i64 (jx : Int), .int .i64 (jy : Int)] u fun e w' => e = .panicked (pan R.1) ∧ AnsG B R w (.panicked (pan R.1)) w') := fun u hu => (HNg.out u hu).mono fun e w' h => by
        obtain ⟨⟨h1, v, rfl, h3⟩ | ⟨h1, rfl⟩, h4⟩ := h
        · exact absurd h1 h0
        · exact ⟨rfl, .inr ⟨h1, rfl⟩, h4⟩
      clear HNg h0
      go_enter Tryz.func139, Tryz.ntmps139
      go_wp2_with (go_at_call 53; refine (demand_yes _ _).mono ?_; rintro e wd1 ⟨rfl, hwd⟩; replace hwd := hwd.symm; subst hwd)
      have hFr : ∀ f, Fence.wide.fn f := fun _ => trivial
      refine (wpIn_wide (n := 0)).1 ?_
      refine region_anyH (z := 9) (S := fun u : World => Below w.heap.size w u) (by kernel_rfl) ?_
      obtain ⟨y0, hy0⟩ : ∃ Y, Y = w.drew := ⟨_, rfl⟩
      have HB0 : Hid (Below w.heap.size w y0) := by show Below _ _ _; rw [hy0]; exact (Below.refl _ _).drew
      rw [← hy0]
      clear hy0
      have C0 : Hid (w.cell? ⟨q, off, none⟩ = some (.int .i64 (jx : Int))) := c0
      have C1 : Hid (w.cell? ⟨q, off + 1, none⟩ = some (.int .i64 (jy : Int))) := c1
      clear c0 c1
      refine anyH_take hFr (by kernel_rfl) (i := 0) (v := ?_) (d := some 41) (by kernel_rfl) rfl rfl (by kernel_rfl) (by kernel_rfl) (by kernel_rfl) (fun _ _ _ h => h) HB0.out (Or.inl ⟨by rfl, fun w9 hSw => ?_⟩) ?_
      rotate_left
      · go_simp
        all_goals (try (first | with_reducible rfl | omega))
      try simp only [Act.put]
      try simp only [List.setIfInBounds_toArray]
      try simp only [List.set_cons_zero, List.set_cons_succ]
      refine anyH_take hFr (by kernel_rfl) (i := 1) (v := ?_) (d := some 42) (by kernel_rfl) rfl rfl (by kernel_rfl) (by kernel_rfl) (by kernel_rfl) (fun _ _ _ h => h) HB0.out (Or.inl ⟨by rfl, fun w9 hSw => ?_⟩) ?_
      rotate_left
      · go_simp
        all_goals (try (first | with_reducible rfl | omega))
      try simp only [Act.put]
      try simp only [List.setIfInBounds_toArray]
      try simp only [List.set_cons_zero, List.set_cons_succ]
      refine anyH_take hFr (by kernel_rfl) (i := 2) (v := ?_) (d := some 43) (by kernel_rfl) rfl rfl (by kernel_rfl) (by kernel_rfl) (by kernel_rfl) (fun _ _ _ h => h) HB0.out (Or.inl ⟨by rfl, fun w9 hSw => ?_⟩) ?_
      rotate_left
      · go_simp
        all_goals (try (first | with_reducible rfl | omega))
      try simp only [Act.put]
      try simp only [List.setIfInBounds_toArray]
      try simp only [List.set_cons_zero, List.set_cons_succ]
      refine anyH_take hFr (by kernel_rfl) (i := 3) (v := ?_) (d := some 44) (by kernel_rfl) rfl rfl (by kernel_rfl) (by kernel_rfl) (by kernel_rfl) (fun _ _ _ h => h) HB0.out (Or.inl ⟨by rfl, fun w9 hSw => ?_⟩) ?_
      rotate_left
      · go_simp
        all_goals (try (first | with_reducible rfl | omega))
      try simp only [Act.put]
      try simp only [List.setIfInBounds_toArray]
      try simp only [List.set_cons_zero, List.set_cons_succ]
      refine anyH_take hFr (by kernel_rfl) (i := 4) (v := ?_) (d := some 45) (by kernel_rfl) rfl rfl (by kernel_rfl) (by kernel_rfl) (by kernel_rfl) (fun _ _ _ h => h) HB0.out (Or.inl ⟨by rfl, fun w9 hSw => ?_⟩) ?_
      rotate_left
      · have c0 := cell_keep (show Below w.heap.size w w9 from hSw) C0.out
        go_simp
        all_goals (try (first | with_reducible rfl | omega))
      try simp only [Act.put]
      try simp only [List.setIfInBounds_toArray]
      try simp only [List.set_cons_zero, List.set_cons_succ]
      refine anyH_take hFr (by kernel_rfl) (i := 5) (v := ?_) (d := some 46) (by kernel_rfl) rfl rfl (by kernel_rfl) (by kernel_rfl) (by kernel_rfl) (fun _ _ _ h => h) HB0.out (Or.inl ⟨by rfl, fun w9 hSw => ?_⟩) ?_
      rotate_left
      · go_simp
        all_goals (try (first | with_reducible rfl | omega))
      try simp only [Act.put]
      try simp only [List.setIfInBounds_toArray]
      try simp only [List.set_cons_zero, List.set_cons_succ]
      refine anyH_take hFr (by kernel_rfl) (i := 6) (v := ?_) (d := some 47) (by kernel_rfl) rfl rfl (by kernel_rfl) (by kernel_rfl) (by kernel_rfl) (fun _ _ _ h => h) HB0.out (Or.inl ⟨by rfl, fun w9 hSw => ?_⟩) ?_
      rotate_left
      · go_simp
        all_goals (try (first | with_reducible rfl | omega))
      try simp only [Act.put]
      try simp only [List.setIfInBounds_toArray]
      try simp only [List.set_cons_zero, List.set_cons_succ]
      refine anyH_take hFr (by kernel_rfl) (i := 7) (v := ?_) (d := some 48) (by kernel_rfl) rfl rfl (by kernel_rfl) (by kernel_rfl) (by kernel_rfl) (fun _ _ _ h => h) HB0.out (Or.inl ⟨by rfl, fun w9 hSw => ?_⟩) ?_
      rotate_left
      · have c1 := cell_keep (show Below w.heap.size w w9 from hSw) C1.out
        go_simp
        all_goals (try (first | with_reducible rfl | omega))
      try simp only [Act.put]
      try simp only [List.setIfInBounds_toArray]
      try simp only [List.set_cons_zero, List.set_cons_succ]
      refine anyH_one (i := 8) (by kernel_rfl) (op_plainX rfl (by rfl) (by simp) ?_)
      go_simp
      refine (HNh.out _ HB0.out).mono ?_
      rintro e w2 ⟨rfl, ha⟩
      exact ⟨rfl, ha⟩
  · have HA : Hid (AnsG B R w (.panicked (pan 1)) w) := HE.out _ _ (by decide) (by rw [show R = _ from HR1.out, if_neg h1]) (Below.refl _ _)
    have h1b : ((r.length : Int) == 2) = false := beq_false_of_ne (by omega)
    clear HR1 h1 HE hr HNf
    go_enter Tryz.func139, Tryz.ntmps139
    go_wp2_with (go_at_call 53; refine (demand_no _ _).mono ?_; rintro e wd1 ⟨rfl, hwd⟩; replace hwd := hwd.symm; subst hwd)
    exact ⟨rfl, HA.out⟩
end Go.Proofs.YtfdkklhigliciaaGreatDoor
