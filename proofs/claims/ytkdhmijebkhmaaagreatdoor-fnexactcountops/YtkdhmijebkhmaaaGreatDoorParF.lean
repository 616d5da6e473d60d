/-
  The program's parentFault: what is wrong with the place on which a new node would hang; nothing that was there is turned.
-/
import Derived.Test.YtkdhmijebkhmaaaGreatDoorUpM
namespace Go.Proofs.YtkdhmijebkhmaaaGreatDoor
open Go.RowKit Go.Extern.Stop Go.Stop Go.Extern Num Go.Lib Go.Shelf

/-- What is wrong with the place on which a new node would hang. -/
def pfD (N : List Dat) (p : Int) : Int :=
  if N.length = 0 ∧ p = -1 then 0 else if p < 0 ∨ (N.length : Int) ≤ p then 3
  else if ¬ ((N[p.toNat]?.map (·.kind)).getD 0 = 1) ∨ ¬ p ∈ upL N ((N.length : Int) - 1) then 1 else if 12 ≤ (upL N p).length then 2 else 0
/-- The same of the place alone: whether a node can hang there. -/
def lfD (N : List Dat) (p : Int) : Int :=
  if N.length = 0 ∧ p = -1 then 0 else if p < 0 ∨ (N.length : Int) ≤ p then 3 else if ¬ p ∈ upL N ((N.length : Int) - 1) then 1 else 0
theorem size_any (n₀ tb : Nat) (N : List Dat) (w : World) (hT : IsTree n₀ w tb N) :
    Calls Tryz.prog 139 #[.pointer (some ⟨tb, 0, none⟩)] w fun e w' => e = .returned (.int .i64 (N.length : Nat)) ∧ w' = w := (callsIn_wide (n := 3)).1 (size_in Fence.wide 3 (fun _ => trivial) rfl n₀ tb N w hT)
theorem isOpen_any (tb : Nat) (N : List Dat) (hp : Pars N) (hpos : 0 < N.length) (hl : N.length ≤ 1000000) (a : Int) (w : World) (hT : IsTree w.heap.size w tb N) :
    Calls Tryz.prog 148 #[.pointer (some ⟨tb, 0, none⟩), .int .i64 a] w fun e W' => e = .returned (.bool (decide (a ∈ upL N ((N.length : Int) - 1)))) ∧ Below w.heap.size w W' := (callsIn_wide (n := 3)).1 (isOpen_in Fence.wide 3 (fun _ => trivial) rfl (by omega) tb N hp hpos hl a w hT)
theorem depth_any (tb : Nat) (N : List Dat) (hp : Pars N) (hl : N.length ≤ 1000000) (a : Int) (ha : -1 ≤ a) (ha2 : a < N.length) (w : World) (hT : IsTree w.heap.size w tb N) :
    Calls Tryz.prog 138 #[.pointer (some ⟨tb, 0, none⟩), .int .i64 a] w fun e W' => e = .returned (.int .i64 (upL N a).length) ∧ Below w.heap.size w W' := (callsIn_wide (n := 3)).1 (depth_in Fence.wide 3 (fun _ => trivial) rfl (by omega) tb N hp hl a ha ha2 w hT)
theorem lf_empty (tb : Nat) (p : Int) (w : World) (hT : IsTree w.heap.size w tb []) :
    Calls Tryz.prog 137 #[.pointer (some ⟨tb, 0, none⟩), .int .i64 p] w fun e w' => e = .returned (.int .i64 (if p = -1 then 0 else 3)) ∧ w' = w := by
  have HT : Hid (IsTree w.heap.size w tb []) := hT
  clear hT
  by_cases h : p = -1
  · subst h
    go_enter Tryz.func137, Tryz.ntmps137
    go_wp2_with (go_at_call 139; refine (size_any _ _ _ _ HT.out).mono ?_; rintro e w' ⟨rfl, rfl⟩)
    go_ret
    exact ⟨rfl, rfl⟩
  · have h1 : (p == -1) = false := by simpa using h
    have e0 : (if p = -1 then (0 : Int) else 3) = 3 := if_neg h
    rw [e0]
    by_cases h2 : p < 0
    · go_enter Tryz.func137, Tryz.ntmps137
      go_wp2_with (go_at_call 139; refine (size_any _ _ _ _ HT.out).mono ?_; rintro e w' ⟨rfl, rfl⟩)
      go_ret
      exact ⟨rfl, rfl⟩
    · have h3 : 0 ≤ p := by omega
      go_enter Tryz.func137, Tryz.ntmps137
      go_wp2_with (go_at_call 139; refine (size_any _ _ _ _ HT.out).mono ?_; rintro e w' ⟨rfl, rfl⟩)
      go_ret
      exact ⟨rfl, rfl⟩
theorem lf_range (tb : Nat) (N : List Dat) (p : Int) (w : World) (hT : IsTree w.heap.size w tb N) (hN : 0 < N.length) (hp : p < 0 ∨ (N.length : Int) ≤ p) :
    Calls Tryz.prog 137 #[.pointer (some ⟨tb, 0, none⟩), .int .i64 p] w fun e w' => e = .returned (.int .i64 3) ∧ w' = w := by
  have HT : Hid (IsTree w.heap.size w tb N) := hT
  clear hT
  have h0 : ((N.length : Int) == 0) = false := beq_false_of_ne (by omega)
  rcases hp with h | h
  · go_enter Tryz.func137, Tryz.ntmps137
    go_wp2_with (go_at_call 139; refine (size_any _ _ _ _ HT.out).mono ?_; rintro e w' ⟨rfl, rfl⟩)
    go_ret
    exact ⟨rfl, rfl⟩
  · have h3 : 0 ≤ p := by omega
    go_enter Tryz.func137, Tryz.ntmps137
    go_wp2_with (go_at_call 139; refine (size_any _ _ _ _ HT.out).mono ?_; rintro e w' ⟨rfl, rfl⟩)
    go_ret
    exact ⟨rfl, rfl⟩
theorem lf_in (tb : Nat) (N : List Dat) (hp : Pars N) (hl : N.length ≤ 1000000) (k : Nat) (hk : k < N.length) (w : World) (hT : IsTree w.heap.size w tb N) :
    Calls Tryz.prog 137 #[.pointer (some ⟨tb, 0, none⟩), .int .i64 (k : Int)] w fun e w' => e = .returned (.int .i64 (if ¬ (k : Int) ∈ upL N ((N.length : Int) - 1) then 1 else 0)) ∧ Below w.heap.size w w' := by
  have HT : Hid (IsTree w.heap.size w tb N) := hT
  have HO : Hid (∀ u, IsTree u.heap.size u tb N → Calls Tryz.prog 148 #[.pointer (some ⟨tb, 0, none⟩), .int .i64 (k : Int)] u fun e W' => e = .returned (.bool (decide ((k : Int) ∈ upL N ((N.length : Int) - 1)))) ∧ Below u.heap.size u W') := fun u hu => isOpen_any tb N hp (by omega) hl _ u hu
  clear hT hp
  obtain ⟨op, hop⟩ : ∃ op, op = decide ((k : Int) ∈ upL N ((N.length : Int) - 1)) := ⟨_, rfl⟩
  rw [← hop] at HO
  have h0 : ((N.length : Int) == 0) = false := beq_false_of_ne (by omega)
  have h1 : (0 : Int) ≤ (k : Int) := by omega
  have h2 : (k : Int) < (N.length : Int) := by omega
  cases op with
  | false =>
    rw [if_pos (by simpa using hop.symm)]
    clear hop
    go_enter Tryz.func137, Tryz.ntmps137
    go_wp2_with (first | (go_at_call 139; refine (size_any _ _ _ _ HT.out).mono ?_; rintro e w' ⟨rfl, rfl⟩) | (go_at_call 148; refine (HO.out _ HT.out).mono ?_; rintro e w1 ⟨rfl, b1⟩))
    go_ret
    exact ⟨rfl, b1⟩
  | true =>
    rw [if_neg (by simp; simpa using hop.symm)]
    clear hop
    go_enter Tryz.func137, Tryz.ntmps137
    go_wp2_with (first | (go_at_call 139; refine (size_any _ _ _ _ HT.out).mono ?_; rintro e w' ⟨rfl, rfl⟩) | (go_at_call 148; refine (HO.out _ HT.out).mono ?_; rintro e w1 ⟨rfl, b1⟩))
    go_ret
    exact ⟨rfl, b1⟩
theorem lf_any (tb : Nat) (N : List Dat) (hp : Pars N) (hl : N.length ≤ 1000000) (p : Int) (w : World) (hT : IsTree w.heap.size w tb N) :
    Calls Tryz.prog 137 #[.pointer (some ⟨tb, 0, none⟩), .int .i64 p] w fun e w' => e = .returned (.int .i64 (lfD N p)) ∧ Below w.heap.size w w' := by
  by_cases h0 : N.length = 0
  · obtain rfl := List.eq_nil_of_length_eq_zero h0
    refine (lf_empty tb p w hT).mono ?_
    rintro e w' ⟨rfl, rfl⟩
    refine ⟨?_, Below.refl _ _⟩
    unfold lfD
    by_cases h : p = -1
    · simp [h]
    · rw [if_neg h, if_neg (fun h' => h h'.2), if_pos (by simp; omega)]
  · by_cases h : p < 0 ∨ (N.length : Int) ≤ p
    · refine (lf_range tb N p w hT (by omega) h).mono ?_
      rintro e w' ⟨rfl, rfl⟩
      refine ⟨?_, Below.refl _ _⟩
      unfold lfD
      rw [if_neg (fun h' => h0 h'.1), if_pos h]
    · obtain ⟨k, rfl⟩ : ∃ k : Nat, p = (k : Int) := ⟨p.toNat, by omega⟩
      have hk : k < N.length := by omega
      refine (lf_in tb N hp hl k hk w hT).mono ?_
      rintro e w' ⟨rfl, b⟩
      refine ⟨?_, b⟩
      have e : lfD N (k : Int) = if ¬ (k : Int) ∈ upL N ((N.length : Int) - 1) then 1 else 0 := by
        unfold lfD
        rw [if_neg (fun h' : N.length = 0 ∧ _ => h0 h'.1), if_neg h]
      rw [e]
theorem pf_wrong (tb : Nat) (p c : Int) (hc : c ≠ 0 ∨ p = -1) (w : World) (H : Calls Tryz.prog 137 #[.pointer (some ⟨tb, 0, none⟩), .int .i64 p] w fun e w' => e = .returned (.int .i64 c) ∧ Below w.heap.size w w') :
    Calls Tryz.prog 123 #[.pointer (some ⟨tb, 0, none⟩), .int .i64 p] w fun e w' => e = .returned (.int .i64 c) ∧ Below w.heap.size w w' := by
  have HL : Hid (Calls Tryz.prog 137 #[.pointer (some ⟨tb, 0, none⟩), .int .i64 p] w fun e w' => e = .returned (.int .i64 c) ∧ Below w.heap.size w w') := H
  clear H
  by_cases h : c = 0
  · obtain rfl : p = -1 := hc.resolve_left (fun h' => h' h)
    subst h
    go_enter Tryz.func123, Tryz.ntmps123
    go_wp2_with (go_at_call 137; refine HL.out.mono ?_; rintro e w1 ⟨rfl, b1⟩)
    go_ret
    exact ⟨rfl, b1⟩
  · have h4 : (c != 0) = true := by simpa using h
    clear hc h
    go_enter Tryz.func123, Tryz.ntmps123
    go_wp2_with (go_at_call 137; refine HL.out.mono ?_; rintro e w1 ⟨rfl, b1⟩)
    go_ret
    exact ⟨rfl, b1⟩
set_option maxHeartbeats 1000000 in
theorem pf_in (tb : Nat) (N : List Dat) (hp : Pars N) (hl : N.length ≤ 1000000) (k : Nat) (hk : k < N.length) (w : World) (hT : IsTree w.heap.size w tb N) (hop : lfD N (k : Int) = 0) :
    Calls Tryz.prog 123 #[.pointer (some ⟨tb, 0, none⟩), .int .i64 (k : Int)] w fun e w' => e = .returned (.int .i64 (if ¬ (N[k].kind = 1) then 1 else if 12 ≤ (upL N (k : Int)).length then 2 else 0)) ∧ Below w.heap.size w w' := by
  have HT : Hid (IsTree w.heap.size w tb N) := hT
  have hL := lf_any tb N hp hl (k : Int) w hT
  rw [hop] at hL
  have HL : Hid (Calls Tryz.prog 137 #[.pointer (some ⟨tb, 0, none⟩), .int .i64 (k : Int)] w fun e w' => e = .returned (.int .i64 0) ∧ Below w.heap.size w w') := hL
  have HD : Hid (∀ u, IsTree u.heap.size u tb N → Calls Tryz.prog 138 #[.pointer (some ⟨tb, 0, none⟩), .int .i64 (k : Int)] u fun e W' => e = .returned (.int .i64 (upL N (k : Int)).length) ∧ Below u.heap.size u W') := fun u hu => depth_any tb N hp hl _ (by omega) (by omega) u hu
  obtain ⟨ao, g, cap, hc, htb, hg, hao, hrow⟩ := hT
  obtain rfl := hao (by intro h; rw [h] at hk; simp at hk)
  have hr := (hrow k hk).2.1
  clear hrow hao hp hL hop
  obtain ⟨kd, hkd⟩ : ∃ kd, kd = N[k].kind := ⟨_, rfl⟩
  rw [← hkd] at hr ⊢
  clear hkd
  obtain ⟨dl, hdl⟩ : ∃ dl, dl = (upL N (k : Int)).length := ⟨_, rfl⟩
  rw [← hdl] at HD ⊢
  clear hdl
  have h0 : ((N.length : Int) == 0) = false := beq_false_of_ne (by omega)
  have h1 : (0 : Int) ≤ (k : Int) := by omega
  have h2 : (k : Int) < (N.length : Int) := by omega
  have h3 : ((k : Int) == -1) = false := beq_false_of_ne (by omega)
  have HC : Hid (w.cell? ⟨tb, 0, none⟩ = some (.slice (some ⟨g, 0, none⟩) N.length cap) ∧ w.cell? ⟨g, k * 4 + 1, none⟩ = some (.int .i64 kd)) := ⟨hc, hr⟩
  clear hc hr
  by_cases h4 : kd = 1
  · subst h4
    rw [if_neg (by simp)]
    by_cases h5 : 12 ≤ dl
    · rw [if_pos h5]
      have h6 : (12 : Int) ≤ (dl : Int) := by omega
      go_enter Tryz.func123, Tryz.ntmps123
      go_wp2_with (first | (go_at_call 137; refine HL.out.mono ?_; rintro e w1 ⟨rfl, b1⟩; have hc := (b1.cell (p := ⟨tb, 0, none⟩) htb).trans HC.out.1; have hr := (b1.cell (p := ⟨g, k * 4 + 1, none⟩) hg).trans HC.out.2) | (go_at_call 138; refine (HD.out _ ((HT.out.below b1).mono b1.size)).mono ?_; rintro e w2 ⟨rfl, b2⟩))
      go_ret
      exact ⟨rfl, b1.trans (b2.mono b1.size)⟩
    · rw [if_neg h5]
      have h6 : (dl : Int) < 12 := by omega
      go_enter Tryz.func123, Tryz.ntmps123
      go_wp2_with (first | (go_at_call 137; refine HL.out.mono ?_; rintro e w1 ⟨rfl, b1⟩; have hc := (b1.cell (p := ⟨tb, 0, none⟩) htb).trans HC.out.1; have hr := (b1.cell (p := ⟨g, k * 4 + 1, none⟩) hg).trans HC.out.2) | (go_at_call 138; refine (HD.out _ ((HT.out.below b1).mono b1.size)).mono ?_; rintro e w2 ⟨rfl, b2⟩))
      go_ret
      exact ⟨rfl, b1.trans (b2.mono b1.size)⟩
  · rw [if_pos h4]
    have h6 : (kd != 1) = true := by simpa using h4
    go_enter Tryz.func123, Tryz.ntmps123
    go_wp2_with ((go_at_call 137; refine HL.out.mono ?_; rintro e w1 ⟨rfl, b1⟩; have hc := (b1.cell (p := ⟨tb, 0, none⟩) htb).trans HC.out.1; have hr := (b1.cell (p := ⟨g, k * 4 + 1, none⟩) hg).trans HC.out.2))
    go_ret
    exact ⟨rfl, b1⟩
theorem pf_any (tb : Nat) (N : List Dat) (hp : Pars N) (hl : N.length ≤ 1000000) (p : Int) (w : World) (hT : IsTree w.heap.size w tb N) :
    Calls Tryz.prog 123 #[.pointer (some ⟨tb, 0, none⟩), .int .i64 p] w fun e w' => e = .returned (.int .i64 (pfD N p)) ∧ Below w.heap.size w w' := by
  by_cases h : lfD N p ≠ 0 ∨ p = -1
  · refine (pf_wrong tb p (lfD N p) h w (lf_any tb N hp hl p w hT)).mono ?_
    rintro e w' ⟨rfl, b⟩
    refine ⟨?_, b⟩
    have e : pfD N p = lfD N p := by
      unfold lfD at h
      unfold pfD lfD
      by_cases h1 : N.length = 0 ∧ p = -1
      · rw [if_pos h1, if_pos h1]
      · rw [if_neg h1] at h ⊢
        rw [if_neg h1]
        by_cases h2 : p < 0 ∨ (N.length : Int) ≤ p
        · rw [if_pos h2, if_pos h2]
        · rw [if_neg h2] at h ⊢
          rw [if_neg h2]
          by_cases h3 : p ∈ upL N ((N.length : Int) - 1)
          · rw [if_neg (by simp [h3])] at h
            exact absurd h (by simp; omega)
          · rw [if_pos (.inr h3), if_pos h3]
    rw [e]
  · have h1 : lfD N p = 0 := Classical.byContradiction fun h' => h (.inl h')
    have h2 : p ≠ -1 := fun h' => h (.inr h')
    unfold lfD at h1
    rw [if_neg (fun h' => h2 h'.2)] at h1
    by_cases h3 : p < 0 ∨ (N.length : Int) ≤ p
    · rw [if_pos h3] at h1; simp at h1
    rw [if_neg h3] at h1
    by_cases h4 : p ∈ upL N ((N.length : Int) - 1)
    · obtain ⟨k, rfl⟩ : ∃ k : Nat, p = (k : Int) := ⟨p.toNat, by omega⟩
      have hk : k < N.length := by omega
      refine (pf_in tb N hp hl k hk w hT (Classical.byContradiction fun h' => h (.inl h'))).mono ?_
      rintro e w' ⟨rfl, b⟩
      refine ⟨?_, b⟩
      have e : pfD N (k : Int) = if ¬ (N[k].kind = 1) then 1 else if 12 ≤ (upL N (k : Int)).length then 2 else 0 := by
        unfold pfD
        rw [if_neg (fun h' => h2 h'.2), if_neg h3]
        simp [hk, h4]
      rw [e]
    · rw [if_pos h4] at h1; simp at h1
end Go.Proofs.YtkdhmijebkhmaaaGreatDoor
