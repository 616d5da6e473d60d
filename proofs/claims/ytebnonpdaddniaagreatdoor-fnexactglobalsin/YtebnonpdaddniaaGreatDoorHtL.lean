/-
  Parts of the proof laid into one text, one behind the other; each says at its head what is proved in it.
-/
import Derived.Test.YtebnonpdaddniaaGreatDoorHtJ
/-
  The model's l4Named, l4Bare and l4Many: what a kind of core has; nothing that was there is turned.
-/
namespace Go.Proofs.YtebnonpdaddniaaGreatDoor
open Go.RowKit Go.Extern.Stop Go.Stop Go.Extern Num Go.Lib

def namedK (k : Int) : Bool := k == 3 || k == 7 || k == 8
/-- Whether a core has nothing but what its kind has. -/
def bareC (t : Cor) : Bool := (decide (1 ≤ t.kind) && decide (t.kind ≤ 9)) && ((t.kind == 2 || t.kind == 5) || t.a == 0) && (t.kind == 2 || t.b == 0) && (namedK t.kind || (t.name.toList == [])) && (t.kind == 1 || t.data.length == 0)
theorem kinds9 (k : Int) : k = 1 ∨ k = 2 ∨ k = 3 ∨ k = 4 ∨ k = 5 ∨ k = 6 ∨ k = 7 ∨ k = 8 ∨ k = 9 ∨ (k < 1 ∨ 9 < k) := by omega
theorem l4Named_any (k : Int) (w : World) : Calls Tryz.prog 72 #[.int .i64 k] w fun e w' => e = .returned (.bool (namedK k)) ∧ w' = w := by
  unfold namedK
  cases h1 : (k == 3) <;> cases h2 : (k == 7) <;> (
    go_enter Tryz.func72, Tryz.ntmps72
    go_wp2
    go_ret
    exact ⟨rfl, rfl⟩)

set_option maxHeartbeats 1000000 in
theorem l4Bare_1 (t : Cor) (ao : Option Addr) (cap g q : Nat) (w : World) (hk : t.kind = 1)
    (c0 : w.cell? ⟨g, q, none⟩ = some (.int .i64 t.kind)) (c2 : w.cell? ⟨g, q + 2, none⟩ = some (.int .i64 t.a)) (c3 : w.cell? ⟨g, q + 3, none⟩ = some (.int .i64 t.b)) (c4 : w.cell? ⟨g, q + 4, none⟩ = some (.string t.name)) (_c5 : w.cell? ⟨g, q + 5, none⟩ = some (.slice ao t.data.length cap)) :
    Calls Tryz.prog 135 #[.pointer (some ⟨g, q, none⟩)] w fun e w' => e = .returned (.bool (bareC t)) ∧ w' = w := by
  have HR : Hid (bareC t = ((t.a == 0) && (t.b == 0) && (t.name.toList == []))) := by show _ = _; unfold bareC; rw [hk]; simp [namedK]
  have HIn : Hid (∀ u, Calls Tryz.prog 98 #[.int .i64 1, .int .i64 1, .int .i64 9] u fun e w' => e = .returned (.bool true) ∧ w' = u) := fun u => l1In_any 1 1 9 u
  have HN : Hid (∀ u, Calls Tryz.prog 72 #[.int .i64 1] u fun e w' => e = .returned (.bool false) ∧ w' = u) := fun u => l4Named_any 1 u
  rw [hk] at c0
  obtain ⟨R, hR⟩ : ∃ R, R = bareC t := ⟨_, rfl⟩
  rw [← hR] at HR ⊢
  clear hR hk
  cases ha : (t.a == 0) with
  | false =>
    rw [ha] at HR
    have HE : Hid (R = false) := by show _ = _; rw [HR.out]; simp
    go_enter Tryz.func135, Tryz.ntmps135
    go_wp2_with (first | (go_at_call 98; refine (HIn.out _).mono ?_; rintro e w' ⟨rfl, e4⟩; replace e4 := e4.symm; subst e4) | (go_at_call 72; refine (HN.out _).mono ?_; rintro e w' ⟨rfl, e4⟩; replace e4 := e4.symm; subst e4))
    go_ret
    exact ⟨by rw [HE.out]; rfl, rfl⟩
  | true =>
    rw [ha] at HR
    cases hb : (t.b == 0) with
    | false =>
      rw [hb] at HR
      have HE : Hid (R = false) := by show _ = _; rw [HR.out]; simp
      go_enter Tryz.func135, Tryz.ntmps135
      go_wp2_with (first | (go_at_call 98; refine (HIn.out _).mono ?_; rintro e w' ⟨rfl, e4⟩; replace e4 := e4.symm; subst e4) | (go_at_call 72; refine (HN.out _).mono ?_; rintro e w' ⟨rfl, e4⟩; replace e4 := e4.symm; subst e4))
      go_ret
      exact ⟨by rw [HE.out]; rfl, rfl⟩
    | true =>
      rw [hb] at HR
      cases hn : (t.name.toList == []) with
      | false =>
        rw [hn] at HR
        have HE : Hid (R = false) := by show _ = _; rw [HR.out]; simp
        have hn2 : ¬ t.name.toList = [] := by simpa using hn
        go_enter Tryz.func135, Tryz.ntmps135
        go_wp2_with (first | (go_at_call 98; refine (HIn.out _).mono ?_; rintro e w' ⟨rfl, e4⟩; replace e4 := e4.symm; subst e4) | (go_at_call 72; refine (HN.out _).mono ?_; rintro e w' ⟨rfl, e4⟩; replace e4 := e4.symm; subst e4))
        go_ret
        exact ⟨by rw [HE.out]; rfl, rfl⟩
      | true =>
        rw [hn] at HR
        have hn2 : t.name.toList = [] := by simpa using hn
        have HE : Hid (R = true) := HR.out
        go_enter Tryz.func135, Tryz.ntmps135
        go_wp2_with (first | (go_at_call 98; refine (HIn.out _).mono ?_; rintro e w' ⟨rfl, e4⟩; replace e4 := e4.symm; subst e4) | (go_at_call 72; refine (HN.out _).mono ?_; rintro e w' ⟨rfl, e4⟩; replace e4 := e4.symm; subst e4))
        go_ret
        exact ⟨by rw [HE.out]; rfl, rfl⟩
set_option maxHeartbeats 1000000 in
theorem l4Bare_2 (t : Cor) (ao : Option Addr) (cap g q : Nat) (w : World) (hk : t.kind = 2)
    (c0 : w.cell? ⟨g, q, none⟩ = some (.int .i64 t.kind)) (_c2 : w.cell? ⟨g, q + 2, none⟩ = some (.int .i64 t.a)) (_c3 : w.cell? ⟨g, q + 3, none⟩ = some (.int .i64 t.b)) (c4 : w.cell? ⟨g, q + 4, none⟩ = some (.string t.name)) (c5 : w.cell? ⟨g, q + 5, none⟩ = some (.slice ao t.data.length cap)) :
    Calls Tryz.prog 135 #[.pointer (some ⟨g, q, none⟩)] w fun e w' => e = .returned (.bool (bareC t)) ∧ w' = w := by
  have HR : Hid (bareC t = ((t.name.toList == []) && (t.data.length == 0))) := by show _ = _; unfold bareC; rw [hk]; simp [namedK]
  have HIn : Hid (∀ u, Calls Tryz.prog 98 #[.int .i64 2, .int .i64 1, .int .i64 9] u fun e w' => e = .returned (.bool true) ∧ w' = u) := fun u => l1In_any 2 1 9 u
  have HN : Hid (∀ u, Calls Tryz.prog 72 #[.int .i64 2] u fun e w' => e = .returned (.bool false) ∧ w' = u) := fun u => l4Named_any 2 u
  rw [hk] at c0
  obtain ⟨R, hR⟩ : ∃ R, R = bareC t := ⟨_, rfl⟩
  rw [← hR] at HR ⊢
  clear hR hk
  cases hn : (t.name.toList == []) with
  | false =>
    rw [hn] at HR
    have HE : Hid (R = false) := by show _ = _; rw [HR.out]; simp
    have hn2 : ¬ t.name.toList = [] := by simpa using hn
    go_enter Tryz.func135, Tryz.ntmps135
    go_wp2_with (first | (go_at_call 98; refine (HIn.out _).mono ?_; rintro e w' ⟨rfl, e4⟩; replace e4 := e4.symm; subst e4) | (go_at_call 72; refine (HN.out _).mono ?_; rintro e w' ⟨rfl, e4⟩; replace e4 := e4.symm; subst e4))
    go_ret
    exact ⟨by rw [HE.out]; rfl, rfl⟩
  | true =>
    rw [hn] at HR
    have hn2 : t.name.toList = [] := by simpa using hn
    cases hd : (t.data.length == 0) with
    | false =>
      rw [hd] at HR
      have HE : Hid (R = false) := by show _ = _; rw [HR.out]; simp
      have hd2 : ((t.data.length : Int) == 0) = false := by rw [beq_eq_false_iff_ne] at hd ⊢; omega
      go_enter Tryz.func135, Tryz.ntmps135
      go_wp2_with (first | (go_at_call 98; refine (HIn.out _).mono ?_; rintro e w' ⟨rfl, e4⟩; replace e4 := e4.symm; subst e4) | (go_at_call 72; refine (HN.out _).mono ?_; rintro e w' ⟨rfl, e4⟩; replace e4 := e4.symm; subst e4))
      go_ret
      exact ⟨by rw [HE.out]; rfl, rfl⟩
    | true =>
      rw [hd] at HR
      have hd2 : ((t.data.length : Int) == 0) = true := by rw [beq_iff_eq] at hd ⊢; omega
      have HE : Hid (R = true) := HR.out
      go_enter Tryz.func135, Tryz.ntmps135
      go_wp2_with (first | (go_at_call 98; refine (HIn.out _).mono ?_; rintro e w' ⟨rfl, e4⟩; replace e4 := e4.symm; subst e4) | (go_at_call 72; refine (HN.out _).mono ?_; rintro e w' ⟨rfl, e4⟩; replace e4 := e4.symm; subst e4))
      go_ret
      exact ⟨by rw [HE.out]; rfl, rfl⟩
set_option maxHeartbeats 1000000 in
theorem l4Bare_3 (t : Cor) (ao : Option Addr) (cap g q : Nat) (w : World) (hk : t.kind = 3)
    (c0 : w.cell? ⟨g, q, none⟩ = some (.int .i64 t.kind)) (c2 : w.cell? ⟨g, q + 2, none⟩ = some (.int .i64 t.a)) (c3 : w.cell? ⟨g, q + 3, none⟩ = some (.int .i64 t.b)) (_c4 : w.cell? ⟨g, q + 4, none⟩ = some (.string t.name)) (c5 : w.cell? ⟨g, q + 5, none⟩ = some (.slice ao t.data.length cap)) :
    Calls Tryz.prog 135 #[.pointer (some ⟨g, q, none⟩)] w fun e w' => e = .returned (.bool (bareC t)) ∧ w' = w := by
  have HR : Hid (bareC t = ((t.a == 0) && (t.b == 0) && (t.data.length == 0))) := by show _ = _; unfold bareC; rw [hk]; simp [namedK]
  have HIn : Hid (∀ u, Calls Tryz.prog 98 #[.int .i64 3, .int .i64 1, .int .i64 9] u fun e w' => e = .returned (.bool true) ∧ w' = u) := fun u => l1In_any 3 1 9 u
  have HN : Hid (∀ u, Calls Tryz.prog 72 #[.int .i64 3] u fun e w' => e = .returned (.bool true) ∧ w' = u) := fun u => l4Named_any 3 u
  rw [hk] at c0
  obtain ⟨R, hR⟩ : ∃ R, R = bareC t := ⟨_, rfl⟩
  rw [← hR] at HR ⊢
  clear hR hk
  cases ha : (t.a == 0) with
  | false =>
    rw [ha] at HR
    have HE : Hid (R = false) := by show _ = _; rw [HR.out]; simp
    go_enter Tryz.func135, Tryz.ntmps135
    go_wp2_with (first | (go_at_call 98; refine (HIn.out _).mono ?_; rintro e w' ⟨rfl, e4⟩; replace e4 := e4.symm; subst e4) | (go_at_call 72; refine (HN.out _).mono ?_; rintro e w' ⟨rfl, e4⟩; replace e4 := e4.symm; subst e4))
    go_ret
    exact ⟨by rw [HE.out]; rfl, rfl⟩
  | true =>
    rw [ha] at HR
    cases hb : (t.b == 0) with
    | false =>
      rw [hb] at HR
      have HE : Hid (R = false) := by show _ = _; rw [HR.out]; simp
      go_enter Tryz.func135, Tryz.ntmps135
      go_wp2_with (first | (go_at_call 98; refine (HIn.out _).mono ?_; rintro e w' ⟨rfl, e4⟩; replace e4 := e4.symm; subst e4) | (go_at_call 72; refine (HN.out _).mono ?_; rintro e w' ⟨rfl, e4⟩; replace e4 := e4.symm; subst e4))
      go_ret
      exact ⟨by rw [HE.out]; rfl, rfl⟩
    | true =>
      rw [hb] at HR
      cases hd : (t.data.length == 0) with
      | false =>
        rw [hd] at HR
        have HE : Hid (R = false) := by show _ = _; rw [HR.out]; simp
        have hd2 : ((t.data.length : Int) == 0) = false := by rw [beq_eq_false_iff_ne] at hd ⊢; omega
        go_enter Tryz.func135, Tryz.ntmps135
        go_wp2_with (first | (go_at_call 98; refine (HIn.out _).mono ?_; rintro e w' ⟨rfl, e4⟩; replace e4 := e4.symm; subst e4) | (go_at_call 72; refine (HN.out _).mono ?_; rintro e w' ⟨rfl, e4⟩; replace e4 := e4.symm; subst e4))
        go_ret
        exact ⟨by rw [HE.out]; rfl, rfl⟩
      | true =>
        rw [hd] at HR
        have hd2 : ((t.data.length : Int) == 0) = true := by rw [beq_iff_eq] at hd ⊢; omega
        have HE : Hid (R = true) := HR.out
        go_enter Tryz.func135, Tryz.ntmps135
        go_wp2_with (first | (go_at_call 98; refine (HIn.out _).mono ?_; rintro e w' ⟨rfl, e4⟩; replace e4 := e4.symm; subst e4) | (go_at_call 72; refine (HN.out _).mono ?_; rintro e w' ⟨rfl, e4⟩; replace e4 := e4.symm; subst e4))
        go_ret
        exact ⟨by rw [HE.out]; rfl, rfl⟩
set_option maxHeartbeats 1000000 in
theorem l4Bare_4 (t : Cor) (ao : Option Addr) (cap g q : Nat) (w : World) (hk : t.kind = 4)
    (c0 : w.cell? ⟨g, q, none⟩ = some (.int .i64 t.kind)) (c2 : w.cell? ⟨g, q + 2, none⟩ = some (.int .i64 t.a)) (c3 : w.cell? ⟨g, q + 3, none⟩ = some (.int .i64 t.b)) (c4 : w.cell? ⟨g, q + 4, none⟩ = some (.string t.name)) (c5 : w.cell? ⟨g, q + 5, none⟩ = some (.slice ao t.data.length cap)) :
    Calls Tryz.prog 135 #[.pointer (some ⟨g, q, none⟩)] w fun e w' => e = .returned (.bool (bareC t)) ∧ w' = w := by
  have HR : Hid (bareC t = ((t.a == 0) && (t.b == 0) && (t.name.toList == []) && (t.data.length == 0))) := by show _ = _; unfold bareC; rw [hk]; simp [namedK]
  have HIn : Hid (∀ u, Calls Tryz.prog 98 #[.int .i64 4, .int .i64 1, .int .i64 9] u fun e w' => e = .returned (.bool true) ∧ w' = u) := fun u => l1In_any 4 1 9 u
  have HN : Hid (∀ u, Calls Tryz.prog 72 #[.int .i64 4] u fun e w' => e = .returned (.bool false) ∧ w' = u) := fun u => l4Named_any 4 u
  rw [hk] at c0
  obtain ⟨R, hR⟩ : ∃ R, R = bareC t := ⟨_, rfl⟩
  rw [← hR] at HR ⊢
  clear hR hk
  cases ha : (t.a == 0) with
  | false =>
    rw [ha] at HR
    have HE : Hid (R = false) := by show _ = _; rw [HR.out]; simp
    go_enter Tryz.func135, Tryz.ntmps135
    go_wp2_with (first | (go_at_call 98; refine (HIn.out _).mono ?_; rintro e w' ⟨rfl, e4⟩; replace e4 := e4.symm; subst e4) | (go_at_call 72; refine (HN.out _).mono ?_; rintro e w' ⟨rfl, e4⟩; replace e4 := e4.symm; subst e4))
    go_ret
    exact ⟨by rw [HE.out]; rfl, rfl⟩
  | true =>
    rw [ha] at HR
    cases hb : (t.b == 0) with
    | false =>
      rw [hb] at HR
      have HE : Hid (R = false) := by show _ = _; rw [HR.out]; simp
      go_enter Tryz.func135, Tryz.ntmps135
      go_wp2_with (first | (go_at_call 98; refine (HIn.out _).mono ?_; rintro e w' ⟨rfl, e4⟩; replace e4 := e4.symm; subst e4) | (go_at_call 72; refine (HN.out _).mono ?_; rintro e w' ⟨rfl, e4⟩; replace e4 := e4.symm; subst e4))
      go_ret
      exact ⟨by rw [HE.out]; rfl, rfl⟩
    | true =>
      rw [hb] at HR
      cases hn : (t.name.toList == []) with
      | false =>
        rw [hn] at HR
        have HE : Hid (R = false) := by show _ = _; rw [HR.out]; simp
        have hn2 : ¬ t.name.toList = [] := by simpa using hn
        go_enter Tryz.func135, Tryz.ntmps135
        go_wp2_with (first | (go_at_call 98; refine (HIn.out _).mono ?_; rintro e w' ⟨rfl, e4⟩; replace e4 := e4.symm; subst e4) | (go_at_call 72; refine (HN.out _).mono ?_; rintro e w' ⟨rfl, e4⟩; replace e4 := e4.symm; subst e4))
        go_ret
        exact ⟨by rw [HE.out]; rfl, rfl⟩
      | true =>
        rw [hn] at HR
        have hn2 : t.name.toList = [] := by simpa using hn
        cases hd : (t.data.length == 0) with
        | false =>
          rw [hd] at HR
          have HE : Hid (R = false) := by show _ = _; rw [HR.out]; simp
          have hd2 : ((t.data.length : Int) == 0) = false := by rw [beq_eq_false_iff_ne] at hd ⊢; omega
          go_enter Tryz.func135, Tryz.ntmps135
          go_wp2_with (first | (go_at_call 98; refine (HIn.out _).mono ?_; rintro e w' ⟨rfl, e4⟩; replace e4 := e4.symm; subst e4) | (go_at_call 72; refine (HN.out _).mono ?_; rintro e w' ⟨rfl, e4⟩; replace e4 := e4.symm; subst e4))
          go_ret
          exact ⟨by rw [HE.out]; rfl, rfl⟩
        | true =>
          rw [hd] at HR
          have hd2 : ((t.data.length : Int) == 0) = true := by rw [beq_iff_eq] at hd ⊢; omega
          have HE : Hid (R = true) := HR.out
          go_enter Tryz.func135, Tryz.ntmps135
          go_wp2_with (first | (go_at_call 98; refine (HIn.out _).mono ?_; rintro e w' ⟨rfl, e4⟩; replace e4 := e4.symm; subst e4) | (go_at_call 72; refine (HN.out _).mono ?_; rintro e w' ⟨rfl, e4⟩; replace e4 := e4.symm; subst e4))
          go_ret
          exact ⟨by rw [HE.out]; rfl, rfl⟩
set_option maxHeartbeats 1000000 in
theorem l4Bare_5 (t : Cor) (ao : Option Addr) (cap g q : Nat) (w : World) (hk : t.kind = 5)
    (c0 : w.cell? ⟨g, q, none⟩ = some (.int .i64 t.kind)) (_c2 : w.cell? ⟨g, q + 2, none⟩ = some (.int .i64 t.a)) (c3 : w.cell? ⟨g, q + 3, none⟩ = some (.int .i64 t.b)) (c4 : w.cell? ⟨g, q + 4, none⟩ = some (.string t.name)) (c5 : w.cell? ⟨g, q + 5, none⟩ = some (.slice ao t.data.length cap)) :
    Calls Tryz.prog 135 #[.pointer (some ⟨g, q, none⟩)] w fun e w' => e = .returned (.bool (bareC t)) ∧ w' = w := by
  have HR : Hid (bareC t = ((t.b == 0) && (t.name.toList == []) && (t.data.length == 0))) := by show _ = _; unfold bareC; rw [hk]; simp [namedK]
  have HIn : Hid (∀ u, Calls Tryz.prog 98 #[.int .i64 5, .int .i64 1, .int .i64 9] u fun e w' => e = .returned (.bool true) ∧ w' = u) := fun u => l1In_any 5 1 9 u
  have HN : Hid (∀ u, Calls Tryz.prog 72 #[.int .i64 5] u fun e w' => e = .returned (.bool false) ∧ w' = u) := fun u => l4Named_any 5 u
  rw [hk] at c0
  obtain ⟨R, hR⟩ : ∃ R, R = bareC t := ⟨_, rfl⟩
  rw [← hR] at HR ⊢
  clear hR hk
  cases hb : (t.b == 0) with
  | false =>
    rw [hb] at HR
    have HE : Hid (R = false) := by show _ = _; rw [HR.out]; simp
    go_enter Tryz.func135, Tryz.ntmps135
    go_wp2_with (first | (go_at_call 98; refine (HIn.out _).mono ?_; rintro e w' ⟨rfl, e4⟩; replace e4 := e4.symm; subst e4) | (go_at_call 72; refine (HN.out _).mono ?_; rintro e w' ⟨rfl, e4⟩; replace e4 := e4.symm; subst e4))
    go_ret
    exact ⟨by rw [HE.out]; rfl, rfl⟩
  | true =>
    rw [hb] at HR
    cases hn : (t.name.toList == []) with
    | false =>
      rw [hn] at HR
      have HE : Hid (R = false) := by show _ = _; rw [HR.out]; simp
      have hn2 : ¬ t.name.toList = [] := by simpa using hn
      go_enter Tryz.func135, Tryz.ntmps135
      go_wp2_with (first | (go_at_call 98; refine (HIn.out _).mono ?_; rintro e w' ⟨rfl, e4⟩; replace e4 := e4.symm; subst e4) | (go_at_call 72; refine (HN.out _).mono ?_; rintro e w' ⟨rfl, e4⟩; replace e4 := e4.symm; subst e4))
      go_ret
      exact ⟨by rw [HE.out]; rfl, rfl⟩
    | true =>
      rw [hn] at HR
      have hn2 : t.name.toList = [] := by simpa using hn
      cases hd : (t.data.length == 0) with
      | false =>
        rw [hd] at HR
        have HE : Hid (R = false) := by show _ = _; rw [HR.out]; simp
        have hd2 : ((t.data.length : Int) == 0) = false := by rw [beq_eq_false_iff_ne] at hd ⊢; omega
        go_enter Tryz.func135, Tryz.ntmps135
        go_wp2_with (first | (go_at_call 98; refine (HIn.out _).mono ?_; rintro e w' ⟨rfl, e4⟩; replace e4 := e4.symm; subst e4) | (go_at_call 72; refine (HN.out _).mono ?_; rintro e w' ⟨rfl, e4⟩; replace e4 := e4.symm; subst e4))
        go_ret
        exact ⟨by rw [HE.out]; rfl, rfl⟩
      | true =>
        rw [hd] at HR
        have hd2 : ((t.data.length : Int) == 0) = true := by rw [beq_iff_eq] at hd ⊢; omega
        have HE : Hid (R = true) := HR.out
        go_enter Tryz.func135, Tryz.ntmps135
        go_wp2_with (first | (go_at_call 98; refine (HIn.out _).mono ?_; rintro e w' ⟨rfl, e4⟩; replace e4 := e4.symm; subst e4) | (go_at_call 72; refine (HN.out _).mono ?_; rintro e w' ⟨rfl, e4⟩; replace e4 := e4.symm; subst e4))
        go_ret
        exact ⟨by rw [HE.out]; rfl, rfl⟩
set_option maxHeartbeats 1000000 in
theorem l4Bare_6 (t : Cor) (ao : Option Addr) (cap g q : Nat) (w : World) (hk : t.kind = 6)
    (c0 : w.cell? ⟨g, q, none⟩ = some (.int .i64 t.kind)) (c2 : w.cell? ⟨g, q + 2, none⟩ = some (.int .i64 t.a)) (c3 : w.cell? ⟨g, q + 3, none⟩ = some (.int .i64 t.b)) (c4 : w.cell? ⟨g, q + 4, none⟩ = some (.string t.name)) (c5 : w.cell? ⟨g, q + 5, none⟩ = some (.slice ao t.data.length cap)) :
    Calls Tryz.prog 135 #[.pointer (some ⟨g, q, none⟩)] w fun e w' => e = .returned (.bool (bareC t)) ∧ w' = w := by
  have HR : Hid (bareC t = ((t.a == 0) && (t.b == 0) && (t.name.toList == []) && (t.data.length == 0))) := by show _ = _; unfold bareC; rw [hk]; simp [namedK]
  have HIn : Hid (∀ u, Calls Tryz.prog 98 #[.int .i64 6, .int .i64 1, .int .i64 9] u fun e w' => e = .returned (.bool true) ∧ w' = u) := fun u => l1In_any 6 1 9 u
  have HN : Hid (∀ u, Calls Tryz.prog 72 #[.int .i64 6] u fun e w' => e = .returned (.bool false) ∧ w' = u) := fun u => l4Named_any 6 u
  rw [hk] at c0
  obtain ⟨R, hR⟩ : ∃ R, R = bareC t := ⟨_, rfl⟩
  rw [← hR] at HR ⊢
  clear hR hk
  cases ha : (t.a == 0) with
  | false =>
    rw [ha] at HR
    have HE : Hid (R = false) := by show _ = _; rw [HR.out]; simp
    go_enter Tryz.func135, Tryz.ntmps135
    go_wp2_with (first | (go_at_call 98; refine (HIn.out _).mono ?_; rintro e w' ⟨rfl, e4⟩; replace e4 := e4.symm; subst e4) | (go_at_call 72; refine (HN.out _).mono ?_; rintro e w' ⟨rfl, e4⟩; replace e4 := e4.symm; subst e4))
    go_ret
    exact ⟨by rw [HE.out]; rfl, rfl⟩
  | true =>
    rw [ha] at HR
    cases hb : (t.b == 0) with
    | false =>
      rw [hb] at HR
      have HE : Hid (R = false) := by show _ = _; rw [HR.out]; simp
      go_enter Tryz.func135, Tryz.ntmps135
      go_wp2_with (first | (go_at_call 98; refine (HIn.out _).mono ?_; rintro e w' ⟨rfl, e4⟩; replace e4 := e4.symm; subst e4) | (go_at_call 72; refine (HN.out _).mono ?_; rintro e w' ⟨rfl, e4⟩; replace e4 := e4.symm; subst e4))
      go_ret
      exact ⟨by rw [HE.out]; rfl, rfl⟩
    | true =>
      rw [hb] at HR
      cases hn : (t.name.toList == []) with
      | false =>
        rw [hn] at HR
        have HE : Hid (R = false) := by show _ = _; rw [HR.out]; simp
        have hn2 : ¬ t.name.toList = [] := by simpa using hn
        go_enter Tryz.func135, Tryz.ntmps135
        go_wp2_with (first | (go_at_call 98; refine (HIn.out _).mono ?_; rintro e w' ⟨rfl, e4⟩; replace e4 := e4.symm; subst e4) | (go_at_call 72; refine (HN.out _).mono ?_; rintro e w' ⟨rfl, e4⟩; replace e4 := e4.symm; subst e4))
        go_ret
        exact ⟨by rw [HE.out]; rfl, rfl⟩
      | true =>
        rw [hn] at HR
        have hn2 : t.name.toList = [] := by simpa using hn
        cases hd : (t.data.length == 0) with
        | false =>
          rw [hd] at HR
          have HE : Hid (R = false) := by show _ = _; rw [HR.out]; simp
          have hd2 : ((t.data.length : Int) == 0) = false := by rw [beq_eq_false_iff_ne] at hd ⊢; omega
          go_enter Tryz.func135, Tryz.ntmps135
          go_wp2_with (first | (go_at_call 98; refine (HIn.out _).mono ?_; rintro e w' ⟨rfl, e4⟩; replace e4 := e4.symm; subst e4) | (go_at_call 72; refine (HN.out _).mono ?_; rintro e w' ⟨rfl, e4⟩; replace e4 := e4.symm; subst e4))
          go_ret
          exact ⟨by rw [HE.out]; rfl, rfl⟩
        | true =>
          rw [hd] at HR
          have hd2 : ((t.data.length : Int) == 0) = true := by rw [beq_iff_eq] at hd ⊢; omega
          have HE : Hid (R = true) := HR.out
          go_enter Tryz.func135, Tryz.ntmps135
          go_wp2_with (first | (go_at_call 98; refine (HIn.out _).mono ?_; rintro e w' ⟨rfl, e4⟩; replace e4 := e4.symm; subst e4) | (go_at_call 72; refine (HN.out _).mono ?_; rintro e w' ⟨rfl, e4⟩; replace e4 := e4.symm; subst e4))
          go_ret
          exact ⟨by rw [HE.out]; rfl, rfl⟩
set_option maxHeartbeats 1000000 in
theorem l4Bare_7 (t : Cor) (ao : Option Addr) (cap g q : Nat) (w : World) (hk : t.kind = 7)
    (c0 : w.cell? ⟨g, q, none⟩ = some (.int .i64 t.kind)) (c2 : w.cell? ⟨g, q + 2, none⟩ = some (.int .i64 t.a)) (c3 : w.cell? ⟨g, q + 3, none⟩ = some (.int .i64 t.b)) (_c4 : w.cell? ⟨g, q + 4, none⟩ = some (.string t.name)) (c5 : w.cell? ⟨g, q + 5, none⟩ = some (.slice ao t.data.length cap)) :
    Calls Tryz.prog 135 #[.pointer (some ⟨g, q, none⟩)] w fun e w' => e = .returned (.bool (bareC t)) ∧ w' = w := by
  have HR : Hid (bareC t = ((t.a == 0) && (t.b == 0) && (t.data.length == 0))) := by show _ = _; unfold bareC; rw [hk]; simp [namedK]
  have HIn : Hid (∀ u, Calls Tryz.prog 98 #[.int .i64 7, .int .i64 1, .int .i64 9] u fun e w' => e = .returned (.bool true) ∧ w' = u) := fun u => l1In_any 7 1 9 u
  have HN : Hid (∀ u, Calls Tryz.prog 72 #[.int .i64 7] u fun e w' => e = .returned (.bool true) ∧ w' = u) := fun u => l4Named_any 7 u
  rw [hk] at c0
  obtain ⟨R, hR⟩ : ∃ R, R = bareC t := ⟨_, rfl⟩
  rw [← hR] at HR ⊢
  clear hR hk
  cases ha : (t.a == 0) with
  | false =>
    rw [ha] at HR
    have HE : Hid (R = false) := by show _ = _; rw [HR.out]; simp
    go_enter Tryz.func135, Tryz.ntmps135
    go_wp2_with (first | (go_at_call 98; refine (HIn.out _).mono ?_; rintro e w' ⟨rfl, e4⟩; replace e4 := e4.symm; subst e4) | (go_at_call 72; refine (HN.out _).mono ?_; rintro e w' ⟨rfl, e4⟩; replace e4 := e4.symm; subst e4))
    go_ret
    exact ⟨by rw [HE.out]; rfl, rfl⟩
  | true =>
    rw [ha] at HR
    cases hb : (t.b == 0) with
    | false =>
      rw [hb] at HR
      have HE : Hid (R = false) := by show _ = _; rw [HR.out]; simp
      go_enter Tryz.func135, Tryz.ntmps135
      go_wp2_with (first | (go_at_call 98; refine (HIn.out _).mono ?_; rintro e w' ⟨rfl, e4⟩; replace e4 := e4.symm; subst e4) | (go_at_call 72; refine (HN.out _).mono ?_; rintro e w' ⟨rfl, e4⟩; replace e4 := e4.symm; subst e4))
      go_ret
      exact ⟨by rw [HE.out]; rfl, rfl⟩
    | true =>
      rw [hb] at HR
      cases hd : (t.data.length == 0) with
      | false =>
        rw [hd] at HR
        have HE : Hid (R = false) := by show _ = _; rw [HR.out]; simp
        have hd2 : ((t.data.length : Int) == 0) = false := by rw [beq_eq_false_iff_ne] at hd ⊢; omega
        go_enter Tryz.func135, Tryz.ntmps135
        go_wp2_with (first | (go_at_call 98; refine (HIn.out _).mono ?_; rintro e w' ⟨rfl, e4⟩; replace e4 := e4.symm; subst e4) | (go_at_call 72; refine (HN.out _).mono ?_; rintro e w' ⟨rfl, e4⟩; replace e4 := e4.symm; subst e4))
        go_ret
        exact ⟨by rw [HE.out]; rfl, rfl⟩
      | true =>
        rw [hd] at HR
        have hd2 : ((t.data.length : Int) == 0) = true := by rw [beq_iff_eq] at hd ⊢; omega
        have HE : Hid (R = true) := HR.out
        go_enter Tryz.func135, Tryz.ntmps135
        go_wp2_with (first | (go_at_call 98; refine (HIn.out _).mono ?_; rintro e w' ⟨rfl, e4⟩; replace e4 := e4.symm; subst e4) | (go_at_call 72; refine (HN.out _).mono ?_; rintro e w' ⟨rfl, e4⟩; replace e4 := e4.symm; subst e4))
        go_ret
        exact ⟨by rw [HE.out]; rfl, rfl⟩
set_option maxHeartbeats 1000000 in
theorem l4Bare_8 (t : Cor) (ao : Option Addr) (cap g q : Nat) (w : World) (hk : t.kind = 8)
    (c0 : w.cell? ⟨g, q, none⟩ = some (.int .i64 t.kind)) (c2 : w.cell? ⟨g, q + 2, none⟩ = some (.int .i64 t.a)) (c3 : w.cell? ⟨g, q + 3, none⟩ = some (.int .i64 t.b)) (_c4 : w.cell? ⟨g, q + 4, none⟩ = some (.string t.name)) (c5 : w.cell? ⟨g, q + 5, none⟩ = some (.slice ao t.data.length cap)) :
    Calls Tryz.prog 135 #[.pointer (some ⟨g, q, none⟩)] w fun e w' => e = .returned (.bool (bareC t)) ∧ w' = w := by
  have HR : Hid (bareC t = ((t.a == 0) && (t.b == 0) && (t.data.length == 0))) := by show _ = _; unfold bareC; rw [hk]; simp [namedK]
  have HIn : Hid (∀ u, Calls Tryz.prog 98 #[.int .i64 8, .int .i64 1, .int .i64 9] u fun e w' => e = .returned (.bool true) ∧ w' = u) := fun u => l1In_any 8 1 9 u
  have HN : Hid (∀ u, Calls Tryz.prog 72 #[.int .i64 8] u fun e w' => e = .returned (.bool true) ∧ w' = u) := fun u => l4Named_any 8 u
  rw [hk] at c0
  obtain ⟨R, hR⟩ : ∃ R, R = bareC t := ⟨_, rfl⟩
  rw [← hR] at HR ⊢
  clear hR hk
  cases ha : (t.a == 0) with
  | false =>
    rw [ha] at HR
    have HE : Hid (R = false) := by show _ = _; rw [HR.out]; simp
    go_enter Tryz.func135, Tryz.ntmps135
    go_wp2_with (first | (go_at_call 98; refine (HIn.out _).mono ?_; rintro e w' ⟨rfl, e4⟩; replace e4 := e4.symm; subst e4) | (go_at_call 72; refine (HN.out _).mono ?_; rintro e w' ⟨rfl, e4⟩; replace e4 := e4.symm; subst e4))
    go_ret
    exact ⟨by rw [HE.out]; rfl, rfl⟩
  | true =>
    rw [ha] at HR
    cases hb : (t.b == 0) with
    | false =>
      rw [hb] at HR
      have HE : Hid (R = false) := by show _ = _; rw [HR.out]; simp
      go_enter Tryz.func135, Tryz.ntmps135
      go_wp2_with (first | (go_at_call 98; refine (HIn.out _).mono ?_; rintro e w' ⟨rfl, e4⟩; replace e4 := e4.symm; subst e4) | (go_at_call 72; refine (HN.out _).mono ?_; rintro e w' ⟨rfl, e4⟩; replace e4 := e4.symm; subst e4))
      go_ret
      exact ⟨by rw [HE.out]; rfl, rfl⟩
    | true =>
      rw [hb] at HR
      cases hd : (t.data.length == 0) with
      | false =>
        rw [hd] at HR
        have HE : Hid (R = false) := by show _ = _; rw [HR.out]; simp
        have hd2 : ((t.data.length : Int) == 0) = false := by rw [beq_eq_false_iff_ne] at hd ⊢; omega
        go_enter Tryz.func135, Tryz.ntmps135
        go_wp2_with (first | (go_at_call 98; refine (HIn.out _).mono ?_; rintro e w' ⟨rfl, e4⟩; replace e4 := e4.symm; subst e4) | (go_at_call 72; refine (HN.out _).mono ?_; rintro e w' ⟨rfl, e4⟩; replace e4 := e4.symm; subst e4))
        go_ret
        exact ⟨by rw [HE.out]; rfl, rfl⟩
      | true =>
        rw [hd] at HR
        have hd2 : ((t.data.length : Int) == 0) = true := by rw [beq_iff_eq] at hd ⊢; omega
        have HE : Hid (R = true) := HR.out
        go_enter Tryz.func135, Tryz.ntmps135
        go_wp2_with (first | (go_at_call 98; refine (HIn.out _).mono ?_; rintro e w' ⟨rfl, e4⟩; replace e4 := e4.symm; subst e4) | (go_at_call 72; refine (HN.out _).mono ?_; rintro e w' ⟨rfl, e4⟩; replace e4 := e4.symm; subst e4))
        go_ret
        exact ⟨by rw [HE.out]; rfl, rfl⟩
set_option maxHeartbeats 1000000 in
theorem l4Bare_9 (t : Cor) (ao : Option Addr) (cap g q : Nat) (w : World) (hk : t.kind = 9)
    (c0 : w.cell? ⟨g, q, none⟩ = some (.int .i64 t.kind)) (c2 : w.cell? ⟨g, q + 2, none⟩ = some (.int .i64 t.a)) (c3 : w.cell? ⟨g, q + 3, none⟩ = some (.int .i64 t.b)) (c4 : w.cell? ⟨g, q + 4, none⟩ = some (.string t.name)) (c5 : w.cell? ⟨g, q + 5, none⟩ = some (.slice ao t.data.length cap)) :
    Calls Tryz.prog 135 #[.pointer (some ⟨g, q, none⟩)] w fun e w' => e = .returned (.bool (bareC t)) ∧ w' = w := by
  have HR : Hid (bareC t = ((t.a == 0) && (t.b == 0) && (t.name.toList == []) && (t.data.length == 0))) := by show _ = _; unfold bareC; rw [hk]; simp [namedK]
  have HIn : Hid (∀ u, Calls Tryz.prog 98 #[.int .i64 9, .int .i64 1, .int .i64 9] u fun e w' => e = .returned (.bool true) ∧ w' = u) := fun u => l1In_any 9 1 9 u
  have HN : Hid (∀ u, Calls Tryz.prog 72 #[.int .i64 9] u fun e w' => e = .returned (.bool false) ∧ w' = u) := fun u => l4Named_any 9 u
  rw [hk] at c0
  obtain ⟨R, hR⟩ : ∃ R, R = bareC t := ⟨_, rfl⟩
  rw [← hR] at HR ⊢
  clear hR hk
  cases ha : (t.a == 0) with
  | false =>
    rw [ha] at HR
    have HE : Hid (R = false) := by show _ = _; rw [HR.out]; simp
    go_enter Tryz.func135, Tryz.ntmps135
    go_wp2_with (first | (go_at_call 98; refine (HIn.out _).mono ?_; rintro e w' ⟨rfl, e4⟩; replace e4 := e4.symm; subst e4) | (go_at_call 72; refine (HN.out _).mono ?_; rintro e w' ⟨rfl, e4⟩; replace e4 := e4.symm; subst e4))
    go_ret
    exact ⟨by rw [HE.out]; rfl, rfl⟩
  | true =>
    rw [ha] at HR
    cases hb : (t.b == 0) with
    | false =>
      rw [hb] at HR
      have HE : Hid (R = false) := by show _ = _; rw [HR.out]; simp
      go_enter Tryz.func135, Tryz.ntmps135
      go_wp2_with (first | (go_at_call 98; refine (HIn.out _).mono ?_; rintro e w' ⟨rfl, e4⟩; replace e4 := e4.symm; subst e4) | (go_at_call 72; refine (HN.out _).mono ?_; rintro e w' ⟨rfl, e4⟩; replace e4 := e4.symm; subst e4))
      go_ret
      exact ⟨by rw [HE.out]; rfl, rfl⟩
    | true =>
      rw [hb] at HR
      cases hn : (t.name.toList == []) with
      | false =>
        rw [hn] at HR
        have HE : Hid (R = false) := by show _ = _; rw [HR.out]; simp
        have hn2 : ¬ t.name.toList = [] := by simpa using hn
        go_enter Tryz.func135, Tryz.ntmps135
        go_wp2_with (first | (go_at_call 98; refine (HIn.out _).mono ?_; rintro e w' ⟨rfl, e4⟩; replace e4 := e4.symm; subst e4) | (go_at_call 72; refine (HN.out _).mono ?_; rintro e w' ⟨rfl, e4⟩; replace e4 := e4.symm; subst e4))
        go_ret
        exact ⟨by rw [HE.out]; rfl, rfl⟩
      | true =>
        rw [hn] at HR
        have hn2 : t.name.toList = [] := by simpa using hn
        cases hd : (t.data.length == 0) with
        | false =>
          rw [hd] at HR
          have HE : Hid (R = false) := by show _ = _; rw [HR.out]; simp
          have hd2 : ((t.data.length : Int) == 0) = false := by rw [beq_eq_false_iff_ne] at hd ⊢; omega
          go_enter Tryz.func135, Tryz.ntmps135
          go_wp2_with (first | (go_at_call 98; refine (HIn.out _).mono ?_; rintro e w' ⟨rfl, e4⟩; replace e4 := e4.symm; subst e4) | (go_at_call 72; refine (HN.out _).mono ?_; rintro e w' ⟨rfl, e4⟩; replace e4 := e4.symm; subst e4))
          go_ret
          exact ⟨by rw [HE.out]; rfl, rfl⟩
        | true =>
          rw [hd] at HR
          have hd2 : ((t.data.length : Int) == 0) = true := by rw [beq_iff_eq] at hd ⊢; omega
          have HE : Hid (R = true) := HR.out
          go_enter Tryz.func135, Tryz.ntmps135
          go_wp2_with (first | (go_at_call 98; refine (HIn.out _).mono ?_; rintro e w' ⟨rfl, e4⟩; replace e4 := e4.symm; subst e4) | (go_at_call 72; refine (HN.out _).mono ?_; rintro e w' ⟨rfl, e4⟩; replace e4 := e4.symm; subst e4))
          go_ret
          exact ⟨by rw [HE.out]; rfl, rfl⟩
end Go.Proofs.YtebnonpdaddniaaGreatDoor
/-
  What a kind of core has: the model's l4Bare at any core, the program's isCoreForm and kidBounds, the model's l4Many; nothing that was there is turned.
-/
namespace Go.Proofs.YtebnonpdaddniaaGreatDoor
open Go.RowKit Go.Extern.Stop Go.Stop Go.Extern Num Go.Lib

theorem bareC_out {t : Cor} (h : t.kind < 1 ∨ 9 < t.kind) : bareC t = false := by
  unfold bareC
  have : (decide (1 ≤ t.kind) && decide (t.kind ≤ 9)) = false := by simp; omega
  rw [this]; rfl
set_option maxHeartbeats 1000000 in
theorem l4Bare_out (t : Cor) (g q : Nat) (w : World) (hk : t.kind < 1 ∨ 9 < t.kind) (c0 : w.cell? ⟨g, q, none⟩ = some (.int .i64 t.kind)) :
    Calls Tryz.prog 135 #[.pointer (some ⟨g, q, none⟩)] w fun e w' => e = .returned (.bool (bareC t)) ∧ w' = w := by
  have HR : Hid (bareC t = false) := bareC_out hk
  have h2 : (t.kind == 2) = false := by rw [beq_eq_false_iff_ne]; omega
  have h5 : (t.kind == 5) = false := by rw [beq_eq_false_iff_ne]; omega
  have HIn : Hid (∀ u, Calls Tryz.prog 98 #[.int .i64 t.kind, .int .i64 1, .int .i64 9] u fun e w' => e = .returned (.bool false) ∧ w' = u) := fun u => by
    have := l1In_any t.kind 1 9 u
    have e : (decide (1 ≤ t.kind) && decide (t.kind ≤ 9)) = false := by simp; omega
    rw [e] at this; exact this
  obtain ⟨R, hR⟩ : ∃ R, R = bareC t := ⟨_, rfl⟩
  rw [← hR] at HR ⊢
  obtain ⟨k, hkk⟩ : ∃ k, k = t.kind := ⟨_, rfl⟩
  rw [← hkk] at c0 h2 h5 HIn
  clear hR hk hkk
  go_enter Tryz.func135, Tryz.ntmps135
  go_wp2_with (go_at_call 98; refine (HIn.out _).mono ?_; rintro e w' ⟨rfl, e4⟩; replace e4 := e4.symm; subst e4)
  go_ret
  exact ⟨by rw [HR.out]; rfl, rfl⟩
theorem l4Bare_any (t : Cor) (ao : Option Addr) (cap g q : Nat) (w : World)
    (c0 : w.cell? ⟨g, q, none⟩ = some (.int .i64 t.kind)) (c2 : w.cell? ⟨g, q + 2, none⟩ = some (.int .i64 t.a)) (c3 : w.cell? ⟨g, q + 3, none⟩ = some (.int .i64 t.b)) (c4 : w.cell? ⟨g, q + 4, none⟩ = some (.string t.name)) (c5 : w.cell? ⟨g, q + 5, none⟩ = some (.slice ao t.data.length cap)) :
    Calls Tryz.prog 135 #[.pointer (some ⟨g, q, none⟩)] w fun e w' => e = .returned (.bool (bareC t)) ∧ w' = w := by
  rcases kinds9 t.kind with h | h | h | h | h | h | h | h | h | h
  · exact l4Bare_1 t ao cap g q w h c0 c2 c3 c4 c5
  · exact l4Bare_2 t ao cap g q w h c0 c2 c3 c4 c5
  · exact l4Bare_3 t ao cap g q w h c0 c2 c3 c4 c5
  · exact l4Bare_4 t ao cap g q w h c0 c2 c3 c4 c5
  · exact l4Bare_5 t ao cap g q w h c0 c2 c3 c4 c5
  · exact l4Bare_6 t ao cap g q w h c0 c2 c3 c4 c5
  · exact l4Bare_7 t ao cap g q w h c0 c2 c3 c4 c5
  · exact l4Bare_8 t ao cap g q w h c0 c2 c3 c4 c5
  · exact l4Bare_9 t ao cap g q w h c0 c2 c3 c4 c5
  · exact l4Bare_out t g q w h c0
set_option maxHeartbeats 1000000 in
theorem isCoreForm_1 (t : Cor) (ao : Option Addr) (cap : Nat) (w : World) (hk : t.kind = 1) :
    Calls Tryz.prog 139 #[t.val (.slice ao t.data.length cap)] w fun e w' => e = .returned (.bool (bareC t)) ∧ Below w.heap.size w w' := by
  have HR : Hid (bareC t = ((t.a == 0) && (t.b == 0) && (t.name.toList == []))) := by show _ = _; unfold bareC; rw [hk]; simp [namedK]
  obtain ⟨R, hR⟩ : ∃ R, R = bareC t := ⟨_, rfl⟩
  rw [← hR] at HR ⊢
  unfold Cor.val
  rw [hk]
  clear hR hk
  cases ha : (t.a == 0) with
  | false =>
    rw [ha] at HR
    have HE : Hid (R = false) := by show _ = _; rw [HR.out]; simp
    have ha2 : (t.a != 0) = true := by rw [bne, ha]; rfl
    go_enter Tryz.func139, Tryz.ntmps139
    go_wp2
    go_ret
    exact ⟨by rw [HE.out]; rfl, by repeat (first | exact Below.refl _ _ | refine Below.alloc ?_ (by simp <;> omega) _ | refine Below.drew ?_)⟩
  | true =>
    rw [ha] at HR
    have ha2 : (t.a != 0) = false := by rw [bne, ha]; rfl
    cases hb : (t.b == 0) with
    | false =>
      rw [hb] at HR
      have HE : Hid (R = false) := by show _ = _; rw [HR.out]; simp
      have hb2 : (t.b != 0) = true := by rw [bne, hb]; rfl
      go_enter Tryz.func139, Tryz.ntmps139
      go_wp2
      go_ret
      exact ⟨by rw [HE.out]; rfl, by repeat (first | exact Below.refl _ _ | refine Below.alloc ?_ (by simp <;> omega) _ | refine Below.drew ?_)⟩
    | true =>
      rw [hb] at HR
      have hb2 : (t.b != 0) = false := by rw [bne, hb]; rfl
      cases hn : (t.name.toList == []) with
      | false =>
        rw [hn] at HR
        have HE : Hid (R = false) := by show _ = _; rw [HR.out]; simp
        have hn2 : ¬ t.name.toList = [] := by simpa using hn
        go_enter Tryz.func139, Tryz.ntmps139
        go_wp2
        go_ret
        exact ⟨by rw [HE.out]; rfl, by repeat (first | exact Below.refl _ _ | refine Below.alloc ?_ (by simp <;> omega) _ | refine Below.drew ?_)⟩
      | true =>
        rw [hn] at HR
        have hn2 : t.name.toList = [] := by simpa using hn
        have HE : Hid (R = true) := HR.out
        go_enter Tryz.func139, Tryz.ntmps139
        go_wp2
        go_ret
        exact ⟨by rw [HE.out]; rfl, by repeat (first | exact Below.refl _ _ | refine Below.alloc ?_ (by simp <;> omega) _ | refine Below.drew ?_)⟩
set_option maxHeartbeats 1000000 in
theorem isCoreForm_2 (t : Cor) (ao : Option Addr) (cap : Nat) (w : World) (hk : t.kind = 2) :
    Calls Tryz.prog 139 #[t.val (.slice ao t.data.length cap)] w fun e w' => e = .returned (.bool (bareC t)) ∧ Below w.heap.size w w' := by
  have HR : Hid (bareC t = ((t.name.toList == []) && (t.data.length == 0))) := by show _ = _; unfold bareC; rw [hk]; simp [namedK]
  obtain ⟨R, hR⟩ : ∃ R, R = bareC t := ⟨_, rfl⟩
  rw [← hR] at HR ⊢
  unfold Cor.val
  rw [hk]
  clear hR hk
  cases hn : (t.name.toList == []) with
  | false =>
    rw [hn] at HR
    have HE : Hid (R = false) := by show _ = _; rw [HR.out]; simp
    have hn2 : ¬ t.name.toList = [] := by simpa using hn
    go_enter Tryz.func139, Tryz.ntmps139
    go_wp2
    go_ret
    exact ⟨by rw [HE.out]; rfl, by repeat (first | exact Below.refl _ _ | refine Below.alloc ?_ (by simp <;> omega) _ | refine Below.drew ?_)⟩
  | true =>
    rw [hn] at HR
    have hn2 : t.name.toList = [] := by simpa using hn
    cases hd : (t.data.length == 0) with
    | false =>
      rw [hd] at HR
      have HE : Hid (R = false) := by show _ = _; rw [HR.out]; simp
      have hd2 : ((t.data.length : Int) == 0) = false := by rw [beq_eq_false_iff_ne] at hd ⊢; omega
      go_enter Tryz.func139, Tryz.ntmps139
      go_wp2
      go_ret
      exact ⟨by rw [HE.out]; rfl, by repeat (first | exact Below.refl _ _ | refine Below.alloc ?_ (by simp <;> omega) _ | refine Below.drew ?_)⟩
    | true =>
      rw [hd] at HR
      have hd2 : ((t.data.length : Int) == 0) = true := by rw [beq_iff_eq] at hd ⊢; omega
      have HE : Hid (R = true) := HR.out
      go_enter Tryz.func139, Tryz.ntmps139
      go_wp2
      go_ret
      exact ⟨by rw [HE.out]; rfl, by repeat (first | exact Below.refl _ _ | refine Below.alloc ?_ (by simp <;> omega) _ | refine Below.drew ?_)⟩
set_option maxHeartbeats 1000000 in
theorem isCoreForm_3 (t : Cor) (ao : Option Addr) (cap : Nat) (w : World) (hk : t.kind = 3) :
    Calls Tryz.prog 139 #[t.val (.slice ao t.data.length cap)] w fun e w' => e = .returned (.bool (bareC t)) ∧ Below w.heap.size w w' := by
  have HR : Hid (bareC t = ((t.a == 0) && (t.b == 0) && (t.data.length == 0))) := by show _ = _; unfold bareC; rw [hk]; simp [namedK]
  obtain ⟨R, hR⟩ : ∃ R, R = bareC t := ⟨_, rfl⟩
  rw [← hR] at HR ⊢
  unfold Cor.val
  rw [hk]
  clear hR hk
  cases ha : (t.a == 0) with
  | false =>
    rw [ha] at HR
    have HE : Hid (R = false) := by show _ = _; rw [HR.out]; simp
    have ha2 : (t.a != 0) = true := by rw [bne, ha]; rfl
    go_enter Tryz.func139, Tryz.ntmps139
    go_wp2
    go_ret
    exact ⟨by rw [HE.out]; rfl, by repeat (first | exact Below.refl _ _ | refine Below.alloc ?_ (by simp <;> omega) _ | refine Below.drew ?_)⟩
  | true =>
    rw [ha] at HR
    have ha2 : (t.a != 0) = false := by rw [bne, ha]; rfl
    cases hb : (t.b == 0) with
    | false =>
      rw [hb] at HR
      have HE : Hid (R = false) := by show _ = _; rw [HR.out]; simp
      have hb2 : (t.b != 0) = true := by rw [bne, hb]; rfl
      go_enter Tryz.func139, Tryz.ntmps139
      go_wp2
      go_ret
      exact ⟨by rw [HE.out]; rfl, by repeat (first | exact Below.refl _ _ | refine Below.alloc ?_ (by simp <;> omega) _ | refine Below.drew ?_)⟩
    | true =>
      rw [hb] at HR
      have hb2 : (t.b != 0) = false := by rw [bne, hb]; rfl
      cases hd : (t.data.length == 0) with
      | false =>
        rw [hd] at HR
        have HE : Hid (R = false) := by show _ = _; rw [HR.out]; simp
        have hd2 : ((t.data.length : Int) == 0) = false := by rw [beq_eq_false_iff_ne] at hd ⊢; omega
        go_enter Tryz.func139, Tryz.ntmps139
        go_wp2
        go_ret
        exact ⟨by rw [HE.out]; rfl, by repeat (first | exact Below.refl _ _ | refine Below.alloc ?_ (by simp <;> omega) _ | refine Below.drew ?_)⟩
      | true =>
        rw [hd] at HR
        have hd2 : ((t.data.length : Int) == 0) = true := by rw [beq_iff_eq] at hd ⊢; omega
        have HE : Hid (R = true) := HR.out
        go_enter Tryz.func139, Tryz.ntmps139
        go_wp2
        go_ret
        exact ⟨by rw [HE.out]; rfl, by repeat (first | exact Below.refl _ _ | refine Below.alloc ?_ (by simp <;> omega) _ | refine Below.drew ?_)⟩
set_option maxHeartbeats 1000000 in
theorem isCoreForm_4 (t : Cor) (ao : Option Addr) (cap : Nat) (w : World) (hk : t.kind = 4) :
    Calls Tryz.prog 139 #[t.val (.slice ao t.data.length cap)] w fun e w' => e = .returned (.bool (bareC t)) ∧ Below w.heap.size w w' := by
  have HR : Hid (bareC t = ((t.a == 0) && (t.b == 0) && (t.name.toList == []) && (t.data.length == 0))) := by show _ = _; unfold bareC; rw [hk]; simp [namedK]
  obtain ⟨R, hR⟩ : ∃ R, R = bareC t := ⟨_, rfl⟩
  rw [← hR] at HR ⊢
  unfold Cor.val
  rw [hk]
  clear hR hk
  cases ha : (t.a == 0) with
  | false =>
    rw [ha] at HR
    have HE : Hid (R = false) := by show _ = _; rw [HR.out]; simp
    have ha2 : (t.a != 0) = true := by rw [bne, ha]; rfl
    go_enter Tryz.func139, Tryz.ntmps139
    go_wp2
    go_ret
    exact ⟨by rw [HE.out]; rfl, by repeat (first | exact Below.refl _ _ | refine Below.alloc ?_ (by simp <;> omega) _ | refine Below.drew ?_)⟩
  | true =>
    rw [ha] at HR
    have ha2 : (t.a != 0) = false := by rw [bne, ha]; rfl
    cases hb : (t.b == 0) with
    | false =>
      rw [hb] at HR
      have HE : Hid (R = false) := by show _ = _; rw [HR.out]; simp
      have hb2 : (t.b != 0) = true := by rw [bne, hb]; rfl
      go_enter Tryz.func139, Tryz.ntmps139
      go_wp2
      go_ret
      exact ⟨by rw [HE.out]; rfl, by repeat (first | exact Below.refl _ _ | refine Below.alloc ?_ (by simp <;> omega) _ | refine Below.drew ?_)⟩
    | true =>
      rw [hb] at HR
      have hb2 : (t.b != 0) = false := by rw [bne, hb]; rfl
      cases hn : (t.name.toList == []) with
      | false =>
        rw [hn] at HR
        have HE : Hid (R = false) := by show _ = _; rw [HR.out]; simp
        have hn2 : ¬ t.name.toList = [] := by simpa using hn
        go_enter Tryz.func139, Tryz.ntmps139
        go_wp2
        go_ret
        exact ⟨by rw [HE.out]; rfl, by repeat (first | exact Below.refl _ _ | refine Below.alloc ?_ (by simp <;> omega) _ | refine Below.drew ?_)⟩
      | true =>
        rw [hn] at HR
        have hn2 : t.name.toList = [] := by simpa using hn
        cases hd : (t.data.length == 0) with
        | false =>
          rw [hd] at HR
          have HE : Hid (R = false) := by show _ = _; rw [HR.out]; simp
          have hd2 : ((t.data.length : Int) == 0) = false := by rw [beq_eq_false_iff_ne] at hd ⊢; omega
          go_enter Tryz.func139, Tryz.ntmps139
          go_wp2
          go_ret
          exact ⟨by rw [HE.out]; rfl, by repeat (first | exact Below.refl _ _ | refine Below.alloc ?_ (by simp <;> omega) _ | refine Below.drew ?_)⟩
        | true =>
          rw [hd] at HR
          have hd2 : ((t.data.length : Int) == 0) = true := by rw [beq_iff_eq] at hd ⊢; omega
          have HE : Hid (R = true) := HR.out
          go_enter Tryz.func139, Tryz.ntmps139
          go_wp2
          go_ret
          exact ⟨by rw [HE.out]; rfl, by repeat (first | exact Below.refl _ _ | refine Below.alloc ?_ (by simp <;> omega) _ | refine Below.drew ?_)⟩
set_option maxHeartbeats 1000000 in
theorem isCoreForm_5 (t : Cor) (ao : Option Addr) (cap : Nat) (w : World) (hk : t.kind = 5) :
    Calls Tryz.prog 139 #[t.val (.slice ao t.data.length cap)] w fun e w' => e = .returned (.bool (bareC t)) ∧ Below w.heap.size w w' := by
  have HR : Hid (bareC t = ((t.b == 0) && (t.name.toList == []) && (t.data.length == 0))) := by show _ = _; unfold bareC; rw [hk]; simp [namedK]
  obtain ⟨R, hR⟩ : ∃ R, R = bareC t := ⟨_, rfl⟩
  rw [← hR] at HR ⊢
  unfold Cor.val
  rw [hk]
  clear hR hk
  cases hb : (t.b == 0) with
  | false =>
    rw [hb] at HR
    have HE : Hid (R = false) := by show _ = _; rw [HR.out]; simp
    have hb2 : (t.b != 0) = true := by rw [bne, hb]; rfl
    go_enter Tryz.func139, Tryz.ntmps139
    go_wp2
    go_ret
    exact ⟨by rw [HE.out]; rfl, by repeat (first | exact Below.refl _ _ | refine Below.alloc ?_ (by simp <;> omega) _ | refine Below.drew ?_)⟩
  | true =>
    rw [hb] at HR
    have hb2 : (t.b != 0) = false := by rw [bne, hb]; rfl
    cases hn : (t.name.toList == []) with
    | false =>
      rw [hn] at HR
      have HE : Hid (R = false) := by show _ = _; rw [HR.out]; simp
      have hn2 : ¬ t.name.toList = [] := by simpa using hn
      go_enter Tryz.func139, Tryz.ntmps139
      go_wp2
      go_ret
      exact ⟨by rw [HE.out]; rfl, by repeat (first | exact Below.refl _ _ | refine Below.alloc ?_ (by simp <;> omega) _ | refine Below.drew ?_)⟩
    | true =>
      rw [hn] at HR
      have hn2 : t.name.toList = [] := by simpa using hn
      cases hd : (t.data.length == 0) with
      | false =>
        rw [hd] at HR
        have HE : Hid (R = false) := by show _ = _; rw [HR.out]; simp
        have hd2 : ((t.data.length : Int) == 0) = false := by rw [beq_eq_false_iff_ne] at hd ⊢; omega
        go_enter Tryz.func139, Tryz.ntmps139
        go_wp2
        go_ret
        exact ⟨by rw [HE.out]; rfl, by repeat (first | exact Below.refl _ _ | refine Below.alloc ?_ (by simp <;> omega) _ | refine Below.drew ?_)⟩
      | true =>
        rw [hd] at HR
        have hd2 : ((t.data.length : Int) == 0) = true := by rw [beq_iff_eq] at hd ⊢; omega
        have HE : Hid (R = true) := HR.out
        go_enter Tryz.func139, Tryz.ntmps139
        go_wp2
        go_ret
        exact ⟨by rw [HE.out]; rfl, by repeat (first | exact Below.refl _ _ | refine Below.alloc ?_ (by simp <;> omega) _ | refine Below.drew ?_)⟩
set_option maxHeartbeats 1000000 in
theorem isCoreForm_6 (t : Cor) (ao : Option Addr) (cap : Nat) (w : World) (hk : t.kind = 6) :
    Calls Tryz.prog 139 #[t.val (.slice ao t.data.length cap)] w fun e w' => e = .returned (.bool (bareC t)) ∧ Below w.heap.size w w' := by
  have HR : Hid (bareC t = ((t.a == 0) && (t.b == 0) && (t.name.toList == []) && (t.data.length == 0))) := by show _ = _; unfold bareC; rw [hk]; simp [namedK]
  obtain ⟨R, hR⟩ : ∃ R, R = bareC t := ⟨_, rfl⟩
  rw [← hR] at HR ⊢
  unfold Cor.val
  rw [hk]
  clear hR hk
  cases ha : (t.a == 0) with
  | false =>
    rw [ha] at HR
    have HE : Hid (R = false) := by show _ = _; rw [HR.out]; simp
    have ha2 : (t.a != 0) = true := by rw [bne, ha]; rfl
    go_enter Tryz.func139, Tryz.ntmps139
    go_wp2
    go_ret
    exact ⟨by rw [HE.out]; rfl, by repeat (first | exact Below.refl _ _ | refine Below.alloc ?_ (by simp <;> omega) _ | refine Below.drew ?_)⟩
  | true =>
    rw [ha] at HR
    have ha2 : (t.a != 0) = false := by rw [bne, ha]; rfl
    cases hb : (t.b == 0) with
    | false =>
      rw [hb] at HR
      have HE : Hid (R = false) := by show _ = _; rw [HR.out]; simp
      have hb2 : (t.b != 0) = true := by rw [bne, hb]; rfl
      go_enter Tryz.func139, Tryz.ntmps139
      go_wp2
      go_ret
      exact ⟨by rw [HE.out]; rfl, by repeat (first | exact Below.refl _ _ | refine Below.alloc ?_ (by simp <;> omega) _ | refine Below.drew ?_)⟩
    | true =>
      rw [hb] at HR
      have hb2 : (t.b != 0) = false := by rw [bne, hb]; rfl
      cases hn : (t.name.toList == []) with
      | false =>
        rw [hn] at HR
        have HE : Hid (R = false) := by show _ = _; rw [HR.out]; simp
        have hn2 : ¬ t.name.toList = [] := by simpa using hn
        go_enter Tryz.func139, Tryz.ntmps139
        go_wp2
        go_ret
        exact ⟨by rw [HE.out]; rfl, by repeat (first | exact Below.refl _ _ | refine Below.alloc ?_ (by simp <;> omega) _ | refine Below.drew ?_)⟩
      | true =>
        rw [hn] at HR
        have hn2 : t.name.toList = [] := by simpa using hn
        cases hd : (t.data.length == 0) with
        | false =>
          rw [hd] at HR
          have HE : Hid (R = false) := by show _ = _; rw [HR.out]; simp
          have hd2 : ((t.data.length : Int) == 0) = false := by rw [beq_eq_false_iff_ne] at hd ⊢; omega
          go_enter Tryz.func139, Tryz.ntmps139
          go_wp2
          go_ret
          exact ⟨by rw [HE.out]; rfl, by repeat (first | exact Below.refl _ _ | refine Below.alloc ?_ (by simp <;> omega) _ | refine Below.drew ?_)⟩
        | true =>
          rw [hd] at HR
          have hd2 : ((t.data.length : Int) == 0) = true := by rw [beq_iff_eq] at hd ⊢; omega
          have HE : Hid (R = true) := HR.out
          go_enter Tryz.func139, Tryz.ntmps139
          go_wp2
          go_ret
          exact ⟨by rw [HE.out]; rfl, by repeat (first | exact Below.refl _ _ | refine Below.alloc ?_ (by simp <;> omega) _ | refine Below.drew ?_)⟩
set_option maxHeartbeats 1000000 in
theorem isCoreForm_7 (t : Cor) (ao : Option Addr) (cap : Nat) (w : World) (hk : t.kind = 7) :
    Calls Tryz.prog 139 #[t.val (.slice ao t.data.length cap)] w fun e w' => e = .returned (.bool (bareC t)) ∧ Below w.heap.size w w' := by
  have HR : Hid (bareC t = ((t.a == 0) && (t.b == 0) && (t.data.length == 0))) := by show _ = _; unfold bareC; rw [hk]; simp [namedK]
  obtain ⟨R, hR⟩ : ∃ R, R = bareC t := ⟨_, rfl⟩
  rw [← hR] at HR ⊢
  unfold Cor.val
  rw [hk]
  clear hR hk
  cases ha : (t.a == 0) with
  | false =>
    rw [ha] at HR
    have HE : Hid (R = false) := by show _ = _; rw [HR.out]; simp
    have ha2 : (t.a != 0) = true := by rw [bne, ha]; rfl
    go_enter Tryz.func139, Tryz.ntmps139
    go_wp2
    go_ret
    exact ⟨by rw [HE.out]; rfl, by repeat (first | exact Below.refl _ _ | refine Below.alloc ?_ (by simp <;> omega) _ | refine Below.drew ?_)⟩
  | true =>
    rw [ha] at HR
    have ha2 : (t.a != 0) = false := by rw [bne, ha]; rfl
    cases hb : (t.b == 0) with
    | false =>
      rw [hb] at HR
      have HE : Hid (R = false) := by show _ = _; rw [HR.out]; simp
      have hb2 : (t.b != 0) = true := by rw [bne, hb]; rfl
      go_enter Tryz.func139, Tryz.ntmps139
      go_wp2
      go_ret
      exact ⟨by rw [HE.out]; rfl, by repeat (first | exact Below.refl _ _ | refine Below.alloc ?_ (by simp <;> omega) _ | refine Below.drew ?_)⟩
    | true =>
      rw [hb] at HR
      have hb2 : (t.b != 0) = false := by rw [bne, hb]; rfl
      cases hd : (t.data.length == 0) with
      | false =>
        rw [hd] at HR
        have HE : Hid (R = false) := by show _ = _; rw [HR.out]; simp
        have hd2 : ((t.data.length : Int) == 0) = false := by rw [beq_eq_false_iff_ne] at hd ⊢; omega
        go_enter Tryz.func139, Tryz.ntmps139
        go_wp2
        go_ret
        exact ⟨by rw [HE.out]; rfl, by repeat (first | exact Below.refl _ _ | refine Below.alloc ?_ (by simp <;> omega) _ | refine Below.drew ?_)⟩
      | true =>
        rw [hd] at HR
        have hd2 : ((t.data.length : Int) == 0) = true := by rw [beq_iff_eq] at hd ⊢; omega
        have HE : Hid (R = true) := HR.out
        go_enter Tryz.func139, Tryz.ntmps139
        go_wp2
        go_ret
        exact ⟨by rw [HE.out]; rfl, by repeat (first | exact Below.refl _ _ | refine Below.alloc ?_ (by simp <;> omega) _ | refine Below.drew ?_)⟩
set_option maxHeartbeats 1000000 in
theorem isCoreForm_8 (t : Cor) (ao : Option Addr) (cap : Nat) (w : World) (hk : t.kind = 8) :
    Calls Tryz.prog 139 #[t.val (.slice ao t.data.length cap)] w fun e w' => e = .returned (.bool (bareC t)) ∧ Below w.heap.size w w' := by
  have HR : Hid (bareC t = ((t.a == 0) && (t.b == 0) && (t.data.length == 0))) := by show _ = _; unfold bareC; rw [hk]; simp [namedK]
  obtain ⟨R, hR⟩ : ∃ R, R = bareC t := ⟨_, rfl⟩
  rw [← hR] at HR ⊢
  unfold Cor.val
  rw [hk]
  clear hR hk
  cases ha : (t.a == 0) with
  | false =>
    rw [ha] at HR
    have HE : Hid (R = false) := by show _ = _; rw [HR.out]; simp
    have ha2 : (t.a != 0) = true := by rw [bne, ha]; rfl
    go_enter Tryz.func139, Tryz.ntmps139
    go_wp2
    go_ret
    exact ⟨by rw [HE.out]; rfl, by repeat (first | exact Below.refl _ _ | refine Below.alloc ?_ (by simp <;> omega) _ | refine Below.drew ?_)⟩
  | true =>
    rw [ha] at HR
    have ha2 : (t.a != 0) = false := by rw [bne, ha]; rfl
    cases hb : (t.b == 0) with
    | false =>
      rw [hb] at HR
      have HE : Hid (R = false) := by show _ = _; rw [HR.out]; simp
      have hb2 : (t.b != 0) = true := by rw [bne, hb]; rfl
      go_enter Tryz.func139, Tryz.ntmps139
      go_wp2
      go_ret
      exact ⟨by rw [HE.out]; rfl, by repeat (first | exact Below.refl _ _ | refine Below.alloc ?_ (by simp <;> omega) _ | refine Below.drew ?_)⟩
    | true =>
      rw [hb] at HR
      have hb2 : (t.b != 0) = false := by rw [bne, hb]; rfl
      cases hd : (t.data.length == 0) with
      | false =>
        rw [hd] at HR
        have HE : Hid (R = false) := by show _ = _; rw [HR.out]; simp
        have hd2 : ((t.data.length : Int) == 0) = false := by rw [beq_eq_false_iff_ne] at hd ⊢; omega
        go_enter Tryz.func139, Tryz.ntmps139
        go_wp2
        go_ret
        exact ⟨by rw [HE.out]; rfl, by repeat (first | exact Below.refl _ _ | refine Below.alloc ?_ (by simp <;> omega) _ | refine Below.drew ?_)⟩
      | true =>
        rw [hd] at HR
        have hd2 : ((t.data.length : Int) == 0) = true := by rw [beq_iff_eq] at hd ⊢; omega
        have HE : Hid (R = true) := HR.out
        go_enter Tryz.func139, Tryz.ntmps139
        go_wp2
        go_ret
        exact ⟨by rw [HE.out]; rfl, by repeat (first | exact Below.refl _ _ | refine Below.alloc ?_ (by simp <;> omega) _ | refine Below.drew ?_)⟩
set_option maxHeartbeats 1000000 in
theorem isCoreForm_9 (t : Cor) (ao : Option Addr) (cap : Nat) (w : World) (hk : t.kind = 9) :
    Calls Tryz.prog 139 #[t.val (.slice ao t.data.length cap)] w fun e w' => e = .returned (.bool (bareC t)) ∧ Below w.heap.size w w' := by
  have HR : Hid (bareC t = ((t.a == 0) && (t.b == 0) && (t.name.toList == []) && (t.data.length == 0))) := by show _ = _; unfold bareC; rw [hk]; simp [namedK]
  obtain ⟨R, hR⟩ : ∃ R, R = bareC t := ⟨_, rfl⟩
  rw [← hR] at HR ⊢
  unfold Cor.val
  rw [hk]
  clear hR hk
  cases ha : (t.a == 0) with
  | false =>
    rw [ha] at HR
    have HE : Hid (R = false) := by show _ = _; rw [HR.out]; simp
    have ha2 : (t.a != 0) = true := by rw [bne, ha]; rfl
    go_enter Tryz.func139, Tryz.ntmps139
    go_wp2
    go_ret
    exact ⟨by rw [HE.out]; rfl, by repeat (first | exact Below.refl _ _ | refine Below.alloc ?_ (by simp <;> omega) _ | refine Below.drew ?_)⟩
  | true =>
    rw [ha] at HR
    have ha2 : (t.a != 0) = false := by rw [bne, ha]; rfl
    cases hb : (t.b == 0) with
    | false =>
      rw [hb] at HR
      have HE : Hid (R = false) := by show _ = _; rw [HR.out]; simp
      have hb2 : (t.b != 0) = true := by rw [bne, hb]; rfl
      go_enter Tryz.func139, Tryz.ntmps139
      go_wp2
      go_ret
      exact ⟨by rw [HE.out]; rfl, by repeat (first | exact Below.refl _ _ | refine Below.alloc ?_ (by simp <;> omega) _ | refine Below.drew ?_)⟩
    | true =>
      rw [hb] at HR
      have hb2 : (t.b != 0) = false := by rw [bne, hb]; rfl
      cases hn : (t.name.toList == []) with
      | false =>
        rw [hn] at HR
        have HE : Hid (R = false) := by show _ = _; rw [HR.out]; simp
        have hn2 : ¬ t.name.toList = [] := by simpa using hn
        go_enter Tryz.func139, Tryz.ntmps139
        go_wp2
        go_ret
        exact ⟨by rw [HE.out]; rfl, by repeat (first | exact Below.refl _ _ | refine Below.alloc ?_ (by simp <;> omega) _ | refine Below.drew ?_)⟩
      | true =>
        rw [hn] at HR
        have hn2 : t.name.toList = [] := by simpa using hn
        cases hd : (t.data.length == 0) with
        | false =>
          rw [hd] at HR
          have HE : Hid (R = false) := by show _ = _; rw [HR.out]; simp
          have hd2 : ((t.data.length : Int) == 0) = false := by rw [beq_eq_false_iff_ne] at hd ⊢; omega
          go_enter Tryz.func139, Tryz.ntmps139
          go_wp2
          go_ret
          exact ⟨by rw [HE.out]; rfl, by repeat (first | exact Below.refl _ _ | refine Below.alloc ?_ (by simp <;> omega) _ | refine Below.drew ?_)⟩
        | true =>
          rw [hd] at HR
          have hd2 : ((t.data.length : Int) == 0) = true := by rw [beq_iff_eq] at hd ⊢; omega
          have HE : Hid (R = true) := HR.out
          go_enter Tryz.func139, Tryz.ntmps139
          go_wp2
          go_ret
          exact ⟨by rw [HE.out]; rfl, by repeat (first | exact Below.refl _ _ | refine Below.alloc ?_ (by simp <;> omega) _ | refine Below.drew ?_)⟩
set_option maxHeartbeats 1000000 in
theorem isCoreForm_out (t : Cor) (ao : Option Addr) (cap : Nat) (w : World) (hk : t.kind < 1 ∨ 9 < t.kind) :
    Calls Tryz.prog 139 #[t.val (.slice ao t.data.length cap)] w fun e w' => e = .returned (.bool (bareC t)) ∧ Below w.heap.size w w' := by
  rw [bareC_out hk]
  have h1 : (t.kind == 1) = false := by rw [beq_eq_false_iff_ne]; omega
  have h2 : (t.kind == 2) = false := by rw [beq_eq_false_iff_ne]; omega
  have h3 : (t.kind == 3) = false := by rw [beq_eq_false_iff_ne]; omega
  have h4 : (t.kind == 4) = false := by rw [beq_eq_false_iff_ne]; omega
  have h5 : (t.kind == 5) = false := by rw [beq_eq_false_iff_ne]; omega
  have h6 : (t.kind == 6) = false := by rw [beq_eq_false_iff_ne]; omega
  have h7 : (t.kind == 7) = false := by rw [beq_eq_false_iff_ne]; omega
  have h8 : (t.kind == 8) = false := by rw [beq_eq_false_iff_ne]; omega
  have h9 : (t.kind == 9) = false := by rw [beq_eq_false_iff_ne]; omega
  obtain ⟨k, hkk⟩ : ∃ k, k = t.kind := ⟨_, rfl⟩
  unfold Cor.val
  rw [← hkk] at h1 h2 h3 h4 h5 h6 h7 h8 h9 ⊢
  clear hk hkk
  go_enter Tryz.func139, Tryz.ntmps139
  go_wp2
  go_ret
  exact ⟨rfl, by repeat (first | exact Below.refl _ _ | refine Below.alloc ?_ (by simp <;> omega) _ | refine Below.drew ?_)⟩
theorem isCoreForm_any (t : Cor) (ao : Option Addr) (cap : Nat) (w : World) :
    Calls Tryz.prog 139 #[t.val (.slice ao t.data.length cap)] w fun e w' => e = .returned (.bool (bareC t)) ∧ Below w.heap.size w w' := by
  rcases kinds9 t.kind with h | h | h | h | h | h | h | h | h | h
  · exact isCoreForm_1 t ao cap w h
  · exact isCoreForm_2 t ao cap w h
  · exact isCoreForm_3 t ao cap w h
  · exact isCoreForm_4 t ao cap w h
  · exact isCoreForm_5 t ao cap w h
  · exact isCoreForm_6 t ao cap w h
  · exact isCoreForm_7 t ao cap w h
  · exact isCoreForm_8 t ao cap w h
  · exact isCoreForm_9 t ao cap w h
  · exact isCoreForm_out t ao cap w h
end Go.Proofs.YtebnonpdaddniaaGreatDoor
/-
  How many kids a kind of core has: the program's kidBounds, the model's l4Many; nothing that was there is turned.
-/
namespace Go.Proofs.YtebnonpdaddniaaGreatDoor
open Go.RowKit Go.Extern.Stop Go.Stop Go.Extern Num Go.Lib

def leastK (k : Int) : Int := if k = 4 then 3 else if k = 5 ∨ k = 6 ∨ k = 7 ∨ k = 8 ∨ k = 9 then 1 else 0
def mostK (k : Int) : Int := if k = 4 then 3 else if k = 6 then 160 else if k = 9 then 4 else if k = 5 ∨ k = 7 ∨ k = 8 then 1 else 0
theorem kinds6 (k : Int) : k = 4 ∨ k = 5 ∨ k = 6 ∨ k = 7 ∨ k = 8 ∨ k = 9 ∨ (k ≠ 4 ∧ k ≠ 5 ∧ k ≠ 6 ∧ k ≠ 7 ∧ k ≠ 8 ∧ k ≠ 9) := by omega
set_option maxHeartbeats 1000000 in
theorem kidBounds_any (k : Int) (w : World) : Calls Tryz.prog 120 #[.int .i64 k] w fun e w' => e = .returned (.tuple #[.int .i64 (leastK k), .int .i64 (mostK k)]) ∧ w' = w := by
  rcases kinds6 k with rfl | rfl | rfl | rfl | rfl | rfl | h
  · go_enter Tryz.func120, Tryz.ntmps120
    go_wp2
    exact bodyPost_ret (v := .tuple #[.int .i64 3, .int .i64 3]) (by simp [results, Tryz.results120, go_sem]) rfl ⟨rfl, rfl⟩
  · go_enter Tryz.func120, Tryz.ntmps120
    go_wp2
    exact bodyPost_ret (v := .tuple #[.int .i64 1, .int .i64 1]) (by simp [results, Tryz.results120, go_sem]) rfl ⟨rfl, rfl⟩
  · go_enter Tryz.func120, Tryz.ntmps120
    go_wp2
    exact bodyPost_ret (v := .tuple #[.int .i64 1, .int .i64 160]) (by simp [results, Tryz.results120, go_sem]) rfl ⟨rfl, rfl⟩
  · go_enter Tryz.func120, Tryz.ntmps120
    go_wp2
    exact bodyPost_ret (v := .tuple #[.int .i64 1, .int .i64 1]) (by simp [results, Tryz.results120, go_sem]) rfl ⟨rfl, rfl⟩
  · go_enter Tryz.func120, Tryz.ntmps120
    go_wp2
    exact bodyPost_ret (v := .tuple #[.int .i64 1, .int .i64 1]) (by simp [results, Tryz.results120, go_sem]) rfl ⟨rfl, rfl⟩
  · go_enter Tryz.func120, Tryz.ntmps120
    go_wp2
    exact bodyPost_ret (v := .tuple #[.int .i64 1, .int .i64 4]) (by simp [results, Tryz.results120, go_sem]) rfl ⟨rfl, rfl⟩
  · have e1 : leastK k = 0 := by unfold leastK; rw [if_neg (by omega), if_neg (by omega)]
    have e2 : mostK k = 0 := by unfold mostK; rw [if_neg (by omega), if_neg (by omega), if_neg (by omega), if_neg (by omega)]
    rw [e1, e2]
    have h4 : (k == 4) = false := by rw [beq_eq_false_iff_ne]; omega
    have h5 : (k == 5) = false := by rw [beq_eq_false_iff_ne]; omega
    have h6 : (k == 6) = false := by rw [beq_eq_false_iff_ne]; omega
    have h7 : (k == 7) = false := by rw [beq_eq_false_iff_ne]; omega
    have h8 : (k == 8) = false := by rw [beq_eq_false_iff_ne]; omega
    have h9 : (k == 9) = false := by rw [beq_eq_false_iff_ne]; omega
    clear h e1 e2
    go_enter Tryz.func120, Tryz.ntmps120
    go_wp2
    exact bodyPost_ret (v := .tuple #[.int .i64 0, .int .i64 0]) (by simp [results, Tryz.results120, go_sem]) rfl ⟨rfl, rfl⟩
/-- Whether a core of a kind may have so many kids. -/
def manyK (k n : Int) : Bool := decide (leastK k ≤ n) && decide (n ≤ mostK k)
set_option maxHeartbeats 1000000 in
theorem l4Many_any (k : Int) (n : Nat) (hn : n ≤ 160) (w : World) : Calls Tryz.prog 92 #[.int .i64 k, .int .i64 (n : Int)] w fun e w' => e = .returned (.bool (manyK k n)) ∧ w' = w := by
  obtain ⟨R, hR⟩ : ∃ R, R = manyK k n := ⟨_, rfl⟩
  have HR : Hid (R = (decide (leastK k ≤ n) && decide ((n : Int) ≤ mostK k))) := hR
  rw [← hR]
  clear hR
  rcases kinds6 k with rfl | rfl | rfl | rfl | rfl | rfl | h
  · cases h1 : ((n : Int) == 3) with
    | true =>
      have h2 : (n : Int) = 3 := by simpa using h1
      have HE : Hid (R = true) := by show _ = _; rw [HR.out]; simp [leastK, mostK]; omega
      clear h2
      go_enter Tryz.func92, Tryz.ntmps92
      go_wp2
      go_ret
      exact ⟨by rw [HE.out]; rfl, rfl⟩
    | false =>
      have h2 : ¬ (n : Int) = 3 := by simpa using h1
      have HE : Hid (R = false) := by show _ = _; rw [HR.out]; simp [leastK, mostK]; omega
      clear h2
      go_enter Tryz.func92, Tryz.ntmps92
      go_wp2
      go_ret
      exact ⟨by rw [HE.out]; rfl, rfl⟩
  · cases h1 : ((n : Int) == 1) with
    | true =>
      have h2 : (n : Int) = 1 := by simpa using h1
      have HE : Hid (R = true) := by show _ = _; rw [HR.out]; simp [leastK, mostK]; omega
      clear h2
      go_enter Tryz.func92, Tryz.ntmps92
      go_wp2
      go_ret
      exact ⟨by rw [HE.out]; rfl, rfl⟩
    | false =>
      have h2 : ¬ (n : Int) = 1 := by simpa using h1
      have HE : Hid (R = false) := by show _ = _; rw [HR.out]; simp [leastK, mostK]; omega
      clear h2
      go_enter Tryz.func92, Tryz.ntmps92
      go_wp2
      go_ret
      exact ⟨by rw [HE.out]; rfl, rfl⟩
  · by_cases h1 : 1 ≤ n
    · have HE : Hid (R = true) := by show _ = _; rw [HR.out]; simp [leastK, mostK]; omega
      have g1 : decide ((1 : Int) ≤ (n : Int)) = true := by simp; omega
      have g2 : ((n : Int) ≥ 1) := by omega
      go_enter Tryz.func92, Tryz.ntmps92
      go_wp2
      go_ret
      exact ⟨by rw [HE.out]; rfl, rfl⟩
    · have HE : Hid (R = false) := by show _ = _; rw [HR.out]; simp [leastK, mostK]; omega
      have g2 : ¬ ((n : Int) ≥ 1) := by omega
      go_enter Tryz.func92, Tryz.ntmps92
      go_wp2
      go_ret
      exact ⟨by rw [HE.out]; rfl, rfl⟩
  · cases h1 : ((n : Int) == 1) with
    | true =>
      have h2 : (n : Int) = 1 := by simpa using h1
      have HE : Hid (R = true) := by show _ = _; rw [HR.out]; simp [leastK, mostK]; omega
      clear h2
      go_enter Tryz.func92, Tryz.ntmps92
      go_wp2
      go_ret
      exact ⟨by rw [HE.out]; rfl, rfl⟩
    | false =>
      have h2 : ¬ (n : Int) = 1 := by simpa using h1
      have HE : Hid (R = false) := by show _ = _; rw [HR.out]; simp [leastK, mostK]; omega
      clear h2
      go_enter Tryz.func92, Tryz.ntmps92
      go_wp2
      go_ret
      exact ⟨by rw [HE.out]; rfl, rfl⟩
  · cases h1 : ((n : Int) == 1) with
    | true =>
      have h2 : (n : Int) = 1 := by simpa using h1
      have HE : Hid (R = true) := by show _ = _; rw [HR.out]; simp [leastK, mostK]; omega
      clear h2
      go_enter Tryz.func92, Tryz.ntmps92
      go_wp2
      go_ret
      exact ⟨by rw [HE.out]; rfl, rfl⟩
    | false =>
      have h2 : ¬ (n : Int) = 1 := by simpa using h1
      have HE : Hid (R = false) := by show _ = _; rw [HR.out]; simp [leastK, mostK]; omega
      clear h2
      go_enter Tryz.func92, Tryz.ntmps92
      go_wp2
      go_ret
      exact ⟨by rw [HE.out]; rfl, rfl⟩
  · by_cases h1 : 1 ≤ n
    · have g2 : ((n : Int) ≥ 1) := by omega
      by_cases h4 : n ≤ 4
      · have g4 : ((n : Int) ≤ 4) := by omega
        have HE : Hid (R = true) := by show _ = _; rw [HR.out]; simp [leastK, mostK]; omega
        go_enter Tryz.func92, Tryz.ntmps92
        go_wp2
        go_ret
        exact ⟨by rw [HE.out]; rfl, rfl⟩
      · have g4 : ¬ ((n : Int) ≤ 4) := by omega
        have HE : Hid (R = false) := by show _ = _; rw [HR.out]; simp [leastK, mostK]; omega
        go_enter Tryz.func92, Tryz.ntmps92
        go_wp2
        go_ret
        exact ⟨by rw [HE.out]; rfl, rfl⟩
    · have g2 : ¬ ((n : Int) ≥ 1) := by omega
      have HE : Hid (R = false) := by show _ = _; rw [HR.out]; simp [leastK, mostK]; omega
      go_enter Tryz.func92, Tryz.ntmps92
      go_wp2
      go_ret
      exact ⟨by rw [HE.out]; rfl, rfl⟩
  · have e1 : leastK k = 0 := by unfold leastK; rw [if_neg (by omega), if_neg (by omega)]
    have e2 : mostK k = 0 := by unfold mostK; rw [if_neg (by omega), if_neg (by omega), if_neg (by omega), if_neg (by omega)]
    rw [e1, e2] at HR
    have h4 : (k == 4) = false := by rw [beq_eq_false_iff_ne]; omega
    have h5 : (k == 5) = false := by rw [beq_eq_false_iff_ne]; omega
    have h6 : (k == 6) = false := by rw [beq_eq_false_iff_ne]; omega
    have h7 : (k == 7) = false := by rw [beq_eq_false_iff_ne]; omega
    have h8 : (k == 8) = false := by rw [beq_eq_false_iff_ne]; omega
    have h9 : (k == 9) = false := by rw [beq_eq_false_iff_ne]; omega
    clear h e1 e2
    cases h1 : ((n : Int) == 0) with
    | true =>
      have h2 : (n : Int) = 0 := by simpa using h1
      have HE : Hid (R = true) := by show _ = _; rw [HR.out]; simp; omega
      clear h2
      go_enter Tryz.func92, Tryz.ntmps92
      go_wp2
      go_ret
      exact ⟨by rw [HE.out]; rfl, rfl⟩
    | false =>
      have h2 : ¬ (n : Int) = 0 := by simpa using h1
      have HE : Hid (R = false) := by show _ = _; rw [HR.out]; simp; omega
      clear h2
      go_enter Tryz.func92, Tryz.ntmps92
      go_wp2
      go_ret
      exact ⟨by rw [HE.out]; rfl, rfl⟩
end Go.Proofs.YtebnonpdaddniaaGreatDoor
