/-
  Parts of the proof laid into one text, one behind the other; each says at its head what is proved in it.
-/
import Derived.Test.YtebnonpdaddniaaGreatDoorDemKidsHt
import Derived.Test.YtebnonpdaddniaaGreatDoorFacts
import Derived.Test.YtebnonpdaddniaaGreatDoorHtH
/-
  The program's demandContent: what a core has, against those ahead of it; nothing that was there is turned.
-/
namespace Go.Proofs.YtebnonpdaddniaaGreatDoor
open Go.RowKit Go.Extern.Stop Go.Stop Go.Extern Num Go.Lib Go.Shelf

set_option maxHeartbeats 1000000 in
theorem demCont_1 (tb : Nat) (t : Cor) (ao : Option Addr) (cap base : Nat) (hk : t.kind = 1) (w : World) (h : w.ownsRow base 100 4 (.slice ao t.data.length cap) t.data.length (cellsD t.data)) (hz : ∀ (k : Nat) (h : k < t.data.length), t.data[k].name.size ≤ 1048576) (hL : LT w) :
    Calls Tryz.prog 141 #[.pointer (some ⟨tb, 0, none⟩), t.val (.slice ao t.data.length cap)] w fun e w' => AnsDm (dataFault t.data) w e w' := by
  obtain ⟨k, p, a, b, z, d⟩ := t
  simp only at hk h hz
  subst hk
  have HD : Hid (∀ o, Calls Tryz.prog 182 #[.slice ao d.length cap] (w.alloc o) fun e w' => e = .returned (.int .i64 (dataFault d)) ∧ Below (w.alloc o).heap.size (w.alloc o) w') := fun o => implDF_any ao cap base d (w.alloc o) (h.alloc _) hz (hL.alloc _)
  show Calls _ _ #[.pointer (some ⟨tb, 0, none⟩), .agg #[.int .i64 1, .int .i64 p, .int .i64 a, .int .i64 b, .string z, .slice ao d.length cap]] w _
  simp only
  clear h hz hL
  generalize dataFault d = c at HD
  by_cases hc : c = 0
  · subst hc
    go_enter Tryz.func141, Tryz.ntmps141
    go_wp2_with (first | (go_at_call 182; refine (HD.out _).mono ?_; rintro e w1 ⟨rfl, b1⟩) | (go_at_call 115; refine (demand_yes _ _).mono ?_; rintro e wd1 ⟨rfl, hwd⟩; replace hwd := hwd.symm; subst hwd))
    go_end0
    exact ⟨.inl ⟨rfl, rfl⟩, ((Below.refl _ w).alloc (Nat.le_refl _) _).trans (b1.mono (by simp))⟩
  · have hcb : (c == 0) = false := by simpa using hc
    go_enter Tryz.func141, Tryz.ntmps141
    go_wp2_with (first | (go_at_call 182; refine (HD.out _).mono ?_; rintro e w1 ⟨rfl, b1⟩) | (go_at_call 115; refine (demand_no _ _).mono ?_; rintro e wd1 ⟨rfl, hwd⟩; replace hwd := hwd.symm; subst hwd))
    exact ⟨rfl, .inr ⟨hc, rfl⟩, ((Below.refl _ w).alloc (Nat.le_refl _) _).trans (b1.mono (by simp))⟩
set_option maxHeartbeats 1000000 in
theorem demCont_5 (tb : Nat) (t : Cor) (dv : Value) (hdv : ∃ da dn dc, dv = .slice da dn dc) (hk : t.kind = 5) (w : World) :
    Calls Tryz.prog 141 #[.pointer (some ⟨tb, 0, none⟩), t.val dv] w fun e w' => AnsDm (if 0 ≤ t.a ∧ t.a ≤ 3 then 0 else 3) w e w' := by
  obtain ⟨da, dn, dc, rfl⟩ := hdv
  obtain ⟨k, p, a, b, z, d⟩ := t
  simp only at hk
  subst hk
  show Calls _ _ #[.pointer (some ⟨tb, 0, none⟩), .agg #[.int .i64 5, .int .i64 p, .int .i64 a, .int .i64 b, .string z, .slice da dn dc]] w fun e w' => AnsDm (if 0 ≤ a ∧ a ≤ 3 then 0 else 3) w e w'
  by_cases h1 : 0 ≤ a
  · by_cases h2 : a ≤ 3
    · rw [if_pos ⟨h1, h2⟩]
      go_enter Tryz.func141, Tryz.ntmps141
      go_wp2_with (go_at_call 115; refine (demand_yes _ _).mono ?_; rintro e wd1 ⟨rfl, hwd⟩; replace hwd := hwd.symm; subst hwd)
      go_end0
      exact ⟨.inl ⟨rfl, rfl⟩, ((Below.refl _ w).alloc (Nat.le_refl _) _)⟩
    · rw [if_neg (fun h => h2 h.2)]
      go_enter Tryz.func141, Tryz.ntmps141
      go_wp2_with (go_at_call 115; refine (demand_no _ _).mono ?_; rintro e wd1 ⟨rfl, hwd⟩; replace hwd := hwd.symm; subst hwd)
      exact ⟨rfl, .inr ⟨by decide, rfl⟩, ((Below.refl _ w).alloc (Nat.le_refl _) _)⟩
  · rw [if_neg (fun h => h1 h.1)]
    go_enter Tryz.func141, Tryz.ntmps141
    go_wp2_with (go_at_call 115; refine (demand_no _ _).mono ?_; rintro e wd1 ⟨rfl, hwd⟩; replace hwd := hwd.symm; subst hwd)
    exact ⟨rfl, .inr ⟨by decide, rfl⟩, ((Below.refl _ w).alloc (Nat.le_refl _) _)⟩
set_option maxHeartbeats 1000000 in
theorem demCont_0 (tb : Nat) (t : Cor) (dv : Value) (hdv : ∃ da dn dc, dv = .slice da dn dc) (h1 : t.kind ≠ 1) (h2 : t.kind ≠ 2) (h5 : t.kind ≠ 5) (h3 : t.kind ≠ 3) (h7 : t.kind ≠ 7) (h8 : t.kind ≠ 8) (w : World) :
    Calls Tryz.prog 141 #[.pointer (some ⟨tb, 0, none⟩), t.val dv] w fun e w' => AnsDm 0 w e w' := by
  obtain ⟨da, dn, dc, rfl⟩ := hdv
  obtain ⟨k, p, a, b, z, d⟩ := t
  simp only at h1 h2 h3 h5 h7 h8
  have b1 : (k == 1) = false := by simpa using h1
  have b2 : (k == 2) = false := by simpa using h2
  have b3 : (k == 3) = false := by simpa using h3
  have b5 : (k == 5) = false := by simpa using h5
  have b7 : (k == 7) = false := by simpa using h7
  have b8 : (k == 8) = false := by simpa using h8
  show Calls _ _ #[.pointer (some ⟨tb, 0, none⟩), .agg #[.int .i64 k, .int .i64 p, .int .i64 a, .int .i64 b, .string z, .slice da dn dc]] w _
  clear h1 h2 h3 h5 h7 h8
  go_enter Tryz.func141, Tryz.ntmps141
  go_wp2
  go_end0
  exact ⟨.inl ⟨rfl, rfl⟩, ((Below.refl _ w).alloc (Nat.le_refl _) _)⟩
set_option maxHeartbeats 1000000 in
theorem demCont_3 (tb : Nat) (N : List (Cor × Value)) (t : Cor) (dv : Value) (hdv : ∃ da dn dc, dv = .slice da dn dc) (hk : t.kind = 3) (hz : t.name.size ≤ 1048576) (w : World) (hT : IsTreeC w.heap.size w tb N) :
    Calls Tryz.prog 141 #[.pointer (some ⟨tb, 0, none⟩), t.val dv] w fun e w' => AnsDm (if namC t.name = true then (if t.kind ≠ 8 ∨ N.length = 0 then 0 else 1) else 5) w e w' := by
  obtain ⟨da, dn, dc, rfl⟩ := hdv
  obtain ⟨k, p, a, b, z, d⟩ := t
  simp only at hk hz
  subst hk
  show Calls _ _ #[.pointer (some ⟨tb, 0, none⟩), .agg #[.int .i64 3, .int .i64 p, .int .i64 a, .int .i64 b, .string z, .slice da dn dc]] w fun e w' => AnsDm (if namC z = true then (if (3 : Int) ≠ 8 ∨ N.length = 0 then 0 else 1) else 5) w e w'
  have HS : Hid (∀ u, Calls Tryz.prog 184 #[.string z] u fun e w' => e = .returned (.bool (symL z.data.toList)) ∧ w' = u) := fun u => isSym_any z u (by omega)
  have HQ : Hid (∀ u, Calls Tryz.prog 185 #[.string z] u fun e w' => e = .returned (.bool (kwB z)) ∧ w' = u) := fun u => implKw_any z u
  have HT : Hid (∀ o, Calls Tryz.prog 116 #[.pointer (some ⟨tb, 0, none⟩)] (w.alloc o) fun e w' => e = .returned (.int .i64 (N.length : Nat)) ∧ w' = w.alloc o) := fun o => size_anyC w.heap.size tb N (w.alloc o) (hT.below ((Below.refl _ w).alloc (Nat.le_refl _) _))
  have HR : Hid (namC z = (symL z.data.toList && !kwB z)) := rfl
  clear hT hz
  generalize namC z = R at HR ⊢
  generalize symL z.data.toList = sy at HS HR
  generalize kwB z = q at HQ HR
  generalize N.length = m at HT ⊢
  cases sy with
  | false =>
    obtain rfl : R = false := HR.out
    rw [if_neg (by simp)]
    clear HR
    go_enter Tryz.func141, Tryz.ntmps141
    go_wp2_with (first | (go_at_call 184; refine (HS.out _).mono ?_; rintro e ws ⟨rfl, hws⟩; replace hws := hws.symm; subst hws) | (go_at_call 115; refine (demand_no _ _).mono ?_; rintro e wd1 ⟨rfl, hwd⟩; replace hwd := hwd.symm; subst hwd))
    exact ⟨rfl, .inr ⟨by decide, rfl⟩, ((Below.refl _ w).alloc (Nat.le_refl _) _)⟩
  | true =>
    cases q with
    | true =>
      obtain rfl : R = false := HR.out
      rw [if_neg (by simp)]
      clear HR
      go_enter Tryz.func141, Tryz.ntmps141
      go_wp2_with (first | (go_at_call 184; refine (HS.out _).mono ?_; rintro e ws ⟨rfl, hws⟩; replace hws := hws.symm; subst hws) | (go_at_call 185; refine (HQ.out _).mono ?_; rintro e wk ⟨rfl, hwk⟩; replace hwk := hwk.symm; subst hwk) | (go_at_call 115; refine (demand_no _ _).mono ?_; rintro e wd1 ⟨rfl, hwd⟩; replace hwd := hwd.symm; subst hwd))
      exact ⟨rfl, .inr ⟨by decide, rfl⟩, ((Below.refl _ w).alloc (Nat.le_refl _) _)⟩
    | false =>
      obtain rfl : R = true := HR.out
      rw [if_pos rfl]
      clear HR
      rw [if_pos (.inl (by decide))]
      go_enter Tryz.func141, Tryz.ntmps141
      go_wp2_with (first | (go_at_call 184; refine (HS.out _).mono ?_; rintro e ws ⟨rfl, hws⟩; replace hws := hws.symm; subst hws) | (go_at_call 185; refine (HQ.out _).mono ?_; rintro e wk ⟨rfl, hwk⟩; replace hwk := hwk.symm; subst hwk) | (go_at_call 116; refine (HT.out _).mono ?_; rintro e wz ⟨rfl, hwz⟩; replace hwz := hwz.symm; subst hwz) | (go_at_call 115; refine (demand_yes _ _).mono ?_; rintro e wd1 ⟨rfl, hwd⟩; replace hwd := hwd.symm; subst hwd))
      go_end0
      exact ⟨.inl ⟨rfl, rfl⟩, ((Below.refl _ w).alloc (Nat.le_refl _) _)⟩
set_option maxHeartbeats 1000000 in
theorem demCont_7 (tb : Nat) (N : List (Cor × Value)) (t : Cor) (dv : Value) (hdv : ∃ da dn dc, dv = .slice da dn dc) (hk : t.kind = 7) (hz : t.name.size ≤ 1048576) (w : World) (hT : IsTreeC w.heap.size w tb N) :
    Calls Tryz.prog 141 #[.pointer (some ⟨tb, 0, none⟩), t.val dv] w fun e w' => AnsDm (if namC t.name = true then (if t.kind ≠ 8 ∨ N.length = 0 then 0 else 1) else 5) w e w' := by
  obtain ⟨da, dn, dc, rfl⟩ := hdv
  obtain ⟨k, p, a, b, z, d⟩ := t
  simp only at hk hz
  subst hk
  show Calls _ _ #[.pointer (some ⟨tb, 0, none⟩), .agg #[.int .i64 7, .int .i64 p, .int .i64 a, .int .i64 b, .string z, .slice da dn dc]] w fun e w' => AnsDm (if namC z = true then (if (7 : Int) ≠ 8 ∨ N.length = 0 then 0 else 1) else 5) w e w'
  have HS : Hid (∀ u, Calls Tryz.prog 184 #[.string z] u fun e w' => e = .returned (.bool (symL z.data.toList)) ∧ w' = u) := fun u => isSym_any z u (by omega)
  have HQ : Hid (∀ u, Calls Tryz.prog 185 #[.string z] u fun e w' => e = .returned (.bool (kwB z)) ∧ w' = u) := fun u => implKw_any z u
  have HT : Hid (∀ o, Calls Tryz.prog 116 #[.pointer (some ⟨tb, 0, none⟩)] (w.alloc o) fun e w' => e = .returned (.int .i64 (N.length : Nat)) ∧ w' = w.alloc o) := fun o => size_anyC w.heap.size tb N (w.alloc o) (hT.below ((Below.refl _ w).alloc (Nat.le_refl _) _))
  have HR : Hid (namC z = (symL z.data.toList && !kwB z)) := rfl
  clear hT hz
  generalize namC z = R at HR ⊢
  generalize symL z.data.toList = sy at HS HR
  generalize kwB z = q at HQ HR
  generalize N.length = m at HT ⊢
  cases sy with
  | false =>
    obtain rfl : R = false := HR.out
    rw [if_neg (by simp)]
    clear HR
    go_enter Tryz.func141, Tryz.ntmps141
    go_wp2_with (first | (go_at_call 184; refine (HS.out _).mono ?_; rintro e ws ⟨rfl, hws⟩; replace hws := hws.symm; subst hws) | (go_at_call 115; refine (demand_no _ _).mono ?_; rintro e wd1 ⟨rfl, hwd⟩; replace hwd := hwd.symm; subst hwd))
    exact ⟨rfl, .inr ⟨by decide, rfl⟩, ((Below.refl _ w).alloc (Nat.le_refl _) _)⟩
  | true =>
    cases q with
    | true =>
      obtain rfl : R = false := HR.out
      rw [if_neg (by simp)]
      clear HR
      go_enter Tryz.func141, Tryz.ntmps141
      go_wp2_with (first | (go_at_call 184; refine (HS.out _).mono ?_; rintro e ws ⟨rfl, hws⟩; replace hws := hws.symm; subst hws) | (go_at_call 185; refine (HQ.out _).mono ?_; rintro e wk ⟨rfl, hwk⟩; replace hwk := hwk.symm; subst hwk) | (go_at_call 115; refine (demand_no _ _).mono ?_; rintro e wd1 ⟨rfl, hwd⟩; replace hwd := hwd.symm; subst hwd))
      exact ⟨rfl, .inr ⟨by decide, rfl⟩, ((Below.refl _ w).alloc (Nat.le_refl _) _)⟩
    | false =>
      obtain rfl : R = true := HR.out
      rw [if_pos rfl]
      clear HR
      rw [if_pos (.inl (by decide))]
      go_enter Tryz.func141, Tryz.ntmps141
      go_wp2_with (first | (go_at_call 184; refine (HS.out _).mono ?_; rintro e ws ⟨rfl, hws⟩; replace hws := hws.symm; subst hws) | (go_at_call 185; refine (HQ.out _).mono ?_; rintro e wk ⟨rfl, hwk⟩; replace hwk := hwk.symm; subst hwk) | (go_at_call 116; refine (HT.out _).mono ?_; rintro e wz ⟨rfl, hwz⟩; replace hwz := hwz.symm; subst hwz) | (go_at_call 115; refine (demand_yes _ _).mono ?_; rintro e wd1 ⟨rfl, hwd⟩; replace hwd := hwd.symm; subst hwd))
      go_end0
      exact ⟨.inl ⟨rfl, rfl⟩, ((Below.refl _ w).alloc (Nat.le_refl _) _)⟩
set_option maxHeartbeats 1000000 in
theorem demCont_8 (tb : Nat) (N : List (Cor × Value)) (t : Cor) (dv : Value) (hdv : ∃ da dn dc, dv = .slice da dn dc) (hk : t.kind = 8) (hz : t.name.size ≤ 1048576) (w : World) (hT : IsTreeC w.heap.size w tb N) :
    Calls Tryz.prog 141 #[.pointer (some ⟨tb, 0, none⟩), t.val dv] w fun e w' => AnsDm (if namC t.name = true then (if t.kind ≠ 8 ∨ N.length = 0 then 0 else 1) else 5) w e w' := by
  obtain ⟨da, dn, dc, rfl⟩ := hdv
  obtain ⟨k, p, a, b, z, d⟩ := t
  simp only at hk hz
  subst hk
  show Calls _ _ #[.pointer (some ⟨tb, 0, none⟩), .agg #[.int .i64 8, .int .i64 p, .int .i64 a, .int .i64 b, .string z, .slice da dn dc]] w fun e w' => AnsDm (if namC z = true then (if (8 : Int) ≠ 8 ∨ N.length = 0 then 0 else 1) else 5) w e w'
  have HS : Hid (∀ u, Calls Tryz.prog 184 #[.string z] u fun e w' => e = .returned (.bool (symL z.data.toList)) ∧ w' = u) := fun u => isSym_any z u (by omega)
  have HQ : Hid (∀ u, Calls Tryz.prog 185 #[.string z] u fun e w' => e = .returned (.bool (kwB z)) ∧ w' = u) := fun u => implKw_any z u
  have HT : Hid (∀ o, Calls Tryz.prog 116 #[.pointer (some ⟨tb, 0, none⟩)] (w.alloc o) fun e w' => e = .returned (.int .i64 (N.length : Nat)) ∧ w' = w.alloc o) := fun o => size_anyC w.heap.size tb N (w.alloc o) (hT.below ((Below.refl _ w).alloc (Nat.le_refl _) _))
  have HR : Hid (namC z = (symL z.data.toList && !kwB z)) := rfl
  clear hT hz
  generalize namC z = R at HR ⊢
  generalize symL z.data.toList = sy at HS HR
  generalize kwB z = q at HQ HR
  generalize N.length = m at HT ⊢
  cases sy with
  | false =>
    obtain rfl : R = false := HR.out
    rw [if_neg (by simp)]
    clear HR
    go_enter Tryz.func141, Tryz.ntmps141
    go_wp2_with (first | (go_at_call 184; refine (HS.out _).mono ?_; rintro e ws ⟨rfl, hws⟩; replace hws := hws.symm; subst hws) | (go_at_call 115; refine (demand_no _ _).mono ?_; rintro e wd1 ⟨rfl, hwd⟩; replace hwd := hwd.symm; subst hwd))
    exact ⟨rfl, .inr ⟨by decide, rfl⟩, ((Below.refl _ w).alloc (Nat.le_refl _) _)⟩
  | true =>
    cases q with
    | true =>
      obtain rfl : R = false := HR.out
      rw [if_neg (by simp)]
      clear HR
      go_enter Tryz.func141, Tryz.ntmps141
      go_wp2_with (first | (go_at_call 184; refine (HS.out _).mono ?_; rintro e ws ⟨rfl, hws⟩; replace hws := hws.symm; subst hws) | (go_at_call 185; refine (HQ.out _).mono ?_; rintro e wk ⟨rfl, hwk⟩; replace hwk := hwk.symm; subst hwk) | (go_at_call 115; refine (demand_no _ _).mono ?_; rintro e wd1 ⟨rfl, hwd⟩; replace hwd := hwd.symm; subst hwd))
      exact ⟨rfl, .inr ⟨by decide, rfl⟩, ((Below.refl _ w).alloc (Nat.le_refl _) _)⟩
    | false =>
      obtain rfl : R = true := HR.out
      rw [if_pos rfl]
      clear HR
      by_cases hm : m = 0
      · subst hm
        rw [if_pos (.inr rfl)]
        go_enter Tryz.func141, Tryz.ntmps141
        go_wp2_with (first | (go_at_call 184; refine (HS.out _).mono ?_; rintro e ws ⟨rfl, hws⟩; replace hws := hws.symm; subst hws) | (go_at_call 185; refine (HQ.out _).mono ?_; rintro e wk ⟨rfl, hwk⟩; replace hwk := hwk.symm; subst hwk) | (go_at_call 116; refine (HT.out _).mono ?_; rintro e wz ⟨rfl, hwz⟩; replace hwz := hwz.symm; subst hwz) | (go_at_call 115; refine (demand_yes _ _).mono ?_; rintro e wd1 ⟨rfl, hwd⟩; replace hwd := hwd.symm; subst hwd))
        go_end0
        exact ⟨.inl ⟨rfl, rfl⟩, ((Below.refl _ w).alloc (Nat.le_refl _) _)⟩
      · rw [if_neg (fun h => h.elim (fun h => h rfl) hm)]
        have hm1 : ((m : Int) == 0) = false := beq_false_of_ne (by omega)
        go_enter Tryz.func141, Tryz.ntmps141
        go_upto_region 13 with (first | (go_at_call 184; refine (HS.out _).mono ?_; rintro e ws ⟨rfl, hws⟩; replace hws := hws.symm; subst hws) | (go_at_call 185; refine (HQ.out _).mono ?_; rintro e wk ⟨rfl, hwk⟩; replace hwk := hwk.symm; subst hwk) | (go_at_call 115; refine (demand_yes _ _).mono ?_; rintro e wd1 ⟨rfl, hwd⟩; replace hwd := hwd.symm; subst hwd))
        go_wp2_with (first | (go_at_call 116; refine (HT.out _).mono ?_; rintro e wz ⟨rfl, hwz⟩; replace hwz := hwz.symm; subst hwz) | (go_at_call 115; refine (demand_no _ _).mono ?_; rintro e wd2 ⟨rfl, hwd⟩; replace hwd := hwd.symm; subst hwd))
        exact ⟨rfl, .inr ⟨by decide, rfl⟩, ((Below.refl _ w).alloc (Nat.le_refl _) _)⟩
set_option maxRecDepth 100000 in
set_option maxHeartbeats 2000000 in
theorem demCont_2 (tb : Nat) (N : List (Cor × Value)) (l : List Cor) (hN : N.map Prod.fst = l) (hp : ParsC N) (hl : N.length ≤ 1000) (hds : ∀ x ∈ N, ∃ da dn dc, x.2 = .slice da dn dc) (t : Cor) (dv : Value) (hdv : ∃ da dn dc, dv = .slice da dn dc) (hk : t.kind = 2) (hp1 : -1 ≤ t.parent) (hp2 : t.parent < N.length) (w : World) (hT : IsTreeC w.heap.size w tb N) :
    Calls Tryz.prog 141 #[.pointer (some ⟨tb, 0, none⟩), t.val dv] w fun e w' => AnsDm (if 0 ≤ t.b ∧ t.b < poF l t.a (upLC N t.parent) 0 then 0 else 3) w e w' := by
  obtain ⟨da, dn, dc, rfl⟩ := hdv
  obtain ⟨k, p, a, b, z, d⟩ := t
  simp only at hk hp1 hp2
  subst hk
  show Calls _ _ #[.pointer (some ⟨tb, 0, none⟩), .agg #[.int .i64 2, .int .i64 p, .int .i64 a, .int .i64 b, .string z, .slice da dn dc]] w fun e w' => AnsDm (if 0 ≤ b ∧ b < poF l a (upLC N p) 0 then 0 else 3) w e w'
  have HP : Hid (∀ u, Below (w.heap.size + 1) (w.alloc (.cells #[.int .i64 2, .int .i64 p, .int .i64 a, .int .i64 b, .string z, .slice da dn dc] 85)) u → Calls Tryz.prog 183 #[.pointer (some ⟨tb, 0, none⟩), .int .i64 p, .int .i64 a] u fun e W' => e = .returned (.int .i64 (poF l a (upLC N p) 0)) ∧ Below u.heap.size u W') := fun u hu =>
    paramsOut_any tb N l hN hp hl hds p hp1 hp2 a u (((hT.below ((Below.refl _ w).alloc (Nat.le_refl _) _)).below (hu.mono (by omega))).mono (by have := hu.size; simp at this; omega))
  have HW : Hid (∀ u, Below (w.heap.size + 1) (w.alloc (.cells #[.int .i64 2, .int .i64 p, .int .i64 a, .int .i64 b, .string z, .slice da dn dc] 85)) u → u.cell? ⟨w.heap.size, 1, none⟩ = some (.int .i64 p) ∧ u.cell? ⟨w.heap.size, 2, none⟩ = some (.int .i64 a) ∧ u.cell? ⟨w.heap.size, 3, none⟩ = some (.int .i64 b)) := fun u hu =>
    ⟨(hu.cell (p := ⟨w.heap.size, 1, none⟩) (by show w.heap.size < w.heap.size + 1; omega)).trans (by rw [World.cell?_alloc_at _ _ _ _ rfl]; rfl), (hu.cell (p := ⟨w.heap.size, 2, none⟩) (by show w.heap.size < w.heap.size + 1; omega)).trans (by rw [World.cell?_alloc_at _ _ _ _ rfl]; rfl), (hu.cell (p := ⟨w.heap.size, 3, none⟩) (by show w.heap.size < w.heap.size + 1; omega)).trans (by rw [World.cell?_alloc_at _ _ _ _ rfl]; rfl)⟩
  clear hN hp hl hds hp1 hp2 hT
  generalize poF l a (upLC N p) 0 = po at HP ⊢
  by_cases h1 : 0 ≤ b
  · by_cases h2 : b < po
    · rw [if_pos ⟨h1, h2⟩]
      go_enter Tryz.func141, Tryz.ntmps141
      go_upto_region 6 with fail
      refine wp_region_facts (by kernel_rfl) 14 (fun v => Below (w.heap.size + 1) (w.alloc (.cells #[.int .i64 2, .int .i64 p, .int .i64 a, .int .i64 b, .string z, .slice da dn dc] 85)) v) (fun u v => Below u.heap.size u v) (fun i vv u => match i with | 0 => (fun v _ => v = .pointer (some ⟨w.heap.size, 3, none⟩)) vv u | 1 => (fun v _ => v = .int .i64 b) vv u | 2 => (fun v _ => v = .bool true) vv u | 3 => (fun v _ => v = .bool true) vv u | 4 => (fun v _ => v = .pointer (some ⟨w.heap.size, 3, none⟩)) vv u | 5 => (fun v _ => v = .int .i64 b) vv u | 6 => (fun v _ => v = .pointer (some ⟨tb, 0, none⟩)) vv u | 7 => (fun v _ => v = .pointer (some ⟨w.heap.size, 1, none⟩)) vv u | 8 => (fun v _ => v = .int .i64 p) vv u | 9 => (fun v _ => v = .pointer (some ⟨w.heap.size, 2, none⟩)) vv u | 10 => (fun v _ => v = .int .i64 a) vv u | 11 => (fun v _ => v = .int .i64 po) vv u | 12 => (fun v _ => v = .bool true) vv u | 13 => (fun v _ => v = .bool true) vv u | _ => True) (by kernel_rfl) [0, 1, 2, 3, 4, 5, 6, 7, 8, 9, 10, 11, 12, 13] (by kernel_rfl) ?b0 ?bk ?fk ⟨?s0, ?s1, ?s2, ?s3, ?s4, ?s5, ?s6, ?s7, ?s8, ?s9, ?s10, ?s11, ?s12, ?s13, trivial⟩ _ rfl [(0, some 18), (1, some 19), (2, some 20), (3, some 21), (4, some 22), (5, some 23), (6, some 24), (7, some 25), (8, some 26), (9, some 27), (10, some 28), (11, some 29), (12, some 30), (13, some 31)] (by kernel_rfl) ?last
      case b0 => exact (Below.refl _ _).drew
      case bk => exact fun u v h hb => h.trans (hb.mono (by have := h.size; simpa using this))
      case fk => intro i vv u u' h hb; match i, h with | 0, h => exact (h) | 1, h => exact (h) | 2, h => exact (h) | 3, h => exact (h) | 4, h => exact (h) | 5, h => exact (h) | 6, h => exact (h) | 7, h => exact (h) | 8, h => exact (h) | 9, h => exact (h) | 10, h => exact (h) | 11, h => exact (h) | 12, h => exact (h) | 13, h => exact (h) | _ + 14, _ => exact trivial
      case s0 =>
        refine StepF.of rfl [] (by kernel_rfl) ?_
        intro vs u hB hf K hK
        clear hf
        simp only [putsA, List.foldl_nil, Act.put, List.setIfInBounds_toArray] at hK ⊢
        rw [if_pos (by rfl)]
        go_simp
        exact hK.out _ _ (Below.refl _ _) rfl
      case s1 =>
        refine StepF.of rfl [(0, some 18)] (by kernel_rfl) ?_
        intro vs u hB hf K hK
        have f0 : (fun v _ => v = .pointer (some ⟨w.heap.size, 3, none⟩)) (vs 0) u := hf.1
        clear hf
        simp only [putsA, List.foldl_cons, List.foldl_nil, Act.put, List.setIfInBounds_toArray, List.set_cons_zero, List.set_cons_succ] at hK ⊢
        generalize vs 0 = v0 at f0 hK ⊢
        subst f0
        rw [if_pos (by rfl)]
        obtain ⟨q1, q2, q3⟩ := HW.out u hB
        go_simp
        exact hK.out _ _ (Below.refl _ _) rfl
      case s2 =>
        refine StepF.of rfl [(1, some 19)] (by kernel_rfl) ?_
        intro vs u hB hf K hK
        have f1 : (fun v _ => v = .int .i64 b) (vs 1) u := hf.1
        clear hf
        simp only [putsA, List.foldl_cons, List.foldl_nil, Act.put, List.setIfInBounds_toArray, List.set_cons_zero, List.set_cons_succ] at hK ⊢
        generalize vs 1 = v1 at f1 hK ⊢
        subst f1
        rw [if_pos (by rfl)]
        go_simp
        exact hK.out _ _ (Below.refl _ _) rfl
      case s3 =>
        refine StepF.of rfl [(2, some 20)] (by kernel_rfl) ?_
        intro vs u hB hf K hK
        have f2 : (fun v _ => v = .bool true) (vs 2) u := hf.1
        clear hf
        simp only [putsA, List.foldl_cons, List.foldl_nil, Act.put, List.setIfInBounds_toArray, List.set_cons_zero, List.set_cons_succ] at hK ⊢
        generalize vs 2 = v2 at f2 hK ⊢
        subst f2
        rw [if_pos (by rfl)]
        go_simp
        exact hK.out _ _ (Below.refl _ _) rfl
      case s4 =>
        refine StepF.of rfl [(3, some 21)] (by kernel_rfl) ?_
        intro vs u hB hf K hK
        have f3 : (fun v _ => v = .bool true) (vs 3) u := hf.1
        clear hf
        simp only [putsA, List.foldl_cons, List.foldl_nil, Act.put, List.setIfInBounds_toArray, List.set_cons_zero, List.set_cons_succ] at hK ⊢
        generalize vs 3 = v3 at f3 hK ⊢
        subst f3
        rw [if_pos (by rfl)]
        go_simp
        exact hK.out _ _ (Below.refl _ _) rfl
      case s5 =>
        refine StepF.of rfl [(3, some 21), (4, some 22)] (by kernel_rfl) ?_
        intro vs u hB hf K hK
        have f3 : (fun v _ => v = .bool true) (vs 3) u := hf.1
        have f4 : (fun v _ => v = .pointer (some ⟨w.heap.size, 3, none⟩)) (vs 4) u := hf.2.1
        clear hf
        simp only [putsA, List.foldl_cons, List.foldl_nil, Act.put, List.setIfInBounds_toArray, List.set_cons_zero, List.set_cons_succ] at hK ⊢
        generalize vs 3 = v3 at f3 hK ⊢
        generalize vs 4 = v4 at f4 hK ⊢
        subst f3
        subst f4
        rw [if_pos (by rfl)]
        obtain ⟨q1, q2, q3⟩ := HW.out u hB
        go_simp
        exact hK.out _ _ (Below.refl _ _) rfl
      case s6 =>
        refine StepF.of rfl [(3, some 21)] (by kernel_rfl) ?_
        intro vs u hB hf K hK
        have f3 : (fun v _ => v = .bool true) (vs 3) u := hf.1
        clear hf
        simp only [putsA, List.foldl_cons, List.foldl_nil, Act.put, List.setIfInBounds_toArray, List.set_cons_zero, List.set_cons_succ] at hK ⊢
        generalize vs 3 = v3 at f3 hK ⊢
        subst f3
        rw [if_pos (by rfl)]
        go_simp
        exact hK.out _ _ (Below.refl _ _) rfl
      case s7 =>
        refine StepF.of rfl [(3, some 21)] (by kernel_rfl) ?_
        intro vs u hB hf K hK
        have f3 : (fun v _ => v = .bool true) (vs 3) u := hf.1
        clear hf
        simp only [putsA, List.foldl_cons, List.foldl_nil, Act.put, List.setIfInBounds_toArray, List.set_cons_zero, List.set_cons_succ] at hK ⊢
        generalize vs 3 = v3 at f3 hK ⊢
        subst f3
        rw [if_pos (by rfl)]
        go_simp
        exact hK.out _ _ (Below.refl _ _) rfl
      case s8 =>
        refine StepF.of rfl [(3, some 21), (7, some 25)] (by kernel_rfl) ?_
        intro vs u hB hf K hK
        have f3 : (fun v _ => v = .bool true) (vs 3) u := hf.1
        have f7 : (fun v _ => v = .pointer (some ⟨w.heap.size, 1, none⟩)) (vs 7) u := hf.2.1
        clear hf
        simp only [putsA, List.foldl_cons, List.foldl_nil, Act.put, List.setIfInBounds_toArray, List.set_cons_zero, List.set_cons_succ] at hK ⊢
        generalize vs 3 = v3 at f3 hK ⊢
        generalize vs 7 = v7 at f7 hK ⊢
        subst f3
        subst f7
        rw [if_pos (by rfl)]
        obtain ⟨q1, q2, q3⟩ := HW.out u hB
        go_simp
        exact hK.out _ _ (Below.refl _ _) rfl
      case s9 =>
        refine StepF.of rfl [(3, some 21)] (by kernel_rfl) ?_
        intro vs u hB hf K hK
        have f3 : (fun v _ => v = .bool true) (vs 3) u := hf.1
        clear hf
        simp only [putsA, List.foldl_cons, List.foldl_nil, Act.put, List.setIfInBounds_toArray, List.set_cons_zero, List.set_cons_succ] at hK ⊢
        generalize vs 3 = v3 at f3 hK ⊢
        subst f3
        rw [if_pos (by rfl)]
        go_simp
        exact hK.out _ _ (Below.refl _ _) rfl
      case s10 =>
        refine StepF.of rfl [(3, some 21), (9, some 27)] (by kernel_rfl) ?_
        intro vs u hB hf K hK
        have f3 : (fun v _ => v = .bool true) (vs 3) u := hf.1
        have f9 : (fun v _ => v = .pointer (some ⟨w.heap.size, 2, none⟩)) (vs 9) u := hf.2.1
        clear hf
        simp only [putsA, List.foldl_cons, List.foldl_nil, Act.put, List.setIfInBounds_toArray, List.set_cons_zero, List.set_cons_succ] at hK ⊢
        generalize vs 3 = v3 at f3 hK ⊢
        generalize vs 9 = v9 at f9 hK ⊢
        subst f3
        subst f9
        rw [if_pos (by rfl)]
        obtain ⟨q1, q2, q3⟩ := HW.out u hB
        go_simp
        exact hK.out _ _ (Below.refl _ _) rfl
      case s11 =>
        refine StepF.of rfl [(3, some 21), (6, some 24), (8, some 26), (10, some 28)] (by kernel_rfl) ?_
        intro vs u hB hf K hK
        have f3 : (fun v _ => v = .bool true) (vs 3) u := hf.1
        have f6 : (fun v _ => v = .pointer (some ⟨tb, 0, none⟩)) (vs 6) u := hf.2.1
        have f8 : (fun v _ => v = .int .i64 p) (vs 8) u := hf.2.2.1
        have f10 : (fun v _ => v = .int .i64 a) (vs 10) u := hf.2.2.2.1
        clear hf
        simp only [putsA, List.foldl_cons, List.foldl_nil, Act.put, List.setIfInBounds_toArray, List.set_cons_zero, List.set_cons_succ] at hK ⊢
        generalize vs 3 = v3 at f3 hK ⊢
        generalize vs 6 = v6 at f6 hK ⊢
        generalize vs 8 = v8 at f8 hK ⊢
        generalize vs 10 = v10 at f10 hK ⊢
        subst f3
        subst f6
        subst f8
        subst f10
        rw [if_pos (by rfl)]
        go_simp
        refine (HP.out _ hB).mono ?_
        rintro e u1 ⟨rfl, b1⟩
        exact hK.out _ _ b1 rfl
      case s12 =>
        refine StepF.of rfl [(3, some 21), (5, some 23), (11, some 29)] (by kernel_rfl) ?_
        intro vs u hB hf K hK
        have f3 : (fun v _ => v = .bool true) (vs 3) u := hf.1
        have f5 : (fun v _ => v = .int .i64 b) (vs 5) u := hf.2.1
        have f11 : (fun v _ => v = .int .i64 po) (vs 11) u := hf.2.2.1
        clear hf
        simp only [putsA, List.foldl_cons, List.foldl_nil, Act.put, List.setIfInBounds_toArray, List.set_cons_zero, List.set_cons_succ] at hK ⊢
        generalize vs 3 = v3 at f3 hK ⊢
        generalize vs 5 = v5 at f5 hK ⊢
        generalize vs 11 = v11 at f11 hK ⊢
        subst f3
        subst f5
        subst f11
        rw [if_pos (by rfl)]
        go_simp
        exact hK.out _ _ (Below.refl _ _) rfl
      case s13 =>
        refine StepF.of rfl [(3, some 21), (12, some 30)] (by kernel_rfl) ?_
        intro vs u hB hf K hK
        have f3 : (fun v _ => v = .bool true) (vs 3) u := hf.1
        have f12 : (fun v _ => v = .bool true) (vs 12) u := hf.2.1
        clear hf
        simp only [putsA, List.foldl_cons, List.foldl_nil, Act.put, List.setIfInBounds_toArray, List.set_cons_zero, List.set_cons_succ] at hK ⊢
        generalize vs 3 = v3 at f3 hK ⊢
        generalize vs 12 = v12 at f12 hK ⊢
        subst f3
        subst f12
        rw [if_pos (by rfl)]
        go_simp
        exact hK.out _ _ (Below.refl _ _) rfl
      case last =>
        intro vs u hB hf K hK
        have f0 : (fun v _ => v = .pointer (some ⟨w.heap.size, 3, none⟩)) (vs 0) u := hf.1
        have f1 : (fun v _ => v = .int .i64 b) (vs 1) u := hf.2.1
        have f2 : (fun v _ => v = .bool true) (vs 2) u := hf.2.2.1
        have f3 : (fun v _ => v = .bool true) (vs 3) u := hf.2.2.2.1
        have f4 : (fun v _ => v = .pointer (some ⟨w.heap.size, 3, none⟩)) (vs 4) u := hf.2.2.2.2.1
        have f5 : (fun v _ => v = .int .i64 b) (vs 5) u := hf.2.2.2.2.2.1
        have f6 : (fun v _ => v = .pointer (some ⟨tb, 0, none⟩)) (vs 6) u := hf.2.2.2.2.2.2.1
        have f7 : (fun v _ => v = .pointer (some ⟨w.heap.size, 1, none⟩)) (vs 7) u := hf.2.2.2.2.2.2.2.1
        have f8 : (fun v _ => v = .int .i64 p) (vs 8) u := hf.2.2.2.2.2.2.2.2.1
        have f9 : (fun v _ => v = .pointer (some ⟨w.heap.size, 2, none⟩)) (vs 9) u := hf.2.2.2.2.2.2.2.2.2.1
        have f10 : (fun v _ => v = .int .i64 a) (vs 10) u := hf.2.2.2.2.2.2.2.2.2.2.1
        have f11 : (fun v _ => v = .int .i64 po) (vs 11) u := hf.2.2.2.2.2.2.2.2.2.2.2.1
        have f12 : (fun v _ => v = .bool true) (vs 12) u := hf.2.2.2.2.2.2.2.2.2.2.2.2.1
        have f13 : (fun v _ => v = .bool true) (vs 13) u := hf.2.2.2.2.2.2.2.2.2.2.2.2.2.1
        clear hf
        simp only [putsA, List.foldl_cons, List.foldl_nil, Act.put, List.setIfInBounds_toArray, List.set_cons_zero, List.set_cons_succ]
        generalize vs 0 = v0 at f0 ⊢
        generalize vs 1 = v1 at f1 ⊢
        generalize vs 2 = v2 at f2 ⊢
        generalize vs 3 = v3 at f3 ⊢
        generalize vs 4 = v4 at f4 ⊢
        generalize vs 5 = v5 at f5 ⊢
        generalize vs 6 = v6 at f6 ⊢
        generalize vs 7 = v7 at f7 ⊢
        generalize vs 8 = v8 at f8 ⊢
        generalize vs 9 = v9 at f9 ⊢
        generalize vs 10 = v10 at f10 ⊢
        generalize vs 11 = v11 at f11 ⊢
        generalize vs 12 = v12 at f12 ⊢
        generalize vs 13 = v13 at f13 ⊢
        rw [if_pos (by rfl)]
        subst f13
        go_simp
        refine (demand_yes _ _).mono ?_
        rintro e u1 ⟨rfl, hu1⟩
        replace hu1 := hu1.symm
        subst hu1
        refine hK.out _ _ ?_
        go_wp2
        go_end0
        exact ⟨.inl ⟨rfl, rfl⟩, ((Below.refl _ w).alloc (Nat.le_refl _) _).trans (hB.mono (by omega))⟩
    · rw [if_neg (fun h => h2 h.2)]
      go_enter Tryz.func141, Tryz.ntmps141
      go_upto_region 6 with fail
      refine wp_region_facts (by kernel_rfl) 14 (fun v => Below (w.heap.size + 1) (w.alloc (.cells #[.int .i64 2, .int .i64 p, .int .i64 a, .int .i64 b, .string z, .slice da dn dc] 85)) v) (fun u v => Below u.heap.size u v) (fun i vv u => match i with | 0 => (fun v _ => v = .pointer (some ⟨w.heap.size, 3, none⟩)) vv u | 1 => (fun v _ => v = .int .i64 b) vv u | 2 => (fun v _ => v = .bool true) vv u | 3 => (fun v _ => v = .bool true) vv u | 4 => (fun v _ => v = .pointer (some ⟨w.heap.size, 3, none⟩)) vv u | 5 => (fun v _ => v = .int .i64 b) vv u | 6 => (fun v _ => v = .pointer (some ⟨tb, 0, none⟩)) vv u | 7 => (fun v _ => v = .pointer (some ⟨w.heap.size, 1, none⟩)) vv u | 8 => (fun v _ => v = .int .i64 p) vv u | 9 => (fun v _ => v = .pointer (some ⟨w.heap.size, 2, none⟩)) vv u | 10 => (fun v _ => v = .int .i64 a) vv u | 11 => (fun v _ => v = .int .i64 po) vv u | 12 => (fun v _ => v = .bool false) vv u | 13 => (fun v _ => v = .bool false) vv u | _ => True) (by kernel_rfl) [0, 1, 2, 3, 4, 5, 6, 7, 8, 9, 10, 11, 12, 13] (by kernel_rfl) ?b0 ?bk ?fk ⟨?s0, ?s1, ?s2, ?s3, ?s4, ?s5, ?s6, ?s7, ?s8, ?s9, ?s10, ?s11, ?s12, ?s13, trivial⟩ _ rfl [(0, some 18), (1, some 19), (2, some 20), (3, some 21), (4, some 22), (5, some 23), (6, some 24), (7, some 25), (8, some 26), (9, some 27), (10, some 28), (11, some 29), (12, some 30), (13, some 31)] (by kernel_rfl) ?last
      case b0 => exact (Below.refl _ _).drew
      case bk => exact fun u v h hb => h.trans (hb.mono (by have := h.size; simpa using this))
      case fk => intro i vv u u' h hb; match i, h with | 0, h => exact (h) | 1, h => exact (h) | 2, h => exact (h) | 3, h => exact (h) | 4, h => exact (h) | 5, h => exact (h) | 6, h => exact (h) | 7, h => exact (h) | 8, h => exact (h) | 9, h => exact (h) | 10, h => exact (h) | 11, h => exact (h) | 12, h => exact (h) | 13, h => exact (h) | _ + 14, _ => exact trivial
      case s0 =>
        refine StepF.of rfl [] (by kernel_rfl) ?_
        intro vs u hB hf K hK
        clear hf
        simp only [putsA, List.foldl_nil, Act.put, List.setIfInBounds_toArray] at hK ⊢
        rw [if_pos (by rfl)]
        go_simp
        exact hK.out _ _ (Below.refl _ _) rfl
      case s1 =>
        refine StepF.of rfl [(0, some 18)] (by kernel_rfl) ?_
        intro vs u hB hf K hK
        have f0 : (fun v _ => v = .pointer (some ⟨w.heap.size, 3, none⟩)) (vs 0) u := hf.1
        clear hf
        simp only [putsA, List.foldl_cons, List.foldl_nil, Act.put, List.setIfInBounds_toArray, List.set_cons_zero, List.set_cons_succ] at hK ⊢
        generalize vs 0 = v0 at f0 hK ⊢
        subst f0
        rw [if_pos (by rfl)]
        obtain ⟨q1, q2, q3⟩ := HW.out u hB
        go_simp
        exact hK.out _ _ (Below.refl _ _) rfl
      case s2 =>
        refine StepF.of rfl [(1, some 19)] (by kernel_rfl) ?_
        intro vs u hB hf K hK
        have f1 : (fun v _ => v = .int .i64 b) (vs 1) u := hf.1
        clear hf
        simp only [putsA, List.foldl_cons, List.foldl_nil, Act.put, List.setIfInBounds_toArray, List.set_cons_zero, List.set_cons_succ] at hK ⊢
        generalize vs 1 = v1 at f1 hK ⊢
        subst f1
        rw [if_pos (by rfl)]
        go_simp
        exact hK.out _ _ (Below.refl _ _) rfl
      case s3 =>
        refine StepF.of rfl [(2, some 20)] (by kernel_rfl) ?_
        intro vs u hB hf K hK
        have f2 : (fun v _ => v = .bool true) (vs 2) u := hf.1
        clear hf
        simp only [putsA, List.foldl_cons, List.foldl_nil, Act.put, List.setIfInBounds_toArray, List.set_cons_zero, List.set_cons_succ] at hK ⊢
        generalize vs 2 = v2 at f2 hK ⊢
        subst f2
        rw [if_pos (by rfl)]
        go_simp
        exact hK.out _ _ (Below.refl _ _) rfl
      case s4 =>
        refine StepF.of rfl [(3, some 21)] (by kernel_rfl) ?_
        intro vs u hB hf K hK
        have f3 : (fun v _ => v = .bool true) (vs 3) u := hf.1
        clear hf
        simp only [putsA, List.foldl_cons, List.foldl_nil, Act.put, List.setIfInBounds_toArray, List.set_cons_zero, List.set_cons_succ] at hK ⊢
        generalize vs 3 = v3 at f3 hK ⊢
        subst f3
        rw [if_pos (by rfl)]
        go_simp
        exact hK.out _ _ (Below.refl _ _) rfl
      case s5 =>
        refine StepF.of rfl [(3, some 21), (4, some 22)] (by kernel_rfl) ?_
        intro vs u hB hf K hK
        have f3 : (fun v _ => v = .bool true) (vs 3) u := hf.1
        have f4 : (fun v _ => v = .pointer (some ⟨w.heap.size, 3, none⟩)) (vs 4) u := hf.2.1
        clear hf
        simp only [putsA, List.foldl_cons, List.foldl_nil, Act.put, List.setIfInBounds_toArray, List.set_cons_zero, List.set_cons_succ] at hK ⊢
        generalize vs 3 = v3 at f3 hK ⊢
        generalize vs 4 = v4 at f4 hK ⊢
        subst f3
        subst f4
        rw [if_pos (by rfl)]
        obtain ⟨q1, q2, q3⟩ := HW.out u hB
        go_simp
        exact hK.out _ _ (Below.refl _ _) rfl
      case s6 =>
        refine StepF.of rfl [(3, some 21)] (by kernel_rfl) ?_
        intro vs u hB hf K hK
        have f3 : (fun v _ => v = .bool true) (vs 3) u := hf.1
        clear hf
        simp only [putsA, List.foldl_cons, List.foldl_nil, Act.put, List.setIfInBounds_toArray, List.set_cons_zero, List.set_cons_succ] at hK ⊢
        generalize vs 3 = v3 at f3 hK ⊢
        subst f3
        rw [if_pos (by rfl)]
        go_simp
        exact hK.out _ _ (Below.refl _ _) rfl
      case s7 =>
        refine StepF.of rfl [(3, some 21)] (by kernel_rfl) ?_
        intro vs u hB hf K hK
        have f3 : (fun v _ => v = .bool true) (vs 3) u := hf.1
        clear hf
        simp only [putsA, List.foldl_cons, List.foldl_nil, Act.put, List.setIfInBounds_toArray, List.set_cons_zero, List.set_cons_succ] at hK ⊢
        generalize vs 3 = v3 at f3 hK ⊢
        subst f3
        rw [if_pos (by rfl)]
        go_simp
        exact hK.out _ _ (Below.refl _ _) rfl
      case s8 =>
        refine StepF.of rfl [(3, some 21), (7, some 25)] (by kernel_rfl) ?_
        intro vs u hB hf K hK
        have f3 : (fun v _ => v = .bool true) (vs 3) u := hf.1
        have f7 : (fun v _ => v = .pointer (some ⟨w.heap.size, 1, none⟩)) (vs 7) u := hf.2.1
        clear hf
        simp only [putsA, List.foldl_cons, List.foldl_nil, Act.put, List.setIfInBounds_toArray, List.set_cons_zero, List.set_cons_succ] at hK ⊢
        generalize vs 3 = v3 at f3 hK ⊢
        generalize vs 7 = v7 at f7 hK ⊢
        subst f3
        subst f7
        rw [if_pos (by rfl)]
        obtain ⟨q1, q2, q3⟩ := HW.out u hB
        go_simp
        exact hK.out _ _ (Below.refl _ _) rfl
      case s9 =>
        refine StepF.of rfl [(3, some 21)] (by kernel_rfl) ?_
        intro vs u hB hf K hK
        have f3 : (fun v _ => v = .bool true) (vs 3) u := hf.1
        clear hf
        simp only [putsA, List.foldl_cons, List.foldl_nil, Act.put, List.setIfInBounds_toArray, List.set_cons_zero, List.set_cons_succ] at hK ⊢
        generalize vs 3 = v3 at f3 hK ⊢
        subst f3
        rw [if_pos (by rfl)]
        go_simp
        exact hK.out _ _ (Below.refl _ _) rfl
      case s10 =>
        refine StepF.of rfl [(3, some 21), (9, some 27)] (by kernel_rfl) ?_
        intro vs u hB hf K hK
        have f3 : (fun v _ => v = .bool true) (vs 3) u := hf.1
        have f9 : (fun v _ => v = .pointer (some ⟨w.heap.size, 2, none⟩)) (vs 9) u := hf.2.1
        clear hf
        simp only [putsA, List.foldl_cons, List.foldl_nil, Act.put, List.setIfInBounds_toArray, List.set_cons_zero, List.set_cons_succ] at hK ⊢
        generalize vs 3 = v3 at f3 hK ⊢
        generalize vs 9 = v9 at f9 hK ⊢
        subst f3
        subst f9
        rw [if_pos (by rfl)]
        obtain ⟨q1, q2, q3⟩ := HW.out u hB
        go_simp
        exact hK.out _ _ (Below.refl _ _) rfl
      case s11 =>
        refine StepF.of rfl [(3, some 21), (6, some 24), (8, some 26), (10, some 28)] (by kernel_rfl) ?_
        intro vs u hB hf K hK
        have f3 : (fun v _ => v = .bool true) (vs 3) u := hf.1
        have f6 : (fun v _ => v = .pointer (some ⟨tb, 0, none⟩)) (vs 6) u := hf.2.1
        have f8 : (fun v _ => v = .int .i64 p) (vs 8) u := hf.2.2.1
        have f10 : (fun v _ => v = .int .i64 a) (vs 10) u := hf.2.2.2.1
        clear hf
        simp only [putsA, List.foldl_cons, List.foldl_nil, Act.put, List.setIfInBounds_toArray, List.set_cons_zero, List.set_cons_succ] at hK ⊢
        generalize vs 3 = v3 at f3 hK ⊢
        generalize vs 6 = v6 at f6 hK ⊢
        generalize vs 8 = v8 at f8 hK ⊢
        generalize vs 10 = v10 at f10 hK ⊢
        subst f3
        subst f6
        subst f8
        subst f10
        rw [if_pos (by rfl)]
        go_simp
        refine (HP.out _ hB).mono ?_
        rintro e u1 ⟨rfl, b1⟩
        exact hK.out _ _ b1 rfl
      case s12 =>
        refine StepF.of rfl [(3, some 21), (5, some 23), (11, some 29)] (by kernel_rfl) ?_
        intro vs u hB hf K hK
        have f3 : (fun v _ => v = .bool true) (vs 3) u := hf.1
        have f5 : (fun v _ => v = .int .i64 b) (vs 5) u := hf.2.1
        have f11 : (fun v _ => v = .int .i64 po) (vs 11) u := hf.2.2.1
        clear hf
        simp only [putsA, List.foldl_cons, List.foldl_nil, Act.put, List.setIfInBounds_toArray, List.set_cons_zero, List.set_cons_succ] at hK ⊢
        generalize vs 3 = v3 at f3 hK ⊢
        generalize vs 5 = v5 at f5 hK ⊢
        generalize vs 11 = v11 at f11 hK ⊢
        subst f3
        subst f5
        subst f11
        rw [if_pos (by rfl)]
        go_simp
        exact hK.out _ _ (Below.refl _ _) rfl
      case s13 =>
        refine StepF.of rfl [(3, some 21), (12, some 30)] (by kernel_rfl) ?_
        intro vs u hB hf K hK
        have f3 : (fun v _ => v = .bool true) (vs 3) u := hf.1
        have f12 : (fun v _ => v = .bool false) (vs 12) u := hf.2.1
        clear hf
        simp only [putsA, List.foldl_cons, List.foldl_nil, Act.put, List.setIfInBounds_toArray, List.set_cons_zero, List.set_cons_succ] at hK ⊢
        generalize vs 3 = v3 at f3 hK ⊢
        generalize vs 12 = v12 at f12 hK ⊢
        subst f3
        subst f12
        rw [if_pos (by rfl)]
        go_simp
        exact hK.out _ _ (Below.refl _ _) rfl
      case last =>
        intro vs u hB hf K hK
        have f0 : (fun v _ => v = .pointer (some ⟨w.heap.size, 3, none⟩)) (vs 0) u := hf.1
        have f1 : (fun v _ => v = .int .i64 b) (vs 1) u := hf.2.1
        have f2 : (fun v _ => v = .bool true) (vs 2) u := hf.2.2.1
        have f3 : (fun v _ => v = .bool true) (vs 3) u := hf.2.2.2.1
        have f4 : (fun v _ => v = .pointer (some ⟨w.heap.size, 3, none⟩)) (vs 4) u := hf.2.2.2.2.1
        have f5 : (fun v _ => v = .int .i64 b) (vs 5) u := hf.2.2.2.2.2.1
        have f6 : (fun v _ => v = .pointer (some ⟨tb, 0, none⟩)) (vs 6) u := hf.2.2.2.2.2.2.1
        have f7 : (fun v _ => v = .pointer (some ⟨w.heap.size, 1, none⟩)) (vs 7) u := hf.2.2.2.2.2.2.2.1
        have f8 : (fun v _ => v = .int .i64 p) (vs 8) u := hf.2.2.2.2.2.2.2.2.1
        have f9 : (fun v _ => v = .pointer (some ⟨w.heap.size, 2, none⟩)) (vs 9) u := hf.2.2.2.2.2.2.2.2.2.1
        have f10 : (fun v _ => v = .int .i64 a) (vs 10) u := hf.2.2.2.2.2.2.2.2.2.2.1
        have f11 : (fun v _ => v = .int .i64 po) (vs 11) u := hf.2.2.2.2.2.2.2.2.2.2.2.1
        have f12 : (fun v _ => v = .bool false) (vs 12) u := hf.2.2.2.2.2.2.2.2.2.2.2.2.1
        have f13 : (fun v _ => v = .bool false) (vs 13) u := hf.2.2.2.2.2.2.2.2.2.2.2.2.2.1
        clear hf
        simp only [putsA, List.foldl_cons, List.foldl_nil, Act.put, List.setIfInBounds_toArray, List.set_cons_zero, List.set_cons_succ]
        generalize vs 0 = v0 at f0 ⊢
        generalize vs 1 = v1 at f1 ⊢
        generalize vs 2 = v2 at f2 ⊢
        generalize vs 3 = v3 at f3 ⊢
        generalize vs 4 = v4 at f4 ⊢
        generalize vs 5 = v5 at f5 ⊢
        generalize vs 6 = v6 at f6 ⊢
        generalize vs 7 = v7 at f7 ⊢
        generalize vs 8 = v8 at f8 ⊢
        generalize vs 9 = v9 at f9 ⊢
        generalize vs 10 = v10 at f10 ⊢
        generalize vs 11 = v11 at f11 ⊢
        generalize vs 12 = v12 at f12 ⊢
        generalize vs 13 = v13 at f13 ⊢
        rw [if_pos (by rfl)]
        subst f13
        go_simp
        refine (demand_no _ _).mono ?_
        rintro e u1 ⟨rfl, hu1⟩
        replace hu1 := hu1.symm
        subst hu1
        exact ⟨rfl, .inr ⟨by decide, rfl⟩, ((Below.refl _ w).alloc (Nat.le_refl _) _).trans (hB.mono (by omega))⟩
  · rw [if_neg (fun h => h1 h.1)]
    go_enter Tryz.func141, Tryz.ntmps141
    go_upto_region 6 with fail
    refine wp_region_facts (by kernel_rfl) 14 (fun v => Below (w.heap.size + 1) (w.alloc (.cells #[.int .i64 2, .int .i64 p, .int .i64 a, .int .i64 b, .string z, .slice da dn dc] 85)) v) (fun u v => Below u.heap.size u v) (fun i vv u => match i with | 0 => (fun v _ => v = .pointer (some ⟨w.heap.size, 3, none⟩)) vv u | 1 => (fun v _ => v = .int .i64 b) vv u | 2 => (fun v _ => v = .bool false) vv u | 3 => (fun v _ => v = .bool false) vv u | 4 => (fun v _ => v = undef) vv u | 5 => (fun v _ => v = undef) vv u | 6 => (fun v _ => v = undef) vv u | 7 => (fun v _ => v = undef) vv u | 8 => (fun v _ => v = undef) vv u | 9 => (fun v _ => v = undef) vv u | 10 => (fun v _ => v = undef) vv u | 11 => (fun v _ => v = undef) vv u | 12 => (fun v _ => v = undef) vv u | 13 => (fun v _ => v = .bool false) vv u | _ => True) (by kernel_rfl) [0, 1, 2, 3, 4, 5, 6, 7, 8, 9, 10, 11, 12, 13] (by kernel_rfl) ?b0 ?bk ?fk ⟨?s0, ?s1, ?s2, ?s3, ?s4, ?s5, ?s6, ?s7, ?s8, ?s9, ?s10, ?s11, ?s12, ?s13, trivial⟩ _ rfl [(0, some 18), (1, some 19), (2, some 20), (3, some 21), (4, some 22), (5, some 23), (6, some 24), (7, some 25), (8, some 26), (9, some 27), (10, some 28), (11, some 29), (12, some 30), (13, some 31)] (by kernel_rfl) ?last
    case b0 => exact (Below.refl _ _).drew
    case bk => exact fun u v h hb => h.trans (hb.mono (by have := h.size; simpa using this))
    case fk => intro i vv u u' h hb; match i, h with | 0, h => exact (h) | 1, h => exact (h) | 2, h => exact (h) | 3, h => exact (h) | 4, h => exact (h) | 5, h => exact (h) | 6, h => exact (h) | 7, h => exact (h) | 8, h => exact (h) | 9, h => exact (h) | 10, h => exact (h) | 11, h => exact (h) | 12, h => exact (h) | 13, h => exact (h) | _ + 14, _ => exact trivial
    case s0 =>
      refine StepF.of rfl [] (by kernel_rfl) ?_
      intro vs u hB hf K hK
      clear hf
      simp only [putsA, List.foldl_nil, Act.put, List.setIfInBounds_toArray] at hK ⊢
      rw [if_pos (by rfl)]
      go_simp
      exact hK.out _ _ (Below.refl _ _) rfl
    case s1 =>
      refine StepF.of rfl [(0, some 18)] (by kernel_rfl) ?_
      intro vs u hB hf K hK
      have f0 : (fun v _ => v = .pointer (some ⟨w.heap.size, 3, none⟩)) (vs 0) u := hf.1
      clear hf
      simp only [putsA, List.foldl_cons, List.foldl_nil, Act.put, List.setIfInBounds_toArray, List.set_cons_zero, List.set_cons_succ] at hK ⊢
      generalize vs 0 = v0 at f0 hK ⊢
      subst f0
      rw [if_pos (by rfl)]
      obtain ⟨q1, q2, q3⟩ := HW.out u hB
      go_simp
      exact hK.out _ _ (Below.refl _ _) rfl
    case s2 =>
      refine StepF.of rfl [(1, some 19)] (by kernel_rfl) ?_
      intro vs u hB hf K hK
      have f1 : (fun v _ => v = .int .i64 b) (vs 1) u := hf.1
      clear hf
      simp only [putsA, List.foldl_cons, List.foldl_nil, Act.put, List.setIfInBounds_toArray, List.set_cons_zero, List.set_cons_succ] at hK ⊢
      generalize vs 1 = v1 at f1 hK ⊢
      subst f1
      rw [if_pos (by rfl)]
      go_simp
      exact hK.out _ _ (Below.refl _ _) rfl
    case s3 =>
      refine StepF.of rfl [(2, some 20)] (by kernel_rfl) ?_
      intro vs u hB hf K hK
      have f2 : (fun v _ => v = .bool false) (vs 2) u := hf.1
      clear hf
      simp only [putsA, List.foldl_cons, List.foldl_nil, Act.put, List.setIfInBounds_toArray, List.set_cons_zero, List.set_cons_succ] at hK ⊢
      generalize vs 2 = v2 at f2 hK ⊢
      subst f2
      rw [if_pos (by rfl)]
      go_simp
      exact hK.out _ _ (Below.refl _ _) rfl
    case s4 =>
      refine StepF.of rfl [(3, some 21)] (by kernel_rfl) ?_
      intro vs u hB hf K hK
      have f3 : (fun v _ => v = .bool false) (vs 3) u := hf.1
      clear hf
      simp only [putsA, List.foldl_cons, List.foldl_nil, Act.put, List.setIfInBounds_toArray, List.set_cons_zero, List.set_cons_succ] at hK ⊢
      generalize vs 3 = v3 at f3 hK ⊢
      subst f3
      rw [if_neg (by exact Bool.false_ne_true)]
      exact hK.out undef _ (Below.refl _ _) rfl
    case s5 =>
      refine StepF.of rfl [(3, some 21), (4, some 22)] (by kernel_rfl) ?_
      intro vs u hB hf K hK
      have f3 : (fun v _ => v = .bool false) (vs 3) u := hf.1
      have f4 : (fun v _ => v = undef) (vs 4) u := hf.2.1
      clear hf
      simp only [putsA, List.foldl_cons, List.foldl_nil, Act.put, List.setIfInBounds_toArray, List.set_cons_zero, List.set_cons_succ] at hK ⊢
      generalize vs 3 = v3 at f3 hK ⊢
      generalize vs 4 = v4 at f4 hK ⊢
      subst f3
      subst f4
      rw [if_neg (by exact Bool.false_ne_true)]
      exact hK.out undef _ (Below.refl _ _) rfl
    case s6 =>
      refine StepF.of rfl [(3, some 21)] (by kernel_rfl) ?_
      intro vs u hB hf K hK
      have f3 : (fun v _ => v = .bool false) (vs 3) u := hf.1
      clear hf
      simp only [putsA, List.foldl_cons, List.foldl_nil, Act.put, List.setIfInBounds_toArray, List.set_cons_zero, List.set_cons_succ] at hK ⊢
      generalize vs 3 = v3 at f3 hK ⊢
      subst f3
      rw [if_neg (by exact Bool.false_ne_true)]
      exact hK.out undef _ (Below.refl _ _) rfl
    case s7 =>
      refine StepF.of rfl [(3, some 21)] (by kernel_rfl) ?_
      intro vs u hB hf K hK
      have f3 : (fun v _ => v = .bool false) (vs 3) u := hf.1
      clear hf
      simp only [putsA, List.foldl_cons, List.foldl_nil, Act.put, List.setIfInBounds_toArray, List.set_cons_zero, List.set_cons_succ] at hK ⊢
      generalize vs 3 = v3 at f3 hK ⊢
      subst f3
      rw [if_neg (by exact Bool.false_ne_true)]
      exact hK.out undef _ (Below.refl _ _) rfl
    case s8 =>
      refine StepF.of rfl [(3, some 21), (7, some 25)] (by kernel_rfl) ?_
      intro vs u hB hf K hK
      have f3 : (fun v _ => v = .bool false) (vs 3) u := hf.1
      have f7 : (fun v _ => v = undef) (vs 7) u := hf.2.1
      clear hf
      simp only [putsA, List.foldl_cons, List.foldl_nil, Act.put, List.setIfInBounds_toArray, List.set_cons_zero, List.set_cons_succ] at hK ⊢
      generalize vs 3 = v3 at f3 hK ⊢
      generalize vs 7 = v7 at f7 hK ⊢
      subst f3
      subst f7
      rw [if_neg (by exact Bool.false_ne_true)]
      exact hK.out undef _ (Below.refl _ _) rfl
    case s9 =>
      refine StepF.of rfl [(3, some 21)] (by kernel_rfl) ?_
      intro vs u hB hf K hK
      have f3 : (fun v _ => v = .bool false) (vs 3) u := hf.1
      clear hf
      simp only [putsA, List.foldl_cons, List.foldl_nil, Act.put, List.setIfInBounds_toArray, List.set_cons_zero, List.set_cons_succ] at hK ⊢
      generalize vs 3 = v3 at f3 hK ⊢
      subst f3
      rw [if_neg (by exact Bool.false_ne_true)]
      exact hK.out undef _ (Below.refl _ _) rfl
    case s10 =>
      refine StepF.of rfl [(3, some 21), (9, some 27)] (by kernel_rfl) ?_
      intro vs u hB hf K hK
      have f3 : (fun v _ => v = .bool false) (vs 3) u := hf.1
      have f9 : (fun v _ => v = undef) (vs 9) u := hf.2.1
      clear hf
      simp only [putsA, List.foldl_cons, List.foldl_nil, Act.put, List.setIfInBounds_toArray, List.set_cons_zero, List.set_cons_succ] at hK ⊢
      generalize vs 3 = v3 at f3 hK ⊢
      generalize vs 9 = v9 at f9 hK ⊢
      subst f3
      subst f9
      rw [if_neg (by exact Bool.false_ne_true)]
      exact hK.out undef _ (Below.refl _ _) rfl
    case s11 =>
      refine StepF.of rfl [(3, some 21), (6, some 24), (8, some 26), (10, some 28)] (by kernel_rfl) ?_
      intro vs u hB hf K hK
      have f3 : (fun v _ => v = .bool false) (vs 3) u := hf.1
      have f6 : (fun v _ => v = undef) (vs 6) u := hf.2.1
      have f8 : (fun v _ => v = undef) (vs 8) u := hf.2.2.1
      have f10 : (fun v _ => v = undef) (vs 10) u := hf.2.2.2.1
      clear hf
      simp only [putsA, List.foldl_cons, List.foldl_nil, Act.put, List.setIfInBounds_toArray, List.set_cons_zero, List.set_cons_succ] at hK ⊢
      generalize vs 3 = v3 at f3 hK ⊢
      generalize vs 6 = v6 at f6 hK ⊢
      generalize vs 8 = v8 at f8 hK ⊢
      generalize vs 10 = v10 at f10 hK ⊢
      subst f3
      subst f6
      subst f8
      subst f10
      rw [if_neg (by exact Bool.false_ne_true)]
      exact hK.out undef _ (Below.refl _ _) rfl
    case s12 =>
      refine StepF.of rfl [(3, some 21), (5, some 23), (11, some 29)] (by kernel_rfl) ?_
      intro vs u hB hf K hK
      have f3 : (fun v _ => v = .bool false) (vs 3) u := hf.1
      have f5 : (fun v _ => v = undef) (vs 5) u := hf.2.1
      have f11 : (fun v _ => v = undef) (vs 11) u := hf.2.2.1
      clear hf
      simp only [putsA, List.foldl_cons, List.foldl_nil, Act.put, List.setIfInBounds_toArray, List.set_cons_zero, List.set_cons_succ] at hK ⊢
      generalize vs 3 = v3 at f3 hK ⊢
      generalize vs 5 = v5 at f5 hK ⊢
      generalize vs 11 = v11 at f11 hK ⊢
      subst f3
      subst f5
      subst f11
      rw [if_neg (by exact Bool.false_ne_true)]
      exact hK.out undef _ (Below.refl _ _) rfl
    case s13 =>
      refine StepF.of rfl [(3, some 21), (12, some 30)] (by kernel_rfl) ?_
      intro vs u hB hf K hK
      have f3 : (fun v _ => v = .bool false) (vs 3) u := hf.1
      have f12 : (fun v _ => v = undef) (vs 12) u := hf.2.1
      clear hf
      simp only [putsA, List.foldl_cons, List.foldl_nil, Act.put, List.setIfInBounds_toArray, List.set_cons_zero, List.set_cons_succ] at hK ⊢
      generalize vs 3 = v3 at f3 hK ⊢
      generalize vs 12 = v12 at f12 hK ⊢
      subst f3
      subst f12
      rw [if_pos (by rfl)]
      go_simp
      exact hK.out _ _ (Below.refl _ _) rfl
    case last =>
      intro vs u hB hf K hK
      have f0 : (fun v _ => v = .pointer (some ⟨w.heap.size, 3, none⟩)) (vs 0) u := hf.1
      have f1 : (fun v _ => v = .int .i64 b) (vs 1) u := hf.2.1
      have f2 : (fun v _ => v = .bool false) (vs 2) u := hf.2.2.1
      have f3 : (fun v _ => v = .bool false) (vs 3) u := hf.2.2.2.1
      have f4 : (fun v _ => v = undef) (vs 4) u := hf.2.2.2.2.1
      have f5 : (fun v _ => v = undef) (vs 5) u := hf.2.2.2.2.2.1
      have f6 : (fun v _ => v = undef) (vs 6) u := hf.2.2.2.2.2.2.1
      have f7 : (fun v _ => v = undef) (vs 7) u := hf.2.2.2.2.2.2.2.1
      have f8 : (fun v _ => v = undef) (vs 8) u := hf.2.2.2.2.2.2.2.2.1
      have f9 : (fun v _ => v = undef) (vs 9) u := hf.2.2.2.2.2.2.2.2.2.1
      have f10 : (fun v _ => v = undef) (vs 10) u := hf.2.2.2.2.2.2.2.2.2.2.1
      have f11 : (fun v _ => v = undef) (vs 11) u := hf.2.2.2.2.2.2.2.2.2.2.2.1
      have f12 : (fun v _ => v = undef) (vs 12) u := hf.2.2.2.2.2.2.2.2.2.2.2.2.1
      have f13 : (fun v _ => v = .bool false) (vs 13) u := hf.2.2.2.2.2.2.2.2.2.2.2.2.2.1
      clear hf
      simp only [putsA, List.foldl_cons, List.foldl_nil, Act.put, List.setIfInBounds_toArray, List.set_cons_zero, List.set_cons_succ]
      generalize vs 0 = v0 at f0 ⊢
      generalize vs 1 = v1 at f1 ⊢
      generalize vs 2 = v2 at f2 ⊢
      generalize vs 3 = v3 at f3 ⊢
      generalize vs 4 = v4 at f4 ⊢
      generalize vs 5 = v5 at f5 ⊢
      generalize vs 6 = v6 at f6 ⊢
      generalize vs 7 = v7 at f7 ⊢
      generalize vs 8 = v8 at f8 ⊢
      generalize vs 9 = v9 at f9 ⊢
      generalize vs 10 = v10 at f10 ⊢
      generalize vs 11 = v11 at f11 ⊢
      generalize vs 12 = v12 at f12 ⊢
      generalize vs 13 = v13 at f13 ⊢
      rw [if_pos (by rfl)]
      subst f13
      go_simp
      refine (demand_no _ _).mono ?_
      rintro e u1 ⟨rfl, hu1⟩
      replace hu1 := hu1.symm
      subst hu1
      exact ⟨rfl, .inr ⟨by decide, rfl⟩, ((Below.refl _ w).alloc (Nat.le_refl _) _).trans (hB.mono (by omega))⟩

/-- The program's demandContent. -/
theorem demandContent_any (tb : Nat) (N : List (Cor × Value)) (l : List Cor) (hN : N.map Prod.fst = l) (hp : ParsC N) (hl : N.length ≤ 1000) (hds : ∀ x ∈ N, ∃ da dn dc, x.2 = .slice da dn dc) (t : Cor) (ao : Option Addr) (cap base : Nat) (hz : t.small) (hp1 : -1 ≤ t.parent) (hp2 : t.parent < N.length) (w : World) (h : w.ownsRow base 100 4 (.slice ao t.data.length cap) t.data.length (cellsD t.data)) (hL : LT w) (hT : IsTreeC w.heap.size w tb N) :
    Calls Tryz.prog 141 #[.pointer (some ⟨tb, 0, none⟩), t.val (.slice ao t.data.length cap)] w fun e w' => AnsDm (contC t N.length (poF l t.a (upLC N t.parent) 0)) w e w' := by
  unfold contC
  by_cases h1 : t.kind = 1
  · rw [if_pos h1]; exact demCont_1 tb t ao cap base h1 w h hz.names hL
  rw [if_neg h1]
  by_cases h2 : t.kind = 2
  · rw [if_pos h2]; exact demCont_2 tb N l hN hp hl hds t _ ⟨_, _, _, rfl⟩ h2 hp1 hp2 w hT
  rw [if_neg h2]
  by_cases h5 : t.kind = 5
  · rw [if_pos h5]; exact demCont_5 tb t _ ⟨_, _, _, rfl⟩ h5 w
  rw [if_neg h5]
  by_cases h3 : t.kind = 3
  · rw [if_pos (.inl h3)]; exact demCont_3 tb N t _ ⟨_, _, _, rfl⟩ h3 hz.name w hT
  by_cases h7 : t.kind = 7
  · rw [if_pos (.inr (.inl h7))]; exact demCont_7 tb N t _ ⟨_, _, _, rfl⟩ h7 hz.name w hT
  by_cases h8 : t.kind = 8
  · rw [if_pos (.inr (.inr h8))]; exact demCont_8 tb N t _ ⟨_, _, _, rfl⟩ h8 hz.name w hT
  rw [if_neg (by rintro (h | h | h) <;> contradiction)]
  exact demCont_0 tb t _ ⟨_, _, _, rfl⟩ h1 h2 h5 h3 h7 h8 w
end Go.Proofs.YtebnonpdaddniaaGreatDoor
