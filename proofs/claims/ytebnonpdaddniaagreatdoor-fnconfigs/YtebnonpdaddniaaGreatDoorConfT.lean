/-
  The texts of settings: the model's l13Text and ConfigText, the program's ConfigText; nothing that was there is turned.
-/
import Derived.Test.YtebnonpdaddniaaGreatDoorStConf
import Derived.Test.YtebnonpdaddniaaGreatDoorConfMath
import Derived.Test.YtebnonpdaddniaaGreatDoorTextsA
import Derived.Test.YtebnonpdaddniaaGreatDoorShelfStr
import Derived.Test.YtebnonpdaddniaaGreatDoorShelfJoin
import Derived.Laws.FloatArith
namespace Go.Proofs.YtebnonpdaddniaaGreatDoor
open Go.RowKit Go.Extern.Stop Go.Stop Go.Extern Num Go.Lib

theorem fl_all : ((List.range 65).all fun n => decide (floatToIntVal .f64 (floatOfInt .f64 (n : Int)) .i64 = some (n : Int))) = true := by
  kernel_rfl
theorem fl_back (n : Int) (h0 : 0 ≤ n) (h1 : n ≤ 64) : floatToIntVal .f64 (floatOfInt .f64 n) .i64 = some n := by
  have h := (List.all_eq_true.1 fl_all) n.toNat (List.mem_range.2 (by omega))
  have e : ((n.toNat : Nat) : Int) = n := by omega
  rw [e] at h
  exact of_decide_eq_true h
theorem okS_iff {s t : Int} : okS s t = true ↔ 1 ≤ s ∧ s ≤ 64 ∧ 0 ≤ t ∧ t ≤ 15 := by unfold okS sizeB; simp; omega
theorem itoa_dd {n : Int} (h : 0 ≤ n) : itoa n = decDigits n.toNat := by
  have := itoa_nonneg n.toNat
  rw [show ((n.toNat : Nat) : Int) = n by omega] at this
  exact this
theorem dd_len {u : Nat} (h : u < 100) : (decDigits u).length ≤ 2 := by
  by_cases h1 : u < 10
  · rw [decDigits_one h1]; simp
  · rw [decDigits_two h1 h]; simp
theorem cfg_at (s t : Nat) (p c : Bool) : cfgT s t p c = ([115, 101, 103, 32] ++ decDigits s ++ [32, 116, 97, 98, 108, 101, 32] ++ decDigits t ++ (if p then [32, 112, 101, 101, 112] else [32, 112, 108, 97, 105, 110])) ++ (if c then [32, 99, 97, 99, 104, 101] else [32, 108, 111, 111, 107]) := by
  unfold cfgT wSeg wTab wP wC
  cases p <;> cases c <;> simp
set_option maxRecDepth 100000 in
set_option maxHeartbeats 1500000 in
theorem l13Text_any (b : Nat) (s t : Int) (p c : Bool) (w : World) (hs : okS s t = true) (hc : w.cell? ⟨b, 0, none⟩ = some (.int .i64 s) ∧ w.cell? ⟨b, 1, none⟩ = some (.int .i64 t) ∧ w.cell? ⟨b, 2, none⟩ = some (.bool p) ∧ w.cell? ⟨b, 3, none⟩ = some (.bool c)) :
    Calls Tryz.prog 41 #[.pointer (some ⟨b, 0, none⟩)] w fun e w' => e = .returned (S (cfgT s.toNat t.toNat p c)) ∧ Below w.heap.size w w' := by
  obtain ⟨h1, h2, h3, h4⟩ := okS_iff.1 hs
  have hl1 := dd_len (u := s.toNat) (by omega)
  have hl2 := dd_len (u := t.toNat) (by omega)
  obtain ⟨d1, hd1⟩ : ∃ d : ByteArray, d = ⟨(decDigits s.toNat).toArray⟩ := ⟨_, rfl⟩
  obtain ⟨d2, hd2⟩ : ∃ d : ByteArray, d = ⟨(decDigits t.toNat).toArray⟩ := ⟨_, rfl⟩
  obtain ⟨x1, hx1⟩ : ∃ d : ByteArray, d = ⟨([115, 101, 103, 32] ++ decDigits s.toNat).toArray⟩ := ⟨_, rfl⟩
  obtain ⟨x2, hx2⟩ : ∃ d : ByteArray, d = ⟨([115, 101, 103, 32] ++ decDigits s.toNat ++ [32, 116, 97, 98, 108, 101, 32]).toArray⟩ := ⟨_, rfl⟩
  obtain ⟨x3, hx3⟩ : ∃ d : ByteArray, d = ⟨([115, 101, 103, 32] ++ decDigits s.toNat ++ [32, 116, 97, 98, 108, 101, 32] ++ decDigits t.toNat).toArray⟩ := ⟨_, rfl⟩
  obtain ⟨x4, hx4⟩ : ∃ f : Bool → ByteArray, f = fun p => ⟨([115, 101, 103, 32] ++ decDigits s.toNat ++ [32, 116, 97, 98, 108, 101, 32] ++ decDigits t.toNat ++ (if p then [32, 112, 101, 101, 112] else [32, 112, 108, 97, 105, 110])).toArray⟩ := ⟨_, rfl⟩
  obtain ⟨x5, hx5⟩ : ∃ f : Bool → Bool → ByteArray, f = fun p c => ⟨(([115, 101, 103, 32] ++ decDigits s.toNat ++ [32, 116, 97, 98, 108, 101, 32] ++ decDigits t.toNat ++ (if p then [32, 112, 101, 101, 112] else [32, 112, 108, 97, 105, 110])) ++ (if c then [32, 99, 97, 99, 104, 101] else [32, 108, 111, 111, 107])).toArray⟩ := ⟨_, rfl⟩
  have HC : Hid (∀ u, Below w.heap.size w u → u.cell? ⟨b, 0, none⟩ = some (.int .i64 s) ∧ u.cell? ⟨b, 1, none⟩ = some (.int .i64 t) ∧ u.cell? ⟨b, 2, none⟩ = some (.bool p) ∧ u.cell? ⟨b, 3, none⟩ = some (.bool c)) := fun u hu => ⟨cell_keep hu hc.1, cell_keep hu hc.2.1, cell_keep hu hc.2.2.1, cell_keep hu hc.2.2.2⟩
  have HS : Hid (∀ u, Calls Tryz.prog 79 #[.int .i64 s] u fun e w' => e = .returned (.string d1) ∧ Below u.heap.size u w') := fun u => by rw [hd1, ← itoa_dd (by omega)]; exact l1Digits_any s u (by unfold inB; simp; omega)
  have HT : Hid (∀ u, Calls Tryz.prog 79 #[.int .i64 t] u fun e w' => e = .returned (.string d2) ∧ Below u.heap.size u w') := fun u => by rw [hd2, ← itoa_dd (by omega)]; exact l1Digits_any t u (by unfold inB; simp; omega)
  have HA1 : Hid (∀ u, (Op.stringOp .add ⟨#[115, 101, 103, 32]⟩ d1).run Tryz.prog u = .ok (.string x1) u) := fun u => by rw [hd1, hx1]; exact run_string_add_lists u [115, 101, 103, 32] _ (by simp) (by omega)
  have HA2 : Hid (∀ u, (Op.stringOp .add x1 ⟨#[32, 116, 97, 98, 108, 101, 32]⟩).run Tryz.prog u = .ok (.string x2) u) := fun u => by rw [hx1, hx2]; exact run_string_add_lists u ([115, 101, 103, 32] ++ decDigits s.toNat) [32, 116, 97, 98, 108, 101, 32] (by simp; omega) (by simp)
  have HA3 : Hid (∀ u, (Op.stringOp .add x2 d2).run Tryz.prog u = .ok (.string x3) u) := fun u => by rw [hx2, hd2, hx3]; exact run_string_add_lists u ([115, 101, 103, 32] ++ decDigits s.toNat ++ [32, 116, 97, 98, 108, 101, 32]) _ (by simp; omega) (by omega)
  have HA4 : Hid ((∀ u, (Op.stringOp .add x3 ⟨#[32, 112, 101, 101, 112]⟩).run Tryz.prog u = .ok (.string (x4 true)) u) ∧ (∀ u, (Op.stringOp .add x3 ⟨#[32, 112, 108, 97, 105, 110]⟩).run Tryz.prog u = .ok (.string (x4 false)) u)) := by
    constructor <;> (intro u; rw [hx3, hx4])
    · exact run_string_add_lists u ([115, 101, 103, 32] ++ decDigits s.toNat ++ [32, 116, 97, 98, 108, 101, 32] ++ decDigits t.toNat) [32, 112, 101, 101, 112] (by simp; omega) (by simp)
    · exact run_string_add_lists u ([115, 101, 103, 32] ++ decDigits s.toNat ++ [32, 116, 97, 98, 108, 101, 32] ++ decDigits t.toNat) [32, 112, 108, 97, 105, 110] (by simp; omega) (by simp)
  have HA5 : Hid (∀ p, (∀ u, (Op.stringOp .add (x4 p) ⟨#[32, 99, 97, 99, 104, 101]⟩).run Tryz.prog u = .ok (.string (x5 p true)) u) ∧ (∀ u, (Op.stringOp .add (x4 p) ⟨#[32, 108, 111, 111, 107]⟩).run Tryz.prog u = .ok (.string (x5 p false)) u)) := by
    intro p
    constructor <;> (intro u; rw [hx4, hx5])
    · exact run_string_add_lists u ([115, 101, 103, 32] ++ decDigits s.toNat ++ [32, 116, 97, 98, 108, 101, 32] ++ decDigits t.toNat ++ (if p then [32, 112, 101, 101, 112] else [32, 112, 108, 97, 105, 110])) [32, 99, 97, 99, 104, 101] (by cases p <;> simp <;> omega) (by simp)
    · exact run_string_add_lists u ([115, 101, 103, 32] ++ decDigits s.toNat ++ [32, 116, 97, 98, 108, 101, 32] ++ decDigits t.toNat ++ (if p then [32, 112, 101, 101, 112] else [32, 112, 108, 97, 105, 110])) [32, 108, 111, 111, 107] (by cases p <;> simp <;> omega) (by simp)
  have HCF : Hid (∀ p c : Bool, S (cfgT s.toNat t.toNat p c) = .string (x5 p c)) := fun p c => by rw [hx5, cfg_at]
  clear hs hc hd1 hd2 hx1 hx2 hx3 hx4 hx5 hl1 hl2 h1 h2 h3 h4
  go_enter Tryz.func41, Tryz.ntmps41
  go_wp2_with fail
  refine wp_region_facts (by kernel_rfl) 13 (fun v => Below w.heap.size w v) (fun u v => Below u.heap.size u v) (fun i v u => match i with | 0 => (fun v u => v = .pointer (some ⟨b, 0, none⟩)) v u | 1 => (fun v u => v = .pointer (some ⟨b, 0, none⟩)) v u | 2 => (fun v u => v = .pointer (some ⟨b, 0, none⟩)) v u | 3 => (fun v u => v = .int .i64 s) v u | 4 => (fun v u => v = .string d1) v u | 5 => (fun v u => v = .string x1) v u | 6 => (fun v u => v = .string x2) v u | 7 => (fun v u => v = .pointer (some ⟨b, 0, none⟩)) v u | 8 => (fun v u => v = .pointer (some ⟨b, 0, none⟩)) v u | 9 => (fun v u => v = .pointer (some ⟨b, 1, none⟩)) v u | 10 => (fun v u => v = .int .i64 t) v u | 11 => (fun v u => v = .string d2) v u | 12 => (fun v u => v = .string x3) v u | _ => True) (by kernel_rfl) [0, 1, 2, 3, 4, 5, 6, 7, 8, 9, 10, 11, 12] (by kernel_rfl) ?b0 ?bk ?fk ⟨?s0, ?s1, ?s2, ?s3, ?s4, ?s5, ?s6, ?s7, ?s8, ?s9, ?s10, ?s11, ?s12, trivial⟩ _ rfl [(0, some 4), (1, some 5), (2, some 6), (3, some 7), (4, some 8), (5, some 9), (6, some 10), (7, some 11), (8, some 12), (9, some 13), (10, some 14), (11, some 15), (12, some 16)] (by kernel_rfl) ?last
  case b0 => exact Below.drew (Below.refl _ _)
  case bk => exact fun u v h hb => h.trans (hb.mono h.size)
  case fk => intro i v u u' h hb; match i, h with | 0, h => exact (h) | 1, h => exact (h) | 2, h => exact (h) | 3, h => exact (h) | 4, h => exact (h) | 5, h => exact (h) | 6, h => exact (h) | 7, h => exact (h) | 8, h => exact (h) | 9, h => exact (h) | 10, h => exact (h) | 11, h => exact (h) | 12, h => exact (h) | _ + 13, _ => exact trivial
  case s0 =>
    refine StepF.of rfl [] (by kernel_rfl) ?_
    intro vs u hB hf K hK
    clear hf
    simp only [putsA, List.foldl_nil, Act.put, List.setIfInBounds_toArray] at hK ⊢
    rw [if_pos (by rfl)]
    go_simp
    exact hK.out _ _ (Below.refl _ _) rfl
  case s1 =>
    refine StepF.of rfl [(0, some 4)] (by kernel_rfl) ?_
    intro vs u hB hf K hK
    have f0 : (fun v u => v = .pointer (some ⟨b, 0, none⟩)) (vs 0) u := hf.1
    clear hf
    simp only [putsA, List.foldl_cons, List.foldl_nil, Act.put, List.setIfInBounds_toArray, List.set_cons_zero, List.set_cons_succ] at hK ⊢
    generalize vs 0 = v0 at f0 hK ⊢
    rw [if_pos (by rfl)]
    subst f0
    go_simp
    exact hK.out _ _ (Below.refl _ _) rfl
  case s2 =>
    refine StepF.of rfl [(1, some 5)] (by kernel_rfl) ?_
    intro vs u hB hf K hK
    have f1 : (fun v u => v = .pointer (some ⟨b, 0, none⟩)) (vs 1) u := hf.1
    clear hf
    simp only [putsA, List.foldl_cons, List.foldl_nil, Act.put, List.setIfInBounds_toArray, List.set_cons_zero, List.set_cons_succ] at hK ⊢
    generalize vs 1 = v1 at f1 hK ⊢
    rw [if_pos (by rfl)]
    subst f1
    go_simp
    exact hK.out _ _ (Below.refl _ _) rfl
  case s3 =>
    refine StepF.of rfl [(2, some 6)] (by kernel_rfl) ?_
    intro vs u hB hf K hK
    have f2 : (fun v u => v = .pointer (some ⟨b, 0, none⟩)) (vs 2) u := hf.1
    clear hf
    simp only [putsA, List.foldl_cons, List.foldl_nil, Act.put, List.setIfInBounds_toArray, List.set_cons_zero, List.set_cons_succ] at hK ⊢
    generalize vs 2 = v2 at f2 hK ⊢
    rw [if_pos (by rfl)]
    subst f2
    have c0 := (HC.out u hB).1
    go_simp
    exact hK.out _ _ (Below.refl _ _) rfl
  case s4 =>
    refine StepF.of rfl [(3, some 7)] (by kernel_rfl) ?_
    intro vs u hB hf K hK
    have f3 : (fun v u => v = .int .i64 s) (vs 3) u := hf.1
    clear hf
    simp only [putsA, List.foldl_cons, List.foldl_nil, Act.put, List.setIfInBounds_toArray, List.set_cons_zero, List.set_cons_succ] at hK ⊢
    generalize vs 3 = v3 at f3 hK ⊢
    rw [if_pos (by rfl)]
    subst f3
    go_simp
    refine (HS.out u).mono ?_
    rintro e w4 ⟨rfl, b4⟩
    exact hK.out _ _ b4 rfl
  case s5 =>
    refine StepF.of rfl [(4, some 8)] (by kernel_rfl) ?_
    intro vs u hB hf K hK
    have f4 : (fun v u => v = .string d1) (vs 4) u := hf.1
    clear hf
    simp only [putsA, List.foldl_cons, List.foldl_nil, Act.put, List.setIfInBounds_toArray, List.set_cons_zero, List.set_cons_succ] at hK ⊢
    generalize vs 4 = v4 at f4 hK ⊢
    rw [if_pos (by rfl)]
    subst f4
    have ha := HA1.out u
    go_simp
    exact hK.out _ _ (Below.refl _ _) rfl
  case s6 =>
    refine StepF.of rfl [(5, some 9)] (by kernel_rfl) ?_
    intro vs u hB hf K hK
    have f5 : (fun v u => v = .string x1) (vs 5) u := hf.1
    clear hf
    simp only [putsA, List.foldl_cons, List.foldl_nil, Act.put, List.setIfInBounds_toArray, List.set_cons_zero, List.set_cons_succ] at hK ⊢
    generalize vs 5 = v5 at f5 hK ⊢
    rw [if_pos (by rfl)]
    subst f5
    have ha := HA2.out u
    go_simp
    exact hK.out _ _ (Below.refl _ _) rfl
  case s7 =>
    refine StepF.of rfl [] (by kernel_rfl) ?_
    intro vs u hB hf K hK
    clear hf
    simp only [putsA, List.foldl_nil, Act.put, List.setIfInBounds_toArray] at hK ⊢
    rw [if_pos (by rfl)]
    go_simp
    exact hK.out _ _ (Below.refl _ _) rfl
  case s8 =>
    refine StepF.of rfl [(7, some 11)] (by kernel_rfl) ?_
    intro vs u hB hf K hK
    have f7 : (fun v u => v = .pointer (some ⟨b, 0, none⟩)) (vs 7) u := hf.1
    clear hf
    simp only [putsA, List.foldl_cons, List.foldl_nil, Act.put, List.setIfInBounds_toArray, List.set_cons_zero, List.set_cons_succ] at hK ⊢
    generalize vs 7 = v7 at f7 hK ⊢
    rw [if_pos (by rfl)]
    subst f7
    go_simp
    exact hK.out _ _ (Below.refl _ _) rfl
  case s9 =>
    refine StepF.of rfl [(8, some 12)] (by kernel_rfl) ?_
    intro vs u hB hf K hK
    have f8 : (fun v u => v = .pointer (some ⟨b, 0, none⟩)) (vs 8) u := hf.1
    clear hf
    simp only [putsA, List.foldl_cons, List.foldl_nil, Act.put, List.setIfInBounds_toArray, List.set_cons_zero, List.set_cons_succ] at hK ⊢
    generalize vs 8 = v8 at f8 hK ⊢
    rw [if_pos (by rfl)]
    subst f8
    go_simp
    exact hK.out _ _ (Below.refl _ _) rfl
  case s10 =>
    refine StepF.of rfl [(9, some 13)] (by kernel_rfl) ?_
    intro vs u hB hf K hK
    have f9 : (fun v u => v = .pointer (some ⟨b, 1, none⟩)) (vs 9) u := hf.1
    clear hf
    simp only [putsA, List.foldl_cons, List.foldl_nil, Act.put, List.setIfInBounds_toArray, List.set_cons_zero, List.set_cons_succ] at hK ⊢
    generalize vs 9 = v9 at f9 hK ⊢
    rw [if_pos (by rfl)]
    subst f9
    have c0 := (HC.out u hB).2.1
    go_simp
    exact hK.out _ _ (Below.refl _ _) rfl
  case s11 =>
    refine StepF.of rfl [(4, some 8), (10, some 14)] (by kernel_rfl) ?_
    intro vs u hB hf K hK
    have f4 : (fun v u => v = .string d1) (vs 4) u := hf.1
    have f10 : (fun v u => v = .int .i64 t) (vs 10) u := hf.2.1
    clear hf
    simp only [putsA, List.foldl_cons, List.foldl_nil, Act.put, List.setIfInBounds_toArray, List.set_cons_zero, List.set_cons_succ] at hK ⊢
    generalize vs 4 = v4 at f4 hK ⊢
    generalize vs 10 = v10 at f10 hK ⊢
    rw [if_pos (by rfl)]
    subst f10
    clear f4
    go_simp
    refine (HT.out u).mono ?_
    rintro e w4 ⟨rfl, b4⟩
    exact hK.out _ _ b4 rfl
  case s12 =>
    refine StepF.of rfl [(6, some 10), (11, some 15)] (by kernel_rfl) ?_
    intro vs u hB hf K hK
    have f6 : (fun v u => v = .string x2) (vs 6) u := hf.1
    have f11 : (fun v u => v = .string d2) (vs 11) u := hf.2.1
    clear hf
    simp only [putsA, List.foldl_cons, List.foldl_nil, Act.put, List.setIfInBounds_toArray, List.set_cons_zero, List.set_cons_succ] at hK ⊢
    generalize vs 6 = v6 at f6 hK ⊢
    generalize vs 11 = v11 at f11 hK ⊢
    rw [if_pos (by rfl)]
    subst f6
    subst f11
    have ha := HA3.out u
    go_simp
    exact hK.out _ _ (Below.refl _ _) rfl
  case last =>
    intro vs u hB hf K hK
    have f0 : (fun v u => v = .pointer (some ⟨b, 0, none⟩)) (vs 0) u := hf.1
    have f1 : (fun v u => v = .pointer (some ⟨b, 0, none⟩)) (vs 1) u := hf.2.1
    have f2 : (fun v u => v = .pointer (some ⟨b, 0, none⟩)) (vs 2) u := hf.2.2.1
    have f3 : (fun v u => v = .int .i64 s) (vs 3) u := hf.2.2.2.1
    have f4 : (fun v u => v = .string d1) (vs 4) u := hf.2.2.2.2.1
    have f5 : (fun v u => v = .string x1) (vs 5) u := hf.2.2.2.2.2.1
    have f6 : (fun v u => v = .string x2) (vs 6) u := hf.2.2.2.2.2.2.1
    have f7 : (fun v u => v = .pointer (some ⟨b, 0, none⟩)) (vs 7) u := hf.2.2.2.2.2.2.2.1
    have f8 : (fun v u => v = .pointer (some ⟨b, 0, none⟩)) (vs 8) u := hf.2.2.2.2.2.2.2.2.1
    have f9 : (fun v u => v = .pointer (some ⟨b, 1, none⟩)) (vs 9) u := hf.2.2.2.2.2.2.2.2.2.1
    have f10 : (fun v u => v = .int .i64 t) (vs 10) u := hf.2.2.2.2.2.2.2.2.2.2.1
    have f11 : (fun v u => v = .string d2) (vs 11) u := hf.2.2.2.2.2.2.2.2.2.2.2.1
    have f12 : (fun v u => v = .string x3) (vs 12) u := hf.2.2.2.2.2.2.2.2.2.2.2.2.1
    clear hf
    simp only [putsA, List.foldl_cons, List.foldl_nil, Act.put, List.setIfInBounds_toArray, List.set_cons_zero, List.set_cons_succ]
    generalize vs 0 = v0 at f0 ⊢
    generalize vs 1 = v1 at f1 ⊢
    generalize vs 2 = v2 at f2 ⊢
    generalize vs 3 = v3 at f3 ⊢
    generalize vs 4 = v4 at f4 ⊢
    generalize vs 5 = v5 at f5 ⊢
    generalize vs 6 = v6 at f6 ⊢
    generalize vs 7 = v7 at f7 ⊢
    generalize vs 8 = v8 at f8 ⊢
    generalize vs 9 = v9 at f9 ⊢
    generalize vs 10 = v10 at f10 ⊢
    generalize vs 11 = v11 at f11 ⊢
    generalize vs 12 = v12 at f12 ⊢
    rw [if_pos (by rfl)]
    subst f12
    clear f0 f1 f2 f3 f4 f5 f6 f7 f8 f9 f10 f11
    go_simp
    refine hK.out _ _ ?_
    have HB1 : Hid (Below w.heap.size w u) := hB
    clear hB hK HS HT HA1 HA2 HA3
    obtain ⟨-, -, c2, c3⟩ := HC.out u HB1.out
    cases p with
    | true =>
      cases c with
      | true =>
        have hq1 : (Op.stringOp .add x3 ⟨#[32, 112, 101, 101, 112]⟩).run Tryz.prog u = .ok (.string (x4 true)) u := HA4.out.1 u
        have hq2 : (Op.stringOp .add (x4 true) ⟨#[32, 99, 97, 99, 104, 101]⟩).run Tryz.prog u = .ok (.string (x5 true true)) u := (HA5.out true).1 u
        have HE : Hid (S (cfgT s.toNat t.toNat true true) = .string (x5 true true)) := HCF.out true true
        clear HCF HA4 HA5
        go_wp2
        go_ret
        exact ⟨by rw [HE.out]; rfl, HB1.out⟩
      | false =>
        have hq1 : (Op.stringOp .add x3 ⟨#[32, 112, 101, 101, 112]⟩).run Tryz.prog u = .ok (.string (x4 true)) u := HA4.out.1 u
        have hq2 : (Op.stringOp .add (x4 true) ⟨#[32, 108, 111, 111, 107]⟩).run Tryz.prog u = .ok (.string (x5 true false)) u := (HA5.out true).2 u
        have HE : Hid (S (cfgT s.toNat t.toNat true false) = .string (x5 true false)) := HCF.out true false
        clear HCF HA4 HA5
        go_wp2
        go_ret
        exact ⟨by rw [HE.out]; rfl, HB1.out⟩
    | false =>
      cases c with
      | true =>
        have hq1 : (Op.stringOp .add x3 ⟨#[32, 112, 108, 97, 105, 110]⟩).run Tryz.prog u = .ok (.string (x4 false)) u := HA4.out.2 u
        have hq2 : (Op.stringOp .add (x4 false) ⟨#[32, 99, 97, 99, 104, 101]⟩).run Tryz.prog u = .ok (.string (x5 false true)) u := (HA5.out false).1 u
        have HE : Hid (S (cfgT s.toNat t.toNat false true) = .string (x5 false true)) := HCF.out false true
        clear HCF HA4 HA5
        go_wp2
        go_ret
        exact ⟨by rw [HE.out]; rfl, HB1.out⟩
      | false =>
        have hq1 : (Op.stringOp .add x3 ⟨#[32, 112, 108, 97, 105, 110]⟩).run Tryz.prog u = .ok (.string (x4 false)) u := HA4.out.2 u
        have hq2 : (Op.stringOp .add (x4 false) ⟨#[32, 108, 111, 111, 107]⟩).run Tryz.prog u = .ok (.string (x5 false false)) u := (HA5.out false).2 u
        have HE : Hid (S (cfgT s.toNat t.toNat false false) = .string (x5 false false)) := HCF.out false false
        clear HCF HA4 HA5
        go_wp2
        go_ret
        exact ⟨by rw [HE.out]; rfl, HB1.out⟩
theorem box4 (w : World) (s t : Int) (p c : Bool) (T : TypeId) : (w.alloc (.cells #[.int .i64 s, .int .i64 t, .bool p, .bool c] T)).cell? ⟨w.heap.size, 0, none⟩ = some (.int .i64 s) ∧ (w.alloc (.cells #[.int .i64 s, .int .i64 t, .bool p, .bool c] T)).cell? ⟨w.heap.size, 1, none⟩ = some (.int .i64 t) ∧ (w.alloc (.cells #[.int .i64 s, .int .i64 t, .bool p, .bool c] T)).cell? ⟨w.heap.size, 2, none⟩ = some (.bool p) ∧ (w.alloc (.cells #[.int .i64 s, .int .i64 t, .bool p, .bool c] T)).cell? ⟨w.heap.size, 3, none⟩ = some (.bool c) := by
  refine ⟨?_, ?_, ?_, ?_⟩ <;> (rw [World.cell?_alloc_at _ _ _ _ rfl]; rfl)
theorem six_at (u : World) (a b c d e f : ByteArray) (T : TypeId) : ∀ (j : Nat) x, ([a, b, c, d, e, f] : List ByteArray)[j]? = some x → (u.alloc (.cells #[.string a, .string b, .string c, .string d, .string e, .string f] T)).cell? ⟨u.heap.size, 0 + j, none⟩ = some (.string x) := fun j x hx => by
  rw [World.cell?_alloc_at _ _ _ _ rfl]
  match j, hx with
  | 0, hx => injection hx with hx; subst hx; rfl
  | 1, hx => injection hx with hx; subst hx; rfl
  | 2, hx => injection hx with hx; subst hx; rfl
  | 3, hx => injection hx with hx; subst hx; rfl
  | 4, hx => injection hx with hx; subst hx; rfl
  | 5, hx => injection hx with hx; subst hx; rfl
  | _ + 6, hx => simp at hx
/-- What ConfigText tells. -/
def cfL (s t : Int) (p c : Bool) : List UInt8 := if okS s t then cfgT s.toNat t.toNat p c else []
set_option maxHeartbeats 1500000 in
theorem specCfT_any (s t : Int) (p c : Bool) (w : World) :
    Calls Tryz.prog 14 #[cfV s t p c] w fun e w' => e = .returned (TR (cfF s t) (cfL s t p c)) ∧ Below w.heap.size w w' := by
  obtain ⟨W, hW⟩ : ∃ W, W = (w.alloc (.cells #[.int .i64 s, .int .i64 t, .bool p, .bool c] 26)).alloc (.cells #[.int .i64 0, .string ⟨#[]⟩] 31) := ⟨_, rfl⟩
  have HW : Hid (W = (w.alloc (.cells #[.int .i64 s, .int .i64 t, .bool p, .bool c] 26)).alloc (.cells #[.int .i64 0, .string ⟨#[]⟩] 31)) := hW
  have hb0 : Below w.heap.size w W := by rw [hW]; exact (bnewC _ _).alloc (by simp) _
  have r0 : W.cell? ⟨w.heap.size + 1, 0, none⟩ = some (.int .i64 0) := by rw [hW]; simp [go_sem]
  have r1 : W.cell? ⟨w.heap.size + 1, 1, none⟩ = some (.string ⟨#[]⟩) := by rw [hW]; simp [go_sem]
  have rf : ∀ j, W.frozen? ⟨w.heap.size + 1, j, none⟩ = false := fun j => by rw [hW]; simp [go_sem]
  have rl : w.heap.size + 1 < W.heap.size := by rw [hW]; simp
  have hc0 : W.cell? ⟨w.heap.size, 0, none⟩ = some (.int .i64 s) ∧ W.cell? ⟨w.heap.size, 1, none⟩ = some (.int .i64 t) ∧ W.cell? ⟨w.heap.size, 2, none⟩ = some (.bool p) ∧ W.cell? ⟨w.heap.size, 3, none⟩ = some (.bool c) := by
    obtain ⟨q0, q1, q2, q3⟩ := box4 w s t p c 26
    rw [hW]; exact ⟨cell_keep (bnewC _ _) q0, cell_keep (bnewC _ _) q1, cell_keep (bnewC _ _) q2, cell_keep (bnewC _ _) q3⟩
  have HC : Hid (∀ u, Below W.heap.size W u → u.cell? ⟨w.heap.size + 1, 0, none⟩ = some (.int .i64 0) ∧ u.cell? ⟨w.heap.size + 1, 1, none⟩ = some (.string ⟨#[]⟩) ∧ (∀ j, u.frozen? ⟨w.heap.size + 1, j, none⟩ = false) ∧ w.heap.size + 1 < u.heap.size) := fun u hu => ⟨cell_keep hu r0, cell_keep hu r1, fun j => by rw [(bcell hu).2 _ _ rl]; exact rf j, Nat.lt_of_lt_of_le rl hu.size⟩
  have HBw : Hid (∀ u, Below W.heap.size W u → Below w.heap.size w u) := fun u hu => hb0.trans (hu.mono hb0.size)
  have HF : Hid (Calls Tryz.prog 53 #[.pointer (some ⟨w.heap.size, 0, none⟩)] W fun e w' => e = .returned (.int .i64 (cfF s t)) ∧ w' = W) := l13Fault_any _ s t W hc0.1 hc0.2.1
  have HX : Hid (okS s t = true → Calls Tryz.prog 41 #[.pointer (some ⟨w.heap.size, 0, none⟩)] W fun e w' => e = .returned (S (cfgT s.toNat t.toNat p c)) ∧ Below W.heap.size W w') := fun h => l13Text_any _ s t p c W h hc0
  obtain ⟨F, hF⟩ : ∃ F, F = cfF s t := ⟨_, rfl⟩
  obtain ⟨L, hL⟩ : ∃ L, L = cfL s t p c := ⟨_, rfl⟩
  have HFL : Hid ((okS s t = true → F = 0 ∧ L = cfgT s.toNat t.toNat p c) ∧ (okS s t = false → F = 3 ∧ L = [])) := by
    constructor <;> (intro h; rw [hF, hL]; unfold cfF cfL; rw [h]; exact ⟨rfl, rfl⟩)
  rw [← hF] at HF
  rw [← hF, ← hL]
  obtain ⟨c0, c1, cf, cl⟩ := HC.out W (Below.refl _ _)
  clear hW hb0 r0 r1 rf rl hc0 hF hL
  cases hok : okS s t with
  | true =>
    obtain ⟨rfl, hL⟩ := HFL.out.1 hok
    have HE : Hid (L = cfgT s.toNat t.toNat p c) := hL
    have HY := HX.out hok
    have HY' : Hid (Calls Tryz.prog 41 #[.pointer (some ⟨w.heap.size, 0, none⟩)] W fun e w' => e = .returned (S L) ∧ Below W.heap.size W w') := by rw [hL]; exact HY
    clear hok HX HFL hL HY
    go_enter Tryz.func14, Tryz.ntmps14
    go_wp2_with fail
    rw [← HW.out]
    refine HF.out.mono ?_
    rintro e w2 ⟨rfl, e2⟩
    replace e2 := e2.symm
    subst e2
    go_wp2_with fail
    refine HY'.out.mono ?_
    rintro e w3 ⟨rfl, b3⟩
    have HB3 : Hid (Below w.heap.size w w3) := HBw.out _ b3
    clear c0 c1 cf cl
    obtain ⟨c0, c1, cf, cl⟩ := HC.out w3 b3
    clear b3 HW HC HBw
    go_wp2
    refine bodyPost_ret (v := .agg #[.int .i64 0, S L]) (by simp [results, Tryz.results14, go_sem, c0, c1]) rfl ⟨rfl, ?_⟩
    repeat (first | exact HB3.out | refine Below.setCell ?_ (by simp) _)
  | false =>
    obtain ⟨rfl, rfl⟩ := HFL.out.2 hok
    have HB3 : Hid (Below w.heap.size w W) := HBw.out _ (Below.refl _ _)
    clear hok HX HFL
    go_enter Tryz.func14, Tryz.ntmps14
    go_wp2_with fail
    rw [← HW.out]
    refine HF.out.mono ?_
    rintro e w2 ⟨rfl, e2⟩
    replace e2 := e2.symm
    subst e2
    clear HW HC HBw
    go_wp2
    refine bodyPost_ret (v := .agg #[.int .i64 3, .string ⟨#[]⟩]) (by simp [results, Tryz.results14, go_sem, c0, c1]) rfl ⟨rfl, ?_⟩
    repeat (first | exact HB3.out | refine Below.setCell ?_ (by simp) _)
theorem size_any (n : Int) (im : Nat) (w : World) (h0 : 0 ≤ n) (h1 : n ≤ 64) :
    Calls Tryz.prog 49 #[.complex .f64 (floatOfInt .f64 n) im] w fun e w' => e = .returned (.int .i64 n) ∧ Below w.heap.size w w' := by
  have hcv := fun (x y : TypeId) (u : World) (hs : (Tryz.prog.underlying x).isSome = true) (hd : Tryz.prog.underlying y = some (.int .i64)) => run_convert_float_int (P := Tryz.prog) u x y .f64 .i64 _ n hs hd (fl_back n h0 h1)
  have hc := fun (u : World) => hcv 134 2 u (by kernel_rfl) Tryz.underlying2
  clear hcv h0 h1
  generalize floatOfInt .f64 n = r at hc
  go_enter Tryz.func49, Tryz.ntmps49
  go_wp2
  go_ret
  exact ⟨rfl, Below.refl _ _⟩
theorem table_any (n : Int) (re : Nat) (w : World) (h0 : 0 ≤ n) (h1 : n ≤ 64) :
    Calls Tryz.prog 50 #[.complex .f64 re (floatOfInt .f64 n)] w fun e w' => e = .returned (.int .i64 n) ∧ Below w.heap.size w w' := by
  have hcv := fun (x y : TypeId) (u : World) (hs : (Tryz.prog.underlying x).isSome = true) (hd : Tryz.prog.underlying y = some (.int .i64)) => run_convert_float_int (P := Tryz.prog) u x y .f64 .i64 _ n hs hd (fl_back n h0 h1)
  have hc := fun (u : World) => hcv 134 2 u (by kernel_rfl) Tryz.underlying2
  clear hcv h0 h1
  generalize floatOfInt .f64 n = r at hc
  go_enter Tryz.func50, Tryz.ntmps50
  go_wp2
  go_ret
  exact ⟨rfl, Below.refl _ _⟩
theorem wordFor_any (p : Bool) (x y : ByteArray) (w : World) :
    Calls Tryz.prog 51 #[.bool p, .string x, .string y] w fun e w' => e = .returned (.string (if p then x else y)) ∧ Below w.heap.size w w' := by
  cases p <;> (go_enter Tryz.func51, Tryz.ntmps51; go_wp2; go_ret; exact ⟨rfl, Below.refl _ _⟩)
theorem join_cfg (s t : Nat) (p c : Bool) : Lib.join [wSeg, decDigits s, wTab, decDigits t, wP p, wC c] [32] = cfgT s t p c := by
  simp [Lib.join, cfgT]
set_option maxRecDepth 100000 in
set_option maxHeartbeats 1500000 in
theorem implCfT_any (s t : Int) (p c : Bool) (w : World) (hL : TB w) :
    Calls Tryz.prog 11 #[cfV s t p c] w fun e w' => e = .returned (TR (cfF s t) (cfL s t p c)) ∧ Below w.heap.size w w' := by
  obtain ⟨W0, hW⟩ : ∃ W, W = (w.alloc (.cells #[.int .i64 s, .int .i64 t, .bool p, .bool c] 26)).alloc (.cells #[.int .i64 0, .string ⟨#[]⟩] 31) := ⟨_, rfl⟩
  have HW : Hid (W0 = (w.alloc (.cells #[.int .i64 s, .int .i64 t, .bool p, .bool c] 26)).alloc (.cells #[.int .i64 0, .string ⟨#[]⟩] 31)) := hW
  have hb0 : Below w.heap.size w W0 := by rw [hW]; exact (bnewC _ _).alloc (by simp) _
  have r0 : W0.cell? ⟨w.heap.size + 1, 0, none⟩ = some (.int .i64 0) := by rw [hW]; simp [go_sem]
  have r1 : W0.cell? ⟨w.heap.size + 1, 1, none⟩ = some (.string ⟨#[]⟩) := by rw [hW]; simp [go_sem]
  have rf : ∀ j, W0.frozen? ⟨w.heap.size + 1, j, none⟩ = false := fun j => by rw [hW]; simp [go_sem]
  have rl : w.heap.size + 1 < W0.heap.size := by rw [hW]; simp
  have hc0 : W0.cell? ⟨w.heap.size, 0, none⟩ = some (.int .i64 s) ∧ W0.cell? ⟨w.heap.size, 1, none⟩ = some (.int .i64 t) ∧ W0.cell? ⟨w.heap.size, 2, none⟩ = some (.bool p) ∧ W0.cell? ⟨w.heap.size, 3, none⟩ = some (.bool c) := by
    obtain ⟨q0, q1, q2, q3⟩ := box4 w s t p c 26
    rw [hW]; exact ⟨cell_keep (bnewC _ _) q0, cell_keep (bnewC _ _) q1, cell_keep (bnewC _ _) q2, cell_keep (bnewC _ _) q3⟩
  have HC0 : Hid (∀ u, Below W0.heap.size W0 u → u.cell? ⟨w.heap.size, 0, none⟩ = some (.int .i64 s) ∧ u.cell? ⟨w.heap.size, 1, none⟩ = some (.int .i64 t) ∧ u.cell? ⟨w.heap.size, 2, none⟩ = some (.bool p) ∧ u.cell? ⟨w.heap.size, 3, none⟩ = some (.bool c) ∧ u.cell? ⟨w.heap.size + 1, 0, none⟩ = some (.int .i64 0) ∧ u.cell? ⟨w.heap.size + 1, 1, none⟩ = some (.string ⟨#[]⟩) ∧ (∀ j, u.frozen? ⟨w.heap.size + 1, j, none⟩ = false) ∧ w.heap.size + 1 < u.heap.size) := fun u hu => ⟨cell_keep hu hc0.1, cell_keep hu hc0.2.1, cell_keep hu hc0.2.2.1, cell_keep hu hc0.2.2.2, cell_keep hu r0, cell_keep hu r1, fun j => by rw [(bcell hu).2 _ _ rl]; exact rf j, Nat.lt_of_lt_of_le rl hu.size⟩
  have HBw0 : Hid (∀ u, Below W0.heap.size W0 u → Below w.heap.size w u) := fun u hu => hb0.trans (hu.mono hb0.size)
  have HL : Hid (∀ u, Below w.heap.size w u → TB u) := fun u hu => hL.below hu
  have HSO : Hid (∀ u, Calls Tryz.prog 46 #[cfV s t p c] u fun e w' => e = .returned (.tuple #[seV s t, .int .i64 (cfF s t)]) ∧ Below u.heap.size u w') := fun u => settingOf_any s t p c u
  obtain ⟨F, hF⟩ : ∃ F, F = cfF s t := ⟨_, rfl⟩
  obtain ⟨L, hLL⟩ : ∃ L, L = cfL s t p c := ⟨_, rfl⟩
  obtain ⟨Z, hZ⟩ : ∃ Z, Z = seV s t := ⟨_, rfl⟩
  have HFL : Hid ((okS s t = true → F = 0 ∧ L = cfgT s.toNat t.toNat p c ∧ Z = .complex .f64 (floatOfInt .f64 s) (floatOfInt .f64 t)) ∧ (okS s t = false → F = 3 ∧ L = [] ∧ Z = .complex .f64 0 0)) := by
    constructor <;> (intro h; rw [hF, hLL, hZ]; unfold cfF cfL seV; rw [h]; exact ⟨rfl, rfl, rfl⟩)
  rw [← hF, ← hZ] at HSO
  rw [← hF, ← hLL]
  obtain ⟨k0, k1, k2, k3, c0, c1, cf, cl⟩ := HC0.out W0 (Below.refl _ _)
  clear hW hb0 r0 r1 rf rl hc0 hF hLL hZ hL
  cases hok : okS s t with
  | false =>
    obtain ⟨rfl, rfl, rfl⟩ := HFL.out.2 hok
    clear hok HFL
    go_enter Tryz.func11, Tryz.ntmps11
    go_wp2_with fail
    rw [← HW.out]
    refine (HSO.out _).mono ?_
    rintro e w2 ⟨rfl, b2⟩
    have HB3 : Hid (Below w.heap.size w w2) := HBw0.out _ b2
    clear k0 k1 k2 k3 c0 c1 cf cl
    obtain ⟨-, -, -, -, c0, c1, cf, cl⟩ := HC0.out w2 b2
    clear HW HC0 HBw0 HSO b2
    go_wp2
    refine bodyPost_ret (v := .agg #[.int .i64 3, .string ⟨#[]⟩]) (by simp [results, Tryz.results11, go_sem, c0, c1]) rfl ⟨rfl, ?_⟩
    repeat (first | exact HB3.out | refine Below.setCell ?_ (by simp) _)
  | true =>
    obtain ⟨rfl, hLL, hZ⟩ := HFL.out.1 hok
    obtain ⟨h1, h2, h3, h4⟩ := okS_iff.1 hok
    go_enter Tryz.func11, Tryz.ntmps11
    subst hLL
    clear hok HFL
    go_wp2_with fail
    rw [← HW.out]
    refine (HSO.out _).mono ?_
    rintro e W ⟨rfl, b2⟩
    have HBW : Hid (Below W0.heap.size W0 W) := b2
    have HBw : Hid (∀ u, Below W.heap.size W u → Below w.heap.size w u) := fun u hu => HBw0.out u (HBW.out.trans (hu.mono HBW.out.size))
    have HC : Hid (∀ u, Below W.heap.size W u → u.cell? ⟨w.heap.size, 2, none⟩ = some (.bool p) ∧ u.cell? ⟨w.heap.size, 3, none⟩ = some (.bool c) ∧ u.cell? ⟨w.heap.size + 1, 0, none⟩ = some (.int .i64 0) ∧ u.cell? ⟨w.heap.size + 1, 1, none⟩ = some (.string ⟨#[]⟩) ∧ (∀ j, u.frozen? ⟨w.heap.size + 1, j, none⟩ = false) ∧ w.heap.size + 1 < u.heap.size) := fun u hu => by
      obtain ⟨-, -, q2, q3, q4, q5, q6, q7⟩ := HC0.out u (HBW.out.trans (hu.mono HBW.out.size))
      exact ⟨q2, q3, q4, q5, q6, q7⟩
    have HSz : Hid (∀ u, Calls Tryz.prog 49 #[Z] u fun e w' => e = .returned (.int .i64 s) ∧ Below u.heap.size u w') := fun u => by rw [hZ]; exact size_any s _ u (by omega) (by omega)
    have HTz : Hid (∀ u, Calls Tryz.prog 50 #[Z] u fun e w' => e = .returned (.int .i64 t) ∧ Below u.heap.size u w') := fun u => by rw [hZ]; exact table_any t _ u (by omega) (by omega)
    obtain ⟨d1, hd1⟩ : ∃ d : ByteArray, d = ⟨(decDigits s.toNat).toArray⟩ := ⟨_, rfl⟩
    obtain ⟨d2, hd2⟩ : ∃ d : ByteArray, d = ⟨(decDigits t.toNat).toArray⟩ := ⟨_, rfl⟩
    obtain ⟨yp, hyp⟩ : ∃ d : ByteArray, d = ⟨(wP p).toArray⟩ := ⟨_, rfl⟩
    obtain ⟨yc, hyc⟩ : ∃ d : ByteArray, d = ⟨(wC c).toArray⟩ := ⟨_, rfl⟩
    obtain ⟨yz, hyz⟩ : ∃ d : ByteArray, d = ⟨(cfgT s.toNat t.toNat p c).toArray⟩ := ⟨_, rfl⟩
    have HYZ : Hid (S (cfgT s.toNat t.toNat p c) = .string yz) := by show _ = _; rw [hyz]
    have HFs : Hid (∀ u, Below W.heap.size W u → Calls Tryz.prog 48 #[.int .i64 s, .int .i64 10] u fun e w' => e = .returned (.string d1) ∧ Below u.heap.size u w') := fun u hu => by rw [hd1, ← itoa_dd (by omega)]; exact fmt_in s u (by unfold inB; simp; omega) (HL.out u (HBw.out u hu))
    have HFt : Hid (∀ u, Below W.heap.size W u → Calls Tryz.prog 48 #[.int .i64 t, .int .i64 10] u fun e w' => e = .returned (.string d2) ∧ Below u.heap.size u w') := fun u hu => by rw [hd2, ← itoa_dd (by omega)]; exact fmt_in t u (by unfold inB; simp; omega) (HL.out u (HBw.out u hu))
    have HWp : Hid (∀ u, Calls Tryz.prog 51 #[.bool p, .string ⟨#[112, 101, 101, 112]⟩, .string ⟨#[112, 108, 97, 105, 110]⟩] u fun e w' => e = .returned (.string yp) ∧ Below u.heap.size u w') := fun u => (wordFor_any p _ _ u).mono fun e w' ⟨h1, h2⟩ => ⟨by rw [h1, hyp]; cases p <;> rfl, h2⟩
    have HWc : Hid (∀ u, Calls Tryz.prog 51 #[.bool c, .string ⟨#[99, 97, 99, 104, 101]⟩, .string ⟨#[108, 111, 111, 107]⟩] u fun e w' => e = .returned (.string yc) ∧ Below u.heap.size u w') := fun u => (wordFor_any c _ _ u).mono fun e w' ⟨h1, h2⟩ => ⟨by rw [h1, hyc]; cases c <;> rfl, h2⟩
    have HJ : Hid (∀ (u : World) (g : Nat), g < u.heap.size → (∀ (j : Nat) x, ([⟨#[115, 101, 103]⟩, d1, ⟨#[116, 97, 98, 108, 101]⟩, d2, yp, yc] : List ByteArray)[j]? = some x → u.cell? ⟨g, 0 + j, none⟩ = some (.string x)) → Calls Tryz.prog 47 #[.slice (some ⟨g, 0, none⟩) 6 6, .string ⟨#[32]⟩] u fun e w' => e = .returned (.string yz) ∧ Below u.heap.size u w') := fun u g hg hx => by
      have e1 : Lib.join (([⟨#[115, 101, 103]⟩, d1, ⟨#[116, 97, 98, 108, 101]⟩, d2, yp, yc] : List ByteArray).map (·.data.toList)) (⟨#[32]⟩ : ByteArray).data.toList = cfgT s.toNat t.toNat p c := by
        rw [hd1, hd2, hyp, hyc, ← join_cfg]; simp [wSeg, wTab]
      have e2 : (cfgT s.toNat t.toNat p c).length ≤ 100 := by
        rw [cfg_at]
        have a1 := dd_len (u := s.toNat) (by omega)
        have a2 := dd_len (u := t.toNat) (by omega)
        cases p <;> cases c <;> simp <;> omega
      have := Tryz.strings_Join g 0 6 [⟨#[115, 101, 103]⟩, d1, ⟨#[116, 97, 98, 108, 101]⟩, d2, yp, yc] ⟨#[32]⟩ u hx hg (by simp) (by simp) (by rw [e1]; omega)
      rw [e1, ← hyz] at this
      exact this
    clear b2 hZ hd1 hd2 hyp hyc hyz h1 h2 h3 h4 HSO HW k0 k1 k2 k3 c0 c1 cf cl HC0 HBw0 HL HBW
    go_wp2_with fail
    refine wp_region_facts (by kernel_rfl) 15 (fun v => Below W.heap.size W v) (fun u v => Below u.heap.size u v) (fun i v u => match i with | 0 => (fun v u => v = Z) v u | 1 => (fun v u => v = .int .i64 s) v u | 2 => (fun v u => v = .string d1) v u | 3 => (fun v u => v = Z) v u | 4 => (fun v u => v = .int .i64 t) v u | 5 => (fun v u => v = .string d2) v u | 6 => (fun v u => v = .pointer (some ⟨w.heap.size, 2, none⟩)) v u | 7 => (fun v u => v = .bool p) v u | 8 => (fun v u => v = .string yp) v u | 9 => (fun v u => v = .pointer (some ⟨w.heap.size, 3, none⟩)) v u | 10 => (fun v u => v = .bool c) v u | 11 => (fun v u => v = .string yc) v u | 12 => (fun v u => ∃ g, v = .slice (some ⟨g, 0, none⟩) 6 6 ∧ g < u.heap.size ∧ ∀ (j : Nat) x, ([⟨#[115, 101, 103]⟩, d1, ⟨#[116, 97, 98, 108, 101]⟩, d2, yp, yc] : List ByteArray)[j]? = some x → u.cell? ⟨g, 0 + j, none⟩ = some (.string x)) v u | 13 => (fun v u => v = .string yz) v u | 14 => (fun v u => v = .agg #[.int .i64 0, .string yz]) v u | _ => True) (by kernel_rfl) [0, 1, 2, 3, 4, 5, 6, 7, 8, 9, 10, 11, 12, 13, 14] (by kernel_rfl) ?b0 ?bk ?fk ⟨?s0, ?s1, ?s2, ?s3, ?s4, ?s5, ?s6, ?s7, ?s8, ?s9, ?s10, ?s11, ?s12, ?s13, ?s14, trivial⟩ _ rfl [(0, some 14), (1, some 15), (2, some 16), (3, some 17), (4, some 18), (5, some 19), (6, some 20), (7, some 21), (8, some 22), (9, some 23), (10, some 24), (11, some 25), (12, some 26), (13, some 27), (14, some 28)] (by kernel_rfl) ?last
    case b0 => exact Below.drew (Below.refl _ _)
    case bk => exact fun u v h hb => h.trans (hb.mono h.size)
    case fk => intro i v u u' h hb; match i, h with | 0, h => exact (h) | 1, h => exact (h) | 2, h => exact (h) | 3, h => exact (h) | 4, h => exact (h) | 5, h => exact (h) | 6, h => exact (h) | 7, h => exact (h) | 8, h => exact (h) | 9, h => exact (h) | 10, h => exact (h) | 11, h => exact (h) | 12, h => exact ((let ⟨g, e, h1, h2⟩ := h; ⟨g, e, Nat.lt_of_lt_of_le h1 hb.size, fun j x hx => cell_keep hb (h2 j x hx)⟩)) | 13, h => exact (h) | 14, h => exact (h) | _ + 15, _ => exact trivial
    case s0 =>
      refine StepF.of rfl [] (by kernel_rfl) ?_
      intro vs u hB hf K hK
      clear hf
      simp only [putsA, List.foldl_nil, Act.put, List.setIfInBounds_toArray] at hK ⊢
      rw [if_pos (by rfl)]
      go_simp
      exact hK.out _ _ (Below.refl _ _) rfl
    case s1 =>
      refine StepF.of rfl [(0, some 14)] (by kernel_rfl) ?_
      intro vs u hB hf K hK
      have f0 : (fun v u => v = Z) (vs 0) u := hf.1
      clear hf
      simp only [putsA, List.foldl_cons, List.foldl_nil, Act.put, List.setIfInBounds_toArray, List.set_cons_zero, List.set_cons_succ] at hK ⊢
      generalize vs 0 = v0 at f0 hK ⊢
      rw [if_pos (by rfl)]
      subst f0
      go_simp
      refine (HSz.out u).mono ?_
      rintro e w4 ⟨rfl, b4⟩
      exact hK.out _ _ b4 rfl
    case s2 =>
      refine StepF.of rfl [(1, some 15)] (by kernel_rfl) ?_
      intro vs u hB hf K hK
      have f1 : (fun v u => v = .int .i64 s) (vs 1) u := hf.1
      clear hf
      simp only [putsA, List.foldl_cons, List.foldl_nil, Act.put, List.setIfInBounds_toArray, List.set_cons_zero, List.set_cons_succ] at hK ⊢
      generalize vs 1 = v1 at f1 hK ⊢
      rw [if_pos (by rfl)]
      subst f1
      go_simp
      refine (HFs.out u (hB)).mono ?_
      rintro e w4 ⟨rfl, b4⟩
      exact hK.out _ _ b4 rfl
    case s3 =>
      refine StepF.of rfl [] (by kernel_rfl) ?_
      intro vs u hB hf K hK
      clear hf
      simp only [putsA, List.foldl_nil, Act.put, List.setIfInBounds_toArray] at hK ⊢
      rw [if_pos (by rfl)]
      go_simp
      exact hK.out _ _ (Below.refl _ _) rfl
    case s4 =>
      refine StepF.of rfl [(2, some 16), (3, some 17)] (by kernel_rfl) ?_
      intro vs u hB hf K hK
      have f2 : (fun v u => v = .string d1) (vs 2) u := hf.1
      have f3 : (fun v u => v = Z) (vs 3) u := hf.2.1
      clear hf
      simp only [putsA, List.foldl_cons, List.foldl_nil, Act.put, List.setIfInBounds_toArray, List.set_cons_zero, List.set_cons_succ] at hK ⊢
      generalize vs 2 = v2 at f2 hK ⊢
      generalize vs 3 = v3 at f3 hK ⊢
      rw [if_pos (by rfl)]
      subst f3
      clear f2
      go_simp
      refine (HTz.out u).mono ?_
      rintro e w4 ⟨rfl, b4⟩
      exact hK.out _ _ b4 rfl
    case s5 =>
      refine StepF.of rfl [(4, some 18)] (by kernel_rfl) ?_
      intro vs u hB hf K hK
      have f4 : (fun v u => v = .int .i64 t) (vs 4) u := hf.1
      clear hf
      simp only [putsA, List.foldl_cons, List.foldl_nil, Act.put, List.setIfInBounds_toArray, List.set_cons_zero, List.set_cons_succ] at hK ⊢
      generalize vs 4 = v4 at f4 hK ⊢
      rw [if_pos (by rfl)]
      subst f4
      go_simp
      refine (HFt.out u (hB)).mono ?_
      rintro e w4 ⟨rfl, b4⟩
      exact hK.out _ _ b4 rfl
    case s6 =>
      refine StepF.of rfl [] (by kernel_rfl) ?_
      intro vs u hB hf K hK
      clear hf
      simp only [putsA, List.foldl_nil, Act.put, List.setIfInBounds_toArray] at hK ⊢
      rw [if_pos (by rfl)]
      go_simp
      exact hK.out _ _ (Below.refl _ _) rfl
    case s7 =>
      refine StepF.of rfl [(6, some 20)] (by kernel_rfl) ?_
      intro vs u hB hf K hK
      have f6 : (fun v u => v = .pointer (some ⟨w.heap.size, 2, none⟩)) (vs 6) u := hf.1
      clear hf
      simp only [putsA, List.foldl_cons, List.foldl_nil, Act.put, List.setIfInBounds_toArray, List.set_cons_zero, List.set_cons_succ] at hK ⊢
      generalize vs 6 = v6 at f6 hK ⊢
      rw [if_pos (by rfl)]
      subst f6
      have c0 := (HC.out u hB).1
      go_simp
      exact hK.out _ _ (Below.refl _ _) rfl
    case s8 =>
      refine StepF.of rfl [(5, some 19), (7, some 21)] (by kernel_rfl) ?_
      intro vs u hB hf K hK
      have f5 : (fun v u => v = .string d2) (vs 5) u := hf.1
      have f7 : (fun v u => v = .bool p) (vs 7) u := hf.2.1
      clear hf
      simp only [putsA, List.foldl_cons, List.foldl_nil, Act.put, List.setIfInBounds_toArray, List.set_cons_zero, List.set_cons_succ] at hK ⊢
      generalize vs 5 = v5 at f5 hK ⊢
      generalize vs 7 = v7 at f7 hK ⊢
      rw [if_pos (by rfl)]
      subst f7
      clear f5
      go_simp
      refine (HWp.out u).mono ?_
      rintro e w4 ⟨rfl, b4⟩
      exact hK.out _ _ b4 rfl
    case s9 =>
      refine StepF.of rfl [] (by kernel_rfl) ?_
      intro vs u hB hf K hK
      clear hf
      simp only [putsA, List.foldl_nil, Act.put, List.setIfInBounds_toArray] at hK ⊢
      rw [if_pos (by rfl)]
      go_simp
      exact hK.out _ _ (Below.refl _ _) rfl
    case s10 =>
      refine StepF.of rfl [(9, some 23)] (by kernel_rfl) ?_
      intro vs u hB hf K hK
      have f9 : (fun v u => v = .pointer (some ⟨w.heap.size, 3, none⟩)) (vs 9) u := hf.1
      clear hf
      simp only [putsA, List.foldl_cons, List.foldl_nil, Act.put, List.setIfInBounds_toArray, List.set_cons_zero, List.set_cons_succ] at hK ⊢
      generalize vs 9 = v9 at f9 hK ⊢
      rw [if_pos (by rfl)]
      subst f9
      have c0 := (HC.out u hB).2.1
      go_simp
      exact hK.out _ _ (Below.refl _ _) rfl
    case s11 =>
      refine StepF.of rfl [(8, some 22), (10, some 24)] (by kernel_rfl) ?_
      intro vs u hB hf K hK
      have f8 : (fun v u => v = .string yp) (vs 8) u := hf.1
      have f10 : (fun v u => v = .bool c) (vs 10) u := hf.2.1
      clear hf
      simp only [putsA, List.foldl_cons, List.foldl_nil, Act.put, List.setIfInBounds_toArray, List.set_cons_zero, List.set_cons_succ] at hK ⊢
      generalize vs 8 = v8 at f8 hK ⊢
      generalize vs 10 = v10 at f10 hK ⊢
      rw [if_pos (by rfl)]
      subst f10
      clear f8
      go_simp
      refine (HWc.out u).mono ?_
      rintro e w4 ⟨rfl, b4⟩
      exact hK.out _ _ b4 rfl
    case s12 =>
      refine StepF.of rfl [(2, some 16), (5, some 19), (8, some 22), (11, some 25)] (by kernel_rfl) ?_
      intro vs u hB hf K hK
      have f2 : (fun v u => v = .string d1) (vs 2) u := hf.1
      have f5 : (fun v u => v = .string d2) (vs 5) u := hf.2.1
      have f8 : (fun v u => v = .string yp) (vs 8) u := hf.2.2.1
      have f11 : (fun v u => v = .string yc) (vs 11) u := hf.2.2.2.1
      clear hf
      simp only [putsA, List.foldl_cons, List.foldl_nil, Act.put, List.setIfInBounds_toArray, List.set_cons_zero, List.set_cons_succ] at hK ⊢
      generalize vs 2 = v2 at f2 hK ⊢
      generalize vs 5 = v5 at f5 hK ⊢
      generalize vs 8 = v8 at f8 hK ⊢
      generalize vs 11 = v11 at f11 hK ⊢
      rw [if_pos (by rfl)]
      subst f2
      subst f5
      subst f8
      subst f11
      go_simp
      refine hK.out _ _ ((Below.refl _ _).alloc (Nat.le_refl _) _) ?_
      exact ⟨_, rfl, by simp, six_at u _ _ _ _ _ _ _⟩
    case s13 =>
      refine StepF.of rfl [(11, some 25), (12, some 26)] (by kernel_rfl) ?_
      intro vs u hB hf K hK
      have f11 : (fun v u => v = .string yc) (vs 11) u := hf.1
      have f12 : (fun v u => ∃ g, v = .slice (some ⟨g, 0, none⟩) 6 6 ∧ g < u.heap.size ∧ ∀ (j : Nat) x, ([⟨#[115, 101, 103]⟩, d1, ⟨#[116, 97, 98, 108, 101]⟩, d2, yp, yc] : List ByteArray)[j]? = some x → u.cell? ⟨g, 0 + j, none⟩ = some (.string x)) (vs 12) u := hf.2.1
      clear hf
      simp only [putsA, List.foldl_cons, List.foldl_nil, Act.put, List.setIfInBounds_toArray, List.set_cons_zero, List.set_cons_succ] at hK ⊢
      generalize vs 11 = v11 at f11 hK ⊢
      generalize vs 12 = v12 at f12 hK ⊢
      rw [if_pos (by rfl)]
      clear f11
      obtain ⟨g, rfl, hg, hx⟩ := f12
      go_simp
      refine (HJ.out u g hg hx).mono ?_
      rintro e w4 ⟨rfl, b4⟩
      exact hK.out _ _ b4 rfl
    case s14 =>
      refine StepF.of rfl [(13, some 27)] (by kernel_rfl) ?_
      intro vs u hB hf K hK
      have f13 : (fun v u => v = .string yz) (vs 13) u := hf.1
      clear hf
      simp only [putsA, List.foldl_cons, List.foldl_nil, Act.put, List.setIfInBounds_toArray, List.set_cons_zero, List.set_cons_succ] at hK ⊢
      generalize vs 13 = v13 at f13 hK ⊢
      rw [if_pos (by rfl)]
      subst f13
      go_simp
      exact hK.out _ _ (Below.refl _ _) rfl
    case last =>
      intro vs u hB hf K hK
      have f0 : (fun v u => v = Z) (vs 0) u := hf.1
      have f1 : (fun v u => v = .int .i64 s) (vs 1) u := hf.2.1
      have f2 : (fun v u => v = .string d1) (vs 2) u := hf.2.2.1
      have f3 : (fun v u => v = Z) (vs 3) u := hf.2.2.2.1
      have f4 : (fun v u => v = .int .i64 t) (vs 4) u := hf.2.2.2.2.1
      have f5 : (fun v u => v = .string d2) (vs 5) u := hf.2.2.2.2.2.1
      have f6 : (fun v u => v = .pointer (some ⟨w.heap.size, 2, none⟩)) (vs 6) u := hf.2.2.2.2.2.2.1
      have f7 : (fun v u => v = .bool p) (vs 7) u := hf.2.2.2.2.2.2.2.1
      have f8 : (fun v u => v = .string yp) (vs 8) u := hf.2.2.2.2.2.2.2.2.1
      have f9 : (fun v u => v = .pointer (some ⟨w.heap.size, 3, none⟩)) (vs 9) u := hf.2.2.2.2.2.2.2.2.2.1
      have f10 : (fun v u => v = .bool c) (vs 10) u := hf.2.2.2.2.2.2.2.2.2.2.1
      have f11 : (fun v u => v = .string yc) (vs 11) u := hf.2.2.2.2.2.2.2.2.2.2.2.1
      have f12 : (fun v u => ∃ g, v = .slice (some ⟨g, 0, none⟩) 6 6 ∧ g < u.heap.size ∧ ∀ (j : Nat) x, ([⟨#[115, 101, 103]⟩, d1, ⟨#[116, 97, 98, 108, 101]⟩, d2, yp, yc] : List ByteArray)[j]? = some x → u.cell? ⟨g, 0 + j, none⟩ = some (.string x)) (vs 12) u := hf.2.2.2.2.2.2.2.2.2.2.2.2.1
      have f13 : (fun v u => v = .string yz) (vs 13) u := hf.2.2.2.2.2.2.2.2.2.2.2.2.2.1
      have f14 : (fun v u => v = .agg #[.int .i64 0, .string yz]) (vs 14) u := hf.2.2.2.2.2.2.2.2.2.2.2.2.2.2.1
      clear hf
      simp only [putsA, List.foldl_cons, List.foldl_nil, Act.put, List.setIfInBounds_toArray, List.set_cons_zero, List.set_cons_succ]
      generalize vs 0 = v0 at f0 ⊢
      generalize vs 1 = v1 at f1 ⊢
      generalize vs 2 = v2 at f2 ⊢
      generalize vs 3 = v3 at f3 ⊢
      generalize vs 4 = v4 at f4 ⊢
      generalize vs 5 = v5 at f5 ⊢
      generalize vs 6 = v6 at f6 ⊢
      generalize vs 7 = v7 at f7 ⊢
      generalize vs 8 = v8 at f8 ⊢
      generalize vs 9 = v9 at f9 ⊢
      generalize vs 10 = v10 at f10 ⊢
      generalize vs 11 = v11 at f11 ⊢
      generalize vs 12 = v12 at f12 ⊢
      generalize vs 13 = v13 at f13 ⊢
      generalize vs 14 = v14 at f14 ⊢
      rw [if_pos (by rfl)]
      subst f14
      clear f0 f1 f2 f3 f4 f5 f6 f7 f8 f9 f10 f11 f12 f13
      obtain ⟨-, -, c2, c3, cf, cl⟩ := HC.out u hB
      have HB1 : Hid (Below w.heap.size w u) := HBw.out u hB
      go_simp
      refine hK.out _ _ ?_
      clear hB hK HSz HFs HTz HFt HWp HWc HJ
      go_wp2
      refine bodyPost_ret (v := .agg #[.int .i64 0, .string yz]) (by simp [results, Tryz.results11, go_sem, c2, c3]) rfl ⟨by rw [← HYZ.out], ?_⟩
      repeat (first | exact HB1.out | refine Below.setCell ?_ (by simp) _)
end Go.Proofs.YtebnonpdaddniaaGreatDoor
