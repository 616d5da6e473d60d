/-
  A setting's fault: the program's settingOf and ConfigFault, the model's; nothing that was there is turned.
-/
import Derived.Test.YtebnonpdaddniaaGreatDoorConfOr
import Derived.Test.YtebnonpdaddniaaGreatDoorLawTb
import Derived.Test.YtebnonpdaddniaaGreatDoorFacts
import Derived.WalkLawsBesides
namespace Go.Proofs.YtebnonpdaddniaaGreatDoor
open Go.RowKit Go.Extern.Stop Go.Stop Go.Extern Num Go.Lib

def sizeB (size : Int) : Bool := decide (1 ≤ size) && decide (size ≤ 64)
/-- Whether a setting has no fault; its fault. -/
def okS (s t : Int) : Bool := sizeB s && (decide (0 ≤ t) && decide (t ≤ 15))
def cfF (s t : Int) : Int := if okS s t then 0 else 3
theorem cfF_or (s t : Int) : orL [if sizeB s then 0 else 3, tabF t] = cfF s t := by
  rw [orL_two]
  unfold cfF okS
  cases sizeB s with
  | false => rfl
  | true =>
    rw [if_pos rfl, if_pos rfl]
    unfold tabF
    by_cases h : t < 0 ∨ 15 < t
    · rw [if_pos h, if_neg]; simp; omega
    · rw [if_neg h, if_pos]; simp; omega
abbrev cfV (s t : Int) (p c : Bool) : Value := .agg #[.int .i64 s, .int .i64 t, .bool p, .bool c]
/-- What a setting is in the program. -/
def seV (s t : Int) : Value := if okS s t then .complex .f64 (floatOfInt .f64 s) (floatOfInt .f64 t) else .complex .f64 0 0
theorem l12SizeC_any (n : Int) (w : World) :
    Calls Tryz.prog 89 #[.int .i64 n] w fun e w' => e = .returned (.bool (sizeB n)) ∧ w' = w := by
  unfold sizeB
  go_enter Tryz.func89, Tryz.ntmps89
  go_wp2_with (go_at_call 98; refine (l1InT_any _ _ _ _).mono ?_; rintro e w' ⟨rfl, rfl⟩)
  go_ret
  exact ⟨rfl, rfl⟩
theorem l13Fault_any (b : Nat) (s t : Int) (w : World) (c0 : w.cell? ⟨b, 0, none⟩ = some (.int .i64 s)) (c1 : w.cell? ⟨b, 1, none⟩ = some (.int .i64 t)) :
    Calls Tryz.prog 53 #[.pointer (some ⟨b, 0, none⟩)] w fun e w' => e = .returned (.int .i64 (cfF s t)) ∧ w' = w := by
  have HS : Hid (∀ u, Calls Tryz.prog 89 #[.int .i64 s] u fun e w' => e = .returned (.bool (sizeB s)) ∧ w' = u) := fun u => l12SizeC_any s u
  have HT : Hid (∀ u, Calls Tryz.prog 90 #[.int .i64 t] u fun e w' => e = .returned (.bool (decide (0 ≤ t) && decide (t ≤ 15))) ∧ w' = u) := fun u => l11Table_any t u
  have HF : Hid (cfF s t = if sizeB s && (decide (0 ≤ t) && decide (t ≤ 15)) then 0 else 3) := rfl
  generalize cfF s t = F at HF
  generalize (decide (0 ≤ t) && decide (t ≤ 15)) = y at HT HF
  generalize sizeB s = x at HS HF
  cases x with
  | false =>
    have HF' : Hid (F = 3) := HF.out
    clear HF
    go_enter Tryz.func53, Tryz.ntmps53
    go_wp2_with fail
    refine (HS.out _).mono ?_
    rintro e w2 ⟨rfl, e2⟩
    replace e2 := e2.symm
    subst e2
    go_wp2
    go_ret
    exact ⟨by rw [HF'.out]; rfl, rfl⟩
  | true =>
    cases y with
    | false =>
      have HF' : Hid (F = 3) := HF.out
      clear HF
      go_enter Tryz.func53, Tryz.ntmps53
      go_wp2_with fail
      refine (HS.out _).mono ?_
      rintro e w2 ⟨rfl, e2⟩
      replace e2 := e2.symm
      subst e2
      go_wp2_with fail
      refine (HT.out _).mono ?_
      rintro e w2 ⟨rfl, e2⟩
      replace e2 := e2.symm
      subst e2
      go_wp2
      go_ret
      exact ⟨by rw [HF'.out]; rfl, rfl⟩
    | true =>
      have HF' : Hid (F = 0) := HF.out
      clear HF
      go_enter Tryz.func53, Tryz.ntmps53
      go_wp2_with fail
      refine (HS.out _).mono ?_
      rintro e w2 ⟨rfl, e2⟩
      replace e2 := e2.symm
      subst e2
      go_wp2_with fail
      refine (HT.out _).mono ?_
      rintro e w2 ⟨rfl, e2⟩
      replace e2 := e2.symm
      subst e2
      go_wp2
      go_ret
      exact ⟨by rw [HF'.out]; rfl, rfl⟩
theorem boxC (w : World) (s t : Int) (p c : Bool) (T : TypeId) : (w.alloc (.cells #[.int .i64 s, .int .i64 t, .bool p, .bool c] T)).cell? ⟨w.heap.size, 0, none⟩ = some (.int .i64 s) ∧ (w.alloc (.cells #[.int .i64 s, .int .i64 t, .bool p, .bool c] T)).cell? ⟨w.heap.size, 1, none⟩ = some (.int .i64 t) := by
  constructor <;> (rw [World.cell?_alloc_at _ _ _ _ rfl]; rfl)
theorem sizeFault_any (n : Int) (w : World) :
    Calls Tryz.prog 83 #[.int .i64 n] w fun e w' => e = .returned (.int .i64 (if sizeB n then 0 else 3)) ∧ w' = w := by
  obtain ⟨R, hR⟩ : ∃ R : Int, R = if sizeB n then 0 else 3 := ⟨_, rfl⟩
  have HR : Hid (R = if sizeB n then 0 else 3) := hR
  rw [← hR]
  clear hR
  by_cases h1 : n < 1
  · have HE : Hid (R = 3) := by show R = 3; rw [HR.out, if_neg]; unfold sizeB; simp; omega
    clear HR
    go_enter Tryz.func83, Tryz.ntmps83
    go_wp2
    go_ret
    exact ⟨by rw [HE.out]; rfl, rfl⟩
  by_cases h2 : 64 < n
  · have HE : Hid (R = 3) := by show R = 3; rw [HR.out, if_neg]; unfold sizeB; simp; omega
    clear HR
    go_enter Tryz.func83, Tryz.ntmps83
    go_wp2
    go_ret
    exact ⟨by rw [HE.out]; rfl, rfl⟩
  · have HE : Hid (R = 0) := by show R = 0; rw [HR.out, if_pos]; unfold sizeB; simp; omega
    clear HR
    go_enter Tryz.func83, Tryz.ntmps83
    go_wp2
    go_ret
    exact ⟨by rw [HE.out]; rfl, rfl⟩
set_option maxRecDepth 100000 in
set_option maxHeartbeats 1500000 in
theorem settingOf_any (s t : Int) (p c : Bool) (w : World) :
    Calls Tryz.prog 46 #[cfV s t p c] w fun e w' => e = .returned (.tuple #[seV s t, .int .i64 (cfF s t)]) ∧ Below w.heap.size w w' := by
  obtain ⟨W, hW⟩ : ∃ W, W = w.alloc (.cells #[.int .i64 s, .int .i64 t, .bool p, .bool c] 26) := ⟨_, rfl⟩
  have HW : Hid (W = w.alloc (.cells #[.int .i64 s, .int .i64 t, .bool p, .bool c] 26)) := hW
  have hb0 : Below w.heap.size w W := by rw [hW]; exact bnewC _ _
  have hc0 : W.cell? ⟨w.heap.size, 0, none⟩ = some (.int .i64 s) ∧ W.cell? ⟨w.heap.size, 1, none⟩ = some (.int .i64 t) := by rw [hW]; exact boxC _ _ _ _ _ _
  have HC : Hid (∀ u, Below W.heap.size W u → u.cell? ⟨w.heap.size, 0, none⟩ = some (.int .i64 s) ∧ u.cell? ⟨w.heap.size, 1, none⟩ = some (.int .i64 t)) := fun u hu => ⟨cell_keep hu hc0.1, cell_keep hu hc0.2⟩
  have HBw : Hid (∀ u, Below W.heap.size W u → Below w.heap.size w u) := fun u hu => hb0.trans (hu.mono hb0.size)
  have HS : Hid (∀ u, Calls Tryz.prog 83 #[.int .i64 s] u fun e w' => e = .returned (.int .i64 (if sizeB s then 0 else 3)) ∧ w' = u) := fun u => sizeFault_any s u
  have HT : Hid (∀ u, Calls Tryz.prog 84 #[.int .i64 t] u fun e w' => e = .returned (.int .i64 (tabF t)) ∧ w' = u) := fun u => implTb_any t u
  have HOr : Hid (∀ (u : World) (x : Value), SeeI u x [if sizeB s then 0 else 3, tabF t] → Calls Tryz.prog 82 #[x] u fun e w' => e = .returned (.int .i64 (cfF s t)) ∧ Below u.heap.size u w') := fun u x hx => (orI_any x _ u (by simp) hx).mono fun e w' ⟨h1, h2⟩ => ⟨by rw [← cfF_or]; exact h1, by rw [h2]; exact Below.refl _ _⟩
  obtain ⟨Z, hZ⟩ : ∃ Z, Z = seV s t := ⟨_, rfl⟩
  obtain ⟨F, hF⟩ : ∃ F, F = cfF s t := ⟨_, rfl⟩
  have HZF : Hid ((okS s t = true → Z = .complex .f64 (floatOfInt .f64 s) (floatOfInt .f64 t) ∧ F = 0) ∧ (okS s t = false → Z = .complex .f64 0 0 ∧ F = 3)) := by
    constructor <;> (intro h; rw [hZ, hF]; unfold seV cfF; rw [h]; exact ⟨rfl, rfl⟩)
  rw [← hF] at HOr
  rw [← hZ, ← hF]
  clear hW hb0 hc0 hZ hF
  go_enter Tryz.func46, Tryz.ntmps46
  go_wp2_with fail
  rw [← HW.out]
  clear HW
  refine wp_region_facts (by kernel_rfl) 8 (fun v => Below W.heap.size W v) (fun u v => Below u.heap.size u v) (fun i v u => match i with | 0 => (fun v u => v = .pointer (some ⟨w.heap.size, 0, none⟩)) v u | 1 => (fun v u => v = .int .i64 (s)) v u | 2 => (fun v u => v = .int .i64 (if sizeB s then 0 else 3)) v u | 3 => (fun v u => v = .pointer (some ⟨w.heap.size, 1, none⟩)) v u | 4 => (fun v u => v = .int .i64 (t)) v u | 5 => (fun v u => v = .int .i64 (tabF t)) v u | 6 => (fun v u => SeeI u v [if sizeB s then 0 else 3, tabF t]) v u | 7 => (fun v u => v = .int .i64 (F)) v u | _ => True) (by kernel_rfl) [0, 1, 2, 3, 4, 5, 6, 7] (by kernel_rfl) ?b0 ?bk ?fk ⟨?s0, ?s1, ?s2, ?s3, ?s4, ?s5, ?s6, ?s7, trivial⟩ _ rfl [(0, some 5), (1, some 6), (2, some 7), (3, some 8), (4, some 9), (5, some 10), (6, some 11), (7, some 12)] (by kernel_rfl) ?last
  case b0 => exact Below.drew (Below.refl _ _)
  case bk => exact fun u v h hb => h.trans (hb.mono h.size)
  case fk => intro i v u u' h hb; match i, h with | 0, h => exact (h) | 1, h => exact (h) | 2, h => exact (h) | 3, h => exact (h) | 4, h => exact (h) | 5, h => exact (h) | 6, h => exact (h.below hb) | 7, h => exact (h) | _ + 8, _ => exact trivial
  case s0 =>
    refine StepF.of rfl [] (by kernel_rfl) ?_
    intro vs u hB hf K hK
    clear hf
    simp only [putsA, List.foldl_nil, Act.put, List.setIfInBounds_toArray] at hK ⊢
    rw [if_pos (by rfl)]
    go_simp
    exact hK.out _ _ (Below.refl _ _) rfl
  case s1 =>
    refine StepF.of rfl [(0, some 5)] (by kernel_rfl) ?_
    intro vs u hB hf K hK
    have f0 : (fun v u => v = .pointer (some ⟨w.heap.size, 0, none⟩)) (vs 0) u := hf.1
    clear hf
    simp only [putsA, List.foldl_cons, List.foldl_nil, Act.put, List.setIfInBounds_toArray, List.set_cons_zero, List.set_cons_succ] at hK ⊢
    generalize vs 0 = v0 at f0 hK ⊢
    rw [if_pos (by rfl)]
    subst f0
    have c0 := (HC.out u hB).1
    go_simp
    exact hK.out _ _ (Below.refl _ _) rfl
  case s2 =>
    refine StepF.of rfl [(1, some 6)] (by kernel_rfl) ?_
    intro vs u hB hf K hK
    have f1 : (fun v u => v = .int .i64 (s)) (vs 1) u := hf.1
    clear hf
    simp only [putsA, List.foldl_cons, List.foldl_nil, Act.put, List.setIfInBounds_toArray, List.set_cons_zero, List.set_cons_succ] at hK ⊢
    generalize vs 1 = v1 at f1 hK ⊢
    rw [if_pos (by rfl)]
    subst f1
    go_simp
    refine (HS.out u).mono ?_
    rintro e w4 ⟨rfl, e4⟩
    replace e4 := e4.symm
    subst e4
    exact hK.out _ _ (Below.refl _ _) rfl
  case s3 =>
    refine StepF.of rfl [] (by kernel_rfl) ?_
    intro vs u hB hf K hK
    clear hf
    simp only [putsA, List.foldl_nil, Act.put, List.setIfInBounds_toArray] at hK ⊢
    rw [if_pos (by rfl)]
    go_simp
    exact hK.out _ _ (Below.refl _ _) rfl
  case s4 =>
    refine StepF.of rfl [(3, some 8)] (by kernel_rfl) ?_
    intro vs u hB hf K hK
    have f3 : (fun v u => v = .pointer (some ⟨w.heap.size, 1, none⟩)) (vs 3) u := hf.1
    clear hf
    simp only [putsA, List.foldl_cons, List.foldl_nil, Act.put, List.setIfInBounds_toArray, List.set_cons_zero, List.set_cons_succ] at hK ⊢
    generalize vs 3 = v3 at f3 hK ⊢
    rw [if_pos (by rfl)]
    subst f3
    have c0 := (HC.out u hB).2
    go_simp
    exact hK.out _ _ (Below.refl _ _) rfl
  case s5 =>
    refine StepF.of rfl [(2, some 7), (4, some 9)] (by kernel_rfl) ?_
    intro vs u hB hf K hK
    have f2 : (fun v u => v = .int .i64 (if sizeB s then 0 else 3)) (vs 2) u := hf.1
    have f4 : (fun v u => v = .int .i64 (t)) (vs 4) u := hf.2.1
    clear hf
    simp only [putsA, List.foldl_cons, List.foldl_nil, Act.put, List.setIfInBounds_toArray, List.set_cons_zero, List.set_cons_succ] at hK ⊢
    generalize vs 2 = v2 at f2 hK ⊢
    generalize vs 4 = v4 at f4 hK ⊢
    rw [if_pos (by rfl)]
    subst f4
    clear f2
    go_simp
    refine (HT.out u).mono ?_
    rintro e w4 ⟨rfl, e4⟩
    replace e4 := e4.symm
    subst e4
    exact hK.out _ _ (Below.refl _ _) rfl
  case s6 =>
    refine StepF.of rfl [(2, some 7), (5, some 10)] (by kernel_rfl) ?_
    intro vs u hB hf K hK
    have f2 : (fun v u => v = .int .i64 (if sizeB s then 0 else 3)) (vs 2) u := hf.1
    have f5 : (fun v u => v = .int .i64 (tabF t)) (vs 5) u := hf.2.1
    clear hf
    simp only [putsA, List.foldl_cons, List.foldl_nil, Act.put, List.setIfInBounds_toArray, List.set_cons_zero, List.set_cons_succ] at hK ⊢
    generalize vs 2 = v2 at f2 hK ⊢
    generalize vs 5 = v5 at f5 hK ⊢
    rw [if_pos (by rfl)]
    subst f2
    subst f5
    go_simp
    refine hK.out _ _ ((Below.refl _ _).alloc (Nat.le_refl _) _) ?_
    exact see2 _ _ _ _
  case s7 =>
    refine StepF.of rfl [(5, some 10), (6, some 11)] (by kernel_rfl) ?_
    intro vs u hB hf K hK
    have f5 : (fun v u => v = .int .i64 (tabF t)) (vs 5) u := hf.1
    have f6 : (fun v u => SeeI u v [if sizeB s then 0 else 3, tabF t]) (vs 6) u := hf.2.1
    clear hf
    simp only [putsA, List.foldl_cons, List.foldl_nil, Act.put, List.setIfInBounds_toArray, List.set_cons_zero, List.set_cons_succ] at hK ⊢
    generalize vs 5 = v5 at f5 hK ⊢
    generalize vs 6 = v6 at f6 hK ⊢
    rw [if_pos (by rfl)]
    clear f5
    obtain ⟨ar, cr, rfl, -⟩ := id f6
    go_simp
    refine (HOr.out u _ f6).mono ?_
    rintro e w4 ⟨rfl, b4⟩
    exact hK.out _ _ b4 rfl
  case last =>
    intro vs u hB hf K hK
    have f0 : (fun v u => v = .pointer (some ⟨w.heap.size, 0, none⟩)) (vs 0) u := hf.1
    have f1 : (fun v u => v = .int .i64 (s)) (vs 1) u := hf.2.1
    have f2 : (fun v u => v = .int .i64 (if sizeB s then 0 else 3)) (vs 2) u := hf.2.2.1
    have f3 : (fun v u => v = .pointer (some ⟨w.heap.size, 1, none⟩)) (vs 3) u := hf.2.2.2.1
    have f4 : (fun v u => v = .int .i64 (t)) (vs 4) u := hf.2.2.2.2.1
    have f5 : (fun v u => v = .int .i64 (tabF t)) (vs 5) u := hf.2.2.2.2.2.1
    have f6 : (fun v u => SeeI u v [if sizeB s then 0 else 3, tabF t]) (vs 6) u := hf.2.2.2.2.2.2.1
    have f7 : (fun v u => v = .int .i64 (F)) (vs 7) u := hf.2.2.2.2.2.2.2.1
    clear hf
    simp only [putsA, List.foldl_cons, List.foldl_nil, Act.put, List.setIfInBounds_toArray, List.set_cons_zero, List.set_cons_succ]
    generalize vs 0 = v0 at f0 ⊢
    generalize vs 1 = v1 at f1 ⊢
    generalize vs 2 = v2 at f2 ⊢
    generalize vs 3 = v3 at f3 ⊢
    generalize vs 4 = v4 at f4 ⊢
    generalize vs 5 = v5 at f5 ⊢
    generalize vs 6 = v6 at f6 ⊢
    generalize vs 7 = v7 at f7 ⊢
    rw [if_pos (by rfl)]
    subst f7
    clear f0 f1 f2 f3 f4 f5 f6
    go_simp
    refine hK.out _ _ ?_
    have HB1 : Hid (Below W.heap.size W u) := hB
    clear hB hK HS HT HOr
    obtain ⟨c0, c1⟩ := HC.out u HB1.out
    cases hok : okS s t with
    | true =>
      have HE : Hid (Z = .complex .f64 (floatOfInt .f64 s) (floatOfInt .f64 t) ∧ F = 0) := HZF.out.1 hok
      obtain ⟨_, rfl⟩ := HE.out
      have HBx := HBw.out u HB1.out
      clear hok HB1 HZF
      go_wp2
      exact bodyPost_ret (v := .tuple #[.complex .f64 (floatOfInt .f64 s) (floatOfInt .f64 t), .int .i64 0]) (by simp [results, Tryz.results46, go_sem]) rfl ⟨rfl, HBx⟩
    | false =>
      have HE : Hid (Z = .complex .f64 0 0 ∧ F = 3) := HZF.out.2 hok
      obtain ⟨_, rfl⟩ := HE.out
      have HBx := HBw.out u HB1.out
      clear hok HB1 HZF
      go_wp2
      exact bodyPost_ret (v := .tuple #[.complex .f64 0 0, .int .i64 3]) (by simp [results, Tryz.results46, go_sem]) rfl ⟨rfl, HBx⟩
end Go.Proofs.YtebnonpdaddniaaGreatDoor
