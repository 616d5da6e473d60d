/-
  The model's l1Digits answers the decimal text of a number within the bounds, whatever the world; nothing that was there is turned.
-/
import Derived.Test.YtebnonpdaddniaaGreatDoorSpecNum2
import Derived.WalkLawsBesides
import Derived.Laws.IdiomStrings
import Derived.Deep.RegionWith
import Derived.BigRegion
namespace Go.Proofs.YtebnonpdaddniaaGreatDoor
open Go.RowKit Go.Extern.Stop Go.Stop Go.Extern Num Go.Lib

/-- A string of these bytes. -/
abbrev S (l : List UInt8) : Value := .string ⟨l.toArray⟩
/-- The byte of a digit. -/
def digB (d : Nat) : UInt8 := UInt8.ofNat (48 + d)
/-- 'string([]byte{x})'. -/
theorem conv_one (d : Nat) (hd : d < 10) (W : World) (b : Nat) (x : Int) (hx : x = 48 + (d : Int)) (hc : W.cell? ⟨b, 0, none⟩ = some (.int .u8 x)) :
    (convert 22 9 (.slice (some ⟨b, 0, none⟩) 1 1)).run Tryz.prog W = .ok (S [digB d]) W := by
  have := run_convert_bytes_back (P := Tryz.prog) W 22 9 5 ⟨b, 0, none⟩ 1 [digB d] Tryz.underlying22 Tryz.underlying5 Tryz.underlying9 (by
    intro j hj
    have hj0 : j = 0 := by simpa using hj
    subst hj0
    have e : (digB d).toNat = 48 + d := by unfold digB; simp [UInt8.toNat_ofNat']; omega
    simp only [List.getElem_cons_zero, e]
    show W.cell? ⟨b, 0, none⟩ = _
    rw [hc, hx]; simp)
  simpa using this
theorem ret_str {a b : List UInt8} (h : a = b) : Ending.returned (S a) = .returned (S b) := by rw [h]

set_option maxRecDepth 100000 in
theorem dig_small (n : Int) (w : World) (h0 : 0 ≤ n) (h1 : n < 10) :
    Calls Tryz.prog 79 #[.int .i64 n] w fun e w' => e = .returned (S (decDigits n.toNat)) ∧ Below w.heap.size w w' := by
  have hcv := fun W b => conv_one n.toNat (by omega) W b (48 + n) (by omega)
  go_enter Tryz.func79, Tryz.ntmps79
  go_wp2
  go_ret
  exact ⟨ret_str (decDigits_one (i := n.toNat) (by omega)).symm, (Below.refl _ _).alloc (Nat.le_refl _) _⟩

theorem add_dig (u d : Nat) (hu : u ≤ 1000000000) (w : World) : (Op.stringOp .add ⟨(decDigits u).toArray⟩ ⟨[digB d].toArray⟩).run Tryz.prog w = .ok (S (decDigits u ++ [digB d])) w := by
  have h : (decDigits u).length ≤ 10 := by rw [decDigits_length]; exact nDigits_le_of_lt u 9 (by omega)
  exact run_string_add_lists w _ _ (by omega) (by simp)
theorem add_min (u : Nat) (hu : u ≤ 1000000000) (w : World) : (Op.stringOp .add ⟨#[45]⟩ ⟨(decDigits u).toArray⟩).run Tryz.prog w = .ok (S (45 :: decDigits u)) w := by
  have h : (decDigits u).length ≤ 10 := by rw [decDigits_length]; exact nDigits_le_of_lt u 9 (by omega)
  exact run_string_add_lists w [45] _ (by simp) (by omega)
theorem dig_step (u q r : Nat) (hu : ¬ u < 10) (hq : q = u / 10) (hr : r = u % 10) : decDigits q ++ [digB r] = decDigits u := by
  subst hq; subst hr
  conv => rhs; rw [decDigits, dif_neg hu]
  rfl
theorem wrapDig (n : Int) (h : 0 ≤ n) : IntKind.u8.wrap (IntKind.i64.wrap (48 + n.tmod 10)) = 48 + ((n % 10).toNat : Int) := by
  rw [Int.tmod_eq_emod_of_nonneg h, IntKind.wrap_i64]
  have e : (48 + n % 10 + 9223372036854775808) % 18446744073709551616 - 9223372036854775808 = 48 + n % 10 := by omega
  rw [e, IntKind.wrap_u8]
  omega
theorem wrapDiv (n : Int) (h : 0 ≤ n) (h1 : n ≤ 1000000000) : IntKind.i64.wrap (n.tdiv 10) = n / 10 := by
  rw [Int.tdiv_eq_ediv_of_nonneg h, IntKind.wrap_i64]
  omega
set_option maxRecDepth 100000 in
set_option maxHeartbeats 1000000 in
theorem dig_big (n : Int) (w : World) (h0 : 10 ≤ n) (h1 : n ≤ 1000000000)
    (ih : ∀ w, Calls Tryz.prog 79 #[.int .i64 (n / 10)] w fun e w' => e = .returned (S (decDigits (n / 10).toNat)) ∧ Below w.heap.size w w') :
    Calls Tryz.prog 79 #[.int .i64 n] w fun e w' => e = .returned (S (decDigits n.toNat)) ∧ Below w.heap.size w w' := by
  have hcv := fun W b => conv_one (n % 10).toNat (by omega) W b (IntKind.u8.wrap (IntKind.i64.wrap (48 + n.tmod 10))) (wrapDig n (by omega))
  have IH : Hid (∀ w, Calls Tryz.prog 79 #[.int .i64 (n / 10)] w fun e w' => e = .returned (S (decDigits (n / 10).toNat)) ∧ Below w.heap.size w w') := ih
  clear ih
  have hsa := fun (w : World) => add_dig (n / 10).toNat (n % 10).toNat (by omega) w
  have HD : Hid (IntKind.i64.wrap (n.tdiv 10) = n / 10) := wrapDiv n (by omega) h1
  go_enter Tryz.func79, Tryz.ntmps79
  go_wp2_with fail
  go_region_with (go_at_call 79; rw [HD.out]; refine (IH.out _).mono ?_; rintro e w1 ⟨rfl, hq⟩; obtain ⟨hc, hf⟩ := bcell hq)
  all_goals
    go_wp2
    go_ret
    refine ⟨ret_str (dig_step n.toNat _ _ (by omega) (by omega) (by omega)), ?_⟩
    repeat (first | exact Below.refl _ _ | refine Below.drew ?_ | refine Below.alloc ?_ (by first | exact Nat.le_refl _ | (have := hq.size; simp at this ⊢; omega)) _ | refine Below.trans ?_ (hq.mono (by simp)))

theorem dig_nat (u : Nat) : ∀ w, u ≤ 1000000000 → Calls Tryz.prog 79 #[.int .i64 (u : Int)] w fun e w' => e = .returned (S (decDigits u)) ∧ Below w.heap.size w w' := by
  induction u using Nat.strongRecOn with
  | _ u ih =>
    intro w hu
    by_cases h : u < 10
    · exact dig_small (u : Int) w (by omega) (by omega)
    · refine dig_big (u : Int) w (by omega) (by omega) (fun w => ?_)
      have := ih (u / 10) (by omega) w (by omega)
      exact this
set_option maxRecDepth 100000 in
theorem dig_neg (n : Int) (w : World) (h0 : n < 0) (h1 : -1000000000 ≤ n) :
    Calls Tryz.prog 79 #[.int .i64 n] w fun e w' => e = .returned (S (45 :: decDigits n.natAbs)) ∧ Below w.heap.size w w' := by
  have IH : Hid (∀ w, Calls Tryz.prog 79 #[.int .i64 (-n)] w fun e w' => e = .returned (S (decDigits n.natAbs)) ∧ Below w.heap.size w w') := fun w => by
    have := dig_nat n.natAbs w (by omega)
    rwa [show ((n.natAbs : Nat) : Int) = -n by omega] at this
  have hsa := fun (w : World) => add_min n.natAbs (by omega) w
  go_enter Tryz.func79, Tryz.ntmps79
  go_wp2_with (go_at_call 79; refine (IH.out _).mono ?_; rintro e w1 ⟨rfl, hq⟩)
  go_ret
  exact ⟨rfl, hq⟩
theorem l1Digits_any (n : Int) (w : World) (h : inB n = true) :
    Calls Tryz.prog 79 #[.int .i64 n] w fun e w' => e = .returned (S (itoa n)) ∧ Below w.heap.size w w' := by
  rw [inB_iff] at h
  by_cases hn : n < 0
  · have e : itoa n = 45 :: decDigits n.natAbs := by unfold itoa; rw [if_pos hn]
    rw [e]; exact dig_neg n w hn h.1
  · have e : itoa n = decDigits n.toNat := by unfold itoa; rw [if_neg hn]
    have := dig_nat n.toNat w (by omega)
    rw [e]
    rwa [show ((n.toNat : Nat) : Int) = n by omega] at this
end Go.Proofs.YtebnonpdaddniaaGreatDoor
