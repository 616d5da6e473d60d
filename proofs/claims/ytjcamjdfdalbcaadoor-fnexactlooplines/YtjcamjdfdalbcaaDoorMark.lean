/-
  The laws' markText: the text of a number that marks a place; nothing that was there is turned.
-/
import Derived.Test.YtjcamjdfdalbcaaDoorDigits
namespace Go.Proofs.YtjcamjdfdalbcaaDoor
open Go.RowKit Go.Extern.Stop Go.Stop Go.Extern Num Go.Lib

theorem add_cons (d : Nat) (o : List UInt8) (ho : o.length ≤ 1000) (w : World) : (Op.stringOp .add ⟨[digB d].toArray⟩ ⟨o.toArray⟩).run Tryd.prog w = .ok (S (digB d :: o)) w :=
  run_string_add_lists w [digB d] o (by simp) (by omega)
theorem add_m (o : List UInt8) (ho : o.length ≤ 1000) (w : World) : (Op.stringOp .add ⟨#[109]⟩ ⟨o.toArray⟩).run Tryd.prog w = .ok (S (109 :: o)) w :=
  run_string_add_lists w [109] o (by simp) (by omega)
theorem mark_len {k m : Nat} {o : List UInt8} (hk : k ≤ 4800000000000000000) (he : (if m = 0 then o else decDigits m ++ o) = decDigits k) : o.length ≤ 19 := by
  have h : (decDigits k).length ≤ 19 := by rw [decDigits_length]; exact nDigits_le_of_lt k 18 (by omega)
  rw [← he] at h
  split at h
  · exact h
  · rw [List.length_append] at h; omega
theorem mark_step {k m : Nat} {o : List UInt8} (h0 : ¬ m = 0) (he : (if m = 0 then o else decDigits m ++ o) = decDigits k) : (if m / 10 = 0 then digB (m % 10) :: o else decDigits (m / 10) ++ (digB (m % 10) :: o)) = decDigits k := by
  rw [if_neg h0] at he
  rw [← he]
  by_cases h : m < 10
  · rw [if_pos (by omega), decDigits_one h, Nat.mod_eq_of_lt h]; rfl
  · rw [if_neg (by omega), ← dig_step m (m / 10) (m % 10) h rfl rfl]; simp
set_option maxRecDepth 100000 in
theorem markText_any (k : Nat) (w : World) (hk : 1 ≤ k) (hk2 : k ≤ 4800000000000000000) :
    Calls Tryd.prog 24 #[.int .i64 (k : Int)] w fun e w' => e = .returned (S (109 :: decDigits k)) ∧ Below w.heap.size w w' := by
  go_enter Tryd.func24, Tryd.ntmps24
  go_wp2_with fail
  go_loopw [0, 3] (fun n v wr => ∃ (m : Nat) (o : List UInt8), n = .int .i64 (m : Int) ∧ v = S o ∧ m ≤ k ∧ (if m = 0 then o else decDigits m ++ o) = decDigits k ∧ Below w.heap.size w wr) (fun n _ _ => (RowKit.intOf n).toNat)
  case atStart => exact ⟨k, [], rfl, rfl, Nat.le_refl _, by rw [if_neg (by omega)]; simp, Below.refl _ _⟩
  case round =>
    obtain ⟨m, o, rfl, rfl, hm, he, hb⟩ := hrel
    have hl := mark_len hk2 he
    have HE : Hid ((if m = 0 then o else decDigits m ++ o) = decDigits k) := he
    have HB : Hid (Below w.heap.size w wr) := hb
    clear he hb
    by_cases h0 : m = 0
    · subst h0
      have HO : Hid (o = decDigits k) := HE.out
      have hsa := fun (w : World) => add_m o (by omega) w
      go_wp2
      go_ret
      exact ⟨by rw [← HO.out]; rfl, HB.out⟩
    · have hcv := fun W b => conv_one (m % 10) (by omega) W b
      have hsa := fun (w : World) => add_cons (m % 10) o (by omega) w
      go_wp2
      exact ⟨⟨m / 10, _, by go_num, rfl, by omega, mark_step h0 HE.out, HB.out.alloc HB.out.size _⟩, by simp [RowKit.intOf]; omega⟩
end Go.Proofs.YtjcamjdfdalbcaaDoor
