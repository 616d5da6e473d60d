/-
  The program's bitsOfName: a name of at most 12 bytes as one number; nothing is turned.
-/
import Derived.Test.YtgfienijabkpjaaDoorImplSym
import Derived.Test.YtgfienijabkpjaaDoorVMath
namespace Go.Proofs.YtgfienijabkpjaaDoor
open Go.RowKit Go.Extern.Stop Go.Stop Go.Extern Num Go.Lib

/-- A value told by a tag and a rest. -/
structure Wd where
  tag : Int
  rest : Int
abbrev Wd.val (x : Wd) : Value := .agg #[.int .u8 x.tag, .int .u64 x.rest]
/-- The least number of a kind. -/
def least (k : Int) : Int := if k = 1 then -1000000000 else 0
/-- How a value is told; of one with a fault: nothing. -/
def wdOf (t : Vlu) : Wd := if vfault t = 0 then ⟨t.kind, if t.kind = 4 then (bitsL t.name.data.toList : Int) else t.num - least t.kind⟩ else ⟨0, 0⟩
theorem symL_facts (s : ByteArray) (h : symL s.data.toList = true) : s.data.toList.all symB = true ∧ 1 ≤ s.size ∧ s.size ≤ 12 := by
  unfold symL at h
  have hl : s.data.toList.length = s.size := by rw [Array.length_toList]; rfl
  rw [hl] at h
  simp only [Bool.and_eq_true, decide_eq_true_eq] at h
  exact ⟨h.1, h.2.1, h.2.2⟩
/-- One byte more. -/
theorem bits_next (s : ByteArray) (k : Nat) (hk : k < s.size) (hs : symL s.data.toList = true) : symB (s[k]'hk) = true ∧ bitsL (s.data.toList.take (k + 1)) = bitsL (s.data.toList.take k) * 35 + dig (s[k]'hk) ∧ bitsL (s.data.toList.take k) ≤ 96549157373046875 := by
  obtain ⟨ha, _, hn⟩ := symL_facts s hs
  have hl : s.data.toList.length = s.size := by rw [Array.length_toList]; rfl
  have e : s.data.toList.take (k + 1) = s.data.toList.take k ++ [s[k]'hk] := by
    rw [List.take_add_one, List.getElem?_eq_getElem (by rw [hl]; exact hk)]; rfl
  have h1 : symB (s[k]'hk) = true := by
    rw [List.all_eq_true] at ha
    exact ha _ (by have : s.data.toList[k]'(by rw [hl]; exact hk) = s[k]'hk := rfl; rw [← this]; exact List.getElem_mem _)
  refine ⟨h1, by rw [e, bitsL_snoc], ?_⟩
  have h2 := bitsL_lt (s.data.toList.take k) (by rw [List.all_eq_true] at ha ⊢; intro x hx; exact ha x (List.mem_of_mem_take hx))
  have h3 : 35 ^ (s.data.toList.take k).length ≤ 35 ^ 11 := Nat.pow_le_pow_right (by omega) (by rw [List.length_take]; omega)
  have h4 : (35 : Nat) ^ 11 = 96549157373046875 := by decide
  omega
theorem bits_any (s : ByteArray) (w : World) (hs : symL s.data.toList = true) :
    Calls Tryd.prog 84 #[.string s] w fun e w' => e = .returned (.int .u64 (bitsL s.data.toList : Int)) ∧ w' = w := by
  have HS : Hid (symL s.data.toList = true) := hs
  have hz : s.size ≤ 12 := (symL_facts s hs).2.2
  have HI : Hid (∀ (b : UInt8) (w : World), symB b = true → Calls Tryd.prog 99 #[.string ⟨#[97, 98, 99, 100, 101, 102, 103, 104, 105, 106, 107, 108, 109, 110, 111, 112, 113, 114, 115, 116, 117, 118, 119, 120, 121, 122, 43, 45, 42, 47, 60, 61, 63, 33]⟩, .int .u8 b.toNat] w fun e w' => e = .returned (.int .i64 (((dig b : Nat) : Int) - 1)) ∧ w' = w) := fun b w hb => by
    refine (Tryd.strings_IndexByte _ (b.toNat : Int) w).mono ?_
    rintro e w' ⟨rfl, rfl⟩
    refine ⟨?_, rfl⟩
    have e1 : (b.toNat : Int).toNat.toUInt8 = b := by simp
    rw [e1, ← (dig_facts b hb).2.2.1]; rfl
  clear hs
  go_enter Tryd.func84, Tryd.ntmps84
  go_wp2_with fail
  go_loop [3, 7] (fun v i => ∃ k V : Nat, k ≤ s.size ∧ i = .int .i64 (k : Int) ∧ v = .int .u64 (V : Int) ∧ Hid (V = bitsL (s.data.toList.take k))) (fun _ i => s.size - (RowKit.intOf i).toNat)
  case atStart => exact ⟨0, 0, by omega, rfl, rfl, rfl⟩
  case round =>
    obtain ⟨k, V, hk, rfl, rfl, HV⟩ := hrel
    by_cases hlt : k < s.size
    · have HN : Hid _ := bits_next s k hlt HS.out
      obtain ⟨D, hD⟩ : ∃ D : Nat, D = dig (s[k]'hlt) := ⟨_, rfl⟩
      have HC : Hid (∀ w, Calls Tryd.prog 99 #[.string ⟨#[97, 98, 99, 100, 101, 102, 103, 104, 105, 106, 107, 108, 109, 110, 111, 112, 113, 114, 115, 116, 117, 118, 119, 120, 121, 122, 43, 45, 42, 47, 60, 61, 63, 33]⟩, .int .u8 (s[k]'hlt).toNat] w fun e w' => e = .returned (.int .i64 ((D : Int) - 1)) ∧ w' = w) := fun w => by rw [hD]; exact HI.out _ w HN.out.1
      have hd1 : 1 ≤ D := by rw [hD]; exact (dig_facts _ HN.out.1).1
      have hd2 : D ≤ 34 := by rw [hD]; exact (dig_facts _ HN.out.1).2.1
      have HX : Hid (V * 35 + D = bitsL (s.data.toList.take (k + 1))) := by show _ = _; rw [HN.out.2.1, ← HV.out, hD]
      have hv : V ≤ 96549157373046875 := by rw [HV.out]; exact HN.out.2.2
      clear hD HN HV
      go_wp2_with (go_at_call 99; refine (HC.out _).mono ?_; rintro e w' ⟨rfl, rfl⟩)
      exact ⟨⟨k + 1, V * 35 + D, by omega, by go_num, by go_num, HX.out⟩, by simp [RowKit.intOf]; omega⟩
    · have HE : Hid ((V : Int) = (bitsL s.data.toList : Int)) := by
        show (V : Int) = _
        rw [HV.out, List.take_of_length_le (by rw [Array.length_toList]; show s.size ≤ k; omega)]
      clear HV
      go_wp2
      go_ret
      exact ⟨by rw [← HE.out]; rfl, rfl⟩
end Go.Proofs.YtgfienijabkpjaaDoor
