/-
  The program's isSymByte, isSymbol and SymFault answer what the plain functions tell, whatever the world; nothing is turned. The exact law of SymFault answers true at every text.
-/
import Derived.Test.YtimhnljmdcgkhaaDoorSpecSym
import Derived.Test.YtimhnljmdcgkhaaDoorShelfSym
namespace Go.Proofs.YtimhnljmdcgkhaaDoor
open Go.RowKit Go.Extern.Stop Go.Stop Go.Extern Num

theorem indexByte_iff (l : List UInt8) (b : UInt8) : 0 ≤ Lib.indexByte l b ↔ l.any (· == b) = true := by
  induction l with
  | nil => simp [Lib.indexByte]
  | cons a r ih =>
    have hge := Lib.indexByte_ge r b
    have e : Lib.indexByte (a :: r) b = if a == b then 0 else if Lib.indexByte r b == -1 then -1 else Lib.indexByte r b + 1 := rfl
    rw [e, List.any_cons, Bool.or_eq_true, ← ih]
    by_cases h : (a == b) = true
    · rw [if_pos h]; simp [h]
    · rw [if_neg h]
      by_cases h1 : (Lib.indexByte r b == -1) = true
      · rw [if_pos h1]; have := eq_of_beq h1; simp [h, this]
      · rw [if_neg h1]
        have h2 : Lib.indexByte r b ≠ -1 := by simpa using h1
        constructor
        · intro _; exact Or.inr (by omega)
        · intro _; omega
theorem indexByte_any (l : List UInt8) (b : UInt8) : decide (0 ≤ Lib.indexByte l b) = l.any (· == b) := by
  rw [Bool.eq_iff_iff, decide_eq_true_iff]; exact indexByte_iff l b
theorem isSymB_any (b : UInt8) (w : World) :
    Calls Tryd.prog 125 #[.int .u8 b.toNat] w fun e w' => e = .returned (.bool (symB b)) ∧ w' = w := by
  have HI : Hid (∀ w, Calls Tryd.prog 134 #[.string ⟨#[43, 45, 42, 47, 60, 61, 63, 33]⟩, .int .u8 b.toNat] w fun e w' => ∃ i : Int, e = .returned (.int .i64 i) ∧ decide (0 ≤ i) = signs.any (· == b) ∧ w' = w) := fun w => by
    refine (Tryd.strings_IndexByte _ (b.toNat : Int) w).mono ?_
    rintro e w' ⟨rfl, rfl⟩
    refine ⟨_, rfl, ?_, rfl⟩
    have e1 : (b.toNat : Int).toNat.toUInt8 = b := by simp
    rw [e1]; exact indexByte_any _ b
  by_cases h1 : 97 ≤ (b.toNat : Int)
  · by_cases h2 : (b.toNat : Int) ≤ 122
    · have HS : Hid (symB b = true) := by show symB b = true; unfold symB; simp; exact Or.inl ⟨by omega, by omega⟩
      go_enter Tryd.func125, Tryd.ntmps125
      go_wp2
      go_ret
      exact ⟨by rw [HS.out]; rfl, rfl⟩
    · have HS : Hid (symB b = signs.any (· == b)) := by
        show symB b = _
        unfold symB
        have : (decide (97 ≤ b.toNat) && decide (b.toNat ≤ 122)) = false := by simp; omega
        rw [this, Bool.false_or]
      go_enter Tryd.func125, Tryd.ntmps125
      go_wp2_with (go_at_call 134; refine (HI.out _).mono ?_; rintro e w' ⟨i, rfl, hi, rfl⟩; have HJ : Hid (decide (0 ≤ i) = signs.any (· == b)) := hi; clear hi)
      go_ret
      exact ⟨by rw [HS.out, ← HJ.out]; rfl, rfl⟩
  · have HS : Hid (symB b = signs.any (· == b)) := by
      show symB b = _
      unfold symB
      have : (decide (97 ≤ b.toNat) && decide (b.toNat ≤ 122)) = false := by simp; omega
      rw [this, Bool.false_or]
    go_enter Tryd.func125, Tryd.ntmps125
    go_wp2_with (go_at_call 134; refine (HI.out _).mono ?_; rintro e w' ⟨i, rfl, hi, rfl⟩; have HJ : Hid (decide (0 ≤ i) = signs.any (· == b)) := hi; clear hi)
    go_ret
    exact ⟨by rw [HS.out, ← HJ.out]; rfl, rfl⟩
theorem sym_short (s : ByteArray) (h : (s.size : Int) < 1) : symL s.data.toList = false := by
  unfold symL
  have hl : s.data.toList.length = s.size := by rw [Array.length_toList]; rfl
  rw [hl]; simp; intro _ h1; omega
theorem sym_far (s : ByteArray) (h : 12 < (s.size : Int)) : symL s.data.toList = false := by
  unfold symL
  have hl : s.data.toList.length = s.size := by rw [Array.length_toList]; rfl
  rw [hl]; simp; intro _ h1; omega
theorem isSym_any (s : ByteArray) (w : World) (hs : s.size ≤ 9223372036854775807) :
    Calls Tryd.prog 117 #[.string s] w fun e w' => e = .returned (.bool (symL s.data.toList)) ∧ w' = w := by
  by_cases h1 : (s.size : Int) < 1
  · have HS : Hid (symL s.data.toList = false) := sym_short s h1
    go_enter Tryd.func117, Tryd.ntmps117
    go_wp2
    go_ret
    exact ⟨by rw [HS.out]; rfl, rfl⟩
  · by_cases h2 : 12 < (s.size : Int)
    · have HS : Hid (symL s.data.toList = false) := sym_far s h2
      go_enter Tryd.func117, Tryd.ntmps117
      go_wp2
      go_ret
      exact ⟨by rw [HS.out]; rfl, rfl⟩
    · go_enter Tryd.func117, Tryd.ntmps117
      go_wp2_with fail
      go_loop [14] (fun i => ∃ k : Nat, k ≤ s.size ∧ i = .int .i64 k ∧ (s.data.toList.take k).all symB = true) (fun i => s.size - (intOf i).toNat)
      case atStart => exact ⟨0, by omega, rfl, rfl⟩
      case round =>
        obtain ⟨k, hk, rfl, hn⟩ := hrel
        have HN : Hid ((s.data.toList.take k).all symB = true) := hn
        clear hn
        by_cases hlt : k < s.size
        · cases ht : symB (s[k]'hlt)
          · have HT : Hid (symL s.data.toList = false) := not_all s k hlt ht
            go_wp2_with (go_at_call 125; refine (isSymB_any _ _).mono ?_; rintro e w' ⟨rfl, rfl⟩)
            go_ret
            exact ⟨by rw [HT.out]; rfl, rfl⟩
          · have HT : Hid ((s.data.toList.take (k + 1)).all symB = true) := (take_all s k hlt HN.out).trans ht
            go_wp2_with (go_at_call 125; refine (isSymB_any _ _).mono ?_; rintro e w' ⟨rfl, rfl⟩)
            exact ⟨⟨k + 1, by omega, by go_num, HT.out⟩, by simp [intOf]; omega⟩
        · have HA : Hid (symL s.data.toList = true) := by
            have h3 := all_len s (by
              have := HN.out
              rwa [List.take_of_length_le (by rw [Array.length_toList]; show s.size ≤ k; omega)] at this)
            show symL s.data.toList = true
            rw [h3]; simp; omega
          go_wp2
          go_ret
          exact ⟨by rw [HA.out]; rfl, rfl⟩
theorem implSym_any (s : ByteArray) (w : World) (hs : s.size ≤ 9223372036854775807) :
    Calls Tryd.prog 107 #[.string s] w fun e w' => e = .returned (.int .i64 (if symL s.data.toList = true then 0 else 5)) ∧ w' = w := by
  have HS : Hid (∀ w, Calls Tryd.prog 117 #[.string s] w fun e w' => e = .returned (.bool (symL s.data.toList)) ∧ w' = w) := fun w => isSym_any s w hs
  cases h : symL s.data.toList
  all_goals
    go_enter Tryd.func107, Tryd.ntmps107
    go_wp2_with (go_at_call 117; refine (HS.out _).mono ?_; rintro e w' ⟨rfl, rfl⟩)
    go_ret
    exact ⟨by simp, rfl⟩
end Go.Proofs.YtimhnljmdcgkhaaDoor
