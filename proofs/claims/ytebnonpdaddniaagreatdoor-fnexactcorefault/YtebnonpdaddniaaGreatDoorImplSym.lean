/-
  The program's isSymByte, isSymbol and SymFault answer what the plain functions tell, whatever the world; nothing is turned.
-/
import Derived.Test.YtebnonpdaddniaaGreatDoorSymMath
import Derived.Test.YtebnonpdaddniaaGreatDoorShelfSym
namespace Go.Proofs.YtebnonpdaddniaaGreatDoor
open Go.RowKit Go.Extern.Stop Go.Stop Go.Extern Num

theorem isSymB_any (b : UInt8) (w : World) :
    Calls Tryz.prog 211 #[.int .u8 b.toNat] w fun e w' => e = .returned (.bool (symB b)) ∧ w' = w := by
  have HI : Hid (∀ w, Calls Tryz.prog 232 #[.string ⟨#[97, 98, 99, 100, 101, 102, 103, 104, 105, 106, 107, 108, 109, 110, 111, 112, 113, 114, 115, 116, 117, 118, 119, 120, 121, 122, 43, 45, 42, 47, 60, 61, 63, 33]⟩, .int .u8 b.toNat] w fun e w' => ∃ i : Int, e = .returned (.int .i64 i) ∧ decide (0 ≤ i) = symB b ∧ w' = w) := fun w => by
    refine (Tryz.strings_IndexByte _ (b.toNat : Int) w).mono ?_
    rintro e w' ⟨rfl, rfl⟩
    refine ⟨_, rfl, ?_, rfl⟩
    have e1 : (b.toNat : Int).toNat.toUInt8 = b := by simp
    rw [e1, ← symAll_any b]; exact indexByte_any symAll b
  go_enter Tryz.func211, Tryz.ntmps211
  go_wp2_with (go_at_call 232; refine (HI.out _).mono ?_; rintro e w' ⟨i, rfl, hi, rfl⟩; have HJ : Hid (decide (0 ≤ i) = symB b) := hi; clear hi)
  go_ret
  exact ⟨by rw [← HJ.out]; rfl, rfl⟩
theorem sym_short (s : ByteArray) (h : (s.size : Int) < 1) : symL s.data.toList = false := by
  unfold symL
  have hl : s.data.toList.length = s.size := by rw [Array.length_toList]; rfl
  rw [hl]; simp; intro _ h1; omega
theorem sym_far (s : ByteArray) (h : 12 < (s.size : Int)) : symL s.data.toList = false := by
  unfold symL
  have hl : s.data.toList.length = s.size := by rw [Array.length_toList]; rfl
  rw [hl]; simp; intro _ h1; omega
theorem isSym_any (s : ByteArray) (w : World) (hs : s.size ≤ 9223372036854775807) :
    Calls Tryz.prog 184 #[.string s] w fun e w' => e = .returned (.bool (symL s.data.toList)) ∧ w' = w := by
  by_cases h1 : (s.size : Int) < 1
  · have HS : Hid (symL s.data.toList = false) := sym_short s h1
    go_enter Tryz.func184, Tryz.ntmps184
    go_wp2
    go_ret
    exact ⟨by rw [HS.out]; rfl, rfl⟩
  · by_cases h2 : 12 < (s.size : Int)
    · have HS : Hid (symL s.data.toList = false) := sym_far s h2
      go_enter Tryz.func184, Tryz.ntmps184
      go_wp2
      go_ret
      exact ⟨by rw [HS.out]; rfl, rfl⟩
    · go_enter Tryz.func184, Tryz.ntmps184
      go_wp2_with fail
      go_loop [14] (fun i => ∃ k : Nat, k ≤ s.size ∧ i = .int .i64 k ∧ (s.data.toList.take k).all symB = true) (fun i => s.size - (intOf i).toNat)
      case atStart => exact ⟨0, by omega, rfl, rfl⟩
      case round =>
        obtain ⟨k, hk, rfl, hn⟩ := hrel
        have HN : Hid ((s.data.toList.take k).all symB = true) := hn
        clear hn
        by_cases hlt : k < s.size
        · cases ht : symB (s[k]'hlt)
          · have HT : Hid (symL s.data.toList = false) := not_all s k hlt ht
            go_wp2_with (go_at_call 211; refine (isSymB_any _ _).mono ?_; rintro e w' ⟨rfl, rfl⟩)
            go_ret
            exact ⟨by rw [HT.out]; rfl, rfl⟩
          · have HT : Hid ((s.data.toList.take (k + 1)).all symB = true) := (take_all s k hlt HN.out).trans ht
            go_wp2_with (go_at_call 211; refine (isSymB_any _ _).mono ?_; rintro e w' ⟨rfl, rfl⟩)
            exact ⟨⟨k + 1, by omega, by go_num, HT.out⟩, by simp [intOf]; omega⟩
        · have HA : Hid (symL s.data.toList = true) := by
            have h3 := all_len s (by
              have := HN.out
              rwa [List.take_of_length_le (by rw [Array.length_toList]; show s.size ≤ k; omega)] at this)
            show symL s.data.toList = true
            rw [h3]; simp; omega
          go_wp2
          go_ret
          exact ⟨by rw [HA.out]; rfl, rfl⟩
theorem implSym_any (s : ByteArray) (w : World) (hs : s.size ≤ 9223372036854775807) :
    Calls Tryz.prog 189 #[.string s] w fun e w' => e = .returned (.int .i64 (if symL s.data.toList = true then 0 else 5)) ∧ w' = w := by
  have HS : Hid (∀ w, Calls Tryz.prog 184 #[.string s] w fun e w' => e = .returned (.bool (symL s.data.toList)) ∧ w' = w) := fun w => isSym_any s w hs
  cases h : symL s.data.toList
  all_goals
    go_enter Tryz.func189, Tryz.ntmps189
    go_wp2_with (go_at_call 184; refine (HS.out _).mono ?_; rintro e w' ⟨rfl, rfl⟩)
    go_ret
    exact ⟨by simp, rfl⟩
end Go.Proofs.YtebnonpdaddniaaGreatDoor
