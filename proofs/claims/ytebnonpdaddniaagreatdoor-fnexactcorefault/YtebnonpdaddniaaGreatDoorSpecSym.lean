/-
  The model's l2Byte and l2Sym answer what the plain functions tell, whatever the world; nothing is turned.
-/
import Derived.Test.YtebnonpdaddniaaGreatDoorSpecNum
namespace Go.Proofs.YtebnonpdaddniaaGreatDoor
open Go.RowKit Go.Extern.Stop Go.Stop Go.Extern Num

/-- The signs that a symbol may have besides letters. -/
def signs : List UInt8 := [43, 45, 42, 47, 60, 61, 63, 33]
def symB (b : UInt8) : Bool := (decide (97 ≤ b.toNat) && decide (b.toNat ≤ 122)) || signs.any (· == b)
def symL (l : List UInt8) : Bool := l.all symB && (decide (1 ≤ l.length) && decide (l.length ≤ 12))

theorem byte_letter (b : UInt8) (w : World) (h1 : 97 ≤ (b.toNat : Int)) (h2 : (b.toNat : Int) ≤ 122) :
    Calls Tryz.prog 144 #[.int .u8 b.toNat] w fun e w' => e = .returned (.bool true) ∧ w' = w := by
  go_enter Tryz.func144, Tryz.ntmps144
  go_wp2
  go_ret
  exact ⟨rfl, rfl⟩
theorem sign_at (k : Nat) (h : k < 8) : signs[k]'h = (({ data := #[43, 45, 42, 47, 60, 61, 63, 33] } : ByteArray)[k]'h) := rfl
theorem sign_yes (k : Nat) (b : UInt8) (h : k < 8) (ht : (((({ data := #[43, 45, 42, 47, 60, 61, 63, 33] } : ByteArray)[k]'h).toNat : Int) == (b.toNat : Int)) = true) : signs.any (· == b) = true := by
  have e : (signs[k]'h) = b := by
    rw [sign_at k h]
    have := eq_of_beq ht
    rw [← UInt8.toNat_inj]; omega
  rw [List.any_eq_true]
  exact ⟨b, by rw [← e]; exact List.getElem_mem _, by simp⟩
theorem sign_no (k : Nat) (b : UInt8) (h : k < 8) (hn : (signs.take k).any (· == b) = false) (ht : (((({ data := #[43, 45, 42, 47, 60, 61, 63, 33] } : ByteArray)[k]'h).toNat : Int) == (b.toNat : Int)) = false) : (signs.take (k + 1)).any (· == b) = false := by
  rw [List.take_succ_eq_append_getElem (by exact h), List.any_append, hn, sign_at k h]
  have : ((({ data := #[43, 45, 42, 47, 60, 61, 63, 33] } : ByteArray)[k]'h) == b) = false := by
    rw [beq_eq_false_iff_ne] at ht ⊢
    intro e; apply ht; rw [e]
  simp only [List.any_cons, List.any_nil, this, Bool.or_false]
theorem byte_other (b : UInt8) (w : World) (h : ¬ (97 ≤ (b.toNat : Int) ∧ (b.toNat : Int) ≤ 122)) :
    Calls Tryz.prog 144 #[.int .u8 b.toNat] w fun e w' => e = .returned (.bool (signs.any (· == b))) ∧ w' = w := by
  by_cases h1 : 97 ≤ (b.toNat : Int)
  · have h2 : ¬ (b.toNat : Int) ≤ 122 := fun h2 => h ⟨h1, h2⟩
    clear h
    go_enter Tryz.func144, Tryz.ntmps144
    go_wp2
    go_loop [4] (fun i => ∃ k : Nat, k ≤ 8 ∧ i = .int .i64 k ∧ (signs.take k).any (· == b) = false) (fun i => 8 - (intOf i).toNat)
    case atStart => exact ⟨0, by omega, rfl, rfl⟩
    case round =>
      obtain ⟨k, hk, rfl, hn⟩ := hrel
      have HN : Hid ((signs.take k).any (· == b) = false) := hn
      clear hn
      by_cases hlt : k < 8
      · cases ht : ((({ data := #[43, 45, 42, 47, 60, 61, 63, 33] } : ByteArray)[k]'hlt).toNat : Int) == (b.toNat : Int)
        · have HT : Hid ((signs.take (k + 1)).any (· == b) = false) := sign_no k b hlt HN.out ht
          go_wp2
          exact ⟨⟨k + 1, by omega, by go_num, HT.out⟩, by simp [intOf]; omega⟩
        · have HT : Hid (signs.any (· == b) = true) := sign_yes k b hlt ht
          go_wp2
          go_ret
          exact ⟨by rw [HT.out]; rfl, rfl⟩
      · have HT : Hid (signs.any (· == b) = false) := by
          have := HN.out
          rwa [List.take_of_length_le (by show 8 ≤ k; omega)] at this
        go_wp2
        go_ret
        exact ⟨by rw [HT.out]; rfl, rfl⟩
  · clear h
    go_enter Tryz.func144, Tryz.ntmps144
    go_wp2
    go_loop [4] (fun i => ∃ k : Nat, k ≤ 8 ∧ i = .int .i64 k ∧ (signs.take k).any (· == b) = false) (fun i => 8 - (intOf i).toNat)
    case atStart => exact ⟨0, by omega, rfl, rfl⟩
    case round =>
      obtain ⟨k, hk, rfl, hn⟩ := hrel
      have HN : Hid ((signs.take k).any (· == b) = false) := hn
      clear hn
      by_cases hlt : k < 8
      · cases ht : ((({ data := #[43, 45, 42, 47, 60, 61, 63, 33] } : ByteArray)[k]'hlt).toNat : Int) == (b.toNat : Int)
        · have HT : Hid ((signs.take (k + 1)).any (· == b) = false) := sign_no k b hlt HN.out ht
          go_wp2
          exact ⟨⟨k + 1, by omega, by go_num, HT.out⟩, by simp [intOf]; omega⟩
        · have HT : Hid (signs.any (· == b) = true) := sign_yes k b hlt ht
          go_wp2
          go_ret
          exact ⟨by rw [HT.out]; rfl, rfl⟩
      · have HT : Hid (signs.any (· == b) = false) := by
          have := HN.out
          rwa [List.take_of_length_le (by show 8 ≤ k; omega)] at this
        go_wp2
        go_ret
        exact ⟨by rw [HT.out]; rfl, rfl⟩
theorem byte_any (b : UInt8) (w : World) :
    Calls Tryz.prog 144 #[.int .u8 b.toNat] w fun e w' => e = .returned (.bool (symB b)) ∧ w' = w := by
  by_cases h : 97 ≤ (b.toNat : Int) ∧ (b.toNat : Int) ≤ 122
  · have e : symB b = true := by unfold symB; simp; exact Or.inl ⟨by omega, by omega⟩
    rw [e]; exact byte_letter b w h.1 h.2
  · have e : symB b = signs.any (· == b) := by
      unfold symB
      have : (decide (97 ≤ b.toNat) && decide (b.toNat ≤ 122)) = false := by simp; omega
      rw [this, Bool.false_or]
    rw [e]; exact byte_other b w h

theorem take_all (s : ByteArray) (k : Nat) (h : k < s.size) (ha : ((s.data.toList.take k).all symB) = true) : ((s.data.toList.take (k + 1)).all symB) = symB (s[k]'h) := by
  have hk : k < s.data.toList.length := by rw [Array.length_toList]; exact h
  rw [List.take_succ_eq_append_getElem hk, List.all_append, ha]
  simp only [List.all_cons, List.all_nil, Bool.and_true, Bool.true_and]
  rfl
theorem not_all (s : ByteArray) (k : Nat) (h : k < s.size) (hb : symB (s[k]'h) = false) : symL s.data.toList = false := by
  have hk : k < s.data.toList.length := by rw [Array.length_toList]; exact h
  unfold symL
  have : s.data.toList.all symB = false := by
    rw [List.all_eq_false]
    exact ⟨s.data.toList[k], List.getElem_mem _, by show ¬ symB (s[k]'h) = true; rw [hb]; simp⟩
  rw [this, Bool.false_and]
theorem all_len (s : ByteArray) (ha : s.data.toList.all symB = true) : symL s.data.toList = (decide (1 ≤ (s.size : Int)) && decide ((s.size : Int) ≤ 12)) := by
  unfold symL
  have hl : s.data.toList.length = s.size := by rw [Array.length_toList]; rfl
  rw [ha, Bool.true_and, hl]
  congr 1 <;> (rw [decide_eq_decide]; omega)
theorem sym_any (s : ByteArray) (w : World) (hs : s.size ≤ 9223372036854775807) :
    Calls Tryz.prog 99 #[.string s] w fun e w' => e = .returned (.bool (symL s.data.toList)) ∧ w' = w := by
  go_enter Tryz.func99, Tryz.ntmps99
  go_wp2_with fail
  go_loop [3] (fun i => ∃ k : Nat, k ≤ s.size ∧ i = .int .i64 k ∧ (s.data.toList.take k).all symB = true) (fun i => s.size - (intOf i).toNat)
  case atStart => exact ⟨0, by omega, rfl, rfl⟩
  case round =>
    obtain ⟨k, hk, rfl, hn⟩ := hrel
    have HN : Hid ((s.data.toList.take k).all symB = true) := hn
    clear hn
    by_cases hlt : k < s.size
    · cases ht : symB (s[k]'hlt)
      · have HT : Hid (symL s.data.toList = false) := not_all s k hlt ht
        go_wp2_with (go_at_call 144; refine (byte_any _ _).mono ?_; rintro e w' ⟨rfl, rfl⟩)
        go_ret
        exact ⟨by rw [HT.out]; rfl, rfl⟩
      · have HT : Hid ((s.data.toList.take (k + 1)).all symB = true) := (take_all s k hlt HN.out).trans ht
        go_wp2_with (go_at_call 144; refine (byte_any _ _).mono ?_; rintro e w' ⟨rfl, rfl⟩)
        exact ⟨⟨k + 1, by omega, by go_num, HT.out⟩, by simp [intOf]; omega⟩
    · have HA : Hid (symL s.data.toList = (decide (1 ≤ (s.size : Int)) && decide ((s.size : Int) ≤ 12))) := all_len s (by
        have := HN.out
        rwa [List.take_of_length_le (by rw [Array.length_toList]; show s.size ≤ k; omega)] at this)
      go_wp2_with (go_at_call 98; refine (l1In_any _ _ _ _).mono ?_; rintro e w' ⟨rfl, rfl⟩)
      go_ret
      exact ⟨by rw [HA.out]; rfl, rfl⟩
end Go.Proofs.YtebnonpdaddniaaGreatDoor
