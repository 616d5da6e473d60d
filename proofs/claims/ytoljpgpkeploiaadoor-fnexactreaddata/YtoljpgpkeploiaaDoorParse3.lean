/-
  The model's l1Parse, walked: it answers as PRes tells.
-/
import Derived.Test.YtoljpgpkeploiaaDoorParse2
namespace Go.Proofs.YtoljpgpkeploiaaDoor
open Go.RowKit Go.Extern.Stop Go.Stop Go.Extern Num Go.Lib

/-- How many bytes are passed over: 1 behind a sign. -/
def FromIs (f : Nat) (s : ByteArray) : Prop := (f = 1 ∧ s.data.toList.head? = some 45) ∨ (f = 0 ∧ s.data.toList.head? ≠ some 45)

theorem l1Parse_empty (s : ByteArray) (w : World) (h0 : ¬ 0 < s.size) :
    Calls Tryd.prog 110 #[.string s] w fun e w' => PRes s w e w' := by
  have HP : Hid (PRes s w (.returned (.tuple #[.int .i64 0, .bool false])) w) := pres_no s w (pres_len 0 s (Or.inr ⟨rfl, by
    have : s.data.toList = [] := List.eq_nil_of_length_eq_zero (by rw [len_data]; omega)
    rw [this]; simp⟩) (Or.inl (by omega)))
  go_enter Tryd.func110, Tryd.ntmps110
  go_wp2
  go_ret2
  exact HP.out
set_option maxHeartbeats 1000000 in
theorem l1Parse_neg (s : ByteArray) (w : World) (hs : s.size ≤ 9223372036854775807) (h0 : 0 < s.size) (h45 : (((s[0]'h0).toNat : Int) == 45) = true) :
    Calls Tryd.prog 110 #[.string s] w fun e w' => PRes s w e w' := by
  have HF : FromIs 1 s := Or.inl ⟨rfl, by
    rw [head_at s h0]
    have : (s[0]'h0).toNat = 45 := by have := eq_of_beq h45; omega
    rw [Option.some.injEq, ← UInt8.toNat_inj]; exact this⟩
  by_cases hl : (s.size : Int) - 1 < 1 ∨ 10 < (s.size : Int) - 1
  · have HP : Hid (PRes s w (.returned (.tuple #[.int .i64 0, .bool false])) w) := pres_no s w (pres_len 1 s HF hl)
    rcases hl with hl | hl
    · go_enter Tryd.func110, Tryd.ntmps110
      go_wp2
      go_ret2
      exact HP.out
    · have hl2 : ¬ (s.size : Int) - 1 < 1 := by omega
      go_enter Tryd.func110, Tryd.ntmps110
      go_wp2
      go_ret2
      exact HP.out
  · have hl1 : 1 ≤ (s.size : Int) - 1 := by omega
    have hl2 : (s.size : Int) - 1 ≤ 10 := by omega
    clear hl
    go_enter Tryd.func110, Tryd.ntmps110
    go_wp2
    go_loop [5, 6] (fun n i => ∃ k m : Nat, 1 ≤ k ∧ k ≤ s.size ∧ i = .int .i64 k ∧ n = .int .i64 m ∧ decFrom 0 ((s.data.toList.drop 1).take (k - 1)) = some m) (fun _ i => s.size - (RowKit.intOf i).toNat)
    case atStart => exact ⟨1, 0, by omega, by omega, rfl, rfl, rfl⟩
    case round =>
      obtain ⟨k, m, hk1, hk2, rfl, rfl, hd⟩ := hrel
      have hm := step_bound _ _ _ _ hd (by omega)
      have HD : Hid (decFrom 0 ((s.data.toList.drop 1).take (k - 1)) = some m) := hd
      clear hd
      by_cases hlt : k < s.size
      · by_cases c1 : ((s[k]'hlt).toNat : Int) < 48
        · have HP : Hid (PRes s w (.returned (.tuple #[.int .i64 0, .bool false])) w) := pres_no s w (fun v _ => pres_dig 1 s HF (no_dig _ 1 k _ (at_k s k hlt) hk1 (by omega)) v)
          go_wp2
          go_ret2
          exact HP.out
        · by_cases c2 : 57 < ((s[k]'hlt).toNat : Int)
          · have HP : Hid (PRes s w (.returned (.tuple #[.int .i64 0, .bool false])) w) := pres_no s w (fun v _ => pres_dig 1 s HF (no_dig _ 1 k _ (at_k s k hlt) hk1 (by omega)) v)
            go_wp2
            go_ret2
            exact HP.out
          · have HS : Hid (decFrom 0 ((s.data.toList.drop 1).take (k + 1 - 1)) = some (m * 10 + ((s[k]'hlt).toNat - 48))) := step_dig _ 1 k m _ (at_k s k hlt) hk1 HD.out (by omega) (by omega)
            go_wp2
            go_round
            case rel => exact ⟨k + 1, m * 10 + ((s[k]'hlt).toNat - 48), by omega, by omega, by go_num, by go_num, HS.out⟩
            case measure => simp [RowKit.intOf]; omega
      · have HE : Hid (decFrom 0 (s.data.toList.drop 1) = some m) := by
          have := HD.out
          rwa [List.take_of_length_le (by rw [List.length_drop, len_data]; omega)] at this
        cases hi : inB (-(m : Int))
        · go_wp2_with (first | (go_at_call 53; refine (l1Num_any _ _).mono ?_; rintro e w' ⟨rfl, rfl⟩))
          go_ret2
          exact pres_out 1 s HF m HE.out _ _ _ _ (by simp [sg]) (by rw [hi]; rfl) (Below.refl _ _)
        · have HI : Hid (inB (-(m : Int)) = true) := hi
          go_wp2_with (first | (go_at_call 53; refine (l1Num_any _ _).mono ?_; rintro e w' ⟨rfl, rfl⟩) | (go_at_call 67; refine (l1Digits_any _ _ HI.out).mono ?_; rintro e w1 ⟨rfl, hq⟩))
          go_ret2
          exact pres_out 1 s HF m HE.out _ _ _ _ (by simp [sg]) (by rw [HI.out]; rfl) hq
set_option maxHeartbeats 1000000 in
theorem l1Parse_pos (s : ByteArray) (w : World) (hs : s.size ≤ 9223372036854775807) (h0 : 0 < s.size) (h45 : (((s[0]'h0).toNat : Int) == 45) = false) :
    Calls Tryd.prog 110 #[.string s] w fun e w' => PRes s w e w' := by
  have HF : FromIs 0 s := Or.inr ⟨rfl, by
    rw [head_at s h0]
    intro e
    have e1 := Option.some.inj e
    rw [e1] at h45
    simp at h45⟩
  by_cases hl : (s.size : Int) < 1 ∨ 10 < (s.size : Int)
  · have HP : Hid (PRes s w (.returned (.tuple #[.int .i64 0, .bool false])) w) := pres_no s w (pres_len 0 s HF (by omega))
    rcases hl with hl | hl
    · go_enter Tryd.func110, Tryd.ntmps110
      go_wp2
      go_ret2
      exact HP.out
    · have hl2 : ¬ (s.size : Int) < 1 := by omega
      go_enter Tryd.func110, Tryd.ntmps110
      go_wp2
      go_ret2
      exact HP.out
  · have hl1 : 1 ≤ (s.size : Int) := by omega
    have hl2 : (s.size : Int) ≤ 10 := by omega
    clear hl
    go_enter Tryd.func110, Tryd.ntmps110
    go_wp2
    go_loop [5, 6] (fun n i => ∃ k m : Nat, 0 ≤ k ∧ k ≤ s.size ∧ i = .int .i64 k ∧ n = .int .i64 m ∧ decFrom 0 ((s.data.toList.drop 0).take (k - 0)) = some m) (fun _ i => s.size - (RowKit.intOf i).toNat)
    case atStart => exact ⟨0, 0, by omega, by omega, rfl, rfl, rfl⟩
    case round =>
      obtain ⟨k, m, hk1, hk2, rfl, rfl, hd⟩ := hrel
      have hm := step_bound _ _ _ _ hd (by omega)
      have HD : Hid (decFrom 0 ((s.data.toList.drop 0).take (k - 0)) = some m) := hd
      clear hd
      by_cases hlt : k < s.size
      · by_cases c1 : ((s[k]'hlt).toNat : Int) < 48
        · have HP : Hid (PRes s w (.returned (.tuple #[.int .i64 0, .bool false])) w) := pres_no s w (fun v _ => pres_dig 0 s HF (no_dig _ 0 k _ (at_k s k hlt) hk1 (by omega)) v)
          go_wp2
          go_ret2
          exact HP.out
        · by_cases c2 : 57 < ((s[k]'hlt).toNat : Int)
          · have HP : Hid (PRes s w (.returned (.tuple #[.int .i64 0, .bool false])) w) := pres_no s w (fun v _ => pres_dig 0 s HF (no_dig _ 0 k _ (at_k s k hlt) hk1 (by omega)) v)
            go_wp2
            go_ret2
            exact HP.out
          · have HS : Hid (decFrom 0 ((s.data.toList.drop 0).take (k + 1 - 0)) = some (m * 10 + ((s[k]'hlt).toNat - 48))) := step_dig _ 0 k m _ (at_k s k hlt) hk1 HD.out (by omega) (by omega)
            go_wp2
            go_round
            case rel => exact ⟨k + 1, m * 10 + ((s[k]'hlt).toNat - 48), by omega, by omega, by go_num, by go_num, HS.out⟩
            case measure => simp [RowKit.intOf]; omega
      · have HE : Hid (decFrom 0 (s.data.toList.drop 0) = some m) := by
          have := HD.out
          rwa [List.take_of_length_le (by rw [List.length_drop, len_data]; omega)] at this
        cases hi : inB (m : Int)
        · go_wp2_with (first | (go_at_call 53; refine (l1Num_any _ _).mono ?_; rintro e w' ⟨rfl, rfl⟩))
          go_ret2
          exact pres_out 0 s HF m HE.out _ _ _ _ (by simp [sg]) (by rw [hi]; rfl) (Below.refl _ _)
        · have HI : Hid (inB (m : Int) = true) := hi
          go_wp2_with (first | (go_at_call 53; refine (l1Num_any _ _).mono ?_; rintro e w' ⟨rfl, rfl⟩) | (go_at_call 67; refine (l1Digits_any _ _ HI.out).mono ?_; rintro e w1 ⟨rfl, hq⟩))
          go_ret2
          exact pres_out 0 s HF m HE.out _ _ _ _ (by simp [sg]) (by rw [HI.out]; rfl) hq
theorem l1Parse_any (s : ByteArray) (w : World) (hs : s.size ≤ 9223372036854775807) :
    Calls Tryd.prog 110 #[.string s] w fun e w' => PRes s w e w' := by
  by_cases h0 : 0 < s.size
  · cases h45 : (((s[0]'h0).toNat : Int) == 45)
    · exact l1Parse_pos s w hs h0 h45
    · exact l1Parse_neg s w hs h0 h45
  · exact l1Parse_empty s w h0
end Go.Proofs.YtoljpgpkeploiaaDoor
