/-
  Parts of the proof laid into one text, one behind the other; each says at its head what is proved in it.
-/
import Derived.Test.YtebnonpdaddniaaGreatDoorHtD
import Derived.Test.YtebnonpdaddniaaGreatDoorHtC
import Derived.Test.YtebnonpdaddniaaGreatDoorHtA
import Derived.Test.YtebnonpdaddniaaGreatDoorShelfSym
import Derived.Test.YtebnonpdaddniaaGreatDoorCloneHt
import Derived.Test.YtebnonpdaddniaaGreatDoorTextsHt
/-
  The model's l2Fault and l2Text: what is wrong with a token, and the text of one with which nothing is wrong; nothing that was there is turned.
-/
namespace Go.Proofs.YtebnonpdaddniaaGreatDoor
open Go.RowKit Go.Extern.Stop Go.Stop Go.Extern Num Go.Lib

/-- The cells of a token behind a pointer. -/
structure TokAt (b o : Nat) (t : Tok) (w : World) : Prop where
  c0 : w.cell? ⟨b, o, none⟩ = some (.int .i64 t.kind)
  c1 : w.cell? ⟨b, o + 1, none⟩ = some (.int .i64 t.num)
  c2 : w.cell? ⟨b, o + 2, none⟩ = some (.string t.name)
/-- What is wrong with a token. -/
def tokFault (t : Tok) : Int :=
  if ¬ (1 ≤ t.kind ∧ t.kind ≤ 6) then 1
  else if (t.kind ≠ 4 ∧ t.kind ≠ 5) ∧ t.num ≠ 0 then 1
  else if t.kind ≠ 6 ∧ t.name.data.toList ≠ [] then 1
  else if t.kind = 4 then (if inB t.num = true then 0 else 3)
  else if t.kind = 5 then (if 0 ≤ t.num ∧ t.num ≤ 1 then 0 else 3)
  else if t.kind = 6 then (if symL t.name.data.toList = true then 0 else 5)
  else 0
end Go.Proofs.YtebnonpdaddniaaGreatDoor
/-
  The model's l2Fault, l2Text and TokenText at every token; nothing that was there is turned.
-/
namespace Go.Proofs.YtebnonpdaddniaaGreatDoor
open Go.RowKit Go.Extern.Stop Go.Stop Go.Extern Num Go.Lib

theorem nil_yes {z : ByteArray} (h : z.data.toList = []) : (z.toList == []) = true := by rw [ByteArray.toList_eq, h]; rfl
theorem nil_no {z : ByteArray} (h : z.data.toList ≠ []) : (z.toList == []) = false := ne_list h
/-- The text of a token. -/
def tokText (t : Tok) : ByteArray :=
  if t.kind = 1 then ⟨#[40]⟩ else if t.kind = 2 then ⟨#[41]⟩ else if t.kind = 3 then ⟨#[39]⟩
  else if t.kind = 4 then ⟨(itoa t.num).toArray⟩ else if t.kind = 5 then (if t.num = 0 then ⟨#[35, 102]⟩ else ⟨#[35, 116]⟩) else t.name
theorem fault_zero {t : Tok} (h : tokFault t = 0) : (t.kind = 1 ∨ t.kind = 2 ∨ t.kind = 3 ∨ (t.kind = 4 ∧ inB t.num = true) ∨ (t.kind = 5 ∧ (t.num = 0 ∨ t.num = 1)) ∨ t.kind = 6) := by
  unfold tokFault at h
  split at h
  · cases h
  · rename_i h1
    split at h
    · cases h
    · split at h
      · cases h
      · split at h
        · rename_i h4
          split at h
          · rename_i h5; exact Or.inr (Or.inr (Or.inr (Or.inl ⟨h4, h5⟩)))
          · cases h
        · split at h
          · rename_i h5
            split at h
            · exact Or.inr (Or.inr (Or.inr (Or.inr (Or.inl ⟨h5, by omega⟩))))
            · cases h
          · omega
end Go.Proofs.YtebnonpdaddniaaGreatDoor
/-
  The program's isSymByte, isSymbol and SymFault answer what the plain functions tell, whatever the world; nothing is turned.
-/
namespace Go.Proofs.YtebnonpdaddniaaGreatDoor
open Go.RowKit Go.Extern.Stop Go.Stop Go.Extern Num

theorem isSymB_any (b : UInt8) (w : World) :
    Calls Tryz.prog 211 #[.int .u8 b.toNat] w fun e w' => e = .returned (.bool (symB b)) ∧ w' = w := by
  have HI : Hid (∀ w, Calls Tryz.prog 232 #[.string ⟨#[97, 98, 99, 100, 101, 102, 103, 104, 105, 106, 107, 108, 109, 110, 111, 112, 113, 114, 115, 116, 117, 118, 119, 120, 121, 122, 43, 45, 42, 47, 60, 61, 63, 33]⟩, .int .u8 b.toNat] w fun e w' => ∃ i : Int, e = .returned (.int .i64 i) ∧ decide (0 ≤ i) = symB b ∧ w' = w) := fun w => by
    refine (Tryz.strings_IndexByte _ (b.toNat : Int) w).mono ?_
    rintro e w' ⟨rfl, rfl⟩
    refine ⟨_, rfl, ?_, rfl⟩
    have e1 : (b.toNat : Int).toNat.toUInt8 = b := by simp
    rw [e1, ← symAll_any b]; exact indexByte_any symAll b
  go_enter Tryz.func211, Tryz.ntmps211
  go_wp2_with (go_at_call 232; refine (HI.out _).mono ?_; rintro e w' ⟨i, rfl, hi, rfl⟩; have HJ : Hid (decide (0 ≤ i) = symB b) := hi; clear hi)
  go_ret
  exact ⟨by rw [← HJ.out]; rfl, rfl⟩
theorem sym_short (s : ByteArray) (h : (s.size : Int) < 1) : symL s.data.toList = false := by
  unfold symL
  have hl : s.data.toList.length = s.size := by rw [Array.length_toList]; rfl
  rw [hl]; simp; intro _ h1; omega
theorem sym_far (s : ByteArray) (h : 12 < (s.size : Int)) : symL s.data.toList = false := by
  unfold symL
  have hl : s.data.toList.length = s.size := by rw [Array.length_toList]; rfl
  rw [hl]; simp; intro _ h1; omega
theorem isSym_any (s : ByteArray) (w : World) (hs : s.size ≤ 9223372036854775807) :
    Calls Tryz.prog 184 #[.string s] w fun e w' => e = .returned (.bool (symL s.data.toList)) ∧ w' = w := by
  by_cases h1 : (s.size : Int) < 1
  · have HS : Hid (symL s.data.toList = false) := sym_short s h1
    go_enter Tryz.func184, Tryz.ntmps184
    go_wp2
    go_ret
    exact ⟨by rw [HS.out]; rfl, rfl⟩
  · by_cases h2 : 12 < (s.size : Int)
    · have HS : Hid (symL s.data.toList = false) := sym_far s h2
      go_enter Tryz.func184, Tryz.ntmps184
      go_wp2
      go_ret
      exact ⟨by rw [HS.out]; rfl, rfl⟩
    · go_enter Tryz.func184, Tryz.ntmps184
      go_wp2_with fail
      go_loop [14] (fun i => ∃ k : Nat, k ≤ s.size ∧ i = .int .i64 k ∧ (s.data.toList.take k).all symB = true) (fun i => s.size - (intOf i).toNat)
      case atStart => exact ⟨0, by omega, rfl, rfl⟩
      case round =>
        obtain ⟨k, hk, rfl, hn⟩ := hrel
        have HN : Hid ((s.data.toList.take k).all symB = true) := hn
        clear hn
        by_cases hlt : k < s.size
        · cases ht : symB (s[k]'hlt)
          · have HT : Hid (symL s.data.toList = false) := not_all s k hlt ht
            go_wp2_with (go_at_call 211; refine (isSymB_any _ _).mono ?_; rintro e w' ⟨rfl, rfl⟩)
            go_ret
            exact ⟨by rw [HT.out]; rfl, rfl⟩
          · have HT : Hid ((s.data.toList.take (k + 1)).all symB = true) := (take_all s k hlt HN.out).trans ht
            go_wp2_with (go_at_call 211; refine (isSymB_any _ _).mono ?_; rintro e w' ⟨rfl, rfl⟩)
            exact ⟨⟨k + 1, by omega, by go_num, HT.out⟩, by simp [intOf]; omega⟩
        · have HA : Hid (symL s.data.toList = true) := by
            have h3 := all_len s (by
              have := HN.out
              rwa [List.take_of_length_le (by rw [Array.length_toList]; show s.size ≤ k; omega)] at this)
            show symL s.data.toList = true
            rw [h3]; simp; omega
          go_wp2
          go_ret
          exact ⟨by rw [HA.out]; rfl, rfl⟩
theorem implSym_any (s : ByteArray) (w : World) (hs : s.size ≤ 9223372036854775807) :
    Calls Tryz.prog 189 #[.string s] w fun e w' => e = .returned (.int .i64 (if symL s.data.toList = true then 0 else 5)) ∧ w' = w := by
  have HS : Hid (∀ w, Calls Tryz.prog 184 #[.string s] w fun e w' => e = .returned (.bool (symL s.data.toList)) ∧ w' = w) := fun w => isSym_any s w hs
  cases h : symL s.data.toList
  all_goals
    go_enter Tryz.func189, Tryz.ntmps189
    go_wp2_with (go_at_call 184; refine (HS.out _).mono ?_; rintro e w' ⟨rfl, rfl⟩)
    go_ret
    exact ⟨by simp, rfl⟩
end Go.Proofs.YtebnonpdaddniaaGreatDoor
/-
  The program's isTokenForm, boolText, symText and TokenText: the text of a token, or what is wrong with it; nothing that was there is turned. The model's TokenText besides.
-/
namespace Go.Proofs.YtebnonpdaddniaaGreatDoor
open Go.RowKit Go.Extern.Stop Go.Stop Go.Extern Num Go.Lib

/-- A token as TokenText answers it. -/
abbrev TT (t : Tok) : Value := .agg #[.int .i64 (tokFault t), .string (if tokFault t = 0 then tokText t else E0)]
theorem form_kind (n : Int) (z : ByteArray) (w : World) (k : Int) (k1 : (k == 1) = false) (k2 : (k == 2) = false) (k3 : (k == 3) = false) (k4 : (k == 4) = false) (k5 : (k == 5) = false) (k6 : (k == 6) = false) :
    Calls Tryz.prog 149 #[(⟨k, n, z⟩ : Tok).val] w fun e w' => e = .returned (.bool false) ∧ Below w.heap.size w w' := by
  go_enter Tryz.func149, Tryz.ntmps149
  go_wp2
  go_ret
  exact ⟨rfl, by repeat (first | exact Below.refl _ _ | refine Below.alloc ?_ (by simp <;> omega) _ | refine Below.drew ?_)⟩
theorem form_num1 (n : Int) (z : ByteArray) (w : World) (hn : (n == 0) = false) :
    Calls Tryz.prog 149 #[(⟨1, n, z⟩ : Tok).val] w fun e w' => e = .returned (.bool false) ∧ Below w.heap.size w w' := by
  go_enter Tryz.func149, Tryz.ntmps149
  go_wp2
  go_ret
  exact ⟨rfl, by repeat (first | exact Below.refl _ _ | refine Below.alloc ?_ (by simp <;> omega) _ | refine Below.drew ?_)⟩
theorem form_name1 (n : Int) (z : ByteArray) (w : World) (h0 : n = 0) (hm : (z.toList == []) = false) :
    Calls Tryz.prog 149 #[(⟨1, n, z⟩ : Tok).val] w fun e w' => e = .returned (.bool false) ∧ Below w.heap.size w w' := by
  subst h0
  go_enter Tryz.func149, Tryz.ntmps149
  go_wp2
  go_ret
  exact ⟨rfl, by repeat (first | exact Below.refl _ _ | refine Below.alloc ?_ (by simp <;> omega) _ | refine Below.drew ?_)⟩
theorem form_ok1 (n : Int) (z : ByteArray) (w : World) (h0 : n = 0) (hm : (z.toList == []) = true) :
    Calls Tryz.prog 149 #[(⟨1, n, z⟩ : Tok).val] w fun e w' => e = .returned (.bool true) ∧ Below w.heap.size w w' := by
  subst h0
  go_enter Tryz.func149, Tryz.ntmps149
  go_wp2
  go_ret
  exact ⟨rfl, by repeat (first | exact Below.refl _ _ | refine Below.alloc ?_ (by simp <;> omega) _ | refine Below.drew ?_)⟩
theorem form_num2 (n : Int) (z : ByteArray) (w : World) (hn : (n == 0) = false) :
    Calls Tryz.prog 149 #[(⟨2, n, z⟩ : Tok).val] w fun e w' => e = .returned (.bool false) ∧ Below w.heap.size w w' := by
  go_enter Tryz.func149, Tryz.ntmps149
  go_wp2
  go_ret
  exact ⟨rfl, by repeat (first | exact Below.refl _ _ | refine Below.alloc ?_ (by simp <;> omega) _ | refine Below.drew ?_)⟩
theorem form_name2 (n : Int) (z : ByteArray) (w : World) (h0 : n = 0) (hm : (z.toList == []) = false) :
    Calls Tryz.prog 149 #[(⟨2, n, z⟩ : Tok).val] w fun e w' => e = .returned (.bool false) ∧ Below w.heap.size w w' := by
  subst h0
  go_enter Tryz.func149, Tryz.ntmps149
  go_wp2
  go_ret
  exact ⟨rfl, by repeat (first | exact Below.refl _ _ | refine Below.alloc ?_ (by simp <;> omega) _ | refine Below.drew ?_)⟩
theorem form_ok2 (n : Int) (z : ByteArray) (w : World) (h0 : n = 0) (hm : (z.toList == []) = true) :
    Calls Tryz.prog 149 #[(⟨2, n, z⟩ : Tok).val] w fun e w' => e = .returned (.bool true) ∧ Below w.heap.size w w' := by
  subst h0
  go_enter Tryz.func149, Tryz.ntmps149
  go_wp2
  go_ret
  exact ⟨rfl, by repeat (first | exact Below.refl _ _ | refine Below.alloc ?_ (by simp <;> omega) _ | refine Below.drew ?_)⟩
theorem form_num3 (n : Int) (z : ByteArray) (w : World) (hn : (n == 0) = false) :
    Calls Tryz.prog 149 #[(⟨3, n, z⟩ : Tok).val] w fun e w' => e = .returned (.bool false) ∧ Below w.heap.size w w' := by
  go_enter Tryz.func149, Tryz.ntmps149
  go_wp2
  go_ret
  exact ⟨rfl, by repeat (first | exact Below.refl _ _ | refine Below.alloc ?_ (by simp <;> omega) _ | refine Below.drew ?_)⟩
theorem form_name3 (n : Int) (z : ByteArray) (w : World) (h0 : n = 0) (hm : (z.toList == []) = false) :
    Calls Tryz.prog 149 #[(⟨3, n, z⟩ : Tok).val] w fun e w' => e = .returned (.bool false) ∧ Below w.heap.size w w' := by
  subst h0
  go_enter Tryz.func149, Tryz.ntmps149
  go_wp2
  go_ret
  exact ⟨rfl, by repeat (first | exact Below.refl _ _ | refine Below.alloc ?_ (by simp <;> omega) _ | refine Below.drew ?_)⟩
theorem form_ok3 (n : Int) (z : ByteArray) (w : World) (h0 : n = 0) (hm : (z.toList == []) = true) :
    Calls Tryz.prog 149 #[(⟨3, n, z⟩ : Tok).val] w fun e w' => e = .returned (.bool true) ∧ Below w.heap.size w w' := by
  subst h0
  go_enter Tryz.func149, Tryz.ntmps149
  go_wp2
  go_ret
  exact ⟨rfl, by repeat (first | exact Below.refl _ _ | refine Below.alloc ?_ (by simp <;> omega) _ | refine Below.drew ?_)⟩
theorem form_name4 (n : Int) (z : ByteArray) (w : World) (hm : (z.toList == []) = false) :
    Calls Tryz.prog 149 #[(⟨4, n, z⟩ : Tok).val] w fun e w' => e = .returned (.bool false) ∧ Below w.heap.size w w' := by
  go_enter Tryz.func149, Tryz.ntmps149
  go_wp2
  go_ret
  exact ⟨rfl, by repeat (first | exact Below.refl _ _ | refine Below.alloc ?_ (by simp <;> omega) _ | refine Below.drew ?_)⟩
theorem form_ok4 (n : Int) (z : ByteArray) (w : World) (hm : (z.toList == []) = true) :
    Calls Tryz.prog 149 #[(⟨4, n, z⟩ : Tok).val] w fun e w' => e = .returned (.bool true) ∧ Below w.heap.size w w' := by
  go_enter Tryz.func149, Tryz.ntmps149
  go_wp2
  go_ret
  exact ⟨rfl, by repeat (first | exact Below.refl _ _ | refine Below.alloc ?_ (by simp <;> omega) _ | refine Below.drew ?_)⟩
theorem form_name5 (n : Int) (z : ByteArray) (w : World) (hm : (z.toList == []) = false) :
    Calls Tryz.prog 149 #[(⟨5, n, z⟩ : Tok).val] w fun e w' => e = .returned (.bool false) ∧ Below w.heap.size w w' := by
  go_enter Tryz.func149, Tryz.ntmps149
  go_wp2
  go_ret
  exact ⟨rfl, by repeat (first | exact Below.refl _ _ | refine Below.alloc ?_ (by simp <;> omega) _ | refine Below.drew ?_)⟩
theorem form_ok5 (n : Int) (z : ByteArray) (w : World) (hm : (z.toList == []) = true) :
    Calls Tryz.prog 149 #[(⟨5, n, z⟩ : Tok).val] w fun e w' => e = .returned (.bool true) ∧ Below w.heap.size w w' := by
  go_enter Tryz.func149, Tryz.ntmps149
  go_wp2
  go_ret
  exact ⟨rfl, by repeat (first | exact Below.refl _ _ | refine Below.alloc ?_ (by simp <;> omega) _ | refine Below.drew ?_)⟩
theorem form_num6 (n : Int) (z : ByteArray) (w : World) (hn : (n == 0) = false) :
    Calls Tryz.prog 149 #[(⟨6, n, z⟩ : Tok).val] w fun e w' => e = .returned (.bool false) ∧ Below w.heap.size w w' := by
  go_enter Tryz.func149, Tryz.ntmps149
  go_wp2
  go_ret
  exact ⟨rfl, by repeat (first | exact Below.refl _ _ | refine Below.alloc ?_ (by simp <;> omega) _ | refine Below.drew ?_)⟩
theorem form_ok6 (n : Int) (z : ByteArray) (w : World) (h0 : n = 0) :
    Calls Tryz.prog 149 #[(⟨6, n, z⟩ : Tok).val] w fun e w' => e = .returned (.bool true) ∧ Below w.heap.size w w' := by
  subst h0
  go_enter Tryz.func149, Tryz.ntmps149
  go_wp2
  go_ret
  exact ⟨rfl, by repeat (first | exact Below.refl _ _ | refine Below.alloc ?_ (by simp <;> omega) _ | refine Below.drew ?_)⟩
end Go.Proofs.YtebnonpdaddniaaGreatDoor
/-
  The program's TokenText and the model's at every token: the text, or what is wrong with it; nothing that was there is turned.
-/
namespace Go.Proofs.YtebnonpdaddniaaGreatDoor
open Go.RowKit Go.Extern.Stop Go.Stop Go.Extern Num Go.Lib

theorem form_any (t : Tok) (w : World) :
    Calls Tryz.prog 149 #[t.val] w fun e w' => e = .returned (.bool (decide (tokFault t ≠ 1))) ∧ Below w.heap.size w w' := by
  obtain ⟨k, n, z⟩ := t
  by_cases hr : 1 ≤ k ∧ k ≤ 6
  · have hk : k = 1 ∨ k = 2 ∨ k = 3 ∨ k = 4 ∨ k = 5 ∨ k = 6 := by omega
    by_cases hn : n = 0 <;> by_cases hm : z.data.toList = []
    all_goals
      rcases hk with rfl | rfl | rfl | rfl | rfl | rfl
    · have e : decide (tokFault ⟨1, n, z⟩ ≠ 1) = true := by simp [tokFault, hn, hm]
      rw [e]; exact form_ok1 n z w hn (nil_yes hm)
    · have e : decide (tokFault ⟨2, n, z⟩ ≠ 1) = true := by simp [tokFault, hn, hm]
      rw [e]; exact form_ok2 n z w hn (nil_yes hm)
    · have e : decide (tokFault ⟨3, n, z⟩ ≠ 1) = true := by simp [tokFault, hn, hm]
      rw [e]; exact form_ok3 n z w hn (nil_yes hm)
    · have e : decide (tokFault ⟨4, n, z⟩ ≠ 1) = true := by simp [tokFault, hm]; split <;> decide
      rw [e]; exact form_ok4 n z w (nil_yes hm)
    · have e : decide (tokFault ⟨5, n, z⟩ ≠ 1) = true := by simp [tokFault, hn, hm]
      rw [e]; exact form_ok5 n z w (nil_yes hm)
    · have e : decide (tokFault ⟨6, n, z⟩ ≠ 1) = true := by simp [tokFault, hn]; split <;> decide
      rw [e]; exact form_ok6 n z w hn
    · have e : decide (tokFault ⟨1, n, z⟩ ≠ 1) = false := by simp [tokFault, hn, hm]
      rw [e]; exact form_name1 n z w hn (nil_no hm)
    · have e : decide (tokFault ⟨2, n, z⟩ ≠ 1) = false := by simp [tokFault, hn, hm]
      rw [e]; exact form_name2 n z w hn (nil_no hm)
    · have e : decide (tokFault ⟨3, n, z⟩ ≠ 1) = false := by simp [tokFault, hn, hm]
      rw [e]; exact form_name3 n z w hn (nil_no hm)
    · have e : decide (tokFault ⟨4, n, z⟩ ≠ 1) = false := by simp [tokFault, hm]
      rw [e]; exact form_name4 n z w (nil_no hm)
    · have e : decide (tokFault ⟨5, n, z⟩ ≠ 1) = false := by simp [tokFault, hm]
      rw [e]; exact form_name5 n z w (nil_no hm)
    · have e : decide (tokFault ⟨6, n, z⟩ ≠ 1) = true := by simp [tokFault, hn]; split <;> decide
      rw [e]; exact form_ok6 n z w hn
    · have e : decide (tokFault ⟨1, n, z⟩ ≠ 1) = false := by simp [tokFault, hn]
      rw [e]; exact form_num1 n z w (by simpa using hn)
    · have e : decide (tokFault ⟨2, n, z⟩ ≠ 1) = false := by simp [tokFault, hn]
      rw [e]; exact form_num2 n z w (by simpa using hn)
    · have e : decide (tokFault ⟨3, n, z⟩ ≠ 1) = false := by simp [tokFault, hn]
      rw [e]; exact form_num3 n z w (by simpa using hn)
    · have e : decide (tokFault ⟨4, n, z⟩ ≠ 1) = true := by simp [tokFault, hm]; split <;> decide
      rw [e]; exact form_ok4 n z w (nil_yes hm)
    · have e : decide (tokFault ⟨5, n, z⟩ ≠ 1) = true := by simp [tokFault, hm]; split <;> decide
      rw [e]; exact form_ok5 n z w (nil_yes hm)
    · have e : decide (tokFault ⟨6, n, z⟩ ≠ 1) = false := by simp [tokFault, hn]
      rw [e]; exact form_num6 n z w (by simpa using hn)
    · have e : decide (tokFault ⟨1, n, z⟩ ≠ 1) = false := by simp [tokFault, hn]
      rw [e]; exact form_num1 n z w (by simpa using hn)
    · have e : decide (tokFault ⟨2, n, z⟩ ≠ 1) = false := by simp [tokFault, hn]
      rw [e]; exact form_num2 n z w (by simpa using hn)
    · have e : decide (tokFault ⟨3, n, z⟩ ≠ 1) = false := by simp [tokFault, hn]
      rw [e]; exact form_num3 n z w (by simpa using hn)
    · have e : decide (tokFault ⟨4, n, z⟩ ≠ 1) = false := by simp [tokFault, hm]
      rw [e]; exact form_name4 n z w (nil_no hm)
    · have e : decide (tokFault ⟨5, n, z⟩ ≠ 1) = false := by simp [tokFault, hm]
      rw [e]; exact form_name5 n z w (nil_no hm)
    · have e : decide (tokFault ⟨6, n, z⟩ ≠ 1) = false := by simp [tokFault, hn]
      rw [e]; exact form_num6 n z w (by simpa using hn)
  · have e : decide (tokFault ⟨k, n, z⟩ ≠ 1) = false := by unfold tokFault; rw [if_pos hr]; rfl
    rw [e]
    exact form_kind n z w k (by simp; omega) (by simp; omega) (by simp; omega) (by simp; omega) (by simp; omega) (by simp; omega)
theorem bool_no (w : World) : Calls Tryz.prog 151 #[.int .i64 0] w fun e w' => e = .returned (TR 0 [35, 102]) ∧ Below w.heap.size w w' := by
  go_enter Tryz.func151, Tryz.ntmps151
  go_wp2
  exact bodyPost_ret (v := TR 0 [35, 102]) (by simp [results, Tryz.results151, go_sem]) rfl ⟨rfl, by
    repeat (first | exact Below.refl _ _ | refine Below.setCell ?_ (by simp) _ | refine Below.alloc ?_ (by simp <;> omega) _)⟩
theorem bool_yes (w : World) : Calls Tryz.prog 151 #[.int .i64 1] w fun e w' => e = .returned (TR 0 [35, 116]) ∧ Below w.heap.size w w' := by
  go_enter Tryz.func151, Tryz.ntmps151
  go_wp2
  exact bodyPost_ret (v := TR 0 [35, 116]) (by simp [results, Tryz.results151, go_sem]) rfl ⟨rfl, by
    repeat (first | exact Below.refl _ _ | refine Below.setCell ?_ (by simp) _ | refine Below.alloc ?_ (by simp <;> omega) _)⟩
theorem bool_out (n : Int) (w : World) (h0 : (n == 0) = false) (h1 : (n == 1) = false) : Calls Tryz.prog 151 #[.int .i64 n] w fun e w' => e = .returned (TR 3 []) ∧ Below w.heap.size w w' := by
  go_enter Tryz.func151, Tryz.ntmps151
  go_wp2
  exact bodyPost_ret (v := TR 3 []) (by simp [results, Tryz.results151, go_sem]) rfl ⟨rfl, by
    repeat (first | exact Below.refl _ _ | refine Below.setCell ?_ (by simp) _ | refine Below.alloc ?_ (by simp <;> omega) _)⟩
theorem symT_no (z : ByteArray) (w : World) (hz : z.size ≤ 281474976710656) (h : symL z.data.toList = false) : Calls Tryz.prog 152 #[.string z] w fun e w' => e = .returned (.agg #[.int .i64 5, .string E0]) ∧ Below w.heap.size w w' := by
  have HS : Hid (∀ w, Calls Tryz.prog 189 #[.string z] w fun e w' => e = .returned (.int .i64 5) ∧ w' = w) := fun w => by have := implSym_any z w (by omega); rwa [if_neg (by rw [h]; decide)] at this
  clear h
  go_enter Tryz.func152, Tryz.ntmps152
  go_wp2_with (go_at_call 189; refine (HS.out _).mono ?_; rintro e w' ⟨rfl, rfl⟩)
  exact bodyPost_ret (v := .agg #[.int .i64 5, .string E0]) (by simp [results, Tryz.results152, go_sem]) rfl ⟨rfl, by
    repeat (first | exact Below.refl _ _ | refine Below.setCell ?_ (by simp) _ | refine Below.alloc ?_ (by simp <;> omega) _)⟩
theorem symT_yes (z : ByteArray) (w : World) (hz : z.size ≤ 281474976710656) (h : symL z.data.toList = true) : Calls Tryz.prog 152 #[.string z] w fun e w' => e = .returned (.agg #[.int .i64 0, .string z]) ∧ Below w.heap.size w w' := by
  have HS : Hid (∀ w, Calls Tryz.prog 189 #[.string z] w fun e w' => e = .returned (.int .i64 0) ∧ w' = w) := fun w => by have := implSym_any z w (by omega); rwa [if_pos h] at this
  clear h
  go_enter Tryz.func152, Tryz.ntmps152
  go_wp2_with (first | (go_at_call 189; refine (HS.out _).mono ?_; rintro e w' ⟨rfl, rfl⟩) | (go_at_call 74; refine (clone_any _ _ hz).mono ?_; rintro e w1 ⟨rfl, hq⟩; obtain ⟨hc, hf⟩ := bcell hq))
  exact bodyPost_ret (v := .agg #[.int .i64 0, .string z]) (by simp [results, Tryz.results152, go_sem, hc]) rfl ⟨rfl, by
    repeat (first | exact Below.refl _ _ | refine Below.setCell ?_ (by simp) _ | refine Below.trans ?_ (hq.mono (by simp)) | refine Below.alloc ?_ (by simp <;> omega) _)⟩
end Go.Proofs.YtebnonpdaddniaaGreatDoor
/-
  The program's TokenText and the model's at every token: the text, or what is wrong with it; nothing that was there is turned.
-/
namespace Go.Proofs.YtebnonpdaddniaaGreatDoor
open Go.RowKit Go.Extern.Stop Go.Stop Go.Extern Num Go.Lib

theorem tt_bad (t : Tok) (w : World) (hf : tokFault t = 1) :
    Calls Tryz.prog 110 #[t.val] w fun e w' => e = .returned (.agg #[.int .i64 1, .string E0]) ∧ Below w.heap.size w w' := by
  have HF : Hid (∀ w, Calls Tryz.prog 149 #[t.val] w fun e w' => e = .returned (.bool false) ∧ Below w.heap.size w w') := fun w => by have := form_any t w; rwa [show decide (tokFault t ≠ 1) = false by simp [hf]] at this
  clear hf
  go_enter Tryz.func110, Tryz.ntmps110
  go_wp2_with (go_at_call 149; refine (HF.out _).mono ?_; rintro e w1 ⟨rfl, hq⟩; obtain ⟨hc, hf⟩ := bcell hq)
  exact bodyPost_ret (v := .agg #[.int .i64 1, .string E0]) (by simp [results, Tryz.results110, go_sem, hc]) rfl ⟨rfl, by
    repeat (first | exact Below.refl _ _ | refine Below.setCell ?_ (by simp) _ | refine Below.trans ?_ (hq.mono (by simp; omega)) | refine Below.alloc ?_ (by simp <;> omega) _)⟩
theorem tt_1 (n : Int) (z : ByteArray) (w : World) (hf : tokFault ⟨1, n, z⟩ ≠ 1) :
    Calls Tryz.prog 110 #[(⟨1, n, z⟩ : Tok).val] w fun e w' => e = .returned (.agg #[.int .i64 0, .string ⟨#[40]⟩]) ∧ Below w.heap.size w w' := by
  have HF : Hid (∀ w, Calls Tryz.prog 149 #[(⟨1, n, z⟩ : Tok).val] w fun e w' => e = .returned (.bool true) ∧ Below w.heap.size w w') := fun w => by have := form_any ⟨1, n, z⟩ w; rwa [show decide (tokFault ⟨1, n, z⟩ ≠ 1) = true by simp [hf]] at this
  clear hf
  go_enter Tryz.func110, Tryz.ntmps110
  go_wp2_with (go_at_call 149; refine (HF.out _).mono ?_; rintro e w1 ⟨rfl, hq⟩; obtain ⟨hc, hf⟩ := bcell hq)
  exact bodyPost_ret (v := .agg #[.int .i64 0, .string ⟨#[40]⟩]) (by simp [results, Tryz.results110, go_sem, hc]) rfl ⟨rfl, by
    repeat (first | exact Below.refl _ _ | refine Below.setCell ?_ (by simp) _ | refine Below.trans ?_ (hq.mono (by simp; omega)) | refine Below.alloc ?_ (by simp <;> omega) _)⟩
theorem tt_2 (n : Int) (z : ByteArray) (w : World) (hf : tokFault ⟨2, n, z⟩ ≠ 1) :
    Calls Tryz.prog 110 #[(⟨2, n, z⟩ : Tok).val] w fun e w' => e = .returned (.agg #[.int .i64 0, .string ⟨#[41]⟩]) ∧ Below w.heap.size w w' := by
  have HF : Hid (∀ w, Calls Tryz.prog 149 #[(⟨2, n, z⟩ : Tok).val] w fun e w' => e = .returned (.bool true) ∧ Below w.heap.size w w') := fun w => by have := form_any ⟨2, n, z⟩ w; rwa [show decide (tokFault ⟨2, n, z⟩ ≠ 1) = true by simp [hf]] at this
  clear hf
  go_enter Tryz.func110, Tryz.ntmps110
  go_wp2_with (go_at_call 149; refine (HF.out _).mono ?_; rintro e w1 ⟨rfl, hq⟩; obtain ⟨hc, hf⟩ := bcell hq)
  exact bodyPost_ret (v := .agg #[.int .i64 0, .string ⟨#[41]⟩]) (by simp [results, Tryz.results110, go_sem, hc]) rfl ⟨rfl, by
    repeat (first | exact Below.refl _ _ | refine Below.setCell ?_ (by simp) _ | refine Below.trans ?_ (hq.mono (by simp; omega)) | refine Below.alloc ?_ (by simp <;> omega) _)⟩
theorem tt_3 (n : Int) (z : ByteArray) (w : World) (hf : tokFault ⟨3, n, z⟩ ≠ 1) :
    Calls Tryz.prog 110 #[(⟨3, n, z⟩ : Tok).val] w fun e w' => e = .returned (.agg #[.int .i64 0, .string ⟨#[39]⟩]) ∧ Below w.heap.size w w' := by
  have HF : Hid (∀ w, Calls Tryz.prog 149 #[(⟨3, n, z⟩ : Tok).val] w fun e w' => e = .returned (.bool true) ∧ Below w.heap.size w w') := fun w => by have := form_any ⟨3, n, z⟩ w; rwa [show decide (tokFault ⟨3, n, z⟩ ≠ 1) = true by simp [hf]] at this
  clear hf
  go_enter Tryz.func110, Tryz.ntmps110
  go_wp2_with (go_at_call 149; refine (HF.out _).mono ?_; rintro e w1 ⟨rfl, hq⟩; obtain ⟨hc, hf⟩ := bcell hq)
  exact bodyPost_ret (v := .agg #[.int .i64 0, .string ⟨#[39]⟩]) (by simp [results, Tryz.results110, go_sem, hc]) rfl ⟨rfl, by
    repeat (first | exact Below.refl _ _ | refine Below.setCell ?_ (by simp) _ | refine Below.trans ?_ (hq.mono (by simp; omega)) | refine Below.alloc ?_ (by simp <;> omega) _)⟩
theorem tt_4 (n : Int) (z : ByteArray) (c : Int) (x : ByteArray) (w : World) (hL : LT w) (hf : tokFault ⟨4, n, z⟩ ≠ 1) (hx : ∀ w, LT w → Calls Tryz.prog 150 #[.int .i64 n] w fun e w' => e = .returned (.agg #[.int .i64 c, .string x]) ∧ Below w.heap.size w w') :
    Calls Tryz.prog 110 #[(⟨4, n, z⟩ : Tok).val] w fun e w' => e = .returned (.agg #[.int .i64 c, .string x]) ∧ Below w.heap.size w w' := by
  have HF : Hid (∀ w, Calls Tryz.prog 149 #[(⟨4, n, z⟩ : Tok).val] w fun e w' => e = .returned (.bool true) ∧ Below w.heap.size w w') := fun w => by have := form_any ⟨4, n, z⟩ w; rwa [show decide (tokFault ⟨4, n, z⟩ ≠ 1) = true by simp [hf]] at this
  have HX : Hid (∀ w, LT w → Calls Tryz.prog 150 #[.int .i64 n] w fun e w' => e = .returned (.agg #[.int .i64 c, .string x]) ∧ Below w.heap.size w w') := hx
  clear hf hx
  go_enter Tryz.func110, Tryz.ntmps110
  go_wp2_with fail
  refine (HF.out _).mono ?_
  rintro e w1 ⟨rfl, hq⟩
  obtain ⟨hc, hf⟩ := bcell hq
  have hz1 : w.heap.size < w1.heap.size := by have := hq.size; simp at this; omega
  have hz2 : w.heap.size + 1 < w1.heap.size := by have := hq.size; simp at this; omega
  have HB : Hid (Below w.heap.size w w1) := (((Below.refl _ _).alloc (Nat.le_refl _) _).alloc (by simp) _).trans (hq.mono (by simp; omega))
  go_wp2_with fail
  refine (HX.out _ (hL.below HB.out)).mono ?_
  rintro e w2 ⟨rfl, hq2⟩
  obtain ⟨hc2, hf2⟩ := bcell hq2
  go_wp2
  exact bodyPost_ret (v := .agg #[.int .i64 c, .string x]) (by simp [results, Tryz.results110, go_sem, hc, hc2, hz2]) rfl ⟨rfl, by
    repeat (first | exact HB.out | refine Below.setCell ?_ (by simp) _ | refine Below.trans ?_ (hq2.mono (by omega)))⟩
theorem tt_5 (n : Int) (z : ByteArray) (c : Int) (x : ByteArray) (w : World) (hL : LT w) (hf : tokFault ⟨5, n, z⟩ ≠ 1) (hx : ∀ w, LT w → Calls Tryz.prog 151 #[.int .i64 n] w fun e w' => e = .returned (.agg #[.int .i64 c, .string x]) ∧ Below w.heap.size w w') :
    Calls Tryz.prog 110 #[(⟨5, n, z⟩ : Tok).val] w fun e w' => e = .returned (.agg #[.int .i64 c, .string x]) ∧ Below w.heap.size w w' := by
  have HF : Hid (∀ w, Calls Tryz.prog 149 #[(⟨5, n, z⟩ : Tok).val] w fun e w' => e = .returned (.bool true) ∧ Below w.heap.size w w') := fun w => by have := form_any ⟨5, n, z⟩ w; rwa [show decide (tokFault ⟨5, n, z⟩ ≠ 1) = true by simp [hf]] at this
  have HX : Hid (∀ w, LT w → Calls Tryz.prog 151 #[.int .i64 n] w fun e w' => e = .returned (.agg #[.int .i64 c, .string x]) ∧ Below w.heap.size w w') := hx
  clear hf hx
  go_enter Tryz.func110, Tryz.ntmps110
  go_wp2_with fail
  refine (HF.out _).mono ?_
  rintro e w1 ⟨rfl, hq⟩
  obtain ⟨hc, hf⟩ := bcell hq
  have hz1 : w.heap.size < w1.heap.size := by have := hq.size; simp at this; omega
  have hz2 : w.heap.size + 1 < w1.heap.size := by have := hq.size; simp at this; omega
  have HB : Hid (Below w.heap.size w w1) := (((Below.refl _ _).alloc (Nat.le_refl _) _).alloc (by simp) _).trans (hq.mono (by simp; omega))
  go_wp2_with fail
  refine (HX.out _ (hL.below HB.out)).mono ?_
  rintro e w2 ⟨rfl, hq2⟩
  obtain ⟨hc2, hf2⟩ := bcell hq2
  go_wp2
  exact bodyPost_ret (v := .agg #[.int .i64 c, .string x]) (by simp [results, Tryz.results110, go_sem, hc, hc2, hz2]) rfl ⟨rfl, by
    repeat (first | exact HB.out | refine Below.setCell ?_ (by simp) _ | refine Below.trans ?_ (hq2.mono (by omega)))⟩
theorem tt_6 (n : Int) (z : ByteArray) (c : Int) (x : ByteArray) (w : World) (hL : LT w) (hf : tokFault ⟨6, n, z⟩ ≠ 1) (hx : ∀ w, LT w → Calls Tryz.prog 152 #[.string z] w fun e w' => e = .returned (.agg #[.int .i64 c, .string x]) ∧ Below w.heap.size w w') :
    Calls Tryz.prog 110 #[(⟨6, n, z⟩ : Tok).val] w fun e w' => e = .returned (.agg #[.int .i64 c, .string x]) ∧ Below w.heap.size w w' := by
  have HF : Hid (∀ w, Calls Tryz.prog 149 #[(⟨6, n, z⟩ : Tok).val] w fun e w' => e = .returned (.bool true) ∧ Below w.heap.size w w') := fun w => by have := form_any ⟨6, n, z⟩ w; rwa [show decide (tokFault ⟨6, n, z⟩ ≠ 1) = true by simp [hf]] at this
  have HX : Hid (∀ w, LT w → Calls Tryz.prog 152 #[.string z] w fun e w' => e = .returned (.agg #[.int .i64 c, .string x]) ∧ Below w.heap.size w w') := hx
  clear hf hx
  go_enter Tryz.func110, Tryz.ntmps110
  go_wp2_with fail
  refine (HF.out _).mono ?_
  rintro e w1 ⟨rfl, hq⟩
  obtain ⟨hc, hf⟩ := bcell hq
  have hz1 : w.heap.size < w1.heap.size := by have := hq.size; simp at this; omega
  have hz2 : w.heap.size + 1 < w1.heap.size := by have := hq.size; simp at this; omega
  have HB : Hid (Below w.heap.size w w1) := (((Below.refl _ _).alloc (Nat.le_refl _) _).alloc (by simp) _).trans (hq.mono (by simp; omega))
  go_wp2_with fail
  refine (HX.out _ (hL.below HB.out)).mono ?_
  rintro e w2 ⟨rfl, hq2⟩
  obtain ⟨hc2, hf2⟩ := bcell hq2
  go_wp2
  exact bodyPost_ret (v := .agg #[.int .i64 c, .string x]) (by simp [results, Tryz.results110, go_sem, hc, hc2, hz2]) rfl ⟨rfl, by
    repeat (first | exact HB.out | refine Below.setCell ?_ (by simp) _ | refine Below.trans ?_ (hq2.mono (by omega)))⟩
theorem implTT_any (t : Tok) (w : World) (hL : LT w) (hz : t.name.size ≤ 281474976710656) :
    Calls Tryz.prog 110 #[t.val] w fun e w' => e = .returned (TT t) ∧ Below w.heap.size w w' := by
  by_cases hf : tokFault t = 1
  · have e : TT t = .agg #[.int .i64 1, .string E0] := by simp [TT, hf]
    rw [e]; exact tt_bad t w hf
  · obtain ⟨k, n, z⟩ := t
    have hk : k = 1 ∨ k = 2 ∨ k = 3 ∨ k = 4 ∨ k = 5 ∨ k = 6 := by
      have : 1 ≤ k ∧ k ≤ 6 := by
        by_cases h : 1 ≤ k ∧ k ≤ 6
        · exact h
        · exfalso; apply hf; unfold tokFault; rw [if_pos h]
      omega
    have hz' : z.size ≤ 281474976710656 := hz
    rcases hk with rfl | rfl | rfl | rfl | rfl | rfl
    · have e0 : tokFault ⟨1, n, z⟩ = 0 := by by_cases hn : n = 0 <;> by_cases hm : z.data.toList = [] <;> simp [tokFault, hn, hm] at hf ⊢
      have e : TT ⟨1, n, z⟩ = .agg #[.int .i64 0, .string ⟨#[40]⟩] := by simp [TT, e0, tokText]
      rw [e]; exact tt_1 n z w hf
    · have e0 : tokFault ⟨2, n, z⟩ = 0 := by by_cases hn : n = 0 <;> by_cases hm : z.data.toList = [] <;> simp [tokFault, hn, hm] at hf ⊢
      have e : TT ⟨2, n, z⟩ = .agg #[.int .i64 0, .string ⟨#[41]⟩] := by simp [TT, e0, tokText]
      rw [e]; exact tt_2 n z w hf
    · have e0 : tokFault ⟨3, n, z⟩ = 0 := by by_cases hn : n = 0 <;> by_cases hm : z.data.toList = [] <;> simp [tokFault, hn, hm] at hf ⊢
      have e : TT ⟨3, n, z⟩ = .agg #[.int .i64 0, .string ⟨#[39]⟩] := by simp [TT, e0, tokText]
      rw [e]; exact tt_3 n z w hf
    · have e0 : tokFault ⟨4, n, z⟩ = if inB n = true then 0 else 3 := by by_cases hm : z.data.toList = [] <;> simp [tokFault, hm] at hf ⊢
      cases hn : inB n
      · have e : TT ⟨4, n, z⟩ = .agg #[.int .i64 3, .string E0] := by simp [TT, e0, hn]
        rw [e]; exact tt_4 n z 3 E0 w hL hf (fun w hL => implText_no n w hn hL.et)
      · have e : TT ⟨4, n, z⟩ = .agg #[.int .i64 0, .string ⟨(itoa n).toArray⟩] := by simp [TT, e0, hn, tokText]
        rw [e]; exact tt_4 n z 0 _ w hL hf (fun w hL => implText_yes n w hn hL)
    · by_cases h0 : n = 0
      · subst h0
        have e0 : tokFault ⟨5, 0, z⟩ = 0 := by by_cases hm : z.data.toList = [] <;> simp [tokFault, hm] at hf ⊢
        have e : TT ⟨5, 0, z⟩ = .agg #[.int .i64 0, .string ⟨#[35, 102]⟩] := by simp [TT, e0, tokText]
        rw [e]; exact tt_5 0 z 0 _ w hL hf (fun w _ => bool_no w)
      · by_cases h1 : n = 1
        · subst h1
          have e0 : tokFault ⟨5, 1, z⟩ = 0 := by by_cases hm : z.data.toList = [] <;> simp [tokFault, hm] at hf ⊢
          have e : TT ⟨5, 1, z⟩ = .agg #[.int .i64 0, .string ⟨#[35, 116]⟩] := by simp [TT, e0, tokText]
          rw [e]; exact tt_5 1 z 0 _ w hL hf (fun w _ => bool_yes w)
        · have e0 : tokFault ⟨5, n, z⟩ = 3 := by
            have hb : ¬ (0 ≤ n ∧ n ≤ 1) := by omega
            by_cases hm : z.data.toList = []
            · unfold tokFault; simp only [hm]; rw [if_neg (by omega), if_neg (by omega), if_neg (by simp), if_neg (by omega), if_pos trivial, if_neg hb]
            · exfalso; apply hf; simp [tokFault, hm]
          have e : TT ⟨5, n, z⟩ = .agg #[.int .i64 3, .string E0] := by simp [TT, e0]
          rw [e]; exact tt_5 n z 3 E0 w hL hf (fun w _ => bool_out n w (by simpa using h0) (by simpa using h1))
    · have e0 : tokFault ⟨6, n, z⟩ = if symL z.data.toList = true then 0 else 5 := by by_cases hn : n = 0 <;> simp [tokFault, hn] at hf ⊢
      cases hs : symL z.data.toList
      · have e : TT ⟨6, n, z⟩ = .agg #[.int .i64 5, .string E0] := by simp [TT, e0, hs]
        rw [e]; exact tt_6 n z 5 E0 w hL hf (fun w _ => symT_no z w hz' hs)
      · have e : TT ⟨6, n, z⟩ = .agg #[.int .i64 0, .string z] := by simp [TT, e0, hs, tokText]
        rw [e]; exact tt_6 n z 0 z w hL hf (fun w _ => symT_yes z w hz' hs)
end Go.Proofs.YtebnonpdaddniaaGreatDoor
