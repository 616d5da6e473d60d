/-
  Parts of the proof laid into one text, one behind the other; each says at its head what is proved in it.
-/
import Derived.Test.YtebnonpdaddniaaGreatDoorSpecTTextHc
import Derived.Test.YtebnonpdaddniaaGreatDoorClone
import Derived.Test.YtebnonpdaddniaaGreatDoorImplSym
import Derived.Test.YtebnonpdaddniaaGreatDoorTexts
/-
  The program's isTokenForm, boolText, symText and TokenText: the text of a token, or what is wrong with it; nothing that was there is turned. The model's TokenText besides.
-/
namespace Go.Proofs.YtebnonpdaddniaaGreatDoor
open Go.RowKit Go.Extern.Stop Go.Stop Go.Extern Num Go.Lib

/-- A token as TokenText answers it. -/
abbrev TT (t : Tok) : Value := .agg #[.int .i64 (tokFault t), .string (if tokFault t = 0 then tokText t else E0)]
theorem form_kind (n : Int) (z : ByteArray) (w : World) (k : Int) (k1 : (k == 1) = false) (k2 : (k == 2) = false) (k3 : (k == 3) = false) (k4 : (k == 4) = false) (k5 : (k == 5) = false) (k6 : (k == 6) = false) :
    Calls Tryz.prog 149 #[(⟨k, n, z⟩ : Tok).val] w fun e w' => e = .returned (.bool false) ∧ Below w.heap.size w w' := by
  go_enter Tryz.func149, Tryz.ntmps149
  go_wp2
  go_ret
  exact ⟨rfl, by repeat (first | exact Below.refl _ _ | refine Below.alloc ?_ (by simp <;> omega) _ | refine Below.drew ?_)⟩
theorem form_num1 (n : Int) (z : ByteArray) (w : World) (hn : (n == 0) = false) :
    Calls Tryz.prog 149 #[(⟨1, n, z⟩ : Tok).val] w fun e w' => e = .returned (.bool false) ∧ Below w.heap.size w w' := by
  go_enter Tryz.func149, Tryz.ntmps149
  go_wp2
  go_ret
  exact ⟨rfl, by repeat (first | exact Below.refl _ _ | refine Below.alloc ?_ (by simp <;> omega) _ | refine Below.drew ?_)⟩
theorem form_name1 (n : Int) (z : ByteArray) (w : World) (h0 : n = 0) (hm : (z.toList == []) = false) :
    Calls Tryz.prog 149 #[(⟨1, n, z⟩ : Tok).val] w fun e w' => e = .returned (.bool false) ∧ Below w.heap.size w w' := by
  subst h0
  go_enter Tryz.func149, Tryz.ntmps149
  go_wp2
  go_ret
  exact ⟨rfl, by repeat (first | exact Below.refl _ _ | refine Below.alloc ?_ (by simp <;> omega) _ | refine Below.drew ?_)⟩
theorem form_ok1 (n : Int) (z : ByteArray) (w : World) (h0 : n = 0) (hm : (z.toList == []) = true) :
    Calls Tryz.prog 149 #[(⟨1, n, z⟩ : Tok).val] w fun e w' => e = .returned (.bool true) ∧ Below w.heap.size w w' := by
  subst h0
  go_enter Tryz.func149, Tryz.ntmps149
  go_wp2
  go_ret
  exact ⟨rfl, by repeat (first | exact Below.refl _ _ | refine Below.alloc ?_ (by simp <;> omega) _ | refine Below.drew ?_)⟩
theorem form_num2 (n : Int) (z : ByteArray) (w : World) (hn : (n == 0) = false) :
    Calls Tryz.prog 149 #[(⟨2, n, z⟩ : Tok).val] w fun e w' => e = .returned (.bool false) ∧ Below w.heap.size w w' := by
  go_enter Tryz.func149, Tryz.ntmps149
  go_wp2
  go_ret
  exact ⟨rfl, by repeat (first | exact Below.refl _ _ | refine Below.alloc ?_ (by simp <;> omega) _ | refine Below.drew ?_)⟩
theorem form_name2 (n : Int) (z : ByteArray) (w : World) (h0 : n = 0) (hm : (z.toList == []) = false) :
    Calls Tryz.prog 149 #[(⟨2, n, z⟩ : Tok).val] w fun e w' => e = .returned (.bool false) ∧ Below w.heap.size w w' := by
  subst h0
  go_enter Tryz.func149, Tryz.ntmps149
  go_wp2
  go_ret
  exact ⟨rfl, by repeat (first | exact Below.refl _ _ | refine Below.alloc ?_ (by simp <;> omega) _ | refine Below.drew ?_)⟩
theorem form_ok2 (n : Int) (z : ByteArray) (w : World) (h0 : n = 0) (hm : (z.toList == []) = true) :
    Calls Tryz.prog 149 #[(⟨2, n, z⟩ : Tok).val] w fun e w' => e = .returned (.bool true) ∧ Below w.heap.size w w' := by
  subst h0
  go_enter Tryz.func149, Tryz.ntmps149
  go_wp2
  go_ret
  exact ⟨rfl, by repeat (first | exact Below.refl _ _ | refine Below.alloc ?_ (by simp <;> omega) _ | refine Below.drew ?_)⟩
theorem form_num3 (n : Int) (z : ByteArray) (w : World) (hn : (n == 0) = false) :
    Calls Tryz.prog 149 #[(⟨3, n, z⟩ : Tok).val] w fun e w' => e = .returned (.bool false) ∧ Below w.heap.size w w' := by
  go_enter Tryz.func149, Tryz.ntmps149
  go_wp2
  go_ret
  exact ⟨rfl, by repeat (first | exact Below.refl _ _ | refine Below.alloc ?_ (by simp <;> omega) _ | refine Below.drew ?_)⟩
theorem form_name3 (n : Int) (z : ByteArray) (w : World) (h0 : n = 0) (hm : (z.toList == []) = false) :
    Calls Tryz.prog 149 #[(⟨3, n, z⟩ : Tok).val] w fun e w' => e = .returned (.bool false) ∧ Below w.heap.size w w' := by
  subst h0
  go_enter Tryz.func149, Tryz.ntmps149
  go_wp2
  go_ret
  exact ⟨rfl, by repeat (first | exact Below.refl _ _ | refine Below.alloc ?_ (by simp <;> omega) _ | refine Below.drew ?_)⟩
theorem form_ok3 (n : Int) (z : ByteArray) (w : World) (h0 : n = 0) (hm : (z.toList == []) = true) :
    Calls Tryz.prog 149 #[(⟨3, n, z⟩ : Tok).val] w fun e w' => e = .returned (.bool true) ∧ Below w.heap.size w w' := by
  subst h0
  go_enter Tryz.func149, Tryz.ntmps149
  go_wp2
  go_ret
  exact ⟨rfl, by repeat (first | exact Below.refl _ _ | refine Below.alloc ?_ (by simp <;> omega) _ | refine Below.drew ?_)⟩
theorem form_name4 (n : Int) (z : ByteArray) (w : World) (hm : (z.toList == []) = false) :
    Calls Tryz.prog 149 #[(⟨4, n, z⟩ : Tok).val] w fun e w' => e = .returned (.bool false) ∧ Below w.heap.size w w' := by
  go_enter Tryz.func149, Tryz.ntmps149
  go_wp2
  go_ret
  exact ⟨rfl, by repeat (first | exact Below.refl _ _ | refine Below.alloc ?_ (by simp <;> omega) _ | refine Below.drew ?_)⟩
theorem form_ok4 (n : Int) (z : ByteArray) (w : World) (hm : (z.toList == []) = true) :
    Calls Tryz.prog 149 #[(⟨4, n, z⟩ : Tok).val] w fun e w' => e = .returned (.bool true) ∧ Below w.heap.size w w' := by
  go_enter Tryz.func149, Tryz.ntmps149
  go_wp2
  go_ret
  exact ⟨rfl, by repeat (first | exact Below.refl _ _ | refine Below.alloc ?_ (by simp <;> omega) _ | refine Below.drew ?_)⟩
theorem form_name5 (n : Int) (z : ByteArray) (w : World) (hm : (z.toList == []) = false) :
    Calls Tryz.prog 149 #[(⟨5, n, z⟩ : Tok).val] w fun e w' => e = .returned (.bool false) ∧ Below w.heap.size w w' := by
  go_enter Tryz.func149, Tryz.ntmps149
  go_wp2
  go_ret
  exact ⟨rfl, by repeat (first | exact Below.refl _ _ | refine Below.alloc ?_ (by simp <;> omega) _ | refine Below.drew ?_)⟩
theorem form_ok5 (n : Int) (z : ByteArray) (w : World) (hm : (z.toList == []) = true) :
    Calls Tryz.prog 149 #[(⟨5, n, z⟩ : Tok).val] w fun e w' => e = .returned (.bool true) ∧ Below w.heap.size w w' := by
  go_enter Tryz.func149, Tryz.ntmps149
  go_wp2
  go_ret
  exact ⟨rfl, by repeat (first | exact Below.refl _ _ | refine Below.alloc ?_ (by simp <;> omega) _ | refine Below.drew ?_)⟩
theorem form_num6 (n : Int) (z : ByteArray) (w : World) (hn : (n == 0) = false) :
    Calls Tryz.prog 149 #[(⟨6, n, z⟩ : Tok).val] w fun e w' => e = .returned (.bool false) ∧ Below w.heap.size w w' := by
  go_enter Tryz.func149, Tryz.ntmps149
  go_wp2
  go_ret
  exact ⟨rfl, by repeat (first | exact Below.refl _ _ | refine Below.alloc ?_ (by simp <;> omega) _ | refine Below.drew ?_)⟩
theorem form_ok6 (n : Int) (z : ByteArray) (w : World) (h0 : n = 0) :
    Calls Tryz.prog 149 #[(⟨6, n, z⟩ : Tok).val] w fun e w' => e = .returned (.bool true) ∧ Below w.heap.size w w' := by
  subst h0
  go_enter Tryz.func149, Tryz.ntmps149
  go_wp2
  go_ret
  exact ⟨rfl, by repeat (first | exact Below.refl _ _ | refine Below.alloc ?_ (by simp <;> omega) _ | refine Below.drew ?_)⟩
end Go.Proofs.YtebnonpdaddniaaGreatDoor
/-
  The program's TokenText and the model's at every token: the text, or what is wrong with it; nothing that was there is turned.
-/
namespace Go.Proofs.YtebnonpdaddniaaGreatDoor
open Go.RowKit Go.Extern.Stop Go.Stop Go.Extern Num Go.Lib

theorem form_any (t : Tok) (w : World) :
    Calls Tryz.prog 149 #[t.val] w fun e w' => e = .returned (.bool (decide (tokFault t ≠ 1))) ∧ Below w.heap.size w w' := by
  obtain ⟨k, n, z⟩ := t
  by_cases hr : 1 ≤ k ∧ k ≤ 6
  · have hk : k = 1 ∨ k = 2 ∨ k = 3 ∨ k = 4 ∨ k = 5 ∨ k = 6 := by omega
    by_cases hn : n = 0 <;> by_cases hm : z.data.toList = []
    all_goals
      rcases hk with rfl | rfl | rfl | rfl | rfl | rfl
    · have e : decide (tokFault ⟨1, n, z⟩ ≠ 1) = true := by simp [tokFault, hn, hm]
      rw [e]; exact form_ok1 n z w hn (nil_yes hm)
    · have e : decide (tokFault ⟨2, n, z⟩ ≠ 1) = true := by simp [tokFault, hn, hm]
      rw [e]; exact form_ok2 n z w hn (nil_yes hm)
    · have e : decide (tokFault ⟨3, n, z⟩ ≠ 1) = true := by simp [tokFault, hn, hm]
      rw [e]; exact form_ok3 n z w hn (nil_yes hm)
    · have e : decide (tokFault ⟨4, n, z⟩ ≠ 1) = true := by simp [tokFault, hm]; split <;> decide
      rw [e]; exact form_ok4 n z w (nil_yes hm)
    · have e : decide (tokFault ⟨5, n, z⟩ ≠ 1) = true := by simp [tokFault, hn, hm]
      rw [e]; exact form_ok5 n z w (nil_yes hm)
    · have e : decide (tokFault ⟨6, n, z⟩ ≠ 1) = true := by simp [tokFault, hn]; split <;> decide
      rw [e]; exact form_ok6 n z w hn
    · have e : decide (tokFault ⟨1, n, z⟩ ≠ 1) = false := by simp [tokFault, hn, hm]
      rw [e]; exact form_name1 n z w hn (nil_no hm)
    · have e : decide (tokFault ⟨2, n, z⟩ ≠ 1) = false := by simp [tokFault, hn, hm]
      rw [e]; exact form_name2 n z w hn (nil_no hm)
    · have e : decide (tokFault ⟨3, n, z⟩ ≠ 1) = false := by simp [tokFault, hn, hm]
      rw [e]; exact form_name3 n z w hn (nil_no hm)
    · have e : decide (tokFault ⟨4, n, z⟩ ≠ 1) = false := by simp [tokFault, hm]
      rw [e]; exact form_name4 n z w (nil_no hm)
    · have e : decide (tokFault ⟨5, n, z⟩ ≠ 1) = false := by simp [tokFault, hm]
      rw [e]; exact form_name5 n z w (nil_no hm)
    · have e : decide (tokFault ⟨6, n, z⟩ ≠ 1) = true := by simp [tokFault, hn]; split <;> decide
      rw [e]; exact form_ok6 n z w hn
    · have e : decide (tokFault ⟨1, n, z⟩ ≠ 1) = false := by simp [tokFault, hn]
      rw [e]; exact form_num1 n z w (by simpa using hn)
    · have e : decide (tokFault ⟨2, n, z⟩ ≠ 1) = false := by simp [tokFault, hn]
      rw [e]; exact form_num2 n z w (by simpa using hn)
    · have e : decide (tokFault ⟨3, n, z⟩ ≠ 1) = false := by simp [tokFault, hn]
      rw [e]; exact form_num3 n z w (by simpa using hn)
    · have e : decide (tokFault ⟨4, n, z⟩ ≠ 1) = true := by simp [tokFault, hm]; split <;> decide
      rw [e]; exact form_ok4 n z w (nil_yes hm)
    · have e : decide (tokFault ⟨5, n, z⟩ ≠ 1) = true := by simp [tokFault, hm]; split <;> decide
      rw [e]; exact form_ok5 n z w (nil_yes hm)
    · have e : decide (tokFault ⟨6, n, z⟩ ≠ 1) = false := by simp [tokFault, hn]
      rw [e]; exact form_num6 n z w (by simpa using hn)
    · have e : decide (tokFault ⟨1, n, z⟩ ≠ 1) = false := by simp [tokFault, hn]
      rw [e]; exact form_num1 n z w (by simpa using hn)
    · have e : decide (tokFault ⟨2, n, z⟩ ≠ 1) = false := by simp [tokFault, hn]
      rw [e]; exact form_num2 n z w (by simpa using hn)
    · have e : decide (tokFault ⟨3, n, z⟩ ≠ 1) = false := by simp [tokFault, hn]
      rw [e]; exact form_num3 n z w (by simpa using hn)
    · have e : decide (tokFault ⟨4, n, z⟩ ≠ 1) = false := by simp [tokFault, hm]
      rw [e]; exact form_name4 n z w (nil_no hm)
    · have e : decide (tokFault ⟨5, n, z⟩ ≠ 1) = false := by simp [tokFault, hm]
      rw [e]; exact form_name5 n z w (nil_no hm)
    · have e : decide (tokFault ⟨6, n, z⟩ ≠ 1) = false := by simp [tokFault, hn]
      rw [e]; exact form_num6 n z w (by simpa using hn)
  · have e : decide (tokFault ⟨k, n, z⟩ ≠ 1) = false := by unfold tokFault; rw [if_pos hr]; rfl
    rw [e]
    exact form_kind n z w k (by simp; omega) (by simp; omega) (by simp; omega) (by simp; omega) (by simp; omega) (by simp; omega)
theorem bool_no (w : World) : Calls Tryz.prog 151 #[.int .i64 0] w fun e w' => e = .returned (TR 0 [35, 102]) ∧ Below w.heap.size w w' := by
  go_enter Tryz.func151, Tryz.ntmps151
  go_wp2
  exact bodyPost_ret (v := TR 0 [35, 102]) (by simp [results, Tryz.results151, go_sem]) rfl ⟨rfl, by
    repeat (first | exact Below.refl _ _ | refine Below.setCell ?_ (by simp) _ | refine Below.alloc ?_ (by simp <;> omega) _)⟩
theorem bool_yes (w : World) : Calls Tryz.prog 151 #[.int .i64 1] w fun e w' => e = .returned (TR 0 [35, 116]) ∧ Below w.heap.size w w' := by
  go_enter Tryz.func151, Tryz.ntmps151
  go_wp2
  exact bodyPost_ret (v := TR 0 [35, 116]) (by simp [results, Tryz.results151, go_sem]) rfl ⟨rfl, by
    repeat (first | exact Below.refl _ _ | refine Below.setCell ?_ (by simp) _ | refine Below.alloc ?_ (by simp <;> omega) _)⟩
theorem bool_out (n : Int) (w : World) (h0 : (n == 0) = false) (h1 : (n == 1) = false) : Calls Tryz.prog 151 #[.int .i64 n] w fun e w' => e = .returned (TR 3 []) ∧ Below w.heap.size w w' := by
  go_enter Tryz.func151, Tryz.ntmps151
  go_wp2
  exact bodyPost_ret (v := TR 3 []) (by simp [results, Tryz.results151, go_sem]) rfl ⟨rfl, by
    repeat (first | exact Below.refl _ _ | refine Below.setCell ?_ (by simp) _ | refine Below.alloc ?_ (by simp <;> omega) _)⟩
theorem symT_no (z : ByteArray) (w : World) (hz : z.size ≤ 281474976710656) (h : symL z.data.toList = false) : Calls Tryz.prog 152 #[.string z] w fun e w' => e = .returned (.agg #[.int .i64 5, .string E0]) ∧ Below w.heap.size w w' := by
  have HS : Hid (∀ w, Calls Tryz.prog 189 #[.string z] w fun e w' => e = .returned (.int .i64 5) ∧ w' = w) := fun w => by have := implSym_any z w (by omega); rwa [if_neg (by rw [h]; decide)] at this
  clear h
  go_enter Tryz.func152, Tryz.ntmps152
  go_wp2_with (go_at_call 189; refine (HS.out _).mono ?_; rintro e w' ⟨rfl, rfl⟩)
  exact bodyPost_ret (v := .agg #[.int .i64 5, .string E0]) (by simp [results, Tryz.results152, go_sem]) rfl ⟨rfl, by
    repeat (first | exact Below.refl _ _ | refine Below.setCell ?_ (by simp) _ | refine Below.alloc ?_ (by simp <;> omega) _)⟩
theorem symT_yes (z : ByteArray) (w : World) (hz : z.size ≤ 281474976710656) (h : symL z.data.toList = true) : Calls Tryz.prog 152 #[.string z] w fun e w' => e = .returned (.agg #[.int .i64 0, .string z]) ∧ Below w.heap.size w w' := by
  have HS : Hid (∀ w, Calls Tryz.prog 189 #[.string z] w fun e w' => e = .returned (.int .i64 0) ∧ w' = w) := fun w => by have := implSym_any z w (by omega); rwa [if_pos h] at this
  clear h
  go_enter Tryz.func152, Tryz.ntmps152
  go_wp2_with (first | (go_at_call 189; refine (HS.out _).mono ?_; rintro e w' ⟨rfl, rfl⟩) | (go_at_call 74; refine (clone_any _ _ hz).mono ?_; rintro e w1 ⟨rfl, hq⟩; obtain ⟨hc, hf⟩ := bcell hq))
  exact bodyPost_ret (v := .agg #[.int .i64 0, .string z]) (by simp [results, Tryz.results152, go_sem, hc]) rfl ⟨rfl, by
    repeat (first | exact Below.refl _ _ | refine Below.setCell ?_ (by simp) _ | refine Below.trans ?_ (hq.mono (by simp)) | refine Below.alloc ?_ (by simp <;> omega) _)⟩
end Go.Proofs.YtebnonpdaddniaaGreatDoor
/-
  The program's TokenText and the model's at every token: the text, or what is wrong with it; nothing that was there is turned.
-/
namespace Go.Proofs.YtebnonpdaddniaaGreatDoor
open Go.RowKit Go.Extern.Stop Go.Stop Go.Extern Num Go.Lib

theorem tt_bad (t : Tok) (w : World) (hf : tokFault t = 1) :
    Calls Tryz.prog 110 #[t.val] w fun e w' => e = .returned (.agg #[.int .i64 1, .string E0]) ∧ Below w.heap.size w w' := by
  have HF : Hid (∀ w, Calls Tryz.prog 149 #[t.val] w fun e w' => e = .returned (.bool false) ∧ Below w.heap.size w w') := fun w => by have := form_any t w; rwa [show decide (tokFault t ≠ 1) = false by simp [hf]] at this
  clear hf
  go_enter Tryz.func110, Tryz.ntmps110
  go_wp2_with (go_at_call 149; refine (HF.out _).mono ?_; rintro e w1 ⟨rfl, hq⟩; obtain ⟨hc, hf⟩ := bcell hq)
  exact bodyPost_ret (v := .agg #[.int .i64 1, .string E0]) (by simp [results, Tryz.results110, go_sem, hc]) rfl ⟨rfl, by
    repeat (first | exact Below.refl _ _ | refine Below.setCell ?_ (by simp) _ | refine Below.trans ?_ (hq.mono (by simp; omega)) | refine Below.alloc ?_ (by simp <;> omega) _)⟩
theorem tt_1 (n : Int) (z : ByteArray) (w : World) (hf : tokFault ⟨1, n, z⟩ ≠ 1) :
    Calls Tryz.prog 110 #[(⟨1, n, z⟩ : Tok).val] w fun e w' => e = .returned (.agg #[.int .i64 0, .string ⟨#[40]⟩]) ∧ Below w.heap.size w w' := by
  have HF : Hid (∀ w, Calls Tryz.prog 149 #[(⟨1, n, z⟩ : Tok).val] w fun e w' => e = .returned (.bool true) ∧ Below w.heap.size w w') := fun w => by have := form_any ⟨1, n, z⟩ w; rwa [show decide (tokFault ⟨1, n, z⟩ ≠ 1) = true by simp [hf]] at this
  clear hf
  go_enter Tryz.func110, Tryz.ntmps110
  go_wp2_with (go_at_call 149; refine (HF.out _).mono ?_; rintro e w1 ⟨rfl, hq⟩; obtain ⟨hc, hf⟩ := bcell hq)
  exact bodyPost_ret (v := .agg #[.int .i64 0, .string ⟨#[40]⟩]) (by simp [results, Tryz.results110, go_sem, hc]) rfl ⟨rfl, by
    repeat (first | exact Below.refl _ _ | refine Below.setCell ?_ (by simp) _ | refine Below.trans ?_ (hq.mono (by simp; omega)) | refine Below.alloc ?_ (by simp <;> omega) _)⟩
theorem tt_2 (n : Int) (z : ByteArray) (w : World) (hf : tokFault ⟨2, n, z⟩ ≠ 1) :
    Calls Tryz.prog 110 #[(⟨2, n, z⟩ : Tok).val] w fun e w' => e = .returned (.agg #[.int .i64 0, .string ⟨#[41]⟩]) ∧ Below w.heap.size w w' := by
  have HF : Hid (∀ w, Calls Tryz.prog 149 #[(⟨2, n, z⟩ : Tok).val] w fun e w' => e = .returned (.bool true) ∧ Below w.heap.size w w') := fun w => by have := form_any ⟨2, n, z⟩ w; rwa [show decide (tokFault ⟨2, n, z⟩ ≠ 1) = true by simp [hf]] at this
  clear hf
  go_enter Tryz.func110, Tryz.ntmps110
  go_wp2_with (go_at_call 149; refine (HF.out _).mono ?_; rintro e w1 ⟨rfl, hq⟩; obtain ⟨hc, hf⟩ := bcell hq)
  exact bodyPost_ret (v := .agg #[.int .i64 0, .string ⟨#[41]⟩]) (by simp [results, Tryz.results110, go_sem, hc]) rfl ⟨rfl, by
    repeat (first | exact Below.refl _ _ | refine Below.setCell ?_ (by simp) _ | refine Below.trans ?_ (hq.mono (by simp; omega)) | refine Below.alloc ?_ (by simp <;> omega) _)⟩
theorem tt_3 (n : Int) (z : ByteArray) (w : World) (hf : tokFault ⟨3, n, z⟩ ≠ 1) :
    Calls Tryz.prog 110 #[(⟨3, n, z⟩ : Tok).val] w fun e w' => e = .returned (.agg #[.int .i64 0, .string ⟨#[39]⟩]) ∧ Below w.heap.size w w' := by
  have HF : Hid (∀ w, Calls Tryz.prog 149 #[(⟨3, n, z⟩ : Tok).val] w fun e w' => e = .returned (.bool true) ∧ Below w.heap.size w w') := fun w => by have := form_any ⟨3, n, z⟩ w; rwa [show decide (tokFault ⟨3, n, z⟩ ≠ 1) = true by simp [hf]] at this
  clear hf
  go_enter Tryz.func110, Tryz.ntmps110
  go_wp2_with (go_at_call 149; refine (HF.out _).mono ?_; rintro e w1 ⟨rfl, hq⟩; obtain ⟨hc, hf⟩ := bcell hq)
  exact bodyPost_ret (v := .agg #[.int .i64 0, .string ⟨#[39]⟩]) (by simp [results, Tryz.results110, go_sem, hc]) rfl ⟨rfl, by
    repeat (first | exact Below.refl _ _ | refine Below.setCell ?_ (by simp) _ | refine Below.trans ?_ (hq.mono (by simp; omega)) | refine Below.alloc ?_ (by simp <;> omega) _)⟩
theorem tt_4 (n : Int) (z : ByteArray) (c : Int) (x : ByteArray) (w : World) (hL : LT w) (hf : tokFault ⟨4, n, z⟩ ≠ 1) (hx : ∀ w, LT w → Calls Tryz.prog 150 #[.int .i64 n] w fun e w' => e = .returned (.agg #[.int .i64 c, .string x]) ∧ Below w.heap.size w w') :
    Calls Tryz.prog 110 #[(⟨4, n, z⟩ : Tok).val] w fun e w' => e = .returned (.agg #[.int .i64 c, .string x]) ∧ Below w.heap.size w w' := by
  have HF : Hid (∀ w, Calls Tryz.prog 149 #[(⟨4, n, z⟩ : Tok).val] w fun e w' => e = .returned (.bool true) ∧ Below w.heap.size w w') := fun w => by have := form_any ⟨4, n, z⟩ w; rwa [show decide (tokFault ⟨4, n, z⟩ ≠ 1) = true by simp [hf]] at this
  have HX : Hid (∀ w, LT w → Calls Tryz.prog 150 #[.int .i64 n] w fun e w' => e = .returned (.agg #[.int .i64 c, .string x]) ∧ Below w.heap.size w w') := hx
  clear hf hx
  go_enter Tryz.func110, Tryz.ntmps110
  go_wp2_with fail
  refine (HF.out _).mono ?_
  rintro e w1 ⟨rfl, hq⟩
  obtain ⟨hc, hf⟩ := bcell hq
  have hz1 : w.heap.size < w1.heap.size := by have := hq.size; simp at this; omega
  have hz2 : w.heap.size + 1 < w1.heap.size := by have := hq.size; simp at this; omega
  have HB : Hid (Below w.heap.size w w1) := (((Below.refl _ _).alloc (Nat.le_refl _) _).alloc (by simp) _).trans (hq.mono (by simp; omega))
  go_wp2_with fail
  refine (HX.out _ (hL.below HB.out)).mono ?_
  rintro e w2 ⟨rfl, hq2⟩
  obtain ⟨hc2, hf2⟩ := bcell hq2
  go_wp2
  exact bodyPost_ret (v := .agg #[.int .i64 c, .string x]) (by simp [results, Tryz.results110, go_sem, hc, hc2, hz2]) rfl ⟨rfl, by
    repeat (first | exact HB.out | refine Below.setCell ?_ (by simp) _ | refine Below.trans ?_ (hq2.mono (by omega)))⟩
theorem tt_5 (n : Int) (z : ByteArray) (c : Int) (x : ByteArray) (w : World) (hL : LT w) (hf : tokFault ⟨5, n, z⟩ ≠ 1) (hx : ∀ w, LT w → Calls Tryz.prog 151 #[.int .i64 n] w fun e w' => e = .returned (.agg #[.int .i64 c, .string x]) ∧ Below w.heap.size w w') :
    Calls Tryz.prog 110 #[(⟨5, n, z⟩ : Tok).val] w fun e w' => e = .returned (.agg #[.int .i64 c, .string x]) ∧ Below w.heap.size w w' := by
  have HF : Hid (∀ w, Calls Tryz.prog 149 #[(⟨5, n, z⟩ : Tok).val] w fun e w' => e = .returned (.bool true) ∧ Below w.heap.size w w') := fun w => by have := form_any ⟨5, n, z⟩ w; rwa [show decide (tokFault ⟨5, n, z⟩ ≠ 1) = true by simp [hf]] at this
  have HX : Hid (∀ w, LT w → Calls Tryz.prog 151 #[.int .i64 n] w fun e w' => e = .returned (.agg #[.int .i64 c, .string x]) ∧ Below w.heap.size w w') := hx
  clear hf hx
  go_enter Tryz.func110, Tryz.ntmps110
  go_wp2_with fail
  refine (HF.out _).mono ?_
  rintro e w1 ⟨rfl, hq⟩
  obtain ⟨hc, hf⟩ := bcell hq
  have hz1 : w.heap.size < w1.heap.size := by have := hq.size; simp at this; omega
  have hz2 : w.heap.size + 1 < w1.heap.size := by have := hq.size; simp at this; omega
  have HB : Hid (Below w.heap.size w w1) := (((Below.refl _ _).alloc (Nat.le_refl _) _).alloc (by simp) _).trans (hq.mono (by simp; omega))
  go_wp2_with fail
  refine (HX.out _ (hL.below HB.out)).mono ?_
  rintro e w2 ⟨rfl, hq2⟩
  obtain ⟨hc2, hf2⟩ := bcell hq2
  go_wp2
  exact bodyPost_ret (v := .agg #[.int .i64 c, .string x]) (by simp [results, Tryz.results110, go_sem, hc, hc2, hz2]) rfl ⟨rfl, by
    repeat (first | exact HB.out | refine Below.setCell ?_ (by simp) _ | refine Below.trans ?_ (hq2.mono (by omega)))⟩
theorem tt_6 (n : Int) (z : ByteArray) (c : Int) (x : ByteArray) (w : World) (hL : LT w) (hf : tokFault ⟨6, n, z⟩ ≠ 1) (hx : ∀ w, LT w → Calls Tryz.prog 152 #[.string z] w fun e w' => e = .returned (.agg #[.int .i64 c, .string x]) ∧ Below w.heap.size w w') :
    Calls Tryz.prog 110 #[(⟨6, n, z⟩ : Tok).val] w fun e w' => e = .returned (.agg #[.int .i64 c, .string x]) ∧ Below w.heap.size w w' := by
  have HF : Hid (∀ w, Calls Tryz.prog 149 #[(⟨6, n, z⟩ : Tok).val] w fun e w' => e = .returned (.bool true) ∧ Below w.heap.size w w') := fun w => by have := form_any ⟨6, n, z⟩ w; rwa [show decide (tokFault ⟨6, n, z⟩ ≠ 1) = true by simp [hf]] at this
  have HX : Hid (∀ w, LT w → Calls Tryz.prog 152 #[.string z] w fun e w' => e = .returned (.agg #[.int .i64 c, .string x]) ∧ Below w.heap.size w w') := hx
  clear hf hx
  go_enter Tryz.func110, Tryz.ntmps110
  go_wp2_with fail
  refine (HF.out _).mono ?_
  rintro e w1 ⟨rfl, hq⟩
  obtain ⟨hc, hf⟩ := bcell hq
  have hz1 : w.heap.size < w1.heap.size := by have := hq.size; simp at this; omega
  have hz2 : w.heap.size + 1 < w1.heap.size := by have := hq.size; simp at this; omega
  have HB : Hid (Below w.heap.size w w1) := (((Below.refl _ _).alloc (Nat.le_refl _) _).alloc (by simp) _).trans (hq.mono (by simp; omega))
  go_wp2_with fail
  refine (HX.out _ (hL.below HB.out)).mono ?_
  rintro e w2 ⟨rfl, hq2⟩
  obtain ⟨hc2, hf2⟩ := bcell hq2
  go_wp2
  exact bodyPost_ret (v := .agg #[.int .i64 c, .string x]) (by simp [results, Tryz.results110, go_sem, hc, hc2, hz2]) rfl ⟨rfl, by
    repeat (first | exact HB.out | refine Below.setCell ?_ (by simp) _ | refine Below.trans ?_ (hq2.mono (by omega)))⟩
theorem implTT_any (t : Tok) (w : World) (hL : LT w) (hz : t.name.size ≤ 281474976710656) :
    Calls Tryz.prog 110 #[t.val] w fun e w' => e = .returned (TT t) ∧ Below w.heap.size w w' := by
  by_cases hf : tokFault t = 1
  · have e : TT t = .agg #[.int .i64 1, .string E0] := by simp [TT, hf]
    rw [e]; exact tt_bad t w hf
  · obtain ⟨k, n, z⟩ := t
    have hk : k = 1 ∨ k = 2 ∨ k = 3 ∨ k = 4 ∨ k = 5 ∨ k = 6 := by
      have : 1 ≤ k ∧ k ≤ 6 := by
        by_cases h : 1 ≤ k ∧ k ≤ 6
        · exact h
        · exfalso; apply hf; unfold tokFault; rw [if_pos h]
      omega
    have hz' : z.size ≤ 281474976710656 := hz
    rcases hk with rfl | rfl | rfl | rfl | rfl | rfl
    · have e0 : tokFault ⟨1, n, z⟩ = 0 := by by_cases hn : n = 0 <;> by_cases hm : z.data.toList = [] <;> simp [tokFault, hn, hm] at hf ⊢
      have e : TT ⟨1, n, z⟩ = .agg #[.int .i64 0, .string ⟨#[40]⟩] := by simp [TT, e0, tokText]
      rw [e]; exact tt_1 n z w hf
    · have e0 : tokFault ⟨2, n, z⟩ = 0 := by by_cases hn : n = 0 <;> by_cases hm : z.data.toList = [] <;> simp [tokFault, hn, hm] at hf ⊢
      have e : TT ⟨2, n, z⟩ = .agg #[.int .i64 0, .string ⟨#[41]⟩] := by simp [TT, e0, tokText]
      rw [e]; exact tt_2 n z w hf
    · have e0 : tokFault ⟨3, n, z⟩ = 0 := by by_cases hn : n = 0 <;> by_cases hm : z.data.toList = [] <;> simp [tokFault, hn, hm] at hf ⊢
      have e : TT ⟨3, n, z⟩ = .agg #[.int .i64 0, .string ⟨#[39]⟩] := by simp [TT, e0, tokText]
      rw [e]; exact tt_3 n z w hf
    · have e0 : tokFault ⟨4, n, z⟩ = if inB n = true then 0 else 3 := by by_cases hm : z.data.toList = [] <;> simp [tokFault, hm] at hf ⊢
      cases hn : inB n
      · have e : TT ⟨4, n, z⟩ = .agg #[.int .i64 3, .string E0] := by simp [TT, e0, hn]
        rw [e]; exact tt_4 n z 3 E0 w hL hf (fun w hL => implText_no n w hn hL.et)
      · have e : TT ⟨4, n, z⟩ = .agg #[.int .i64 0, .string ⟨(itoa n).toArray⟩] := by simp [TT, e0, hn, tokText]
        rw [e]; exact tt_4 n z 0 _ w hL hf (fun w hL => implText_yes n w hn hL)
    · by_cases h0 : n = 0
      · subst h0
        have e0 : tokFault ⟨5, 0, z⟩ = 0 := by by_cases hm : z.data.toList = [] <;> simp [tokFault, hm] at hf ⊢
        have e : TT ⟨5, 0, z⟩ = .agg #[.int .i64 0, .string ⟨#[35, 102]⟩] := by simp [TT, e0, tokText]
        rw [e]; exact tt_5 0 z 0 _ w hL hf (fun w _ => bool_no w)
      · by_cases h1 : n = 1
        · subst h1
          have e0 : tokFault ⟨5, 1, z⟩ = 0 := by by_cases hm : z.data.toList = [] <;> simp [tokFault, hm] at hf ⊢
          have e : TT ⟨5, 1, z⟩ = .agg #[.int .i64 0, .string ⟨#[35, 116]⟩] := by simp [TT, e0, tokText]
          rw [e]; exact tt_5 1 z 0 _ w hL hf (fun w _ => bool_yes w)
        · have e0 : tokFault ⟨5, n, z⟩ = 3 := by
            have hb : ¬ (0 ≤ n ∧ n ≤ 1) := by omega
            by_cases hm : z.data.toList = []
            · unfold tokFault; simp only [hm]; rw [if_neg (by omega), if_neg (by omega), if_neg (by simp), if_neg (by omega), if_pos trivial, if_neg hb]
            · exfalso; apply hf; simp [tokFault, hm]
          have e : TT ⟨5, n, z⟩ = .agg #[.int .i64 3, .string E0] := by simp [TT, e0]
          rw [e]; exact tt_5 n z 3 E0 w hL hf (fun w _ => bool_out n w (by simpa using h0) (by simpa using h1))
    · have e0 : tokFault ⟨6, n, z⟩ = if symL z.data.toList = true then 0 else 5 := by by_cases hn : n = 0 <;> simp [tokFault, hn] at hf ⊢
      cases hs : symL z.data.toList
      · have e : TT ⟨6, n, z⟩ = .agg #[.int .i64 5, .string E0] := by simp [TT, e0, hs]
        rw [e]; exact tt_6 n z 5 E0 w hL hf (fun w _ => symT_no z w hz' hs)
      · have e : TT ⟨6, n, z⟩ = .agg #[.int .i64 0, .string z] := by simp [TT, e0, hs, tokText]
        rw [e]; exact tt_6 n z 0 z w hL hf (fun w _ => symT_yes z w hz' hs)
end Go.Proofs.YtebnonpdaddniaaGreatDoor
