/-
  The program's TokenText and the model's at every token: the text, or what is wrong with it; nothing that was there is turned.
-/
import Derived.Test.YtoljpgpkeploiaaDoorImplForm
namespace Go.Proofs.YtoljpgpkeploiaaDoor
open Go.RowKit Go.Extern.Stop Go.Stop Go.Extern Num Go.Lib

theorem form_any (t : Tok) (w : World) :
    Calls Tryd.prog 79 #[t.val] w fun e w' => e = .returned (.bool (decide (tokFault t ≠ 1))) ∧ Below w.heap.size w w' := by
  obtain ⟨k, n, z⟩ := t
  by_cases hr : 1 ≤ k ∧ k ≤ 6
  · have hk : k = 1 ∨ k = 2 ∨ k = 3 ∨ k = 4 ∨ k = 5 ∨ k = 6 := by omega
    by_cases hn : n = 0 <;> by_cases hm : z.data.toList = []
    all_goals
      rcases hk with rfl | rfl | rfl | rfl | rfl | rfl
    · have e : decide (tokFault ⟨1, n, z⟩ ≠ 1) = true := by simp [tokFault, hn, hm]
      rw [e]; exact form_ok1 n z w hn (nil_yes hm)
    · have e : decide (tokFault ⟨2, n, z⟩ ≠ 1) = true := by simp [tokFault, hn, hm]
      rw [e]; exact form_ok2 n z w hn (nil_yes hm)
    · have e : decide (tokFault ⟨3, n, z⟩ ≠ 1) = true := by simp [tokFault, hn, hm]
      rw [e]; exact form_ok3 n z w hn (nil_yes hm)
    · have e : decide (tokFault ⟨4, n, z⟩ ≠ 1) = true := by simp [tokFault, hm]; split <;> decide
      rw [e]; exact form_ok4 n z w (nil_yes hm)
    · have e : decide (tokFault ⟨5, n, z⟩ ≠ 1) = true := by simp [tokFault, hn, hm]
      rw [e]; exact form_ok5 n z w (nil_yes hm)
    · have e : decide (tokFault ⟨6, n, z⟩ ≠ 1) = true := by simp [tokFault, hn]; split <;> decide
      rw [e]; exact form_ok6 n z w hn
    · have e : decide (tokFault ⟨1, n, z⟩ ≠ 1) = false := by simp [tokFault, hn, hm]
      rw [e]; exact form_name1 n z w hn (nil_no hm)
    · have e : decide (tokFault ⟨2, n, z⟩ ≠ 1) = false := by simp [tokFault, hn, hm]
      rw [e]; exact form_name2 n z w hn (nil_no hm)
    · have e : decide (tokFault ⟨3, n, z⟩ ≠ 1) = false := by simp [tokFault, hn, hm]
      rw [e]; exact form_name3 n z w hn (nil_no hm)
    · have e : decide (tokFault ⟨4, n, z⟩ ≠ 1) = false := by simp [tokFault, hm]
      rw [e]; exact form_name4 n z w (nil_no hm)
    · have e : decide (tokFault ⟨5, n, z⟩ ≠ 1) = false := by simp [tokFault, hm]
      rw [e]; exact form_name5 n z w (nil_no hm)
    · have e : decide (tokFault ⟨6, n, z⟩ ≠ 1) = true := by simp [tokFault, hn]; split <;> decide
      rw [e]; exact form_ok6 n z w hn
    · have e : decide (tokFault ⟨1, n, z⟩ ≠ 1) = false := by simp [tokFault, hn]
      rw [e]; exact form_num1 n z w (by simpa using hn)
    · have e : decide (tokFault ⟨2, n, z⟩ ≠ 1) = false := by simp [tokFault, hn]
      rw [e]; exact form_num2 n z w (by simpa using hn)
    · have e : decide (tokFault ⟨3, n, z⟩ ≠ 1) = false := by simp [tokFault, hn]
      rw [e]; exact form_num3 n z w (by simpa using hn)
    · have e : decide (tokFault ⟨4, n, z⟩ ≠ 1) = true := by simp [tokFault, hm]; split <;> decide
      rw [e]; exact form_ok4 n z w (nil_yes hm)
    · have e : decide (tokFault ⟨5, n, z⟩ ≠ 1) = true := by simp [tokFault, hm]; split <;> decide
      rw [e]; exact form_ok5 n z w (nil_yes hm)
    · have e : decide (tokFault ⟨6, n, z⟩ ≠ 1) = false := by simp [tokFault, hn]
      rw [e]; exact form_num6 n z w (by simpa using hn)
    · have e : decide (tokFault ⟨1, n, z⟩ ≠ 1) = false := by simp [tokFault, hn]
      rw [e]; exact form_num1 n z w (by simpa using hn)
    · have e : decide (tokFault ⟨2, n, z⟩ ≠ 1) = false := by simp [tokFault, hn]
      rw [e]; exact form_num2 n z w (by simpa using hn)
    · have e : decide (tokFault ⟨3, n, z⟩ ≠ 1) = false := by simp [tokFault, hn]
      rw [e]; exact form_num3 n z w (by simpa using hn)
    · have e : decide (tokFault ⟨4, n, z⟩ ≠ 1) = false := by simp [tokFault, hm]
      rw [e]; exact form_name4 n z w (nil_no hm)
    · have e : decide (tokFault ⟨5, n, z⟩ ≠ 1) = false := by simp [tokFault, hm]
      rw [e]; exact form_name5 n z w (nil_no hm)
    · have e : decide (tokFault ⟨6, n, z⟩ ≠ 1) = false := by simp [tokFault, hn]
      rw [e]; exact form_num6 n z w (by simpa using hn)
  · have e : decide (tokFault ⟨k, n, z⟩ ≠ 1) = false := by unfold tokFault; rw [if_pos hr]; rfl
    rw [e]
    exact form_kind n z w k (by simp; omega) (by simp; omega) (by simp; omega) (by simp; omega) (by simp; omega) (by simp; omega)
theorem bool_no (w : World) : Calls Tryd.prog 81 #[.int .i64 0] w fun e w' => e = .returned (TR 0 [35, 102]) ∧ Below w.heap.size w w' := by
  go_enter Tryd.func81, Tryd.ntmps81
  go_wp2
  exact bodyPost_ret (v := TR 0 [35, 102]) (by simp [results, Tryd.results81, go_sem]) rfl ⟨rfl, by
    repeat (first | exact Below.refl _ _ | refine Below.setCell ?_ (by simp) _ | refine Below.alloc ?_ (by simp <;> omega) _)⟩
theorem bool_yes (w : World) : Calls Tryd.prog 81 #[.int .i64 1] w fun e w' => e = .returned (TR 0 [35, 116]) ∧ Below w.heap.size w w' := by
  go_enter Tryd.func81, Tryd.ntmps81
  go_wp2
  exact bodyPost_ret (v := TR 0 [35, 116]) (by simp [results, Tryd.results81, go_sem]) rfl ⟨rfl, by
    repeat (first | exact Below.refl _ _ | refine Below.setCell ?_ (by simp) _ | refine Below.alloc ?_ (by simp <;> omega) _)⟩
theorem bool_out (n : Int) (w : World) (h0 : (n == 0) = false) (h1 : (n == 1) = false) : Calls Tryd.prog 81 #[.int .i64 n] w fun e w' => e = .returned (TR 3 []) ∧ Below w.heap.size w w' := by
  go_enter Tryd.func81, Tryd.ntmps81
  go_wp2
  exact bodyPost_ret (v := TR 3 []) (by simp [results, Tryd.results81, go_sem]) rfl ⟨rfl, by
    repeat (first | exact Below.refl _ _ | refine Below.setCell ?_ (by simp) _ | refine Below.alloc ?_ (by simp <;> omega) _)⟩
theorem symT_no (z : ByteArray) (w : World) (hz : z.size ≤ 281474976710656) (h : symL z.data.toList = false) : Calls Tryd.prog 82 #[.string z] w fun e w' => e = .returned (.agg #[.int .i64 5, .string E0]) ∧ Below w.heap.size w w' := by
  have HS : Hid (∀ w, Calls Tryd.prog 107 #[.string z] w fun e w' => e = .returned (.int .i64 5) ∧ w' = w) := fun w => by have := implSym_any z w (by omega); rwa [if_neg (by rw [h]; decide)] at this
  clear h
  go_enter Tryd.func82, Tryd.ntmps82
  go_wp2_with (go_at_call 107; refine (HS.out _).mono ?_; rintro e w' ⟨rfl, rfl⟩)
  exact bodyPost_ret (v := .agg #[.int .i64 5, .string E0]) (by simp [results, Tryd.results82, go_sem]) rfl ⟨rfl, by
    repeat (first | exact Below.refl _ _ | refine Below.setCell ?_ (by simp) _ | refine Below.alloc ?_ (by simp <;> omega) _)⟩
theorem symT_yes (z : ByteArray) (w : World) (hz : z.size ≤ 281474976710656) (h : symL z.data.toList = true) : Calls Tryd.prog 82 #[.string z] w fun e w' => e = .returned (.agg #[.int .i64 0, .string z]) ∧ Below w.heap.size w w' := by
  have HS : Hid (∀ w, Calls Tryd.prog 107 #[.string z] w fun e w' => e = .returned (.int .i64 0) ∧ w' = w) := fun w => by have := implSym_any z w (by omega); rwa [if_pos h] at this
  clear h
  go_enter Tryd.func82, Tryd.ntmps82
  go_wp2_with (first | (go_at_call 107; refine (HS.out _).mono ?_; rintro e w' ⟨rfl, rfl⟩) | (go_at_call 76; refine (clone_any _ _ hz).mono ?_; rintro e w1 ⟨rfl, hq⟩; obtain ⟨hc, hf⟩ := bcell hq))
  exact bodyPost_ret (v := .agg #[.int .i64 0, .string z]) (by simp [results, Tryd.results82, go_sem, hc]) rfl ⟨rfl, by
    repeat (first | exact Below.refl _ _ | refine Below.setCell ?_ (by simp) _ | refine Below.trans ?_ (hq.mono (by simp)) | refine Below.alloc ?_ (by simp <;> omega) _)⟩
end Go.Proofs.YtoljpgpkeploiaaDoor
