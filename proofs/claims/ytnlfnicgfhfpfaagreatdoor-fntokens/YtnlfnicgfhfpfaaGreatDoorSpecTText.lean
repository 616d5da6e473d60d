/-
  The model's l2Fault, l2Text and TokenText at every token; nothing that was there is turned.
-/
import Derived.Test.YtnlfnicgfhfpfaaGreatDoorDigits
import Derived.Test.YtnlfnicgfhfpfaaGreatDoorSpecFault
namespace Go.Proofs.YtnlfnicgfhfpfaaGreatDoor
open Go.RowKit Go.Extern.Stop Go.Stop Go.Extern Num Go.Lib

theorem nil_yes {z : ByteArray} (h : z.data.toList = []) : (z.toList == []) = true := by rw [ByteArray.toList_eq, h]; rfl
theorem nil_no {z : ByteArray} (h : z.data.toList ≠ []) : (z.toList == []) = false := ne_list h
theorem l2Fault_any (b o : Nat) (t : Tok) (w : World) (hz : t.name.size ≤ 9223372036854775807) (h : TokAt b o t w) :
    Calls Tryz.prog 23 #[.pointer (some ⟨b, o, none⟩)] w fun e w' => e = .returned (.int .i64 (tokFault t)) ∧ w' = w := by
  obtain ⟨k, n, z⟩ := t
  have hz' : z.size ≤ 9223372036854775807 := hz
  by_cases hr : 1 ≤ k ∧ k ≤ 6
  · have hk : k = 1 ∨ k = 2 ∨ k = 3 ∨ k = 4 ∨ k = 5 ∨ k = 6 := by omega
    by_cases hn : n = 0 <;> by_cases hm : z.data.toList = []
    · have hm' := nil_yes hm
      rcases hk with rfl | rfl | rfl | rfl | rfl | rfl
      · have e : tokFault ⟨1, n, z⟩ = 0 := by simp [tokFault, hn, hm]
        rw [e]; exact fault_ok1 b o n z w hz' hn hm' h
      · have e : tokFault ⟨2, n, z⟩ = 0 := by simp [tokFault, hn, hm]
        rw [e]; exact fault_ok2 b o n z w hz' hn hm' h
      · have e : tokFault ⟨3, n, z⟩ = 0 := by simp [tokFault, hn, hm]
        rw [e]; exact fault_ok3 b o n z w hz' hn hm' h
      · have e : tokFault ⟨4, n, z⟩ = if inB n = true then 0 else 3 := by simp [tokFault, hm]
        rw [e]; exact fault_num4 b o n z w hz' hm' h
      · have e : tokFault ⟨5, n, z⟩ = 0 := by simp [tokFault, hn, hm]
        rw [e]; exact fault_ok5 b o n z w hz' hm' (by simp [hn]) h
      · have e : tokFault ⟨6, n, z⟩ = if symL z.data.toList = true then 0 else 5 := by simp [tokFault, hn]
        rw [e]; exact fault_sym6 b o n z w hz' hn h
    · have hm' := nil_no hm
      rcases hk with rfl | rfl | rfl | rfl | rfl | rfl
      · have e : tokFault ⟨1, n, z⟩ = 1 := by simp [tokFault, hn, hm]
        rw [e]; exact fault_name1 b o n z w hz' hn hm' h
      · have e : tokFault ⟨2, n, z⟩ = 1 := by simp [tokFault, hn, hm]
        rw [e]; exact fault_name2 b o n z w hz' hn hm' h
      · have e : tokFault ⟨3, n, z⟩ = 1 := by simp [tokFault, hn, hm]
        rw [e]; exact fault_name3 b o n z w hz' hn hm' h
      · have e : tokFault ⟨4, n, z⟩ = 1 := by simp [tokFault, hm]
        rw [e]; exact fault_name4 b o n z w hz' hm' h
      · have e : tokFault ⟨5, n, z⟩ = 1 := by simp [tokFault, hm]
        rw [e]; exact fault_name5 b o n z w hz' hm' h
      · have e : tokFault ⟨6, n, z⟩ = if symL z.data.toList = true then 0 else 5 := by simp [tokFault, hn]
        rw [e]; exact fault_sym6 b o n z w hz' hn h
    · have hm' := nil_yes hm
      have hn' : (n != 0) = true := by simpa using hn
      rcases hk with rfl | rfl | rfl | rfl | rfl | rfl
      · have e : tokFault ⟨1, n, z⟩ = 1 := by simp [tokFault, hn]
        rw [e]; exact fault_num1 b o n z w hz' hn' h
      · have e : tokFault ⟨2, n, z⟩ = 1 := by simp [tokFault, hn]
        rw [e]; exact fault_num2 b o n z w hz' hn' h
      · have e : tokFault ⟨3, n, z⟩ = 1 := by simp [tokFault, hn]
        rw [e]; exact fault_num3 b o n z w hz' hn' h
      · have e : tokFault ⟨4, n, z⟩ = if inB n = true then 0 else 3 := by simp [tokFault, hm]
        rw [e]; exact fault_num4 b o n z w hz' hm' h
      · by_cases hb : 0 ≤ n ∧ n ≤ 1
        · have e : tokFault ⟨5, n, z⟩ = 0 := by simp [tokFault, hm, hb]
          rw [e]; exact fault_ok5 b o n z w hz' hm' (by simp [hb]) h
        · have e : tokFault ⟨5, n, z⟩ = 3 := by simp only [tokFault, hm]; simp; intro h1; omega
          rw [e]; exact fault_num5 b o n z w hz' hm' (by simp; omega) h
      · have e : tokFault ⟨6, n, z⟩ = 1 := by simp [tokFault, hn]
        rw [e]; exact fault_num6 b o n z w hz' hn' h
    · have hm' := nil_no hm
      have hn' : (n != 0) = true := by simpa using hn
      rcases hk with rfl | rfl | rfl | rfl | rfl | rfl
      · have e : tokFault ⟨1, n, z⟩ = 1 := by simp [tokFault, hn]
        rw [e]; exact fault_num1 b o n z w hz' hn' h
      · have e : tokFault ⟨2, n, z⟩ = 1 := by simp [tokFault, hn]
        rw [e]; exact fault_num2 b o n z w hz' hn' h
      · have e : tokFault ⟨3, n, z⟩ = 1 := by simp [tokFault, hn]
        rw [e]; exact fault_num3 b o n z w hz' hn' h
      · have e : tokFault ⟨4, n, z⟩ = 1 := by simp [tokFault, hm]
        rw [e]; exact fault_name4 b o n z w hz' hm' h
      · have e : tokFault ⟨5, n, z⟩ = 1 := by simp [tokFault, hm]
        rw [e]; exact fault_name5 b o n z w hz' hm' h
      · have e : tokFault ⟨6, n, z⟩ = 1 := by simp [tokFault, hn]
        rw [e]; exact fault_num6 b o n z w hz' hn' h
  · have e : tokFault ⟨k, n, z⟩ = 1 := by unfold tokFault; rw [if_pos hr]
    rw [e]
    exact fault_kind b o n z w k hz' (by simp; omega) (by simp; omega) (by simp; omega) h
/-- The text of a token. -/
def tokText (t : Tok) : ByteArray :=
  if t.kind = 1 then ⟨#[40]⟩ else if t.kind = 2 then ⟨#[41]⟩ else if t.kind = 3 then ⟨#[39]⟩
  else if t.kind = 4 then ⟨(itoa t.num).toArray⟩ else if t.kind = 5 then (if t.num = 0 then ⟨#[35, 102]⟩ else ⟨#[35, 116]⟩) else t.name
theorem text_one (b o : Nat) (n : Int) (z : ByteArray) (w : World) (h : TokAt b o ⟨1, n, z⟩ w) :
    Calls Tryz.prog 24 #[.pointer (some ⟨b, o, none⟩)] w fun e w' => e = .returned (.string ⟨#[40]⟩) ∧ Below w.heap.size w w' := by
  obtain ⟨c0, c1, c2⟩ := h
  simp only at c0 c1 c2
  go_enter Tryz.func24, Tryz.ntmps24
  go_wp2
  go_ret
  exact ⟨rfl, Below.refl _ _⟩
theorem text_two (b o : Nat) (n : Int) (z : ByteArray) (w : World) (h : TokAt b o ⟨2, n, z⟩ w) :
    Calls Tryz.prog 24 #[.pointer (some ⟨b, o, none⟩)] w fun e w' => e = .returned (.string ⟨#[41]⟩) ∧ Below w.heap.size w w' := by
  obtain ⟨c0, c1, c2⟩ := h
  simp only at c0 c1 c2
  go_enter Tryz.func24, Tryz.ntmps24
  go_wp2
  go_ret
  exact ⟨rfl, Below.refl _ _⟩
theorem text_three (b o : Nat) (n : Int) (z : ByteArray) (w : World) (h : TokAt b o ⟨3, n, z⟩ w) :
    Calls Tryz.prog 24 #[.pointer (some ⟨b, o, none⟩)] w fun e w' => e = .returned (.string ⟨#[39]⟩) ∧ Below w.heap.size w w' := by
  obtain ⟨c0, c1, c2⟩ := h
  simp only at c0 c1 c2
  go_enter Tryz.func24, Tryz.ntmps24
  go_wp2
  go_ret
  exact ⟨rfl, Below.refl _ _⟩
theorem text_num (b o : Nat) (n : Int) (z : ByteArray) (w : World) (hn : inB n = true) (h : TokAt b o ⟨4, n, z⟩ w) :
    Calls Tryz.prog 24 #[.pointer (some ⟨b, o, none⟩)] w fun e w' => e = .returned (.string ⟨(itoa n).toArray⟩) ∧ Below w.heap.size w w' := by
  obtain ⟨c0, c1, c2⟩ := h
  simp only at c0 c1 c2
  have HD : Hid (∀ w, Calls Tryz.prog 44 #[.int .i64 n] w fun e w' => e = .returned (S (itoa n)) ∧ Below w.heap.size w w') := fun w => l1Digits_any n w hn
  clear hn
  go_enter Tryz.func24, Tryz.ntmps24
  go_wp2_with (go_at_call 44; refine (HD.out _).mono ?_; rintro e w1 ⟨rfl, hq⟩)
  go_ret
  exact ⟨rfl, hq⟩
theorem text_no (b o : Nat) (z : ByteArray) (w : World) (h : TokAt b o ⟨5, 0, z⟩ w) :
    Calls Tryz.prog 24 #[.pointer (some ⟨b, o, none⟩)] w fun e w' => e = .returned (.string ⟨#[35, 102]⟩) ∧ Below w.heap.size w w' := by
  obtain ⟨c0, c1, c2⟩ := h
  have hb : b < w.heap.size := lt_of_cell c0
  simp only at c0 c1 c2
  go_enter Tryz.func24, Tryz.ntmps24
  go_wp2
  go_ret
  exact ⟨rfl, (Below.refl _ _).alloc (Nat.le_refl _) _⟩
theorem text_yes (b o : Nat) (z : ByteArray) (w : World) (h : TokAt b o ⟨5, 1, z⟩ w) :
    Calls Tryz.prog 24 #[.pointer (some ⟨b, o, none⟩)] w fun e w' => e = .returned (.string ⟨#[35, 116]⟩) ∧ Below w.heap.size w w' := by
  obtain ⟨c0, c1, c2⟩ := h
  have hb : b < w.heap.size := lt_of_cell c0
  simp only at c0 c1 c2
  go_enter Tryz.func24, Tryz.ntmps24
  go_wp2
  go_ret
  exact ⟨rfl, (Below.refl _ _).alloc (Nat.le_refl _) _⟩
theorem text_sym (b o : Nat) (n : Int) (z : ByteArray) (w : World) (h : TokAt b o ⟨6, n, z⟩ w) :
    Calls Tryz.prog 24 #[.pointer (some ⟨b, o, none⟩)] w fun e w' => e = .returned (.string z) ∧ Below w.heap.size w w' := by
  obtain ⟨c0, c1, c2⟩ := h
  simp only at c0 c1 c2
  go_enter Tryz.func24, Tryz.ntmps24
  go_wp2
  go_ret
  exact ⟨rfl, Below.refl _ _⟩
theorem fault_zero {t : Tok} (h : tokFault t = 0) : (t.kind = 1 ∨ t.kind = 2 ∨ t.kind = 3 ∨ (t.kind = 4 ∧ inB t.num = true) ∨ (t.kind = 5 ∧ (t.num = 0 ∨ t.num = 1)) ∨ t.kind = 6) := by
  unfold tokFault at h
  split at h
  · cases h
  · rename_i h1
    split at h
    · cases h
    · split at h
      · cases h
      · split at h
        · rename_i h4
          split at h
          · rename_i h5; exact Or.inr (Or.inr (Or.inr (Or.inl ⟨h4, h5⟩)))
          · cases h
        · split at h
          · rename_i h5
            split at h
            · exact Or.inr (Or.inr (Or.inr (Or.inr (Or.inl ⟨h5, by omega⟩))))
            · cases h
          · omega
theorem l2Text_any (b o : Nat) (t : Tok) (w : World) (hf : tokFault t = 0) (h : TokAt b o t w) :
    Calls Tryz.prog 24 #[.pointer (some ⟨b, o, none⟩)] w fun e w' => e = .returned (.string (tokText t)) ∧ Below w.heap.size w w' := by
  have hz := fault_zero hf
  obtain ⟨k, n, z⟩ := t
  clear hf
  simp only at hz
  rcases hz with rfl | rfl | rfl | ⟨rfl, hn⟩ | ⟨rfl, rfl | rfl⟩ | rfl
  · exact text_one b o n z w h
  · exact text_two b o n z w h
  · exact text_three b o n z w h
  · exact text_num b o n z w hn h
  · exact text_no b o z w h
  · exact text_yes b o z w h
  · exact text_sym b o n z w h
end Go.Proofs.YtnlfnicgfhfpfaaGreatDoor
