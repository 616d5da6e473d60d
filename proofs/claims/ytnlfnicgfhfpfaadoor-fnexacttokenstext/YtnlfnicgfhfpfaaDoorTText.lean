/-
  The program's TokenText and the model's at every token: the text, or what is wrong with it; nothing that was there is turned.
-/
import Derived.Test.YtnlfnicgfhfpfaaDoorImplTText
namespace Go.Proofs.YtnlfnicgfhfpfaaDoor
open Go.RowKit Go.Extern.Stop Go.Stop Go.Extern Num Go.Lib

theorem tt_bad (t : Tok) (w : World) (hf : tokFault t = 1) :
    Calls Tryd.prog 15 #[t.val] w fun e w' => e = .returned (.agg #[.int .i64 1, .string E0]) ∧ Below w.heap.size w w' := by
  have HF : Hid (∀ w, Calls Tryd.prog 31 #[t.val] w fun e w' => e = .returned (.bool false) ∧ Below w.heap.size w w') := fun w => by have := form_any t w; rwa [show decide (tokFault t ≠ 1) = false by simp [hf]] at this
  clear hf
  go_enter Tryd.func15, Tryd.ntmps15
  go_wp2_with (go_at_call 31; refine (HF.out _).mono ?_; rintro e w1 ⟨rfl, hq⟩; obtain ⟨hc, hf⟩ := bcell hq)
  exact bodyPost_ret (v := .agg #[.int .i64 1, .string E0]) (by simp [results, Tryd.results15, go_sem, hc]) rfl ⟨rfl, by
    repeat (first | exact Below.refl _ _ | refine Below.setCell ?_ (by simp) _ | refine Below.trans ?_ (hq.mono (by simp; omega)) | refine Below.alloc ?_ (by simp <;> omega) _)⟩
theorem tt_1 (n : Int) (z : ByteArray) (w : World) (hf : tokFault ⟨1, n, z⟩ ≠ 1) :
    Calls Tryd.prog 15 #[(⟨1, n, z⟩ : Tok).val] w fun e w' => e = .returned (.agg #[.int .i64 0, .string ⟨#[40]⟩]) ∧ Below w.heap.size w w' := by
  have HF : Hid (∀ w, Calls Tryd.prog 31 #[(⟨1, n, z⟩ : Tok).val] w fun e w' => e = .returned (.bool true) ∧ Below w.heap.size w w') := fun w => by have := form_any ⟨1, n, z⟩ w; rwa [show decide (tokFault ⟨1, n, z⟩ ≠ 1) = true by simp [hf]] at this
  clear hf
  go_enter Tryd.func15, Tryd.ntmps15
  go_wp2_with (go_at_call 31; refine (HF.out _).mono ?_; rintro e w1 ⟨rfl, hq⟩; obtain ⟨hc, hf⟩ := bcell hq)
  exact bodyPost_ret (v := .agg #[.int .i64 0, .string ⟨#[40]⟩]) (by simp [results, Tryd.results15, go_sem, hc]) rfl ⟨rfl, by
    repeat (first | exact Below.refl _ _ | refine Below.setCell ?_ (by simp) _ | refine Below.trans ?_ (hq.mono (by simp; omega)) | refine Below.alloc ?_ (by simp <;> omega) _)⟩
theorem tt_2 (n : Int) (z : ByteArray) (w : World) (hf : tokFault ⟨2, n, z⟩ ≠ 1) :
    Calls Tryd.prog 15 #[(⟨2, n, z⟩ : Tok).val] w fun e w' => e = .returned (.agg #[.int .i64 0, .string ⟨#[41]⟩]) ∧ Below w.heap.size w w' := by
  have HF : Hid (∀ w, Calls Tryd.prog 31 #[(⟨2, n, z⟩ : Tok).val] w fun e w' => e = .returned (.bool true) ∧ Below w.heap.size w w') := fun w => by have := form_any ⟨2, n, z⟩ w; rwa [show decide (tokFault ⟨2, n, z⟩ ≠ 1) = true by simp [hf]] at this
  clear hf
  go_enter Tryd.func15, Tryd.ntmps15
  go_wp2_with (go_at_call 31; refine (HF.out _).mono ?_; rintro e w1 ⟨rfl, hq⟩; obtain ⟨hc, hf⟩ := bcell hq)
  exact bodyPost_ret (v := .agg #[.int .i64 0, .string ⟨#[41]⟩]) (by simp [results, Tryd.results15, go_sem, hc]) rfl ⟨rfl, by
    repeat (first | exact Below.refl _ _ | refine Below.setCell ?_ (by simp) _ | refine Below.trans ?_ (hq.mono (by simp; omega)) | refine Below.alloc ?_ (by simp <;> omega) _)⟩
theorem tt_3 (n : Int) (z : ByteArray) (w : World) (hf : tokFault ⟨3, n, z⟩ ≠ 1) :
    Calls Tryd.prog 15 #[(⟨3, n, z⟩ : Tok).val] w fun e w' => e = .returned (.agg #[.int .i64 0, .string ⟨#[39]⟩]) ∧ Below w.heap.size w w' := by
  have HF : Hid (∀ w, Calls Tryd.prog 31 #[(⟨3, n, z⟩ : Tok).val] w fun e w' => e = .returned (.bool true) ∧ Below w.heap.size w w') := fun w => by have := form_any ⟨3, n, z⟩ w; rwa [show decide (tokFault ⟨3, n, z⟩ ≠ 1) = true by simp [hf]] at this
  clear hf
  go_enter Tryd.func15, Tryd.ntmps15
  go_wp2_with (go_at_call 31; refine (HF.out _).mono ?_; rintro e w1 ⟨rfl, hq⟩; obtain ⟨hc, hf⟩ := bcell hq)
  exact bodyPost_ret (v := .agg #[.int .i64 0, .string ⟨#[39]⟩]) (by simp [results, Tryd.results15, go_sem, hc]) rfl ⟨rfl, by
    repeat (first | exact Below.refl _ _ | refine Below.setCell ?_ (by simp) _ | refine Below.trans ?_ (hq.mono (by simp; omega)) | refine Below.alloc ?_ (by simp <;> omega) _)⟩
theorem tt_4 (n : Int) (z : ByteArray) (c : Int) (x : ByteArray) (w : World) (hL : LT w) (hf : tokFault ⟨4, n, z⟩ ≠ 1) (hx : ∀ w, LT w → Calls Tryd.prog 32 #[.int .i64 n] w fun e w' => e = .returned (.agg #[.int .i64 c, .string x]) ∧ Below w.heap.size w w') :
    Calls Tryd.prog 15 #[(⟨4, n, z⟩ : Tok).val] w fun e w' => e = .returned (.agg #[.int .i64 c, .string x]) ∧ Below w.heap.size w w' := by
  have HF : Hid (∀ w, Calls Tryd.prog 31 #[(⟨4, n, z⟩ : Tok).val] w fun e w' => e = .returned (.bool true) ∧ Below w.heap.size w w') := fun w => by have := form_any ⟨4, n, z⟩ w; rwa [show decide (tokFault ⟨4, n, z⟩ ≠ 1) = true by simp [hf]] at this
  have HX : Hid (∀ w, LT w → Calls Tryd.prog 32 #[.int .i64 n] w fun e w' => e = .returned (.agg #[.int .i64 c, .string x]) ∧ Below w.heap.size w w') := hx
  clear hf hx
  go_enter Tryd.func15, Tryd.ntmps15
  go_wp2_with fail
  refine (HF.out _).mono ?_
  rintro e w1 ⟨rfl, hq⟩
  obtain ⟨hc, hf⟩ := bcell hq
  have hz1 : w.heap.size < w1.heap.size := by have := hq.size; simp at this; omega
  have hz2 : w.heap.size + 1 < w1.heap.size := by have := hq.size; simp at this; omega
  have HB : Hid (Below w.heap.size w w1) := (((Below.refl _ _).alloc (Nat.le_refl _) _).alloc (by simp) _).trans (hq.mono (by simp; omega))
  go_wp2_with fail
  refine (HX.out _ (hL.below HB.out)).mono ?_
  rintro e w2 ⟨rfl, hq2⟩
  obtain ⟨hc2, hf2⟩ := bcell hq2
  go_wp2
  exact bodyPost_ret (v := .agg #[.int .i64 c, .string x]) (by simp [results, Tryd.results15, go_sem, hc, hc2, hz2]) rfl ⟨rfl, by
    repeat (first | exact HB.out | refine Below.setCell ?_ (by simp) _ | refine Below.trans ?_ (hq2.mono (by omega)))⟩
theorem tt_5 (n : Int) (z : ByteArray) (c : Int) (x : ByteArray) (w : World) (hL : LT w) (hf : tokFault ⟨5, n, z⟩ ≠ 1) (hx : ∀ w, LT w → Calls Tryd.prog 33 #[.int .i64 n] w fun e w' => e = .returned (.agg #[.int .i64 c, .string x]) ∧ Below w.heap.size w w') :
    Calls Tryd.prog 15 #[(⟨5, n, z⟩ : Tok).val] w fun e w' => e = .returned (.agg #[.int .i64 c, .string x]) ∧ Below w.heap.size w w' := by
  have HF : Hid (∀ w, Calls Tryd.prog 31 #[(⟨5, n, z⟩ : Tok).val] w fun e w' => e = .returned (.bool true) ∧ Below w.heap.size w w') := fun w => by have := form_any ⟨5, n, z⟩ w; rwa [show decide (tokFault ⟨5, n, z⟩ ≠ 1) = true by simp [hf]] at this
  have HX : Hid (∀ w, LT w → Calls Tryd.prog 33 #[.int .i64 n] w fun e w' => e = .returned (.agg #[.int .i64 c, .string x]) ∧ Below w.heap.size w w') := hx
  clear hf hx
  go_enter Tryd.func15, Tryd.ntmps15
  go_wp2_with fail
  refine (HF.out _).mono ?_
  rintro e w1 ⟨rfl, hq⟩
  obtain ⟨hc, hf⟩ := bcell hq
  have hz1 : w.heap.size < w1.heap.size := by have := hq.size; simp at this; omega
  have hz2 : w.heap.size + 1 < w1.heap.size := by have := hq.size; simp at this; omega
  have HB : Hid (Below w.heap.size w w1) := (((Below.refl _ _).alloc (Nat.le_refl _) _).alloc (by simp) _).trans (hq.mono (by simp; omega))
  go_wp2_with fail
  refine (HX.out _ (hL.below HB.out)).mono ?_
  rintro e w2 ⟨rfl, hq2⟩
  obtain ⟨hc2, hf2⟩ := bcell hq2
  go_wp2
  exact bodyPost_ret (v := .agg #[.int .i64 c, .string x]) (by simp [results, Tryd.results15, go_sem, hc, hc2, hz2]) rfl ⟨rfl, by
    repeat (first | exact HB.out | refine Below.setCell ?_ (by simp) _ | refine Below.trans ?_ (hq2.mono (by omega)))⟩
theorem tt_6 (n : Int) (z : ByteArray) (c : Int) (x : ByteArray) (w : World) (hL : LT w) (hf : tokFault ⟨6, n, z⟩ ≠ 1) (hx : ∀ w, LT w → Calls Tryd.prog 34 #[.string z] w fun e w' => e = .returned (.agg #[.int .i64 c, .string x]) ∧ Below w.heap.size w w') :
    Calls Tryd.prog 15 #[(⟨6, n, z⟩ : Tok).val] w fun e w' => e = .returned (.agg #[.int .i64 c, .string x]) ∧ Below w.heap.size w w' := by
  have HF : Hid (∀ w, Calls Tryd.prog 31 #[(⟨6, n, z⟩ : Tok).val] w fun e w' => e = .returned (.bool true) ∧ Below w.heap.size w w') := fun w => by have := form_any ⟨6, n, z⟩ w; rwa [show decide (tokFault ⟨6, n, z⟩ ≠ 1) = true by simp [hf]] at this
  have HX : Hid (∀ w, LT w → Calls Tryd.prog 34 #[.string z] w fun e w' => e = .returned (.agg #[.int .i64 c, .string x]) ∧ Below w.heap.size w w') := hx
  clear hf hx
  go_enter Tryd.func15, Tryd.ntmps15
  go_wp2_with fail
  refine (HF.out _).mono ?_
  rintro e w1 ⟨rfl, hq⟩
  obtain ⟨hc, hf⟩ := bcell hq
  have hz1 : w.heap.size < w1.heap.size := by have := hq.size; simp at this; omega
  have hz2 : w.heap.size + 1 < w1.heap.size := by have := hq.size; simp at this; omega
  have HB : Hid (Below w.heap.size w w1) := (((Below.refl _ _).alloc (Nat.le_refl _) _).alloc (by simp) _).trans (hq.mono (by simp; omega))
  go_wp2_with fail
  refine (HX.out _ (hL.below HB.out)).mono ?_
  rintro e w2 ⟨rfl, hq2⟩
  obtain ⟨hc2, hf2⟩ := bcell hq2
  go_wp2
  exact bodyPost_ret (v := .agg #[.int .i64 c, .string x]) (by simp [results, Tryd.results15, go_sem, hc, hc2, hz2]) rfl ⟨rfl, by
    repeat (first | exact HB.out | refine Below.setCell ?_ (by simp) _ | refine Below.trans ?_ (hq2.mono (by omega)))⟩
theorem implTT_any (t : Tok) (w : World) (hL : LT w) (hz : t.name.size ≤ 281474976710656) :
    Calls Tryd.prog 15 #[t.val] w fun e w' => e = .returned (TT t) ∧ Below w.heap.size w w' := by
  by_cases hf : tokFault t = 1
  · have e : TT t = .agg #[.int .i64 1, .string E0] := by simp [TT, hf]
    rw [e]; exact tt_bad t w hf
  · obtain ⟨k, n, z⟩ := t
    have hk : k = 1 ∨ k = 2 ∨ k = 3 ∨ k = 4 ∨ k = 5 ∨ k = 6 := by
      have : 1 ≤ k ∧ k ≤ 6 := by
        by_cases h : 1 ≤ k ∧ k ≤ 6
        · exact h
        · exfalso; apply hf; unfold tokFault; rw [if_pos h]
      omega
    have hz' : z.size ≤ 281474976710656 := hz
    rcases hk with rfl | rfl | rfl | rfl | rfl | rfl
    · have e0 : tokFault ⟨1, n, z⟩ = 0 := by by_cases hn : n = 0 <;> by_cases hm : z.data.toList = [] <;> simp [tokFault, hn, hm] at hf ⊢
      have e : TT ⟨1, n, z⟩ = .agg #[.int .i64 0, .string ⟨#[40]⟩] := by simp [TT, e0, tokText]
      rw [e]; exact tt_1 n z w hf
    · have e0 : tokFault ⟨2, n, z⟩ = 0 := by by_cases hn : n = 0 <;> by_cases hm : z.data.toList = [] <;> simp [tokFault, hn, hm] at hf ⊢
      have e : TT ⟨2, n, z⟩ = .agg #[.int .i64 0, .string ⟨#[41]⟩] := by simp [TT, e0, tokText]
      rw [e]; exact tt_2 n z w hf
    · have e0 : tokFault ⟨3, n, z⟩ = 0 := by by_cases hn : n = 0 <;> by_cases hm : z.data.toList = [] <;> simp [tokFault, hn, hm] at hf ⊢
      have e : TT ⟨3, n, z⟩ = .agg #[.int .i64 0, .string ⟨#[39]⟩] := by simp [TT, e0, tokText]
      rw [e]; exact tt_3 n z w hf
    · have e0 : tokFault ⟨4, n, z⟩ = if inB n = true then 0 else 3 := by by_cases hm : z.data.toList = [] <;> simp [tokFault, hm] at hf ⊢
      cases hn : inB n
      · have e : TT ⟨4, n, z⟩ = .agg #[.int .i64 3, .string E0] := by simp [TT, e0, hn]
        rw [e]; exact tt_4 n z 3 E0 w hL hf (fun w hL => implText_no n w hn hL.et)
      · have e : TT ⟨4, n, z⟩ = .agg #[.int .i64 0, .string ⟨(itoa n).toArray⟩] := by simp [TT, e0, hn, tokText]
        rw [e]; exact tt_4 n z 0 _ w hL hf (fun w hL => implText_yes n w hn hL)
    · by_cases h0 : n = 0
      · subst h0
        have e0 : tokFault ⟨5, 0, z⟩ = 0 := by by_cases hm : z.data.toList = [] <;> simp [tokFault, hm] at hf ⊢
        have e : TT ⟨5, 0, z⟩ = .agg #[.int .i64 0, .string ⟨#[35, 102]⟩] := by simp [TT, e0, tokText]
        rw [e]; exact tt_5 0 z 0 _ w hL hf (fun w _ => bool_no w)
      · by_cases h1 : n = 1
        · subst h1
          have e0 : tokFault ⟨5, 1, z⟩ = 0 := by by_cases hm : z.data.toList = [] <;> simp [tokFault, hm] at hf ⊢
          have e : TT ⟨5, 1, z⟩ = .agg #[.int .i64 0, .string ⟨#[35, 116]⟩] := by simp [TT, e0, tokText]
          rw [e]; exact tt_5 1 z 0 _ w hL hf (fun w _ => bool_yes w)
        · have e0 : tokFault ⟨5, n, z⟩ = 3 := by
            have hb : ¬ (0 ≤ n ∧ n ≤ 1) := by omega
            by_cases hm : z.data.toList = []
            · unfold tokFault; simp only [hm]; rw [if_neg (by omega), if_neg (by omega), if_neg (by simp), if_neg (by omega), if_pos trivial, if_neg hb]
            · exfalso; apply hf; simp [tokFault, hm]
          have e : TT ⟨5, n, z⟩ = .agg #[.int .i64 3, .string E0] := by simp [TT, e0]
          rw [e]; exact tt_5 n z 3 E0 w hL hf (fun w _ => bool_out n w (by simpa using h0) (by simpa using h1))
    · have e0 : tokFault ⟨6, n, z⟩ = if symL z.data.toList = true then 0 else 5 := by by_cases hn : n = 0 <;> simp [tokFault, hn] at hf ⊢
      cases hs : symL z.data.toList
      · have e : TT ⟨6, n, z⟩ = .agg #[.int .i64 5, .string E0] := by simp [TT, e0, hs]
        rw [e]; exact tt_6 n z 5 E0 w hL hf (fun w _ => symT_no z w hz' hs)
      · have e : TT ⟨6, n, z⟩ = .agg #[.int .i64 0, .string z] := by simp [TT, e0, hs, tokText]
        rw [e]; exact tt_6 n z 0 z w hL hf (fun w _ => symT_yes z w hz' hs)
theorem specTT_any (t : Tok) (w : World) (hz : t.name.size ≤ 9223372036854775807) :
    Calls Tryd.prog 13 #[t.val] w fun e w' => e = .returned (TT t) ∧ Below w.heap.size w w' := by
  have HA : Hid (∀ o, TokAt w.heap.size 0 t ((w.alloc (.cells #[.int .i64 t.kind, .int .i64 t.num, .string t.name] 35)).alloc o)) := fun o => ⟨by simp, by simp, by simp⟩
  have HF : Hid (∀ o, Calls Tryd.prog 29 #[.pointer (some ⟨w.heap.size, 0, none⟩)] ((w.alloc (.cells #[.int .i64 t.kind, .int .i64 t.num, .string t.name] 35)).alloc o) fun e w' => e = .returned (.int .i64 (tokFault t)) ∧ w' = (w.alloc (.cells #[.int .i64 t.kind, .int .i64 t.num, .string t.name] 35)).alloc o) := fun o => l2Fault_any _ _ t _ hz (HA.out o)
  by_cases hf : tokFault t = 0
  · have HT : Hid (∀ o, Calls Tryd.prog 30 #[.pointer (some ⟨w.heap.size, 0, none⟩)] ((w.alloc (.cells #[.int .i64 t.kind, .int .i64 t.num, .string t.name] 35)).alloc o) fun e w' => e = .returned (.string (tokText t)) ∧ Below ((w.alloc (.cells #[.int .i64 t.kind, .int .i64 t.num, .string t.name] 35)).alloc o).heap.size ((w.alloc (.cells #[.int .i64 t.kind, .int .i64 t.num, .string t.name] 35)).alloc o) w') := fun o => l2Text_any _ _ t _ hf (HA.out o)
    have e : TT t = .agg #[.int .i64 0, .string (tokText t)] := by simp [TT, hf]
    rw [e]
    rw [hf] at HF
    clear e hf hz
    go_enter Tryd.func13, Tryd.ntmps13
    go_wp2_with (first | (go_at_call 29; refine (HF.out _).mono ?_; rintro e w' ⟨rfl, rfl⟩) | (go_at_call 30; refine (HT.out _).mono ?_; rintro e w1 ⟨rfl, hq⟩; obtain ⟨hc, hf⟩ := bcell hq))
    exact bodyPost_ret (v := .agg #[.int .i64 0, .string (tokText t)]) (by simp [results, Tryd.results13, go_sem, hc]) rfl ⟨rfl, by
      repeat (first | exact Below.refl _ _ | refine Below.setCell ?_ (by simp) _ | refine Below.trans ?_ (hq.mono (by simp; omega)) | refine Below.alloc ?_ (by simp <;> omega) _)⟩
  · have e : TT t = .agg #[.int .i64 (tokFault t), .string E0] := by simp [TT, hf]
    have hf' : (tokFault t != 0) = true := by simpa using hf
    rw [e]
    clear e hf hz
    go_enter Tryd.func13, Tryd.ntmps13
    go_wp2_with (go_at_call 29; refine (HF.out _).mono ?_; rintro e w' ⟨rfl, rfl⟩)
    exact bodyPost_ret (v := .agg #[.int .i64 (tokFault t), .string E0]) (by simp [results, Tryd.results13, go_sem]) rfl ⟨rfl, by
      repeat (first | exact Below.refl _ _ | refine Below.setCell ?_ (by simp) _ | refine Below.alloc ?_ (by simp <;> omega) _)⟩
end Go.Proofs.YtnlfnicgfhfpfaaDoor

