/-
  The model's l2Word: a word as a token, or that it is none; nothing that was there is turned.
-/
import Derived.Test.YtoljpgpkeploiaaDoorTok
import Derived.Test.YtoljpgpkeploiaaDoorParse3
namespace Go.Proofs.YtoljpgpkeploiaaDoor
open Go.RowKit Go.Extern.Stop Go.Stop Go.Extern Num Go.Lib

theorem l1Parse_some (s : ByteArray) (w : World) (hs : s.size ≤ 9223372036854775807) {v : Int} (h : numOf s.data.toList = some v) :
    Calls Tryd.prog 110 #[.string s] w fun e w' => e = .returned (.tuple #[.int .i64 v, .bool true]) ∧ Below w.heap.size w w' := by
  refine (l1Parse_any s w hs).mono ?_
  rintro e w' ⟨n, b, rfl, h1 | h1, hq⟩
  · obtain ⟨rfl, h2, h3⟩ := h1
    have e := numOf_of h2 h3
    rw [h] at e
    obtain rfl := Option.some.inj e
    exact ⟨rfl, hq⟩
  · obtain ⟨h2, h3⟩ := numOf_some h
    exact absurd h3 (h1.2 v h2)
theorem l1Parse_none (s : ByteArray) (w : World) (hs : s.size ≤ 9223372036854775807) (h : numOf s.data.toList = none) :
    Calls Tryd.prog 110 #[.string s] w fun e w' => ∃ n, e = .returned (.tuple #[.int .i64 n, .bool false]) ∧ Below w.heap.size w w' := by
  refine (l1Parse_any s w hs).mono ?_
  rintro e w' ⟨n, b, rfl, h1 | h1, hq⟩
  · exact absurd h1.2.2 (numOf_none h n h1.2.1)
  · obtain ⟨rfl, _⟩ := h1
    exact ⟨n, rfl, hq⟩
theorem l2Word_num (s : ByteArray) (w : World) (hs : s.size ≤ 9223372036854775807) {v : Int} (h : numOf s.data.toList = some v) :
    Calls Tryd.prog 88 #[.string s] w fun e w' => e = .returned (.tuple #[(⟨4, v, E0⟩ : Tok).val, .bool true]) ∧ Below w.heap.size w w' := by
  have HP : Hid (∀ w, Calls Tryd.prog 110 #[.string s] w fun e w' => e = .returned (.tuple #[.int .i64 v, .bool true]) ∧ Below w.heap.size w w') := fun w => l1Parse_some s w hs h
  clear h
  go_enter Tryd.func88, Tryd.ntmps88
  go_wp2_with (go_at_call 110; refine (HP.out _).mono ?_; rintro e w1 ⟨rfl, hq⟩; obtain ⟨hc, hf⟩ := bcell hq)
  exact bodyPost_ret (v := .tuple #[(⟨4, v, E0⟩ : Tok).val, .bool true]) (by simp [results, Tryd.results88, go_sem, hc]) rfl ⟨rfl, by
    repeat (first | exact Below.refl _ _ | refine Below.setCell ?_ (by simp) _ | refine Below.trans ?_ (hq.mono (by simp)) | refine Below.alloc ?_ (by simp <;> omega) _)⟩
theorem l2Word_t (s : ByteArray) (w : World) (hs : s.size ≤ 9223372036854775807) (h : numOf s.data.toList = none) (h1 : s.data.toList = [35, 116]) :
    Calls Tryd.prog 88 #[.string s] w fun e w' => e = .returned (.tuple #[(⟨5, 1, E0⟩ : Tok).val, .bool true]) ∧ Below w.heap.size w w' := by
  have HP : Hid (∀ w, Calls Tryd.prog 110 #[.string s] w fun e w' => ∃ n, e = .returned (.tuple #[.int .i64 n, .bool false]) ∧ Below w.heap.size w w') := fun w => l1Parse_none s w hs h
  have c1 : (s.toList == [35, 116]) = true := by rw [ByteArray.toList_eq, h1]; rfl
  clear h h1
  go_enter Tryd.func88, Tryd.ntmps88
  go_wp2_with (go_at_call 110; refine (HP.out _).mono ?_; rintro e w1 ⟨n, rfl, hq⟩; obtain ⟨hc, hf⟩ := bcell hq)
  exact bodyPost_ret (v := .tuple #[(⟨5, 1, E0⟩ : Tok).val, .bool true]) (by simp [results, Tryd.results88, go_sem, hc]) rfl ⟨rfl, by
    repeat (first | exact Below.refl _ _ | refine Below.setCell ?_ (by simp) _ | refine Below.trans ?_ (hq.mono (by simp)) | refine Below.alloc ?_ (by simp <;> omega) _)⟩
theorem l2Word_f (s : ByteArray) (w : World) (hs : s.size ≤ 9223372036854775807) (h : numOf s.data.toList = none) (h1 : s.data.toList = [35, 102]) :
    Calls Tryd.prog 88 #[.string s] w fun e w' => e = .returned (.tuple #[(⟨5, 0, E0⟩ : Tok).val, .bool true]) ∧ Below w.heap.size w w' := by
  have HP : Hid (∀ w, Calls Tryd.prog 110 #[.string s] w fun e w' => ∃ n, e = .returned (.tuple #[.int .i64 n, .bool false]) ∧ Below w.heap.size w w') := fun w => l1Parse_none s w hs h
  have c1 : (s.toList == [35, 116]) = false := by rw [ByteArray.toList_eq, h1]; rfl
  have c2 : (s.toList == [35, 102]) = true := by rw [ByteArray.toList_eq, h1]; rfl
  clear h h1
  go_enter Tryd.func88, Tryd.ntmps88
  go_wp2_with (go_at_call 110; refine (HP.out _).mono ?_; rintro e w1 ⟨n, rfl, hq⟩; obtain ⟨hc, hf⟩ := bcell hq)
  exact bodyPost_ret (v := .tuple #[(⟨5, 0, E0⟩ : Tok).val, .bool true]) (by simp [results, Tryd.results88, go_sem, hc]) rfl ⟨rfl, by
    repeat (first | exact Below.refl _ _ | refine Below.setCell ?_ (by simp) _ | refine Below.trans ?_ (hq.mono (by simp)) | refine Below.alloc ?_ (by simp <;> omega) _)⟩
theorem l2Word_sym (s : ByteArray) (w : World) (hs : s.size ≤ 9223372036854775807) (h : numOf s.data.toList = none) (h1 : s.data.toList ≠ [35, 116]) (h2 : s.data.toList ≠ [35, 102]) :
    Calls Tryd.prog 88 #[.string s] w fun e w' => e = .returned (.tuple #[(⟨6, 0, s⟩ : Tok).val, .bool (symL s.data.toList)]) ∧ Below w.heap.size w w' := by
  have HP : Hid (∀ w, Calls Tryd.prog 110 #[.string s] w fun e w' => ∃ n, e = .returned (.tuple #[.int .i64 n, .bool false]) ∧ Below w.heap.size w w') := fun w => l1Parse_none s w hs h
  have HS : Hid (∀ w, Calls Tryd.prog 55 #[.string s] w fun e w' => e = .returned (.bool (symL s.data.toList)) ∧ w' = w) := fun w => sym_any s w hs
  have c1 := ne_list h1
  have c2 := ne_list h2
  clear h h1 h2
  go_enter Tryd.func88, Tryd.ntmps88
  go_wp2_with (first | (go_at_call 110; refine (HP.out _).mono ?_; rintro e w1 ⟨n, rfl, hq⟩; obtain ⟨hc, hf⟩ := bcell hq) | (go_at_call 55; refine (HS.out _).mono ?_; rintro e w2 ⟨rfl, rfl⟩))
  exact bodyPost_ret (v := .tuple #[(⟨6, 0, s⟩ : Tok).val, .bool (symL s.data.toList)]) (by simp [results, Tryd.results88, go_sem, hc]) rfl ⟨rfl, by
    repeat (first | exact Below.refl _ _ | refine Below.setCell ?_ (by simp) _ | refine Below.trans ?_ (hq.mono (by simp)) | refine Below.alloc ?_ (by simp <;> omega) _)⟩
/-- A word as a token, or that it is none. -/
theorem l2Word_any (s : ByteArray) (w : World) (hs : s.size ≤ 9223372036854775807) :
    Calls Tryd.prog 88 #[.string s] w fun e w' => (∃ t b, e = .returned (.tuple #[t.val, .bool b]) ∧ ((b = true ∧ wordTok s = some t) ∨ (b = false ∧ wordTok s = none))) ∧ Below w.heap.size w w' := by
  cases hn : numOf s.data.toList with
  | some v => exact (l2Word_num s w hs hn).mono fun e w' h => ⟨⟨_, _, h.1, Or.inl ⟨rfl, wordTok_num hn⟩⟩, h.2⟩
  | none =>
    by_cases h1 : s.data.toList = [35, 116]
    · exact (l2Word_t s w hs hn h1).mono fun e w' h => ⟨⟨_, _, h.1, Or.inl ⟨rfl, wordTok_t h1⟩⟩, h.2⟩
    · by_cases h2 : s.data.toList = [35, 102]
      · exact (l2Word_f s w hs hn h2).mono fun e w' h => ⟨⟨_, _, h.1, Or.inl ⟨rfl, wordTok_f h2⟩⟩, h.2⟩
      · have ew := wordTok_sym hn h1 h2
        refine (l2Word_sym s w hs hn h1 h2).mono fun e w' h => ⟨⟨_, _, h.1, ?_⟩, h.2⟩
        cases hy : symL s.data.toList
        · exact Or.inr ⟨rfl, by rw [ew, hy]; rfl⟩
        · exact Or.inl ⟨rfl, by rw [ew, hy]; rfl⟩
end Go.Proofs.YtoljpgpkeploiaaDoor
