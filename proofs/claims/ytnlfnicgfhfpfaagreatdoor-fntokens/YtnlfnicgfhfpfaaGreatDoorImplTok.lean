/-
  The program's readToken: what a text is as a token, or that it is none; nothing that was there is turned.
-/
import Derived.Test.YtnlfnicgfhfpfaaGreatDoorSpecWord
import Derived.Test.YtnlfnicgfhfpfaaGreatDoorImplSym
import Derived.Test.YtnlfnicgfhfpfaaGreatDoorClone
namespace Go.Proofs.YtnlfnicgfhfpfaaGreatDoor
open Go.RowKit Go.Extern.Stop Go.Stop Go.Extern Num Go.Lib

/-- A text as a token, marks among them. -/
def readTok (s : ByteArray) : Option Tok :=
  if s.data.toList = [40] then some ⟨1, 0, E0⟩ else if s.data.toList = [41] then some ⟨2, 0, E0⟩ else if s.data.toList = [39] then some ⟨3, 0, E0⟩ else wordTok s
theorem eq_list {s : ByteArray} {l : List UInt8} (h : s.data.toList = l) : (s.toList == l) = true := by
  rw [ByteArray.toList_eq, h]; simp
theorem readTok_40 (s : ByteArray) (w : World) (h : s.data.toList = [40]) :
    Calls Tryz.prog 49 #[.string s] w fun e w' => e = .returned (.tuple #[(⟨1, 0, E0⟩ : Tok).val, .bool true]) ∧ Below w.heap.size w w' := by
  have c := eq_list h
  clear h
  go_enter Tryz.func49, Tryz.ntmps49
  go_wp2
  exact bodyPost_ret (v := .tuple #[(⟨1, 0, E0⟩ : Tok).val, .bool true]) (by simp [results, Tryz.results49, go_sem]) rfl ⟨rfl, by
    repeat (first | exact Below.refl _ _ | refine Below.setCell ?_ (by simp) _ | refine Below.alloc ?_ (by simp <;> omega) _)⟩
theorem readTok_41 (s : ByteArray) (w : World) (h0 : s.data.toList ≠ [40]) (h : s.data.toList = [41]) :
    Calls Tryz.prog 49 #[.string s] w fun e w' => e = .returned (.tuple #[(⟨2, 0, E0⟩ : Tok).val, .bool true]) ∧ Below w.heap.size w w' := by
  have c0 := ne_list h0
  clear h0
  have c := eq_list h
  clear h
  go_enter Tryz.func49, Tryz.ntmps49
  go_wp2
  exact bodyPost_ret (v := .tuple #[(⟨2, 0, E0⟩ : Tok).val, .bool true]) (by simp [results, Tryz.results49, go_sem]) rfl ⟨rfl, by
    repeat (first | exact Below.refl _ _ | refine Below.setCell ?_ (by simp) _ | refine Below.alloc ?_ (by simp <;> omega) _)⟩
theorem readTok_39 (s : ByteArray) (w : World) (h0 : s.data.toList ≠ [40]) (h1 : s.data.toList ≠ [41]) (h : s.data.toList = [39]) :
    Calls Tryz.prog 49 #[.string s] w fun e w' => e = .returned (.tuple #[(⟨3, 0, E0⟩ : Tok).val, .bool true]) ∧ Below w.heap.size w w' := by
  have c0 := ne_list h0
  clear h0
  have c1 := ne_list h1
  clear h1
  have c := eq_list h
  clear h
  go_enter Tryz.func49, Tryz.ntmps49
  go_wp2
  exact bodyPost_ret (v := .tuple #[(⟨3, 0, E0⟩ : Tok).val, .bool true]) (by simp [results, Tryz.results49, go_sem]) rfl ⟨rfl, by
    repeat (first | exact Below.refl _ _ | refine Below.setCell ?_ (by simp) _ | refine Below.alloc ?_ (by simp <;> omega) _)⟩
theorem readTok_t (s : ByteArray) (w : World) (h0 : s.data.toList ≠ [40]) (h1 : s.data.toList ≠ [41]) (h2 : s.data.toList ≠ [39]) (h : s.data.toList = [35, 116]) :
    Calls Tryz.prog 49 #[.string s] w fun e w' => e = .returned (.tuple #[(⟨5, 1, E0⟩ : Tok).val, .bool true]) ∧ Below w.heap.size w w' := by
  have c0 := ne_list h0
  clear h0
  have c1 := ne_list h1
  clear h1
  have c2 := ne_list h2
  clear h2
  have c := eq_list h
  clear h
  go_enter Tryz.func49, Tryz.ntmps49
  go_wp2
  exact bodyPost_ret (v := .tuple #[(⟨5, 1, E0⟩ : Tok).val, .bool true]) (by simp [results, Tryz.results49, go_sem]) rfl ⟨rfl, by
    repeat (first | exact Below.refl _ _ | refine Below.setCell ?_ (by simp) _ | refine Below.alloc ?_ (by simp <;> omega) _)⟩
theorem readTok_f (s : ByteArray) (w : World) (h0 : s.data.toList ≠ [40]) (h1 : s.data.toList ≠ [41]) (h2 : s.data.toList ≠ [39]) (h3 : s.data.toList ≠ [35, 116]) (h : s.data.toList = [35, 102]) :
    Calls Tryz.prog 49 #[.string s] w fun e w' => e = .returned (.tuple #[(⟨5, 0, E0⟩ : Tok).val, .bool true]) ∧ Below w.heap.size w w' := by
  have c0 := ne_list h0
  clear h0
  have c1 := ne_list h1
  clear h1
  have c2 := ne_list h2
  clear h2
  have c3 := ne_list h3
  clear h3
  have c := eq_list h
  clear h
  go_enter Tryz.func49, Tryz.ntmps49
  go_wp2
  exact bodyPost_ret (v := .tuple #[(⟨5, 0, E0⟩ : Tok).val, .bool true]) (by simp [results, Tryz.results49, go_sem]) rfl ⟨rfl, by
    repeat (first | exact Below.refl _ _ | refine Below.setCell ?_ (by simp) _ | refine Below.alloc ?_ (by simp <;> omega) _)⟩
theorem readTok_num (s : ByteArray) (w : World) (h0 : s.data.toList ≠ [40]) (h1 : s.data.toList ≠ [41]) (h2 : s.data.toList ≠ [39]) (h3 : s.data.toList ≠ [35, 116]) (h4 : s.data.toList ≠ [35, 102]) (hL : LR w) {v : Int} (h : numOf s.data.toList = some v) :
    Calls Tryz.prog 49 #[.string s] w fun e w' => e = .returned (.tuple #[(⟨4, v, E0⟩ : Tok).val, .bool true]) ∧ Below w.heap.size w w' := by
  have c0 := ne_list h0
  clear h0
  have c1 := ne_list h1
  clear h1
  have c2 := ne_list h2
  clear h2
  have c3 := ne_list h3
  clear h3
  have c4 := ne_list h4
  clear h4
  have HP : Hid (∀ w, LR w → Calls Tryz.prog 60 #[.string s] w fun e w' => e = .returned (.tuple #[.int .i64 v, .nilIface]) ∧ Below w.heap.size w w') := fun w hL => read_good s w v (numOf_some h).1 (numOf_some h).2 hL
  clear h
  go_enter Tryz.func49, Tryz.ntmps49
  go_wp2_with (go_at_call 60; refine (HP.out _ (hL.alloc _)).mono ?_; rintro e w1 ⟨rfl, hq⟩; obtain ⟨hc, hf⟩ := bcell hq)
  exact bodyPost_ret (v := .tuple #[(⟨4, v, E0⟩ : Tok).val, .bool true]) (by simp [results, Tryz.results49, go_sem, hc]) rfl ⟨rfl, by
    repeat (first | exact Below.refl _ _ | refine Below.setCell ?_ (by simp) _ | refine Below.trans ?_ (hq.mono (by simp)) | refine Below.alloc ?_ (by simp <;> omega) _)⟩
theorem readTok_sym (s : ByteArray) (w : World) (hs : s.size ≤ 281474976710656) (h0 : s.data.toList ≠ [40]) (h1 : s.data.toList ≠ [41]) (h2 : s.data.toList ≠ [39]) (h3 : s.data.toList ≠ [35, 116]) (h4 : s.data.toList ≠ [35, 102]) (hL : LR w) (h : numOf s.data.toList = none) (hy : symL s.data.toList = true) :
    Calls Tryz.prog 49 #[.string s] w fun e w' => e = .returned (.tuple #[(⟨6, 0, s⟩ : Tok).val, .bool true]) ∧ Below w.heap.size w w' := by
  have c0 := ne_list h0
  clear h0
  have c1 := ne_list h1
  clear h1
  have c2 := ne_list h2
  clear h2
  have c3 := ne_list h3
  clear h3
  have c4 := ne_list h4
  clear h4
  have HP : Hid (∀ w, LR w → Calls Tryz.prog 60 #[.string s] w fun e w' => e = .returned (.tuple #[.int .i64 0, NN 5]) ∧ Below w.heap.size w w') := fun w hL => read_bad s w (by omega) (numOf_none h) hL
  have HS : Hid (∀ w, Calls Tryz.prog 29 #[.string s] w fun e w' => e = .returned (.bool true) ∧ w' = w) := fun w => by have := isSym_any s w (by omega); rwa [hy] at this
  clear h hy
  go_enter Tryz.func49, Tryz.ntmps49
  go_wp2_with fail
  refine (HP.out _ (hL.alloc _)).mono ?_
  rintro e w1 ⟨rfl, hq⟩
  obtain ⟨hc, hf⟩ := bcell hq
  have hz : w.heap.size < w1.heap.size := by have := hq.size; simp at this; omega
  go_wp2_with fail
  refine (HS.out _).mono ?_
  rintro e w2 ⟨rfl, rfl⟩
  go_wp2_with fail
  refine (clone_any _ _ hs).mono ?_
  rintro e w3 ⟨rfl, hq3⟩
  obtain ⟨hc3, hf3⟩ := bcell hq3
  go_wp2
  exact bodyPost_ret (v := .tuple #[(⟨6, 0, s⟩ : Tok).val, .bool true]) (by simp [results, Tryz.results49, go_sem, hc, hc3, hz]) rfl ⟨rfl, by
    repeat (first | exact Below.refl _ _ | refine Below.setCell ?_ (by simp) _ | refine Below.trans ?_ (hq3.mono (by omega)) | refine Below.trans ?_ (hq.mono (by simp)) | refine Below.alloc ?_ (by simp <;> omega) _)⟩
theorem readTok_no (s : ByteArray) (w : World) (hs : s.size ≤ 281474976710656) (h0 : s.data.toList ≠ [40]) (h1 : s.data.toList ≠ [41]) (h2 : s.data.toList ≠ [39]) (h3 : s.data.toList ≠ [35, 116]) (h4 : s.data.toList ≠ [35, 102]) (hL : LR w) (h : numOf s.data.toList = none) (hy : symL s.data.toList = false) :
    Calls Tryz.prog 49 #[.string s] w fun e w' => e = .returned (.tuple #[(⟨0, 0, E0⟩ : Tok).val, .bool false]) ∧ Below w.heap.size w w' := by
  have c0 := ne_list h0
  clear h0
  have c1 := ne_list h1
  clear h1
  have c2 := ne_list h2
  clear h2
  have c3 := ne_list h3
  clear h3
  have c4 := ne_list h4
  clear h4
  have HP : Hid (∀ w, LR w → Calls Tryz.prog 60 #[.string s] w fun e w' => e = .returned (.tuple #[.int .i64 0, NN 5]) ∧ Below w.heap.size w w') := fun w hL => read_bad s w (by omega) (numOf_none h) hL
  have HS : Hid (∀ w, Calls Tryz.prog 29 #[.string s] w fun e w' => e = .returned (.bool false) ∧ w' = w) := fun w => by have := isSym_any s w (by omega); rwa [hy] at this
  clear h hy
  go_enter Tryz.func49, Tryz.ntmps49
  go_wp2_with fail
  refine (HP.out _ (hL.alloc _)).mono ?_
  rintro e w1 ⟨rfl, hq⟩
  obtain ⟨hc, hf⟩ := bcell hq
  go_wp2_with fail
  refine (HS.out _).mono ?_
  rintro e w2 ⟨rfl, rfl⟩
  go_wp2
  exact bodyPost_ret (v := .tuple #[(⟨0, 0, E0⟩ : Tok).val, .bool false]) (by simp [results, Tryz.results49, go_sem, hc]) rfl ⟨rfl, by
    repeat (first | exact Below.refl _ _ | refine Below.setCell ?_ (by simp) _ | refine Below.trans ?_ (hq.mono (by simp)) | refine Below.alloc ?_ (by simp <;> omega) _)⟩
/-- A text as a token, or that it is none. -/
theorem readToken_any (s : ByteArray) (w : World) (hs : s.size ≤ 281474976710656) (hL : LR w) :
    Calls Tryz.prog 49 #[.string s] w fun e w' => (∃ t b, e = .returned (.tuple #[t.val, .bool b]) ∧ ((b = true ∧ readTok s = some t) ∨ (b = false ∧ readTok s = none))) ∧ Below w.heap.size w w' := by
  by_cases h0 : s.data.toList = [40]
  · exact (readTok_40 s w h0).mono fun e w' h => ⟨⟨_, _, h.1, Or.inl ⟨rfl, by unfold readTok; rw [if_pos h0]⟩⟩, h.2⟩
  · by_cases h1 : s.data.toList = [41]
    · exact (readTok_41 s w h0 h1).mono fun e w' h => ⟨⟨_, _, h.1, Or.inl ⟨rfl, by unfold readTok; rw [if_neg h0, if_pos h1]⟩⟩, h.2⟩
    · by_cases h2 : s.data.toList = [39]
      · exact (readTok_39 s w h0 h1 h2).mono fun e w' h => ⟨⟨_, _, h.1, Or.inl ⟨rfl, by unfold readTok; rw [if_neg h0, if_neg h1, if_pos h2]⟩⟩, h.2⟩
      · have er : readTok s = wordTok s := by unfold readTok; rw [if_neg h0, if_neg h1, if_neg h2]
        rw [er]
        by_cases h3 : s.data.toList = [35, 116]
        · exact (readTok_t s w h0 h1 h2 h3).mono fun e w' h => ⟨⟨_, _, h.1, Or.inl ⟨rfl, wordTok_t h3⟩⟩, h.2⟩
        · by_cases h4 : s.data.toList = [35, 102]
          · exact (readTok_f s w h0 h1 h2 h3 h4).mono fun e w' h => ⟨⟨_, _, h.1, Or.inl ⟨rfl, wordTok_f h4⟩⟩, h.2⟩
          · cases hn : numOf s.data.toList with
            | some v => exact (readTok_num s w h0 h1 h2 h3 h4 hL hn).mono fun e w' h => ⟨⟨_, _, h.1, Or.inl ⟨rfl, wordTok_num hn⟩⟩, h.2⟩
            | none =>
              have ew := wordTok_sym hn h3 h4
              cases hy : symL s.data.toList
              · exact (readTok_no s w hs h0 h1 h2 h3 h4 hL hn hy).mono fun e w' h => ⟨⟨_, _, h.1, Or.inr ⟨rfl, by rw [ew, hy]; rfl⟩⟩, h.2⟩
              · exact (readTok_sym s w hs h0 h1 h2 h3 h4 hL hn hy).mono fun e w' h => ⟨⟨_, _, h.1, Or.inl ⟨rfl, by rw [ew, hy]; rfl⟩⟩, h.2⟩
end Go.Proofs.YtnlfnicgfhfpfaaGreatDoor
