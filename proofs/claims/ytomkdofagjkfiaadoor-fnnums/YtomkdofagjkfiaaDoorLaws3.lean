/-
  The exact law of ParseNum answers true at every text, in every world in which the listed variables hold what the program's text lays; nothing that was there is turned.
-/
import Derived.Test.YtomkdofagjkfiaaDoorParse3
import Derived.Test.YtomkdofagjkfiaaDoorLaws1
namespace Go.Proofs.YtomkdofagjkfiaaDoor
open Go.RowKit Go.Extern.Stop Go.Stop Go.Extern Num Go.Lib

theorem specParse_good (s : ByteArray) (w : World) (hs : s.size ≤ 9223372036854775807) (v : Int) (hv : inB v = true) (h : itoa v = s.data.toList) :
    Calls Tryd.prog 17 #[.string s] w fun e w' => e = .returned (IR 0 v) ∧ Below w.heap.size w w' := by
  have HP : Hid (∀ w, Calls Tryd.prog 43 #[.string s] w fun e w' => e = .returned (.tuple #[.int .i64 v, .bool true]) ∧ Below w.heap.size w w') := fun w => by
    refine (l1Parse_any s w hs).mono ?_
    rintro e w' ⟨n, b, rfl, h1 | h1, hq⟩
    · obtain ⟨rfl, h2, h3⟩ := h1
      have : n = v := itoa_inj (h3.trans h.symm)
      subst this
      exact ⟨rfl, hq⟩
    · exact absurd h (h1.2 v hv)
  clear hv h
  go_enter Tryd.func17, Tryd.ntmps17
  go_wp2_with (go_at_call 43; refine (HP.out _).mono ?_; rintro e w1 ⟨rfl, hq⟩; obtain ⟨hc, hf⟩ := bcell hq)
  exact bodyPost_ret (v := IR 0 v) (by simp [results, Tryd.results17, go_sem, hc]) rfl ⟨rfl, by
    repeat (first | exact Below.refl _ _ | refine Below.setCell ?_ (by simp) _ | refine Below.trans ?_ (hq.mono (by simp)) | refine Below.alloc ?_ (by simp <;> omega) _)⟩
theorem specParse_bad (s : ByteArray) (w : World) (hs : s.size ≤ 9223372036854775807) (h : ∀ v, inB v = true → itoa v ≠ s.data.toList) :
    Calls Tryd.prog 17 #[.string s] w fun e w' => e = .returned (IR 5 0) ∧ Below w.heap.size w w' := by
  have HP : Hid (∀ w, Calls Tryd.prog 43 #[.string s] w fun e w' => ∃ n, e = .returned (.tuple #[.int .i64 n, .bool false]) ∧ Below w.heap.size w w') := fun w => by
    refine (l1Parse_any s w hs).mono ?_
    rintro e w' ⟨n, b, rfl, h1 | h1, hq⟩
    · exact absurd h1.2.2 (h n h1.2.1)
    · obtain ⟨rfl, _⟩ := h1
      exact ⟨n, rfl, hq⟩
  clear h
  go_enter Tryd.func17, Tryd.ntmps17
  go_wp2_with (go_at_call 43; refine (HP.out _).mono ?_; rintro e w1 ⟨n, rfl, hq⟩; obtain ⟨hc, hf⟩ := bcell hq)
  exact bodyPost_ret (v := IR 5 0) (by simp [results, Tryd.results17, go_sem, hc]) rfl ⟨rfl, by
    repeat (first | exact Below.refl _ _ | refine Below.setCell ?_ (by simp) _ | refine Below.trans ?_ (hq.mono (by simp)) | refine Below.alloc ?_ (by simp <;> omega) _)⟩

theorem lawParse_long (s : ByteArray) (w : World) (h : 1048576 < (s.size : Int)) :
    Calls Tryd.prog 12 #[.string s] w fun e w' => e = .returned (.bool true) ∧ Below w.heap.size w w' := by
  go_enter Tryd.func12, Tryd.ntmps12
  go_wp2
  go_ret
  exact ⟨rfl, Below.refl _ _⟩
theorem lawParse_of (s : ByteArray) (c v : Int) (w : World) (hL : LW w) (h : ¬ 1048576 < (s.size : Int))
    (hs : ∀ w, Calls Tryd.prog 17 #[.string s] w fun e w' => e = .returned (IR c v) ∧ Below w.heap.size w w')
    (hi : ∀ w, LW w → Calls Tryd.prog 15 #[.string s] w fun e w' => e = .returned (IR c v) ∧ Below w.heap.size w w') :
    Calls Tryd.prog 12 #[.string s] w fun e w' => e = .returned (.bool true) ∧ Below w.heap.size w w' := by
  have HS : Hid (∀ w, Calls Tryd.prog 17 #[.string s] w fun e w' => e = .returned (IR c v) ∧ Below w.heap.size w w') := hs
  have HI : Hid (∀ w, LW w → Calls Tryd.prog 15 #[.string s] w fun e w' => e = .returned (IR c v) ∧ Below w.heap.size w w') := hi
  clear hs hi
  go_enter Tryd.func12, Tryd.ntmps12
  go_wp2_with fail
  refine (HS.out _).mono ?_
  rintro e w1 ⟨rfl, h1⟩
  go_wp2_with fail
  refine (HI.out _ ((hL.below h1).alloc _)).mono ?_
  rintro e w2 ⟨rfl, h2⟩
  obtain ⟨hc, hf⟩ := bcell h2
  have hz : w1.heap.size < w2.heap.size := by have := h2.size; simp at this; omega
  go_wp2_with (go_at_call 30; refine (eqIR_same _ _ _).mono ?_; rintro e w3 ⟨rfl, h3⟩)
  go_ret
  refine ⟨rfl, ?_⟩
  have s1 := h1.size
  have s2 : w1.heap.size + 1 ≤ w2.heap.size := hz
  refine Below.trans ?_ (h3.mono (by simp; omega))
  refine Below.alloc ?_ (by omega) _
  refine Below.trans ?_ (h2.mono (by simp; omega))
  exact Below.alloc h1 (by omega) _
theorem lawParse_any (s : ByteArray) (w : World) (hs : s.size ≤ 9223372036854775807) (hL : LW w) :
    Calls Tryd.prog 12 #[.string s] w fun e w' => e = .returned (.bool true) ∧ Below w.heap.size w w' := by
  by_cases hl : 1048576 < (s.size : Int)
  · exact lawParse_long s w hl
  · by_cases h : ∃ v, inB v = true ∧ itoa v = s.data.toList
    · obtain ⟨v, hv, e⟩ := h
      exact lawParse_of s _ _ w hL hl (fun w => specParse_good s w hs v hv e) (fun w hL => implParse_good s w v hv e hL)
    · have hb : ∀ v, inB v = true → itoa v ≠ s.data.toList := fun v hv e => h ⟨v, hv, e⟩
      exact lawParse_of s _ _ w hL hl (fun w => specParse_bad s w hs hb) (fun w hL => implParse_bad s w hs hb hL)
end Go.Proofs.YtomkdofagjkfiaaDoor
