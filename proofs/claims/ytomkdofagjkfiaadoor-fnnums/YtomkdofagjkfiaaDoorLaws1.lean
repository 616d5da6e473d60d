/-
  The exact laws of NumFault, AddNum, SubNum, MulNum, QuoNum and RemNum answer true at every argument, in every world in which errors.errorType holds what the program's text lays; nothing that was there is turned.
-/
import Derived.Test.YtomkdofagjkfiaaDoorComb
namespace Go.Proofs.YtomkdofagjkfiaaDoor
open Go.RowKit Go.Extern.Stop Go.Stop Go.Extern Num

theorem eqIR_same (c v : Int) (w : World) :
    Calls Tryd.prog 30 #[IR c v, IR c v] w fun e w' => e = .returned (.bool true) ∧ Below w.heap.size w w' := by
  go_enter Tryd.func30, Tryd.ntmps30
  go_wp2
  go_ret
  refine ⟨rfl, ?_⟩
  repeat (first | exact Below.refl _ _ | refine Below.setCell ?_ (by simp) _ | refine Below.alloc ?_ (by simp <;> omega) _ | refine Below.drew ?_)

theorem lawFault_in (n : Int) (w : World) (h : inB n = true) :
    Calls Tryd.prog 5 #[.int .i64 n] w fun e w' => e = .returned (.bool true) ∧ Below w.heap.size w w' := by
  have HC : Hid (inB n = true) := h
  clear h
  go_enter Tryd.func5, Tryd.ntmps5
  go_wp2_with (first | (go_at_call 22; refine (specFault_yes _ _ HC.out).mono ?_; rintro e w' ⟨rfl, rfl⟩) | (go_at_call 21; refine (implFault_yes _ _ HC.out).mono ?_; rintro e w1 ⟨rfl, hq⟩))
  go_ret
  exact ⟨rfl, hq⟩
theorem lawFault_out (n : Int) (w : World) (h : inB n = false) (hE : ET w) :
    Calls Tryd.prog 5 #[.int .i64 n] w fun e w' => e = .returned (.bool true) ∧ Below w.heap.size w w' := by
  have HC : Hid (inB n = false) := h
  clear h
  go_enter Tryd.func5, Tryd.ntmps5
  go_wp2_with (first | (go_at_call 22; refine (specFault_no _ _ HC.out).mono ?_; rintro e w' ⟨rfl, rfl⟩) | (go_at_call 21; refine (implFault_no _ _ HC.out hE).mono ?_; rintro e w1 ⟨rfl, hq⟩))
  go_ret
  exact ⟨rfl, hq⟩
theorem lawFault_any (n : Int) (w : World) (hE : ET w) :
    Calls Tryd.prog 5 #[.int .i64 n] w fun e w' => e = .returned (.bool true) ∧ Below w.heap.size w w' := by
  cases h : inB n
  · exact lawFault_out n w h hE
  · exact lawFault_in n w h

theorem lawAdd_of (a b c v : Int) (w : World) (hE : ET w)
    (hs : ∀ w, Calls Tryd.prog 20 #[.int .i64 a, .int .i64 b] w fun e w' => e = .returned (IR c v) ∧ Below w.heap.size w w')
    (hi : ∀ w, ET w → Calls Tryd.prog 19 #[.int .i64 a, .int .i64 b] w fun e w' => e = .returned (IR c v) ∧ Below w.heap.size w w') :
    Calls Tryd.prog 6 #[.int .i64 a, .int .i64 b] w fun e w' => e = .returned (.bool true) ∧ Below w.heap.size w w' := by
  have HS : Hid (∀ w, Calls Tryd.prog 20 #[.int .i64 a, .int .i64 b] w fun e w' => e = .returned (IR c v) ∧ Below w.heap.size w w') := hs
  have HI : Hid (∀ w, ET w → Calls Tryd.prog 19 #[.int .i64 a, .int .i64 b] w fun e w' => e = .returned (IR c v) ∧ Below w.heap.size w w') := hi
  clear hs hi
  go_enter Tryd.func6, Tryd.ntmps6
  go_wp2_with fail
  refine (HS.out _).mono ?_
  rintro e w1 ⟨rfl, h1⟩
  go_wp2_with fail
  refine (HI.out _ ((hE.below h1).alloc _)).mono ?_
  rintro e w2 ⟨rfl, h2⟩
  obtain ⟨hc, hf⟩ := bcell h2
  have hz : w1.heap.size < w2.heap.size := by have := h2.size; simp at this; omega
  go_wp2_with (go_at_call 30; refine (eqIR_same _ _ _).mono ?_; rintro e w3 ⟨rfl, h3⟩)
  go_ret
  refine ⟨rfl, ?_⟩
  have s1 := h1.size
  have s2 : w1.heap.size + 1 ≤ w2.heap.size := hz
  refine Below.trans ?_ (h3.mono (by simp; omega))
  refine Below.alloc ?_ (by omega) _
  refine Below.trans ?_ (h2.mono (by simp; omega))
  exact Below.alloc h1 (by omega) _
theorem lawAdd_any (a b : Int) (w : World) (hE : ET w) :
    Calls Tryd.prog 6 #[.int .i64 a, .int .i64 b] w fun e w' => e = .returned (.bool true) ∧ Below w.heap.size w w' := by
  cases h : (inB a && inB b)
  · exact lawAdd_of a b _ _ w hE (fun w => specAdd_range a b w h) (fun w hE => implAdd_range a b w hE h)
  · simp only [Bool.and_eq_true] at h
    exact lawAdd_of a b _ _ w hE (fun w => specAdd_in a b w h.1 h.2) (fun w hE => implAdd_in a b w hE h.1 h.2)

theorem lawSub_of (a b c v : Int) (w : World) (hE : ET w)
    (hs : ∀ w, Calls Tryd.prog 31 #[.int .i64 a, .int .i64 b] w fun e w' => e = .returned (IR c v) ∧ Below w.heap.size w w')
    (hi : ∀ w, ET w → Calls Tryd.prog 23 #[.int .i64 a, .int .i64 b] w fun e w' => e = .returned (IR c v) ∧ Below w.heap.size w w') :
    Calls Tryd.prog 7 #[.int .i64 a, .int .i64 b] w fun e w' => e = .returned (.bool true) ∧ Below w.heap.size w w' := by
  have HS : Hid (∀ w, Calls Tryd.prog 31 #[.int .i64 a, .int .i64 b] w fun e w' => e = .returned (IR c v) ∧ Below w.heap.size w w') := hs
  have HI : Hid (∀ w, ET w → Calls Tryd.prog 23 #[.int .i64 a, .int .i64 b] w fun e w' => e = .returned (IR c v) ∧ Below w.heap.size w w') := hi
  clear hs hi
  go_enter Tryd.func7, Tryd.ntmps7
  go_wp2_with fail
  refine (HS.out _).mono ?_
  rintro e w1 ⟨rfl, h1⟩
  go_wp2_with fail
  refine (HI.out _ ((hE.below h1).alloc _)).mono ?_
  rintro e w2 ⟨rfl, h2⟩
  obtain ⟨hc, hf⟩ := bcell h2
  have hz : w1.heap.size < w2.heap.size := by have := h2.size; simp at this; omega
  go_wp2_with (go_at_call 30; refine (eqIR_same _ _ _).mono ?_; rintro e w3 ⟨rfl, h3⟩)
  go_ret
  refine ⟨rfl, ?_⟩
  have s1 := h1.size
  have s2 : w1.heap.size + 1 ≤ w2.heap.size := hz
  refine Below.trans ?_ (h3.mono (by simp; omega))
  refine Below.alloc ?_ (by omega) _
  refine Below.trans ?_ (h2.mono (by simp; omega))
  exact Below.alloc h1 (by omega) _
theorem lawSub_any (a b : Int) (w : World) (hE : ET w) :
    Calls Tryd.prog 7 #[.int .i64 a, .int .i64 b] w fun e w' => e = .returned (.bool true) ∧ Below w.heap.size w w' := by
  cases h : (inB a && inB b)
  · exact lawSub_of a b _ _ w hE (fun w => specSub_range a b w h) (fun w hE => implSub_range a b w hE h)
  · simp only [Bool.and_eq_true] at h
    exact lawSub_of a b _ _ w hE (fun w => specSub_in a b w h.1 h.2) (fun w hE => implSub_in a b w hE h.1 h.2)

theorem lawMul_of (a b c v : Int) (w : World) (hE : ET w)
    (hs : ∀ w, Calls Tryd.prog 32 #[.int .i64 a, .int .i64 b] w fun e w' => e = .returned (IR c v) ∧ Below w.heap.size w w')
    (hi : ∀ w, ET w → Calls Tryd.prog 29 #[.int .i64 a, .int .i64 b] w fun e w' => e = .returned (IR c v) ∧ Below w.heap.size w w') :
    Calls Tryd.prog 8 #[.int .i64 a, .int .i64 b] w fun e w' => e = .returned (.bool true) ∧ Below w.heap.size w w' := by
  have HS : Hid (∀ w, Calls Tryd.prog 32 #[.int .i64 a, .int .i64 b] w fun e w' => e = .returned (IR c v) ∧ Below w.heap.size w w') := hs
  have HI : Hid (∀ w, ET w → Calls Tryd.prog 29 #[.int .i64 a, .int .i64 b] w fun e w' => e = .returned (IR c v) ∧ Below w.heap.size w w') := hi
  clear hs hi
  go_enter Tryd.func8, Tryd.ntmps8
  go_wp2_with fail
  refine (HS.out _).mono ?_
  rintro e w1 ⟨rfl, h1⟩
  go_wp2_with fail
  refine (HI.out _ ((hE.below h1).alloc _)).mono ?_
  rintro e w2 ⟨rfl, h2⟩
  obtain ⟨hc, hf⟩ := bcell h2
  have hz : w1.heap.size < w2.heap.size := by have := h2.size; simp at this; omega
  go_wp2_with (go_at_call 30; refine (eqIR_same _ _ _).mono ?_; rintro e w3 ⟨rfl, h3⟩)
  go_ret
  refine ⟨rfl, ?_⟩
  have s1 := h1.size
  have s2 : w1.heap.size + 1 ≤ w2.heap.size := hz
  refine Below.trans ?_ (h3.mono (by simp; omega))
  refine Below.alloc ?_ (by omega) _
  refine Below.trans ?_ (h2.mono (by simp; omega))
  exact Below.alloc h1 (by omega) _
theorem lawMul_any (a b : Int) (w : World) (hE : ET w) :
    Calls Tryd.prog 8 #[.int .i64 a, .int .i64 b] w fun e w' => e = .returned (.bool true) ∧ Below w.heap.size w w' := by
  cases h : (inB a && inB b)
  · exact lawMul_of a b _ _ w hE (fun w => specMul_range a b w h) (fun w hE => implMul_range a b w hE h)
  · simp only [Bool.and_eq_true] at h
    exact lawMul_of a b _ _ w hE (fun w => specMul_in a b w h.1 h.2) (fun w hE => implMul_in a b w hE h.1 h.2)

theorem lawQuo_of (a b c v : Int) (w : World) (hE : ET w)
    (hs : ∀ w, Calls Tryd.prog 26 #[.int .i64 a, .int .i64 b] w fun e w' => e = .returned (IR c v) ∧ Below w.heap.size w w')
    (hi : ∀ w, ET w → Calls Tryd.prog 25 #[.int .i64 a, .int .i64 b] w fun e w' => e = .returned (IR c v) ∧ Below w.heap.size w w') :
    Calls Tryd.prog 9 #[.int .i64 a, .int .i64 b] w fun e w' => e = .returned (.bool true) ∧ Below w.heap.size w w' := by
  have HS : Hid (∀ w, Calls Tryd.prog 26 #[.int .i64 a, .int .i64 b] w fun e w' => e = .returned (IR c v) ∧ Below w.heap.size w w') := hs
  have HI : Hid (∀ w, ET w → Calls Tryd.prog 25 #[.int .i64 a, .int .i64 b] w fun e w' => e = .returned (IR c v) ∧ Below w.heap.size w w') := hi
  clear hs hi
  go_enter Tryd.func9, Tryd.ntmps9
  go_wp2_with fail
  refine (HS.out _).mono ?_
  rintro e w1 ⟨rfl, h1⟩
  go_wp2_with fail
  refine (HI.out _ ((hE.below h1).alloc _)).mono ?_
  rintro e w2 ⟨rfl, h2⟩
  obtain ⟨hc, hf⟩ := bcell h2
  have hz : w1.heap.size < w2.heap.size := by have := h2.size; simp at this; omega
  go_wp2_with (go_at_call 30; refine (eqIR_same _ _ _).mono ?_; rintro e w3 ⟨rfl, h3⟩)
  go_ret
  refine ⟨rfl, ?_⟩
  have s1 := h1.size
  have s2 : w1.heap.size + 1 ≤ w2.heap.size := hz
  refine Below.trans ?_ (h3.mono (by simp; omega))
  refine Below.alloc ?_ (by omega) _
  refine Below.trans ?_ (h2.mono (by simp; omega))
  exact Below.alloc h1 (by omega) _
theorem lawQuo_any (a b : Int) (w : World) (hE : ET w) :
    Calls Tryd.prog 9 #[.int .i64 a, .int .i64 b] w fun e w' => e = .returned (.bool true) ∧ Below w.heap.size w w' := by
  cases h : (inB a && inB b)
  · exact lawQuo_of a b _ _ w hE (fun w => specQuo_range a b w h) (fun w hE => implQuo_range a b w hE h)
  · simp only [Bool.and_eq_true] at h
    by_cases h0 : b = 0
    · subst h0
      exact lawQuo_of a 0 _ _ w hE (fun w => specQuo_zero a w h.1) (fun w hE => implQuo_zero a w hE h.1)
    · exact lawQuo_of a b _ _ w hE (fun w => specQuo_in a b w h.1 h.2 h0) (fun w hE => implQuo_in a b w hE h.1 h.2 h0)

theorem lawRem_of (a b c v : Int) (w : World) (hE : ET w)
    (hs : ∀ w, Calls Tryd.prog 27 #[.int .i64 a, .int .i64 b] w fun e w' => e = .returned (IR c v) ∧ Below w.heap.size w w')
    (hi : ∀ w, ET w → Calls Tryd.prog 28 #[.int .i64 a, .int .i64 b] w fun e w' => e = .returned (IR c v) ∧ Below w.heap.size w w') :
    Calls Tryd.prog 10 #[.int .i64 a, .int .i64 b] w fun e w' => e = .returned (.bool true) ∧ Below w.heap.size w w' := by
  have HS : Hid (∀ w, Calls Tryd.prog 27 #[.int .i64 a, .int .i64 b] w fun e w' => e = .returned (IR c v) ∧ Below w.heap.size w w') := hs
  have HI : Hid (∀ w, ET w → Calls Tryd.prog 28 #[.int .i64 a, .int .i64 b] w fun e w' => e = .returned (IR c v) ∧ Below w.heap.size w w') := hi
  clear hs hi
  go_enter Tryd.func10, Tryd.ntmps10
  go_wp2_with fail
  refine (HS.out _).mono ?_
  rintro e w1 ⟨rfl, h1⟩
  go_wp2_with fail
  refine (HI.out _ ((hE.below h1).alloc _)).mono ?_
  rintro e w2 ⟨rfl, h2⟩
  obtain ⟨hc, hf⟩ := bcell h2
  have hz : w1.heap.size < w2.heap.size := by have := h2.size; simp at this; omega
  go_wp2_with (go_at_call 30; refine (eqIR_same _ _ _).mono ?_; rintro e w3 ⟨rfl, h3⟩)
  go_ret
  refine ⟨rfl, ?_⟩
  have s1 := h1.size
  have s2 : w1.heap.size + 1 ≤ w2.heap.size := hz
  refine Below.trans ?_ (h3.mono (by simp; omega))
  refine Below.alloc ?_ (by omega) _
  refine Below.trans ?_ (h2.mono (by simp; omega))
  exact Below.alloc h1 (by omega) _
theorem lawRem_any (a b : Int) (w : World) (hE : ET w) :
    Calls Tryd.prog 10 #[.int .i64 a, .int .i64 b] w fun e w' => e = .returned (.bool true) ∧ Below w.heap.size w w' := by
  cases h : (inB a && inB b)
  · exact lawRem_of a b _ _ w hE (fun w => specRem_range a b w h) (fun w hE => implRem_range a b w hE h)
  · simp only [Bool.and_eq_true] at h
    by_cases h0 : b = 0
    · subst h0
      exact lawRem_of a 0 _ _ w hE (fun w => specRem_zero a w h.1) (fun w hE => implRem_zero a w hE h.1)
    · exact lawRem_of a b _ _ w hE (fun w => specRem_in a b w h.1 h.2 h0) (fun w hE => implRem_in a b w hE h.1 h.2 h0)
end Go.Proofs.YtomkdofagjkfiaaDoor
