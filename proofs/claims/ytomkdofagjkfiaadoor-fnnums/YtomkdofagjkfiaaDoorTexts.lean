/-
  The program's writeNum and NumText, and the model's NumText: the text of a number within the bounds, the code beyond them; nothing that was there is turned.
-/
import Derived.Test.YtomkdofagjkfiaaDoorComb
import Derived.Test.YtomkdofagjkfiaaDoorDigits
import Derived.Test.YtomkdofagjkfiaaDoorShelf
import Derived.Lib.AppendIntMem
import Derived.Lib.AtoiErrMem
namespace Go.Proofs.YtomkdofagjkfiaaDoor
open Go.RowKit Go.Extern.Stop Go.Stop Go.Extern Num Go.Lib

/-- What the listed variables hold that the text of a number reads. -/
structure LT (w : World) : Prop where
  et : ET w
  tab : Lib.TabIs Tryd.prog w "internal/strconv.uint64pow10" .u64 Lib.pow10Tab
theorem LT.below {w w' : World} (h : LT w) (hb : Below w.heap.size w w') : LT w' :=
  ⟨h.et.below hb, tabBelow_of_tabIs h.tab w' hb⟩
theorem LT.alloc {w : World} (h : LT w) (o : Obj) : LT (w.alloc o) := h.below ((Below.refl _ _).alloc (Nat.le_refl _) _)
theorem LT.drew {w : World} (h : LT w) : LT w.drew := h.below (Below.refl _ _).drew

/-- A TextResult as a value. -/
abbrev TR (c : Int) (l : List UInt8) : Value := .agg #[.int .i64 c, S l]

theorem fmt_in (n : Int) (w : World) (h : inB n = true) (hL : LT w) :
    Calls Tryd.prog 58 #[.int .i64 n, .int .i64 10] w fun e w' => e = .returned (S (itoa n)) ∧ Below w.heap.size w w' := by
  rw [inB_iff] at h
  refine (formatInt10 n (by omega) (by omega) w hL.tab).mono ?_
  rintro e w' ⟨rfl, k, os, rfl⟩
  exact ⟨rfl, below_grow _ w (Nat.le_refl _) k os⟩

theorem writeNum_yes (n : Int) (w : World) (h : inB n = true) (hL : LT w) :
    Calls Tryd.prog 41 #[.int .i64 n] w fun e w' => e = .returned (.tuple #[S (itoa n), .nilIface]) ∧ Below w.heap.size w w' := by
  have HC : Hid (inB n = true) := h
  clear h
  go_enter Tryd.func41, Tryd.ntmps41
  go_wp2_with (first | (go_at_call 49; refine (check_yes _ _ _ HC.out).mono ?_; rintro e w' ⟨rfl, rfl⟩) | (go_at_call 58; refine (fmt_in _ _ HC.out hL).mono ?_; rintro e w1 ⟨rfl, hq⟩))
  go_ret2
  exact ⟨rfl, hq⟩
theorem writeNum_no (n : Int) (w : World) (h : inB n = false) :
    Calls Tryd.prog 41 #[.int .i64 n] w fun e w' => e = .returned (.tuple #[S [], NN 3]) ∧ w' = w := by
  have HC : Hid (inB n = false) := h
  clear h
  go_enter Tryd.func41, Tryd.ntmps41
  go_wp2_with (first | (go_at_call 49; refine (check_no _ _ _ HC.out).mono ?_; rintro e w' ⟨rfl, rfl⟩))
  go_ret2
  exact ⟨rfl, rfl⟩

theorem implText_yes (n : Int) (w : World) (h : inB n = true) (hL : LT w) :
    Calls Tryd.prog 16 #[.int .i64 n] w fun e w' => e = .returned (TR 0 (itoa n)) ∧ Below w.heap.size w w' := by
  have HC : Hid (inB n = true) := h
  clear h
  go_enter Tryd.func16, Tryd.ntmps16
  go_wp2_with fail
  refine (writeNum_yes _ _ HC.out (hL.alloc _)).mono ?_
  rintro e w1 ⟨rfl, hq⟩
  obtain ⟨hc, hf⟩ := bcell hq
  have hz : w.heap.size < w1.heap.size := by have := hq.size; simp at this; omega
  go_wp2_with fail
  refine (numCode_nil _).mono ?_
  rintro e w2 ⟨rfl, hq2⟩
  obtain ⟨hc2, hf2⟩ := bcell hq2
  go_wp2
  exact bodyPost_ret (v := TR 0 (itoa n)) (by simp [results, Tryd.results16, go_sem, hc, hc2, hz]) rfl ⟨rfl, by
    repeat (first | exact Below.refl _ _ | refine Below.setCell ?_ (by simp) _ | refine Below.trans ?_ (hq2.mono (by omega)) | refine Below.trans ?_ (hq.mono (by simp)) | refine Below.alloc ?_ (by simp <;> omega) _)⟩
theorem implText_no (n : Int) (w : World) (h : inB n = false) (hE : ET w) :
    Calls Tryd.prog 16 #[.int .i64 n] w fun e w' => e = .returned (TR 3 []) ∧ Below w.heap.size w w' := by
  have HC : Hid (inB n = false) := h
  clear h
  go_enter Tryd.func16, Tryd.ntmps16
  go_wp2_with fail
  refine (writeNum_no _ _ HC.out).mono ?_
  rintro e w1 ⟨rfl, rfl⟩
  go_wp2_with fail
  refine (numCode_hit _ _ (hE.alloc _)).mono ?_
  rintro e w2 ⟨rfl, hq2⟩
  obtain ⟨hc2, hf2⟩ := bcell hq2
  go_wp2
  exact bodyPost_ret (v := TR 3 []) (by simp [results, Tryd.results16, go_sem, hc2]) rfl ⟨rfl, by
    repeat (first | exact Below.refl _ _ | refine Below.setCell ?_ (by simp) _ | refine Below.trans ?_ (hq2.mono (by simp)) | refine Below.alloc ?_ (by simp <;> omega) _)⟩

theorem specText_yes (n : Int) (w : World) (h : inB n = true) :
    Calls Tryd.prog 33 #[.int .i64 n] w fun e w' => e = .returned (TR 0 (itoa n)) ∧ Below w.heap.size w w' := by
  have HC : Hid (inB n = true) := h
  go_enter Tryd.func33, Tryd.ntmps33
  go_wp2_with (first | (go_at_call 50; refine (l1Num_any _ _).mono ?_; rintro e w' ⟨rfl, rfl⟩) | (go_at_call 36; refine (l1Digits_any _ _ HC.out).mono ?_; rintro e w1 ⟨rfl, hq⟩; obtain ⟨hc, hf⟩ := bcell hq))
  exact bodyPost_ret (v := TR 0 (itoa n)) (by simp [results, Tryd.results33, go_sem, hc]) rfl ⟨rfl, by
    repeat (first | exact Below.refl _ _ | refine Below.setCell ?_ (by simp) _ | refine Below.trans ?_ (hq.mono (by simp)) | refine Below.alloc ?_ (by simp <;> omega) _)⟩
theorem specText_no (n : Int) (w : World) (h : inB n = false) :
    Calls Tryd.prog 33 #[.int .i64 n] w fun e w' => e = .returned (TR 3 []) ∧ Below w.heap.size w w' := by
  go_enter Tryd.func33, Tryd.ntmps33
  go_wp2_with (first | (go_at_call 50; refine (l1Num_any _ _).mono ?_; rintro e w' ⟨rfl, rfl⟩))
  exact bodyPost_ret (v := TR 3 []) (by simp [results, Tryd.results33, go_sem]) rfl ⟨rfl, (Below.refl _ _).alloc (Nat.le_refl _) _⟩

theorem eqTR_same (c : Int) (l : List UInt8) (w : World) :
    Calls Tryd.prog 34 #[TR c l, TR c l] w fun e w' => e = .returned (.bool true) ∧ Below w.heap.size w w' := by
  go_enter Tryd.func34, Tryd.ntmps34
  go_wp2
  go_ret
  refine ⟨rfl, ?_⟩
  repeat (first | exact Below.refl _ _ | refine Below.alloc ?_ (by simp <;> omega) _ | refine Below.drew ?_)
theorem lawText_of (n c : Int) (l : List UInt8) (w : World) (hL : LT w)
    (hs : ∀ w, Calls Tryd.prog 33 #[.int .i64 n] w fun e w' => e = .returned (TR c l) ∧ Below w.heap.size w w')
    (hi : ∀ w, LT w → Calls Tryd.prog 16 #[.int .i64 n] w fun e w' => e = .returned (TR c l) ∧ Below w.heap.size w w') :
    Calls Tryd.prog 11 #[.int .i64 n] w fun e w' => e = .returned (.bool true) ∧ Below w.heap.size w w' := by
  have HS : Hid (∀ w, Calls Tryd.prog 33 #[.int .i64 n] w fun e w' => e = .returned (TR c l) ∧ Below w.heap.size w w') := hs
  have HI : Hid (∀ w, LT w → Calls Tryd.prog 16 #[.int .i64 n] w fun e w' => e = .returned (TR c l) ∧ Below w.heap.size w w') := hi
  clear hs hi
  go_enter Tryd.func11, Tryd.ntmps11
  go_wp2_with fail
  refine (HS.out _).mono ?_
  rintro e w1 ⟨rfl, h1⟩
  go_wp2_with fail
  refine (HI.out _ ((hL.below h1).alloc _)).mono ?_
  rintro e w2 ⟨rfl, h2⟩
  obtain ⟨hc, hf⟩ := bcell h2
  have hz : w1.heap.size < w2.heap.size := by have := h2.size; simp at this; omega
  go_wp2_with (go_at_call 34; refine (eqTR_same _ _ _).mono ?_; rintro e w3 ⟨rfl, h3⟩)
  go_ret
  refine ⟨rfl, ?_⟩
  have s1 := h1.size
  have s2 : w1.heap.size + 1 ≤ w2.heap.size := hz
  refine Below.trans ?_ (h3.mono (by simp; omega))
  refine Below.alloc ?_ (by omega) _
  refine Below.trans ?_ (h2.mono (by simp; omega))
  exact Below.alloc h1 (by omega) _
theorem lawText_any (n : Int) (w : World) (hL : LT w) :
    Calls Tryd.prog 11 #[.int .i64 n] w fun e w' => e = .returned (.bool true) ∧ Below w.heap.size w w' := by
  cases h : inB n
  · exact lawText_of n _ _ w hL (fun w => specText_no n w h) (fun w hL => implText_no n w h hL.et)
  · exact lawText_of n _ _ w hL (fun w => specText_yes n w h) (fun w hL => implText_yes n w h hL)
end Go.Proofs.YtomkdofagjkfiaaDoor
