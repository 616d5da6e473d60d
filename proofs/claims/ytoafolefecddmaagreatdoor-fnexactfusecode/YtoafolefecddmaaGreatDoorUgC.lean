/-
  Parts of the proof laid into one text, one behind the other: TextsA, Texts. Contracts of the program's and the model's functions, and what they are proved of, as their theorems say.
-/
import Derived.Test.YtoafolefecddmaaGreatDoorUiA
import Derived.Test.YtoafolefecddmaaGreatDoorDigitsHv
import Derived.Test.YtoafolefecddmaaGreatDoorShelf
import Derived.Lib.AppendIntMem
import Derived.Lib.AtoiErrMem
namespace Go.Proofs.YtoafolefecddmaaGreatDoor
open Go.RowKit Go.Extern.Stop Go.Stop Go.Extern Num Go.Lib
def TB (w : World) : Prop := Lib.TabIs Tryz.prog w "internal/strconv.uint64pow10" .u64 Lib.pow10Tab
theorem TB.below {w w' : World} (h : TB w) (hb : Below w.heap.size w w') : TB w' := tabBelow_of_tabIs h w' hb
theorem TB.alloc {w : World} (h : TB w) (o : Obj) : TB (w.alloc o) := h.below ((Below.refl _ _).alloc (Nat.le_refl _) _)
abbrev TR (c : Int) (l : List UInt8) : Value := .agg #[.int .i64 c, S l]
theorem fmt_in (n : Int) (w : World) (h : inB n = true) (hL : TB w) :
    Calls Tryz.prog 40 #[.int .i64 n, .int .i64 10] w fun e w' => e = .returned (S (itoa n)) ∧ Below w.heap.size w w' := by
  rw [inB_iff] at h
  refine (formatInt10 n (by omega) (by omega) w hL).mono ?_
  rintro e w' ⟨rfl, k, os, rfl⟩
  exact ⟨rfl, below_grow _ w (Nat.le_refl _) k os⟩
theorem writeNum_yes (n : Int) (w : World) (h : inB n = true) (hL : TB w) :
    Calls Tryz.prog 143 #[.int .i64 n] w fun e w' => e = .returned (.tuple #[S (itoa n), .nilIface]) ∧ Below w.heap.size w w' := by
  have HC : Hid (inB n = true) := h
  clear h
  go_enter Tryz.func143, Tryz.ntmps143
  go_wp2_with (first | (go_at_call 184; refine (check_yes _ _ _ HC.out).mono ?_; rintro e w' ⟨rfl, rfl⟩) | (go_at_call 40; refine (fmt_in _ _ HC.out hL).mono ?_; rintro e w1 ⟨rfl, hq⟩))
  go_ret2
  exact ⟨rfl, hq⟩
theorem writeNum_no (n : Int) (w : World) (h : inB n = false) :
    Calls Tryz.prog 143 #[.int .i64 n] w fun e w' => e = .returned (.tuple #[S [], NN 3]) ∧ w' = w := by
  have HC : Hid (inB n = false) := h
  clear h
  go_enter Tryz.func143, Tryz.ntmps143
  go_wp2_with (first | (go_at_call 184; refine (check_no _ _ _ HC.out).mono ?_; rintro e w' ⟨rfl, rfl⟩))
  go_ret2
  exact ⟨rfl, rfl⟩
structure LT (w : World) : Prop where
  et : ET w
  tab : TB w
theorem LT.below {w w' : World} (h : LT w) (hb : Below w.heap.size w w') : LT w' :=
  ⟨h.et.below hb, h.tab.below hb⟩
theorem LT.alloc {w : World} (h : LT w) (o : Obj) : LT (w.alloc o) := h.below ((Below.refl _ _).alloc (Nat.le_refl _) _)
theorem implText_yes (n : Int) (w : World) (h : inB n = true) (hL : LT w) :
    Calls Tryz.prog 260 #[.int .i64 n] w fun e w' => e = .returned (TR 0 (itoa n)) ∧ Below w.heap.size w w' := by
  have HC : Hid (inB n = true) := h
  clear h
  go_enter Tryz.func260, Tryz.ntmps260
  go_wp2_with fail
  refine (writeNum_yes _ _ HC.out (TB.alloc hL.tab _)).mono ?_
  rintro e w1 ⟨rfl, hq⟩
  obtain ⟨hc, hf⟩ := bcell hq
  have hz : w.heap.size < w1.heap.size := by have := hq.size; simp at this; omega
  go_wp2_with fail
  refine (numCode_nil _).mono ?_
  rintro e w2 ⟨rfl, hq2⟩
  obtain ⟨hc2, hf2⟩ := bcell hq2
  go_wp2
  exact bodyPost_ret (v := TR 0 (itoa n)) (by simp [results, Tryz.results260, go_sem, hc, hc2, hz]) rfl ⟨rfl, by
    repeat (first | exact Below.refl _ _ | refine Below.setCell ?_ (by simp) _ | refine Below.trans ?_ (hq2.mono (by omega)) | refine Below.trans ?_ (hq.mono (by simp)) | refine Below.alloc ?_ (by simp <;> omega) _)⟩
theorem implText_no (n : Int) (w : World) (h : inB n = false) (hE : ET w) :
    Calls Tryz.prog 260 #[.int .i64 n] w fun e w' => e = .returned (TR 3 []) ∧ Below w.heap.size w w' := by
  have HC : Hid (inB n = false) := h
  clear h
  go_enter Tryz.func260, Tryz.ntmps260
  go_wp2_with fail
  refine (writeNum_no _ _ HC.out).mono ?_
  rintro e w1 ⟨rfl, rfl⟩
  go_wp2_with fail
  refine (numCode_hit _ _ (hE.alloc _)).mono ?_
  rintro e w2 ⟨rfl, hq2⟩
  obtain ⟨hc2, hf2⟩ := bcell hq2
  go_wp2
  exact bodyPost_ret (v := TR 3 []) (by simp [results, Tryz.results260, go_sem, hc2]) rfl ⟨rfl, by
    repeat (first | exact Below.refl _ _ | refine Below.setCell ?_ (by simp) _ | refine Below.trans ?_ (hq2.mono (by simp)) | refine Below.alloc ?_ (by simp <;> omega) _)⟩
end Go.Proofs.YtoafolefecddmaaGreatDoor
