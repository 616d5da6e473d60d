/-
  The program's NumText, and the model's NumText: the text of a number within the bounds, the code beyond them; nothing that was there is turned.
-/
import Derived.Test.YtebnonpdaddniaaGreatDoorTextsA
namespace Go.Proofs.YtebnonpdaddniaaGreatDoor
open Go.RowKit Go.Extern.Stop Go.Stop Go.Extern Num Go.Lib

/-- What the listed variables hold that the text of a number reads. -/
structure LT (w : World) : Prop where
  et : ET w
  tab : TB w
theorem LT.below {w w' : World} (h : LT w) (hb : Below w.heap.size w w') : LT w' :=
  ⟨h.et.below hb, h.tab.below hb⟩
theorem LT.alloc {w : World} (h : LT w) (o : Obj) : LT (w.alloc o) := h.below ((Below.refl _ _).alloc (Nat.le_refl _) _)
theorem LT.drew {w : World} (h : LT w) : LT w.drew := h.below (Below.refl _ _).drew

theorem implText_yes (n : Int) (w : World) (h : inB n = true) (hL : LT w) :
    Calls Tryz.prog 150 #[.int .i64 n] w fun e w' => e = .returned (TR 0 (itoa n)) ∧ Below w.heap.size w w' := by
  have HC : Hid (inB n = true) := h
  clear h
  go_enter Tryz.func150, Tryz.ntmps150
  go_wp2_with fail
  refine (writeNum_yes _ _ HC.out (TB.alloc hL.tab _)).mono ?_
  rintro e w1 ⟨rfl, hq⟩
  obtain ⟨hc, hf⟩ := bcell hq
  have hz : w.heap.size < w1.heap.size := by have := hq.size; simp at this; omega
  go_wp2_with fail
  refine (numCode_nil _).mono ?_
  rintro e w2 ⟨rfl, hq2⟩
  obtain ⟨hc2, hf2⟩ := bcell hq2
  go_wp2
  exact bodyPost_ret (v := TR 0 (itoa n)) (by simp [results, Tryz.results150, go_sem, hc, hc2, hz]) rfl ⟨rfl, by
    repeat (first | exact Below.refl _ _ | refine Below.setCell ?_ (by simp) _ | refine Below.trans ?_ (hq2.mono (by omega)) | refine Below.trans ?_ (hq.mono (by simp)) | refine Below.alloc ?_ (by simp <;> omega) _)⟩
theorem implText_no (n : Int) (w : World) (h : inB n = false) (hE : ET w) :
    Calls Tryz.prog 150 #[.int .i64 n] w fun e w' => e = .returned (TR 3 []) ∧ Below w.heap.size w w' := by
  have HC : Hid (inB n = false) := h
  clear h
  go_enter Tryz.func150, Tryz.ntmps150
  go_wp2_with fail
  refine (writeNum_no _ _ HC.out).mono ?_
  rintro e w1 ⟨rfl, rfl⟩
  go_wp2_with fail
  refine (numCode_hit _ _ (hE.alloc _)).mono ?_
  rintro e w2 ⟨rfl, hq2⟩
  obtain ⟨hc2, hf2⟩ := bcell hq2
  go_wp2
  exact bodyPost_ret (v := TR 3 []) (by simp [results, Tryz.results150, go_sem, hc2]) rfl ⟨rfl, by
    repeat (first | exact Below.refl _ _ | refine Below.setCell ?_ (by simp) _ | refine Below.trans ?_ (hq2.mono (by simp)) | refine Below.alloc ?_ (by simp <;> omega) _)⟩

theorem eqTR_same (c : Int) (l : List UInt8) (w : World) :
    Calls Tryz.prog 32 #[TR c l, TR c l] w fun e w' => e = .returned (.bool true) ∧ Below w.heap.size w w' := by
  go_enter Tryz.func32, Tryz.ntmps32
  go_wp2
  go_ret
  refine ⟨rfl, ?_⟩
  repeat (first | exact Below.refl _ _ | refine Below.alloc ?_ (by simp <;> omega) _ | refine Below.drew ?_)
end Go.Proofs.YtebnonpdaddniaaGreatDoor
