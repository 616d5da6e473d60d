/-
  The program's writeNum: the text of a number within the bounds, an error beyond them; nothing that was there is turned.
-/
import Derived.Test.YtebnonpdaddniaaGreatDoorSpecNum
import Derived.Test.YtebnonpdaddniaaGreatDoorDigits
import Derived.Test.YtebnonpdaddniaaGreatDoorShelf
import Derived.Lib.AppendIntMem
import Derived.Lib.AtoiErrMem
namespace Go.Proofs.YtebnonpdaddniaaGreatDoor
open Go.RowKit Go.Extern.Stop Go.Stop Go.Extern Num Go.Lib

/-- What the listed table holds that the text of a number reads. -/
def TB (w : World) : Prop := Lib.TabIs Tryz.prog w "internal/strconv.uint64pow10" .u64 Lib.pow10Tab
theorem TB.below {w w' : World} (h : TB w) (hb : Below w.heap.size w w') : TB w' := tabBelow_of_tabIs h w' hb
theorem TB.alloc {w : World} (h : TB w) (o : Obj) : TB (w.alloc o) := h.below ((Below.refl _ _).alloc (Nat.le_refl _) _)
theorem TB.drew {w : World} (h : TB w) : TB w.drew := h.below (Below.refl _ _).drew

/-- A TextResult as a value. -/
abbrev TR (c : Int) (l : List UInt8) : Value := .agg #[.int .i64 c, S l]

theorem fmt_in (n : Int) (w : World) (h : inB n = true) (hL : TB w) :
    Calls Tryz.prog 48 #[.int .i64 n, .int .i64 10] w fun e w' => e = .returned (S (itoa n)) ∧ Below w.heap.size w w' := by
  rw [inB_iff] at h
  refine (formatInt10 n (by omega) (by omega) w hL).mono ?_
  rintro e w' ⟨rfl, k, os, rfl⟩
  exact ⟨rfl, below_grow _ w (Nat.le_refl _) k os⟩

theorem writeNum_yes (n : Int) (w : World) (h : inB n = true) (hL : TB w) :
    Calls Tryz.prog 172 #[.int .i64 n] w fun e w' => e = .returned (.tuple #[S (itoa n), .nilIface]) ∧ Below w.heap.size w w' := by
  have HC : Hid (inB n = true) := h
  clear h
  go_enter Tryz.func172, Tryz.ntmps172
  go_wp2_with (first | (go_at_call 207; refine (check_yes _ _ _ HC.out).mono ?_; rintro e w' ⟨rfl, rfl⟩) | (go_at_call 48; refine (fmt_in _ _ HC.out hL).mono ?_; rintro e w1 ⟨rfl, hq⟩))
  go_ret2
  exact ⟨rfl, hq⟩
theorem writeNum_no (n : Int) (w : World) (h : inB n = false) :
    Calls Tryz.prog 172 #[.int .i64 n] w fun e w' => e = .returned (.tuple #[S [], NN 3]) ∧ w' = w := by
  have HC : Hid (inB n = false) := h
  clear h
  go_enter Tryz.func172, Tryz.ntmps172
  go_wp2_with (first | (go_at_call 207; refine (check_no _ _ _ HC.out).mono ?_; rintro e w' ⟨rfl, rfl⟩))
  go_ret2
  exact ⟨rfl, rfl⟩

end Go.Proofs.YtebnonpdaddniaaGreatDoor
