/-
  The program's writeNum: the text of a number within the bounds, an error beyond them; nothing that was there is turned.
-/
import Derived.Test.YtoafolefecddmaaDoorSpecNum
import Derived.Test.YtoafolefecddmaaDoorDigits
import Derived.Test.YtoafolefecddmaaDoorShelf
import Derived.Lib.AppendIntMem
import Derived.Lib.AtoiErrMem
namespace Go.Proofs.YtoafolefecddmaaDoor
open Go.RowKit Go.Extern.Stop Go.Stop Go.Extern Num Go.Lib

/-- What the listed table holds that the text of a number reads. -/
def TB (w : World) : Prop := Lib.TabIs Tryd.prog w "internal/strconv.uint64pow10" .u64 Lib.pow10Tab
theorem TB.below {w w' : World} (h : TB w) (hb : Below w.heap.size w w') : TB w' := tabBelow_of_tabIs h w' hb
theorem TB.alloc {w : World} (h : TB w) (o : Obj) : TB (w.alloc o) := h.below ((Below.refl _ _).alloc (Nat.le_refl _) _)
theorem TB.drew {w : World} (h : TB w) : TB w.drew := h.below (Below.refl _ _).drew

/-- A TextResult as a value. -/
abbrev TR (c : Int) (l : List UInt8) : Value := .agg #[.int .i64 c, S l]

theorem fmt_in (n : Int) (w : World) (h : inB n = true) (hL : TB w) :
    Calls Tryd.prog 12 #[.int .i64 n, .int .i64 10] w fun e w' => e = .returned (S (itoa n)) ∧ Below w.heap.size w w' := by
  rw [inB_iff] at h
  refine (formatInt10 n (by omega) (by omega) w hL).mono ?_
  rintro e w' ⟨rfl, k, os, rfl⟩
  exact ⟨rfl, below_grow _ w (Nat.le_refl _) k os⟩

end Go.Proofs.YtoafolefecddmaaDoor
