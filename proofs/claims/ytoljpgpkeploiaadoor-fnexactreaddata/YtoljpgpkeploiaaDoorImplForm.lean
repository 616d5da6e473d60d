/-
  The program's isTokenForm, boolText, symText and TokenText: the text of a token, or what is wrong with it; nothing that was there is turned. The model's TokenText besides.
-/
import Derived.Test.YtoljpgpkeploiaaDoorSpecTText
import Derived.Test.YtoljpgpkeploiaaDoorClone
import Derived.Test.YtoljpgpkeploiaaDoorImplSym
import Derived.Test.YtoljpgpkeploiaaDoorTexts
namespace Go.Proofs.YtoljpgpkeploiaaDoor
open Go.RowKit Go.Extern.Stop Go.Stop Go.Extern Num Go.Lib

/-- A token as TokenText answers it. -/
abbrev TT (t : Tok) : Value := .agg #[.int .i64 (tokFault t), .string (if tokFault t = 0 then tokText t else E0)]
theorem form_kind (n : Int) (z : ByteArray) (w : World) (k : Int) (k1 : (k == 1) = false) (k2 : (k == 2) = false) (k3 : (k == 3) = false) (k4 : (k == 4) = false) (k5 : (k == 5) = false) (k6 : (k == 6) = false) :
    Calls Tryd.prog 79 #[(⟨k, n, z⟩ : Tok).val] w fun e w' => e = .returned (.bool false) ∧ Below w.heap.size w w' := by
  go_enter Tryd.func79, Tryd.ntmps79
  go_wp2
  go_ret
  exact ⟨rfl, by repeat (first | exact Below.refl _ _ | refine Below.alloc ?_ (by simp <;> omega) _ | refine Below.drew ?_)⟩
theorem form_num1 (n : Int) (z : ByteArray) (w : World) (hn : (n == 0) = false) :
    Calls Tryd.prog 79 #[(⟨1, n, z⟩ : Tok).val] w fun e w' => e = .returned (.bool false) ∧ Below w.heap.size w w' := by
  go_enter Tryd.func79, Tryd.ntmps79
  go_wp2
  go_ret
  exact ⟨rfl, by repeat (first | exact Below.refl _ _ | refine Below.alloc ?_ (by simp <;> omega) _ | refine Below.drew ?_)⟩
theorem form_name1 (n : Int) (z : ByteArray) (w : World) (h0 : n = 0) (hm : (z.toList == []) = false) :
    Calls Tryd.prog 79 #[(⟨1, n, z⟩ : Tok).val] w fun e w' => e = .returned (.bool false) ∧ Below w.heap.size w w' := by
  subst h0
  go_enter Tryd.func79, Tryd.ntmps79
  go_wp2
  go_ret
  exact ⟨rfl, by repeat (first | exact Below.refl _ _ | refine Below.alloc ?_ (by simp <;> omega) _ | refine Below.drew ?_)⟩
theorem form_ok1 (n : Int) (z : ByteArray) (w : World) (h0 : n = 0) (hm : (z.toList == []) = true) :
    Calls Tryd.prog 79 #[(⟨1, n, z⟩ : Tok).val] w fun e w' => e = .returned (.bool true) ∧ Below w.heap.size w w' := by
  subst h0
  go_enter Tryd.func79, Tryd.ntmps79
  go_wp2
  go_ret
  exact ⟨rfl, by repeat (first | exact Below.refl _ _ | refine Below.alloc ?_ (by simp <;> omega) _ | refine Below.drew ?_)⟩
theorem form_num2 (n : Int) (z : ByteArray) (w : World) (hn : (n == 0) = false) :
    Calls Tryd.prog 79 #[(⟨2, n, z⟩ : Tok).val] w fun e w' => e = .returned (.bool false) ∧ Below w.heap.size w w' := by
  go_enter Tryd.func79, Tryd.ntmps79
  go_wp2
  go_ret
  exact ⟨rfl, by repeat (first | exact Below.refl _ _ | refine Below.alloc ?_ (by simp <;> omega) _ | refine Below.drew ?_)⟩
theorem form_name2 (n : Int) (z : ByteArray) (w : World) (h0 : n = 0) (hm : (z.toList == []) = false) :
    Calls Tryd.prog 79 #[(⟨2, n, z⟩ : Tok).val] w fun e w' => e = .returned (.bool false) ∧ Below w.heap.size w w' := by
  subst h0
  go_enter Tryd.func79, Tryd.ntmps79
  go_wp2
  go_ret
  exact ⟨rfl, by repeat (first | exact Below.refl _ _ | refine Below.alloc ?_ (by simp <;> omega) _ | refine Below.drew ?_)⟩
theorem form_ok2 (n : Int) (z : ByteArray) (w : World) (h0 : n = 0) (hm : (z.toList == []) = true) :
    Calls Tryd.prog 79 #[(⟨2, n, z⟩ : Tok).val] w fun e w' => e = .returned (.bool true) ∧ Below w.heap.size w w' := by
  subst h0
  go_enter Tryd.func79, Tryd.ntmps79
  go_wp2
  go_ret
  exact ⟨rfl, by repeat (first | exact Below.refl _ _ | refine Below.alloc ?_ (by simp <;> omega) _ | refine Below.drew ?_)⟩
theorem form_num3 (n : Int) (z : ByteArray) (w : World) (hn : (n == 0) = false) :
    Calls Tryd.prog 79 #[(⟨3, n, z⟩ : Tok).val] w fun e w' => e = .returned (.bool false) ∧ Below w.heap.size w w' := by
  go_enter Tryd.func79, Tryd.ntmps79
  go_wp2
  go_ret
  exact ⟨rfl, by repeat (first | exact Below.refl _ _ | refine Below.alloc ?_ (by simp <;> omega) _ | refine Below.drew ?_)⟩
theorem form_name3 (n : Int) (z : ByteArray) (w : World) (h0 : n = 0) (hm : (z.toList == []) = false) :
    Calls Tryd.prog 79 #[(⟨3, n, z⟩ : Tok).val] w fun e w' => e = .returned (.bool false) ∧ Below w.heap.size w w' := by
  subst h0
  go_enter Tryd.func79, Tryd.ntmps79
  go_wp2
  go_ret
  exact ⟨rfl, by repeat (first | exact Below.refl _ _ | refine Below.alloc ?_ (by simp <;> omega) _ | refine Below.drew ?_)⟩
theorem form_ok3 (n : Int) (z : ByteArray) (w : World) (h0 : n = 0) (hm : (z.toList == []) = true) :
    Calls Tryd.prog 79 #[(⟨3, n, z⟩ : Tok).val] w fun e w' => e = .returned (.bool true) ∧ Below w.heap.size w w' := by
  subst h0
  go_enter Tryd.func79, Tryd.ntmps79
  go_wp2
  go_ret
  exact ⟨rfl, by repeat (first | exact Below.refl _ _ | refine Below.alloc ?_ (by simp <;> omega) _ | refine Below.drew ?_)⟩
theorem form_name4 (n : Int) (z : ByteArray) (w : World) (hm : (z.toList == []) = false) :
    Calls Tryd.prog 79 #[(⟨4, n, z⟩ : Tok).val] w fun e w' => e = .returned (.bool false) ∧ Below w.heap.size w w' := by
  go_enter Tryd.func79, Tryd.ntmps79
  go_wp2
  go_ret
  exact ⟨rfl, by repeat (first | exact Below.refl _ _ | refine Below.alloc ?_ (by simp <;> omega) _ | refine Below.drew ?_)⟩
theorem form_ok4 (n : Int) (z : ByteArray) (w : World) (hm : (z.toList == []) = true) :
    Calls Tryd.prog 79 #[(⟨4, n, z⟩ : Tok).val] w fun e w' => e = .returned (.bool true) ∧ Below w.heap.size w w' := by
  go_enter Tryd.func79, Tryd.ntmps79
  go_wp2
  go_ret
  exact ⟨rfl, by repeat (first | exact Below.refl _ _ | refine Below.alloc ?_ (by simp <;> omega) _ | refine Below.drew ?_)⟩
theorem form_name5 (n : Int) (z : ByteArray) (w : World) (hm : (z.toList == []) = false) :
    Calls Tryd.prog 79 #[(⟨5, n, z⟩ : Tok).val] w fun e w' => e = .returned (.bool false) ∧ Below w.heap.size w w' := by
  go_enter Tryd.func79, Tryd.ntmps79
  go_wp2
  go_ret
  exact ⟨rfl, by repeat (first | exact Below.refl _ _ | refine Below.alloc ?_ (by simp <;> omega) _ | refine Below.drew ?_)⟩
theorem form_ok5 (n : Int) (z : ByteArray) (w : World) (hm : (z.toList == []) = true) :
    Calls Tryd.prog 79 #[(⟨5, n, z⟩ : Tok).val] w fun e w' => e = .returned (.bool true) ∧ Below w.heap.size w w' := by
  go_enter Tryd.func79, Tryd.ntmps79
  go_wp2
  go_ret
  exact ⟨rfl, by repeat (first | exact Below.refl _ _ | refine Below.alloc ?_ (by simp <;> omega) _ | refine Below.drew ?_)⟩
theorem form_num6 (n : Int) (z : ByteArray) (w : World) (hn : (n == 0) = false) :
    Calls Tryd.prog 79 #[(⟨6, n, z⟩ : Tok).val] w fun e w' => e = .returned (.bool false) ∧ Below w.heap.size w w' := by
  go_enter Tryd.func79, Tryd.ntmps79
  go_wp2
  go_ret
  exact ⟨rfl, by repeat (first | exact Below.refl _ _ | refine Below.alloc ?_ (by simp <;> omega) _ | refine Below.drew ?_)⟩
theorem form_ok6 (n : Int) (z : ByteArray) (w : World) (h0 : n = 0) :
    Calls Tryd.prog 79 #[(⟨6, n, z⟩ : Tok).val] w fun e w' => e = .returned (.bool true) ∧ Below w.heap.size w w' := by
  subst h0
  go_enter Tryd.func79, Tryd.ntmps79
  go_wp2
  go_ret
  exact ⟨rfl, by repeat (first | exact Below.refl _ _ | refine Below.alloc ?_ (by simp <;> omega) _ | refine Below.drew ?_)⟩
end Go.Proofs.YtoljpgpkeploiaaDoor
