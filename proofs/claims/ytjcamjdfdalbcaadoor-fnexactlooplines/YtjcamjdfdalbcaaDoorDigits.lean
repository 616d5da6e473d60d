/-
  The model's l1Digits answers the decimal text of a number within the bounds, whatever the world; nothing that was there is turned.
-/
import Derived.Test.YtjcamjdfdalbcaaDoorSpecNum2
import Derived.WalkLawsBesides
import Derived.Laws.IdiomStrings
import Derived.Deep.RegionWith
import Derived.BigRegion
namespace Go.Proofs.YtjcamjdfdalbcaaDoor
open Go.RowKit Go.Extern.Stop Go.Stop Go.Extern Num Go.Lib

/-- A string of these bytes. -/
abbrev S (l : List UInt8) : Value := .string ⟨l.toArray⟩
/-- The byte of a digit. -/
def digB (d : Nat) : UInt8 := UInt8.ofNat (48 + d)
/-- 'string([]byte{x})'. -/
theorem conv_one (d : Nat) (hd : d < 10) (W : World) (b : Nat) (x : Int) (hx : x = 48 + (d : Int)) (hc : W.cell? ⟨b, 0, none⟩ = some (.int .u8 x)) :
    (convert 42 9 (.slice (some ⟨b, 0, none⟩) 1 1)).run Tryd.prog W = .ok (S [digB d]) W := by
  have := run_convert_bytes_back (P := Tryd.prog) W 42 9 5 ⟨b, 0, none⟩ 1 [digB d] Tryd.underlying42 Tryd.underlying5 Tryd.underlying9 (by
    intro j hj
    have hj0 : j = 0 := by simpa using hj
    subst hj0
    have e : (digB d).toNat = 48 + d := by unfold digB; simp [UInt8.toNat_ofNat']; omega
    simp only [List.getElem_cons_zero, e]
    show W.cell? ⟨b, 0, none⟩ = _
    rw [hc, hx]; simp)
  simpa using this
theorem ret_str {a b : List UInt8} (h : a = b) : Ending.returned (S a) = .returned (S b) := by rw [h]

theorem add_dig (u d : Nat) (hu : u ≤ 1000000000) (w : World) : (Op.stringOp .add ⟨(decDigits u).toArray⟩ ⟨[digB d].toArray⟩).run Tryd.prog w = .ok (S (decDigits u ++ [digB d])) w := by
  have h : (decDigits u).length ≤ 10 := by rw [decDigits_length]; exact nDigits_le_of_lt u 9 (by omega)
  exact run_string_add_lists w _ _ (by omega) (by simp)
theorem add_min (u : Nat) (hu : u ≤ 1000000000) (w : World) : (Op.stringOp .add ⟨#[45]⟩ ⟨(decDigits u).toArray⟩).run Tryd.prog w = .ok (S (45 :: decDigits u)) w := by
  have h : (decDigits u).length ≤ 10 := by rw [decDigits_length]; exact nDigits_le_of_lt u 9 (by omega)
  exact run_string_add_lists w [45] _ (by simp) (by omega)
theorem dig_step (u q r : Nat) (hu : ¬ u < 10) (hq : q = u / 10) (hr : r = u % 10) : decDigits q ++ [digB r] = decDigits u := by
  subst hq; subst hr
  conv => rhs; rw [decDigits, dif_neg hu]
  rfl
theorem wrapDig (n : Int) (h : 0 ≤ n) : IntKind.u8.wrap (IntKind.i64.wrap (48 + n.tmod 10)) = 48 + ((n % 10).toNat : Int) := by
  rw [Int.tmod_eq_emod_of_nonneg h, IntKind.wrap_i64]
  have e : (48 + n % 10 + 9223372036854775808) % 18446744073709551616 - 9223372036854775808 = 48 + n % 10 := by omega
  rw [e, IntKind.wrap_u8]
  omega
theorem wrapDiv (n : Int) (h : 0 ≤ n) (h1 : n ≤ 1000000000) : IntKind.i64.wrap (n.tdiv 10) = n / 10 := by
  rw [Int.tdiv_eq_ediv_of_nonneg h, IntKind.wrap_i64]
  omega
end Go.Proofs.YtjcamjdfdalbcaaDoor
