/-
  Parts of the proof laid into one text, one behind the other: SymMath, ShelfSym, ImplSym. Contracts of the program's and the model's functions, and what they are proved of, as their theorems say.
-/
import Derived.Test.YtoafolefecddmaaGreatDoorSpecSymHv
import Derived.Lib.Bytealg
import Derived.Shelf.Strings.Builder1
import Derived.Shelf.Strings.Builder2
import Derived.Shelf.Strings.OnBuilder
import Derived.Shelf.Small.Bits
import Derived.Shelf.Small.Strs
import Derived.Shelf.Strings.BuilderF
import Derived.Shelf.Strings.BuilderK
import Derived.Shelf.Strings.Builder2Cap
import Derived.Shelf.Strconv.Itoa0
import Derived.Shelf.Strconv.Itoa1
import Derived.Shelf.LaysM
import Derived.Shelf.Strconv.Itoa2
import Derived.Shelf.Strconv.Itoa3
import Derived.Shelf.Strconv.Itoa4
import Derived.Shelf.Strconv.ParseIntEmpty
import Derived.Shelf.Strconv.Clone
import Derived.Shelf.Strconv.SyntaxError
import Derived.Shelf.LaysC
import Derived.Shelf.Strconv.ToError
import Derived.Shelf.Strconv.Lower
import Derived.Shelf.Strconv.ParseUint10
import Derived.Shelf.Strconv.ParseUint10Empty
import Derived.Shelf.Strconv.ParseUint10Any
import Derived.Shelf.Strconv.ParseInt10
import Derived.Shelf.Strconv.RangeError
import Derived.Shelf.Strconv.ToErrorRange
import Derived.Shelf.Strconv.ParseUintEmpty
import Derived.Shelf.Strconv.ParseUint10b64
import Derived.Shelf.Strconv.ParseUint10b32
import Derived.Shelf.Strconv.ParseUint10b16
import Derived.Shelf.Strconv.ParseUint10b8
import Derived.Shelf.Strconv.ParseUint10At
import Derived.Shelf.Strconv.ParseInt10At64
import Derived.Shelf.Strconv.ParseInt10At32
import Derived.Shelf.Strconv.ParseInt10At16
import Derived.Shelf.Strconv.ParseInt10At8
import Derived.Shelf.Strconv.ParseInt10All
import Derived.Shelf.Strconv.ParseIntPublic10
import Derived.Shelf.Strconv.ErrVarParseInt
import Derived.Shelf.Strings.Search1
import Derived.Shelf.Strings.Search2
import Derived.Shelf.Strings.Search3
import Derived.Shelf.Strings.Count
import Derived.Shelf.Strings.Shaped
import Derived.Shelf.Strings.Split
import Derived.Shelf.Unicode.DecodeSlow
import Derived.Ground.SlgnProg
import Derived.Shelf.SlicesG.CompactI
import Derived.Test.YtoafolefecddmaaGreatDoorProg
namespace Go.Proofs.YtoafolefecddmaaGreatDoor
open Go.RowKit Go.Extern.Stop Go.Stop Go.Extern Num
theorem indexByte_iff (l : List UInt8) (b : UInt8) : 0 ≤ Lib.indexByte l b ↔ l.any (· == b) = true := by
  induction l with
  | nil => simp [Lib.indexByte]
  | cons a r ih =>
    have hge := Lib.indexByte_ge r b
    have e : Lib.indexByte (a :: r) b = if a == b then 0 else if Lib.indexByte r b == -1 then -1 else Lib.indexByte r b + 1 := rfl
    rw [e, List.any_cons, Bool.or_eq_true, ← ih]
    by_cases h : (a == b) = true
    · rw [if_pos h]; simp [h]
    · rw [if_neg h]
      by_cases h1 : (Lib.indexByte r b == -1) = true
      · rw [if_pos h1]; have := eq_of_beq h1; simp [h, this]
      · rw [if_neg h1]
        have h2 : Lib.indexByte r b ≠ -1 := by simpa using h1
        constructor
        · intro _; exact Or.inr (by omega)
        · intro _; omega
theorem indexByte_any (l : List UInt8) (b : UInt8) : decide (0 ≤ Lib.indexByte l b) = l.any (· == b) := by
  rw [Bool.eq_iff_iff, decide_eq_true_iff]; exact indexByte_iff l b
def symAll : List UInt8 := [97, 98, 99, 100, 101, 102, 103, 104, 105, 106, 107, 108, 109, 110, 111, 112, 113, 114, 115, 116, 117, 118, 119, 120, 121, 122, 43, 45, 42, 47, 60, 61, 63, 33]
theorem symAll_any (b : UInt8) : symAll.any (· == b) = symB b := by
  have h : ∀ n : Fin 256, symAll.any (· == UInt8.ofFin n) = symB (UInt8.ofFin n) := by decide +kernel
  have := h b.toFin
  simpa using this
end Go.Proofs.YtoafolefecddmaaGreatDoor
namespace Go.Proofs.YtoafolefecddmaaGreatDoor
open Go.Shelf
def Tryz.lays137_ren : Go.Shelf.Ren := ⟨fun | 137 => 245 | 217 => 177 | 266 => 220 | n => n, fun | 9 => 9 | 5 => 5 | 3 => 3 | n => n, fun | n => n⟩
theorem Tryz.lays137 : Go.Proofs.Lays.n137 Tryz.prog Tryz.lays137_ren := {
  mixed := by kernel_rfl
  f137 := Tryz.func245.trans (congrArg some (by kernel_rfl))
  f217 := Tryz.func177.trans (congrArg some (by kernel_rfl))
  f266 := Tryz.func220.trans (congrArg some (by kernel_rfl))
  t3 := Tryz.underlying3
  a3 := Tryz.isAgg3
  z3 := Tryz.sizeOf3
  v3 := Tryz.zeroValue3
  t5 := Tryz.underlying5
  a5 := Tryz.isAgg5
  z5 := Tryz.sizeOf5
  v5 := Tryz.zeroValue5
  t9 := Tryz.underlying9
  a9 := Tryz.isAgg9
  z9 := Tryz.sizeOf9
  v9 := Tryz.zeroValue9 }
open Go.RowKit in
theorem Tryz.strings_IndexByte (s : ByteArray) (c : Int) (w : World) :
    Calls Tryz.prog 245 #[.string s, .int .u8 c] w fun e w' => e = .returned (.int .i64 (Lib.indexByte s.data.toList c.toNat.toUInt8)) ∧ w' = w := Any.strings_IndexByte Tryz.lays137 s c w
end Go.Proofs.YtoafolefecddmaaGreatDoor
namespace Go.Proofs.YtoafolefecddmaaGreatDoor
open Go.RowKit Go.Extern.Stop Go.Stop Go.Extern Num
theorem isSymB_any (b : UInt8) (w : World) :
    Calls Tryz.prog 218 #[.int .u8 b.toNat] w fun e w' => e = .returned (.bool (symB b)) ∧ w' = w := by
  have HI : Hid (∀ w, Calls Tryz.prog 245 #[.string ⟨#[97, 98, 99, 100, 101, 102, 103, 104, 105, 106, 107, 108, 109, 110, 111, 112, 113, 114, 115, 116, 117, 118, 119, 120, 121, 122, 43, 45, 42, 47, 60, 61, 63, 33]⟩, .int .u8 b.toNat] w fun e w' => ∃ i : Int, e = .returned (.int .i64 i) ∧ decide (0 ≤ i) = symB b ∧ w' = w) := fun w => by
    refine (Tryz.strings_IndexByte _ (b.toNat : Int) w).mono ?_
    rintro e w' ⟨rfl, rfl⟩
    refine ⟨_, rfl, ?_, rfl⟩
    have e1 : (b.toNat : Int).toNat.toUInt8 = b := by simp
    rw [e1, ← symAll_any b]; exact indexByte_any symAll b
  go_enter Tryz.func218, Tryz.ntmps218
  go_wp2_with (go_at_call 245; refine (HI.out _).mono ?_; rintro e w' ⟨i, rfl, hi, rfl⟩; have HJ : Hid (decide (0 ≤ i) = symB b) := hi; clear hi)
  go_ret
  exact ⟨by rw [← HJ.out]; rfl, rfl⟩
theorem sym_short (s : ByteArray) (h : (s.size : Int) < 1) : symL s.data.toList = false := by
  unfold symL
  have hl : s.data.toList.length = s.size := by rw [Array.length_toList]; rfl
  rw [hl]; simp; intro _ h1; omega
theorem sym_far (s : ByteArray) (h : 12 < (s.size : Int)) : symL s.data.toList = false := by
  unfold symL
  have hl : s.data.toList.length = s.size := by rw [Array.length_toList]; rfl
  rw [hl]; simp; intro _ h1; omega
theorem isSym_any (s : ByteArray) (w : World) (hs : s.size ≤ 9223372036854775807) :
    Calls Tryz.prog 174 #[.string s] w fun e w' => e = .returned (.bool (symL s.data.toList)) ∧ w' = w := by
  by_cases h1 : (s.size : Int) < 1
  · have HS : Hid (symL s.data.toList = false) := sym_short s h1
    go_enter Tryz.func174, Tryz.ntmps174
    go_wp2
    go_ret
    exact ⟨by rw [HS.out]; rfl, rfl⟩
  · by_cases h2 : 12 < (s.size : Int)
    · have HS : Hid (symL s.data.toList = false) := sym_far s h2
      go_enter Tryz.func174, Tryz.ntmps174
      go_wp2
      go_ret
      exact ⟨by rw [HS.out]; rfl, rfl⟩
    · go_enter Tryz.func174, Tryz.ntmps174
      go_wp2_with fail
      go_loop [14] (fun i => ∃ k : Nat, k ≤ s.size ∧ i = .int .i64 k ∧ (s.data.toList.take k).all symB = true) (fun i => s.size - (intOf i).toNat)
      case atStart => exact ⟨0, by omega, rfl, rfl⟩
      case round =>
        obtain ⟨k, hk, rfl, hn⟩ := hrel
        have HN : Hid ((s.data.toList.take k).all symB = true) := hn
        clear hn
        by_cases hlt : k < s.size
        · cases ht : symB (s[k]'hlt)
          · have HT : Hid (symL s.data.toList = false) := not_all s k hlt ht
            go_wp2_with (go_at_call 218; refine (isSymB_any _ _).mono ?_; rintro e w' ⟨rfl, rfl⟩)
            go_ret
            exact ⟨by rw [HT.out]; rfl, rfl⟩
          · have HT : Hid ((s.data.toList.take (k + 1)).all symB = true) := (take_all s k hlt HN.out).trans ht
            go_wp2_with (go_at_call 218; refine (isSymB_any _ _).mono ?_; rintro e w' ⟨rfl, rfl⟩)
            exact ⟨⟨k + 1, by omega, by go_num, HT.out⟩, by simp [intOf]; omega⟩
        · have HA : Hid (symL s.data.toList = true) := by
            have h3 := all_len s (by
              have := HN.out
              rwa [List.take_of_length_le (by rw [Array.length_toList]; show s.size ≤ k; omega)] at this)
            show symL s.data.toList = true
            rw [h3]; simp; omega
          go_wp2
          go_ret
          exact ⟨by rw [HA.out]; rfl, rfl⟩
theorem implSym_any (s : ByteArray) (w : World) (hs : s.size ≤ 9223372036854775807) :
    Calls Tryz.prog 267 #[.string s] w fun e w' => e = .returned (.int .i64 (if symL s.data.toList = true then 0 else 5)) ∧ w' = w := by
  have HS : Hid (∀ w, Calls Tryz.prog 174 #[.string s] w fun e w' => e = .returned (.bool (symL s.data.toList)) ∧ w' = w) := fun w => isSym_any s w hs
  cases h : symL s.data.toList
  all_goals
    go_enter Tryz.func267, Tryz.ntmps267
    go_wp2_with (go_at_call 174; refine (HS.out _).mono ?_; rintro e w' ⟨rfl, rfl⟩)
    go_ret
    exact ⟨by simp, rfl⟩
end Go.Proofs.YtoafolefecddmaaGreatDoor
