/-
  Parts of the proof laid into one text, one behind the other; each says at its head what is proved in it.
-/
import Derived.Shelf.Strings.Builder1
import Derived.Shelf.Small.Strs
import Derived.Shelf.Strings.BuilderF
import Derived.Shelf.Strings.BuilderK
import Derived.Shelf.Strconv.Itoa0
import Derived.Shelf.Strconv.Itoa1
import Derived.Shelf.LaysM
import Derived.Shelf.Strconv.Itoa2
import Derived.Shelf.Strconv.Itoa3
import Derived.Shelf.Strconv.Itoa4
import Derived.Shelf.Strconv.ParseIntEmpty
import Derived.Shelf.Strconv.Clone
import Derived.Shelf.Strconv.SyntaxError
import Derived.Shelf.LaysC
import Derived.Shelf.Strconv.ToError
import Derived.Shelf.Strconv.Lower
import Derived.Shelf.Strconv.ParseUint10
import Derived.Shelf.Strconv.ParseUint10Empty
import Derived.Shelf.Strconv.ParseUint10Any
import Derived.Shelf.Strconv.ParseInt10
import Derived.Shelf.Strconv.RangeError
import Derived.Shelf.Strconv.ToErrorRange
import Derived.Shelf.Strconv.ParseUintEmpty
import Derived.Shelf.Strconv.ParseUint10b64
import Derived.Shelf.Strconv.ParseUint10b32
import Derived.Shelf.Strconv.ParseUint10b16
import Derived.Shelf.Strconv.ParseUint10b8
import Derived.Shelf.Strconv.ParseUint10At
import Derived.Shelf.Strconv.ParseInt10At64
import Derived.Shelf.Strconv.ParseInt10At32
import Derived.Shelf.Strconv.ParseInt10At16
import Derived.Shelf.Strconv.ParseInt10At8
import Derived.Shelf.Strconv.ParseInt10All
import Derived.Shelf.Strconv.ParseIntPublic10
import Derived.Shelf.Strconv.ErrVarParseInt
import Derived.Shelf.Strings.Search1
import Derived.Shelf.Strings.BuilderCap
import Derived.Test.YtfdkklhigliciaaGreatDoorProg
import Derived.Test.YtfdkklhigliciaaGreatDoorXaA
import Derived.Test.YtfdkklhigliciaaGreatDoorXaC
import Derived.Lib.Bytealg
import Derived.Test.YtfdkklhigliciaaGreatDoorXaF
import Derived.Test.YtfdkklhigliciaaGreatDoorXaB
import Derived.Test.YtfdkklhigliciaaGreatDoorXaE
import Derived.Test.YtfdkklhigliciaaGreatDoorXaD
/-
  Functions of Go's library that the program calls, at this program's numbers, as the library of contracts tells them; nothing of my own is proved here.
-/
namespace Go.Proofs.YtfdkklhigliciaaGreatDoor
open Go.Shelf
def Tryz.laysM316_ren : Go.Shelf.Ren := ⟨fun | 316 => 113 | n => n, fun | 9 => 9 | 3 => 3 | 4 => 4 | 37 => 102 | 0 => 0 | 127 => 216 | 5 => 5 | n => n, fun | n => n⟩
theorem Tryz.laysM316 : Go.Proofs.LaysM.n316 Tryz.prog Tryz.laysM316_ren := {
  mixed := by kernel_rfl
  f316 := Tryz.func113.trans (congrArg some (by kernel_rfl))
  t0 := Tryz.underlying0
  a0 := Tryz.isAgg0
  z0 := Tryz.sizeOf0
  v0 := Tryz.zeroValue0
  t3 := Tryz.underlying3
  a3 := Tryz.isAgg3
  z3 := Tryz.sizeOf3
  v3 := Tryz.zeroValue3
  t4 := Tryz.underlying4
  a4 := Tryz.isAgg4
  z4 := Tryz.sizeOf4
  v4 := Tryz.zeroValue4
  t9 := Tryz.underlying9
  a9 := Tryz.isAgg9
  z9 := Tryz.sizeOf9
  v9 := Tryz.zeroValue9
  t37 := Tryz.underlying102
  a37 := Tryz.isAgg102
  z37 := Tryz.sizeOf102
  v37 := Tryz.zeroValue102
  t127 := Tryz.underlying216
  a127 := Tryz.isAgg216
  z127 := Tryz.sizeOf216
  v127 := Tryz.zeroValue216
  t5 := Tryz.underlying5
  a5 := Tryz.isAgg5
  z5 := Tryz.sizeOf5
  v5 := Tryz.zeroValue5
  i0 := by kernel_rfl
  i3 := by kernel_rfl
  i4 := by kernel_rfl
  i5 := by kernel_rfl
  i9 := by kernel_rfl
  i37 := by kernel_rfl
  i127 := by kernel_rfl }
open Go.RowKit in
theorem Tryz.stringslite_Clone (s : ByteArray) (w : World) (hlim : s.size ≤ 281474976710656) :
    Calls Tryz.prog 113 #[.string s] w fun e w' => e = .returned (.string s) ∧ Below w.heap.size w w' := Any.stringslite_Clone Tryz.laysM316 s w hlim
end Go.Proofs.YtfdkklhigliciaaGreatDoor
/-
  The library's strings.Clone: the same text, in new memory.
-/
namespace Go.Proofs.YtfdkklhigliciaaGreatDoor
open Go.RowKit Go.Extern.Stop Go.Stop Go.Extern Num Go.Lib

theorem clone_any (s : ByteArray) (w : World) (hs : s.size ≤ 281474976710656) :
    Calls Tryz.prog 81 #[.string s] w fun e w' => e = .returned (.string s) ∧ Below w.heap.size w w' := by
  go_enter Tryz.func81, Tryz.ntmps81
  go_wp2_with (go_at_call 113; refine (Tryz.stringslite_Clone s _ hs).mono ?_; rintro e w1 ⟨rfl, hq⟩)
  go_ret
  exact ⟨rfl, hq⟩
end Go.Proofs.YtfdkklhigliciaaGreatDoor
/-
  The bytes of symbols, and a name as one number: its bytes are digits from 1 on, so that the name comes back from the number. No program in it.
-/
namespace Go.Proofs.YtfdkklhigliciaaGreatDoor
open Go.RowKit Go.Extern.Stop Go.Stop Go.Extern Num

theorem indexByte_iff (l : List UInt8) (b : UInt8) : 0 ≤ Lib.indexByte l b ↔ l.any (· == b) = true := by
  induction l with
  | nil => simp [Lib.indexByte]
  | cons a r ih =>
    have hge := Lib.indexByte_ge r b
    have e : Lib.indexByte (a :: r) b = if a == b then 0 else if Lib.indexByte r b == -1 then -1 else Lib.indexByte r b + 1 := rfl
    rw [e, List.any_cons, Bool.or_eq_true, ← ih]
    by_cases h : (a == b) = true
    · rw [if_pos h]; simp [h]
    · rw [if_neg h]
      by_cases h1 : (Lib.indexByte r b == -1) = true
      · rw [if_pos h1]; have := eq_of_beq h1; simp [h, this]
      · rw [if_neg h1]
        have h2 : Lib.indexByte r b ≠ -1 := by simpa using h1
        constructor
        · intro _; exact Or.inr (by omega)
        · intro _; omega
theorem indexByte_any (l : List UInt8) (b : UInt8) : decide (0 ≤ Lib.indexByte l b) = l.any (· == b) := by
  rw [Bool.eq_iff_iff, decide_eq_true_iff]; exact indexByte_iff l b
/-- The bytes that a symbol may have. -/
def symAll : List UInt8 := [97, 98, 99, 100, 101, 102, 103, 104, 105, 106, 107, 108, 109, 110, 111, 112, 113, 114, 115, 116, 117, 118, 119, 120, 121, 122, 43, 45, 42, 47, 60, 61, 63, 33]
theorem symAll_any (b : UInt8) : symAll.any (· == b) = symB b := by
  have h : ∀ n : Fin 256, symAll.any (· == UInt8.ofFin n) = symB (UInt8.ofFin n) := by decide +kernel
  have := h b.toFin
  simpa using this
/-- The digit of a byte. -/
def dig (b : UInt8) : Nat := (Lib.indexByte symAll b + 1).toNat
theorem dig_facts (b : UInt8) (h : symB b = true) : 1 ≤ dig b ∧ dig b ≤ 34 ∧ Lib.indexByte symAll b = ((dig b : Nat) : Int) - 1 ∧ symAll[dig b - 1]? = some b := by
  have k : ∀ n : Fin 256, symB (UInt8.ofFin n) = true → 1 ≤ dig (UInt8.ofFin n) ∧ dig (UInt8.ofFin n) ≤ 34 ∧ Lib.indexByte symAll (UInt8.ofFin n) = ((dig (UInt8.ofFin n) : Nat) : Int) - 1 ∧ symAll[dig (UInt8.ofFin n) - 1]? = some (UInt8.ofFin n) := by decide +kernel
  have := k b.toFin (by simpa using h)
  simpa using this
/-- A name as a number. -/
def bitsL (l : List UInt8) : Nat := l.foldl (fun n b => n * 35 + dig b) 0
theorem bitsL_snoc (l : List UInt8) (b : UInt8) : bitsL (l ++ [b]) = bitsL l * 35 + dig b := by simp [bitsL]
theorem foldl_lt (l : List UInt8) (h : l.all symB = true) : ∀ n, l.foldl (fun n b => n * 35 + dig b) n < (n + 1) * 35 ^ l.length := by
  induction l with
  | nil => intro n; simp
  | cons b r ih =>
    intro n
    rw [List.all_cons, Bool.and_eq_true] at h
    have h1 := ih h.2 (n * 35 + dig b)
    have h2 := dig_facts b h.1
    rw [List.foldl_cons, List.length_cons, Nat.pow_succ, Nat.mul_comm (35 ^ r.length) 35, ← Nat.mul_assoc]
    refine Nat.lt_of_lt_of_le h1 (Nat.mul_le_mul_right _ ?_)
    omega
theorem bitsL_lt (l : List UInt8) (h : l.all symB = true) : bitsL l < 35 ^ l.length := by
  have := foldl_lt l h 0
  simpa [bitsL] using this
theorem pow35 (n : Nat) (h : n ≤ 12) : 35 ^ n ≤ 3379220508056640625 := by
  have : 35 ^ n ≤ 35 ^ 12 := Nat.pow_le_pow_right (by omega) h
  simpa using this
theorem bitsL_pos (l : List UInt8) (b : UInt8) (h : symB b = true) : 0 < bitsL (l ++ [b]) ∧ bitsL (l ++ [b]) % 35 = dig b ∧ bitsL (l ++ [b]) / 35 = bitsL l := by
  have h2 := dig_facts b h
  rw [bitsL_snoc]
  omega
end Go.Proofs.YtfdkklhigliciaaGreatDoor
/-
  Functions of Go's library that the program calls, at this program's numbers, as the library of contracts tells them; nothing of my own is proved here.
-/
namespace Go.Proofs.YtfdkklhigliciaaGreatDoor
open Go.Shelf
def Tryz.lays137_ren : Go.Shelf.Ren := ⟨fun | 137 => 188 | 217 => 201 | 266 => 206 | n => n, fun | 9 => 9 | 5 => 5 | 3 => 3 | n => n, fun | n => n⟩
theorem Tryz.lays137 : Go.Proofs.Lays.n137 Tryz.prog Tryz.lays137_ren := {
  mixed := by kernel_rfl
  f137 := Tryz.func188.trans (congrArg some (by kernel_rfl))
  f217 := Tryz.func201.trans (congrArg some (by kernel_rfl))
  f266 := Tryz.func206.trans (congrArg some (by kernel_rfl))
  t3 := Tryz.underlying3
  a3 := Tryz.isAgg3
  z3 := Tryz.sizeOf3
  v3 := Tryz.zeroValue3
  t5 := Tryz.underlying5
  a5 := Tryz.isAgg5
  z5 := Tryz.sizeOf5
  v5 := Tryz.zeroValue5
  t9 := Tryz.underlying9
  a9 := Tryz.isAgg9
  z9 := Tryz.sizeOf9
  v9 := Tryz.zeroValue9 }
open Go.RowKit in
theorem Tryz.strings_IndexByte (s : ByteArray) (c : Int) (w : World) :
    Calls Tryz.prog 188 #[.string s, .int .u8 c] w fun e w' => e = .returned (.int .i64 (Lib.indexByte s.data.toList c.toNat.toUInt8)) ∧ w' = w := Any.strings_IndexByte Tryz.lays137 s c w
end Go.Proofs.YtfdkklhigliciaaGreatDoor
/-
  The program's isSymByte, isSymbol and SymFault answer what the plain functions tell, whatever the world; nothing is turned.
-/
namespace Go.Proofs.YtfdkklhigliciaaGreatDoor
open Go.RowKit Go.Extern.Stop Go.Stop Go.Extern Num

theorem isSymB_any (b : UInt8) (w : World) :
    Calls Tryz.prog 170 #[.int .u8 b.toNat] w fun e w' => e = .returned (.bool (symB b)) ∧ w' = w := by
  have HI : Hid (∀ w, Calls Tryz.prog 188 #[.string ⟨#[97, 98, 99, 100, 101, 102, 103, 104, 105, 106, 107, 108, 109, 110, 111, 112, 113, 114, 115, 116, 117, 118, 119, 120, 121, 122, 43, 45, 42, 47, 60, 61, 63, 33]⟩, .int .u8 b.toNat] w fun e w' => ∃ i : Int, e = .returned (.int .i64 i) ∧ decide (0 ≤ i) = symB b ∧ w' = w) := fun w => by
    refine (Tryz.strings_IndexByte _ (b.toNat : Int) w).mono ?_
    rintro e w' ⟨rfl, rfl⟩
    refine ⟨_, rfl, ?_, rfl⟩
    have e1 : (b.toNat : Int).toNat.toUInt8 = b := by simp
    rw [e1, ← symAll_any b]; exact indexByte_any symAll b
  go_enter Tryz.func170, Tryz.ntmps170
  go_wp2_with (go_at_call 188; refine (HI.out _).mono ?_; rintro e w' ⟨i, rfl, hi, rfl⟩; have HJ : Hid (decide (0 ≤ i) = symB b) := hi; clear hi)
  go_ret
  exact ⟨by rw [← HJ.out]; rfl, rfl⟩
theorem sym_short (s : ByteArray) (h : (s.size : Int) < 1) : symL s.data.toList = false := by
  unfold symL
  have hl : s.data.toList.length = s.size := by rw [Array.length_toList]; rfl
  rw [hl]; simp; intro _ h1; omega
theorem sym_far (s : ByteArray) (h : 12 < (s.size : Int)) : symL s.data.toList = false := by
  unfold symL
  have hl : s.data.toList.length = s.size := by rw [Array.length_toList]; rfl
  rw [hl]; simp; intro _ h1; omega
theorem isSym_any (s : ByteArray) (w : World) (hs : s.size ≤ 9223372036854775807) :
    Calls Tryz.prog 136 #[.string s] w fun e w' => e = .returned (.bool (symL s.data.toList)) ∧ w' = w := by
  by_cases h1 : (s.size : Int) < 1
  · have HS : Hid (symL s.data.toList = false) := sym_short s h1
    go_enter Tryz.func136, Tryz.ntmps136
    go_wp2
    go_ret
    exact ⟨by rw [HS.out]; rfl, rfl⟩
  · by_cases h2 : 12 < (s.size : Int)
    · have HS : Hid (symL s.data.toList = false) := sym_far s h2
      go_enter Tryz.func136, Tryz.ntmps136
      go_wp2
      go_ret
      exact ⟨by rw [HS.out]; rfl, rfl⟩
    · go_enter Tryz.func136, Tryz.ntmps136
      go_wp2_with fail
      go_loop [14] (fun i => ∃ k : Nat, k ≤ s.size ∧ i = .int .i64 k ∧ (s.data.toList.take k).all symB = true) (fun i => s.size - (intOf i).toNat)
      case atStart => exact ⟨0, by omega, rfl, rfl⟩
      case round =>
        obtain ⟨k, hk, rfl, hn⟩ := hrel
        have HN : Hid ((s.data.toList.take k).all symB = true) := hn
        clear hn
        by_cases hlt : k < s.size
        · cases ht : symB (s[k]'hlt)
          · have HT : Hid (symL s.data.toList = false) := not_all s k hlt ht
            go_wp2_with (go_at_call 170; refine (isSymB_any _ _).mono ?_; rintro e w' ⟨rfl, rfl⟩)
            go_ret
            exact ⟨by rw [HT.out]; rfl, rfl⟩
          · have HT : Hid ((s.data.toList.take (k + 1)).all symB = true) := (take_all s k hlt HN.out).trans ht
            go_wp2_with (go_at_call 170; refine (isSymB_any _ _).mono ?_; rintro e w' ⟨rfl, rfl⟩)
            exact ⟨⟨k + 1, by omega, by go_num, HT.out⟩, by simp [intOf]; omega⟩
        · have HA : Hid (symL s.data.toList = true) := by
            have h3 := all_len s (by
              have := HN.out
              rwa [List.take_of_length_le (by rw [Array.length_toList]; show s.size ≤ k; omega)] at this)
            show symL s.data.toList = true
            rw [h3]; simp; omega
          go_wp2
          go_ret
          exact ⟨by rw [HA.out]; rfl, rfl⟩
theorem implSym_any (s : ByteArray) (w : World) (hs : s.size ≤ 9223372036854775807) :
    Calls Tryz.prog 103 #[.string s] w fun e w' => e = .returned (.int .i64 (if symL s.data.toList = true then 0 else 5)) ∧ w' = w := by
  have HS : Hid (∀ w, Calls Tryz.prog 136 #[.string s] w fun e w' => e = .returned (.bool (symL s.data.toList)) ∧ w' = w) := fun w => isSym_any s w hs
  cases h : symL s.data.toList
  all_goals
    go_enter Tryz.func103, Tryz.ntmps103
    go_wp2_with (go_at_call 136; refine (HS.out _).mono ?_; rintro e w' ⟨rfl, rfl⟩)
    go_ret
    exact ⟨by simp, rfl⟩
end Go.Proofs.YtfdkklhigliciaaGreatDoor
/-
  The program's isTokenForm, boolText, symText and TokenText: the text of a token, or what is wrong with it; nothing that was there is turned. The model's TokenText besides.
-/
namespace Go.Proofs.YtfdkklhigliciaaGreatDoor
open Go.RowKit Go.Extern.Stop Go.Stop Go.Extern Num Go.Lib

/-- A token as TokenText answers it. -/
abbrev TT (t : Tok) : Value := .agg #[.int .i64 (tokFault t), .string (if tokFault t = 0 then tokText t else E0)]
theorem form_kind (n : Int) (z : ByteArray) (w : World) (k : Int) (k1 : (k == 1) = false) (k2 : (k == 2) = false) (k3 : (k == 3) = false) (k4 : (k == 4) = false) (k5 : (k == 5) = false) (k6 : (k == 6) = false) :
    Calls Tryz.prog 68 #[(⟨k, n, z⟩ : Tok).val] w fun e w' => e = .returned (.bool false) ∧ Below w.heap.size w w' := by
  go_enter Tryz.func68, Tryz.ntmps68
  go_wp2
  go_ret
  exact ⟨rfl, by repeat (first | exact Below.refl _ _ | refine Below.alloc ?_ (by simp <;> omega) _ | refine Below.drew ?_)⟩
theorem form_num1 (n : Int) (z : ByteArray) (w : World) (hn : (n == 0) = false) :
    Calls Tryz.prog 68 #[(⟨1, n, z⟩ : Tok).val] w fun e w' => e = .returned (.bool false) ∧ Below w.heap.size w w' := by
  go_enter Tryz.func68, Tryz.ntmps68
  go_wp2
  go_ret
  exact ⟨rfl, by repeat (first | exact Below.refl _ _ | refine Below.alloc ?_ (by simp <;> omega) _ | refine Below.drew ?_)⟩
theorem form_name1 (n : Int) (z : ByteArray) (w : World) (h0 : n = 0) (hm : (z.toList == []) = false) :
    Calls Tryz.prog 68 #[(⟨1, n, z⟩ : Tok).val] w fun e w' => e = .returned (.bool false) ∧ Below w.heap.size w w' := by
  subst h0
  go_enter Tryz.func68, Tryz.ntmps68
  go_wp2
  go_ret
  exact ⟨rfl, by repeat (first | exact Below.refl _ _ | refine Below.alloc ?_ (by simp <;> omega) _ | refine Below.drew ?_)⟩
theorem form_ok1 (n : Int) (z : ByteArray) (w : World) (h0 : n = 0) (hm : (z.toList == []) = true) :
    Calls Tryz.prog 68 #[(⟨1, n, z⟩ : Tok).val] w fun e w' => e = .returned (.bool true) ∧ Below w.heap.size w w' := by
  subst h0
  go_enter Tryz.func68, Tryz.ntmps68
  go_wp2
  go_ret
  exact ⟨rfl, by repeat (first | exact Below.refl _ _ | refine Below.alloc ?_ (by simp <;> omega) _ | refine Below.drew ?_)⟩
theorem form_num2 (n : Int) (z : ByteArray) (w : World) (hn : (n == 0) = false) :
    Calls Tryz.prog 68 #[(⟨2, n, z⟩ : Tok).val] w fun e w' => e = .returned (.bool false) ∧ Below w.heap.size w w' := by
  go_enter Tryz.func68, Tryz.ntmps68
  go_wp2
  go_ret
  exact ⟨rfl, by repeat (first | exact Below.refl _ _ | refine Below.alloc ?_ (by simp <;> omega) _ | refine Below.drew ?_)⟩
theorem form_name2 (n : Int) (z : ByteArray) (w : World) (h0 : n = 0) (hm : (z.toList == []) = false) :
    Calls Tryz.prog 68 #[(⟨2, n, z⟩ : Tok).val] w fun e w' => e = .returned (.bool false) ∧ Below w.heap.size w w' := by
  subst h0
  go_enter Tryz.func68, Tryz.ntmps68
  go_wp2
  go_ret
  exact ⟨rfl, by repeat (first | exact Below.refl _ _ | refine Below.alloc ?_ (by simp <;> omega) _ | refine Below.drew ?_)⟩
theorem form_ok2 (n : Int) (z : ByteArray) (w : World) (h0 : n = 0) (hm : (z.toList == []) = true) :
    Calls Tryz.prog 68 #[(⟨2, n, z⟩ : Tok).val] w fun e w' => e = .returned (.bool true) ∧ Below w.heap.size w w' := by
  subst h0
  go_enter Tryz.func68, Tryz.ntmps68
  go_wp2
  go_ret
  exact ⟨rfl, by repeat (first | exact Below.refl _ _ | refine Below.alloc ?_ (by simp <;> omega) _ | refine Below.drew ?_)⟩
theorem form_num3 (n : Int) (z : ByteArray) (w : World) (hn : (n == 0) = false) :
    Calls Tryz.prog 68 #[(⟨3, n, z⟩ : Tok).val] w fun e w' => e = .returned (.bool false) ∧ Below w.heap.size w w' := by
  go_enter Tryz.func68, Tryz.ntmps68
  go_wp2
  go_ret
  exact ⟨rfl, by repeat (first | exact Below.refl _ _ | refine Below.alloc ?_ (by simp <;> omega) _ | refine Below.drew ?_)⟩
theorem form_name3 (n : Int) (z : ByteArray) (w : World) (h0 : n = 0) (hm : (z.toList == []) = false) :
    Calls Tryz.prog 68 #[(⟨3, n, z⟩ : Tok).val] w fun e w' => e = .returned (.bool false) ∧ Below w.heap.size w w' := by
  subst h0
  go_enter Tryz.func68, Tryz.ntmps68
  go_wp2
  go_ret
  exact ⟨rfl, by repeat (first | exact Below.refl _ _ | refine Below.alloc ?_ (by simp <;> omega) _ | refine Below.drew ?_)⟩
theorem form_ok3 (n : Int) (z : ByteArray) (w : World) (h0 : n = 0) (hm : (z.toList == []) = true) :
    Calls Tryz.prog 68 #[(⟨3, n, z⟩ : Tok).val] w fun e w' => e = .returned (.bool true) ∧ Below w.heap.size w w' := by
  subst h0
  go_enter Tryz.func68, Tryz.ntmps68
  go_wp2
  go_ret
  exact ⟨rfl, by repeat (first | exact Below.refl _ _ | refine Below.alloc ?_ (by simp <;> omega) _ | refine Below.drew ?_)⟩
theorem form_name4 (n : Int) (z : ByteArray) (w : World) (hm : (z.toList == []) = false) :
    Calls Tryz.prog 68 #[(⟨4, n, z⟩ : Tok).val] w fun e w' => e = .returned (.bool false) ∧ Below w.heap.size w w' := by
  go_enter Tryz.func68, Tryz.ntmps68
  go_wp2
  go_ret
  exact ⟨rfl, by repeat (first | exact Below.refl _ _ | refine Below.alloc ?_ (by simp <;> omega) _ | refine Below.drew ?_)⟩
theorem form_ok4 (n : Int) (z : ByteArray) (w : World) (hm : (z.toList == []) = true) :
    Calls Tryz.prog 68 #[(⟨4, n, z⟩ : Tok).val] w fun e w' => e = .returned (.bool true) ∧ Below w.heap.size w w' := by
  go_enter Tryz.func68, Tryz.ntmps68
  go_wp2
  go_ret
  exact ⟨rfl, by repeat (first | exact Below.refl _ _ | refine Below.alloc ?_ (by simp <;> omega) _ | refine Below.drew ?_)⟩
theorem form_name5 (n : Int) (z : ByteArray) (w : World) (hm : (z.toList == []) = false) :
    Calls Tryz.prog 68 #[(⟨5, n, z⟩ : Tok).val] w fun e w' => e = .returned (.bool false) ∧ Below w.heap.size w w' := by
  go_enter Tryz.func68, Tryz.ntmps68
  go_wp2
  go_ret
  exact ⟨rfl, by repeat (first | exact Below.refl _ _ | refine Below.alloc ?_ (by simp <;> omega) _ | refine Below.drew ?_)⟩
theorem form_ok5 (n : Int) (z : ByteArray) (w : World) (hm : (z.toList == []) = true) :
    Calls Tryz.prog 68 #[(⟨5, n, z⟩ : Tok).val] w fun e w' => e = .returned (.bool true) ∧ Below w.heap.size w w' := by
  go_enter Tryz.func68, Tryz.ntmps68
  go_wp2
  go_ret
  exact ⟨rfl, by repeat (first | exact Below.refl _ _ | refine Below.alloc ?_ (by simp <;> omega) _ | refine Below.drew ?_)⟩
theorem form_num6 (n : Int) (z : ByteArray) (w : World) (hn : (n == 0) = false) :
    Calls Tryz.prog 68 #[(⟨6, n, z⟩ : Tok).val] w fun e w' => e = .returned (.bool false) ∧ Below w.heap.size w w' := by
  go_enter Tryz.func68, Tryz.ntmps68
  go_wp2
  go_ret
  exact ⟨rfl, by repeat (first | exact Below.refl _ _ | refine Below.alloc ?_ (by simp <;> omega) _ | refine Below.drew ?_)⟩
theorem form_ok6 (n : Int) (z : ByteArray) (w : World) (h0 : n = 0) :
    Calls Tryz.prog 68 #[(⟨6, n, z⟩ : Tok).val] w fun e w' => e = .returned (.bool true) ∧ Below w.heap.size w w' := by
  subst h0
  go_enter Tryz.func68, Tryz.ntmps68
  go_wp2
  go_ret
  exact ⟨rfl, by repeat (first | exact Below.refl _ _ | refine Below.alloc ?_ (by simp <;> omega) _ | refine Below.drew ?_)⟩
end Go.Proofs.YtfdkklhigliciaaGreatDoor
/-
  The program's TokenText and the model's at every token: the text, or what is wrong with it; nothing that was there is turned.
-/
namespace Go.Proofs.YtfdkklhigliciaaGreatDoor
open Go.RowKit Go.Extern.Stop Go.Stop Go.Extern Num Go.Lib

theorem form_any (t : Tok) (w : World) :
    Calls Tryz.prog 68 #[t.val] w fun e w' => e = .returned (.bool (decide (tokFault t ≠ 1))) ∧ Below w.heap.size w w' := by
  obtain ⟨k, n, z⟩ := t
  by_cases hr : 1 ≤ k ∧ k ≤ 6
  · have hk : k = 1 ∨ k = 2 ∨ k = 3 ∨ k = 4 ∨ k = 5 ∨ k = 6 := by omega
    by_cases hn : n = 0 <;> by_cases hm : z.data.toList = []
    all_goals
      rcases hk with rfl | rfl | rfl | rfl | rfl | rfl
    · have e : decide (tokFault ⟨1, n, z⟩ ≠ 1) = true := by simp [tokFault, hn, hm]
      rw [e]; exact form_ok1 n z w hn (nil_yes hm)
    · have e : decide (tokFault ⟨2, n, z⟩ ≠ 1) = true := by simp [tokFault, hn, hm]
      rw [e]; exact form_ok2 n z w hn (nil_yes hm)
    · have e : decide (tokFault ⟨3, n, z⟩ ≠ 1) = true := by simp [tokFault, hn, hm]
      rw [e]; exact form_ok3 n z w hn (nil_yes hm)
    · have e : decide (tokFault ⟨4, n, z⟩ ≠ 1) = true := by simp [tokFault, hm]; split <;> decide
      rw [e]; exact form_ok4 n z w (nil_yes hm)
    · have e : decide (tokFault ⟨5, n, z⟩ ≠ 1) = true := by simp [tokFault, hn, hm]
      rw [e]; exact form_ok5 n z w (nil_yes hm)
    · have e : decide (tokFault ⟨6, n, z⟩ ≠ 1) = true := by simp [tokFault, hn]; split <;> decide
      rw [e]; exact form_ok6 n z w hn
    · have e : decide (tokFault ⟨1, n, z⟩ ≠ 1) = false := by simp [tokFault, hn, hm]
      rw [e]; exact form_name1 n z w hn (nil_no hm)
    · have e : decide (tokFault ⟨2, n, z⟩ ≠ 1) = false := by simp [tokFault, hn, hm]
      rw [e]; exact form_name2 n z w hn (nil_no hm)
    · have e : decide (tokFault ⟨3, n, z⟩ ≠ 1) = false := by simp [tokFault, hn, hm]
      rw [e]; exact form_name3 n z w hn (nil_no hm)
    · have e : decide (tokFault ⟨4, n, z⟩ ≠ 1) = false := by simp [tokFault, hm]
      rw [e]; exact form_name4 n z w (nil_no hm)
    · have e : decide (tokFault ⟨5, n, z⟩ ≠ 1) = false := by simp [tokFault, hm]
      rw [e]; exact form_name5 n z w (nil_no hm)
    · have e : decide (tokFault ⟨6, n, z⟩ ≠ 1) = true := by simp [tokFault, hn]; split <;> decide
      rw [e]; exact form_ok6 n z w hn
    · have e : decide (tokFault ⟨1, n, z⟩ ≠ 1) = false := by simp [tokFault, hn]
      rw [e]; exact form_num1 n z w (by simpa using hn)
    · have e : decide (tokFault ⟨2, n, z⟩ ≠ 1) = false := by simp [tokFault, hn]
      rw [e]; exact form_num2 n z w (by simpa using hn)
    · have e : decide (tokFault ⟨3, n, z⟩ ≠ 1) = false := by simp [tokFault, hn]
      rw [e]; exact form_num3 n z w (by simpa using hn)
    · have e : decide (tokFault ⟨4, n, z⟩ ≠ 1) = true := by simp [tokFault, hm]; split <;> decide
      rw [e]; exact form_ok4 n z w (nil_yes hm)
    · have e : decide (tokFault ⟨5, n, z⟩ ≠ 1) = true := by simp [tokFault, hm]; split <;> decide
      rw [e]; exact form_ok5 n z w (nil_yes hm)
    · have e : decide (tokFault ⟨6, n, z⟩ ≠ 1) = false := by simp [tokFault, hn]
      rw [e]; exact form_num6 n z w (by simpa using hn)
    · have e : decide (tokFault ⟨1, n, z⟩ ≠ 1) = false := by simp [tokFault, hn]
      rw [e]; exact form_num1 n z w (by simpa using hn)
    · have e : decide (tokFault ⟨2, n, z⟩ ≠ 1) = false := by simp [tokFault, hn]
      rw [e]; exact form_num2 n z w (by simpa using hn)
    · have e : decide (tokFault ⟨3, n, z⟩ ≠ 1) = false := by simp [tokFault, hn]
      rw [e]; exact form_num3 n z w (by simpa using hn)
    · have e : decide (tokFault ⟨4, n, z⟩ ≠ 1) = false := by simp [tokFault, hm]
      rw [e]; exact form_name4 n z w (nil_no hm)
    · have e : decide (tokFault ⟨5, n, z⟩ ≠ 1) = false := by simp [tokFault, hm]
      rw [e]; exact form_name5 n z w (nil_no hm)
    · have e : decide (tokFault ⟨6, n, z⟩ ≠ 1) = false := by simp [tokFault, hn]
      rw [e]; exact form_num6 n z w (by simpa using hn)
  · have e : decide (tokFault ⟨k, n, z⟩ ≠ 1) = false := by unfold tokFault; rw [if_pos hr]; rfl
    rw [e]
    exact form_kind n z w k (by simp; omega) (by simp; omega) (by simp; omega) (by simp; omega) (by simp; omega) (by simp; omega)
theorem bool_no (w : World) : Calls Tryz.prog 70 #[.int .i64 0] w fun e w' => e = .returned (TR 0 [35, 102]) ∧ Below w.heap.size w w' := by
  go_enter Tryz.func70, Tryz.ntmps70
  go_wp2
  exact bodyPost_ret (v := TR 0 [35, 102]) (by simp [results, Tryz.results70, go_sem]) rfl ⟨rfl, by
    repeat (first | exact Below.refl _ _ | refine Below.setCell ?_ (by simp) _ | refine Below.alloc ?_ (by simp <;> omega) _)⟩
theorem bool_yes (w : World) : Calls Tryz.prog 70 #[.int .i64 1] w fun e w' => e = .returned (TR 0 [35, 116]) ∧ Below w.heap.size w w' := by
  go_enter Tryz.func70, Tryz.ntmps70
  go_wp2
  exact bodyPost_ret (v := TR 0 [35, 116]) (by simp [results, Tryz.results70, go_sem]) rfl ⟨rfl, by
    repeat (first | exact Below.refl _ _ | refine Below.setCell ?_ (by simp) _ | refine Below.alloc ?_ (by simp <;> omega) _)⟩
theorem bool_out (n : Int) (w : World) (h0 : (n == 0) = false) (h1 : (n == 1) = false) : Calls Tryz.prog 70 #[.int .i64 n] w fun e w' => e = .returned (TR 3 []) ∧ Below w.heap.size w w' := by
  go_enter Tryz.func70, Tryz.ntmps70
  go_wp2
  exact bodyPost_ret (v := TR 3 []) (by simp [results, Tryz.results70, go_sem]) rfl ⟨rfl, by
    repeat (first | exact Below.refl _ _ | refine Below.setCell ?_ (by simp) _ | refine Below.alloc ?_ (by simp <;> omega) _)⟩
theorem symT_no (z : ByteArray) (w : World) (hz : z.size ≤ 281474976710656) (h : symL z.data.toList = false) : Calls Tryz.prog 71 #[.string z] w fun e w' => e = .returned (.agg #[.int .i64 5, .string E0]) ∧ Below w.heap.size w w' := by
  have HS : Hid (∀ w, Calls Tryz.prog 103 #[.string z] w fun e w' => e = .returned (.int .i64 5) ∧ w' = w) := fun w => by have := implSym_any z w (by omega); rwa [if_neg (by rw [h]; decide)] at this
  clear h
  go_enter Tryz.func71, Tryz.ntmps71
  go_wp2_with (go_at_call 103; refine (HS.out _).mono ?_; rintro e w' ⟨rfl, rfl⟩)
  exact bodyPost_ret (v := .agg #[.int .i64 5, .string E0]) (by simp [results, Tryz.results71, go_sem]) rfl ⟨rfl, by
    repeat (first | exact Below.refl _ _ | refine Below.setCell ?_ (by simp) _ | refine Below.alloc ?_ (by simp <;> omega) _)⟩
theorem symT_yes (z : ByteArray) (w : World) (hz : z.size ≤ 281474976710656) (h : symL z.data.toList = true) : Calls Tryz.prog 71 #[.string z] w fun e w' => e = .returned (.agg #[.int .i64 0, .string z]) ∧ Below w.heap.size w w' := by
  have HS : Hid (∀ w, Calls Tryz.prog 103 #[.string z] w fun e w' => e = .returned (.int .i64 0) ∧ w' = w) := fun w => by have := implSym_any z w (by omega); rwa [if_pos h] at this
  clear h
  go_enter Tryz.func71, Tryz.ntmps71
  go_wp2_with (first | (go_at_call 103; refine (HS.out _).mono ?_; rintro e w' ⟨rfl, rfl⟩) | (go_at_call 81; refine (clone_any _ _ hz).mono ?_; rintro e w1 ⟨rfl, hq⟩; obtain ⟨hc, hf⟩ := bcell hq))
  exact bodyPost_ret (v := .agg #[.int .i64 0, .string z]) (by simp [results, Tryz.results71, go_sem, hc]) rfl ⟨rfl, by
    repeat (first | exact Below.refl _ _ | refine Below.setCell ?_ (by simp) _ | refine Below.trans ?_ (hq.mono (by simp)) | refine Below.alloc ?_ (by simp <;> omega) _)⟩
end Go.Proofs.YtfdkklhigliciaaGreatDoor
/-
  The program's TokenText and the model's at every token: the text, or what is wrong with it; nothing that was there is turned.
-/
namespace Go.Proofs.YtfdkklhigliciaaGreatDoor
open Go.RowKit Go.Extern.Stop Go.Stop Go.Extern Num Go.Lib

theorem tt_bad (t : Tok) (w : World) (hf : tokFault t = 1) :
    Calls Tryz.prog 48 #[t.val] w fun e w' => e = .returned (.agg #[.int .i64 1, .string E0]) ∧ Below w.heap.size w w' := by
  have HF : Hid (∀ w, Calls Tryz.prog 68 #[t.val] w fun e w' => e = .returned (.bool false) ∧ Below w.heap.size w w') := fun w => by have := form_any t w; rwa [show decide (tokFault t ≠ 1) = false by simp [hf]] at this
  clear hf
  go_enter Tryz.func48, Tryz.ntmps48
  go_wp2_with (go_at_call 68; refine (HF.out _).mono ?_; rintro e w1 ⟨rfl, hq⟩; obtain ⟨hc, hf⟩ := bcell hq)
  exact bodyPost_ret (v := .agg #[.int .i64 1, .string E0]) (by simp [results, Tryz.results48, go_sem, hc]) rfl ⟨rfl, by
    repeat (first | exact Below.refl _ _ | refine Below.setCell ?_ (by simp) _ | refine Below.trans ?_ (hq.mono (by simp; omega)) | refine Below.alloc ?_ (by simp <;> omega) _)⟩
theorem tt_1 (n : Int) (z : ByteArray) (w : World) (hf : tokFault ⟨1, n, z⟩ ≠ 1) :
    Calls Tryz.prog 48 #[(⟨1, n, z⟩ : Tok).val] w fun e w' => e = .returned (.agg #[.int .i64 0, .string ⟨#[40]⟩]) ∧ Below w.heap.size w w' := by
  have HF : Hid (∀ w, Calls Tryz.prog 68 #[(⟨1, n, z⟩ : Tok).val] w fun e w' => e = .returned (.bool true) ∧ Below w.heap.size w w') := fun w => by have := form_any ⟨1, n, z⟩ w; rwa [show decide (tokFault ⟨1, n, z⟩ ≠ 1) = true by simp [hf]] at this
  clear hf
  go_enter Tryz.func48, Tryz.ntmps48
  go_wp2_with (go_at_call 68; refine (HF.out _).mono ?_; rintro e w1 ⟨rfl, hq⟩; obtain ⟨hc, hf⟩ := bcell hq)
  exact bodyPost_ret (v := .agg #[.int .i64 0, .string ⟨#[40]⟩]) (by simp [results, Tryz.results48, go_sem, hc]) rfl ⟨rfl, by
    repeat (first | exact Below.refl _ _ | refine Below.setCell ?_ (by simp) _ | refine Below.trans ?_ (hq.mono (by simp; omega)) | refine Below.alloc ?_ (by simp <;> omega) _)⟩
theorem tt_2 (n : Int) (z : ByteArray) (w : World) (hf : tokFault ⟨2, n, z⟩ ≠ 1) :
    Calls Tryz.prog 48 #[(⟨2, n, z⟩ : Tok).val] w fun e w' => e = .returned (.agg #[.int .i64 0, .string ⟨#[41]⟩]) ∧ Below w.heap.size w w' := by
  have HF : Hid (∀ w, Calls Tryz.prog 68 #[(⟨2, n, z⟩ : Tok).val] w fun e w' => e = .returned (.bool true) ∧ Below w.heap.size w w') := fun w => by have := form_any ⟨2, n, z⟩ w; rwa [show decide (tokFault ⟨2, n, z⟩ ≠ 1) = true by simp [hf]] at this
  clear hf
  go_enter Tryz.func48, Tryz.ntmps48
  go_wp2_with (go_at_call 68; refine (HF.out _).mono ?_; rintro e w1 ⟨rfl, hq⟩; obtain ⟨hc, hf⟩ := bcell hq)
  exact bodyPost_ret (v := .agg #[.int .i64 0, .string ⟨#[41]⟩]) (by simp [results, Tryz.results48, go_sem, hc]) rfl ⟨rfl, by
    repeat (first | exact Below.refl _ _ | refine Below.setCell ?_ (by simp) _ | refine Below.trans ?_ (hq.mono (by simp; omega)) | refine Below.alloc ?_ (by simp <;> omega) _)⟩
theorem tt_3 (n : Int) (z : ByteArray) (w : World) (hf : tokFault ⟨3, n, z⟩ ≠ 1) :
    Calls Tryz.prog 48 #[(⟨3, n, z⟩ : Tok).val] w fun e w' => e = .returned (.agg #[.int .i64 0, .string ⟨#[39]⟩]) ∧ Below w.heap.size w w' := by
  have HF : Hid (∀ w, Calls Tryz.prog 68 #[(⟨3, n, z⟩ : Tok).val] w fun e w' => e = .returned (.bool true) ∧ Below w.heap.size w w') := fun w => by have := form_any ⟨3, n, z⟩ w; rwa [show decide (tokFault ⟨3, n, z⟩ ≠ 1) = true by simp [hf]] at this
  clear hf
  go_enter Tryz.func48, Tryz.ntmps48
  go_wp2_with (go_at_call 68; refine (HF.out _).mono ?_; rintro e w1 ⟨rfl, hq⟩; obtain ⟨hc, hf⟩ := bcell hq)
  exact bodyPost_ret (v := .agg #[.int .i64 0, .string ⟨#[39]⟩]) (by simp [results, Tryz.results48, go_sem, hc]) rfl ⟨rfl, by
    repeat (first | exact Below.refl _ _ | refine Below.setCell ?_ (by simp) _ | refine Below.trans ?_ (hq.mono (by simp; omega)) | refine Below.alloc ?_ (by simp <;> omega) _)⟩
theorem tt_4 (n : Int) (z : ByteArray) (c : Int) (x : ByteArray) (w : World) (hL : LT w) (hf : tokFault ⟨4, n, z⟩ ≠ 1) (hx : ∀ w, LT w → Calls Tryz.prog 69 #[.int .i64 n] w fun e w' => e = .returned (.agg #[.int .i64 c, .string x]) ∧ Below w.heap.size w w') :
    Calls Tryz.prog 48 #[(⟨4, n, z⟩ : Tok).val] w fun e w' => e = .returned (.agg #[.int .i64 c, .string x]) ∧ Below w.heap.size w w' := by
  have HF : Hid (∀ w, Calls Tryz.prog 68 #[(⟨4, n, z⟩ : Tok).val] w fun e w' => e = .returned (.bool true) ∧ Below w.heap.size w w') := fun w => by have := form_any ⟨4, n, z⟩ w; rwa [show decide (tokFault ⟨4, n, z⟩ ≠ 1) = true by simp [hf]] at this
  have HX : Hid (∀ w, LT w → Calls Tryz.prog 69 #[.int .i64 n] w fun e w' => e = .returned (.agg #[.int .i64 c, .string x]) ∧ Below w.heap.size w w') := hx
  clear hf hx
  go_enter Tryz.func48, Tryz.ntmps48
  go_wp2_with fail
  refine (HF.out _).mono ?_
  rintro e w1 ⟨rfl, hq⟩
  obtain ⟨hc, hf⟩ := bcell hq
  have hz1 : w.heap.size < w1.heap.size := by have := hq.size; simp at this; omega
  have hz2 : w.heap.size + 1 < w1.heap.size := by have := hq.size; simp at this; omega
  have HB : Hid (Below w.heap.size w w1) := (((Below.refl _ _).alloc (Nat.le_refl _) _).alloc (by simp) _).trans (hq.mono (by simp; omega))
  go_wp2_with fail
  refine (HX.out _ (hL.below HB.out)).mono ?_
  rintro e w2 ⟨rfl, hq2⟩
  obtain ⟨hc2, hf2⟩ := bcell hq2
  go_wp2
  exact bodyPost_ret (v := .agg #[.int .i64 c, .string x]) (by simp [results, Tryz.results48, go_sem, hc, hc2, hz2]) rfl ⟨rfl, by
    repeat (first | exact HB.out | refine Below.setCell ?_ (by simp) _ | refine Below.trans ?_ (hq2.mono (by omega)))⟩
theorem tt_5 (n : Int) (z : ByteArray) (c : Int) (x : ByteArray) (w : World) (hL : LT w) (hf : tokFault ⟨5, n, z⟩ ≠ 1) (hx : ∀ w, LT w → Calls Tryz.prog 70 #[.int .i64 n] w fun e w' => e = .returned (.agg #[.int .i64 c, .string x]) ∧ Below w.heap.size w w') :
    Calls Tryz.prog 48 #[(⟨5, n, z⟩ : Tok).val] w fun e w' => e = .returned (.agg #[.int .i64 c, .string x]) ∧ Below w.heap.size w w' := by
  have HF : Hid (∀ w, Calls Tryz.prog 68 #[(⟨5, n, z⟩ : Tok).val] w fun e w' => e = .returned (.bool true) ∧ Below w.heap.size w w') := fun w => by have := form_any ⟨5, n, z⟩ w; rwa [show decide (tokFault ⟨5, n, z⟩ ≠ 1) = true by simp [hf]] at this
  have HX : Hid (∀ w, LT w → Calls Tryz.prog 70 #[.int .i64 n] w fun e w' => e = .returned (.agg #[.int .i64 c, .string x]) ∧ Below w.heap.size w w') := hx
  clear hf hx
  go_enter Tryz.func48, Tryz.ntmps48
  go_wp2_with fail
  refine (HF.out _).mono ?_
  rintro e w1 ⟨rfl, hq⟩
  obtain ⟨hc, hf⟩ := bcell hq
  have hz1 : w.heap.size < w1.heap.size := by have := hq.size; simp at this; omega
  have hz2 : w.heap.size + 1 < w1.heap.size := by have := hq.size; simp at this; omega
  have HB : Hid (Below w.heap.size w w1) := (((Below.refl _ _).alloc (Nat.le_refl _) _).alloc (by simp) _).trans (hq.mono (by simp; omega))
  go_wp2_with fail
  refine (HX.out _ (hL.below HB.out)).mono ?_
  rintro e w2 ⟨rfl, hq2⟩
  obtain ⟨hc2, hf2⟩ := bcell hq2
  go_wp2
  exact bodyPost_ret (v := .agg #[.int .i64 c, .string x]) (by simp [results, Tryz.results48, go_sem, hc, hc2, hz2]) rfl ⟨rfl, by
    repeat (first | exact HB.out | refine Below.setCell ?_ (by simp) _ | refine Below.trans ?_ (hq2.mono (by omega)))⟩
theorem tt_6 (n : Int) (z : ByteArray) (c : Int) (x : ByteArray) (w : World) (hL : LT w) (hf : tokFault ⟨6, n, z⟩ ≠ 1) (hx : ∀ w, LT w → Calls Tryz.prog 71 #[.string z] w fun e w' => e = .returned (.agg #[.int .i64 c, .string x]) ∧ Below w.heap.size w w') :
    Calls Tryz.prog 48 #[(⟨6, n, z⟩ : Tok).val] w fun e w' => e = .returned (.agg #[.int .i64 c, .string x]) ∧ Below w.heap.size w w' := by
  have HF : Hid (∀ w, Calls Tryz.prog 68 #[(⟨6, n, z⟩ : Tok).val] w fun e w' => e = .returned (.bool true) ∧ Below w.heap.size w w') := fun w => by have := form_any ⟨6, n, z⟩ w; rwa [show decide (tokFault ⟨6, n, z⟩ ≠ 1) = true by simp [hf]] at this
  have HX : Hid (∀ w, LT w → Calls Tryz.prog 71 #[.string z] w fun e w' => e = .returned (.agg #[.int .i64 c, .string x]) ∧ Below w.heap.size w w') := hx
  clear hf hx
  go_enter Tryz.func48, Tryz.ntmps48
  go_wp2_with fail
  refine (HF.out _).mono ?_
  rintro e w1 ⟨rfl, hq⟩
  obtain ⟨hc, hf⟩ := bcell hq
  have hz1 : w.heap.size < w1.heap.size := by have := hq.size; simp at this; omega
  have hz2 : w.heap.size + 1 < w1.heap.size := by have := hq.size; simp at this; omega
  have HB : Hid (Below w.heap.size w w1) := (((Below.refl _ _).alloc (Nat.le_refl _) _).alloc (by simp) _).trans (hq.mono (by simp; omega))
  go_wp2_with fail
  refine (HX.out _ (hL.below HB.out)).mono ?_
  rintro e w2 ⟨rfl, hq2⟩
  obtain ⟨hc2, hf2⟩ := bcell hq2
  go_wp2
  exact bodyPost_ret (v := .agg #[.int .i64 c, .string x]) (by simp [results, Tryz.results48, go_sem, hc, hc2, hz2]) rfl ⟨rfl, by
    repeat (first | exact HB.out | refine Below.setCell ?_ (by simp) _ | refine Below.trans ?_ (hq2.mono (by omega)))⟩
theorem implTT_any (t : Tok) (w : World) (hL : LT w) (hz : t.name.size ≤ 281474976710656) :
    Calls Tryz.prog 48 #[t.val] w fun e w' => e = .returned (TT t) ∧ Below w.heap.size w w' := by
  by_cases hf : tokFault t = 1
  · have e : TT t = .agg #[.int .i64 1, .string E0] := by simp [TT, hf]
    rw [e]; exact tt_bad t w hf
  · obtain ⟨k, n, z⟩ := t
    have hk : k = 1 ∨ k = 2 ∨ k = 3 ∨ k = 4 ∨ k = 5 ∨ k = 6 := by
      have : 1 ≤ k ∧ k ≤ 6 := by
        by_cases h : 1 ≤ k ∧ k ≤ 6
        · exact h
        · exfalso; apply hf; unfold tokFault; rw [if_pos h]
      omega
    have hz' : z.size ≤ 281474976710656 := hz
    rcases hk with rfl | rfl | rfl | rfl | rfl | rfl
    · have e0 : tokFault ⟨1, n, z⟩ = 0 := by by_cases hn : n = 0 <;> by_cases hm : z.data.toList = [] <;> simp [tokFault, hn, hm] at hf ⊢
      have e : TT ⟨1, n, z⟩ = .agg #[.int .i64 0, .string ⟨#[40]⟩] := by simp [TT, e0, tokText]
      rw [e]; exact tt_1 n z w hf
    · have e0 : tokFault ⟨2, n, z⟩ = 0 := by by_cases hn : n = 0 <;> by_cases hm : z.data.toList = [] <;> simp [tokFault, hn, hm] at hf ⊢
      have e : TT ⟨2, n, z⟩ = .agg #[.int .i64 0, .string ⟨#[41]⟩] := by simp [TT, e0, tokText]
      rw [e]; exact tt_2 n z w hf
    · have e0 : tokFault ⟨3, n, z⟩ = 0 := by by_cases hn : n = 0 <;> by_cases hm : z.data.toList = [] <;> simp [tokFault, hn, hm] at hf ⊢
      have e : TT ⟨3, n, z⟩ = .agg #[.int .i64 0, .string ⟨#[39]⟩] := by simp [TT, e0, tokText]
      rw [e]; exact tt_3 n z w hf
    · have e0 : tokFault ⟨4, n, z⟩ = if inB n = true then 0 else 3 := by by_cases hm : z.data.toList = [] <;> simp [tokFault, hm] at hf ⊢
      cases hn : inB n
      · have e : TT ⟨4, n, z⟩ = .agg #[.int .i64 3, .string E0] := by simp [TT, e0, hn]
        rw [e]; exact tt_4 n z 3 E0 w hL hf (fun w hL => implText_no n w hn hL.et)
      · have e : TT ⟨4, n, z⟩ = .agg #[.int .i64 0, .string ⟨(itoa n).toArray⟩] := by simp [TT, e0, hn, tokText]
        rw [e]; exact tt_4 n z 0 _ w hL hf (fun w hL => implText_yes n w hn hL)
    · by_cases h0 : n = 0
      · subst h0
        have e0 : tokFault ⟨5, 0, z⟩ = 0 := by by_cases hm : z.data.toList = [] <;> simp [tokFault, hm] at hf ⊢
        have e : TT ⟨5, 0, z⟩ = .agg #[.int .i64 0, .string ⟨#[35, 102]⟩] := by simp [TT, e0, tokText]
        rw [e]; exact tt_5 0 z 0 _ w hL hf (fun w _ => bool_no w)
      · by_cases h1 : n = 1
        · subst h1
          have e0 : tokFault ⟨5, 1, z⟩ = 0 := by by_cases hm : z.data.toList = [] <;> simp [tokFault, hm] at hf ⊢
          have e : TT ⟨5, 1, z⟩ = .agg #[.int .i64 0, .string ⟨#[35, 116]⟩] := by simp [TT, e0, tokText]
          rw [e]; exact tt_5 1 z 0 _ w hL hf (fun w _ => bool_yes w)
        · have e0 : tokFault ⟨5, n, z⟩ = 3 := by
            have hb : ¬ (0 ≤ n ∧ n ≤ 1) := by omega
            by_cases hm : z.data.toList = []
            · unfold tokFault; simp only [hm]; rw [if_neg (by omega), if_neg (by omega), if_neg (by simp), if_neg (by omega), if_pos trivial, if_neg hb]
            · exfalso; apply hf; simp [tokFault, hm]
          have e : TT ⟨5, n, z⟩ = .agg #[.int .i64 3, .string E0] := by simp [TT, e0]
          rw [e]; exact tt_5 n z 3 E0 w hL hf (fun w _ => bool_out n w (by simpa using h0) (by simpa using h1))
    · have e0 : tokFault ⟨6, n, z⟩ = if symL z.data.toList = true then 0 else 5 := by by_cases hn : n = 0 <;> simp [tokFault, hn] at hf ⊢
      cases hs : symL z.data.toList
      · have e : TT ⟨6, n, z⟩ = .agg #[.int .i64 5, .string E0] := by simp [TT, e0, hs]
        rw [e]; exact tt_6 n z 5 E0 w hL hf (fun w _ => symT_no z w hz' hs)
      · have e : TT ⟨6, n, z⟩ = .agg #[.int .i64 0, .string z] := by simp [TT, e0, hs, tokText]
        rw [e]; exact tt_6 n z 0 z w hL hf (fun w _ => symT_yes z w hz' hs)
end Go.Proofs.YtfdkklhigliciaaGreatDoor
/-
  The program's treeOf: the tree that data make, or what is wrong with them; nothing that was there is turned.
-/
namespace Go.Proofs.YtfdkklhigliciaaGreatDoor
open Go.RowKit Go.Extern.Stop Go.Stop Go.Extern Num Go.Lib Go.Shelf

/-- A datum as a node: its token. -/
def nodD (t : Dat) : Dat := ⟨tkD t.kind, t.parent, t.num, t.name⟩
def nodes (l : List Dat) : List Dat := l.map nodD
theorem nodes_len (l : List Dat) : (nodes l).length = l.length := by simp [nodes]
theorem nodes_at (l : List Dat) (k : Nat) (h : k < l.length) : (nodes l)[k]'(by rw [nodes_len]; exact h) = nodD l[k] := by simp [nodes]
theorem par_nodes (l : List Dat) (k : Nat) : par (nodes l) k = par l k := by
  unfold par nodes
  rw [List.getElem?_map]
  cases l[k]? <;> rfl
theorem par_take (l : List Dat) (m k : Nat) (h : k < m) : par (l.take m) k = par l k := by
  unfold par
  rw [List.getElem?_take, if_pos h]
/-- What is wrong with a datum's token. -/
def dkF (t : Dat) : Int := tokFault ⟨tkD t.kind, t.num, t.name⟩
theorem tk_lt (k : Int) : (1 ≤ tkD k ∧ tkD k ≤ 6) ↔ (1 ≤ k ∧ k ≤ 4) := by
  unfold tkD
  by_cases h1 : k = 1
  · subst h1; decide
  by_cases h2 : k = 2
  · subst h2; decide
  by_cases h3 : k = 3
  · subst h3; decide
  by_cases h4 : k = 4
  · subst h4; decide
  simp only [h1, h2, h3, h4, if_false]
  omega
theorem dk_eq (t : Dat) : dkF t = if bareB t = false then 1 else if rangeBad t = true then 3 else if symBad t = true then 5 else 0 := by
  obtain ⟨k, p, n, z⟩ := t
  by_cases hk : 1 ≤ k ∧ k ≤ 4
  · have : k = 1 ∨ k = 2 ∨ k = 3 ∨ k = 4 := by omega
    rcases this with rfl | rfl | rfl | rfl
    · cases hz : z.data.toList with
      | nil => by_cases hn : inB n = true <;> simp [dkF, tokFault, tkD, bareB, rangeBad, symBad, hz, hn]
      | cons a b => simp [dkF, tokFault, tkD, bareB, hz]
    · cases hz : z.data.toList with
      | nil => by_cases h0 : 0 ≤ n <;> by_cases h1 : n ≤ 1 <;> simp [dkF, tokFault, tkD, bareB, rangeBad, symBad, hz, h0, h1]
      | cons a b => simp [dkF, tokFault, tkD, bareB, hz]
    · by_cases hn : n = 0 <;> by_cases hs : symL z.data.toList = true <;> simp [dkF, tokFault, tkD, bareB, rangeBad, symBad, hn, hs]
    · cases hz : z.data.toList with
      | nil => by_cases hn : n = 0 <;> simp [dkF, tokFault, tkD, bareB, rangeBad, symBad, hz, hn]
      | cons a b => by_cases hn : n = 0 <;> simp [dkF, tokFault, tkD, bareB, hz, hn]
  · have h1 : ¬ (1 ≤ tkD k ∧ tkD k ≤ 6) := fun h => hk ((tk_lt k).1 h)
    have e : dkF ⟨k, p, n, z⟩ = 1 := by
      show tokFault ⟨tkD k, n, z⟩ = 1
      unfold tokFault
      exact if_pos h1
    have e2 : bareB ⟨k, p, n, z⟩ = false := by
      unfold bareB
      have : decide (1 ≤ k ∧ k ≤ 4) = false := decide_eq_false hk
      show (decide (1 ≤ k ∧ k ≤ 4) && _ && _) = false
      rw [this]; rfl
    rw [e, e2]; rfl
theorem tk_list (k : Int) : (tkD k = 1) ↔ k = 4 := by
  unfold tkD
  by_cases h1 : k = 1
  · subst h1; decide
  by_cases h2 : k = 2
  · subst h2; decide
  by_cases h3 : k = 3
  · subst h3; decide
  by_cases h4 : k = 4
  · subst h4; decide
  simp [h1, h2, h3, h4]
theorem pars_take {l : List Dat} {k : Nat} (hk : k ≤ l.length) (hok : okUpto l k) : Pars (nodes (l.take k)) := by
  intro j hj
  have hj' : j < k := by rw [nodes_len, List.length_take] at hj; omega
  rw [nodes_at _ j (by rw [List.length_take]; omega)]
  show ((l.take k)[j]'_).parent < _ ∧ _
  rw [List.getElem_take]
  exact chk_par (hok j (by omega) hj')
theorem upF_same {N M : List Dat} (m : Nat) (h : ∀ j, j < m → par N j = par M j) (hp : ∀ j, j < m → par N j < (j : Int)) : ∀ (f : Nat) (a : Int), a < m → upF N f a = upF M f a
  | 0, _, _ => rfl
  | f + 1, a, ha => by
    by_cases h0 : a < 0
    · rw [upF_neg _ _ _ h0, upF_neg _ _ _ h0]
    · have h1 := h a.toNat (by omega)
      have h2 := hp a.toNat (by omega)
      simp only [upF, if_neg h0]
      rw [upF_same m h hp f _ (by omega), h1]
theorem deepF_same {N M : List Dat} (m : Nat) (h : ∀ j, j < m → par N j = par M j) (hp : ∀ j, j < m → par N j < (j : Int)) : ∀ (f : Nat) (a : Int), a < m → deepF N f a = deepF M f a
  | 0, _, _ => rfl
  | f + 1, a, ha => by
    by_cases h0 : a < 0
    · rw [deepF_neg _ _ _ h0, deepF_neg _ _ _ h0]
    · have h1 := h a.toNat (by omega)
      have h2 := hp a.toNat (by omega)
      simp only [deepF, if_neg h0]
      rw [deepF_same m h hp f _ (by omega), h1]
theorem lineF_same {N M : List Dat} (p : Int) (m : Nat) (h : ∀ j, j < m → par N j = par M j) (hp : ∀ j, j < m → par N j < (j : Int)) (hk : ∀ j, j < m → ((N[j]?.map (·.kind)).getD 0 == 4) = ((M[j]?.map (·.kind)).getD 0 == 4)) : ∀ (f : Nat) (a : Int), a < m → lineF N p f a = lineF M p f a
  | 0, _, _ => rfl
  | f + 1, a, ha => by
    by_cases h0 : a < 0
    · rw [lineF_neg _ _ _ _ h0, lineF_neg _ _ _ _ h0]
    · have h1 := h a.toNat (by omega)
      have h2 := hp a.toNat (by omega)
      have h3 := hk a.toNat (by omega)
      simp only [lineF, if_neg h0]
      rw [lineF_same p m h hp hk f _ (by omega), h1, h3]
/-- What is wrong with a datum: with its token, then with its place. -/
theorem chk_split {l : List Dat} {k : Nat} (hk : k < l.length) (hok : okUpto l k) (hl : l.length ≤ 80) : chkD l k l[k] = if dkF l[k] ≠ 0 then dkF l[k] else pfD (nodes (l.take k)) l[k].parent := by
  have hP := pars_take (Nat.le_of_lt hk) hok
  have hlen : (nodes (l.take k)).length = k := by rw [nodes_len, List.length_take]; omega
  have hpar : ∀ j, j < k → par (nodes (l.take k)) j = par l j := fun j hj => by rw [par_nodes, par_take l k j hj]
  have hlt : ∀ j, j < k → par (nodes (l.take k)) j < (j : Int) := fun j hj => by rw [hpar j hj, par_at l j (by omega)]; exact (chk_par (hok j (by omega) hj)).1
  have e := dk_eq l[k]
  cases hb : bareB l[k] with
  | false => rw [hb] at e; rw [chk_bare hb, e]; rfl
  | true =>
    cases hr : rangeBad l[k] with
    | true => rw [hb, hr] at e; rw [chk_range hb hr, e]; rfl
    | false =>
      cases hs : symBad l[k] with
      | true => rw [hb, hr, hs] at e; rw [chk_sym hb hr hs, e]; rfl
      | false =>
        rw [hb, hr, hs] at e
        have e0 : dkF l[k] = 0 := e
        rw [if_neg (by rw [e0]; simp)]
        obtain ⟨p, hp⟩ : ∃ p, p = l[k].parent := ⟨_, rfl⟩
        cases hpb : parBad k l[k].parent with
        | true =>
          rw [chk_parent hb hr hs hpb, ← hp]
          rw [← hp] at hpb
          unfold pfD
          rw [hlen]
          unfold parBad at hpb
          by_cases hk0 : k = 0
          · subst hk0
            have : p ≠ -1 := by simpa using hpb
            rw [if_neg (fun h => this h.2), if_pos (by omega)]
          · have h1 : 0 < k := by omega
            rw [if_neg (fun h => hk0 h.1)]
            have : ¬ (0 ≤ p ∧ p ≤ (k : Int) - 1) := by
              intro h
              simp [hk0, h.1, h.2] at hpb
            rw [if_pos (by omega)]
        | false =>
          have hpl := parBad_lt hpb
          by_cases hk0 : k = 0
          · subst hk0
            have h1 : l[0].parent = -1 := by omega
            rw [chk_deep hb hr hs hpb (by simp), h1]
            have : deepF l 100 ((0 : Nat) : Int) = 1 := by rw [deepF_at l 99 0 hk, h1, deepF_neg l 99 _ (by decide)]
            rw [this]; rfl
          · have hq : 0 ≤ l[k].parent := by
              unfold parBad at hpb
              rw [← hp] at hpb ⊢
              have h1 : 0 < k := by omega
              simp [hk0, h1] at hpb
              omega
            obtain ⟨q, hq'⟩ : ∃ q : Nat, l[k].parent = (q : Int) := ⟨l[k].parent.toNat, by omega⟩
            have hqk : q < k := by omega
            have hkind : ∀ j, j < k → ((l[j]?.map (·.kind)).getD 0 == 4) = decide (((nodes (l.take k))[j]?.map (·.kind)).getD 0 = 1) := fun j hj => by
              have h1 : j < (nodes (l.take k)).length := by omega
              rw [List.getElem?_eq_getElem h1, nodes_at _ j (by rw [List.length_take]; omega), List.getElem_take, List.getElem?_eq_getElem (by omega)]
              show (l[j].kind == 4) = decide (tkD l[j].kind = 1)
              rw [decide_eq_decide.2 (tk_list l[j].kind)]; rfl
            have hP' : Pars (l.take k) := fun j hj => by
              have hj' : j < k := by rw [List.length_take] at hj; omega
              rw [List.getElem_take]
              exact chk_par (hok j (by omega) hj')
            have hlk : (l.take k).length = k := by rw [List.length_take]; omega
            have hup : ∀ a : Int, a < k → upL (nodes (l.take k)) a = upL (l.take k) a := fun a ha => upF_same k (fun j hj => by rw [par_nodes]) hlt _ a ha
            have hpt : ∀ j, j < k → par (l.take k) j = par l j := fun j hj => par_take l k j hj
            have hlt' : ∀ j, j < k → par (l.take k) j < (j : Int) := fun j hj => by rw [← par_nodes]; exact hlt j hj
            have hline : lineB l k = (decide ((q : Int) ∈ upL (nodes (l.take k)) ((k : Int) - 1)) && (l[q].kind == 4)) := by
              unfold lineB
              rw [par_at l k hk, hq', ← lineF_same (N := l.take k) (q : Int) k hpt hlt' (fun j hj => by rw [List.getElem?_take, if_pos hj]) k _ (by omega),
                line_up hP' q (by omega) k _ k (by omega) (by omega) (by omega) (by omega), hup _ (by omega), List.getElem_take]
            have hdeep : deepF l 100 (k : Int) = (upL (nodes (l.take k)) (q : Int)).length + 1 := by
              rw [deepF_at l 99 k hk, hq', ← deepF_same (N := l.take k) k hpt hlt' 99 _ (by omega), deep_up hP' k _ 99 (by omega) (by omega) (by omega) (by omega), hup _ (by omega)]
            have hkq := hkind q hqk
            rw [List.getElem?_eq_getElem (by omega)] at hkq
            have hpf : pfD (nodes (l.take k)) (q : Int) = if ¬ (((nodes (l.take k))[q]?.map (·.kind)).getD 0 = 1) ∨ ¬ (q : Int) ∈ upL (nodes (l.take k)) ((k : Int) - 1) then 1 else if 12 ≤ (upL (nodes (l.take k)) (q : Int)).length then 2 else 0 := by
              unfold pfD
              rw [hlen, if_neg (fun h => hk0 h.1), if_neg (by omega)]
              rfl
            rw [hq', hpf]
            have hkq' : (l[q].kind == 4) = decide (((nodes (l.take k))[q]?.map (·.kind)).getD 0 = 1) := hkq
            by_cases hA : ((nodes (l.take k))[q]?.map (·.kind)).getD 0 = 1
            · by_cases hO : (q : Int) ∈ upL (nodes (l.take k)) ((k : Int) - 1)
              · rw [if_neg (by simp [hA, hO])]
                have hL : lineB l k = true := by rw [hline, hkq']; simp [hA, hO]
                rw [chk_deep hb hr hs hpb (by simp [hL]), hdeep]
                by_cases hD : 12 ≤ (upL (nodes (l.take k)) (q : Int)).length
                · rw [if_pos hD, if_pos (by omega)]
                · rw [if_neg hD, if_neg (by omega)]
              · rw [if_pos (.inr hO)]
                have hL : lineB l k = false := by rw [hline]; simp [hO]
                rw [chk_line hb hr hs hpb (by simp [hL]; omega)]
            · rw [if_pos (.inl hA)]
              have hL : lineB l k = false := by rw [hline, hkq']; simp [hA]
              rw [chk_line hb hr hs hpb (by simp [hL]; omega)]
end Go.Proofs.YtfdkklhigliciaaGreatDoor
namespace Go.Proofs.YtfdkklhigliciaaGreatDoor
open Go.RowKit Go.Extern.Stop Go.Stop Go.Extern Num Go.Lib Go.Shelf

/-- A tree of one's own: its cell names a row that is owned. -/
def OwnT (B r : Nat) (N : List Dat) (w : World) : Prop := B ≤ r ∧ w.frozen? ⟨r, 0, none⟩ = false ∧ ∃ v, Fld w B r 0 121 4 v N.length (cellsN N)
theorem OwnT.below {B r : Nat} {N : List Dat} {w w' : World} (h : OwnT B r N w) (hb : Below w.heap.size w w') : OwnT B r N w' := by
  obtain ⟨h1, h2, v, hv⟩ := h
  exact ⟨h1, by rw [(bcell hb).2 r 0 hv.lt]; exact h2, v, hv.below hb⟩
theorem OwnT.tree {B r : Nat} {N : List Dat} {w : World} (h : OwnT B r N w) : IsTree w.heap.size w r N := by
  obtain ⟨h1, h2, v, hv⟩ := h
  obtain ⟨ao, cap, rfl⟩ := own_form hv.2.1
  cases N with
  | nil => exact ⟨ao, r, cap, hv.1, hv.lt, hv.lt, fun h => absurd rfl h, fun k hk => by simp at hk⟩
  | cons t N =>
    obtain ⟨g, c, e, _, _⟩ := hv.2.1.form (by simp)
    obtain ⟨rfl, rfl⟩ : ao = some ⟨g, 0, none⟩ ∧ cap = c := by simp at e; exact e
    exact ⟨_, g, cap, hv.1, hv.lt, (hv.own_lt g rfl), fun _ => rfl, RowN.of hv.2.1⟩
theorem OwnT.add {B r : Nat} {N M : List Dat} {v : Value} {w w' : World} (hr : B ≤ r) (hB : B ≤ w.heap.size) (fz : w.frozen? ⟨r, 0, none⟩ = false) (hv : Fld w B r 0 121 4 v N.length (cellsN N)) (h : AddR B r v M w w') : OwnT B r M w' ∧ Below B w w' := by
  obtain ⟨u, w1, g', c', hb, hg, ho, hat, rfl⟩ := h
  have hlt := hv.lt
  have hne : v.ownBlock ≠ some r := fun e => hv.2.2 r e rfl
  obtain ⟨k1, k2⟩ := aftGrow hb hv.1 fz hg hne
  have hsz := hb.size
  refine ⟨⟨hr, by rw [World.frozen?_setCell]; exact k2, _, (hv.below hb).put hg ho ?_⟩, ?_⟩
  · intro g e
    have : g = g' := by simp [Value.ownBlock] at e; omega
    subst this
    rcases hat with h | h
    · exact .inl h
    · right; omega
  · exact Below.setCell ((hb.mono hB).grown hg (by omega) (fun k hk => ((hv.2.1).lt k hk).1)) (by simpa using hr) _
/-- What treeOf answers. -/
def AnsTr (l : List Dat) (w : World) (e : Ending) (w' : World) : Prop :=
  (dataFault l ≠ 0 ∧ e = .returned (.tuple #[.pointer none, .int .i64 (dataFault l)]) ∧ Below w.heap.size w w') ∨
  (dataFault l = 0 ∧ e = .returned (.tuple #[.pointer (some ⟨w.heap.size, 0, none⟩), .int .i64 0]) ∧ OwnT w.heap.size w.heap.size (nodes l) w' ∧ Below w.heap.size w w')
theorem treeOf_none (ao : Option Addr) (n cap : Nat) (w : World) (h : (n : Int) < 1) :
    Calls Tryz.prog 21 #[.slice ao n cap] w fun e w' => e = .returned (.tuple #[.pointer none, .int .i64 2]) ∧ w' = w := by
  go_enter Tryz.func21, Tryz.ntmps21
  go_wp2
  exact bodyPost_ret (v := .tuple #[.pointer none, .int .i64 2]) (by simp [results, Tryz.results21, go_sem]) rfl ⟨rfl, rfl⟩
theorem treeOf_many (ao : Option Addr) (n cap : Nat) (w : World) (h1 : ¬ (n : Int) < 1) (h : 80 < (n : Int)) :
    Calls Tryz.prog 21 #[.slice ao n cap] w fun e w' => e = .returned (.tuple #[.pointer none, .int .i64 2]) ∧ w' = w := by
  go_enter Tryz.func21, Tryz.ntmps21
  go_wp2
  exact bodyPost_ret (v := .tuple #[.pointer none, .int .i64 2]) (by simp [results, Tryz.results21, go_sem]) rfl ⟨rfl, rfl⟩
set_option maxRecDepth 100000 in
set_option maxHeartbeats 4000000 in
theorem treeOf_few (g cap : Nat) (l : List Dat) (w : World) (hR : RowD w g l) (h1 : 1 ≤ (l.length : Int)) (h80 : (l.length : Int) ≤ 80) (hz : ∀ (k : Nat) (h : k < l.length), l[k].name.size ≤ 1048576) (hL : LT w) :
    Calls Tryz.prog 21 #[.slice (some ⟨g, 0, none⟩) l.length cap] w fun e w' => AnsTr l w e w' := by
  have HR : Hid (RowD w g l) := hR
  have HZ : Hid (∀ (k : Nat) (h : k < l.length), l[k].name.size ≤ 1048576) := hz
  have HL : Hid (LT w) := hL
  have HDF : Hid (dataFault l = faultFrom l 0 l) := by show dataFault l = _; unfold dataFault; rw [if_neg (by omega)]
  clear hR hz hL
  go_enter Tryz.func21, Tryz.ntmps21
  go_wp2_with fail
  go_loopw [22] (fun v wr => ∃ k : Nat, k ≤ l.length ∧ v = .int .i64 (k : Int) ∧ Hid (okUpto l k) ∧ Hid (Below w.heap.size w wr) ∧ Hid (OwnT w.heap.size w.heap.size (nodes (l.take k)) wr)) (fun v _ => l.length - (RowKit.intOf v).toNat)
  case atStart =>
    refine ⟨0, Nat.zero_le _, rfl, fun j _ hj => by omega, (Below.refl _ _).alloc (Nat.le_refl _) _, Nat.le_refl _, by simp, .slice none 0 0, by simp, ?_, fun g h => by simp [Value.ownBlock] at h⟩
    exact World.ownsRow_nil _ _ _ _
  case round =>
    obtain ⟨k, hk, rfl, HK, HB, HO⟩ := hrel
    by_cases hlt : k < l.length
    · obtain ⟨t, ht⟩ : ∃ t, t = l[k]'hlt := ⟨_, rfl⟩
      have HT : Hid (t = l[k]'hlt) := ht
      have hcs := HR.out k hlt
      rw [← ht] at hcs
      clear ht
      obtain ⟨c0, c1, c2, c3⟩ := hcs
      replace c0 := cell_keep HB.out c0
      replace c1 := cell_keep HB.out c1
      replace c2 := cell_keep HB.out c2
      replace c3 := cell_keep HB.out c3
      obtain ⟨c, hc⟩ : ∃ c, c = dkF t := ⟨_, rfl⟩
      obtain ⟨x, HTT⟩ : ∃ x, Hid (∀ u, LT u → Calls Tryz.prog 48 #[.agg #[.int .i64 (tkD t.kind), .int .i64 t.num, .string t.name]] u fun e w' => e = .returned (.agg #[.int .i64 c, .string x]) ∧ Below u.heap.size u w') :=
        ⟨if dkF t = 0 then tokText ⟨tkD t.kind, t.num, t.name⟩ else E0, fun u hu => by rw [hc]; exact implTT_any ⟨tkD t.kind, t.num, t.name⟩ u hu (by have := HZ.out k hlt; rw [← HT.out] at this; show t.name.size ≤ _; omega)⟩
      have HTo : Hid (∀ u, Calls Tryz.prog 47 #[.agg #[.int .i64 t.kind, .int .i64 t.parent, .int .i64 t.num, .string t.name]] u fun e w' => e = .returned (.agg #[.int .i64 (tkD t.kind), .int .i64 t.num, .string t.name]) ∧ Below u.heap.size u w') := fun u => tokenOf_any t u
      have HCk : Hid (chkD l k t = if c ≠ 0 then c else pfD (nodes (l.take k)) t.parent) := by
        have := chk_split hlt HK.out (by omega)
        rw [← HT.out] at this
        rw [hc]; exact this
      have HRet : Hid (chkD l k t ≠ 0 → dataFault l = chkD l k t) := fun h => by rw [HDF.out, fault_hit l k hlt HK.out (by rw [← HT.out]; exact h), ← HT.out]
      clear hc
      go_wp2_with fail
      refine (HTo.out _).mono ?_
      rintro e w1 ⟨rfl, b1⟩
      have B1 : Hid (Below wr.heap.size wr w1) := by
        show Below _ _ _
        refine Below.trans ?_ (b1.mono (by simp))
        repeat (first | exact Below.refl _ _ | refine Below.setCell ?_ (by simp) _ | refine Below.drew ?_ | refine Below.alloc ?_ (by first | omega | (simp <;> omega)) _)
      have d1 : w1.cell? ⟨wr.heap.size, 1, none⟩ = some (.int .i64 t.parent) := by rw [(bcell b1).1 _ _ (by simp)]; simp
      have s1 : wr.heap.size < w1.heap.size := by have := b1.size; simp at this; omega
      clear b1 c0 c1 c2 c3
      go_wp2_with fail
      refine (HTT.out _ ((HL.out.below (HB.out.trans (B1.out.mono HB.out.size))).alloc _)).mono ?_
      rintro e w2 ⟨rfl, b2⟩
      have B2 : Hid (Below wr.heap.size wr w2) := by
        show Below _ _ _
        refine Below.trans ?_ (b2.mono (by simp; omega))
        repeat (first | exact B1.out | refine Below.setCell ?_ (by simp) _ | refine Below.drew ?_ | refine Below.alloc ?_ (by first | omega | (simp <;> omega)) _)
      have d2 : w2.cell? ⟨wr.heap.size, 1, none⟩ = some (.int .i64 t.parent) := by rw [(bcell b2).1 _ _ (by simp; omega)]; exact cell_laid _ d1
      have e0 : w2.cell? ⟨w1.heap.size, 0, none⟩ = some (.int .i64 (tkD t.kind)) := by rw [(bcell b2).1 _ _ (by simp)]; simp
      have e1 : w2.cell? ⟨w1.heap.size, 1, none⟩ = some (.int .i64 t.num) := by rw [(bcell b2).1 _ _ (by simp)]; simp
      have e2 : w2.cell? ⟨w1.heap.size, 2, none⟩ = some (.string t.name) := by rw [(bcell b2).1 _ _ (by simp)]; simp
      have s2 : w1.heap.size < w2.heap.size := by have := b2.size; simp at this; omega
      have s3 : wr.heap.size < w2.heap.size := by omega
      clear b2 d1 B1
      by_cases hc0 : c = 0
      · subst hc0
        obtain ⟨pf, hpf⟩ : ∃ pf, pf = pfD (nodes (l.take k)) t.parent := ⟨_, rfl⟩
        have HP : Hid (∀ u, IsTree u.heap.size u w.heap.size (nodes (l.take k)) → Calls Tryz.prog 49 #[.pointer (some ⟨w.heap.size, 0, none⟩), .int .i64 t.parent] u fun e w' => e = .returned (.int .i64 pf) ∧ Below u.heap.size u w') :=
          fun u hu => by rw [hpf]; exact pf_any _ _ (pars_take hk HK.out) (by rw [nodes_len, List.length_take]; omega) _ u hu
        have HC2 : Hid (chkD l k t = pf) := by
          have := HCk.out
          rw [if_neg (by simp), ← hpf] at this
          exact this
        clear hpf HCk
        go_wp2_with fail
        refine (HP.out _ (((HO.out.below B2.out).below ((Below.refl _ _).alloc (Nat.le_refl _) _)).tree)).mono ?_
        rintro e w3 ⟨rfl, b3⟩
        have B3 : Hid (Below wr.heap.size wr w3) := by
          show Below _ _ _
          refine Below.trans ?_ (b3.mono (by simp; omega))
          repeat (first | exact B2.out | refine Below.setCell ?_ (by simp) _ | refine Below.drew ?_ | refine Below.alloc ?_ (by first | omega | (simp <;> omega)) _)
        have d3 : w3.cell? ⟨wr.heap.size, 1, none⟩ = some (.int .i64 t.parent) := by rw [(bcell b3).1 _ _ (by simp; omega)]; exact cell_laid _ d2
        have e3 : w3.cell? ⟨w1.heap.size, 0, none⟩ = some (.int .i64 (tkD t.kind)) := by rw [(bcell b3).1 _ _ (by simp; omega)]; exact cell_laid _ e0
        have e4 : w3.cell? ⟨w1.heap.size, 1, none⟩ = some (.int .i64 t.num) := by rw [(bcell b3).1 _ _ (by simp; omega)]; exact cell_laid _ e1
        have e5 : w3.cell? ⟨w1.heap.size, 2, none⟩ = some (.string t.name) := by rw [(bcell b3).1 _ _ (by simp; omega)]; exact cell_laid _ e2
        clear b3 d2 e0 e1 e2 B2
        by_cases hp0 : pf = 0
        · subst hp0
          have HO3 : Hid (OwnT w.heap.size w.heap.size (nodes (l.take k)) w3) := HO.out.below B3.out
          obtain ⟨v, HF⟩ : ∃ v, Hid (Fld w3 w.heap.size w.heap.size 0 121 4 v (nodes (l.take k)).length (cellsN (nodes (l.take k)))) := HO3.out.2.2
          have hsz : w.heap.size ≤ w3.heap.size := Nat.le_trans HB.out.size B3.out.size
          have HA : Hid (Calls Tryz.prog 50 #[.pointer (some ⟨w.heap.size, 0, none⟩), .int .i64 t.parent, .agg #[.int .i64 (tkD t.kind), .int .i64 t.num, .string t.name]] w3 fun e w' => e = .returned (.int .i64 ((nodes (l.take k)).length : Nat)) ∧ AddR w.heap.size w.heap.size v (nodes (l.take k) ++ [nodD t]) w3 w') :=
            add_any _ _ v _ t.parent (tkD t.kind) t.num t.name w3 hsz HO3.out.2.1 HF.out (by rw [nodes_len, List.length_take]; omega)
          go_wp2_with fail
          refine HA.out.mono ?_
          rintro e w4 ⟨rfl, R4⟩
          have H4 : Hid (OwnT w.heap.size w.heap.size (nodes (l.take (k + 1))) w4 ∧ Below w.heap.size w3 w4) := by
            have := OwnT.add (Nat.le_refl _) hsz HO3.out.2.1 HF.out R4
            have e : nodes (l.take (k + 1)) = nodes (l.take k) ++ [nodD t] := by rw [takeD l k hlt, HT.out]; unfold nodes; rw [List.map_append]; rfl
            rw [e]; exact this
          clear R4
          go_wp2_with fail
          exact ⟨⟨k + 1, by omega, by go_num, okUpto_next HK.out hlt (by rw [← HT.out]; exact HC2.out), HB.out.trans ((B3.out.mono HB.out.size).trans H4.out.2), H4.out.1⟩, by simp [RowKit.intOf]; omega⟩
        · have hne : (pf != 0) = true := by simpa using hp0
          have HV : Hid (dataFault l = pf) := by
            have := HRet.out (by rw [HC2.out]; exact hp0)
            rw [HC2.out] at this; exact this
          go_wp2_with fail
          refine bodyPost_ret (v := .tuple #[.pointer none, .int .i64 pf]) (by simp [results, Tryz.results21, go_sem]) rfl (.inl ⟨?_, ?_, HB.out.trans (B3.out.mono HB.out.size)⟩)
          · rw [HV.out]; exact hp0
          · rw [HV.out]
      · have hne : (c != 0) = true := by simpa using hc0
        have HV : Hid (dataFault l = c) := by
          have hk2 := HCk.out
          rw [if_pos hc0] at hk2
          have := HRet.out (by rw [hk2]; exact hc0)
          rw [hk2] at this; exact this
        go_wp2_with fail
        go_region
        all_goals
          go_wp2_with fail
          refine bodyPost_ret (v := .tuple #[.pointer none, .int .i64 c]) (by simp [results, Tryz.results21, go_sem]) rfl (.inl ⟨?_, ?_, ?_⟩)
          · rw [HV.out]; exact hc0
          · rw [HV.out]
          · refine HB.out.trans ((?_ : Below wr.heap.size wr _).mono HB.out.size)
            repeat (first | exact B2.out | refine Below.setCell ?_ (by simp) _ | refine Below.drew ?_ | refine Below.alloc ?_ (by first | omega | (simp <;> omega)) _)
    · obtain rfl : k = l.length := by omega
      go_wp2_with fail
      refine bodyPost_ret (v := .tuple #[.pointer (some ⟨w.heap.size, 0, none⟩), .int .i64 0]) (by simp [results, Tryz.results21, go_sem]) rfl (.inr ⟨?_, rfl, ?_, HB.out⟩)
      · rw [HDF.out]; exact fault_end l HK.out
      · have := HO.out; rw [List.take_length] at this; exact this
theorem treeOf_any (ao : Option Addr) (cap base : Nat) (l : List Dat) (w : World) (h : w.ownsRow base 49 4 (.slice ao l.length cap) l.length (cellsD l)) (hz : ∀ (k : Nat) (h : k < l.length), l[k].name.size ≤ 1048576) (hL : LT w) :
    Calls Tryz.prog 21 #[.slice ao l.length cap] w fun e w' => AnsTr l w e w' := by
  by_cases h1 : l.length < 1
  · refine (treeOf_none ao l.length cap w (by omega)).mono ?_
    rintro e w' ⟨rfl, rfl⟩
    have e : dataFault l = 2 := by unfold dataFault; rw [if_pos (by omega)]
    exact .inl ⟨by rw [e]; decide, by rw [e], Below.refl _ _⟩
  · by_cases h2 : 80 < l.length
    · refine (treeOf_many ao l.length cap w (by omega) (by omega)).mono ?_
      rintro e w' ⟨rfl, rfl⟩
      have e : dataFault l = 2 := by unfold dataFault; rw [if_pos (by omega)]
      exact .inl ⟨by rw [e]; decide, by rw [e], Below.refl _ _⟩
    · obtain ⟨g, c, e, _, _⟩ := h.form (by omega)
      obtain ⟨rfl, rfl⟩ : ao = some ⟨g, 0, none⟩ ∧ cap = c := by simp at e; exact e
      exact treeOf_few g cap l w (RowD.of h) (by omega) (by omega) hz hL
set_option maxHeartbeats 1000000 in
/-- The program's DataFault. -/
theorem implDF_any (ao : Option Addr) (cap base : Nat) (l : List Dat) (w : World) (h : w.ownsRow base 49 4 (.slice ao l.length cap) l.length (cellsD l)) (hz : ∀ (k : Nat) (h : k < l.length), l[k].name.size ≤ 1048576) (hL : LT w) :
    Calls Tryz.prog 160 #[.slice ao l.length cap] w fun e w' => e = .returned (.int .i64 (dataFault l)) ∧ Below w.heap.size w w' := by
  have HT : Hid (Calls Tryz.prog 21 #[.slice ao l.length cap] w fun e w' => ∃ p, e = .returned (.tuple #[.pointer p, .int .i64 (dataFault l)]) ∧ Below w.heap.size w w') :=
    (treeOf_any ao cap base l w h hz hL).mono fun e w' h => by
      rcases h with ⟨_, he, hb⟩ | ⟨h0, he, _, hb⟩
      · exact ⟨_, he, hb⟩
      · exact ⟨_, by rw [h0]; exact he, hb⟩
  clear h hz hL
  generalize dataFault l = df at HT ⊢
  go_enter Tryz.func160, Tryz.ntmps160
  go_wp2_with (go_at_call 21; refine HT.out.mono ?_; rintro e w' ⟨p, rfl, hb⟩)
  go_ret
  exact ⟨rfl, hb⟩
end Go.Proofs.YtfdkklhigliciaaGreatDoor
/-
  The program's add to a tree of cores: a node put behind the others; and a tree of cores of one's own.
-/
namespace Go.Proofs.YtfdkklhigliciaaGreatDoor
open Go.RowKit Go.Extern.Stop Go.Stop Go.Extern Num Go.Lib Go.Shelf

theorem size_atC (r m cap : Nat) (ao : Option Addr) (w : World) (hc : w.cell? ⟨r, 0, none⟩ = some (.slice ao m cap)) :
    Calls Tryz.prog 54 #[.pointer (some ⟨r, 0, none⟩)] w fun e w' => e = .returned (.int .i64 (m : Nat)) ∧ w' = w := by
  go_enter Tryz.func54, Tryz.ntmps54
  go_wp2
  go_ret
  exact ⟨rfl, rfl⟩
theorem infoNC : (Tryz.prog.info? 100).map (fun i => (i.zero, i.size, i.bytes)) = some (some (.agg #[.int .i64 0, .int .i64 0, .int .i64 0, .int .i64 0, .int .i64 0, .string ⟨#[]⟩, .slice none 0 0]), 7, 80) := by kernel_rfl
/-- A node has been put behind the others: a row has grown, and its cell names it. -/
def AddRC (B r : Nat) (v : Value) (N : List (Cor × Value)) (w w' : World) : Prop :=
  ∃ u w1 g' c', Below w.heap.size w u ∧ u.grownBy w1 v.ownBlock ∧ w1.ownsRow B 100 7 (.slice (some ⟨g', 0, none⟩) N.length c') N.length (cellsNC N) ∧ (v.ownBlock = some g' ∨ u.heap.size = g') ∧ w' = w1.setCell ⟨r, 0, none⟩ (.slice (some ⟨g', 0, none⟩) N.length c')
set_option maxRecDepth 100000 in
set_option maxHeartbeats 2000000 in
theorem add_anyC (B r : Nat) (v : Value) (N : List (Cor × Value)) (t : Cor) (dv : Value) (hdv : ∃ da dn dc, dv = .slice da dn dc) (w : World) (hB : B ≤ w.heap.size) (fz : w.frozen? ⟨r, 0, none⟩ = false) (h : Fld w B r 0 100 7 v N.length (cellsNC N)) (hl : N.length < 1000) :
    Calls Tryz.prog 110 #[.pointer (some ⟨r, 0, none⟩), .int .i64 t.parent, t.val dv] w fun e w' => e = .returned (.int .i64 (N.length : Nat)) ∧ AddRC B r v (N ++ [(t, dv)]) w w' := by
  obtain ⟨da, dn, dc, rfl⟩ := hdv
  obtain ⟨k, p, na, nb, z, dl⟩ := t
  show Calls _ _ #[.pointer (some ⟨r, 0, none⟩), .int .i64 p, .agg #[.int .i64 k, .int .i64 p, .int .i64 na, .int .i64 nb, .string z, .slice da dn dc]] _ _
  obtain ⟨aD, cD, rfl⟩ := own_form h.2.1
  have c0 := h.1
  have hlt := h.lt
  have HH : Hid _ := h
  obtain ⟨i0, hi, hz0, hz1, hz2⟩ := info_parts infoNC
  clear h
  go_enter Tryz.func110, Tryz.ntmps110
  go_wp2_with fail
  have ag : (Value.slice aD N.length cD).ownBlock ≠ some r := fun e => HH.out.2.2 r e rfl
  have HO : Hid (w.ownsRow B 100 7 (.slice aD N.length cD) N.length (cellsNC N)) := HH.out.2.1
  go_region_law
    ((refine step_append_lies _ (by rfl) _ _ _ (by rfl) B 100 i0 _ 7 80 Tryz.underlying54 hi hz0 hz1 hz2 rfl (by decide) (.slice aD N.length cD) N.length (cellsNC N) (by rfl) (by repeat (first | exact HO.out | refine World.ownsRow.alloc ?_ _ | refine World.ownsRow.drew ?_))
        ⟨w.heap.size + 1, 0, none⟩ 1 1 [.int .i64 p, .int .i64 k, .int .i64 p, .int .i64 na, .int .i64 nb, .string z, .slice da dn dc] (by rfl) (by rfl) (World.news_of_block (cs := #[.int .i64 p, .int .i64 k, .int .i64 p, .int .i64 na, .int .i64 nb, .string z, .slice da dn dc]) (t := 100) (fr := (0, 0)) (heap_new' _ _ _ (by simp))) (by simp [Value.oneCell'])
        (by decide) (by unfold maxLen; omega) (by omega) (by simp; omega) (w.heap.size + 2) (by simp) ?_; intro g' cap' w1 hown1 hgrow hat hlt'; obtain ⟨k1, k2⟩ := aftGrow (w := w) (by repeat (first | exact Below.refl _ _ | refine Below.drew ?_ | refine Below.alloc ?_ (by simp <;> omega) _)) c0 fz hgrow ag))
  all_goals
    have hs : (w1.setCell ⟨r, 0, none⟩ (.slice (some ⟨g', 0, none⟩) (N.length + 1) cap')).cell? ⟨r, 0, none⟩ = some (.slice (some ⟨g', 0, none⟩) (N.length + 1) cap') := World.cell?_setCell_same' _ _ _ (by rw [k1]; rfl)
    have R : Hid (AddRC B r (.slice aD N.length cD) (N ++ [(⟨k, p, na, nb, z, dl⟩, .slice da dn dc)]) w (w1.setCell ⟨r, 0, none⟩ (.slice (some ⟨g', 0, none⟩) (N.length + 1) cap'))) := by
      refine ⟨_, w1, g', cap', ?_, hgrow, ?_, ?_, ?_⟩
      · repeat (first | exact Below.refl _ _ | refine Below.drew ?_ | refine Below.alloc ?_ (by simp <;> omega) _)
      · rw [cellsNC_append, List.length_append]; exact hown1
      · rcases hat with h | h
        · exact .inl h
        · right; simp; omega
      · rw [List.length_append]; rfl
    clear hgrow hown1 hat k1 k2
    go_wp2_with ((go_at_call 54; refine (size_atC _ _ _ _ _ hs).mono ?_; rintro e w' ⟨rfl, rfl⟩))
    go_ret
    exact ⟨by simp, R.out⟩
/-- A tree of one's own: its cell names a row that is owned. -/
def OwnTC (B r : Nat) (N : List (Cor × Value)) (w : World) : Prop := B ≤ r ∧ w.frozen? ⟨r, 0, none⟩ = false ∧ ∃ v, Fld w B r 0 100 7 v N.length (cellsNC N)
theorem OwnTC.below {B r : Nat} {N : List (Cor × Value)} {w w' : World} (h : OwnTC B r N w) (hb : Below w.heap.size w w') : OwnTC B r N w' := by
  obtain ⟨h1, h2, v, hv⟩ := h
  exact ⟨h1, by rw [(bcell hb).2 r 0 hv.lt]; exact h2, v, hv.below hb⟩
theorem OwnTC.tree {B r : Nat} {N : List (Cor × Value)} {w : World} (h : OwnTC B r N w) : IsTreeC w.heap.size w r N := by
  obtain ⟨h1, h2, v, hv⟩ := h
  obtain ⟨ao, cap, rfl⟩ := own_form hv.2.1
  cases N with
  | nil => exact ⟨ao, r, cap, hv.1, hv.lt, hv.lt, fun h => absurd rfl h, fun k hk => by simp at hk⟩
  | cons t N =>
    obtain ⟨g, c, e, _, _⟩ := hv.2.1.form (by simp)
    obtain ⟨rfl, rfl⟩ : ao = some ⟨g, 0, none⟩ ∧ cap = c := by simp at e; exact e
    exact ⟨_, g, cap, hv.1, hv.lt, (hv.own_lt g rfl), fun _ => rfl, RowNC.of hv.2.1⟩
theorem OwnTC.add {B r : Nat} {N M : List (Cor × Value)} {v : Value} {w w' : World} (hr : B ≤ r) (hB : B ≤ w.heap.size) (fz : w.frozen? ⟨r, 0, none⟩ = false) (hv : Fld w B r 0 100 7 v N.length (cellsNC N)) (h : AddRC B r v M w w') : OwnTC B r M w' ∧ Below B w w' := by
  obtain ⟨u, w1, g', c', hb, hg, ho, hat, rfl⟩ := h
  have hlt := hv.lt
  have hne : v.ownBlock ≠ some r := fun e => hv.2.2 r e rfl
  obtain ⟨k1, k2⟩ := aftGrow hb hv.1 fz hg hne
  have hsz := hb.size
  refine ⟨⟨hr, by rw [World.frozen?_setCell]; exact k2, _, (hv.below hb).put hg ho ?_⟩, ?_⟩
  · intro g e
    have : g = g' := by simp [Value.ownBlock] at e; omega
    subst this
    rcases hat with h | h
    · exact .inl h
    · right; omega
  · exact Below.setCell ((hb.mono hB).grown hg (by omega) (fun k hk => ((hv.2.1).lt k hk).1)) (by simpa using hr) _
end Go.Proofs.YtfdkklhigliciaaGreatDoor
