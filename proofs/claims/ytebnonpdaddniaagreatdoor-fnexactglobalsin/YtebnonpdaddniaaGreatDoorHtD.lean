/-
  Parts of the proof laid into one text, one behind the other; each says at its head what is proved in it.
-/
import Derived.Test.YtebnonpdaddniaaGreatDoorHtA
import Derived.Lib.Bytealg
/-
  The model's l2Byte and l2Sym answer what the plain functions tell, whatever the world; nothing is turned.
-/
namespace Go.Proofs.YtebnonpdaddniaaGreatDoor
open Go.RowKit Go.Extern.Stop Go.Stop Go.Extern Num

/-- The signs that a symbol may have besides letters. -/
def signs : List UInt8 := [43, 45, 42, 47, 60, 61, 63, 33]
def symB (b : UInt8) : Bool := (decide (97 ≤ b.toNat) && decide (b.toNat ≤ 122)) || signs.any (· == b)
def symL (l : List UInt8) : Bool := l.all symB && (decide (1 ≤ l.length) && decide (l.length ≤ 12))

theorem byte_letter (b : UInt8) (w : World) (h1 : 97 ≤ (b.toNat : Int)) (h2 : (b.toNat : Int) ≤ 122) :
    Calls Tryz.prog 144 #[.int .u8 b.toNat] w fun e w' => e = .returned (.bool true) ∧ w' = w := by
  go_enter Tryz.func144, Tryz.ntmps144
  go_wp2
  go_ret
  exact ⟨rfl, rfl⟩
theorem sign_at (k : Nat) (h : k < 8) : signs[k]'h = (({ data := #[43, 45, 42, 47, 60, 61, 63, 33] } : ByteArray)[k]'h) := rfl
theorem sign_yes (k : Nat) (b : UInt8) (h : k < 8) (ht : (((({ data := #[43, 45, 42, 47, 60, 61, 63, 33] } : ByteArray)[k]'h).toNat : Int) == (b.toNat : Int)) = true) : signs.any (· == b) = true := by
  have e : (signs[k]'h) = b := by
    rw [sign_at k h]
    have := eq_of_beq ht
    rw [← UInt8.toNat_inj]; omega
  rw [List.any_eq_true]
  exact ⟨b, by rw [← e]; exact List.getElem_mem _, by simp⟩
theorem sign_no (k : Nat) (b : UInt8) (h : k < 8) (hn : (signs.take k).any (· == b) = false) (ht : (((({ data := #[43, 45, 42, 47, 60, 61, 63, 33] } : ByteArray)[k]'h).toNat : Int) == (b.toNat : Int)) = false) : (signs.take (k + 1)).any (· == b) = false := by
  rw [List.take_succ_eq_append_getElem (by exact h), List.any_append, hn, sign_at k h]
  have : ((({ data := #[43, 45, 42, 47, 60, 61, 63, 33] } : ByteArray)[k]'h) == b) = false := by
    rw [beq_eq_false_iff_ne] at ht ⊢
    intro e; apply ht; rw [e]
  simp only [List.any_cons, List.any_nil, this, Bool.or_false]
theorem byte_other (b : UInt8) (w : World) (h : ¬ (97 ≤ (b.toNat : Int) ∧ (b.toNat : Int) ≤ 122)) :
    Calls Tryz.prog 144 #[.int .u8 b.toNat] w fun e w' => e = .returned (.bool (signs.any (· == b))) ∧ w' = w := by
  by_cases h1 : 97 ≤ (b.toNat : Int)
  · have h2 : ¬ (b.toNat : Int) ≤ 122 := fun h2 => h ⟨h1, h2⟩
    clear h
    go_enter Tryz.func144, Tryz.ntmps144
    go_wp2
    go_loop [4] (fun i => ∃ k : Nat, k ≤ 8 ∧ i = .int .i64 k ∧ (signs.take k).any (· == b) = false) (fun i => 8 - (intOf i).toNat)
    case atStart => exact ⟨0, by omega, rfl, rfl⟩
    case round =>
      obtain ⟨k, hk, rfl, hn⟩ := hrel
      have HN : Hid ((signs.take k).any (· == b) = false) := hn
      clear hn
      by_cases hlt : k < 8
      · cases ht : ((({ data := #[43, 45, 42, 47, 60, 61, 63, 33] } : ByteArray)[k]'hlt).toNat : Int) == (b.toNat : Int)
        · have HT : Hid ((signs.take (k + 1)).any (· == b) = false) := sign_no k b hlt HN.out ht
          go_wp2
          exact ⟨⟨k + 1, by omega, by go_num, HT.out⟩, by simp [intOf]; omega⟩
        · have HT : Hid (signs.any (· == b) = true) := sign_yes k b hlt ht
          go_wp2
          go_ret
          exact ⟨by rw [HT.out]; rfl, rfl⟩
      · have HT : Hid (signs.any (· == b) = false) := by
          have := HN.out
          rwa [List.take_of_length_le (by show 8 ≤ k; omega)] at this
        go_wp2
        go_ret
        exact ⟨by rw [HT.out]; rfl, rfl⟩
  · clear h
    go_enter Tryz.func144, Tryz.ntmps144
    go_wp2
    go_loop [4] (fun i => ∃ k : Nat, k ≤ 8 ∧ i = .int .i64 k ∧ (signs.take k).any (· == b) = false) (fun i => 8 - (intOf i).toNat)
    case atStart => exact ⟨0, by omega, rfl, rfl⟩
    case round =>
      obtain ⟨k, hk, rfl, hn⟩ := hrel
      have HN : Hid ((signs.take k).any (· == b) = false) := hn
      clear hn
      by_cases hlt : k < 8
      · cases ht : ((({ data := #[43, 45, 42, 47, 60, 61, 63, 33] } : ByteArray)[k]'hlt).toNat : Int) == (b.toNat : Int)
        · have HT : Hid ((signs.take (k + 1)).any (· == b) = false) := sign_no k b hlt HN.out ht
          go_wp2
          exact ⟨⟨k + 1, by omega, by go_num, HT.out⟩, by simp [intOf]; omega⟩
        · have HT : Hid (signs.any (· == b) = true) := sign_yes k b hlt ht
          go_wp2
          go_ret
          exact ⟨by rw [HT.out]; rfl, rfl⟩
      · have HT : Hid (signs.any (· == b) = false) := by
          have := HN.out
          rwa [List.take_of_length_le (by show 8 ≤ k; omega)] at this
        go_wp2
        go_ret
        exact ⟨by rw [HT.out]; rfl, rfl⟩
theorem byte_any (b : UInt8) (w : World) :
    Calls Tryz.prog 144 #[.int .u8 b.toNat] w fun e w' => e = .returned (.bool (symB b)) ∧ w' = w := by
  by_cases h : 97 ≤ (b.toNat : Int) ∧ (b.toNat : Int) ≤ 122
  · have e : symB b = true := by unfold symB; simp; exact Or.inl ⟨by omega, by omega⟩
    rw [e]; exact byte_letter b w h.1 h.2
  · have e : symB b = signs.any (· == b) := by
      unfold symB
      have : (decide (97 ≤ b.toNat) && decide (b.toNat ≤ 122)) = false := by simp; omega
      rw [this, Bool.false_or]
    rw [e]; exact byte_other b w h

theorem take_all (s : ByteArray) (k : Nat) (h : k < s.size) (ha : ((s.data.toList.take k).all symB) = true) : ((s.data.toList.take (k + 1)).all symB) = symB (s[k]'h) := by
  have hk : k < s.data.toList.length := by rw [Array.length_toList]; exact h
  rw [List.take_succ_eq_append_getElem hk, List.all_append, ha]
  simp only [List.all_cons, List.all_nil, Bool.and_true, Bool.true_and]
  rfl
theorem not_all (s : ByteArray) (k : Nat) (h : k < s.size) (hb : symB (s[k]'h) = false) : symL s.data.toList = false := by
  have hk : k < s.data.toList.length := by rw [Array.length_toList]; exact h
  unfold symL
  have : s.data.toList.all symB = false := by
    rw [List.all_eq_false]
    exact ⟨s.data.toList[k], List.getElem_mem _, by show ¬ symB (s[k]'h) = true; rw [hb]; simp⟩
  rw [this, Bool.false_and]
theorem all_len (s : ByteArray) (ha : s.data.toList.all symB = true) : symL s.data.toList = (decide (1 ≤ (s.size : Int)) && decide ((s.size : Int) ≤ 12)) := by
  unfold symL
  have hl : s.data.toList.length = s.size := by rw [Array.length_toList]; rfl
  rw [ha, Bool.true_and, hl]
  congr 1 <;> (rw [decide_eq_decide]; omega)
theorem sym_any (s : ByteArray) (w : World) (hs : s.size ≤ 9223372036854775807) :
    Calls Tryz.prog 99 #[.string s] w fun e w' => e = .returned (.bool (symL s.data.toList)) ∧ w' = w := by
  go_enter Tryz.func99, Tryz.ntmps99
  go_wp2_with fail
  go_loop [3] (fun i => ∃ k : Nat, k ≤ s.size ∧ i = .int .i64 k ∧ (s.data.toList.take k).all symB = true) (fun i => s.size - (intOf i).toNat)
  case atStart => exact ⟨0, by omega, rfl, rfl⟩
  case round =>
    obtain ⟨k, hk, rfl, hn⟩ := hrel
    have HN : Hid ((s.data.toList.take k).all symB = true) := hn
    clear hn
    by_cases hlt : k < s.size
    · cases ht : symB (s[k]'hlt)
      · have HT : Hid (symL s.data.toList = false) := not_all s k hlt ht
        go_wp2_with (go_at_call 144; refine (byte_any _ _).mono ?_; rintro e w' ⟨rfl, rfl⟩)
        go_ret
        exact ⟨by rw [HT.out]; rfl, rfl⟩
      · have HT : Hid ((s.data.toList.take (k + 1)).all symB = true) := (take_all s k hlt HN.out).trans ht
        go_wp2_with (go_at_call 144; refine (byte_any _ _).mono ?_; rintro e w' ⟨rfl, rfl⟩)
        exact ⟨⟨k + 1, by omega, by go_num, HT.out⟩, by simp [intOf]; omega⟩
    · have HA : Hid (symL s.data.toList = (decide (1 ≤ (s.size : Int)) && decide ((s.size : Int) ≤ 12))) := all_len s (by
        have := HN.out
        rwa [List.take_of_length_le (by rw [Array.length_toList]; show s.size ≤ k; omega)] at this)
      go_wp2_with (go_at_call 98; refine (l1In_any _ _ _ _).mono ?_; rintro e w' ⟨rfl, rfl⟩)
      go_ret
      exact ⟨by rw [HA.out]; rfl, rfl⟩
end Go.Proofs.YtebnonpdaddniaaGreatDoor
/-
  The model's l2Mark, l2Skip and l2End answer what the plain functions tell, whatever the world; nothing is turned.
-/
namespace Go.Proofs.YtebnonpdaddniaaGreatDoor
open Go.RowKit Go.Extern.Stop Go.Stop Go.Extern Num

/-- The kind of a byte that is a token by itself. -/
def markB (b : UInt8) : Int := if b = 40 then 1 else if b = 41 then 2 else if b = 39 then 3 else 0
/-- The end of a line, from a place on. -/
def lineEnd (l : List UInt8) : Nat → Nat → Nat
  | 0, k => k
  | f + 1, k => if k < l.length ∧ l.getD k 0 ≠ 10 then lineEnd l f (k + 1) else k
/-- What is passed over from a place on: blanks, line feeds and comments. -/
def skipAt (l : List UInt8) : Nat → Nat → Nat
  | 0, k => k
  | f + 1, k => if k < l.length then (if l.getD k 0 = 59 then skipAt l f (lineEnd l l.length k) else if l.getD k 0 ≠ 32 ∧ l.getD k 0 ≠ 10 then k else skipAt l f (k + 1)) else k
theorem lineEnd_fuel (l : List UInt8) : ∀ (f g k : Nat), l.length - k ≤ f → l.length - k ≤ g → lineEnd l f k = lineEnd l g k
  | 0, 0, _, _, _ => rfl
  | 0, g + 1, k, h, _ => by simp only [lineEnd]; rw [if_neg (by omega)]
  | f + 1, 0, k, _, h => by simp only [lineEnd]; rw [if_neg (by omega)]
  | f + 1, g + 1, k, h1, h2 => by
    simp only [lineEnd]
    by_cases hc : k < l.length ∧ l.getD k 0 ≠ 10
    · rw [if_pos hc, if_pos hc]; exact lineEnd_fuel l f g (k + 1) (by omega) (by omega)
    · rw [if_neg hc, if_neg hc]
theorem lineEnd_ge (l : List UInt8) : ∀ (f k : Nat), k ≤ lineEnd l f k
  | 0, k => Nat.le_refl _
  | f + 1, k => by
    simp only [lineEnd]
    split
    · exact Nat.le_trans (Nat.le_succ k) (lineEnd_ge l f (k + 1))
    · exact Nat.le_refl _
theorem lineEnd_le (l : List UInt8) : ∀ (f k : Nat), k ≤ l.length → lineEnd l f k ≤ l.length
  | 0, k, h => h
  | f + 1, k, h => by
    simp only [lineEnd]
    split
    · exact lineEnd_le l f (k + 1) (by omega)
    · exact h
theorem lineEnd_on (l : List UInt8) (k : Nat) (h : k < l.length) (hc : l.getD k 0 ≠ 10) : lineEnd l l.length k = lineEnd l l.length (k + 1) := by
  rw [lineEnd_fuel l l.length (l.length + 1) k (by omega) (by omega)]
  simp only [lineEnd]
  rw [if_pos ⟨h, hc⟩]
theorem lineEnd_here (l : List UInt8) (k : Nat) (h : ¬ (k < l.length ∧ l.getD k 0 ≠ 10)) : lineEnd l l.length k = k := by
  rw [lineEnd_fuel l l.length (l.length + 1) k (by omega) (by omega)]
  simp only [lineEnd]
  rw [if_neg h]
theorem skip_fuel (l : List UInt8) : ∀ (f g k : Nat), l.length - k ≤ f → l.length - k ≤ g → skipAt l f k = skipAt l g k
  | 0, 0, _, _, _ => rfl
  | 0, g + 1, k, h, _ => by simp only [skipAt]; rw [if_neg (by omega)]
  | f + 1, 0, k, _, h => by simp only [skipAt]; rw [if_neg (by omega)]
  | f + 1, g + 1, k, h1, h2 => by
    simp only [skipAt]
    by_cases hk : k < l.length
    · rw [if_pos hk, if_pos hk]
      by_cases h59 : l.getD k 0 = 59
      · rw [if_pos h59, if_pos h59]
        have e := lineEnd_on l k hk (by rw [h59]; decide)
        have := lineEnd_ge l l.length (k + 1)
        exact skip_fuel l f g _ (by omega) (by omega)
      · rw [if_neg h59, if_neg h59]
        by_cases hb : l.getD k 0 ≠ 32 ∧ l.getD k 0 ≠ 10
        · rw [if_pos hb, if_pos hb]
        · rw [if_neg hb, if_neg hb]; exact skip_fuel l f g (k + 1) (by omega) (by omega)
    · rw [if_neg hk, if_neg hk]
def skip (l : List UInt8) (k : Nat) : Nat := skipAt l l.length k
theorem skip_end (l : List UInt8) (k : Nat) (h : ¬ k < l.length) : skip l k = k := by
  unfold skip
  rw [skip_fuel l l.length (l.length + 1) k (by omega) (by omega)]
  simp only [skipAt]; rw [if_neg h]
theorem skip_note (l : List UInt8) (k : Nat) (h : k < l.length) (h59 : l.getD k 0 = 59) : skip l k = skip l (lineEnd l l.length k) := by
  unfold skip
  have e := lineEnd_on l k h (by rw [h59]; decide)
  have := lineEnd_ge l l.length (k + 1)
  rw [skip_fuel l l.length (l.length + 1) k (by omega) (by omega)]
  simp only [skipAt]; rw [if_pos h, if_pos h59]
theorem skip_word (l : List UInt8) (k : Nat) (h : k < l.length) (h59 : l.getD k 0 ≠ 59) (hb : l.getD k 0 ≠ 32 ∧ l.getD k 0 ≠ 10) : skip l k = k := by
  unfold skip
  rw [skip_fuel l l.length (l.length + 1) k (by omega) (by omega)]
  simp only [skipAt]; rw [if_pos h, if_neg h59, if_pos hb]
theorem skip_on (l : List UInt8) (k : Nat) (h : k < l.length) (h59 : l.getD k 0 ≠ 59) (hb : ¬ (l.getD k 0 ≠ 32 ∧ l.getD k 0 ≠ 10)) : skip l k = skip l (k + 1) := by
  unfold skip
  rw [skip_fuel l l.length (l.length + 1) k (by omega) (by omega)]
  simp only [skipAt]; rw [if_pos h, if_neg h59, if_neg hb]
theorem getD_byte (s : ByteArray) (k : Nat) (h : k < s.size) : s.data.toList.getD k 0 = s[k]'h := by
  have hk : k < s.data.toList.length := by rw [Array.length_toList]; exact h
  rw [List.getD_eq_getElem?_getD, List.getElem?_eq_getElem hk]; rfl
theorem byte_ne (b : UInt8) (n : Nat) (hn : n < 256) (h : ((b.toNat : Int) == (n : Int)) = false) : b ≠ UInt8.ofNat n := by
  rw [beq_eq_false_iff_ne] at h
  intro e; apply h; rw [e]; simp [UInt8.toNat_ofNat']; omega
theorem byte_is (b : UInt8) (n : Nat) (hn : n < 256) (h : ((b.toNat : Int) == (n : Int)) = true) : b = UInt8.ofNat n := by
  have := eq_of_beq h
  rw [← UInt8.toNat_inj]; simp [UInt8.toNat_ofNat']; omega
end Go.Proofs.YtebnonpdaddniaaGreatDoor
/-
  The model's l2Skip, walked: it answers the place that 'skip' tells, whatever the world; nothing is turned.
-/
namespace Go.Proofs.YtebnonpdaddniaaGreatDoor
open Go.RowKit Go.Extern.Stop Go.Stop Go.Extern Num

theorem len_bytes (s : ByteArray) : s.data.toList.length = s.size := by rw [Array.length_toList]; rfl
theorem skip_less (s : ByteArray) (k j : Nat) (h2 : j ≤ s.size) (hx : j = lineEnd s.data.toList s.data.toList.length k) (hl : lineEnd s.data.toList s.data.toList.length k = lineEnd s.data.toList s.data.toList.length (k + 1)) :
    s.size - (intOf (.int .i64 (j : Int))).toNat < s.size - (intOf (.int .i64 (k : Int))).toNat := by
  have h := lineEnd_ge s.data.toList s.data.toList.length (k + 1)
  rw [← hl, ← hx] at h
  simp [intOf]; omega
end Go.Proofs.YtebnonpdaddniaaGreatDoor
/-
  The model's l2End, walked: it answers the place at which a word ends, whatever the world; nothing is turned.
-/
namespace Go.Proofs.YtebnonpdaddniaaGreatDoor
open Go.RowKit Go.Extern.Stop Go.Stop Go.Extern Num

/-- A byte that goes on with a word. -/
def onB (b : UInt8) : Bool := b != 32 && (b != 10 && (b != 59 && (markB b == 0)))
def endAt (l : List UInt8) : Nat → Nat → Nat
  | 0, k => k
  | f + 1, k => if k < l.length ∧ onB (l.getD k 0) = true then endAt l f (k + 1) else k
theorem end_fuel (l : List UInt8) : ∀ (f g k : Nat), l.length - k ≤ f → l.length - k ≤ g → endAt l f k = endAt l g k
  | 0, 0, _, _, _ => rfl
  | 0, g + 1, k, h, _ => by simp only [endAt]; rw [if_neg (by omega)]
  | f + 1, 0, k, _, h => by simp only [endAt]; rw [if_neg (by omega)]
  | f + 1, g + 1, k, h1, h2 => by
    simp only [endAt]
    by_cases hc : k < l.length ∧ onB (l.getD k 0) = true
    · rw [if_pos hc, if_pos hc]; exact end_fuel l f g (k + 1) (by omega) (by omega)
    · rw [if_neg hc, if_neg hc]
def wordEnd (l : List UInt8) (k : Nat) : Nat := endAt l l.length k
theorem wordEnd_on (l : List UInt8) (k : Nat) (h : k < l.length) (hc : onB (l.getD k 0) = true) : wordEnd l k = wordEnd l (k + 1) := by
  unfold wordEnd
  rw [end_fuel l l.length (l.length + 1) k (by omega) (by omega)]
  simp only [endAt]; rw [if_pos ⟨h, hc⟩]
theorem wordEnd_here (l : List UInt8) (k : Nat) (h : ¬ (k < l.length ∧ onB (l.getD k 0) = true)) : wordEnd l k = k := by
  unfold wordEnd
  rw [end_fuel l l.length (l.length + 1) k (by omega) (by omega)]
  simp only [endAt]; rw [if_neg h]
theorem onB_is (b : UInt8) : onB b = (((b.toNat : Int) != 32) && (((b.toNat : Int) != 10) && (((b.toNat : Int) != 59) && (markB b == 0)))) := by
  have e : ∀ n : Nat, n < 256 → (b != UInt8.ofNat n) = ((b.toNat : Int) != (n : Int)) := fun n hn => by
    rw [Bool.eq_iff_iff]
    simp only [bne_iff_ne]
    constructor
    · intro h e; apply h; rw [← UInt8.toNat_inj]; simp [UInt8.toNat_ofNat']; omega
    · intro h e; apply h; rw [e]; simp [UInt8.toNat_ofNat']; omega
  have e1 := e 32 (by omega); have e2 := e 10 (by omega); have e3 := e 59 (by omega)
  unfold onB
  rw [show (b != 32) = ((b.toNat : Int) != 32) from e1, show (b != 10) = ((b.toNat : Int) != 10) from e2, show (b != 59) = ((b.toNat : Int) != 59) from e3]

end Go.Proofs.YtebnonpdaddniaaGreatDoor
/-
  Tokens, plainly: what a word is as a token, which tokens a text has; that a text has them in one way alone. No program in it.
-/
namespace Go.Proofs.YtebnonpdaddniaaGreatDoor
open Go.RowKit Go.Extern.Stop Go.Stop Go.Extern Num Go.Lib

structure Tok where
  kind : Int
  num : Int
  name : ByteArray
abbrev Tok.val (t : Tok) : Value := .agg #[.int .i64 t.kind, .int .i64 t.num, .string t.name]
def Tok.cells (t : Tok) : List Value := [.int .i64 t.kind, .int .i64 t.num, .string t.name]
def cellsOf : List Tok → List Value
  | [] => []
  | t :: r => t.cells ++ cellsOf r
theorem cellsOf_append (a b : List Tok) : cellsOf (a ++ b) = cellsOf a ++ cellsOf b := by
  induction a with
  | nil => rfl
  | cons t r ih => simp [cellsOf, ih]
theorem cellsOf_length (l : List Tok) : (cellsOf l).length = l.length * 3 := by
  induction l with
  | nil => rfl
  | cons t r ih => simp [cellsOf, Tok.cells, ih]; omega
theorem cellsOf_one (l : List Tok) : ∀ u ∈ cellsOf l, u.oneCell' = true := by
  induction l with
  | nil => intro u h; cases h
  | cons t r ih =>
    intro u h
    simp only [cellsOf, Tok.cells, List.mem_append, List.mem_cons, List.not_mem_nil, or_false] at h
    rcases h with (rfl | rfl | rfl) | h
    · rfl
    · rfl
    · rfl
    · exact ih u h
theorem cellsOf_at (l : List Tok) (k : Nat) (h : k < l.length) : (cellsOf l)[k * 3]? = some (.int .i64 l[k].kind) ∧ (cellsOf l)[k * 3 + 1]? = some (.int .i64 l[k].num) ∧ (cellsOf l)[k * 3 + 2]? = some (.string l[k].name) := by
  induction l generalizing k with
  | nil => cases h
  | cons t r ih =>
    cases k with
    | zero => exact ⟨rfl, rfl, rfl⟩
    | succ k =>
      have hk : k < r.length := by simpa using h
      have := ih k hk
      have e : ∀ j, (cellsOf (t :: r))[j + 3]? = (cellsOf r)[j]? := fun j => by
        show (t.cells ++ cellsOf r)[j + 3]? = _
        rw [List.getElem?_append_right (by simp [Tok.cells])]
        simp [Tok.cells]
      have e1 : (k + 1) * 3 = k * 3 + 3 := by omega
      rw [e1, show k * 3 + 3 + 1 = k * 3 + 1 + 3 by omega, show k * 3 + 3 + 2 = k * 3 + 2 + 3 by omega, e, e, e]
      simpa using this

/-- The number that a text is the text of. -/
def numOf (l : List UInt8) : Option Int :=
  match atoi l with
  | some v => if inB v && (itoa v == l) then some v else none
  | none => none
theorem numOf_of {l : List UInt8} {v : Int} (h : inB v = true) (e : itoa v = l) : numOf l = some v := by
  unfold numOf
  rw [← e, atoi_itoa]; simp [h]
theorem numOf_some {l : List UInt8} {v : Int} (h : numOf l = some v) : inB v = true ∧ itoa v = l := by
  unfold numOf at h
  cases ha : atoi l with
  | none => rw [ha] at h; cases h
  | some u =>
    rw [ha] at h
    simp only at h
    split at h
    · rename_i hc
      obtain rfl := Option.some.inj h
      simp only [Bool.and_eq_true] at hc
      exact ⟨hc.1, eq_of_beq hc.2⟩
    · cases h
theorem numOf_none {l : List UInt8} (h : numOf l = none) : ∀ v, inB v = true → itoa v ≠ l := by
  intro v hv e
  rw [numOf_of hv e] at h; cases h
theorem itoa_head (v : Int) : ∃ c r, itoa v = c :: r ∧ (c = 45 ∨ (48 ≤ c.toNat ∧ c.toNat ≤ 57)) := by
  unfold itoa
  split
  · exact ⟨45, _, rfl, Or.inl rfl⟩
  · obtain ⟨c, r, e, h1, h2⟩ := decDigits_cons v.toNat
    exact ⟨c, r, e, Or.inr ⟨h1, h2⟩⟩
theorem numOf_head (b : UInt8) (r : List UInt8) (h : b ≠ 45 ∧ ¬ (48 ≤ b.toNat ∧ b.toNat ≤ 57)) : numOf (b :: r) = none := by
  cases e : numOf (b :: r) with
  | none => rfl
  | some v =>
    obtain ⟨_, h2⟩ := numOf_some e
    obtain ⟨c, r', e2, h3⟩ := itoa_head v
    rw [h2] at e2
    obtain ⟨rfl, _⟩ := List.cons.inj e2
    rcases h3 with h3 | h3
    · exact absurd h3 h.1
    · exact absurd h3 h.2

abbrev E0 : ByteArray := ⟨#[]⟩
/-- A word as a token. -/
def wordTok (s : ByteArray) : Option Tok :=
  match numOf s.data.toList with
  | some v => some ⟨4, v, E0⟩
  | none => if s.data.toList = [35, 116] then some ⟨5, 1, E0⟩ else if s.data.toList = [35, 102] then some ⟨5, 0, E0⟩ else if symL s.data.toList = true then some ⟨6, 0, s⟩ else none
theorem wordTok_num {s : ByteArray} {v : Int} (h : numOf s.data.toList = some v) : wordTok s = some ⟨4, v, E0⟩ := by unfold wordTok; rw [h]
theorem wordTok_t {s : ByteArray} (h : s.data.toList = [35, 116]) : wordTok s = some ⟨5, 1, E0⟩ := by
  unfold wordTok
  rw [h, numOf_head 35 [116] (by decide)]; simp
theorem wordTok_f {s : ByteArray} (h : s.data.toList = [35, 102]) : wordTok s = some ⟨5, 0, E0⟩ := by
  unfold wordTok
  rw [h, numOf_head 35 [102] (by decide)]; simp
theorem wordTok_sym {s : ByteArray} (h : numOf s.data.toList = none) (h1 : s.data.toList ≠ [35, 116]) (h2 : s.data.toList ≠ [35, 102]) : wordTok s = if symL s.data.toList = true then some ⟨6, 0, s⟩ else none := by
  unfold wordTok; rw [h]; simp only; rw [if_neg h1, if_neg h2]

/-- Where the token at a place ends; the token there. -/
def endOf (s : ByteArray) (k : Nat) : Nat := if markB (s.data.toList.getD k 0) = 0 then wordEnd s.data.toList k else k + 1
def tokAt (s : ByteArray) (k : Nat) : Option Tok :=
  if markB (s.data.toList.getD k 0) = 0 then wordTok (s.extract k (wordEnd s.data.toList k)) else some ⟨markB (s.data.toList.getD k 0), 0, E0⟩
/-- The tokens of a text, from a place on, behind those that were found: code, place, list; in so many steps. -/
def CutN (s : ByteArray) : Nat → Nat → List Tok → Int → Int → List Tok → Prop
  | 0, _, _, _, _, _ => False
  | n + 1, k, out, c, a, r =>
    (¬ k < s.size ∧ c = 0 ∧ a = 0 ∧ r = out) ∨ (k < s.size ∧ tokAt s k = none ∧ c = 5 ∧ a = (k : Int) ∧ r = []) ∨
    (∃ t, k < s.size ∧ tokAt s k = some t ∧ ((120 ≤ out.length ∧ c = 2 ∧ a = (k : Int) ∧ r = []) ∨ (out.length < 120 ∧ CutN s n (skip s.data.toList (endOf s k)) (out ++ [t]) c a r)))
def Cut (s : ByteArray) (k : Nat) (out : List Tok) (c a : Int) (r : List Tok) : Prop := ∃ n, CutN s n k out c a r
theorem Cut.stop {s : ByteArray} {k : Nat} {out : List Tok} (h : ¬ k < s.size) : Cut s k out 0 0 out := ⟨1, Or.inl ⟨h, rfl, rfl, rfl⟩⟩
theorem Cut.bad {s : ByteArray} {k : Nat} {out : List Tok} (h : k < s.size) (ht : tokAt s k = none) : Cut s k out 5 k [] := ⟨1, Or.inr (Or.inl ⟨h, ht, rfl, rfl, rfl⟩)⟩
theorem Cut.many {s : ByteArray} {k : Nat} {out : List Tok} {t : Tok} (h : k < s.size) (ht : tokAt s k = some t) (hn : 120 ≤ out.length) : Cut s k out 2 k [] := ⟨1, Or.inr (Or.inr ⟨t, h, ht, Or.inl ⟨hn, rfl, rfl, rfl⟩⟩)⟩
theorem Cut.next {s : ByteArray} {k : Nat} {out : List Tok} {t : Tok} {c a : Int} {r : List Tok} (h : k < s.size) (ht : tokAt s k = some t) (hn : out.length < 120) (hc : Cut s (skip s.data.toList (endOf s k)) (out ++ [t]) c a r) : Cut s k out c a r := by
  obtain ⟨n, hc⟩ := hc
  exact ⟨n + 1, Or.inr (Or.inr ⟨t, h, ht, Or.inr ⟨hn, hc⟩⟩)⟩
theorem cutN_one (s : ByteArray) : ∀ (n m k : Nat) (out : List Tok) (c a : Int) (r : List Tok) (c' a' : Int) (r' : List Tok), CutN s n k out c a r → CutN s m k out c' a' r' → c = c' ∧ a = a' ∧ r = r'
  | 0, _, _, _, _, _, _, _, _, _, h, _ => h.elim
  | _ + 1, 0, _, _, _, _, _, _, _, _, _, h => h.elim
  | n + 1, m + 1, k, out, c, a, r, c', a', r', h, h' => by
    rcases h with ⟨h, rfl, rfl, rfl⟩ | ⟨h, ht, rfl, rfl, rfl⟩ | ⟨t, h, ht, ⟨hn, rfl, rfl, rfl⟩ | ⟨hn, hc⟩⟩
    · rcases h' with ⟨_, rfl, rfl, rfl⟩ | ⟨h1, _⟩ | ⟨t', h1, _⟩
      · exact ⟨rfl, rfl, rfl⟩
      · exact absurd h1 h
      · exact absurd h1 h
    · rcases h' with ⟨h1, _⟩ | ⟨_, _, rfl, rfl, rfl⟩ | ⟨t', _, h1, _⟩
      · exact absurd h h1
      · exact ⟨rfl, rfl, rfl⟩
      · rw [ht] at h1; cases h1
    · rcases h' with ⟨h1, _⟩ | ⟨_, h1, _⟩ | ⟨t', _, _, ⟨_, rfl, rfl, rfl⟩ | ⟨h1, _⟩⟩
      · exact absurd h h1
      · rw [ht] at h1; cases h1
      · exact ⟨rfl, rfl, rfl⟩
      · omega
    · rcases h' with ⟨h1, _⟩ | ⟨_, h1, _⟩ | ⟨t', _, h1, ⟨h2, _⟩ | ⟨_, hc'⟩⟩
      · exact absurd h h1
      · rw [ht] at h1; cases h1
      · omega
      · rw [ht] at h1
        obtain rfl := Option.some.inj h1
        exact cutN_one s n m _ _ _ _ _ _ _ _ hc hc'
theorem cut_one {s : ByteArray} {k : Nat} {out : List Tok} {c a : Int} {r : List Tok} (h : Cut s k out c a r) {c' a' : Int} {r' : List Tok} (h' : Cut s k out c' a' r') : c = c' ∧ a = a' ∧ r = r' := by
  obtain ⟨n, h⟩ := h
  obtain ⟨m, h'⟩ := h'
  exact cutN_one s n m k out c a r c' a' r' h h'
theorem cutN_len (s : ByteArray) : ∀ (n k : Nat) (out : List Tok) (c a : Int) (r : List Tok), CutN s n k out c a r → out.length ≤ 120 → r.length ≤ 120
  | 0, _, _, _, _, _, h, _ => h.elim
  | n + 1, k, out, c, a, r, h, ho => by
    rcases h with ⟨_, _, _, rfl⟩ | ⟨_, _, _, _, rfl⟩ | ⟨t, _, _, ⟨_, _, _, rfl⟩ | ⟨hn, hc⟩⟩
    · exact ho
    · exact Nat.zero_le _
    · exact Nat.zero_le _
    · exact cutN_len s n _ _ _ _ _ hc (by simp; omega)
/-- How many tokens there are at most. -/
theorem cut_len {s : ByteArray} {k : Nat} {out : List Tok} {c a : Int} {r : List Tok} (h : Cut s k out c a r) (ho : out.length ≤ 120) : r.length ≤ 120 := by
  obtain ⟨n, h⟩ := h
  exact cutN_len s n k out c a r h ho
theorem skip_ge (l : List UInt8) : ∀ (f k : Nat), k ≤ skipAt l f k
  | 0, k => Nat.le_refl _
  | f + 1, k => by
    simp only [skipAt]
    split
    · split
      · exact Nat.le_trans (lineEnd_ge l l.length k) (skip_ge l f _)
      · split
        · exact Nat.le_refl _
        · exact Nat.le_trans (Nat.le_succ k) (skip_ge l f (k + 1))
    · exact Nat.le_refl _
theorem skip_le (l : List UInt8) : ∀ (f k : Nat), k ≤ l.length → skipAt l f k ≤ l.length
  | 0, k, h => h
  | f + 1, k, h => by
    simp only [skipAt]
    split
    · split
      · exact skip_le l f _ (lineEnd_le l l.length k h)
      · split
        · exact h
        · exact skip_le l f (k + 1) (by omega)
    · exact h
theorem skip_idem (l : List UInt8) : ∀ (f k : Nat), l.length - k ≤ f → skip l (skip l k) = skip l k
  | 0, k, h => by rw [skip_end l k (by omega), skip_end l k (by omega)]
  | f + 1, k, h => by
    by_cases hk : k < l.length
    · by_cases h59 : l.getD k 0 = 59
      · have e := lineEnd_on l k hk (by rw [h59]; decide)
        have := lineEnd_ge l l.length (k + 1)
        rw [skip_note l k hk h59]
        exact skip_idem l f _ (by omega)
      · by_cases hb : l.getD k 0 ≠ 32 ∧ l.getD k 0 ≠ 10
        · rw [skip_word l k hk h59 hb, skip_word l k hk h59 hb]
        · rw [skip_on l k hk h59 hb]; exact skip_idem l f (k + 1) (by omega)
    · rw [skip_end l k hk, skip_end l k hk]
/-- At a place that nothing is passed over from, a word or a mark begins. -/
theorem skip_fix (l : List UInt8) (k : Nat) (hk : k < l.length) (h : skip l k = k) : l.getD k 0 ≠ 59 ∧ l.getD k 0 ≠ 32 ∧ l.getD k 0 ≠ 10 := by
  by_cases h59 : l.getD k 0 = 59
  · have e := lineEnd_on l k hk (by rw [h59]; decide)
    have h1 := lineEnd_ge l l.length (k + 1)
    have h2 := skip_ge l l.length (lineEnd l l.length k)
    rw [skip_note l k hk h59] at h
    unfold skip at h
    omega
  · by_cases hb : l.getD k 0 ≠ 32 ∧ l.getD k 0 ≠ 10
    · exact ⟨h59, hb.1, hb.2⟩
    · rw [skip_on l k hk h59 hb] at h
      have h2 := skip_ge l l.length (k + 1)
      unfold skip at h
      omega
theorem onB_of (b : UInt8) (h : b ≠ 59 ∧ b ≠ 32 ∧ b ≠ 10) (hm : markB b = 0) : onB b = true := by
  unfold onB; simp [h, hm]
theorem end_ge (l : List UInt8) : ∀ (f k : Nat), k ≤ endAt l f k
  | 0, k => Nat.le_refl _
  | f + 1, k => by
    simp only [endAt]
    split
    · exact Nat.le_trans (Nat.le_succ k) (end_ge l f (k + 1))
    · exact Nat.le_refl _
theorem end_le (l : List UInt8) : ∀ (f k : Nat), k ≤ l.length → endAt l f k ≤ l.length
  | 0, k, h => h
  | f + 1, k, h => by
    simp only [endAt]
    split
    · exact end_le l f (k + 1) (by omega)
    · exact h
theorem wordEnd_gt (l : List UInt8) (k : Nat) (hk : k < l.length) (h : skip l k = k) (hm : markB (l.getD k 0) = 0) : k < wordEnd l k := by
  rw [wordEnd_on l k hk (onB_of _ (skip_fix l k hk h) hm)]
  exact end_ge l _ (k + 1)
theorem endOf_gt (s : ByteArray) (k : Nat) (hk : k < s.size) (h : skip s.data.toList k = k) : k < endOf s k := by
  unfold endOf
  split
  · exact wordEnd_gt _ k (by rw [len_bytes]; exact hk) h (by assumption)
  · omega
theorem wordEnd_le (s : ByteArray) (k : Nat) (hk : k ≤ s.size) : wordEnd s.data.toList k ≤ s.size := by
  have := end_le s.data.toList s.data.toList.length k (by rw [len_bytes]; exact hk)
  rw [len_bytes] at this; exact this
theorem endOf_le (s : ByteArray) (k : Nat) (hk : k < s.size) : endOf s k ≤ s.size := by
  unfold endOf
  split
  · exact wordEnd_le s k (by omega)
  · omega
theorem skip_le' (s : ByteArray) (k : Nat) (h : k ≤ s.size) : skip s.data.toList k ≤ s.size := by
  have := skip_le s.data.toList s.data.toList.length k (by rw [len_bytes]; exact h)
  rw [len_bytes] at this; exact this
theorem cut_total (s : ByteArray) : ∀ (n k : Nat) (out : List Tok), s.size - k ≤ n → skip s.data.toList k = k → ∃ c a r, Cut s k out c a r := by
  intro n
  induction n with
  | zero => intro k out h _; exact ⟨_, _, _, .stop (by omega)⟩
  | succ n ih =>
    intro k out h hf
    by_cases hk : k < s.size
    · cases ht : tokAt s k with
      | none => exact ⟨_, _, _, .bad hk ht⟩
      | some t =>
        by_cases h1 : 120 ≤ out.length
        · exact ⟨_, _, _, .many hk ht h1⟩
        · have hg := endOf_gt s k hk hf
          have h2 := skip_ge s.data.toList s.data.toList.length (endOf s k)
          have h3 : endOf s k ≤ skip s.data.toList (endOf s k) := h2
          obtain ⟨c, a, r, hc⟩ := ih (skip s.data.toList (endOf s k)) (out ++ [t]) (by omega) (skip_idem _ _ _ (Nat.le_refl _))
          exact ⟨c, a, r, .next hk ht (by omega) hc⟩
    · exact ⟨_, _, _, .stop hk⟩
theorem ne_list {s : ByteArray} {l : List UInt8} (h : s.data.toList ≠ l) : (s.toList == l) = false := by
  rw [ByteArray.toList_eq]; simpa using h
end Go.Proofs.YtebnonpdaddniaaGreatDoor
/-
  The model's SymFault answers what the plain function tells, whatever the world; nothing is turned.
-/
namespace Go.Proofs.YtebnonpdaddniaaGreatDoor
open Go.RowKit Go.Extern.Stop Go.Stop Go.Extern Num

end Go.Proofs.YtebnonpdaddniaaGreatDoor
/-
  The bytes of symbols, and a name as one number: its bytes are digits from 1 on, so that the name comes back from the number. No program in it.
-/
namespace Go.Proofs.YtebnonpdaddniaaGreatDoor
open Go.RowKit Go.Extern.Stop Go.Stop Go.Extern Num

theorem indexByte_iff (l : List UInt8) (b : UInt8) : 0 ≤ Lib.indexByte l b ↔ l.any (· == b) = true := by
  induction l with
  | nil => simp [Lib.indexByte]
  | cons a r ih =>
    have hge := Lib.indexByte_ge r b
    have e : Lib.indexByte (a :: r) b = if a == b then 0 else if Lib.indexByte r b == -1 then -1 else Lib.indexByte r b + 1 := rfl
    rw [e, List.any_cons, Bool.or_eq_true, ← ih]
    by_cases h : (a == b) = true
    · rw [if_pos h]; simp [h]
    · rw [if_neg h]
      by_cases h1 : (Lib.indexByte r b == -1) = true
      · rw [if_pos h1]; have := eq_of_beq h1; simp [h, this]
      · rw [if_neg h1]
        have h2 : Lib.indexByte r b ≠ -1 := by simpa using h1
        constructor
        · intro _; exact Or.inr (by omega)
        · intro _; omega
theorem indexByte_any (l : List UInt8) (b : UInt8) : decide (0 ≤ Lib.indexByte l b) = l.any (· == b) := by
  rw [Bool.eq_iff_iff, decide_eq_true_iff]; exact indexByte_iff l b
/-- The bytes that a symbol may have. -/
def symAll : List UInt8 := [97, 98, 99, 100, 101, 102, 103, 104, 105, 106, 107, 108, 109, 110, 111, 112, 113, 114, 115, 116, 117, 118, 119, 120, 121, 122, 43, 45, 42, 47, 60, 61, 63, 33]
theorem symAll_any (b : UInt8) : symAll.any (· == b) = symB b := by
  have h : ∀ n : Fin 256, symAll.any (· == UInt8.ofFin n) = symB (UInt8.ofFin n) := by decide +kernel
  have := h b.toFin
  simpa using this
/-- The digit of a byte. -/
def dig (b : UInt8) : Nat := (Lib.indexByte symAll b + 1).toNat
theorem dig_facts (b : UInt8) (h : symB b = true) : 1 ≤ dig b ∧ dig b ≤ 34 ∧ Lib.indexByte symAll b = ((dig b : Nat) : Int) - 1 ∧ symAll[dig b - 1]? = some b := by
  have k : ∀ n : Fin 256, symB (UInt8.ofFin n) = true → 1 ≤ dig (UInt8.ofFin n) ∧ dig (UInt8.ofFin n) ≤ 34 ∧ Lib.indexByte symAll (UInt8.ofFin n) = ((dig (UInt8.ofFin n) : Nat) : Int) - 1 ∧ symAll[dig (UInt8.ofFin n) - 1]? = some (UInt8.ofFin n) := by decide +kernel
  have := k b.toFin (by simpa using h)
  simpa using this
/-- A name as a number. -/
def bitsL (l : List UInt8) : Nat := l.foldl (fun n b => n * 35 + dig b) 0
theorem bitsL_snoc (l : List UInt8) (b : UInt8) : bitsL (l ++ [b]) = bitsL l * 35 + dig b := by simp [bitsL]
theorem foldl_lt (l : List UInt8) (h : l.all symB = true) : ∀ n, l.foldl (fun n b => n * 35 + dig b) n < (n + 1) * 35 ^ l.length := by
  induction l with
  | nil => intro n; simp
  | cons b r ih =>
    intro n
    rw [List.all_cons, Bool.and_eq_true] at h
    have h1 := ih h.2 (n * 35 + dig b)
    have h2 := dig_facts b h.1
    rw [List.foldl_cons, List.length_cons, Nat.pow_succ, Nat.mul_comm (35 ^ r.length) 35, ← Nat.mul_assoc]
    refine Nat.lt_of_lt_of_le h1 (Nat.mul_le_mul_right _ ?_)
    omega
theorem bitsL_lt (l : List UInt8) (h : l.all symB = true) : bitsL l < 35 ^ l.length := by
  have := foldl_lt l h 0
  simpa [bitsL] using this
theorem pow35 (n : Nat) (h : n ≤ 12) : 35 ^ n ≤ 3379220508056640625 := by
  have : 35 ^ n ≤ 35 ^ 12 := Nat.pow_le_pow_right (by omega) h
  simpa using this
theorem bitsL_pos (l : List UInt8) (b : UInt8) (h : symB b = true) : 0 < bitsL (l ++ [b]) ∧ bitsL (l ++ [b]) % 35 = dig b ∧ bitsL (l ++ [b]) / 35 = bitsL l := by
  have h2 := dig_facts b h
  rw [bitsL_snoc]
  omega
end Go.Proofs.YtebnonpdaddniaaGreatDoor
