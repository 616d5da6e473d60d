/-
  The model's l2Mark, l2Skip and l2End answer what the plain functions tell, whatever the world; nothing is turned.
-/
import Derived.Test.YtoljpgpkeploiaaDoorSpecSym
namespace Go.Proofs.YtoljpgpkeploiaaDoor
open Go.RowKit Go.Extern.Stop Go.Stop Go.Extern Num

/-- The kind of a byte that is a token by itself. -/
def markB (b : UInt8) : Int := if b = 40 then 1 else if b = 41 then 2 else if b = 39 then 3 else 0
theorem mark_any (b : UInt8) (w : World) :
    Calls Tryd.prog 86 #[.int .u8 b.toNat] w fun e w' => e = .returned (.int .i64 (markB b)) ∧ w' = w := by
  by_cases h1 : b = 40
  · subst h1
    go_enter Tryd.func86, Tryd.ntmps86
    go_wp2
    go_ret
    exact ⟨rfl, rfl⟩
  · by_cases h2 : b = 41
    · subst h2
      go_enter Tryd.func86, Tryd.ntmps86
      go_wp2
      go_ret
      exact ⟨rfl, rfl⟩
    · by_cases h3 : b = 39
      · subst h3
        go_enter Tryd.func86, Tryd.ntmps86
        go_wp2
        go_ret
        exact ⟨rfl, rfl⟩
      · have e : markB b = 0 := by simp [markB, h1, h2, h3]
        rw [e]
        have n1 : ((b.toNat : Int) == 40) = false := by
          rw [beq_eq_false_iff_ne]; intro e; apply h1; rw [← UInt8.toNat_inj]; show b.toNat = 40; omega
        have n2 : ((b.toNat : Int) == 41) = false := by
          rw [beq_eq_false_iff_ne]; intro e; apply h2; rw [← UInt8.toNat_inj]; show b.toNat = 41; omega
        have n3 : ((b.toNat : Int) == 39) = false := by
          rw [beq_eq_false_iff_ne]; intro e; apply h3; rw [← UInt8.toNat_inj]; show b.toNat = 39; omega
        clear e h1 h2 h3
        go_enter Tryd.func86, Tryd.ntmps86
        go_wp2
        go_ret
        exact ⟨rfl, rfl⟩

/-- The end of a line, from a place on. -/
def lineEnd (l : List UInt8) : Nat → Nat → Nat
  | 0, k => k
  | f + 1, k => if k < l.length ∧ l.getD k 0 ≠ 10 then lineEnd l f (k + 1) else k
/-- What is passed over from a place on: blanks, line feeds and comments. -/
def skipAt (l : List UInt8) : Nat → Nat → Nat
  | 0, k => k
  | f + 1, k => if k < l.length then (if l.getD k 0 = 59 then skipAt l f (lineEnd l l.length k) else if l.getD k 0 ≠ 32 ∧ l.getD k 0 ≠ 10 then k else skipAt l f (k + 1)) else k
theorem lineEnd_fuel (l : List UInt8) : ∀ (f g k : Nat), l.length - k ≤ f → l.length - k ≤ g → lineEnd l f k = lineEnd l g k
  | 0, 0, _, _, _ => rfl
  | 0, g + 1, k, h, _ => by simp only [lineEnd]; rw [if_neg (by omega)]
  | f + 1, 0, k, _, h => by simp only [lineEnd]; rw [if_neg (by omega)]
  | f + 1, g + 1, k, h1, h2 => by
    simp only [lineEnd]
    by_cases hc : k < l.length ∧ l.getD k 0 ≠ 10
    · rw [if_pos hc, if_pos hc]; exact lineEnd_fuel l f g (k + 1) (by omega) (by omega)
    · rw [if_neg hc, if_neg hc]
theorem lineEnd_ge (l : List UInt8) : ∀ (f k : Nat), k ≤ lineEnd l f k
  | 0, k => Nat.le_refl _
  | f + 1, k => by
    simp only [lineEnd]
    split
    · exact Nat.le_trans (Nat.le_succ k) (lineEnd_ge l f (k + 1))
    · exact Nat.le_refl _
theorem lineEnd_le (l : List UInt8) : ∀ (f k : Nat), k ≤ l.length → lineEnd l f k ≤ l.length
  | 0, k, h => h
  | f + 1, k, h => by
    simp only [lineEnd]
    split
    · exact lineEnd_le l f (k + 1) (by omega)
    · exact h
theorem lineEnd_on (l : List UInt8) (k : Nat) (h : k < l.length) (hc : l.getD k 0 ≠ 10) : lineEnd l l.length k = lineEnd l l.length (k + 1) := by
  rw [lineEnd_fuel l l.length (l.length + 1) k (by omega) (by omega)]
  simp only [lineEnd]
  rw [if_pos ⟨h, hc⟩]
theorem lineEnd_here (l : List UInt8) (k : Nat) (h : ¬ (k < l.length ∧ l.getD k 0 ≠ 10)) : lineEnd l l.length k = k := by
  rw [lineEnd_fuel l l.length (l.length + 1) k (by omega) (by omega)]
  simp only [lineEnd]
  rw [if_neg h]
theorem skip_fuel (l : List UInt8) : ∀ (f g k : Nat), l.length - k ≤ f → l.length - k ≤ g → skipAt l f k = skipAt l g k
  | 0, 0, _, _, _ => rfl
  | 0, g + 1, k, h, _ => by simp only [skipAt]; rw [if_neg (by omega)]
  | f + 1, 0, k, _, h => by simp only [skipAt]; rw [if_neg (by omega)]
  | f + 1, g + 1, k, h1, h2 => by
    simp only [skipAt]
    by_cases hk : k < l.length
    · rw [if_pos hk, if_pos hk]
      by_cases h59 : l.getD k 0 = 59
      · rw [if_pos h59, if_pos h59]
        have e := lineEnd_on l k hk (by rw [h59]; decide)
        have := lineEnd_ge l l.length (k + 1)
        exact skip_fuel l f g _ (by omega) (by omega)
      · rw [if_neg h59, if_neg h59]
        by_cases hb : l.getD k 0 ≠ 32 ∧ l.getD k 0 ≠ 10
        · rw [if_pos hb, if_pos hb]
        · rw [if_neg hb, if_neg hb]; exact skip_fuel l f g (k + 1) (by omega) (by omega)
    · rw [if_neg hk, if_neg hk]
def skip (l : List UInt8) (k : Nat) : Nat := skipAt l l.length k
theorem skip_end (l : List UInt8) (k : Nat) (h : ¬ k < l.length) : skip l k = k := by
  unfold skip
  rw [skip_fuel l l.length (l.length + 1) k (by omega) (by omega)]
  simp only [skipAt]; rw [if_neg h]
theorem skip_note (l : List UInt8) (k : Nat) (h : k < l.length) (h59 : l.getD k 0 = 59) : skip l k = skip l (lineEnd l l.length k) := by
  unfold skip
  have e := lineEnd_on l k h (by rw [h59]; decide)
  have := lineEnd_ge l l.length (k + 1)
  rw [skip_fuel l l.length (l.length + 1) k (by omega) (by omega)]
  simp only [skipAt]; rw [if_pos h, if_pos h59]
theorem skip_word (l : List UInt8) (k : Nat) (h : k < l.length) (h59 : l.getD k 0 ≠ 59) (hb : l.getD k 0 ≠ 32 ∧ l.getD k 0 ≠ 10) : skip l k = k := by
  unfold skip
  rw [skip_fuel l l.length (l.length + 1) k (by omega) (by omega)]
  simp only [skipAt]; rw [if_pos h, if_neg h59, if_pos hb]
theorem skip_on (l : List UInt8) (k : Nat) (h : k < l.length) (h59 : l.getD k 0 ≠ 59) (hb : ¬ (l.getD k 0 ≠ 32 ∧ l.getD k 0 ≠ 10)) : skip l k = skip l (k + 1) := by
  unfold skip
  rw [skip_fuel l l.length (l.length + 1) k (by omega) (by omega)]
  simp only [skipAt]; rw [if_pos h, if_neg h59, if_neg hb]
theorem getD_byte (s : ByteArray) (k : Nat) (h : k < s.size) : s.data.toList.getD k 0 = s[k]'h := by
  have hk : k < s.data.toList.length := by rw [Array.length_toList]; exact h
  rw [List.getD_eq_getElem?_getD, List.getElem?_eq_getElem hk]; rfl
theorem byte_ne (b : UInt8) (n : Nat) (hn : n < 256) (h : ((b.toNat : Int) == (n : Int)) = false) : b ≠ UInt8.ofNat n := by
  rw [beq_eq_false_iff_ne] at h
  intro e; apply h; rw [e]; simp [UInt8.toNat_ofNat']; omega
theorem byte_is (b : UInt8) (n : Nat) (hn : n < 256) (h : ((b.toNat : Int) == (n : Int)) = true) : b = UInt8.ofNat n := by
  have := eq_of_beq h
  rw [← UInt8.toNat_inj]; simp [UInt8.toNat_ofNat']; omega
end Go.Proofs.YtoljpgpkeploiaaDoor
