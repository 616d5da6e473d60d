/-
  Settings as texts: the words of a setting's text, and that a text is of one setting at most.
-/
import Derived.Lib.SplitLaws
import Derived.Lib.ItoaMem
namespace Go.Proofs.YtebnonpdaddniaaGreatDoor
open Go.Lib

def wSeg : List UInt8 := [115, 101, 103]
def wTab : List UInt8 := [116, 97, 98, 108, 101]
def wP (p : Bool) : List UInt8 := if p then [112, 101, 101, 112] else [112, 108, 97, 105, 110]
def wC (c : Bool) : List UInt8 := if c then [99, 97, 99, 104, 101] else [108, 111, 111, 107]
/-- The text of a setting. -/
def cfgT (s t : Nat) (p c : Bool) : List UInt8 := wSeg ++ 32 :: (decDigits s ++ 32 :: (wTab ++ 32 :: (decDigits t ++ 32 :: (wP p ++ 32 :: wC c))))
def noB (l : List UInt8) : Prop := ∀ b ∈ l, b ≠ 32
theorem index_word : ∀ {l r : List UInt8}, noB l → index (l ++ 32 :: r) [32] = (l.length : Int)
  | [], r, _ => by simp [index, List.isPrefixOf]
  | b :: l, r, h => by
    have hb : b ≠ 32 := h b (by simp)
    have ih := index_word (l := l) (r := r) (fun x hx => h x (by simp [hx]))
    have hp : ([32] : List UInt8).isPrefixOf (b :: (l ++ 32 :: r)) = false := by simp [List.isPrefixOf, Ne.symm hb]
    rw [List.cons_append, index, hp, ih, if_neg (by simp), if_neg (by simp)]
    simp
theorem index_last : ∀ {l : List UInt8}, noB l → index l [32] = -1
  | [], _ => by simp [index]
  | b :: l, h => by
    have hb : b ≠ 32 := h b (by simp)
    have ih := index_last (l := l) (fun x hx => h x (by simp [hx]))
    have hp : ([32] : List UInt8).isPrefixOf (b :: l) = false := by simp [List.isPrefixOf, Ne.symm hb]
    rw [index, hp, ih]; simp
theorem split_word {l r : List UInt8} (k : Nat) (h : noB l) : splitK [32] 0 (k + 1) (l ++ 32 :: r) = l :: splitK [32] 0 k r := by
  rw [splitK, index_word h, if_neg (by simp)]
  simp
theorem split_last {l : List UInt8} (k : Nat) (h : noB l) : splitK [32] 0 k l = [l] := by
  cases k with
  | zero => rfl
  | succ k => rw [splitK, index_last h]; simp
theorem digit_ne (i : Nat) (h : i < 10) : UInt8.ofNat (48 + i) ≠ 32 := by
  obtain rfl | rfl | rfl | rfl | rfl | rfl | rfl | rfl | rfl | rfl : i = 0 ∨ i = 1 ∨ i = 2 ∨ i = 3 ∨ i = 4 ∨ i = 5 ∨ i = 6 ∨ i = 7 ∨ i = 8 ∨ i = 9 := by omega
  all_goals decide
theorem digit_inj {i j : Nat} (hi : i < 10) (hj : j < 10) (h : UInt8.ofNat (48 + i) = UInt8.ofNat (48 + j)) : i = j := by
  have h2 := congrArg UInt8.toNat h
  simp at h2
  omega
theorem digits_noB (u : Nat) (h : u < 100) : noB (decDigits u) := by
  intro b hb
  by_cases h1 : u < 10
  · rw [decDigits_one h1] at hb
    simp only [List.mem_singleton] at hb
    rw [hb]; exact digit_ne u h1
  · rw [decDigits_two h1 h] at hb
    simp only [List.mem_cons, List.not_mem_nil, or_false] at hb
    rcases hb with hb | hb
    · rw [hb]; exact digit_ne _ (by omega)
    · rw [hb]; exact digit_ne _ (by omega)
theorem digits_inj {u v : Nat} (hu : u < 100) (hv : v < 100) (h : decDigits u = decDigits v) : u = v := by
  by_cases h1 : u < 10 <;> by_cases h2 : v < 10
  · rw [decDigits_one h1, decDigits_one h2] at h
    exact digit_inj h1 h2 (by simpa using h)
  · rw [decDigits_one h1, decDigits_two h2 hv] at h; simp at h
  · rw [decDigits_two h1 hu, decDigits_one h2] at h; simp at h
  · rw [decDigits_two h1 hu, decDigits_two h2 hv] at h
    simp only [List.cons.injEq, and_true] at h
    have a := digit_inj (by omega) (by omega) h.1
    have b := digit_inj (by omega) (by omega) h.2
    omega
theorem noB_P (p : Bool) : noB (wP p) := by cases p <;> simp [noB, wP]
theorem noB_C (p : Bool) : noB (wC p) := by cases p <;> simp [noB, wC]
theorem cfg_split {s t : Nat} (p c : Bool) (hs : s < 100) (ht : t < 100) : splitK [32] 0 6 (cfgT s t p c) = [wSeg, decDigits s, wTab, decDigits t, wP p, wC c] := by
  unfold cfgT
  rw [split_word _ (by simp [noB, wSeg]), split_word _ (digits_noB s hs), split_word _ (by simp [noB, wTab]), split_word _ (digits_noB t ht), split_word _ (noB_P p), split_last _ (noB_C c)]
/-- A text is a setting's. -/
def isCfg (x : List UInt8) (s t : Nat) (p c : Bool) : Prop := 1 ≤ s ∧ s ≤ 64 ∧ t ≤ 15 ∧ cfgT s t p c = x
theorem isCfg_inj {x : List UInt8} {s t s' t' : Nat} {p c p' c' : Bool} (h : isCfg x s t p c) (h' : isCfg x s' t' p' c') : s = s' ∧ t = t' ∧ p = p' ∧ c = c' := by
  obtain ⟨h1, h2, h3, h4⟩ := h
  obtain ⟨g1, g2, g3, g4⟩ := h'
  have e := cfg_split (s := s) (t := t) p c (by omega) (by omega)
  rw [h4, ← g4, cfg_split p' c' (by omega) (by omega)] at e
  simp only [List.cons.injEq, and_true, true_and] at e
  refine ⟨digits_inj (by omega) (by omega) e.1.symm, digits_inj (by omega) (by omega) e.2.1.symm, ?_, ?_⟩
  · have := e.2.2.1; revert this; cases p <;> cases p' <;> simp [wP]
  · have := e.2.2.2; revert this; cases c <;> cases c' <;> simp [wC]
theorem cfg_len (s t : Nat) (p c : Bool) : 17 ≤ (cfgT s t p c).length := by
  unfold cfgT
  cases p <;> cases c <;> simp [wSeg, wTab, wP, wC] <;> omega
end Go.Proofs.YtebnonpdaddniaaGreatDoor
