/-
  Parts of the proof laid into one text, one behind the other; each says at its head what is proved in it.
-/
import Derived.Test.YtfdkklhigliciaaGreatDoorXaC
import Derived.Test.YtfdkklhigliciaaGreatDoorXaB
/-
  The model's l2Mark, l2Skip and l2End answer what the plain functions tell, whatever the world; nothing is turned.
-/
namespace Go.Proofs.YtfdkklhigliciaaGreatDoor
open Go.RowKit Go.Extern.Stop Go.Stop Go.Extern Num

/-- The kind of a byte that is a token by itself. -/
def markB (b : UInt8) : Int := if b = 40 then 1 else if b = 41 then 2 else if b = 39 then 3 else 0
theorem mark_any (b : UInt8) (w : World) :
    Calls Tryz.prog 144 #[.int .u8 b.toNat] w fun e w' => e = .returned (.int .i64 (markB b)) ∧ w' = w := by
  by_cases h1 : b = 40
  · subst h1
    go_enter Tryz.func144, Tryz.ntmps144
    go_wp2
    go_ret
    exact ⟨rfl, rfl⟩
  · by_cases h2 : b = 41
    · subst h2
      go_enter Tryz.func144, Tryz.ntmps144
      go_wp2
      go_ret
      exact ⟨rfl, rfl⟩
    · by_cases h3 : b = 39
      · subst h3
        go_enter Tryz.func144, Tryz.ntmps144
        go_wp2
        go_ret
        exact ⟨rfl, rfl⟩
      · have e : markB b = 0 := by simp [markB, h1, h2, h3]
        rw [e]
        have n1 : ((b.toNat : Int) == 40) = false := by
          rw [beq_eq_false_iff_ne]; intro e; apply h1; rw [← UInt8.toNat_inj]; show b.toNat = 40; omega
        have n2 : ((b.toNat : Int) == 41) = false := by
          rw [beq_eq_false_iff_ne]; intro e; apply h2; rw [← UInt8.toNat_inj]; show b.toNat = 41; omega
        have n3 : ((b.toNat : Int) == 39) = false := by
          rw [beq_eq_false_iff_ne]; intro e; apply h3; rw [← UInt8.toNat_inj]; show b.toNat = 39; omega
        clear e h1 h2 h3
        go_enter Tryz.func144, Tryz.ntmps144
        go_wp2
        go_ret
        exact ⟨rfl, rfl⟩

/-- The end of a line, from a place on. -/
def lineEnd (l : List UInt8) : Nat → Nat → Nat
  | 0, k => k
  | f + 1, k => if k < l.length ∧ l.getD k 0 ≠ 10 then lineEnd l f (k + 1) else k
/-- What is passed over from a place on: blanks, line feeds and comments. -/
def skipAt (l : List UInt8) : Nat → Nat → Nat
  | 0, k => k
  | f + 1, k => if k < l.length then (if l.getD k 0 = 59 then skipAt l f (lineEnd l l.length k) else if l.getD k 0 ≠ 32 ∧ l.getD k 0 ≠ 10 then k else skipAt l f (k + 1)) else k
theorem lineEnd_fuel (l : List UInt8) : ∀ (f g k : Nat), l.length - k ≤ f → l.length - k ≤ g → lineEnd l f k = lineEnd l g k
  | 0, 0, _, _, _ => rfl
  | 0, g + 1, k, h, _ => by simp only [lineEnd]; rw [if_neg (by omega)]
  | f + 1, 0, k, _, h => by simp only [lineEnd]; rw [if_neg (by omega)]
  | f + 1, g + 1, k, h1, h2 => by
    simp only [lineEnd]
    by_cases hc : k < l.length ∧ l.getD k 0 ≠ 10
    · rw [if_pos hc, if_pos hc]; exact lineEnd_fuel l f g (k + 1) (by omega) (by omega)
    · rw [if_neg hc, if_neg hc]
theorem lineEnd_ge (l : List UInt8) : ∀ (f k : Nat), k ≤ lineEnd l f k
  | 0, k => Nat.le_refl _
  | f + 1, k => by
    simp only [lineEnd]
    split
    · exact Nat.le_trans (Nat.le_succ k) (lineEnd_ge l f (k + 1))
    · exact Nat.le_refl _
theorem lineEnd_le (l : List UInt8) : ∀ (f k : Nat), k ≤ l.length → lineEnd l f k ≤ l.length
  | 0, k, h => h
  | f + 1, k, h => by
    simp only [lineEnd]
    split
    · exact lineEnd_le l f (k + 1) (by omega)
    · exact h
theorem lineEnd_on (l : List UInt8) (k : Nat) (h : k < l.length) (hc : l.getD k 0 ≠ 10) : lineEnd l l.length k = lineEnd l l.length (k + 1) := by
  rw [lineEnd_fuel l l.length (l.length + 1) k (by omega) (by omega)]
  simp only [lineEnd]
  rw [if_pos ⟨h, hc⟩]
theorem lineEnd_here (l : List UInt8) (k : Nat) (h : ¬ (k < l.length ∧ l.getD k 0 ≠ 10)) : lineEnd l l.length k = k := by
  rw [lineEnd_fuel l l.length (l.length + 1) k (by omega) (by omega)]
  simp only [lineEnd]
  rw [if_neg h]
theorem skip_fuel (l : List UInt8) : ∀ (f g k : Nat), l.length - k ≤ f → l.length - k ≤ g → skipAt l f k = skipAt l g k
  | 0, 0, _, _, _ => rfl
  | 0, g + 1, k, h, _ => by simp only [skipAt]; rw [if_neg (by omega)]
  | f + 1, 0, k, _, h => by simp only [skipAt]; rw [if_neg (by omega)]
  | f + 1, g + 1, k, h1, h2 => by
    simp only [skipAt]
    by_cases hk : k < l.length
    · rw [if_pos hk, if_pos hk]
      by_cases h59 : l.getD k 0 = 59
      · rw [if_pos h59, if_pos h59]
        have e := lineEnd_on l k hk (by rw [h59]; decide)
        have := lineEnd_ge l l.length (k + 1)
        exact skip_fuel l f g _ (by omega) (by omega)
      · rw [if_neg h59, if_neg h59]
        by_cases hb : l.getD k 0 ≠ 32 ∧ l.getD k 0 ≠ 10
        · rw [if_pos hb, if_pos hb]
        · rw [if_neg hb, if_neg hb]; exact skip_fuel l f g (k + 1) (by omega) (by omega)
    · rw [if_neg hk, if_neg hk]
def skip (l : List UInt8) (k : Nat) : Nat := skipAt l l.length k
theorem skip_end (l : List UInt8) (k : Nat) (h : ¬ k < l.length) : skip l k = k := by
  unfold skip
  rw [skip_fuel l l.length (l.length + 1) k (by omega) (by omega)]
  simp only [skipAt]; rw [if_neg h]
theorem skip_note (l : List UInt8) (k : Nat) (h : k < l.length) (h59 : l.getD k 0 = 59) : skip l k = skip l (lineEnd l l.length k) := by
  unfold skip
  have e := lineEnd_on l k h (by rw [h59]; decide)
  have := lineEnd_ge l l.length (k + 1)
  rw [skip_fuel l l.length (l.length + 1) k (by omega) (by omega)]
  simp only [skipAt]; rw [if_pos h, if_pos h59]
theorem skip_word (l : List UInt8) (k : Nat) (h : k < l.length) (h59 : l.getD k 0 ≠ 59) (hb : l.getD k 0 ≠ 32 ∧ l.getD k 0 ≠ 10) : skip l k = k := by
  unfold skip
  rw [skip_fuel l l.length (l.length + 1) k (by omega) (by omega)]
  simp only [skipAt]; rw [if_pos h, if_neg h59, if_pos hb]
theorem skip_on (l : List UInt8) (k : Nat) (h : k < l.length) (h59 : l.getD k 0 ≠ 59) (hb : ¬ (l.getD k 0 ≠ 32 ∧ l.getD k 0 ≠ 10)) : skip l k = skip l (k + 1) := by
  unfold skip
  rw [skip_fuel l l.length (l.length + 1) k (by omega) (by omega)]
  simp only [skipAt]; rw [if_pos h, if_neg h59, if_neg hb]
theorem getD_byte (s : ByteArray) (k : Nat) (h : k < s.size) : s.data.toList.getD k 0 = s[k]'h := by
  have hk : k < s.data.toList.length := by rw [Array.length_toList]; exact h
  rw [List.getD_eq_getElem?_getD, List.getElem?_eq_getElem hk]; rfl
theorem byte_ne (b : UInt8) (n : Nat) (hn : n < 256) (h : ((b.toNat : Int) == (n : Int)) = false) : b ≠ UInt8.ofNat n := by
  rw [beq_eq_false_iff_ne] at h
  intro e; apply h; rw [e]; simp [UInt8.toNat_ofNat']; omega
theorem byte_is (b : UInt8) (n : Nat) (hn : n < 256) (h : ((b.toNat : Int) == (n : Int)) = true) : b = UInt8.ofNat n := by
  have := eq_of_beq h
  rw [← UInt8.toNat_inj]; simp [UInt8.toNat_ofNat']; omega
end Go.Proofs.YtfdkklhigliciaaGreatDoor
/-
  The model's l2Skip, walked: it answers the place that 'skip' tells, whatever the world; nothing is turned.
-/
namespace Go.Proofs.YtfdkklhigliciaaGreatDoor
open Go.RowKit Go.Extern.Stop Go.Stop Go.Extern Num

theorem len_bytes (s : ByteArray) : s.data.toList.length = s.size := by rw [Array.length_toList]; rfl
theorem skip_less (s : ByteArray) (k j : Nat) (h2 : j ≤ s.size) (hx : j = lineEnd s.data.toList s.data.toList.length k) (hl : lineEnd s.data.toList s.data.toList.length k = lineEnd s.data.toList s.data.toList.length (k + 1)) :
    s.size - (intOf (.int .i64 (j : Int))).toNat < s.size - (intOf (.int .i64 (k : Int))).toNat := by
  have h := lineEnd_ge s.data.toList s.data.toList.length (k + 1)
  rw [← hl, ← hx] at h
  simp [intOf]; omega
set_option maxHeartbeats 1000000 in
theorem skip_any (s : ByteArray) (a : Nat) (w : World) (hs : s.size ≤ 1000000000) (ha : a ≤ s.size) :
    Calls Tryz.prog 143 #[.string s, .int .i64 a] w fun e w' => e = .returned (.int .i64 (skip s.data.toList a)) ∧ w' = w := by
  go_enter Tryz.func143, Tryz.ntmps143
  go_wp2
  go_loop [1] (fun i => ∃ k : Nat, k ≤ s.size ∧ i = .int .i64 k ∧ skip s.data.toList k = skip s.data.toList a) (fun i => s.size - (intOf i).toNat)
  case atStart => exact ⟨a, ha, rfl, rfl⟩
  case round =>
    obtain ⟨k, hk, rfl, he⟩ := hrel
    have HE : Hid (skip s.data.toList k = skip s.data.toList a) := he
    clear he
    by_cases hlt : k < s.size
    · have HG : Hid (s.data.toList.getD k 0 = s[k]'hlt) := getD_byte s k hlt
      have HK : Hid (k < s.data.toList.length) := by show k < s.data.toList.length; rw [len_bytes]; exact hlt
      cases c59 : (((s[k]'hlt).toNat : Int) == 59)
      · have h59 : Hid (s.data.toList.getD k 0 ≠ 59) := by show s.data.toList.getD k 0 ≠ 59; rw [HG.out]; exact byte_ne _ 59 (by omega) c59
        cases c32 : (((s[k]'hlt).toNat : Int) != 32)
        · have HN : Hid (skip s.data.toList (k + 1) = skip s.data.toList a) := by
            have : skip s.data.toList k = skip s.data.toList (k + 1) := skip_on _ k HK.out h59.out (by
              rw [HG.out]; intro h; apply h.1; exact byte_is _ 32 (by omega) (by simpa [bne] using c32))
            exact this.symm.trans HE.out
          go_wp2
          exact ⟨⟨k + 1, by omega, by go_num, HN.out⟩, by simp [intOf]; omega⟩
        · cases c10 : (((s[k]'hlt).toNat : Int) != 10)
          · have HN : Hid (skip s.data.toList (k + 1) = skip s.data.toList a) := by
              have : skip s.data.toList k = skip s.data.toList (k + 1) := skip_on _ k HK.out h59.out (by
                rw [HG.out]; intro h; apply h.2; exact byte_is _ 10 (by omega) (by simpa [bne] using c10))
              exact this.symm.trans HE.out
            go_wp2
            exact ⟨⟨k + 1, by omega, by go_num, HN.out⟩, by simp [intOf]; omega⟩
          · have HN : Hid (skip s.data.toList a = k) := by
              have : skip s.data.toList k = k := skip_word _ k HK.out h59.out (by
                rw [HG.out]; exact ⟨byte_ne _ 32 (by omega) (by simpa [bne] using c32), byte_ne _ 10 (by omega) (by simpa [bne] using c10)⟩)
              exact HE.out.symm.trans this
            go_wp2
            go_ret
            exact ⟨by rw [HN.out]; rfl, rfl⟩
      · have h59 : Hid (s.data.toList.getD k 0 = 59) := by show s.data.toList.getD k 0 = 59; rw [HG.out]; exact byte_is _ 59 (by omega) c59
        have HL : Hid (lineEnd s.data.toList s.data.toList.length k = lineEnd s.data.toList s.data.toList.length (k + 1)) := lineEnd_on _ k HK.out (by rw [h59.out]; decide)
        have HS : Hid (skip s.data.toList (lineEnd s.data.toList s.data.toList.length k) = skip s.data.toList a) := (skip_note _ k HK.out h59.out).symm.trans HE.out
        go_wp2
        go_loop [1] (fun i => ∃ j : Nat, k ≤ j ∧ j ≤ s.size ∧ i = .int .i64 j ∧ lineEnd s.data.toList s.data.toList.length j = lineEnd s.data.toList s.data.toList.length k) (fun i => s.size - (intOf i).toNat)
        case atStart => exact ⟨k, by omega, by omega, rfl, rfl⟩
        case round =>
          obtain ⟨j, hj1, hj2, rfl, he⟩ := hrel
          have HJ : Hid (lineEnd s.data.toList s.data.toList.length j = lineEnd s.data.toList s.data.toList.length k) := he
          clear he
          by_cases hjl : j < s.size
          · cases d10 : (((s[j]'hjl).toNat : Int) != 10)
            · have HX : Hid (j = lineEnd s.data.toList s.data.toList.length k) := by
                have : lineEnd s.data.toList s.data.toList.length j = j := lineEnd_here _ j (by
                  rw [getD_byte s j hjl]; intro h; apply h.2; exact byte_is _ 10 (by omega) (by simpa [bne] using d10))
                exact this.symm.trans HJ.out
              go_wp2
              exact ⟨⟨j, hj2, rfl, by rw [HX.out]; exact HS.out⟩, skip_less s k j hj2 HX.out HL.out⟩
            · have HX : Hid (lineEnd s.data.toList s.data.toList.length (j + 1) = lineEnd s.data.toList s.data.toList.length k) := by
                have : lineEnd s.data.toList s.data.toList.length j = lineEnd s.data.toList s.data.toList.length (j + 1) := lineEnd_on _ j (by rw [len_bytes]; exact hjl) (by
                  rw [getD_byte s j hjl]; exact byte_ne _ 10 (by omega) (by simpa [bne] using d10))
                exact this.symm.trans HJ.out
              go_wp2
              exact ⟨⟨j + 1, by omega, by omega, by go_num, HX.out⟩, by simp [intOf]; omega⟩
          · have HX : Hid (j = lineEnd s.data.toList s.data.toList.length k) := by
              have : lineEnd s.data.toList s.data.toList.length j = j := lineEnd_here _ j (by rw [len_bytes]; intro h; exact hjl h.1)
              exact this.symm.trans HJ.out
            go_wp2
            exact ⟨⟨j, hj2, rfl, by rw [HX.out]; exact HS.out⟩, skip_less s k j hj2 HX.out HL.out⟩
    · have HN : Hid (skip s.data.toList a = k) := HE.out.symm.trans (skip_end _ k (by rw [len_bytes]; exact hlt))
      go_wp2
      go_ret
      exact ⟨by rw [HN.out]; rfl, rfl⟩
end Go.Proofs.YtfdkklhigliciaaGreatDoor
/-
  The model's l2End, walked: it answers the place at which a word ends, whatever the world; nothing is turned.
-/
namespace Go.Proofs.YtfdkklhigliciaaGreatDoor
open Go.RowKit Go.Extern.Stop Go.Stop Go.Extern Num

/-- A byte that goes on with a word. -/
def onB (b : UInt8) : Bool := b != 32 && (b != 10 && (b != 59 && (markB b == 0)))
def endAt (l : List UInt8) : Nat → Nat → Nat
  | 0, k => k
  | f + 1, k => if k < l.length ∧ onB (l.getD k 0) = true then endAt l f (k + 1) else k
theorem end_fuel (l : List UInt8) : ∀ (f g k : Nat), l.length - k ≤ f → l.length - k ≤ g → endAt l f k = endAt l g k
  | 0, 0, _, _, _ => rfl
  | 0, g + 1, k, h, _ => by simp only [endAt]; rw [if_neg (by omega)]
  | f + 1, 0, k, _, h => by simp only [endAt]; rw [if_neg (by omega)]
  | f + 1, g + 1, k, h1, h2 => by
    simp only [endAt]
    by_cases hc : k < l.length ∧ onB (l.getD k 0) = true
    · rw [if_pos hc, if_pos hc]; exact end_fuel l f g (k + 1) (by omega) (by omega)
    · rw [if_neg hc, if_neg hc]
def wordEnd (l : List UInt8) (k : Nat) : Nat := endAt l l.length k
theorem wordEnd_on (l : List UInt8) (k : Nat) (h : k < l.length) (hc : onB (l.getD k 0) = true) : wordEnd l k = wordEnd l (k + 1) := by
  unfold wordEnd
  rw [end_fuel l l.length (l.length + 1) k (by omega) (by omega)]
  simp only [endAt]; rw [if_pos ⟨h, hc⟩]
theorem wordEnd_here (l : List UInt8) (k : Nat) (h : ¬ (k < l.length ∧ onB (l.getD k 0) = true)) : wordEnd l k = k := by
  unfold wordEnd
  rw [end_fuel l l.length (l.length + 1) k (by omega) (by omega)]
  simp only [endAt]; rw [if_neg h]
theorem onB_is (b : UInt8) : onB b = (((b.toNat : Int) != 32) && (((b.toNat : Int) != 10) && (((b.toNat : Int) != 59) && (markB b == 0)))) := by
  have e : ∀ n : Nat, n < 256 → (b != UInt8.ofNat n) = ((b.toNat : Int) != (n : Int)) := fun n hn => by
    rw [Bool.eq_iff_iff]
    simp only [bne_iff_ne]
    constructor
    · intro h e; apply h; rw [← UInt8.toNat_inj]; simp [UInt8.toNat_ofNat']; omega
    · intro h e; apply h; rw [e]; simp [UInt8.toNat_ofNat']; omega
  have e1 := e 32 (by omega); have e2 := e 10 (by omega); have e3 := e 59 (by omega)
  unfold onB
  rw [show (b != 32) = ((b.toNat : Int) != 32) from e1, show (b != 10) = ((b.toNat : Int) != 10) from e2, show (b != 59) = ((b.toNat : Int) != 59) from e3]

set_option maxHeartbeats 1000000 in
theorem end_any (s : ByteArray) (a : Nat) (w : World) (hs : s.size ≤ 1000000000) (ha : a ≤ s.size) :
    Calls Tryz.prog 145 #[.string s, .int .i64 a] w fun e w' => e = .returned (.int .i64 (wordEnd s.data.toList a)) ∧ w' = w := by
  go_enter Tryz.func145, Tryz.ntmps145
  go_wp2_with fail
  go_loop [1] (fun i => ∃ k : Nat, k ≤ s.size ∧ i = .int .i64 k ∧ wordEnd s.data.toList k = wordEnd s.data.toList a) (fun i => s.size - (intOf i).toNat)
  case atStart => exact ⟨a, ha, rfl, rfl⟩
  case round =>
    obtain ⟨k, hk, rfl, he⟩ := hrel
    have HE : Hid (wordEnd s.data.toList k = wordEnd s.data.toList a) := he
    clear he
    by_cases hlt : k < s.size
    · have HG : Hid (s.data.toList.getD k 0 = s[k]'hlt) := getD_byte s k hlt
      have HO : Hid (onB (s[k]'hlt) = (((((s[k]'hlt).toNat : Int)) != 32) && (((((s[k]'hlt).toNat : Int)) != 10) && (((((s[k]'hlt).toNat : Int)) != 59) && (markB (s[k]'hlt) == 0))))) := onB_is _
      have HK : Hid (k < s.data.toList.length) := by show k < s.data.toList.length; rw [len_bytes]; exact hlt
      have stop : Hid (onB (s[k]'hlt) = false → wordEnd s.data.toList a = k) := fun h => by
        have : wordEnd s.data.toList k = k := wordEnd_here _ k (by rw [HG.out, h]; simp)
        exact HE.out.symm.trans this
      cases c1 : (((s[k]'hlt).toNat : Int) != 32)
      · have HN : Hid (wordEnd s.data.toList a = k) := stop.out (by rw [HO.out, c1]; rfl)
        go_wp2_with (go_at_call 144; refine (mark_any _ _).mono ?_; rintro e w' ⟨rfl, rfl⟩)
        go_ret
        exact ⟨by rw [HN.out]; rfl, rfl⟩
      · cases c2 : (((s[k]'hlt).toNat : Int) != 10)
        · have HN : Hid (wordEnd s.data.toList a = k) := stop.out (by rw [HO.out, c1, c2]; rfl)
          go_wp2_with (go_at_call 144; refine (mark_any _ _).mono ?_; rintro e w' ⟨rfl, rfl⟩)
          go_ret
          exact ⟨by rw [HN.out]; rfl, rfl⟩
        · cases c3 : (((s[k]'hlt).toNat : Int) != 59)
          · have HN : Hid (wordEnd s.data.toList a = k) := stop.out (by rw [HO.out, c1, c2, c3]; rfl)
            go_wp2_with (go_at_call 144; refine (mark_any _ _).mono ?_; rintro e w' ⟨rfl, rfl⟩)
            go_ret
            exact ⟨by rw [HN.out]; rfl, rfl⟩
          · cases c4 : (markB (s[k]'hlt) == 0)
            · have HN : Hid (wordEnd s.data.toList a = k) := stop.out (by rw [HO.out, c1, c2, c3, c4]; rfl)
              go_wp2_with (go_at_call 144; refine (mark_any _ _).mono ?_; rintro e w' ⟨rfl, rfl⟩)
              go_ret
              exact ⟨by rw [HN.out]; rfl, rfl⟩
            · have HN : Hid (wordEnd s.data.toList (k + 1) = wordEnd s.data.toList a) := by
                have : wordEnd s.data.toList k = wordEnd s.data.toList (k + 1) := wordEnd_on _ k HK.out (by rw [HG.out, HO.out, c1, c2, c3, c4]; rfl)
                exact this.symm.trans HE.out
              go_wp2_with (go_at_call 144; refine (mark_any _ _).mono ?_; rintro e w' ⟨rfl, rfl⟩)
              exact ⟨⟨k + 1, by omega, by go_num, HN.out⟩, by simp [intOf]; omega⟩
    · have HN : Hid (wordEnd s.data.toList a = k) := HE.out.symm.trans (wordEnd_here _ k (by rw [len_bytes]; intro h; exact hlt h.1))
      go_wp2_with (go_at_call 144; refine (mark_any _ _).mono ?_; rintro e w' ⟨rfl, rfl⟩)
      go_ret
      exact ⟨by rw [HN.out]; rfl, rfl⟩
end Go.Proofs.YtfdkklhigliciaaGreatDoor
/-
  Tokens, plainly: what a word is as a token, which tokens a text has; that a text has them in one way alone. No program in it.
-/
namespace Go.Proofs.YtfdkklhigliciaaGreatDoor
open Go.RowKit Go.Extern.Stop Go.Stop Go.Extern Num Go.Lib

structure Tok where
  kind : Int
  num : Int
  name : ByteArray
abbrev Tok.val (t : Tok) : Value := .agg #[.int .i64 t.kind, .int .i64 t.num, .string t.name]
def Tok.cells (t : Tok) : List Value := [.int .i64 t.kind, .int .i64 t.num, .string t.name]
def cellsOf : List Tok → List Value
  | [] => []
  | t :: r => t.cells ++ cellsOf r
theorem cellsOf_append (a b : List Tok) : cellsOf (a ++ b) = cellsOf a ++ cellsOf b := by
  induction a with
  | nil => rfl
  | cons t r ih => simp [cellsOf, ih]
theorem cellsOf_length (l : List Tok) : (cellsOf l).length = l.length * 3 := by
  induction l with
  | nil => rfl
  | cons t r ih => simp [cellsOf, Tok.cells, ih]; omega
theorem cellsOf_one (l : List Tok) : ∀ u ∈ cellsOf l, u.oneCell' = true := by
  induction l with
  | nil => intro u h; cases h
  | cons t r ih =>
    intro u h
    simp only [cellsOf, Tok.cells, List.mem_append, List.mem_cons, List.not_mem_nil, or_false] at h
    rcases h with (rfl | rfl | rfl) | h
    · rfl
    · rfl
    · rfl
    · exact ih u h
theorem cellsOf_at (l : List Tok) (k : Nat) (h : k < l.length) : (cellsOf l)[k * 3]? = some (.int .i64 l[k].kind) ∧ (cellsOf l)[k * 3 + 1]? = some (.int .i64 l[k].num) ∧ (cellsOf l)[k * 3 + 2]? = some (.string l[k].name) := by
  induction l generalizing k with
  | nil => cases h
  | cons t r ih =>
    cases k with
    | zero => exact ⟨rfl, rfl, rfl⟩
    | succ k =>
      have hk : k < r.length := by simpa using h
      have := ih k hk
      have e : ∀ j, (cellsOf (t :: r))[j + 3]? = (cellsOf r)[j]? := fun j => by
        show (t.cells ++ cellsOf r)[j + 3]? = _
        rw [List.getElem?_append_right (by simp [Tok.cells])]
        simp [Tok.cells]
      have e1 : (k + 1) * 3 = k * 3 + 3 := by omega
      rw [e1, show k * 3 + 3 + 1 = k * 3 + 1 + 3 by omega, show k * 3 + 3 + 2 = k * 3 + 2 + 3 by omega, e, e, e]
      simpa using this

/-- The number that a text is the text of. -/
def numOf (l : List UInt8) : Option Int :=
  match atoi l with
  | some v => if inB v && (itoa v == l) then some v else none
  | none => none
theorem numOf_of {l : List UInt8} {v : Int} (h : inB v = true) (e : itoa v = l) : numOf l = some v := by
  unfold numOf
  rw [← e, atoi_itoa]; simp [h]
theorem numOf_some {l : List UInt8} {v : Int} (h : numOf l = some v) : inB v = true ∧ itoa v = l := by
  unfold numOf at h
  cases ha : atoi l with
  | none => rw [ha] at h; cases h
  | some u =>
    rw [ha] at h
    simp only at h
    split at h
    · rename_i hc
      obtain rfl := Option.some.inj h
      simp only [Bool.and_eq_true] at hc
      exact ⟨hc.1, eq_of_beq hc.2⟩
    · cases h
theorem numOf_none {l : List UInt8} (h : numOf l = none) : ∀ v, inB v = true → itoa v ≠ l := by
  intro v hv e
  rw [numOf_of hv e] at h; cases h
theorem itoa_head (v : Int) : ∃ c r, itoa v = c :: r ∧ (c = 45 ∨ (48 ≤ c.toNat ∧ c.toNat ≤ 57)) := by
  unfold itoa
  split
  · exact ⟨45, _, rfl, Or.inl rfl⟩
  · obtain ⟨c, r, e, h1, h2⟩ := decDigits_cons v.toNat
    exact ⟨c, r, e, Or.inr ⟨h1, h2⟩⟩
theorem numOf_head (b : UInt8) (r : List UInt8) (h : b ≠ 45 ∧ ¬ (48 ≤ b.toNat ∧ b.toNat ≤ 57)) : numOf (b :: r) = none := by
  cases e : numOf (b :: r) with
  | none => rfl
  | some v =>
    obtain ⟨_, h2⟩ := numOf_some e
    obtain ⟨c, r', e2, h3⟩ := itoa_head v
    rw [h2] at e2
    obtain ⟨rfl, _⟩ := List.cons.inj e2
    rcases h3 with h3 | h3
    · exact absurd h3 h.1
    · exact absurd h3 h.2

abbrev E0 : ByteArray := ⟨#[]⟩
/-- A word as a token. -/
def wordTok (s : ByteArray) : Option Tok :=
  match numOf s.data.toList with
  | some v => some ⟨4, v, E0⟩
  | none => if s.data.toList = [35, 116] then some ⟨5, 1, E0⟩ else if s.data.toList = [35, 102] then some ⟨5, 0, E0⟩ else if symL s.data.toList = true then some ⟨6, 0, s⟩ else none
theorem wordTok_num {s : ByteArray} {v : Int} (h : numOf s.data.toList = some v) : wordTok s = some ⟨4, v, E0⟩ := by unfold wordTok; rw [h]
theorem wordTok_t {s : ByteArray} (h : s.data.toList = [35, 116]) : wordTok s = some ⟨5, 1, E0⟩ := by
  unfold wordTok
  rw [h, numOf_head 35 [116] (by decide)]; simp
theorem wordTok_f {s : ByteArray} (h : s.data.toList = [35, 102]) : wordTok s = some ⟨5, 0, E0⟩ := by
  unfold wordTok
  rw [h, numOf_head 35 [102] (by decide)]; simp
theorem wordTok_sym {s : ByteArray} (h : numOf s.data.toList = none) (h1 : s.data.toList ≠ [35, 116]) (h2 : s.data.toList ≠ [35, 102]) : wordTok s = if symL s.data.toList = true then some ⟨6, 0, s⟩ else none := by
  unfold wordTok; rw [h]; simp only; rw [if_neg h1, if_neg h2]

/-- Where the token at a place ends; the token there. -/
def endOf (s : ByteArray) (k : Nat) : Nat := if markB (s.data.toList.getD k 0) = 0 then wordEnd s.data.toList k else k + 1
def tokAt (s : ByteArray) (k : Nat) : Option Tok :=
  if markB (s.data.toList.getD k 0) = 0 then wordTok (s.extract k (wordEnd s.data.toList k)) else some ⟨markB (s.data.toList.getD k 0), 0, E0⟩
/-- The tokens of a text, from a place on, behind those that were found: code, place, list; in so many steps. -/
def CutN (s : ByteArray) : Nat → Nat → List Tok → Int → Int → List Tok → Prop
  | 0, _, _, _, _, _ => False
  | n + 1, k, out, c, a, r =>
    (¬ k < s.size ∧ c = 0 ∧ a = 0 ∧ r = out) ∨ (k < s.size ∧ tokAt s k = none ∧ c = 5 ∧ a = (k : Int) ∧ r = []) ∨
    (∃ t, k < s.size ∧ tokAt s k = some t ∧ ((120 ≤ out.length ∧ c = 2 ∧ a = (k : Int) ∧ r = []) ∨ (out.length < 120 ∧ CutN s n (skip s.data.toList (endOf s k)) (out ++ [t]) c a r)))
def Cut (s : ByteArray) (k : Nat) (out : List Tok) (c a : Int) (r : List Tok) : Prop := ∃ n, CutN s n k out c a r
theorem Cut.stop {s : ByteArray} {k : Nat} {out : List Tok} (h : ¬ k < s.size) : Cut s k out 0 0 out := ⟨1, Or.inl ⟨h, rfl, rfl, rfl⟩⟩
theorem Cut.bad {s : ByteArray} {k : Nat} {out : List Tok} (h : k < s.size) (ht : tokAt s k = none) : Cut s k out 5 k [] := ⟨1, Or.inr (Or.inl ⟨h, ht, rfl, rfl, rfl⟩)⟩
theorem Cut.many {s : ByteArray} {k : Nat} {out : List Tok} {t : Tok} (h : k < s.size) (ht : tokAt s k = some t) (hn : 120 ≤ out.length) : Cut s k out 2 k [] := ⟨1, Or.inr (Or.inr ⟨t, h, ht, Or.inl ⟨hn, rfl, rfl, rfl⟩⟩)⟩
theorem Cut.next {s : ByteArray} {k : Nat} {out : List Tok} {t : Tok} {c a : Int} {r : List Tok} (h : k < s.size) (ht : tokAt s k = some t) (hn : out.length < 120) (hc : Cut s (skip s.data.toList (endOf s k)) (out ++ [t]) c a r) : Cut s k out c a r := by
  obtain ⟨n, hc⟩ := hc
  exact ⟨n + 1, Or.inr (Or.inr ⟨t, h, ht, Or.inr ⟨hn, hc⟩⟩)⟩
theorem cutN_one (s : ByteArray) : ∀ (n m k : Nat) (out : List Tok) (c a : Int) (r : List Tok) (c' a' : Int) (r' : List Tok), CutN s n k out c a r → CutN s m k out c' a' r' → c = c' ∧ a = a' ∧ r = r'
  | 0, _, _, _, _, _, _, _, _, _, h, _ => h.elim
  | _ + 1, 0, _, _, _, _, _, _, _, _, _, h => h.elim
  | n + 1, m + 1, k, out, c, a, r, c', a', r', h, h' => by
    rcases h with ⟨h, rfl, rfl, rfl⟩ | ⟨h, ht, rfl, rfl, rfl⟩ | ⟨t, h, ht, ⟨hn, rfl, rfl, rfl⟩ | ⟨hn, hc⟩⟩
    · rcases h' with ⟨_, rfl, rfl, rfl⟩ | ⟨h1, _⟩ | ⟨t', h1, _⟩
      · exact ⟨rfl, rfl, rfl⟩
      · exact absurd h1 h
      · exact absurd h1 h
    · rcases h' with ⟨h1, _⟩ | ⟨_, _, rfl, rfl, rfl⟩ | ⟨t', _, h1, _⟩
      · exact absurd h h1
      · exact ⟨rfl, rfl, rfl⟩
      · rw [ht] at h1; cases h1
    · rcases h' with ⟨h1, _⟩ | ⟨_, h1, _⟩ | ⟨t', _, _, ⟨_, rfl, rfl, rfl⟩ | ⟨h1, _⟩⟩
      · exact absurd h h1
      · rw [ht] at h1; cases h1
      · exact ⟨rfl, rfl, rfl⟩
      · omega
    · rcases h' with ⟨h1, _⟩ | ⟨_, h1, _⟩ | ⟨t', _, h1, ⟨h2, _⟩ | ⟨_, hc'⟩⟩
      · exact absurd h h1
      · rw [ht] at h1; cases h1
      · omega
      · rw [ht] at h1
        obtain rfl := Option.some.inj h1
        exact cutN_one s n m _ _ _ _ _ _ _ _ hc hc'
theorem cut_one {s : ByteArray} {k : Nat} {out : List Tok} {c a : Int} {r : List Tok} (h : Cut s k out c a r) {c' a' : Int} {r' : List Tok} (h' : Cut s k out c' a' r') : c = c' ∧ a = a' ∧ r = r' := by
  obtain ⟨n, h⟩ := h
  obtain ⟨m, h'⟩ := h'
  exact cutN_one s n m k out c a r c' a' r' h h'
theorem cutN_len (s : ByteArray) : ∀ (n k : Nat) (out : List Tok) (c a : Int) (r : List Tok), CutN s n k out c a r → out.length ≤ 120 → r.length ≤ 120
  | 0, _, _, _, _, _, h, _ => h.elim
  | n + 1, k, out, c, a, r, h, ho => by
    rcases h with ⟨_, _, _, rfl⟩ | ⟨_, _, _, _, rfl⟩ | ⟨t, _, _, ⟨_, _, _, rfl⟩ | ⟨hn, hc⟩⟩
    · exact ho
    · exact Nat.zero_le _
    · exact Nat.zero_le _
    · exact cutN_len s n _ _ _ _ _ hc (by simp; omega)
/-- How many tokens there are at most. -/
theorem cut_len {s : ByteArray} {k : Nat} {out : List Tok} {c a : Int} {r : List Tok} (h : Cut s k out c a r) (ho : out.length ≤ 120) : r.length ≤ 120 := by
  obtain ⟨n, h⟩ := h
  exact cutN_len s n k out c a r h ho
theorem skip_ge (l : List UInt8) : ∀ (f k : Nat), k ≤ skipAt l f k
  | 0, k => Nat.le_refl _
  | f + 1, k => by
    simp only [skipAt]
    split
    · split
      · exact Nat.le_trans (lineEnd_ge l l.length k) (skip_ge l f _)
      · split
        · exact Nat.le_refl _
        · exact Nat.le_trans (Nat.le_succ k) (skip_ge l f (k + 1))
    · exact Nat.le_refl _
theorem skip_le (l : List UInt8) : ∀ (f k : Nat), k ≤ l.length → skipAt l f k ≤ l.length
  | 0, k, h => h
  | f + 1, k, h => by
    simp only [skipAt]
    split
    · split
      · exact skip_le l f _ (lineEnd_le l l.length k h)
      · split
        · exact h
        · exact skip_le l f (k + 1) (by omega)
    · exact h
theorem skip_idem (l : List UInt8) : ∀ (f k : Nat), l.length - k ≤ f → skip l (skip l k) = skip l k
  | 0, k, h => by rw [skip_end l k (by omega), skip_end l k (by omega)]
  | f + 1, k, h => by
    by_cases hk : k < l.length
    · by_cases h59 : l.getD k 0 = 59
      · have e := lineEnd_on l k hk (by rw [h59]; decide)
        have := lineEnd_ge l l.length (k + 1)
        rw [skip_note l k hk h59]
        exact skip_idem l f _ (by omega)
      · by_cases hb : l.getD k 0 ≠ 32 ∧ l.getD k 0 ≠ 10
        · rw [skip_word l k hk h59 hb, skip_word l k hk h59 hb]
        · rw [skip_on l k hk h59 hb]; exact skip_idem l f (k + 1) (by omega)
    · rw [skip_end l k hk, skip_end l k hk]
/-- At a place that nothing is passed over from, a word or a mark begins. -/
theorem skip_fix (l : List UInt8) (k : Nat) (hk : k < l.length) (h : skip l k = k) : l.getD k 0 ≠ 59 ∧ l.getD k 0 ≠ 32 ∧ l.getD k 0 ≠ 10 := by
  by_cases h59 : l.getD k 0 = 59
  · have e := lineEnd_on l k hk (by rw [h59]; decide)
    have h1 := lineEnd_ge l l.length (k + 1)
    have h2 := skip_ge l l.length (lineEnd l l.length k)
    rw [skip_note l k hk h59] at h
    unfold skip at h
    omega
  · by_cases hb : l.getD k 0 ≠ 32 ∧ l.getD k 0 ≠ 10
    · exact ⟨h59, hb.1, hb.2⟩
    · rw [skip_on l k hk h59 hb] at h
      have h2 := skip_ge l l.length (k + 1)
      unfold skip at h
      omega
theorem onB_of (b : UInt8) (h : b ≠ 59 ∧ b ≠ 32 ∧ b ≠ 10) (hm : markB b = 0) : onB b = true := by
  unfold onB; simp [h, hm]
theorem end_ge (l : List UInt8) : ∀ (f k : Nat), k ≤ endAt l f k
  | 0, k => Nat.le_refl _
  | f + 1, k => by
    simp only [endAt]
    split
    · exact Nat.le_trans (Nat.le_succ k) (end_ge l f (k + 1))
    · exact Nat.le_refl _
theorem end_le (l : List UInt8) : ∀ (f k : Nat), k ≤ l.length → endAt l f k ≤ l.length
  | 0, k, h => h
  | f + 1, k, h => by
    simp only [endAt]
    split
    · exact end_le l f (k + 1) (by omega)
    · exact h
theorem wordEnd_gt (l : List UInt8) (k : Nat) (hk : k < l.length) (h : skip l k = k) (hm : markB (l.getD k 0) = 0) : k < wordEnd l k := by
  rw [wordEnd_on l k hk (onB_of _ (skip_fix l k hk h) hm)]
  exact end_ge l _ (k + 1)
theorem endOf_gt (s : ByteArray) (k : Nat) (hk : k < s.size) (h : skip s.data.toList k = k) : k < endOf s k := by
  unfold endOf
  split
  · exact wordEnd_gt _ k (by rw [len_bytes]; exact hk) h (by assumption)
  · omega
theorem wordEnd_le (s : ByteArray) (k : Nat) (hk : k ≤ s.size) : wordEnd s.data.toList k ≤ s.size := by
  have := end_le s.data.toList s.data.toList.length k (by rw [len_bytes]; exact hk)
  rw [len_bytes] at this; exact this
theorem endOf_le (s : ByteArray) (k : Nat) (hk : k < s.size) : endOf s k ≤ s.size := by
  unfold endOf
  split
  · exact wordEnd_le s k (by omega)
  · omega
theorem skip_le' (s : ByteArray) (k : Nat) (h : k ≤ s.size) : skip s.data.toList k ≤ s.size := by
  have := skip_le s.data.toList s.data.toList.length k (by rw [len_bytes]; exact h)
  rw [len_bytes] at this; exact this
theorem cut_total (s : ByteArray) : ∀ (n k : Nat) (out : List Tok), s.size - k ≤ n → skip s.data.toList k = k → ∃ c a r, Cut s k out c a r := by
  intro n
  induction n with
  | zero => intro k out h _; exact ⟨_, _, _, .stop (by omega)⟩
  | succ n ih =>
    intro k out h hf
    by_cases hk : k < s.size
    · cases ht : tokAt s k with
      | none => exact ⟨_, _, _, .bad hk ht⟩
      | some t =>
        by_cases h1 : 120 ≤ out.length
        · exact ⟨_, _, _, .many hk ht h1⟩
        · have hg := endOf_gt s k hk hf
          have h2 := skip_ge s.data.toList s.data.toList.length (endOf s k)
          have h3 : endOf s k ≤ skip s.data.toList (endOf s k) := h2
          obtain ⟨c, a, r, hc⟩ := ih (skip s.data.toList (endOf s k)) (out ++ [t]) (by omega) (skip_idem _ _ _ (Nat.le_refl _))
          exact ⟨c, a, r, .next hk ht (by omega) hc⟩
    · exact ⟨_, _, _, .stop hk⟩
theorem ne_list {s : ByteArray} {l : List UInt8} (h : s.data.toList ≠ l) : (s.toList == l) = false := by
  rw [ByteArray.toList_eq]; simpa using h
end Go.Proofs.YtfdkklhigliciaaGreatDoor
/-
  The model's SymFault answers what the plain function tells, whatever the world; nothing is turned.
-/
namespace Go.Proofs.YtfdkklhigliciaaGreatDoor
open Go.RowKit Go.Extern.Stop Go.Stop Go.Extern Num

end Go.Proofs.YtfdkklhigliciaaGreatDoor
/-
  The model's l2Fault and l2Text: what is wrong with a token, and the text of one with which nothing is wrong; nothing that was there is turned.
-/
namespace Go.Proofs.YtfdkklhigliciaaGreatDoor
open Go.RowKit Go.Extern.Stop Go.Stop Go.Extern Num Go.Lib

/-- The cells of a token behind a pointer. -/
structure TokAt (b o : Nat) (t : Tok) (w : World) : Prop where
  c0 : w.cell? ⟨b, o, none⟩ = some (.int .i64 t.kind)
  c1 : w.cell? ⟨b, o + 1, none⟩ = some (.int .i64 t.num)
  c2 : w.cell? ⟨b, o + 2, none⟩ = some (.string t.name)
/-- What is wrong with a token. -/
def tokFault (t : Tok) : Int :=
  if ¬ (1 ≤ t.kind ∧ t.kind ≤ 6) then 1
  else if (t.kind ≠ 4 ∧ t.kind ≠ 5) ∧ t.num ≠ 0 then 1
  else if t.kind ≠ 6 ∧ t.name.data.toList ≠ [] then 1
  else if t.kind = 4 then (if inB t.num = true then 0 else 3)
  else if t.kind = 5 then (if 0 ≤ t.num ∧ t.num ≤ 1 then 0 else 3)
  else if t.kind = 6 then (if symL t.name.data.toList = true then 0 else 5)
  else 0
end Go.Proofs.YtfdkklhigliciaaGreatDoor
/-
  The model's l2Fault, l2Text and TokenText at every token; nothing that was there is turned.
-/
namespace Go.Proofs.YtfdkklhigliciaaGreatDoor
open Go.RowKit Go.Extern.Stop Go.Stop Go.Extern Num Go.Lib

theorem nil_yes {z : ByteArray} (h : z.data.toList = []) : (z.toList == []) = true := by rw [ByteArray.toList_eq, h]; rfl
theorem nil_no {z : ByteArray} (h : z.data.toList ≠ []) : (z.toList == []) = false := ne_list h
/-- The text of a token. -/
def tokText (t : Tok) : ByteArray :=
  if t.kind = 1 then ⟨#[40]⟩ else if t.kind = 2 then ⟨#[41]⟩ else if t.kind = 3 then ⟨#[39]⟩
  else if t.kind = 4 then ⟨(itoa t.num).toArray⟩ else if t.kind = 5 then (if t.num = 0 then ⟨#[35, 102]⟩ else ⟨#[35, 116]⟩) else t.name
theorem fault_zero {t : Tok} (h : tokFault t = 0) : (t.kind = 1 ∨ t.kind = 2 ∨ t.kind = 3 ∨ (t.kind = 4 ∧ inB t.num = true) ∨ (t.kind = 5 ∧ (t.num = 0 ∨ t.num = 1)) ∨ t.kind = 6) := by
  unfold tokFault at h
  split at h
  · cases h
  · rename_i h1
    split at h
    · cases h
    · split at h
      · cases h
      · split at h
        · rename_i h4
          split at h
          · rename_i h5; exact Or.inr (Or.inr (Or.inr (Or.inl ⟨h4, h5⟩)))
          · cases h
        · split at h
          · rename_i h5
            split at h
            · exact Or.inr (Or.inr (Or.inr (Or.inr (Or.inl ⟨h5, by omega⟩))))
            · cases h
          · omega
end Go.Proofs.YtfdkklhigliciaaGreatDoor
