/-
  The model's l2End, walked: it answers the place at which a word ends, whatever the world; nothing is turned.
-/
import Derived.Test.YtoljpgpkeploiaaDoorSpecSkip2
namespace Go.Proofs.YtoljpgpkeploiaaDoor
open Go.RowKit Go.Extern.Stop Go.Stop Go.Extern Num

/-- A byte that goes on with a word. -/
def onB (b : UInt8) : Bool := b != 32 && (b != 10 && (b != 59 && (markB b == 0)))
def endAt (l : List UInt8) : Nat → Nat → Nat
  | 0, k => k
  | f + 1, k => if k < l.length ∧ onB (l.getD k 0) = true then endAt l f (k + 1) else k
theorem end_fuel (l : List UInt8) : ∀ (f g k : Nat), l.length - k ≤ f → l.length - k ≤ g → endAt l f k = endAt l g k
  | 0, 0, _, _, _ => rfl
  | 0, g + 1, k, h, _ => by simp only [endAt]; rw [if_neg (by omega)]
  | f + 1, 0, k, _, h => by simp only [endAt]; rw [if_neg (by omega)]
  | f + 1, g + 1, k, h1, h2 => by
    simp only [endAt]
    by_cases hc : k < l.length ∧ onB (l.getD k 0) = true
    · rw [if_pos hc, if_pos hc]; exact end_fuel l f g (k + 1) (by omega) (by omega)
    · rw [if_neg hc, if_neg hc]
def wordEnd (l : List UInt8) (k : Nat) : Nat := endAt l l.length k
theorem wordEnd_on (l : List UInt8) (k : Nat) (h : k < l.length) (hc : onB (l.getD k 0) = true) : wordEnd l k = wordEnd l (k + 1) := by
  unfold wordEnd
  rw [end_fuel l l.length (l.length + 1) k (by omega) (by omega)]
  simp only [endAt]; rw [if_pos ⟨h, hc⟩]
theorem wordEnd_here (l : List UInt8) (k : Nat) (h : ¬ (k < l.length ∧ onB (l.getD k 0) = true)) : wordEnd l k = k := by
  unfold wordEnd
  rw [end_fuel l l.length (l.length + 1) k (by omega) (by omega)]
  simp only [endAt]; rw [if_neg h]
theorem onB_is (b : UInt8) : onB b = (((b.toNat : Int) != 32) && (((b.toNat : Int) != 10) && (((b.toNat : Int) != 59) && (markB b == 0)))) := by
  have e : ∀ n : Nat, n < 256 → (b != UInt8.ofNat n) = ((b.toNat : Int) != (n : Int)) := fun n hn => by
    rw [Bool.eq_iff_iff]
    simp only [bne_iff_ne]
    constructor
    · intro h e; apply h; rw [← UInt8.toNat_inj]; simp [UInt8.toNat_ofNat']; omega
    · intro h e; apply h; rw [e]; simp [UInt8.toNat_ofNat']; omega
  have e1 := e 32 (by omega); have e2 := e 10 (by omega); have e3 := e 59 (by omega)
  unfold onB
  rw [show (b != 32) = ((b.toNat : Int) != 32) from e1, show (b != 10) = ((b.toNat : Int) != 10) from e2, show (b != 59) = ((b.toNat : Int) != 59) from e3]

set_option maxHeartbeats 1000000 in
theorem end_any (s : ByteArray) (a : Nat) (w : World) (hs : s.size ≤ 1000000000) (ha : a ≤ s.size) :
    Calls Tryd.prog 87 #[.string s, .int .i64 a] w fun e w' => e = .returned (.int .i64 (wordEnd s.data.toList a)) ∧ w' = w := by
  go_enter Tryd.func87, Tryd.ntmps87
  go_wp2_with fail
  go_loop [1] (fun i => ∃ k : Nat, k ≤ s.size ∧ i = .int .i64 k ∧ wordEnd s.data.toList k = wordEnd s.data.toList a) (fun i => s.size - (intOf i).toNat)
  case atStart => exact ⟨a, ha, rfl, rfl⟩
  case round =>
    obtain ⟨k, hk, rfl, he⟩ := hrel
    have HE : Hid (wordEnd s.data.toList k = wordEnd s.data.toList a) := he
    clear he
    by_cases hlt : k < s.size
    · have HG : Hid (s.data.toList.getD k 0 = s[k]'hlt) := getD_byte s k hlt
      have HO : Hid (onB (s[k]'hlt) = (((((s[k]'hlt).toNat : Int)) != 32) && (((((s[k]'hlt).toNat : Int)) != 10) && (((((s[k]'hlt).toNat : Int)) != 59) && (markB (s[k]'hlt) == 0))))) := onB_is _
      have HK : Hid (k < s.data.toList.length) := by show k < s.data.toList.length; rw [len_bytes]; exact hlt
      have stop : Hid (onB (s[k]'hlt) = false → wordEnd s.data.toList a = k) := fun h => by
        have : wordEnd s.data.toList k = k := wordEnd_here _ k (by rw [HG.out, h]; simp)
        exact HE.out.symm.trans this
      cases c1 : (((s[k]'hlt).toNat : Int) != 32)
      · have HN : Hid (wordEnd s.data.toList a = k) := stop.out (by rw [HO.out, c1]; rfl)
        go_wp2_with (go_at_call 86; refine (mark_any _ _).mono ?_; rintro e w' ⟨rfl, rfl⟩)
        go_ret
        exact ⟨by rw [HN.out]; rfl, rfl⟩
      · cases c2 : (((s[k]'hlt).toNat : Int) != 10)
        · have HN : Hid (wordEnd s.data.toList a = k) := stop.out (by rw [HO.out, c1, c2]; rfl)
          go_wp2_with (go_at_call 86; refine (mark_any _ _).mono ?_; rintro e w' ⟨rfl, rfl⟩)
          go_ret
          exact ⟨by rw [HN.out]; rfl, rfl⟩
        · cases c3 : (((s[k]'hlt).toNat : Int) != 59)
          · have HN : Hid (wordEnd s.data.toList a = k) := stop.out (by rw [HO.out, c1, c2, c3]; rfl)
            go_wp2_with (go_at_call 86; refine (mark_any _ _).mono ?_; rintro e w' ⟨rfl, rfl⟩)
            go_ret
            exact ⟨by rw [HN.out]; rfl, rfl⟩
          · cases c4 : (markB (s[k]'hlt) == 0)
            · have HN : Hid (wordEnd s.data.toList a = k) := stop.out (by rw [HO.out, c1, c2, c3, c4]; rfl)
              go_wp2_with (go_at_call 86; refine (mark_any _ _).mono ?_; rintro e w' ⟨rfl, rfl⟩)
              go_ret
              exact ⟨by rw [HN.out]; rfl, rfl⟩
            · have HN : Hid (wordEnd s.data.toList (k + 1) = wordEnd s.data.toList a) := by
                have : wordEnd s.data.toList k = wordEnd s.data.toList (k + 1) := wordEnd_on _ k HK.out (by rw [HG.out, HO.out, c1, c2, c3, c4]; rfl)
                exact this.symm.trans HE.out
              go_wp2_with (go_at_call 86; refine (mark_any _ _).mono ?_; rintro e w' ⟨rfl, rfl⟩)
              exact ⟨⟨k + 1, by omega, by go_num, HN.out⟩, by simp [intOf]; omega⟩
    · have HN : Hid (wordEnd s.data.toList a = k) := HE.out.symm.trans (wordEnd_here _ k (by rw [len_bytes]; intro h; exact hlt h.1))
      go_wp2_with (go_at_call 86; refine (mark_any _ _).mono ?_; rintro e w' ⟨rfl, rfl⟩)
      go_ret
      exact ⟨by rw [HN.out]; rfl, rfl⟩
end Go.Proofs.YtoljpgpkeploiaaDoor
