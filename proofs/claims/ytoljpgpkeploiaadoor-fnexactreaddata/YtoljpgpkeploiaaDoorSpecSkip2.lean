/-
  The model's l2Skip, walked: it answers the place that 'skip' tells, whatever the world; nothing is turned.
-/
import Derived.Test.YtoljpgpkeploiaaDoorSpecSkip
namespace Go.Proofs.YtoljpgpkeploiaaDoor
open Go.RowKit Go.Extern.Stop Go.Stop Go.Extern Num

theorem len_bytes (s : ByteArray) : s.data.toList.length = s.size := by rw [Array.length_toList]; rfl
theorem skip_less (s : ByteArray) (k j : Nat) (h2 : j ≤ s.size) (hx : j = lineEnd s.data.toList s.data.toList.length k) (hl : lineEnd s.data.toList s.data.toList.length k = lineEnd s.data.toList s.data.toList.length (k + 1)) :
    s.size - (intOf (.int .i64 (j : Int))).toNat < s.size - (intOf (.int .i64 (k : Int))).toNat := by
  have h := lineEnd_ge s.data.toList s.data.toList.length (k + 1)
  rw [← hl, ← hx] at h
  simp [intOf]; omega
set_option maxHeartbeats 1000000 in
theorem skip_any (s : ByteArray) (a : Nat) (w : World) (hs : s.size ≤ 1000000000) (ha : a ≤ s.size) :
    Calls Tryd.prog 85 #[.string s, .int .i64 a] w fun e w' => e = .returned (.int .i64 (skip s.data.toList a)) ∧ w' = w := by
  go_enter Tryd.func85, Tryd.ntmps85
  go_wp2
  go_loop [1] (fun i => ∃ k : Nat, k ≤ s.size ∧ i = .int .i64 k ∧ skip s.data.toList k = skip s.data.toList a) (fun i => s.size - (intOf i).toNat)
  case atStart => exact ⟨a, ha, rfl, rfl⟩
  case round =>
    obtain ⟨k, hk, rfl, he⟩ := hrel
    have HE : Hid (skip s.data.toList k = skip s.data.toList a) := he
    clear he
    by_cases hlt : k < s.size
    · have HG : Hid (s.data.toList.getD k 0 = s[k]'hlt) := getD_byte s k hlt
      have HK : Hid (k < s.data.toList.length) := by show k < s.data.toList.length; rw [len_bytes]; exact hlt
      cases c59 : (((s[k]'hlt).toNat : Int) == 59)
      · have h59 : Hid (s.data.toList.getD k 0 ≠ 59) := by show s.data.toList.getD k 0 ≠ 59; rw [HG.out]; exact byte_ne _ 59 (by omega) c59
        cases c32 : (((s[k]'hlt).toNat : Int) != 32)
        · have HN : Hid (skip s.data.toList (k + 1) = skip s.data.toList a) := by
            have : skip s.data.toList k = skip s.data.toList (k + 1) := skip_on _ k HK.out h59.out (by
              rw [HG.out]; intro h; apply h.1; exact byte_is _ 32 (by omega) (by simpa [bne] using c32))
            exact this.symm.trans HE.out
          go_wp2
          exact ⟨⟨k + 1, by omega, by go_num, HN.out⟩, by simp [intOf]; omega⟩
        · cases c10 : (((s[k]'hlt).toNat : Int) != 10)
          · have HN : Hid (skip s.data.toList (k + 1) = skip s.data.toList a) := by
              have : skip s.data.toList k = skip s.data.toList (k + 1) := skip_on _ k HK.out h59.out (by
                rw [HG.out]; intro h; apply h.2; exact byte_is _ 10 (by omega) (by simpa [bne] using c10))
              exact this.symm.trans HE.out
            go_wp2
            exact ⟨⟨k + 1, by omega, by go_num, HN.out⟩, by simp [intOf]; omega⟩
          · have HN : Hid (skip s.data.toList a = k) := by
              have : skip s.data.toList k = k := skip_word _ k HK.out h59.out (by
                rw [HG.out]; exact ⟨byte_ne _ 32 (by omega) (by simpa [bne] using c32), byte_ne _ 10 (by omega) (by simpa [bne] using c10)⟩)
              exact HE.out.symm.trans this
            go_wp2
            go_ret
            exact ⟨by rw [HN.out]; rfl, rfl⟩
      · have h59 : Hid (s.data.toList.getD k 0 = 59) := by show s.data.toList.getD k 0 = 59; rw [HG.out]; exact byte_is _ 59 (by omega) c59
        have HL : Hid (lineEnd s.data.toList s.data.toList.length k = lineEnd s.data.toList s.data.toList.length (k + 1)) := lineEnd_on _ k HK.out (by rw [h59.out]; decide)
        have HS : Hid (skip s.data.toList (lineEnd s.data.toList s.data.toList.length k) = skip s.data.toList a) := (skip_note _ k HK.out h59.out).symm.trans HE.out
        go_wp2
        go_loop [1] (fun i => ∃ j : Nat, k ≤ j ∧ j ≤ s.size ∧ i = .int .i64 j ∧ lineEnd s.data.toList s.data.toList.length j = lineEnd s.data.toList s.data.toList.length k) (fun i => s.size - (intOf i).toNat)
        case atStart => exact ⟨k, by omega, by omega, rfl, rfl⟩
        case round =>
          obtain ⟨j, hj1, hj2, rfl, he⟩ := hrel
          have HJ : Hid (lineEnd s.data.toList s.data.toList.length j = lineEnd s.data.toList s.data.toList.length k) := he
          clear he
          by_cases hjl : j < s.size
          · cases d10 : (((s[j]'hjl).toNat : Int) != 10)
            · have HX : Hid (j = lineEnd s.data.toList s.data.toList.length k) := by
                have : lineEnd s.data.toList s.data.toList.length j = j := lineEnd_here _ j (by
                  rw [getD_byte s j hjl]; intro h; apply h.2; exact byte_is _ 10 (by omega) (by simpa [bne] using d10))
                exact this.symm.trans HJ.out
              go_wp2
              exact ⟨⟨j, hj2, rfl, by rw [HX.out]; exact HS.out⟩, skip_less s k j hj2 HX.out HL.out⟩
            · have HX : Hid (lineEnd s.data.toList s.data.toList.length (j + 1) = lineEnd s.data.toList s.data.toList.length k) := by
                have : lineEnd s.data.toList s.data.toList.length j = lineEnd s.data.toList s.data.toList.length (j + 1) := lineEnd_on _ j (by rw [len_bytes]; exact hjl) (by
                  rw [getD_byte s j hjl]; exact byte_ne _ 10 (by omega) (by simpa [bne] using d10))
                exact this.symm.trans HJ.out
              go_wp2
              exact ⟨⟨j + 1, by omega, by omega, by go_num, HX.out⟩, by simp [intOf]; omega⟩
          · have HX : Hid (j = lineEnd s.data.toList s.data.toList.length k) := by
              have : lineEnd s.data.toList s.data.toList.length j = j := lineEnd_here _ j (by rw [len_bytes]; intro h; exact hjl h.1)
              exact this.symm.trans HJ.out
            go_wp2
            exact ⟨⟨j, hj2, rfl, by rw [HX.out]; exact HS.out⟩, skip_less s k j hj2 HX.out HL.out⟩
    · have HN : Hid (skip s.data.toList a = k) := HE.out.symm.trans (skip_end _ k (by rw [len_bytes]; exact hlt))
      go_wp2
      go_ret
      exact ⟨by rw [HN.out]; rfl, rfl⟩
end Go.Proofs.YtoljpgpkeploiaaDoor
