/-
  The program's wordOf: what is wrong with a value, and the tag and the rest that tell it; nothing that was there is turned.
-/
import Derived.Test.YtgfienijabkpjaaDoorImplVFa
namespace Go.Proofs.YtgfienijabkpjaaDoor
open Go.RowKit Go.Extern.Stop Go.Stop Go.Extern Num Go.Lib

theorem wd_no (t : Vlu) (c : Int) (h : vfault t = c) (hc : c ≠ 0) : wdOf t = ⟨0, 0⟩ := by
  unfold wdOf; rw [if_neg (by rw [h]; exact hc)]
theorem wordOf_any (t : Vlu) (w : World) (hz : t.name.size ≤ 9223372036854775807) :
    Calls Tryd.prog 54 #[t.val] w fun e w' => e = .returned (.tuple #[(wdOf t).val, .int .i64 (vfault t)]) ∧ Below w.heap.size w w' := by
  obtain ⟨k, n, z⟩ := t
  simp only at hz
  show Calls Tryd.prog 54 #[.agg #[.int .i64 k, .int .i64 n, .string z]] w fun e w' => e = .returned (.tuple #[.agg #[.int .u8 (wdOf ⟨k, n, z⟩).tag, .int .u64 (wdOf ⟨k, n, z⟩).rest], .int .i64 (vfault ⟨k, n, z⟩)]) ∧ Below w.heap.size w w'
  rcases vkinds k with rfl | rfl | rfl | rfl | rfl | rfl | rfl | rfl | rfl | hk
  · cases hm : (z.toList == [])
    · have hm' := (name_not z).1 hm
      have e : vfault ⟨1, n, z⟩ = 1 := by simp [vfault, hm']
      rw [wd_no _ _ e (by decide), e]; exact word_name1 n z w hm
    · have hm' := (name_nil z).1 hm
      by_cases h1 : -1000000000 ≤ n
      · by_cases h2 : n ≤ 1000000000
        · have e : vfault ⟨1, n, z⟩ = 0 := by simp [vfault, hm', inB]; omega
          have e2 : wdOf ⟨1, n, z⟩ = ⟨1, n - (-1000000000)⟩ := by simp [wdOf, e, least]
          rw [e2, e]; exact word_ok1 n z w hm h1 h2
        · have e : vfault ⟨1, n, z⟩ = 3 := by simp [vfault, hm', inB]; omega
          rw [wd_no _ _ e (by decide), e]; exact word_hi1 n z w hm h1 (by omega)
      · have e : vfault ⟨1, n, z⟩ = 3 := by simp [vfault, hm', inB]; omega
        rw [wd_no _ _ e (by decide), e]; exact word_lo1 n z w hm (by omega)
  · cases hm : (z.toList == [])
    · have hm' := (name_not z).1 hm
      have e : vfault ⟨2, n, z⟩ = 1 := by simp [vfault, hm']
      rw [wd_no _ _ e (by decide), e]; exact word_name2 n z w hm
    · have hm' := (name_nil z).1 hm
      by_cases h1 : 0 ≤ n
      · by_cases h2 : n ≤ 1
        · have e : vfault ⟨2, n, z⟩ = 0 := by simp [vfault, hm']; omega
          have e2 : wdOf ⟨2, n, z⟩ = ⟨2, n - (0)⟩ := by simp [wdOf, e, least]
          rw [e2, e]; exact word_ok2 n z w hm h1 h2
        · have e : vfault ⟨2, n, z⟩ = 3 := by simp [vfault, hm']; omega
          rw [wd_no _ _ e (by decide), e]; exact word_hi2 n z w hm h1 (by omega)
      · have e : vfault ⟨2, n, z⟩ = 3 := by simp [vfault, hm']; omega
        rw [wd_no _ _ e (by decide), e]; exact word_lo2 n z w hm (by omega)
  · by_cases h0 : n = 0
    · cases hm : (z.toList == [])
      · have hm' := (name_not z).1 hm
        have e : vfault ⟨3, n, z⟩ = 1 := by simp [vfault, hm']
        rw [wd_no _ _ e (by decide), e]; exact word_name3 n z w h0 hm
      · have hm' := (name_nil z).1 hm
        have e : vfault ⟨3, n, z⟩ = 0 := by simp [vfault, hm', h0]
        have e2 : wdOf ⟨3, n, z⟩ = ⟨3, 0⟩ := by subst h0; simp [wdOf, e, least]
        rw [e2, e]; exact word_ok3 n z w h0 hm
    · have e : vfault ⟨3, n, z⟩ = 1 := by simp [vfault, h0]
      rw [wd_no _ _ e (by decide), e]; exact word_num3 n z w (by simpa using h0)
  · by_cases h0 : n = 0
    · cases hy : symL z.data.toList
      · have e : vfault ⟨4, n, z⟩ = 5 := by simp [vfault, h0, hy]
        rw [wd_no _ _ e (by decide), e]; exact word_no4 n z w hz h0 hy
      · have e : vfault ⟨4, n, z⟩ = 0 := by simp [vfault, h0, hy]
        have e2 : wdOf ⟨4, n, z⟩ = ⟨4, (bitsL z.data.toList : Int)⟩ := by simp [wdOf, e]
        rw [e2, e]; exact word_ok4 n z w hz h0 hy
    · have e : vfault ⟨4, n, z⟩ = 1 := by simp [vfault, h0]
      rw [wd_no _ _ e (by decide), e]; exact word_num4 n z w (by simpa using h0)
  · cases hm : (z.toList == [])
    · have hm' := (name_not z).1 hm
      have e : vfault ⟨5, n, z⟩ = 1 := by simp [vfault, hm']
      rw [wd_no _ _ e (by decide), e]; exact word_name5 n z w hm
    · have hm' := (name_nil z).1 hm
      by_cases h1 : 0 ≤ n
      · by_cases h2 : n ≤ 99999
        · have e : vfault ⟨5, n, z⟩ = 0 := by simp [vfault, hm']; omega
          have e2 : wdOf ⟨5, n, z⟩ = ⟨5, n - (0)⟩ := by simp [wdOf, e, least]
          rw [e2, e]; exact word_ok5 n z w hm h1 h2
        · have e : vfault ⟨5, n, z⟩ = 3 := by simp [vfault, hm']; omega
          rw [wd_no _ _ e (by decide), e]; exact word_hi5 n z w hm h1 (by omega)
      · have e : vfault ⟨5, n, z⟩ = 3 := by simp [vfault, hm']; omega
        rw [wd_no _ _ e (by decide), e]; exact word_lo5 n z w hm (by omega)
  · cases hm : (z.toList == [])
    · have hm' := (name_not z).1 hm
      have e : vfault ⟨6, n, z⟩ = 1 := by simp [vfault, hm']
      rw [wd_no _ _ e (by decide), e]; exact word_name6 n z w hm
    · have hm' := (name_nil z).1 hm
      by_cases h1 : 0 ≤ n
      · by_cases h2 : n ≤ 99999
        · have e : vfault ⟨6, n, z⟩ = 0 := by simp [vfault, hm']; omega
          have e2 : wdOf ⟨6, n, z⟩ = ⟨6, n - (0)⟩ := by simp [wdOf, e, least]
          rw [e2, e]; exact word_ok6 n z w hm h1 h2
        · have e : vfault ⟨6, n, z⟩ = 3 := by simp [vfault, hm']; omega
          rw [wd_no _ _ e (by decide), e]; exact word_hi6 n z w hm h1 (by omega)
      · have e : vfault ⟨6, n, z⟩ = 3 := by simp [vfault, hm']; omega
        rw [wd_no _ _ e (by decide), e]; exact word_lo6 n z w hm (by omega)
  · cases hm : (z.toList == [])
    · have hm' := (name_not z).1 hm
      have e : vfault ⟨7, n, z⟩ = 1 := by simp [vfault, hm']
      rw [wd_no _ _ e (by decide), e]; exact word_name7 n z w hm
    · have hm' := (name_nil z).1 hm
      by_cases h1 : 0 ≤ n
      · by_cases h2 : n ≤ 99999
        · have e : vfault ⟨7, n, z⟩ = 0 := by simp [vfault, hm']; omega
          have e2 : wdOf ⟨7, n, z⟩ = ⟨7, n - (0)⟩ := by simp [wdOf, e, least]
          rw [e2, e]; exact word_ok7 n z w hm h1 h2
        · have e : vfault ⟨7, n, z⟩ = 3 := by simp [vfault, hm']; omega
          rw [wd_no _ _ e (by decide), e]; exact word_hi7 n z w hm h1 (by omega)
      · have e : vfault ⟨7, n, z⟩ = 3 := by simp [vfault, hm']; omega
        rw [wd_no _ _ e (by decide), e]; exact word_lo7 n z w hm (by omega)
  · cases hm : (z.toList == [])
    · have hm' := (name_not z).1 hm
      have e : vfault ⟨8, n, z⟩ = 1 := by simp [vfault, hm']
      rw [wd_no _ _ e (by decide), e]; exact word_name8 n z w hm
    · have hm' := (name_nil z).1 hm
      by_cases h1 : 0 ≤ n
      · by_cases h2 : n ≤ 99999
        · have e : vfault ⟨8, n, z⟩ = 0 := by simp [vfault, hm']; omega
          have e2 : wdOf ⟨8, n, z⟩ = ⟨8, n - (0)⟩ := by simp [wdOf, e, least]
          rw [e2, e]; exact word_ok8 n z w hm h1 h2
        · have e : vfault ⟨8, n, z⟩ = 3 := by simp [vfault, hm']; omega
          rw [wd_no _ _ e (by decide), e]; exact word_hi8 n z w hm h1 (by omega)
      · have e : vfault ⟨8, n, z⟩ = 3 := by simp [vfault, hm']; omega
        rw [wd_no _ _ e (by decide), e]; exact word_lo8 n z w hm (by omega)
  · by_cases h0 : n = 0
    · cases hm : (z.toList == [])
      · have hm' := (name_not z).1 hm
        have e : vfault ⟨9, n, z⟩ = 1 := by simp [vfault, hm']
        rw [wd_no _ _ e (by decide), e]; exact word_name9 n z w h0 hm
      · have hm' := (name_nil z).1 hm
        have e : vfault ⟨9, n, z⟩ = 0 := by simp [vfault, hm', h0]
        have e2 : wdOf ⟨9, n, z⟩ = ⟨9, 0⟩ := by subst h0; simp [wdOf, e, least]
        rw [e2, e]; exact word_ok9 n z w h0 hm
    · have e : vfault ⟨9, n, z⟩ = 1 := by simp [vfault, h0]
      rw [wd_no _ _ e (by decide), e]; exact word_num9 n z w (by simpa using h0)
  · have e : vfault ⟨k, n, z⟩ = 1 := by simp only [vfault]; rw [if_pos hk]
    obtain ⟨_, _, k1, k2, k3, k4, k5, k6, k7, k8, k9⟩ := vout k hk
    rw [wd_no _ _ e (by decide), e]; exact word_out n z w k k1 k2 k3 k4 k5 k6 k7 k8 k9
end Go.Proofs.YtgfienijabkpjaaDoor
