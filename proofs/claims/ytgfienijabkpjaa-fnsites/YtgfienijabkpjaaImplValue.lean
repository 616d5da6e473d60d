/-
  The program's value: a value comes back from the word that tells it; nothing that was there is turned.
-/
import Derived.Test.YtgfienijabkpjaaImplVF
import Derived.Test.YtgfienijabkpjaaImplName
namespace Go.Proofs.Ytgfienijabkpjaa
open Go.RowKit Go.Extern.Stop Go.Stop Go.Extern Num Go.Lib

theorem val_1 (n : Int) (w : World) (h1 : -1000000000 ≤ n) (h2 : n ≤ 1000000000) :
    Calls Try.prog 54 #[.agg #[.int .u8 1, .int .u64 (n - (-1000000000))]] w fun e w' => e = .returned (.agg #[.int .i64 1, .int .i64 n, .string ⟨#[]⟩]) ∧ Below w.heap.size w w' := by
  obtain ⟨m, hm⟩ : ∃ m, m = n - (-1000000000) := ⟨_, rfl⟩
  have hn : m + (-1000000000) = n := by omega
  rw [← hm]
  have hm1 : 0 ≤ m := by omega
  have hm2 : m ≤ 2000000000 := by omega
  clear hm
  go_enter Try.func54, Try.ntmps54
  go_wp2_with (go_at_call 79; refine (bounds_1 _).mono ?_; rintro e w' ⟨rfl, rfl⟩)
  exact bodyPost_ret (v := .agg #[.int .i64 1, .int .i64 n, .string ⟨#[]⟩]) (by simp [results, Try.results54, go_sem]; try omega) rfl ⟨rfl, by repeat (first | exact Below.refl _ _ | refine Below.setCell ?_ (by simp) _ | refine Below.alloc ?_ (by simp <;> omega) _ | refine Below.drew ?_)⟩
theorem val_2 (n : Int) (w : World) (h1 : 0 ≤ n) (h2 : n ≤ 1) :
    Calls Try.prog 54 #[.agg #[.int .u8 2, .int .u64 (n - (0))]] w fun e w' => e = .returned (.agg #[.int .i64 2, .int .i64 n, .string ⟨#[]⟩]) ∧ Below w.heap.size w w' := by
  obtain ⟨m, hm⟩ : ∃ m, m = n - (0) := ⟨_, rfl⟩
  have hn : m + (0) = n := by omega
  rw [← hm]
  have hm1 : 0 ≤ m := by omega
  have hm2 : m ≤ 2000000000 := by omega
  clear hm
  go_enter Try.func54, Try.ntmps54
  go_wp2_with (go_at_call 79; refine (bounds_2 _).mono ?_; rintro e w' ⟨rfl, rfl⟩)
  exact bodyPost_ret (v := .agg #[.int .i64 2, .int .i64 n, .string ⟨#[]⟩]) (by simp [results, Try.results54, go_sem]; try omega) rfl ⟨rfl, by repeat (first | exact Below.refl _ _ | refine Below.setCell ?_ (by simp) _ | refine Below.alloc ?_ (by simp <;> omega) _ | refine Below.drew ?_)⟩
theorem val_5 (n : Int) (w : World) (h1 : 0 ≤ n) (h2 : n ≤ 99999) :
    Calls Try.prog 54 #[.agg #[.int .u8 5, .int .u64 (n - (0))]] w fun e w' => e = .returned (.agg #[.int .i64 5, .int .i64 n, .string ⟨#[]⟩]) ∧ Below w.heap.size w w' := by
  obtain ⟨m, hm⟩ : ∃ m, m = n - (0) := ⟨_, rfl⟩
  have hn : m + (0) = n := by omega
  rw [← hm]
  have hm1 : 0 ≤ m := by omega
  have hm2 : m ≤ 2000000000 := by omega
  clear hm
  go_enter Try.func54, Try.ntmps54
  go_wp2_with (go_at_call 79; refine (bounds_5 _).mono ?_; rintro e w' ⟨rfl, rfl⟩)
  exact bodyPost_ret (v := .agg #[.int .i64 5, .int .i64 n, .string ⟨#[]⟩]) (by simp [results, Try.results54, go_sem]; try omega) rfl ⟨rfl, by repeat (first | exact Below.refl _ _ | refine Below.setCell ?_ (by simp) _ | refine Below.alloc ?_ (by simp <;> omega) _ | refine Below.drew ?_)⟩
theorem val_6 (n : Int) (w : World) (h1 : 0 ≤ n) (h2 : n ≤ 99999) :
    Calls Try.prog 54 #[.agg #[.int .u8 6, .int .u64 (n - (0))]] w fun e w' => e = .returned (.agg #[.int .i64 6, .int .i64 n, .string ⟨#[]⟩]) ∧ Below w.heap.size w w' := by
  obtain ⟨m, hm⟩ : ∃ m, m = n - (0) := ⟨_, rfl⟩
  have hn : m + (0) = n := by omega
  rw [← hm]
  have hm1 : 0 ≤ m := by omega
  have hm2 : m ≤ 2000000000 := by omega
  clear hm
  go_enter Try.func54, Try.ntmps54
  go_wp2_with (go_at_call 79; refine (bounds_6 _).mono ?_; rintro e w' ⟨rfl, rfl⟩)
  exact bodyPost_ret (v := .agg #[.int .i64 6, .int .i64 n, .string ⟨#[]⟩]) (by simp [results, Try.results54, go_sem]; try omega) rfl ⟨rfl, by repeat (first | exact Below.refl _ _ | refine Below.setCell ?_ (by simp) _ | refine Below.alloc ?_ (by simp <;> omega) _ | refine Below.drew ?_)⟩
theorem val_7 (n : Int) (w : World) (h1 : 0 ≤ n) (h2 : n ≤ 99999) :
    Calls Try.prog 54 #[.agg #[.int .u8 7, .int .u64 (n - (0))]] w fun e w' => e = .returned (.agg #[.int .i64 7, .int .i64 n, .string ⟨#[]⟩]) ∧ Below w.heap.size w w' := by
  obtain ⟨m, hm⟩ : ∃ m, m = n - (0) := ⟨_, rfl⟩
  have hn : m + (0) = n := by omega
  rw [← hm]
  have hm1 : 0 ≤ m := by omega
  have hm2 : m ≤ 2000000000 := by omega
  clear hm
  go_enter Try.func54, Try.ntmps54
  go_wp2_with (go_at_call 79; refine (bounds_7 _).mono ?_; rintro e w' ⟨rfl, rfl⟩)
  exact bodyPost_ret (v := .agg #[.int .i64 7, .int .i64 n, .string ⟨#[]⟩]) (by simp [results, Try.results54, go_sem]; try omega) rfl ⟨rfl, by repeat (first | exact Below.refl _ _ | refine Below.setCell ?_ (by simp) _ | refine Below.alloc ?_ (by simp <;> omega) _ | refine Below.drew ?_)⟩
theorem val_8 (n : Int) (w : World) (h1 : 0 ≤ n) (h2 : n ≤ 99999) :
    Calls Try.prog 54 #[.agg #[.int .u8 8, .int .u64 (n - (0))]] w fun e w' => e = .returned (.agg #[.int .i64 8, .int .i64 n, .string ⟨#[]⟩]) ∧ Below w.heap.size w w' := by
  obtain ⟨m, hm⟩ : ∃ m, m = n - (0) := ⟨_, rfl⟩
  have hn : m + (0) = n := by omega
  rw [← hm]
  have hm1 : 0 ≤ m := by omega
  have hm2 : m ≤ 2000000000 := by omega
  clear hm
  go_enter Try.func54, Try.ntmps54
  go_wp2_with (go_at_call 79; refine (bounds_8 _).mono ?_; rintro e w' ⟨rfl, rfl⟩)
  exact bodyPost_ret (v := .agg #[.int .i64 8, .int .i64 n, .string ⟨#[]⟩]) (by simp [results, Try.results54, go_sem]; try omega) rfl ⟨rfl, by repeat (first | exact Below.refl _ _ | refine Below.setCell ?_ (by simp) _ | refine Below.alloc ?_ (by simp <;> omega) _ | refine Below.drew ?_)⟩
theorem val_3 (n : Int) (w : World) (h1 : 0 ≤ n) (h2 : n ≤ 0) :
    Calls Try.prog 54 #[.agg #[.int .u8 3, .int .u64 (n - (0))]] w fun e w' => e = .returned (.agg #[.int .i64 3, .int .i64 n, .string ⟨#[]⟩]) ∧ Below w.heap.size w w' := by
  obtain ⟨m, hm⟩ : ∃ m, m = n - (0) := ⟨_, rfl⟩
  have hn : m + (0) = n := by omega
  rw [← hm]
  have hm1 : 0 ≤ m := by omega
  have hm2 : m ≤ 2000000000 := by omega
  clear hm
  go_enter Try.func54, Try.ntmps54
  go_wp2_with (go_at_call 79; refine (bounds_3 _).mono ?_; rintro e w' ⟨rfl, rfl⟩)
  exact bodyPost_ret (v := .agg #[.int .i64 3, .int .i64 n, .string ⟨#[]⟩]) (by simp [results, Try.results54, go_sem]; try omega) rfl ⟨rfl, by repeat (first | exact Below.refl _ _ | refine Below.setCell ?_ (by simp) _ | refine Below.alloc ?_ (by simp <;> omega) _ | refine Below.drew ?_)⟩
theorem val_9 (n : Int) (w : World) (h1 : 0 ≤ n) (h2 : n ≤ 0) :
    Calls Try.prog 54 #[.agg #[.int .u8 9, .int .u64 (n - (0))]] w fun e w' => e = .returned (.agg #[.int .i64 9, .int .i64 n, .string ⟨#[]⟩]) ∧ Below w.heap.size w w' := by
  obtain ⟨m, hm⟩ : ∃ m, m = n - (0) := ⟨_, rfl⟩
  have hn : m + (0) = n := by omega
  rw [← hm]
  have hm1 : 0 ≤ m := by omega
  have hm2 : m ≤ 2000000000 := by omega
  clear hm
  go_enter Try.func54, Try.ntmps54
  go_wp2_with (go_at_call 79; refine (bounds_9 _).mono ?_; rintro e w' ⟨rfl, rfl⟩)
  exact bodyPost_ret (v := .agg #[.int .i64 9, .int .i64 n, .string ⟨#[]⟩]) (by simp [results, Try.results54, go_sem]; try omega) rfl ⟨rfl, by repeat (first | exact Below.refl _ _ | refine Below.setCell ?_ (by simp) _ | refine Below.alloc ?_ (by simp <;> omega) _ | refine Below.drew ?_)⟩
theorem val_4 (z : ByteArray) (w : World) (hy : symL z.data.toList = true) :
    Calls Try.prog 54 #[.agg #[.int .u8 4, .int .u64 (bitsL z.data.toList : Int)]] w fun e w' => e = .returned (.agg #[.int .i64 4, .int .i64 0, .string z]) ∧ Below w.heap.size w w' := by
  obtain ⟨V, hV⟩ : ∃ V, V = bitsL z.data.toList := ⟨_, rfl⟩
  have HC : Hid (∀ w, Calls Try.prog 78 #[.int .u64 (V : Int)] w fun e w' => e = .returned (.string z) ∧ Below w.heap.size w w') := fun w => by
    obtain ⟨ha, h1, h2⟩ := symL_facts z hy
    have hl : z.data.toList.length = z.size := by rw [Array.length_toList]; rfl
    rw [hV]
    have := name_any z.data.toList w ha (by omega) (by omega)
    simpa using this
  rw [← hV]
  clear hV hy
  go_enter Try.func54, Try.ntmps54
  go_wp2_with fail
  refine (HC.out _).mono ?_
  rintro e w1 ⟨rfl, hb1⟩
  obtain ⟨hc1, hf1⟩ := bcell hb1
  have z1 : w.heap.size + 1 < w1.heap.size := by have := hb1.size; simp at this; omega
  have q0 : w1.cell? ⟨w.heap.size + 1, 0, none⟩ = some (.int .i64 0) := by rw [hc1 _ _ (by simp), World.cell?_alloc_at _ _ _ _ (by simp)]; rfl
  have q1 : w1.cell? ⟨w.heap.size + 1, 1, none⟩ = some (.int .i64 0) := by rw [hc1 _ _ (by simp), World.cell?_alloc_at _ _ _ _ (by simp)]; rfl
  have q2 : w1.cell? ⟨w.heap.size + 1, 2, none⟩ = some (.string ⟨#[]⟩) := by rw [hc1 _ _ (by simp), World.cell?_alloc_at _ _ _ _ (by simp)]; rfl
  have B1 : Below w.heap.size w w1 := Below.trans (by repeat (first | exact Below.refl _ _ | refine Below.setCell ?_ (by simp) _ | refine Below.alloc ?_ (by simp <;> omega) _ | refine Below.drew ?_)) (hb1.mono (by simp <;> omega))
  clear hb1
  go_wp2
  exact bodyPost_ret (v := .agg #[.int .i64 4, .int .i64 0, .string z]) (by simp [results, Try.results54, go_sem, q0, q1, q2]) rfl ⟨rfl, by repeat (first | refine Below.setCell ?_ (by simp <;> omega) _ | exact B1)⟩
theorem empty_of (z : ByteArray) (h : z.data.toList = []) : z = ⟨#[]⟩ := by
  obtain ⟨⟨l⟩⟩ := z
  simp at h
  subst h
  rfl
theorem fine_1 (n : Int) (z : ByteArray) (h : vfault ⟨1, n, z⟩ = 0) : -1000000000 ≤ n ∧ n ≤ 1000000000 ∧ z = ⟨#[]⟩ := by
  by_cases hz : z.data.toList = []
  · refine ⟨?_, ?_, empty_of z hz⟩ <;> (by_cases hn : -1000000000 ≤ n ∧ n ≤ 1000000000 <;> simp [vfault, hz, inB] at h hn ⊢ <;> omega)
  · simp [vfault, hz] at h
theorem fine_2 (n : Int) (z : ByteArray) (h : vfault ⟨2, n, z⟩ = 0) : 0 ≤ n ∧ n ≤ 1 ∧ z = ⟨#[]⟩ := by
  by_cases hz : z.data.toList = []
  · refine ⟨?_, ?_, empty_of z hz⟩ <;> (by_cases hn : 0 ≤ n ∧ n ≤ 1 <;> simp [vfault, hz] at h hn ⊢ <;> omega)
  · simp [vfault, hz] at h
theorem fine_5 (n : Int) (z : ByteArray) (h : vfault ⟨5, n, z⟩ = 0) : 0 ≤ n ∧ n ≤ 99999 ∧ z = ⟨#[]⟩ := by
  by_cases hz : z.data.toList = []
  · refine ⟨?_, ?_, empty_of z hz⟩ <;> (by_cases hn : 0 ≤ n ∧ n ≤ 99999 <;> simp [vfault, hz] at h hn ⊢ <;> omega)
  · simp [vfault, hz] at h
theorem fine_6 (n : Int) (z : ByteArray) (h : vfault ⟨6, n, z⟩ = 0) : 0 ≤ n ∧ n ≤ 99999 ∧ z = ⟨#[]⟩ := by
  by_cases hz : z.data.toList = []
  · refine ⟨?_, ?_, empty_of z hz⟩ <;> (by_cases hn : 0 ≤ n ∧ n ≤ 99999 <;> simp [vfault, hz] at h hn ⊢ <;> omega)
  · simp [vfault, hz] at h
theorem fine_7 (n : Int) (z : ByteArray) (h : vfault ⟨7, n, z⟩ = 0) : 0 ≤ n ∧ n ≤ 99999 ∧ z = ⟨#[]⟩ := by
  by_cases hz : z.data.toList = []
  · refine ⟨?_, ?_, empty_of z hz⟩ <;> (by_cases hn : 0 ≤ n ∧ n ≤ 99999 <;> simp [vfault, hz] at h hn ⊢ <;> omega)
  · simp [vfault, hz] at h
theorem fine_8 (n : Int) (z : ByteArray) (h : vfault ⟨8, n, z⟩ = 0) : 0 ≤ n ∧ n ≤ 99999 ∧ z = ⟨#[]⟩ := by
  by_cases hz : z.data.toList = []
  · refine ⟨?_, ?_, empty_of z hz⟩ <;> (by_cases hn : 0 ≤ n ∧ n ≤ 99999 <;> simp [vfault, hz] at h hn ⊢ <;> omega)
  · simp [vfault, hz] at h
theorem fine_3 (n : Int) (z : ByteArray) (h : vfault ⟨3, n, z⟩ = 0) : 0 ≤ n ∧ n ≤ 0 ∧ z = ⟨#[]⟩ := by
  by_cases hz : z.data.toList = []
  · refine ⟨?_, ?_, empty_of z hz⟩ <;> (by_cases hn : 0 ≤ n ∧ n ≤ 0 <;> simp [vfault, hz] at h hn ⊢ <;> omega)
  · simp [vfault, hz] at h
theorem fine_9 (n : Int) (z : ByteArray) (h : vfault ⟨9, n, z⟩ = 0) : 0 ≤ n ∧ n ≤ 0 ∧ z = ⟨#[]⟩ := by
  by_cases hz : z.data.toList = []
  · refine ⟨?_, ?_, empty_of z hz⟩ <;> (by_cases hn : 0 ≤ n ∧ n ≤ 0 <;> simp [vfault, hz] at h hn ⊢ <;> omega)
  · simp [vfault, hz] at h
theorem value_any (t : Vlu) (w : World) (h : vfault t = 0) :
    Calls Try.prog 54 #[(wdOf t).val] w fun e w' => e = .returned t.val ∧ Below w.heap.size w w' := by
  obtain ⟨k, n, z⟩ := t
  show Calls Try.prog 54 #[.agg #[.int .u8 (wdOf ⟨k, n, z⟩).tag, .int .u64 (wdOf ⟨k, n, z⟩).rest]] w fun e w' => e = .returned (.agg #[.int .i64 k, .int .i64 n, .string z]) ∧ Below w.heap.size w w'
  rcases vkinds k with rfl | rfl | rfl | rfl | rfl | rfl | rfl | rfl | rfl | hk
  · obtain ⟨h1, h2, hz⟩ := fine_1 n z h
    subst hz
    have e2 : wdOf ⟨1, n, ⟨#[]⟩⟩ = ⟨1, n - (-1000000000)⟩ := by unfold wdOf; rw [if_pos h]; simp [least]
    rw [e2]; exact val_1 n w h1 h2
  · obtain ⟨h1, h2, hz⟩ := fine_2 n z h
    subst hz
    have e2 : wdOf ⟨2, n, ⟨#[]⟩⟩ = ⟨2, n - (0)⟩ := by unfold wdOf; rw [if_pos h]; simp [least]
    rw [e2]; exact val_2 n w h1 h2
  · obtain ⟨h1, h2, hz⟩ := fine_3 n z h
    subst hz
    have e2 : wdOf ⟨3, n, ⟨#[]⟩⟩ = ⟨3, n - (0)⟩ := by unfold wdOf; rw [if_pos h]; simp [least]
    rw [e2]; exact val_3 n w h1 h2
  · have hn : n = 0 := by
      by_cases hn : n = 0
      · exact hn
      · simp [vfault, hn] at h
    subst hn
    have hy : symL z.data.toList = true := by
      cases hy : symL z.data.toList
      · simp [vfault, hy] at h
      · rfl
    have e2 : wdOf ⟨4, 0, z⟩ = ⟨4, (bitsL z.data.toList : Int)⟩ := by unfold wdOf; rw [if_pos h]; simp
    rw [e2]; exact val_4 z w hy
  · obtain ⟨h1, h2, hz⟩ := fine_5 n z h
    subst hz
    have e2 : wdOf ⟨5, n, ⟨#[]⟩⟩ = ⟨5, n - (0)⟩ := by unfold wdOf; rw [if_pos h]; simp [least]
    rw [e2]; exact val_5 n w h1 h2
  · obtain ⟨h1, h2, hz⟩ := fine_6 n z h
    subst hz
    have e2 : wdOf ⟨6, n, ⟨#[]⟩⟩ = ⟨6, n - (0)⟩ := by unfold wdOf; rw [if_pos h]; simp [least]
    rw [e2]; exact val_6 n w h1 h2
  · obtain ⟨h1, h2, hz⟩ := fine_7 n z h
    subst hz
    have e2 : wdOf ⟨7, n, ⟨#[]⟩⟩ = ⟨7, n - (0)⟩ := by unfold wdOf; rw [if_pos h]; simp [least]
    rw [e2]; exact val_7 n w h1 h2
  · obtain ⟨h1, h2, hz⟩ := fine_8 n z h
    subst hz
    have e2 : wdOf ⟨8, n, ⟨#[]⟩⟩ = ⟨8, n - (0)⟩ := by unfold wdOf; rw [if_pos h]; simp [least]
    rw [e2]; exact val_8 n w h1 h2
  · obtain ⟨h1, h2, hz⟩ := fine_9 n z h
    subst hz
    have e2 : wdOf ⟨9, n, ⟨#[]⟩⟩ = ⟨9, n - (0)⟩ := by unfold wdOf; rw [if_pos h]; simp [least]
    rw [e2]; exact val_9 n w h1 h2
  · simp only [vfault] at h
    rw [if_pos hk] at h
    cases h
end Go.Proofs.Ytgfienijabkpjaa
