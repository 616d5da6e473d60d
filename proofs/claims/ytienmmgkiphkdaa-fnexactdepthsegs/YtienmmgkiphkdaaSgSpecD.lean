/-
  The model's DepthSegs: its code, or how many items there are; nothing that was there is turned.
-/
import Derived.Test.YtienmmgkiphkdaaSgSpecF
namespace Go.Proofs.Ytienmmgkiphkdaa
open Go.RowKit Go.Extern.Stop Go.Stop Go.Extern Num Go.Lib

set_option maxHeartbeats 2000000 in
theorem specDp_seg (size : Int) (v : Value) (ps : List (List Int)) (w : World) (hs : SmallS ps) (h : SeeP w v ps) :
    Calls Try.prog 42 #[segV size v] w fun e w' => e = .returned (IR (faultS size ps) (if faultS size ps = 0 then (ps.flatten.length : Int) else 0)) ∧ Below w.heap.size w w' := by
  obtain ⟨R, hR⟩ : ∃ R : Int, R = faultS size ps := ⟨_, rfl⟩
  obtain ⟨N, hN⟩ : ∃ N : Int, N = if R = 0 then (ps.flatten.length : Int) else 0 := ⟨_, rfl⟩
  rw [← hR, ← hN]
  have HS1 : Hid (∀ u, Below w.heap.size w u → ∀ b, SegAt u b size v → Calls Try.prog 51 #[.pointer (some ⟨b, 0, none⟩)] u fun e w' => e = .returned (.int .i64 R) ∧ w' = u) := fun u hu b hb => by rw [hR]; exact l12Fault_any b size v ps u hs hb (h.below hu)
  have HS2 : Hid (R = 0 → ∀ u, Below w.heap.size w u → ∀ b, SegAt u b size v → Calls Try.prog 52 #[.pointer (some ⟨b, 0, none⟩)] u fun e w' => e = .returned (.int .i64 (ps.flatten.length : Int)) ∧ Below u.heap.size u w') := fun h0 u hu b hb => l12Depth_any b size v ps u (faultS_fine (hR ▸ h0)) hb (h.below hu)
  have HN : Hid (N = if R = 0 then (ps.flatten.length : Int) else 0) := hN
  obtain ⟨a, c, rfl, -⟩ := id h
  clear h hs hR hN
  go_enter Try.func42, Try.ntmps42
  go_wp2_with fail
  have HA : Hid (SegAt ((w.alloc (.cells #[.int .i64 size, .slice a ps.length c] 26)).alloc (.cells #[.int .i64 0, .int .i64 0] 40)) w.heap.size size (.slice a ps.length c)) := (SegAt.new w size _ _).below ((Below.refl _ _).alloc (Nat.le_refl _) _)
  have HB : Hid (Below w.heap.size w ((w.alloc (.cells #[.int .i64 size, .slice a ps.length c] 26)).alloc (.cells #[.int .i64 0, .int .i64 0] 40))) := by repeat (first | exact Below.refl _ _ | refine Below.alloc ?_ (by simp <;> omega) _)
  refine (HS1.out _ HB.out _ HA.out).mono ?_
  rintro e w1 ⟨rfl, e1⟩
  have r0 : w1.cell? ⟨w.heap.size + 1, 0, none⟩ = some (.int .i64 0) := by rw [e1]; simp [go_sem]
  have r1 : w1.cell? ⟨w.heap.size + 1, 1, none⟩ = some (.int .i64 0) := by rw [e1]; simp [go_sem]
  have g5 : ∀ j, w1.frozen? ⟨w.heap.size + 1, j, none⟩ = false := fun j => by rw [e1]; simp [go_sem]
  have hs1 : w.heap.size + 1 < w1.heap.size := by rw [e1]; simp
  rw [← e1] at HA HB
  clear e1
  by_cases hc : R = 0
  · have HS3 := HS2.out hc
    have HS3' : Hid (∀ u, Below w.heap.size w u → ∀ b, SegAt u b size (.slice a ps.length c) → Calls Try.prog 52 #[.pointer (some ⟨b, 0, none⟩)] u fun e w' => e = .returned (.int .i64 (ps.flatten.length : Int)) ∧ Below u.heap.size u w') := HS3
    have HV : Hid (N = (ps.flatten.length : Int)) := by show N = _; rw [HN.out, if_pos hc]
    clear HN HS2 HS3
    subst hc
    go_wp2_with fail
    refine (HS3'.out _ HB.out _ HA.out).mono ?_
    rintro e w2 ⟨rfl, b2⟩
    have HB2 : Hid (Below w.heap.size w w2) := HB.out.trans (b2.mono HB.out.size)
    obtain ⟨hc1, hf1⟩ := bcell b2
    have r0' : w2.cell? ⟨w.heap.size + 1, 0, none⟩ = some (.int .i64 0) := by rw [hc1 _ _ hs1]; exact r0
    have r1' : w2.cell? ⟨w.heap.size + 1, 1, none⟩ = some (.int .i64 0) := by rw [hc1 _ _ hs1]; exact r1
    have g5' : ∀ j, w2.frozen? ⟨w.heap.size + 1, j, none⟩ = false := fun j => by rw [hf1 _ _ hs1]; exact g5 j
    have hs2 : w.heap.size + 1 < w2.heap.size := Nat.lt_of_lt_of_le hs1 b2.size
    clear b2 hc1 hf1 r0 r1 g5 hs1
    generalize (ps.flatten.length : Int) = M at HV ⊢
    go_wp2
    exact bodyPost_ret (v := IR 0 M) (by simp [results, Try.results42, go_sem, r0', r1']) rfl ⟨by rw [HV.out], by repeat (first | refine Below.setCell ?_ (by simp) _ | exact HB2.out)⟩
  · have hcn : (R != 0) = true := by rw [bne_iff_ne]; exact hc
    have HV : Hid (N = 0) := by show N = 0; rw [HN.out, if_neg hc]
    clear hc HN
    go_wp2
    exact bodyPost_ret (v := IR R 0) (by simp [results, Try.results42, go_sem, r0, r1]) rfl ⟨by rw [HV.out], by repeat (first | refine Below.setCell ?_ (by simp) _ | exact HB.out)⟩
end Go.Proofs.Ytienmmgkiphkdaa
