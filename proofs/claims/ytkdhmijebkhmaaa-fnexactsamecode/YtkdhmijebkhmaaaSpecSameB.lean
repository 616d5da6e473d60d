/-
  The model's SameCode: whether code is the same; nothing is turned.
-/
import Derived.Test.YtkdhmijebkhmaaaSpecSameA
namespace Go.Proofs.Ytkdhmijebkhmaaa
open Go.RowKit Go.Extern.Stop Go.Stop Go.Extern Num Go.Lib

theorem specSameB_len (g1 g2 n m c1 c2 : Nat) (w : World) (h : ((n : Int) != (m : Int)) = true) :
    Calls Try.prog 5 #[.slice (some ⟨g1, 0, none⟩) n c1, .slice (some ⟨g2, 0, none⟩) m c2] w fun e w' => e = .returned (.bool false) ∧ Below w.heap.size w w' := by
  go_enter Try.func5, Try.ntmps5
  go_wp2
  go_ret
  exact ⟨rfl, Below.refl _ _⟩
set_option maxRecDepth 100000 in
set_option maxHeartbeats 4000000 in
theorem specSameB_some (g1 g2 c1 c2 B1 B2 : Nat) (a b : List Blk) (w : World) (hl : a.length ≤ 1048576) (he : a.length = b.length) (hz : ∀ (k : Nat) (h : k < a.length), a[k].small) (hA : RowBl w B1 g1 a) (hB : RowBl w B2 g2 b) :
    Calls Try.prog 5 #[.slice (some ⟨g1, 0, none⟩) a.length c1, .slice (some ⟨g2, 0, none⟩) a.length c2] w fun e w' => e = .returned (.bool (sameL eqBB a b)) ∧ Below w.heap.size w w' := by
  have HA : Hid (RowBl w B1 g1 a) := hA
  have HB : Hid (RowBl w B2 g2 b) := hB
  have HE : Hid (a.length = b.length) := he
  have HZ : Hid (∀ (k : Nat) (h : k < a.length), a[k].small) := hz
  clear hA hB he hz
  obtain ⟨R, hR⟩ : ∃ R : Bool, R = sameL eqBB a b := ⟨_, rfl⟩
  rw [← hR]
  have HR : Hid (R = sameL eqBB a b) := hR
  clear hR
  go_enter Try.func5, Try.ntmps5
  go_wp2_with fail
  go_loopw [5] (fun i wr => ∃ k : Nat, k ≤ a.length ∧ i = .int .i64 (k : Int) ∧ Hid (sameToL eqBB a b k) ∧ Hid (Below w.heap.size w wr)) (fun i _ => a.length - (RowKit.intOf i).toNat)
  case atStart => exact ⟨0, Nat.zero_le _, rfl, fun j _ _ hj => by omega, Below.refl _ _⟩
  case round =>
    obtain ⟨k, hk, rfl, HS, HW⟩ := hrel
    by_cases hlt : k < a.length
    · have hlb : k < b.length := by have := HE.out; omega
      have hra := HA.out.below HW.out k hlt
      have hrb := HB.out.below HW.out k hlb
      have hsm := HZ.out k hlt
      obtain ⟨t, ht⟩ : ∃ t, t = a[k]'hlt := ⟨_, rfl⟩
      obtain ⟨u, hu⟩ : ∃ u, u = b[k]'hlb := ⟨_, rfl⟩
      rw [← ht] at hra hsm
      rw [← hu] at hrb
      obtain ⟨p0, ga, p1, oa⟩ := hra
      obtain ⟨q0, gb, q1, ob⟩ := hrb
      have HQ : Hid (eqBB (a[k]'hlt) (b[k]'hlb) = (t.args == u.args && sameL eqOB t.ops u.ops)) := by show _ = _; rw [← ht, ← hu]; rfl
      have a0 : ∀ p : BW wr, p.x.cell? ⟨g1, k * 2, none⟩ = some (.int .i64 t.args) := fun p => p.cell p0
      have a1 : ∀ p : BW wr, p.x.cell? ⟨g1, k * 2 + 1, none⟩ = some (.slice (some ⟨ga, 0, none⟩) t.ops.length t.ops.length) := fun p => p.cell p1
      have d0 : ∀ p : BW wr, p.x.cell? ⟨g2, k * 2, none⟩ = some (.int .i64 u.args) := fun p => p.cell q0
      have d1 : ∀ p : BW wr, p.x.cell? ⟨g2, k * 2 + 1, none⟩ = some (.slice (some ⟨gb, 0, none⟩) u.ops.length u.ops.length) := fun p => p.cell q1
      have hne := bw_some wr
      have HOA : Hid (RowOp wr B1 ga t.ops) := oa.row
      have HOB : Hid (RowOp wr B2 gb u.ops) := ob.row
      have HSM : Hid (t.small) := hsm
      have hl7 : t.ops.length ≤ 1048576 := hsm.len
      have HP : Hid (wr.cell? ⟨g1, k * 2 + 1, none⟩ = some (.slice (some ⟨ga, 0, none⟩) t.ops.length t.ops.length)) := p1
      have HP2 : Hid (wr.cell? ⟨g2, k * 2 + 1, none⟩ = some (.slice (some ⟨gb, 0, none⟩) u.ops.length u.ops.length)) := q1
      clear p0 p1 q0 q1 oa ob ht hu hsm
      by_cases e0 : (t.args == u.args) = true
      · have n0 : (t.args != u.args) = false := by simp [bne, e0]
        by_cases e1 : t.ops.length = u.ops.length
        · have n1 : ((t.ops.length : Int) != (u.ops.length : Int)) = false := by simp [e1]
          have HE1 : Hid (t.ops.length = u.ops.length) := e1
          clear e1
          go_wp2_with fail
          refine wp_region_below (by kernel_rfl) (by kernel_rfl) ?_
          repeat (go_big_quiet_step (fail))
          refine wpQuiet_nil ?_
          intro wq hw'
          obtain ⟨⟨_, bq⟩, rfl⟩ := hw'
          have HW2 : Hid (Below w.heap.size w wq) := HW.out.trans (bq.mono HW.out.size)
          have HOA2 : Hid (RowOp wq B1 ga t.ops) := HOA.out.below bq
          have HOB2 : Hid (RowOp wq B2 gb u.ops) := HOB.out.below bq
          have HP3 : Hid (wq.cell? ⟨g1, k * 2 + 1, none⟩ = some (.slice (some ⟨ga, 0, none⟩) t.ops.length t.ops.length)) := cell_keep bq HP.out
          have HP4 : Hid (wq.cell? ⟨g2, k * 2 + 1, none⟩ = some (.slice (some ⟨gb, 0, none⟩) u.ops.length u.ops.length)) := cell_keep bq HP2.out
          clear bq hne a0 a1 d0 d1 HOA HOB HP HP2 n1
          go_wp2_with fail
          go_loopw [6] (fun i wr => ∃ j : Nat, j ≤ t.ops.length ∧ i = .int .i64 (j : Int) ∧ Hid (sameToL eqOB t.ops u.ops j) ∧ Hid (Below wq.heap.size wq wr)) (fun i _ => t.ops.length - (RowKit.intOf i).toNat)
          case atStart => exact ⟨0, Nat.zero_le _, rfl, fun j _ _ hj => by omega, Below.refl _ _⟩
          case round =>
            obtain ⟨j, hj, rfl, HSj, HWj⟩ := hrel
            have HWw : Hid (Below w.heap.size w wr) := HW2.out.trans (HWj.out.mono HW2.out.size)
            have s1 := cell_keep HWj.out HP3.out
            have s2 := cell_keep HWj.out HP4.out
            by_cases hjt : j < t.ops.length
            · have hju : j < u.ops.length := by have := HE1.out; omega
              obtain ⟨gx, hox⟩ := (HOA2.out.below HWj.out).at j hjt
              obtain ⟨gy, hoy⟩ := (HOB2.out.below HWj.out).at j hju
              obtain ⟨r, hr⟩ : ∃ r, r = eqOB (t.ops[j]'hjt) (u.ops[j]'hju) := ⟨_, rfl⟩
              have HX : Hid (∀ p : BW wr, Calls Try.prog 10 #[.pointer (some ⟨ga, j * 7, none⟩), .pointer (some ⟨gb, j * 7, none⟩)] p.x fun e w' => e = .returned (.bool r) ∧ Below p.x.heap.size p.x w') := fun p => by rw [hr]; exact l9SameOp_any _ _ _ _ _ _ gx gy B1 B2 p.x (HSM.out.names j hjt).len (hox.below p.h) (hoy.below p.h)
              have HQj : Hid (eqOB (t.ops[j]'hjt) (u.ops[j]'hju) = r) := hr.symm
              have a1 : ∀ p : BW wr, p.x.cell? ⟨g1, k * 2 + 1, none⟩ = some (.slice (some ⟨ga, 0, none⟩) t.ops.length t.ops.length) := fun p => p.cell s1
              have d1 : ∀ p : BW wr, p.x.cell? ⟨g2, k * 2 + 1, none⟩ = some (.slice (some ⟨gb, 0, none⟩) u.ops.length u.ops.length) := fun p => p.cell s2
              have hne := bw_some wr
              clear hox hoy hr s2
              go_wp2_with fail
              refine wp_region_below (by kernel_rfl) (by kernel_rfl) ?_
              repeat (go_big_quiet_step ((go_at_call 10; exact calls_bw (HX.out _))))
              refine wpQuiet_nil ?_
              intro wq2 hw'
              obtain ⟨⟨_, bq2⟩, rfl⟩ := hw'
              have HWn : Hid (Below wq.heap.size wq wq2) := HWj.out.trans (bq2.mono HWj.out.size)
              have HWm : Hid (Below w.heap.size w wq2) := HWw.out.trans (bq2.mono HWw.out.size)
              clear bq2 hne a1 d1 s1 HX
              cases r with
              | true =>
                go_wp2
                exact ⟨⟨j + 1, by omega, by go_num, sameToL_next HSj.out hjt hju HQj.out, HWn.out⟩, by simp [RowKit.intOf]; omega⟩
              | false =>
                have HQ2 : Hid (eqBB (a[k]'hlt) (b[k]'hlb) = false) := by show _ = _; rw [HQ.out, sameL_no _ _ j hjt hju HSj.out HQj.out]; simp
                go_wp2
                go_ret
                exact ⟨by rw [HR.out, sameL_no a b k hlt hlb HS.out HQ2.out]; rfl, HWm.out⟩
            · have HQ2 : Hid (eqBB (a[k]'hlt) (b[k]'hlb) = true) := by
                have hs := HSj.out
                rw [show j = t.ops.length by omega] at hs
                show _ = _
                rw [HQ.out, sameL_yes _ _ HE1.out hs, e0]; rfl
              clear s2
              go_wp2
              exact ⟨⟨k + 1, by omega, by go_num, sameToL_next HS.out hlt hlb HQ2.out, HWw.out⟩, by simp [RowKit.intOf]; omega⟩
        · have n1 : ((t.ops.length : Int) != (u.ops.length : Int)) = true := by rw [bne_iff_ne]; omega
          have HQ2 : Hid (eqBB (a[k]'hlt) (b[k]'hlb) = false) := by show _ = _; rw [HQ.out, sameL_len eqOB _ _ e1]; simp
          clear e1 HP HP2
          go_wp2_with fail
          refine wp_region_below (by kernel_rfl) (by kernel_rfl) ?_
          repeat (go_big_quiet_step (fail))
          refine wpQuiet_nil ?_
          intro wq hw'
          obtain ⟨⟨_, bq⟩, rfl⟩ := hw'
          have HW2 : Hid (Below w.heap.size w wq) := HW.out.trans (bq.mono HW.out.size)
          clear bq hne a0 a1 d0 d1
          go_wp2
          go_ret
          exact ⟨by rw [HR.out, sameL_no a b k hlt hlb HS.out HQ2.out]; rfl, HW2.out⟩
      · have n0 : (t.args != u.args) = true := by simp [bne, e0]
        have HQ2 : Hid (eqBB (a[k]'hlt) (b[k]'hlb) = false) := by show _ = _; rw [HQ.out]; simp [e0]
        clear HP HP2
        go_wp2_with fail
        refine wp_region_below (by kernel_rfl) (by kernel_rfl) ?_
        repeat (go_big_quiet_step (fail))
        refine wpQuiet_nil ?_
        intro wq hw'
        obtain ⟨⟨_, bq⟩, rfl⟩ := hw'
        have HW2 : Hid (Below w.heap.size w wq) := HW.out.trans (bq.mono HW.out.size)
        clear bq hne a0 a1 d0 d1
        go_wp2
        go_ret
        exact ⟨by rw [HR.out, sameL_no a b k hlt hlb HS.out HQ2.out]; rfl, HW2.out⟩
    · have HF : Hid (R = true) := by
        have hkl : k = a.length := by omega
        have hs := HS.out
        rw [hkl] at hs
        show R = true
        rw [HR.out, sameL_yes a b HE.out hs]
      go_wp2
      go_ret
      exact ⟨by rw [HF.out]; rfl, HW.out⟩
theorem specSameB_any (g1 g2 c1 c2 B1 B2 : Nat) (a b : List Blk) (w : World) (hl : a.length ≤ 1048576) (hz : ∀ (k : Nat) (h : k < a.length), a[k].small) (hA : RowBl w B1 g1 a) (hB : RowBl w B2 g2 b) :
    Calls Try.prog 5 #[.slice (some ⟨g1, 0, none⟩) a.length c1, .slice (some ⟨g2, 0, none⟩) b.length c2] w fun e w' => e = .returned (.bool (sameL eqBB a b)) ∧ Below w.heap.size w w' := by
  by_cases he : a.length = b.length
  · have := specSameB_some g1 g2 c1 c2 B1 B2 a b w hl he hz hA hB
    rw [he] at this ⊢
    exact this
  · rw [sameL_len eqBB a b he]
    exact specSameB_len g1 g2 a.length b.length c1 c2 w (by rw [bne_iff_ne]; omega)
end Go.Proofs.Ytkdhmijebkhmaaa
