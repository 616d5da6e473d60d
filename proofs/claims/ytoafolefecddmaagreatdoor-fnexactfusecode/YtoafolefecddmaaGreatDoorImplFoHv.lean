/-
  Parts of the proof laid into one text, one behind the other: ImplFo. Contracts of the program's and the model's functions, and what they are proved of, as their theorems say.
-/
import Derived.Test.YtoafolefecddmaaGreatDoorUfB
import Derived.Test.YtoafolefecddmaaGreatDoorSpecTwHv
namespace Go.Proofs.YtoafolefecddmaaGreatDoor
open Go.RowKit Go.Extern.Stop Go.Stop Go.Extern Num Go.Lib
set_option maxHeartbeats 4000000 in
theorem bits_any (tb bit : Int) (h1 : 0 ≤ tb) (h2 : tb ≤ 15) (hb : bit = 1 ∨ bit = 2 ∨ bit = 4 ∨ bit = 8) : (bits BinOp.and IntKind.i64 tb bit != 0) = bitT tb bit := by
  rcases hb with rfl | rfl | rfl | rfl <;> rcases bits16 h1 h2 with rfl | rfl | rfl | rfl | rfl | rfl | rfl | rfl | rfl | rfl | rfl | rfl | rfl | rfl | rfl | rfl <;> decide
def hitF (tb j k : Int) (q : Nat) : Prop := bitT tb (fusT.getD (q * 4) 0) = true ∧ j = fusT.getD (q * 4 + 1) 0 ∧ k = fusT.getD (q * 4 + 2) 0
theorem twoK_hit {tb j k : Int} {q : Nat} (hq : q < 4) (h : hitF tb j k q) : twoK tb j k = fusT.getD (q * 4 + 3) 0 := by
  obtain ⟨h1, h2, h3⟩ := h
  rcases (show q = 0 ∨ q = 1 ∨ q = 2 ∨ q = 3 by omega) with rfl | rfl | rfl | rfl <;> simp [fusT] at h1 h2 h3 <;> subst h2 h3 <;> simp [twoK, fusT, h1]
theorem twoK_none {tb j k : Int} (h : ∀ q, q < 4 → ¬ hitF tb j k q) : twoK tb j k = 0 := by
  have h0 := h 0 (by omega)
  have h1 := h 1 (by omega)
  have h2 := h 2 (by omega)
  have h3 := h 3 (by omega)
  simp [hitF, fusT] at h0 h1 h2 h3
  unfold twoK
  by_cases e1 : j = 1 ∧ k = 12
  · rw [if_pos e1]
    cases e : bitT tb 1 with
    | false => rfl
    | true => exact absurd e1.2 (h0 e e1.1)
  rw [if_neg e1]
  by_cases e2 : j = 2 ∧ k = 12
  · rw [if_pos e2]
    cases e : bitT tb 2 with
    | false => rfl
    | true => exact absurd e2.2 (h1 e e2.1)
  rw [if_neg e2]
  by_cases e3 : j = 2 ∧ k = 2
  · rw [if_pos e3]
    cases e : bitT tb 4 with
    | false => rfl
    | true => exact absurd e3.2 (h2 e e3.1)
  rw [if_neg e3]
  by_cases e4 : j = 2 ∧ k = 6
  · rw [if_pos e4]
    cases e : bitT tb 8 with
    | false => rfl
    | true => exact absurd e4.2 (h3 e e4.1)
  rw [if_neg e4]
set_option maxRecDepth 100000 in
set_option maxHeartbeats 2000000 in
theorem fusionOf_few (gk off n c : Nat) (tb : Int) (w : World) (hn : n < 2) : Calls Tryz.prog 85 #[.slice (some ⟨gk, off, none⟩) n c, .int .i64 tb] w fun e w' => e = .returned (.tuple #[fusV 4, .bool false]) ∧ Below w.heap.size w w' := by
  have hn2 : (n : Int) < 2 := by omega
  go_enter Tryz.func85, Tryz.ntmps85
  go_wp2
  refine bodyPost_ret (v := .tuple #[fusV 4, .bool false]) (by simp [results, Tryz.results85, go_sem, fusV, fusT]) rfl ⟨rfl, ?_⟩
  repeat (first | exact Below.refl _ _ | refine Below.setCell ?_ (by simp) _ | refine Below.alloc ?_ (by simp <;> omega) _)
set_option maxRecDepth 100000 in
set_option maxHeartbeats 4000000 in
theorem fusionOf_any (gk off n c : Nat) (tb j k : Int) (w : World) (h1 : 0 ≤ tb) (h2 : tb ≤ 15) (hn : 2 ≤ n) (hc1 : w.cell? ⟨gk, off, none⟩ = some (.int .i64 j)) (hc2 : w.cell? ⟨gk, off + 7, none⟩ = some (.int .i64 k)) (hF : FU w) : Calls Tryz.prog 85 #[.slice (some ⟨gk, off, none⟩) n c, .int .i64 tb] w fun e w' => e = .returned (.tuple #[fusV (fusK (twoK tb j k)), .bool (twoK tb j k != 0)]) ∧ Below w.heap.size w w' := by
  obtain ⟨W, hW⟩ : ∃ W, W = w.alloc (.cells #[.int .i64 0, .int .i64 0, .int .i64 0, .int .i64 0] 102) := ⟨_, rfl⟩
  have hb0 : Below w.heap.size w W := by rw [hW]; exact bnew _ _
  have HW : Hid (W = w.alloc (.cells #[.int .i64 0, .int .i64 0, .int .i64 0, .int .i64 0] 102)) := hW
  have r0 : W.cell? ⟨w.heap.size, 0, none⟩ = some (.int .i64 0) := by rw [hW]; simp [go_sem]
  have r1 : W.cell? ⟨w.heap.size, 1, none⟩ = some (.int .i64 0) := by rw [hW]; simp [go_sem]
  have r2 : W.cell? ⟨w.heap.size, 2, none⟩ = some (.int .i64 0) := by rw [hW]; simp [go_sem]
  have r3 : W.cell? ⟨w.heap.size, 3, none⟩ = some (.int .i64 0) := by rw [hW]; simp [go_sem]
  have rf : ∀ j, W.frozen? ⟨w.heap.size, j, none⟩ = false := fun j => by rw [hW]; simp [go_sem]
  have rl : w.heap.size < W.heap.size := by rw [hW]; simp
  have HQ : Hid (∀ u, Below W.heap.size W u → u.cell? ⟨w.heap.size, 0, none⟩ = some (.int .i64 0) ∧ u.cell? ⟨w.heap.size, 1, none⟩ = some (.int .i64 0) ∧ u.cell? ⟨w.heap.size, 2, none⟩ = some (.int .i64 0) ∧ u.cell? ⟨w.heap.size, 3, none⟩ = some (.int .i64 0) ∧ (∀ j, u.frozen? ⟨w.heap.size, j, none⟩ = false) ∧ w.heap.size < u.heap.size) := fun u hu => ⟨cell_keep hu r0, cell_keep hu r1, cell_keep hu r2, cell_keep hu r3, fun j => by rw [(bcell hu).2 _ _ rl]; exact rf j, Nat.lt_of_lt_of_le rl hu.size⟩
  have HB0 : Hid (Below w.heap.size w W) := hb0
  have HR : Hid (W.rangeAt 0 0 [.int .i64 1, .int .i64 1, .int .i64 12, .int .i64 13, .int .i64 2, .int .i64 2, .int .i64 12, .int .i64 14, .int .i64 4, .int .i64 2, .int .i64 2, .int .i64 15, .int .i64 8, .int .i64 2, .int .i64 6, .int .i64 16]) := (hF.below hb0).range
  have HK : Hid (∀ u, Below w.heap.size w u → u.cell? ⟨gk, off, none⟩ = some (.int .i64 j) ∧ u.cell? ⟨gk, off + 7, none⟩ = some (.int .i64 k)) := fun u hu => ⟨cell_keep hu hc1, cell_keep hu hc2⟩
  have HA : Hid (∀ bit, bit = 1 ∨ bit = 2 ∨ bit = 4 ∨ bit = 8 → (bits BinOp.and IntKind.i64 tb bit != 0) = bitT tb bit) := fun bit hb => bits_any tb bit h1 h2 hb
  obtain ⟨X, hX⟩ : ∃ X, X = twoK tb j k := ⟨_, rfl⟩
  have HX : Hid (X = twoK tb j k) := hX
  rw [← hX]
  have hn2 : ¬ ((n : Int) < 2) := by omega
  have hn0 : (0 : Int) < (n : Int) := by omega
  have hn1 : (1 : Int) < (n : Int) := by omega
  clear hF hb0 hW r0 r1 r2 r3 rf rl hc1 hc2 hX h1 h2
  go_enter Tryz.func85, Tryz.ntmps85
  go_wp2_with (rw [← HW.out]; refine wpList_load_mid rfl 150 _ rfl 0 0 rfl [.int .i64 1, .int .i64 1, .int .i64 12, .int .i64 13, .int .i64 2, .int .i64 2, .int .i64 12, .int .i64 14, .int .i64 4, .int .i64 2, .int .i64 2, .int .i64 15, .int .i64 8, .int .i64 2, .int .i64 6, .int .i64 16] _ HR.out Tryz.underlying150 rfl (by kernel_rfl) ?_; clear HR)
  go_loopw [13] (fun i wr => ∃ m : Nat, m ≤ 4 ∧ i = .int .i64 (m : Int) ∧ Hid (∀ q, q < m → ¬ hitF tb j k q) ∧ Below W.heap.size W wr) (fun i _ => 4 - (RowKit.intOf i).toNat)
  case atStart => exact ⟨0, by omega, rfl, fun q hq => by omega, Below.refl _ _⟩
  case round =>
    obtain ⟨m, hm, rfl, HN, hb⟩ := hrel
    obtain ⟨q0, q1, q2, q3, qf, ql⟩ := HQ.out wr hb
    have HB : Hid (Below w.heap.size w wr) := HB0.out.trans (hb.mono HB0.out.size)
    have HBW : Hid (Below W.heap.size W wr) := hb
    have hwz : W.heap.size ≤ wr.heap.size := hb.size
    obtain ⟨e1, e2⟩ := HK.out wr HB.out
    clear hb
    rcases (show m = 0 ∨ m = 1 ∨ m = 2 ∨ m = 3 ∨ m = 4 by omega) with rfl | rfl | rfl | rfl | rfl
    · have hxb := HA.out 1 (by simp)
      have hix := idxFu0
      cases hbt : bitT tb 1 with
      | false =>
        have HN2 : Hid (∀ q, q < 1 → ¬ hitF tb j k q) := fun q hq => by
          by_cases e : q < 0
          · exact HN.out q e
          · have : q = 0 := by omega
            subst this
            exact fun hh => by have h9 := hh.1; simp [fusT] at h9; rw [hbt] at h9; cases h9
        rw [hbt] at hxb
        clear HN hbt
        have b1 : Below wr.heap.size wr (wr.alloc (.cells #[.int .i64 1, .int .i64 1, .int .i64 12, .int .i64 13] 102)) := bnew _ _
        obtain ⟨W1, hW1⟩ : ∃ W1, W1 = wr.alloc (.cells #[.int .i64 1, .int .i64 1, .int .i64 12, .int .i64 13] 102) := ⟨_, rfl⟩
        have HW1 : Hid (W1 = wr.alloc (.cells #[.int .i64 1, .int .i64 1, .int .i64 12, .int .i64 13] 102)) := hW1
        rw [← hW1] at b1
        have HB1 : Hid (Below wr.heap.size wr W1) := b1
        have g0 : W1.cell? ⟨wr.heap.size, 0, none⟩ = some (.int .i64 1) := by rw [hW1]; simp [go_sem]
        have g1 : W1.cell? ⟨wr.heap.size, 1, none⟩ = some (.int .i64 1) := by rw [hW1]; simp [go_sem]
        have g2 : W1.cell? ⟨wr.heap.size, 2, none⟩ = some (.int .i64 12) := by rw [hW1]; simp [go_sem]
        have g3 : W1.cell? ⟨wr.heap.size, 3, none⟩ = some (.int .i64 13) := by rw [hW1]; simp [go_sem]
        have x0 : ∀ p : BW W1, p.x.cell? ⟨wr.heap.size, 0, none⟩ = some (.int .i64 1) := fun p => p.cell g0
        have x1 : ∀ p : BW W1, p.x.cell? ⟨wr.heap.size, 1, none⟩ = some (.int .i64 1) := fun p => p.cell g1
        have x2 : ∀ p : BW W1, p.x.cell? ⟨wr.heap.size, 2, none⟩ = some (.int .i64 12) := fun p => p.cell g2
        have y0 : ∀ p : BW W1, p.x.cell? ⟨gk, off, none⟩ = some (.int .i64 j) := fun p => p.cell (cell_keep b1 e1)
        have y1 : ∀ p : BW W1, p.x.cell? ⟨gk, off + 7, none⟩ = some (.int .i64 k) := fun p => p.cell (cell_keep b1 e2)
        have hne := bw_some W1
        clear hW1 b1 e1 e2 q0 q1 q2 q3 qf ql
        go_wp2_with fail
        rw [← HW1.out]
        clear HW1
        refine wp_region_below (by kernel_rfl) (by kernel_rfl) ?_
        repeat (go_big_quiet_step (fail))
        refine wpQuiet_nil ?_
        intro wq hw'
        obtain ⟨⟨_, bq⟩, rfl⟩ := hw'
        have HBq : Hid (Below wr.heap.size wr wq) := HB1.out.trans (bq.mono HB1.out.size)
        have k0 := cell_keep bq g0
        have k1 := cell_keep bq g1
        have k2 := cell_keep bq g2
        have k3 := cell_keep bq g3
        clear bq x0 x1 x2 y0 y1 hne g0 g1 g2 g3 HB1
        have HBz : Hid (Below W.heap.size W wq) := HBW.out.trans (HBq.out.mono HBW.out.size)
        obtain ⟨q0, q1, q2, q3, qf, ql⟩ := HQ.out wq HBz.out
        go_wp2
        exact ⟨⟨1, by omega, rfl, HN2.out, HBz.out⟩, by simp [RowKit.intOf]⟩
      | true =>
        by_cases hk1 : j = 1
        · by_cases hk2 : k = 12
          · have hh : hitF tb j k 0 := ⟨hbt, hk1, hk2⟩
            have HT : Hid (X = 13) := by show _ = _; rw [HX.out, twoK_hit (by omega) hh]; rfl
            have hk1' : (j == 1) = true := by rw [hk1]; rfl
            have hk2' : (k == 12) = true := by rw [hk2]; rfl
            rw [hbt] at hxb
            clear HN hbt hh hk1 hk2
            have b1 : Below wr.heap.size wr (wr.alloc (.cells #[.int .i64 1, .int .i64 1, .int .i64 12, .int .i64 13] 102)) := bnew _ _
            obtain ⟨W1, hW1⟩ : ∃ W1, W1 = wr.alloc (.cells #[.int .i64 1, .int .i64 1, .int .i64 12, .int .i64 13] 102) := ⟨_, rfl⟩
            have HW1 : Hid (W1 = wr.alloc (.cells #[.int .i64 1, .int .i64 1, .int .i64 12, .int .i64 13] 102)) := hW1
            rw [← hW1] at b1
            have HB1 : Hid (Below wr.heap.size wr W1) := b1
            have g0 : W1.cell? ⟨wr.heap.size, 0, none⟩ = some (.int .i64 1) := by rw [hW1]; simp [go_sem]
            have g1 : W1.cell? ⟨wr.heap.size, 1, none⟩ = some (.int .i64 1) := by rw [hW1]; simp [go_sem]
            have g2 : W1.cell? ⟨wr.heap.size, 2, none⟩ = some (.int .i64 12) := by rw [hW1]; simp [go_sem]
            have g3 : W1.cell? ⟨wr.heap.size, 3, none⟩ = some (.int .i64 13) := by rw [hW1]; simp [go_sem]
            have x0 : ∀ p : BW W1, p.x.cell? ⟨wr.heap.size, 0, none⟩ = some (.int .i64 1) := fun p => p.cell g0
            have x1 : ∀ p : BW W1, p.x.cell? ⟨wr.heap.size, 1, none⟩ = some (.int .i64 1) := fun p => p.cell g1
            have x2 : ∀ p : BW W1, p.x.cell? ⟨wr.heap.size, 2, none⟩ = some (.int .i64 12) := fun p => p.cell g2
            have y0 : ∀ p : BW W1, p.x.cell? ⟨gk, off, none⟩ = some (.int .i64 j) := fun p => p.cell (cell_keep b1 e1)
            have y1 : ∀ p : BW W1, p.x.cell? ⟨gk, off + 7, none⟩ = some (.int .i64 k) := fun p => p.cell (cell_keep b1 e2)
            have hne := bw_some W1
            clear hW1 b1 e1 e2 q0 q1 q2 q3 qf ql
            go_wp2_with fail
            rw [← HW1.out]
            clear HW1
            refine wp_region_below (by kernel_rfl) (by kernel_rfl) ?_
            repeat (go_big_quiet_step (fail))
            refine wpQuiet_nil ?_
            intro wq hw'
            obtain ⟨⟨_, bq⟩, rfl⟩ := hw'
            have HBq : Hid (Below wr.heap.size wr wq) := HB1.out.trans (bq.mono HB1.out.size)
            have k0 := cell_keep bq g0
            have k1 := cell_keep bq g1
            have k2 := cell_keep bq g2
            have k3 := cell_keep bq g3
            clear bq x0 x1 x2 y0 y1 hne g0 g1 g2 g3 HB1
            have HBz : Hid (Below W.heap.size W wq) := HBW.out.trans (HBq.out.mono HBW.out.size)
            obtain ⟨q0, q1, q2, q3, qf, ql⟩ := HQ.out wq HBz.out
            have HBe : Hid (Below w.heap.size w wq) := HB.out.trans (HBq.out.mono HB.out.size)
            go_wp2
            refine bodyPost_ret (v := .tuple #[fusV 0, .bool true]) (by simp [results, Tryz.results85, go_sem, fusV, fusT, q0, q1, q2, q3]) rfl ⟨by rw [HT.out]; rfl, ?_⟩
            repeat (first | exact HBe.out | refine Below.setCell ?_ (by simp) _)
          · have HN2 : Hid (∀ q, q < 1 → ¬ hitF tb j k q) := fun q hq => by
              by_cases e : q < 0
              · exact HN.out q e
              · have : q = 0 := by omega
                subst this
                exact fun hh => hk2 hh.2.2
            have hk2' : (k == 12) = false := by rw [beq_eq_false_iff_ne]; exact hk2
            have hk1' : (j == 1) = true := by rw [hk1]; rfl
            rw [hbt] at hxb
            clear HN hbt hk1 hk2
            have b1 : Below wr.heap.size wr (wr.alloc (.cells #[.int .i64 1, .int .i64 1, .int .i64 12, .int .i64 13] 102)) := bnew _ _
            obtain ⟨W1, hW1⟩ : ∃ W1, W1 = wr.alloc (.cells #[.int .i64 1, .int .i64 1, .int .i64 12, .int .i64 13] 102) := ⟨_, rfl⟩
            have HW1 : Hid (W1 = wr.alloc (.cells #[.int .i64 1, .int .i64 1, .int .i64 12, .int .i64 13] 102)) := hW1
            rw [← hW1] at b1
            have HB1 : Hid (Below wr.heap.size wr W1) := b1
            have g0 : W1.cell? ⟨wr.heap.size, 0, none⟩ = some (.int .i64 1) := by rw [hW1]; simp [go_sem]
            have g1 : W1.cell? ⟨wr.heap.size, 1, none⟩ = some (.int .i64 1) := by rw [hW1]; simp [go_sem]
            have g2 : W1.cell? ⟨wr.heap.size, 2, none⟩ = some (.int .i64 12) := by rw [hW1]; simp [go_sem]
            have g3 : W1.cell? ⟨wr.heap.size, 3, none⟩ = some (.int .i64 13) := by rw [hW1]; simp [go_sem]
            have x0 : ∀ p : BW W1, p.x.cell? ⟨wr.heap.size, 0, none⟩ = some (.int .i64 1) := fun p => p.cell g0
            have x1 : ∀ p : BW W1, p.x.cell? ⟨wr.heap.size, 1, none⟩ = some (.int .i64 1) := fun p => p.cell g1
            have x2 : ∀ p : BW W1, p.x.cell? ⟨wr.heap.size, 2, none⟩ = some (.int .i64 12) := fun p => p.cell g2
            have y0 : ∀ p : BW W1, p.x.cell? ⟨gk, off, none⟩ = some (.int .i64 j) := fun p => p.cell (cell_keep b1 e1)
            have y1 : ∀ p : BW W1, p.x.cell? ⟨gk, off + 7, none⟩ = some (.int .i64 k) := fun p => p.cell (cell_keep b1 e2)
            have hne := bw_some W1
            clear hW1 b1 e1 e2 q0 q1 q2 q3 qf ql
            go_wp2_with fail
            rw [← HW1.out]
            clear HW1
            refine wp_region_below (by kernel_rfl) (by kernel_rfl) ?_
            repeat (go_big_quiet_step (fail))
            refine wpQuiet_nil ?_
            intro wq hw'
            obtain ⟨⟨_, bq⟩, rfl⟩ := hw'
            have HBq : Hid (Below wr.heap.size wr wq) := HB1.out.trans (bq.mono HB1.out.size)
            have k0 := cell_keep bq g0
            have k1 := cell_keep bq g1
            have k2 := cell_keep bq g2
            have k3 := cell_keep bq g3
            clear bq x0 x1 x2 y0 y1 hne g0 g1 g2 g3 HB1
            have HBz : Hid (Below W.heap.size W wq) := HBW.out.trans (HBq.out.mono HBW.out.size)
            obtain ⟨q0, q1, q2, q3, qf, ql⟩ := HQ.out wq HBz.out
            go_wp2
            exact ⟨⟨1, by omega, rfl, HN2.out, HBz.out⟩, by simp [RowKit.intOf]⟩
        · have HN2 : Hid (∀ q, q < 1 → ¬ hitF tb j k q) := fun q hq => by
            by_cases e : q < 0
            · exact HN.out q e
            · have : q = 0 := by omega
              subst this
              exact fun hh => hk1 hh.2.1
          have hk1' : (j == 1) = false := by rw [beq_eq_false_iff_ne]; exact hk1
          rw [hbt] at hxb
          clear HN hbt hk1
          have b1 : Below wr.heap.size wr (wr.alloc (.cells #[.int .i64 1, .int .i64 1, .int .i64 12, .int .i64 13] 102)) := bnew _ _
          obtain ⟨W1, hW1⟩ : ∃ W1, W1 = wr.alloc (.cells #[.int .i64 1, .int .i64 1, .int .i64 12, .int .i64 13] 102) := ⟨_, rfl⟩
          have HW1 : Hid (W1 = wr.alloc (.cells #[.int .i64 1, .int .i64 1, .int .i64 12, .int .i64 13] 102)) := hW1
          rw [← hW1] at b1
          have HB1 : Hid (Below wr.heap.size wr W1) := b1
          have g0 : W1.cell? ⟨wr.heap.size, 0, none⟩ = some (.int .i64 1) := by rw [hW1]; simp [go_sem]
          have g1 : W1.cell? ⟨wr.heap.size, 1, none⟩ = some (.int .i64 1) := by rw [hW1]; simp [go_sem]
          have g2 : W1.cell? ⟨wr.heap.size, 2, none⟩ = some (.int .i64 12) := by rw [hW1]; simp [go_sem]
          have g3 : W1.cell? ⟨wr.heap.size, 3, none⟩ = some (.int .i64 13) := by rw [hW1]; simp [go_sem]
          have x0 : ∀ p : BW W1, p.x.cell? ⟨wr.heap.size, 0, none⟩ = some (.int .i64 1) := fun p => p.cell g0
          have x1 : ∀ p : BW W1, p.x.cell? ⟨wr.heap.size, 1, none⟩ = some (.int .i64 1) := fun p => p.cell g1
          have x2 : ∀ p : BW W1, p.x.cell? ⟨wr.heap.size, 2, none⟩ = some (.int .i64 12) := fun p => p.cell g2
          have y0 : ∀ p : BW W1, p.x.cell? ⟨gk, off, none⟩ = some (.int .i64 j) := fun p => p.cell (cell_keep b1 e1)
          have y1 : ∀ p : BW W1, p.x.cell? ⟨gk, off + 7, none⟩ = some (.int .i64 k) := fun p => p.cell (cell_keep b1 e2)
          have hne := bw_some W1
          clear hW1 b1 e1 e2 q0 q1 q2 q3 qf ql
          go_wp2_with fail
          rw [← HW1.out]
          clear HW1
          refine wp_region_below (by kernel_rfl) (by kernel_rfl) ?_
          repeat (go_big_quiet_step (fail))
          refine wpQuiet_nil ?_
          intro wq hw'
          obtain ⟨⟨_, bq⟩, rfl⟩ := hw'
          have HBq : Hid (Below wr.heap.size wr wq) := HB1.out.trans (bq.mono HB1.out.size)
          have k0 := cell_keep bq g0
          have k1 := cell_keep bq g1
          have k2 := cell_keep bq g2
          have k3 := cell_keep bq g3
          clear bq x0 x1 x2 y0 y1 hne g0 g1 g2 g3 HB1
          have HBz : Hid (Below W.heap.size W wq) := HBW.out.trans (HBq.out.mono HBW.out.size)
          obtain ⟨q0, q1, q2, q3, qf, ql⟩ := HQ.out wq HBz.out
          go_wp2
          exact ⟨⟨1, by omega, rfl, HN2.out, HBz.out⟩, by simp [RowKit.intOf]⟩
    · have hxb := HA.out 2 (by simp)
      have hix := idxFu1
      cases hbt : bitT tb 2 with
      | false =>
        have HN2 : Hid (∀ q, q < 2 → ¬ hitF tb j k q) := fun q hq => by
          by_cases e : q < 1
          · exact HN.out q e
          · have : q = 1 := by omega
            subst this
            exact fun hh => by have h9 := hh.1; simp [fusT] at h9; rw [hbt] at h9; cases h9
        rw [hbt] at hxb
        clear HN hbt
        have b1 : Below wr.heap.size wr (wr.alloc (.cells #[.int .i64 2, .int .i64 2, .int .i64 12, .int .i64 14] 102)) := bnew _ _
        obtain ⟨W1, hW1⟩ : ∃ W1, W1 = wr.alloc (.cells #[.int .i64 2, .int .i64 2, .int .i64 12, .int .i64 14] 102) := ⟨_, rfl⟩
        have HW1 : Hid (W1 = wr.alloc (.cells #[.int .i64 2, .int .i64 2, .int .i64 12, .int .i64 14] 102)) := hW1
        rw [← hW1] at b1
        have HB1 : Hid (Below wr.heap.size wr W1) := b1
        have g0 : W1.cell? ⟨wr.heap.size, 0, none⟩ = some (.int .i64 2) := by rw [hW1]; simp [go_sem]
        have g1 : W1.cell? ⟨wr.heap.size, 1, none⟩ = some (.int .i64 2) := by rw [hW1]; simp [go_sem]
        have g2 : W1.cell? ⟨wr.heap.size, 2, none⟩ = some (.int .i64 12) := by rw [hW1]; simp [go_sem]
        have g3 : W1.cell? ⟨wr.heap.size, 3, none⟩ = some (.int .i64 14) := by rw [hW1]; simp [go_sem]
        have x0 : ∀ p : BW W1, p.x.cell? ⟨wr.heap.size, 0, none⟩ = some (.int .i64 2) := fun p => p.cell g0
        have x1 : ∀ p : BW W1, p.x.cell? ⟨wr.heap.size, 1, none⟩ = some (.int .i64 2) := fun p => p.cell g1
        have x2 : ∀ p : BW W1, p.x.cell? ⟨wr.heap.size, 2, none⟩ = some (.int .i64 12) := fun p => p.cell g2
        have y0 : ∀ p : BW W1, p.x.cell? ⟨gk, off, none⟩ = some (.int .i64 j) := fun p => p.cell (cell_keep b1 e1)
        have y1 : ∀ p : BW W1, p.x.cell? ⟨gk, off + 7, none⟩ = some (.int .i64 k) := fun p => p.cell (cell_keep b1 e2)
        have hne := bw_some W1
        clear hW1 b1 e1 e2 q0 q1 q2 q3 qf ql
        go_wp2_with fail
        rw [← HW1.out]
        clear HW1
        refine wp_region_below (by kernel_rfl) (by kernel_rfl) ?_
        repeat (go_big_quiet_step (fail))
        refine wpQuiet_nil ?_
        intro wq hw'
        obtain ⟨⟨_, bq⟩, rfl⟩ := hw'
        have HBq : Hid (Below wr.heap.size wr wq) := HB1.out.trans (bq.mono HB1.out.size)
        have k0 := cell_keep bq g0
        have k1 := cell_keep bq g1
        have k2 := cell_keep bq g2
        have k3 := cell_keep bq g3
        clear bq x0 x1 x2 y0 y1 hne g0 g1 g2 g3 HB1
        have HBz : Hid (Below W.heap.size W wq) := HBW.out.trans (HBq.out.mono HBW.out.size)
        obtain ⟨q0, q1, q2, q3, qf, ql⟩ := HQ.out wq HBz.out
        go_wp2
        exact ⟨⟨2, by omega, rfl, HN2.out, HBz.out⟩, by simp [RowKit.intOf]⟩
      | true =>
        by_cases hk1 : j = 2
        · by_cases hk2 : k = 12
          · have hh : hitF tb j k 1 := ⟨hbt, hk1, hk2⟩
            have HT : Hid (X = 14) := by show _ = _; rw [HX.out, twoK_hit (by omega) hh]; rfl
            have hk1' : (j == 2) = true := by rw [hk1]; rfl
            have hk2' : (k == 12) = true := by rw [hk2]; rfl
            rw [hbt] at hxb
            clear HN hbt hh hk1 hk2
            have b1 : Below wr.heap.size wr (wr.alloc (.cells #[.int .i64 2, .int .i64 2, .int .i64 12, .int .i64 14] 102)) := bnew _ _
            obtain ⟨W1, hW1⟩ : ∃ W1, W1 = wr.alloc (.cells #[.int .i64 2, .int .i64 2, .int .i64 12, .int .i64 14] 102) := ⟨_, rfl⟩
            have HW1 : Hid (W1 = wr.alloc (.cells #[.int .i64 2, .int .i64 2, .int .i64 12, .int .i64 14] 102)) := hW1
            rw [← hW1] at b1
            have HB1 : Hid (Below wr.heap.size wr W1) := b1
            have g0 : W1.cell? ⟨wr.heap.size, 0, none⟩ = some (.int .i64 2) := by rw [hW1]; simp [go_sem]
            have g1 : W1.cell? ⟨wr.heap.size, 1, none⟩ = some (.int .i64 2) := by rw [hW1]; simp [go_sem]
            have g2 : W1.cell? ⟨wr.heap.size, 2, none⟩ = some (.int .i64 12) := by rw [hW1]; simp [go_sem]
            have g3 : W1.cell? ⟨wr.heap.size, 3, none⟩ = some (.int .i64 14) := by rw [hW1]; simp [go_sem]
            have x0 : ∀ p : BW W1, p.x.cell? ⟨wr.heap.size, 0, none⟩ = some (.int .i64 2) := fun p => p.cell g0
            have x1 : ∀ p : BW W1, p.x.cell? ⟨wr.heap.size, 1, none⟩ = some (.int .i64 2) := fun p => p.cell g1
            have x2 : ∀ p : BW W1, p.x.cell? ⟨wr.heap.size, 2, none⟩ = some (.int .i64 12) := fun p => p.cell g2
            have y0 : ∀ p : BW W1, p.x.cell? ⟨gk, off, none⟩ = some (.int .i64 j) := fun p => p.cell (cell_keep b1 e1)
            have y1 : ∀ p : BW W1, p.x.cell? ⟨gk, off + 7, none⟩ = some (.int .i64 k) := fun p => p.cell (cell_keep b1 e2)
            have hne := bw_some W1
            clear hW1 b1 e1 e2 q0 q1 q2 q3 qf ql
            go_wp2_with fail
            rw [← HW1.out]
            clear HW1
            refine wp_region_below (by kernel_rfl) (by kernel_rfl) ?_
            repeat (go_big_quiet_step (fail))
            refine wpQuiet_nil ?_
            intro wq hw'
            obtain ⟨⟨_, bq⟩, rfl⟩ := hw'
            have HBq : Hid (Below wr.heap.size wr wq) := HB1.out.trans (bq.mono HB1.out.size)
            have k0 := cell_keep bq g0
            have k1 := cell_keep bq g1
            have k2 := cell_keep bq g2
            have k3 := cell_keep bq g3
            clear bq x0 x1 x2 y0 y1 hne g0 g1 g2 g3 HB1
            have HBz : Hid (Below W.heap.size W wq) := HBW.out.trans (HBq.out.mono HBW.out.size)
            obtain ⟨q0, q1, q2, q3, qf, ql⟩ := HQ.out wq HBz.out
            have HBe : Hid (Below w.heap.size w wq) := HB.out.trans (HBq.out.mono HB.out.size)
            go_wp2
            refine bodyPost_ret (v := .tuple #[fusV 1, .bool true]) (by simp [results, Tryz.results85, go_sem, fusV, fusT, q0, q1, q2, q3]) rfl ⟨by rw [HT.out]; rfl, ?_⟩
            repeat (first | exact HBe.out | refine Below.setCell ?_ (by simp) _)
          · have HN2 : Hid (∀ q, q < 2 → ¬ hitF tb j k q) := fun q hq => by
              by_cases e : q < 1
              · exact HN.out q e
              · have : q = 1 := by omega
                subst this
                exact fun hh => hk2 hh.2.2
            have hk2' : (k == 12) = false := by rw [beq_eq_false_iff_ne]; exact hk2
            have hk1' : (j == 2) = true := by rw [hk1]; rfl
            rw [hbt] at hxb
            clear HN hbt hk1 hk2
            have b1 : Below wr.heap.size wr (wr.alloc (.cells #[.int .i64 2, .int .i64 2, .int .i64 12, .int .i64 14] 102)) := bnew _ _
            obtain ⟨W1, hW1⟩ : ∃ W1, W1 = wr.alloc (.cells #[.int .i64 2, .int .i64 2, .int .i64 12, .int .i64 14] 102) := ⟨_, rfl⟩
            have HW1 : Hid (W1 = wr.alloc (.cells #[.int .i64 2, .int .i64 2, .int .i64 12, .int .i64 14] 102)) := hW1
            rw [← hW1] at b1
            have HB1 : Hid (Below wr.heap.size wr W1) := b1
            have g0 : W1.cell? ⟨wr.heap.size, 0, none⟩ = some (.int .i64 2) := by rw [hW1]; simp [go_sem]
            have g1 : W1.cell? ⟨wr.heap.size, 1, none⟩ = some (.int .i64 2) := by rw [hW1]; simp [go_sem]
            have g2 : W1.cell? ⟨wr.heap.size, 2, none⟩ = some (.int .i64 12) := by rw [hW1]; simp [go_sem]
            have g3 : W1.cell? ⟨wr.heap.size, 3, none⟩ = some (.int .i64 14) := by rw [hW1]; simp [go_sem]
            have x0 : ∀ p : BW W1, p.x.cell? ⟨wr.heap.size, 0, none⟩ = some (.int .i64 2) := fun p => p.cell g0
            have x1 : ∀ p : BW W1, p.x.cell? ⟨wr.heap.size, 1, none⟩ = some (.int .i64 2) := fun p => p.cell g1
            have x2 : ∀ p : BW W1, p.x.cell? ⟨wr.heap.size, 2, none⟩ = some (.int .i64 12) := fun p => p.cell g2
            have y0 : ∀ p : BW W1, p.x.cell? ⟨gk, off, none⟩ = some (.int .i64 j) := fun p => p.cell (cell_keep b1 e1)
            have y1 : ∀ p : BW W1, p.x.cell? ⟨gk, off + 7, none⟩ = some (.int .i64 k) := fun p => p.cell (cell_keep b1 e2)
            have hne := bw_some W1
            clear hW1 b1 e1 e2 q0 q1 q2 q3 qf ql
            go_wp2_with fail
            rw [← HW1.out]
            clear HW1
            refine wp_region_below (by kernel_rfl) (by kernel_rfl) ?_
            repeat (go_big_quiet_step (fail))
            refine wpQuiet_nil ?_
            intro wq hw'
            obtain ⟨⟨_, bq⟩, rfl⟩ := hw'
            have HBq : Hid (Below wr.heap.size wr wq) := HB1.out.trans (bq.mono HB1.out.size)
            have k0 := cell_keep bq g0
            have k1 := cell_keep bq g1
            have k2 := cell_keep bq g2
            have k3 := cell_keep bq g3
            clear bq x0 x1 x2 y0 y1 hne g0 g1 g2 g3 HB1
            have HBz : Hid (Below W.heap.size W wq) := HBW.out.trans (HBq.out.mono HBW.out.size)
            obtain ⟨q0, q1, q2, q3, qf, ql⟩ := HQ.out wq HBz.out
            go_wp2
            exact ⟨⟨2, by omega, rfl, HN2.out, HBz.out⟩, by simp [RowKit.intOf]⟩
        · have HN2 : Hid (∀ q, q < 2 → ¬ hitF tb j k q) := fun q hq => by
            by_cases e : q < 1
            · exact HN.out q e
            · have : q = 1 := by omega
              subst this
              exact fun hh => hk1 hh.2.1
          have hk1' : (j == 2) = false := by rw [beq_eq_false_iff_ne]; exact hk1
          rw [hbt] at hxb
          clear HN hbt hk1
          have b1 : Below wr.heap.size wr (wr.alloc (.cells #[.int .i64 2, .int .i64 2, .int .i64 12, .int .i64 14] 102)) := bnew _ _
          obtain ⟨W1, hW1⟩ : ∃ W1, W1 = wr.alloc (.cells #[.int .i64 2, .int .i64 2, .int .i64 12, .int .i64 14] 102) := ⟨_, rfl⟩
          have HW1 : Hid (W1 = wr.alloc (.cells #[.int .i64 2, .int .i64 2, .int .i64 12, .int .i64 14] 102)) := hW1
          rw [← hW1] at b1
          have HB1 : Hid (Below wr.heap.size wr W1) := b1
          have g0 : W1.cell? ⟨wr.heap.size, 0, none⟩ = some (.int .i64 2) := by rw [hW1]; simp [go_sem]
          have g1 : W1.cell? ⟨wr.heap.size, 1, none⟩ = some (.int .i64 2) := by rw [hW1]; simp [go_sem]
          have g2 : W1.cell? ⟨wr.heap.size, 2, none⟩ = some (.int .i64 12) := by rw [hW1]; simp [go_sem]
          have g3 : W1.cell? ⟨wr.heap.size, 3, none⟩ = some (.int .i64 14) := by rw [hW1]; simp [go_sem]
          have x0 : ∀ p : BW W1, p.x.cell? ⟨wr.heap.size, 0, none⟩ = some (.int .i64 2) := fun p => p.cell g0
          have x1 : ∀ p : BW W1, p.x.cell? ⟨wr.heap.size, 1, none⟩ = some (.int .i64 2) := fun p => p.cell g1
          have x2 : ∀ p : BW W1, p.x.cell? ⟨wr.heap.size, 2, none⟩ = some (.int .i64 12) := fun p => p.cell g2
          have y0 : ∀ p : BW W1, p.x.cell? ⟨gk, off, none⟩ = some (.int .i64 j) := fun p => p.cell (cell_keep b1 e1)
          have y1 : ∀ p : BW W1, p.x.cell? ⟨gk, off + 7, none⟩ = some (.int .i64 k) := fun p => p.cell (cell_keep b1 e2)
          have hne := bw_some W1
          clear hW1 b1 e1 e2 q0 q1 q2 q3 qf ql
          go_wp2_with fail
          rw [← HW1.out]
          clear HW1
          refine wp_region_below (by kernel_rfl) (by kernel_rfl) ?_
          repeat (go_big_quiet_step (fail))
          refine wpQuiet_nil ?_
          intro wq hw'
          obtain ⟨⟨_, bq⟩, rfl⟩ := hw'
          have HBq : Hid (Below wr.heap.size wr wq) := HB1.out.trans (bq.mono HB1.out.size)
          have k0 := cell_keep bq g0
          have k1 := cell_keep bq g1
          have k2 := cell_keep bq g2
          have k3 := cell_keep bq g3
          clear bq x0 x1 x2 y0 y1 hne g0 g1 g2 g3 HB1
          have HBz : Hid (Below W.heap.size W wq) := HBW.out.trans (HBq.out.mono HBW.out.size)
          obtain ⟨q0, q1, q2, q3, qf, ql⟩ := HQ.out wq HBz.out
          go_wp2
          exact ⟨⟨2, by omega, rfl, HN2.out, HBz.out⟩, by simp [RowKit.intOf]⟩
    · have hxb := HA.out 4 (by simp)
      have hix := idxFu2
      cases hbt : bitT tb 4 with
      | false =>
        have HN2 : Hid (∀ q, q < 3 → ¬ hitF tb j k q) := fun q hq => by
          by_cases e : q < 2
          · exact HN.out q e
          · have : q = 2 := by omega
            subst this
            exact fun hh => by have h9 := hh.1; simp [fusT] at h9; rw [hbt] at h9; cases h9
        rw [hbt] at hxb
        clear HN hbt
        have b1 : Below wr.heap.size wr (wr.alloc (.cells #[.int .i64 4, .int .i64 2, .int .i64 2, .int .i64 15] 102)) := bnew _ _
        obtain ⟨W1, hW1⟩ : ∃ W1, W1 = wr.alloc (.cells #[.int .i64 4, .int .i64 2, .int .i64 2, .int .i64 15] 102) := ⟨_, rfl⟩
        have HW1 : Hid (W1 = wr.alloc (.cells #[.int .i64 4, .int .i64 2, .int .i64 2, .int .i64 15] 102)) := hW1
        rw [← hW1] at b1
        have HB1 : Hid (Below wr.heap.size wr W1) := b1
        have g0 : W1.cell? ⟨wr.heap.size, 0, none⟩ = some (.int .i64 4) := by rw [hW1]; simp [go_sem]
        have g1 : W1.cell? ⟨wr.heap.size, 1, none⟩ = some (.int .i64 2) := by rw [hW1]; simp [go_sem]
        have g2 : W1.cell? ⟨wr.heap.size, 2, none⟩ = some (.int .i64 2) := by rw [hW1]; simp [go_sem]
        have g3 : W1.cell? ⟨wr.heap.size, 3, none⟩ = some (.int .i64 15) := by rw [hW1]; simp [go_sem]
        have x0 : ∀ p : BW W1, p.x.cell? ⟨wr.heap.size, 0, none⟩ = some (.int .i64 4) := fun p => p.cell g0
        have x1 : ∀ p : BW W1, p.x.cell? ⟨wr.heap.size, 1, none⟩ = some (.int .i64 2) := fun p => p.cell g1
        have x2 : ∀ p : BW W1, p.x.cell? ⟨wr.heap.size, 2, none⟩ = some (.int .i64 2) := fun p => p.cell g2
        have y0 : ∀ p : BW W1, p.x.cell? ⟨gk, off, none⟩ = some (.int .i64 j) := fun p => p.cell (cell_keep b1 e1)
        have y1 : ∀ p : BW W1, p.x.cell? ⟨gk, off + 7, none⟩ = some (.int .i64 k) := fun p => p.cell (cell_keep b1 e2)
        have hne := bw_some W1
        clear hW1 b1 e1 e2 q0 q1 q2 q3 qf ql
        go_wp2_with fail
        rw [← HW1.out]
        clear HW1
        refine wp_region_below (by kernel_rfl) (by kernel_rfl) ?_
        repeat (go_big_quiet_step (fail))
        refine wpQuiet_nil ?_
        intro wq hw'
        obtain ⟨⟨_, bq⟩, rfl⟩ := hw'
        have HBq : Hid (Below wr.heap.size wr wq) := HB1.out.trans (bq.mono HB1.out.size)
        have k0 := cell_keep bq g0
        have k1 := cell_keep bq g1
        have k2 := cell_keep bq g2
        have k3 := cell_keep bq g3
        clear bq x0 x1 x2 y0 y1 hne g0 g1 g2 g3 HB1
        have HBz : Hid (Below W.heap.size W wq) := HBW.out.trans (HBq.out.mono HBW.out.size)
        obtain ⟨q0, q1, q2, q3, qf, ql⟩ := HQ.out wq HBz.out
        go_wp2
        exact ⟨⟨3, by omega, rfl, HN2.out, HBz.out⟩, by simp [RowKit.intOf]⟩
      | true =>
        by_cases hk1 : j = 2
        · by_cases hk2 : k = 2
          · have hh : hitF tb j k 2 := ⟨hbt, hk1, hk2⟩
            have HT : Hid (X = 15) := by show _ = _; rw [HX.out, twoK_hit (by omega) hh]; rfl
            have hk1' : (j == 2) = true := by rw [hk1]; rfl
            have hk2' : (k == 2) = true := by rw [hk2]; rfl
            rw [hbt] at hxb
            clear HN hbt hh hk1 hk2
            have b1 : Below wr.heap.size wr (wr.alloc (.cells #[.int .i64 4, .int .i64 2, .int .i64 2, .int .i64 15] 102)) := bnew _ _
            obtain ⟨W1, hW1⟩ : ∃ W1, W1 = wr.alloc (.cells #[.int .i64 4, .int .i64 2, .int .i64 2, .int .i64 15] 102) := ⟨_, rfl⟩
            have HW1 : Hid (W1 = wr.alloc (.cells #[.int .i64 4, .int .i64 2, .int .i64 2, .int .i64 15] 102)) := hW1
            rw [← hW1] at b1
            have HB1 : Hid (Below wr.heap.size wr W1) := b1
            have g0 : W1.cell? ⟨wr.heap.size, 0, none⟩ = some (.int .i64 4) := by rw [hW1]; simp [go_sem]
            have g1 : W1.cell? ⟨wr.heap.size, 1, none⟩ = some (.int .i64 2) := by rw [hW1]; simp [go_sem]
            have g2 : W1.cell? ⟨wr.heap.size, 2, none⟩ = some (.int .i64 2) := by rw [hW1]; simp [go_sem]
            have g3 : W1.cell? ⟨wr.heap.size, 3, none⟩ = some (.int .i64 15) := by rw [hW1]; simp [go_sem]
            have x0 : ∀ p : BW W1, p.x.cell? ⟨wr.heap.size, 0, none⟩ = some (.int .i64 4) := fun p => p.cell g0
            have x1 : ∀ p : BW W1, p.x.cell? ⟨wr.heap.size, 1, none⟩ = some (.int .i64 2) := fun p => p.cell g1
            have x2 : ∀ p : BW W1, p.x.cell? ⟨wr.heap.size, 2, none⟩ = some (.int .i64 2) := fun p => p.cell g2
            have y0 : ∀ p : BW W1, p.x.cell? ⟨gk, off, none⟩ = some (.int .i64 j) := fun p => p.cell (cell_keep b1 e1)
            have y1 : ∀ p : BW W1, p.x.cell? ⟨gk, off + 7, none⟩ = some (.int .i64 k) := fun p => p.cell (cell_keep b1 e2)
            have hne := bw_some W1
            clear hW1 b1 e1 e2 q0 q1 q2 q3 qf ql
            go_wp2_with fail
            rw [← HW1.out]
            clear HW1
            refine wp_region_below (by kernel_rfl) (by kernel_rfl) ?_
            repeat (go_big_quiet_step (fail))
            refine wpQuiet_nil ?_
            intro wq hw'
            obtain ⟨⟨_, bq⟩, rfl⟩ := hw'
            have HBq : Hid (Below wr.heap.size wr wq) := HB1.out.trans (bq.mono HB1.out.size)
            have k0 := cell_keep bq g0
            have k1 := cell_keep bq g1
            have k2 := cell_keep bq g2
            have k3 := cell_keep bq g3
            clear bq x0 x1 x2 y0 y1 hne g0 g1 g2 g3 HB1
            have HBz : Hid (Below W.heap.size W wq) := HBW.out.trans (HBq.out.mono HBW.out.size)
            obtain ⟨q0, q1, q2, q3, qf, ql⟩ := HQ.out wq HBz.out
            have HBe : Hid (Below w.heap.size w wq) := HB.out.trans (HBq.out.mono HB.out.size)
            go_wp2
            refine bodyPost_ret (v := .tuple #[fusV 2, .bool true]) (by simp [results, Tryz.results85, go_sem, fusV, fusT, q0, q1, q2, q3]) rfl ⟨by rw [HT.out]; rfl, ?_⟩
            repeat (first | exact HBe.out | refine Below.setCell ?_ (by simp) _)
          · have HN2 : Hid (∀ q, q < 3 → ¬ hitF tb j k q) := fun q hq => by
              by_cases e : q < 2
              · exact HN.out q e
              · have : q = 2 := by omega
                subst this
                exact fun hh => hk2 hh.2.2
            have hk2' : (k == 2) = false := by rw [beq_eq_false_iff_ne]; exact hk2
            have hk1' : (j == 2) = true := by rw [hk1]; rfl
            rw [hbt] at hxb
            clear HN hbt hk1 hk2
            have b1 : Below wr.heap.size wr (wr.alloc (.cells #[.int .i64 4, .int .i64 2, .int .i64 2, .int .i64 15] 102)) := bnew _ _
            obtain ⟨W1, hW1⟩ : ∃ W1, W1 = wr.alloc (.cells #[.int .i64 4, .int .i64 2, .int .i64 2, .int .i64 15] 102) := ⟨_, rfl⟩
            have HW1 : Hid (W1 = wr.alloc (.cells #[.int .i64 4, .int .i64 2, .int .i64 2, .int .i64 15] 102)) := hW1
            rw [← hW1] at b1
            have HB1 : Hid (Below wr.heap.size wr W1) := b1
            have g0 : W1.cell? ⟨wr.heap.size, 0, none⟩ = some (.int .i64 4) := by rw [hW1]; simp [go_sem]
            have g1 : W1.cell? ⟨wr.heap.size, 1, none⟩ = some (.int .i64 2) := by rw [hW1]; simp [go_sem]
            have g2 : W1.cell? ⟨wr.heap.size, 2, none⟩ = some (.int .i64 2) := by rw [hW1]; simp [go_sem]
            have g3 : W1.cell? ⟨wr.heap.size, 3, none⟩ = some (.int .i64 15) := by rw [hW1]; simp [go_sem]
            have x0 : ∀ p : BW W1, p.x.cell? ⟨wr.heap.size, 0, none⟩ = some (.int .i64 4) := fun p => p.cell g0
            have x1 : ∀ p : BW W1, p.x.cell? ⟨wr.heap.size, 1, none⟩ = some (.int .i64 2) := fun p => p.cell g1
            have x2 : ∀ p : BW W1, p.x.cell? ⟨wr.heap.size, 2, none⟩ = some (.int .i64 2) := fun p => p.cell g2
            have y0 : ∀ p : BW W1, p.x.cell? ⟨gk, off, none⟩ = some (.int .i64 j) := fun p => p.cell (cell_keep b1 e1)
            have y1 : ∀ p : BW W1, p.x.cell? ⟨gk, off + 7, none⟩ = some (.int .i64 k) := fun p => p.cell (cell_keep b1 e2)
            have hne := bw_some W1
            clear hW1 b1 e1 e2 q0 q1 q2 q3 qf ql
            go_wp2_with fail
            rw [← HW1.out]
            clear HW1
            refine wp_region_below (by kernel_rfl) (by kernel_rfl) ?_
            repeat (go_big_quiet_step (fail))
            refine wpQuiet_nil ?_
            intro wq hw'
            obtain ⟨⟨_, bq⟩, rfl⟩ := hw'
            have HBq : Hid (Below wr.heap.size wr wq) := HB1.out.trans (bq.mono HB1.out.size)
            have k0 := cell_keep bq g0
            have k1 := cell_keep bq g1
            have k2 := cell_keep bq g2
            have k3 := cell_keep bq g3
            clear bq x0 x1 x2 y0 y1 hne g0 g1 g2 g3 HB1
            have HBz : Hid (Below W.heap.size W wq) := HBW.out.trans (HBq.out.mono HBW.out.size)
            obtain ⟨q0, q1, q2, q3, qf, ql⟩ := HQ.out wq HBz.out
            go_wp2
            exact ⟨⟨3, by omega, rfl, HN2.out, HBz.out⟩, by simp [RowKit.intOf]⟩
        · have HN2 : Hid (∀ q, q < 3 → ¬ hitF tb j k q) := fun q hq => by
            by_cases e : q < 2
            · exact HN.out q e
            · have : q = 2 := by omega
              subst this
              exact fun hh => hk1 hh.2.1
          have hk1' : (j == 2) = false := by rw [beq_eq_false_iff_ne]; exact hk1
          rw [hbt] at hxb
          clear HN hbt hk1
          have b1 : Below wr.heap.size wr (wr.alloc (.cells #[.int .i64 4, .int .i64 2, .int .i64 2, .int .i64 15] 102)) := bnew _ _
          obtain ⟨W1, hW1⟩ : ∃ W1, W1 = wr.alloc (.cells #[.int .i64 4, .int .i64 2, .int .i64 2, .int .i64 15] 102) := ⟨_, rfl⟩
          have HW1 : Hid (W1 = wr.alloc (.cells #[.int .i64 4, .int .i64 2, .int .i64 2, .int .i64 15] 102)) := hW1
          rw [← hW1] at b1
          have HB1 : Hid (Below wr.heap.size wr W1) := b1
          have g0 : W1.cell? ⟨wr.heap.size, 0, none⟩ = some (.int .i64 4) := by rw [hW1]; simp [go_sem]
          have g1 : W1.cell? ⟨wr.heap.size, 1, none⟩ = some (.int .i64 2) := by rw [hW1]; simp [go_sem]
          have g2 : W1.cell? ⟨wr.heap.size, 2, none⟩ = some (.int .i64 2) := by rw [hW1]; simp [go_sem]
          have g3 : W1.cell? ⟨wr.heap.size, 3, none⟩ = some (.int .i64 15) := by rw [hW1]; simp [go_sem]
          have x0 : ∀ p : BW W1, p.x.cell? ⟨wr.heap.size, 0, none⟩ = some (.int .i64 4) := fun p => p.cell g0
          have x1 : ∀ p : BW W1, p.x.cell? ⟨wr.heap.size, 1, none⟩ = some (.int .i64 2) := fun p => p.cell g1
          have x2 : ∀ p : BW W1, p.x.cell? ⟨wr.heap.size, 2, none⟩ = some (.int .i64 2) := fun p => p.cell g2
          have y0 : ∀ p : BW W1, p.x.cell? ⟨gk, off, none⟩ = some (.int .i64 j) := fun p => p.cell (cell_keep b1 e1)
          have y1 : ∀ p : BW W1, p.x.cell? ⟨gk, off + 7, none⟩ = some (.int .i64 k) := fun p => p.cell (cell_keep b1 e2)
          have hne := bw_some W1
          clear hW1 b1 e1 e2 q0 q1 q2 q3 qf ql
          go_wp2_with fail
          rw [← HW1.out]
          clear HW1
          refine wp_region_below (by kernel_rfl) (by kernel_rfl) ?_
          repeat (go_big_quiet_step (fail))
          refine wpQuiet_nil ?_
          intro wq hw'
          obtain ⟨⟨_, bq⟩, rfl⟩ := hw'
          have HBq : Hid (Below wr.heap.size wr wq) := HB1.out.trans (bq.mono HB1.out.size)
          have k0 := cell_keep bq g0
          have k1 := cell_keep bq g1
          have k2 := cell_keep bq g2
          have k3 := cell_keep bq g3
          clear bq x0 x1 x2 y0 y1 hne g0 g1 g2 g3 HB1
          have HBz : Hid (Below W.heap.size W wq) := HBW.out.trans (HBq.out.mono HBW.out.size)
          obtain ⟨q0, q1, q2, q3, qf, ql⟩ := HQ.out wq HBz.out
          go_wp2
          exact ⟨⟨3, by omega, rfl, HN2.out, HBz.out⟩, by simp [RowKit.intOf]⟩
    · have hxb := HA.out 8 (by simp)
      have hix := idxFu3
      cases hbt : bitT tb 8 with
      | false =>
        have HN2 : Hid (∀ q, q < 4 → ¬ hitF tb j k q) := fun q hq => by
          by_cases e : q < 3
          · exact HN.out q e
          · have : q = 3 := by omega
            subst this
            exact fun hh => by have h9 := hh.1; simp [fusT] at h9; rw [hbt] at h9; cases h9
        rw [hbt] at hxb
        clear HN hbt
        have b1 : Below wr.heap.size wr (wr.alloc (.cells #[.int .i64 8, .int .i64 2, .int .i64 6, .int .i64 16] 102)) := bnew _ _
        obtain ⟨W1, hW1⟩ : ∃ W1, W1 = wr.alloc (.cells #[.int .i64 8, .int .i64 2, .int .i64 6, .int .i64 16] 102) := ⟨_, rfl⟩
        have HW1 : Hid (W1 = wr.alloc (.cells #[.int .i64 8, .int .i64 2, .int .i64 6, .int .i64 16] 102)) := hW1
        rw [← hW1] at b1
        have HB1 : Hid (Below wr.heap.size wr W1) := b1
        have g0 : W1.cell? ⟨wr.heap.size, 0, none⟩ = some (.int .i64 8) := by rw [hW1]; simp [go_sem]
        have g1 : W1.cell? ⟨wr.heap.size, 1, none⟩ = some (.int .i64 2) := by rw [hW1]; simp [go_sem]
        have g2 : W1.cell? ⟨wr.heap.size, 2, none⟩ = some (.int .i64 6) := by rw [hW1]; simp [go_sem]
        have g3 : W1.cell? ⟨wr.heap.size, 3, none⟩ = some (.int .i64 16) := by rw [hW1]; simp [go_sem]
        have x0 : ∀ p : BW W1, p.x.cell? ⟨wr.heap.size, 0, none⟩ = some (.int .i64 8) := fun p => p.cell g0
        have x1 : ∀ p : BW W1, p.x.cell? ⟨wr.heap.size, 1, none⟩ = some (.int .i64 2) := fun p => p.cell g1
        have x2 : ∀ p : BW W1, p.x.cell? ⟨wr.heap.size, 2, none⟩ = some (.int .i64 6) := fun p => p.cell g2
        have y0 : ∀ p : BW W1, p.x.cell? ⟨gk, off, none⟩ = some (.int .i64 j) := fun p => p.cell (cell_keep b1 e1)
        have y1 : ∀ p : BW W1, p.x.cell? ⟨gk, off + 7, none⟩ = some (.int .i64 k) := fun p => p.cell (cell_keep b1 e2)
        have hne := bw_some W1
        clear hW1 b1 e1 e2 q0 q1 q2 q3 qf ql
        go_wp2_with fail
        rw [← HW1.out]
        clear HW1
        refine wp_region_below (by kernel_rfl) (by kernel_rfl) ?_
        repeat (go_big_quiet_step (fail))
        refine wpQuiet_nil ?_
        intro wq hw'
        obtain ⟨⟨_, bq⟩, rfl⟩ := hw'
        have HBq : Hid (Below wr.heap.size wr wq) := HB1.out.trans (bq.mono HB1.out.size)
        have k0 := cell_keep bq g0
        have k1 := cell_keep bq g1
        have k2 := cell_keep bq g2
        have k3 := cell_keep bq g3
        clear bq x0 x1 x2 y0 y1 hne g0 g1 g2 g3 HB1
        have HBz : Hid (Below W.heap.size W wq) := HBW.out.trans (HBq.out.mono HBW.out.size)
        obtain ⟨q0, q1, q2, q3, qf, ql⟩ := HQ.out wq HBz.out
        go_wp2
        exact ⟨⟨4, by omega, rfl, HN2.out, HBz.out⟩, by simp [RowKit.intOf]⟩
      | true =>
        by_cases hk1 : j = 2
        · by_cases hk2 : k = 6
          · have hh : hitF tb j k 3 := ⟨hbt, hk1, hk2⟩
            have HT : Hid (X = 16) := by show _ = _; rw [HX.out, twoK_hit (by omega) hh]; rfl
            have hk1' : (j == 2) = true := by rw [hk1]; rfl
            have hk2' : (k == 6) = true := by rw [hk2]; rfl
            rw [hbt] at hxb
            clear HN hbt hh hk1 hk2
            have b1 : Below wr.heap.size wr (wr.alloc (.cells #[.int .i64 8, .int .i64 2, .int .i64 6, .int .i64 16] 102)) := bnew _ _
            obtain ⟨W1, hW1⟩ : ∃ W1, W1 = wr.alloc (.cells #[.int .i64 8, .int .i64 2, .int .i64 6, .int .i64 16] 102) := ⟨_, rfl⟩
            have HW1 : Hid (W1 = wr.alloc (.cells #[.int .i64 8, .int .i64 2, .int .i64 6, .int .i64 16] 102)) := hW1
            rw [← hW1] at b1
            have HB1 : Hid (Below wr.heap.size wr W1) := b1
            have g0 : W1.cell? ⟨wr.heap.size, 0, none⟩ = some (.int .i64 8) := by rw [hW1]; simp [go_sem]
            have g1 : W1.cell? ⟨wr.heap.size, 1, none⟩ = some (.int .i64 2) := by rw [hW1]; simp [go_sem]
            have g2 : W1.cell? ⟨wr.heap.size, 2, none⟩ = some (.int .i64 6) := by rw [hW1]; simp [go_sem]
            have g3 : W1.cell? ⟨wr.heap.size, 3, none⟩ = some (.int .i64 16) := by rw [hW1]; simp [go_sem]
            have x0 : ∀ p : BW W1, p.x.cell? ⟨wr.heap.size, 0, none⟩ = some (.int .i64 8) := fun p => p.cell g0
            have x1 : ∀ p : BW W1, p.x.cell? ⟨wr.heap.size, 1, none⟩ = some (.int .i64 2) := fun p => p.cell g1
            have x2 : ∀ p : BW W1, p.x.cell? ⟨wr.heap.size, 2, none⟩ = some (.int .i64 6) := fun p => p.cell g2
            have y0 : ∀ p : BW W1, p.x.cell? ⟨gk, off, none⟩ = some (.int .i64 j) := fun p => p.cell (cell_keep b1 e1)
            have y1 : ∀ p : BW W1, p.x.cell? ⟨gk, off + 7, none⟩ = some (.int .i64 k) := fun p => p.cell (cell_keep b1 e2)
            have hne := bw_some W1
            clear hW1 b1 e1 e2 q0 q1 q2 q3 qf ql
            go_wp2_with fail
            rw [← HW1.out]
            clear HW1
            refine wp_region_below (by kernel_rfl) (by kernel_rfl) ?_
            repeat (go_big_quiet_step (fail))
            refine wpQuiet_nil ?_
            intro wq hw'
            obtain ⟨⟨_, bq⟩, rfl⟩ := hw'
            have HBq : Hid (Below wr.heap.size wr wq) := HB1.out.trans (bq.mono HB1.out.size)
            have k0 := cell_keep bq g0
            have k1 := cell_keep bq g1
            have k2 := cell_keep bq g2
            have k3 := cell_keep bq g3
            clear bq x0 x1 x2 y0 y1 hne g0 g1 g2 g3 HB1
            have HBz : Hid (Below W.heap.size W wq) := HBW.out.trans (HBq.out.mono HBW.out.size)
            obtain ⟨q0, q1, q2, q3, qf, ql⟩ := HQ.out wq HBz.out
            have HBe : Hid (Below w.heap.size w wq) := HB.out.trans (HBq.out.mono HB.out.size)
            go_wp2
            refine bodyPost_ret (v := .tuple #[fusV 3, .bool true]) (by simp [results, Tryz.results85, go_sem, fusV, fusT, q0, q1, q2, q3]) rfl ⟨by rw [HT.out]; rfl, ?_⟩
            repeat (first | exact HBe.out | refine Below.setCell ?_ (by simp) _)
          · have HN2 : Hid (∀ q, q < 4 → ¬ hitF tb j k q) := fun q hq => by
              by_cases e : q < 3
              · exact HN.out q e
              · have : q = 3 := by omega
                subst this
                exact fun hh => hk2 hh.2.2
            have hk2' : (k == 6) = false := by rw [beq_eq_false_iff_ne]; exact hk2
            have hk1' : (j == 2) = true := by rw [hk1]; rfl
            rw [hbt] at hxb
            clear HN hbt hk1 hk2
            have b1 : Below wr.heap.size wr (wr.alloc (.cells #[.int .i64 8, .int .i64 2, .int .i64 6, .int .i64 16] 102)) := bnew _ _
            obtain ⟨W1, hW1⟩ : ∃ W1, W1 = wr.alloc (.cells #[.int .i64 8, .int .i64 2, .int .i64 6, .int .i64 16] 102) := ⟨_, rfl⟩
            have HW1 : Hid (W1 = wr.alloc (.cells #[.int .i64 8, .int .i64 2, .int .i64 6, .int .i64 16] 102)) := hW1
            rw [← hW1] at b1
            have HB1 : Hid (Below wr.heap.size wr W1) := b1
            have g0 : W1.cell? ⟨wr.heap.size, 0, none⟩ = some (.int .i64 8) := by rw [hW1]; simp [go_sem]
            have g1 : W1.cell? ⟨wr.heap.size, 1, none⟩ = some (.int .i64 2) := by rw [hW1]; simp [go_sem]
            have g2 : W1.cell? ⟨wr.heap.size, 2, none⟩ = some (.int .i64 6) := by rw [hW1]; simp [go_sem]
            have g3 : W1.cell? ⟨wr.heap.size, 3, none⟩ = some (.int .i64 16) := by rw [hW1]; simp [go_sem]
            have x0 : ∀ p : BW W1, p.x.cell? ⟨wr.heap.size, 0, none⟩ = some (.int .i64 8) := fun p => p.cell g0
            have x1 : ∀ p : BW W1, p.x.cell? ⟨wr.heap.size, 1, none⟩ = some (.int .i64 2) := fun p => p.cell g1
            have x2 : ∀ p : BW W1, p.x.cell? ⟨wr.heap.size, 2, none⟩ = some (.int .i64 6) := fun p => p.cell g2
            have y0 : ∀ p : BW W1, p.x.cell? ⟨gk, off, none⟩ = some (.int .i64 j) := fun p => p.cell (cell_keep b1 e1)
            have y1 : ∀ p : BW W1, p.x.cell? ⟨gk, off + 7, none⟩ = some (.int .i64 k) := fun p => p.cell (cell_keep b1 e2)
            have hne := bw_some W1
            clear hW1 b1 e1 e2 q0 q1 q2 q3 qf ql
            go_wp2_with fail
            rw [← HW1.out]
            clear HW1
            refine wp_region_below (by kernel_rfl) (by kernel_rfl) ?_
            repeat (go_big_quiet_step (fail))
            refine wpQuiet_nil ?_
            intro wq hw'
            obtain ⟨⟨_, bq⟩, rfl⟩ := hw'
            have HBq : Hid (Below wr.heap.size wr wq) := HB1.out.trans (bq.mono HB1.out.size)
            have k0 := cell_keep bq g0
            have k1 := cell_keep bq g1
            have k2 := cell_keep bq g2
            have k3 := cell_keep bq g3
            clear bq x0 x1 x2 y0 y1 hne g0 g1 g2 g3 HB1
            have HBz : Hid (Below W.heap.size W wq) := HBW.out.trans (HBq.out.mono HBW.out.size)
            obtain ⟨q0, q1, q2, q3, qf, ql⟩ := HQ.out wq HBz.out
            go_wp2
            exact ⟨⟨4, by omega, rfl, HN2.out, HBz.out⟩, by simp [RowKit.intOf]⟩
        · have HN2 : Hid (∀ q, q < 4 → ¬ hitF tb j k q) := fun q hq => by
            by_cases e : q < 3
            · exact HN.out q e
            · have : q = 3 := by omega
              subst this
              exact fun hh => hk1 hh.2.1
          have hk1' : (j == 2) = false := by rw [beq_eq_false_iff_ne]; exact hk1
          rw [hbt] at hxb
          clear HN hbt hk1
          have b1 : Below wr.heap.size wr (wr.alloc (.cells #[.int .i64 8, .int .i64 2, .int .i64 6, .int .i64 16] 102)) := bnew _ _
          obtain ⟨W1, hW1⟩ : ∃ W1, W1 = wr.alloc (.cells #[.int .i64 8, .int .i64 2, .int .i64 6, .int .i64 16] 102) := ⟨_, rfl⟩
          have HW1 : Hid (W1 = wr.alloc (.cells #[.int .i64 8, .int .i64 2, .int .i64 6, .int .i64 16] 102)) := hW1
          rw [← hW1] at b1
          have HB1 : Hid (Below wr.heap.size wr W1) := b1
          have g0 : W1.cell? ⟨wr.heap.size, 0, none⟩ = some (.int .i64 8) := by rw [hW1]; simp [go_sem]
          have g1 : W1.cell? ⟨wr.heap.size, 1, none⟩ = some (.int .i64 2) := by rw [hW1]; simp [go_sem]
          have g2 : W1.cell? ⟨wr.heap.size, 2, none⟩ = some (.int .i64 6) := by rw [hW1]; simp [go_sem]
          have g3 : W1.cell? ⟨wr.heap.size, 3, none⟩ = some (.int .i64 16) := by rw [hW1]; simp [go_sem]
          have x0 : ∀ p : BW W1, p.x.cell? ⟨wr.heap.size, 0, none⟩ = some (.int .i64 8) := fun p => p.cell g0
          have x1 : ∀ p : BW W1, p.x.cell? ⟨wr.heap.size, 1, none⟩ = some (.int .i64 2) := fun p => p.cell g1
          have x2 : ∀ p : BW W1, p.x.cell? ⟨wr.heap.size, 2, none⟩ = some (.int .i64 6) := fun p => p.cell g2
          have y0 : ∀ p : BW W1, p.x.cell? ⟨gk, off, none⟩ = some (.int .i64 j) := fun p => p.cell (cell_keep b1 e1)
          have y1 : ∀ p : BW W1, p.x.cell? ⟨gk, off + 7, none⟩ = some (.int .i64 k) := fun p => p.cell (cell_keep b1 e2)
          have hne := bw_some W1
          clear hW1 b1 e1 e2 q0 q1 q2 q3 qf ql
          go_wp2_with fail
          rw [← HW1.out]
          clear HW1
          refine wp_region_below (by kernel_rfl) (by kernel_rfl) ?_
          repeat (go_big_quiet_step (fail))
          refine wpQuiet_nil ?_
          intro wq hw'
          obtain ⟨⟨_, bq⟩, rfl⟩ := hw'
          have HBq : Hid (Below wr.heap.size wr wq) := HB1.out.trans (bq.mono HB1.out.size)
          have k0 := cell_keep bq g0
          have k1 := cell_keep bq g1
          have k2 := cell_keep bq g2
          have k3 := cell_keep bq g3
          clear bq x0 x1 x2 y0 y1 hne g0 g1 g2 g3 HB1
          have HBz : Hid (Below W.heap.size W wq) := HBW.out.trans (HBq.out.mono HBW.out.size)
          obtain ⟨q0, q1, q2, q3, qf, ql⟩ := HQ.out wq HBz.out
          go_wp2
          exact ⟨⟨4, by omega, rfl, HN2.out, HBz.out⟩, by simp [RowKit.intOf]⟩
    · have HT : Hid (X = 0) := by show _ = _; rw [HX.out]; exact twoK_none HN.out
      clear HN e1 e2
      go_wp2
      refine bodyPost_ret (v := .tuple #[fusV 4, .bool false]) (by simp [results, Tryz.results85, go_sem, fusV, fusT, q0, q1, q2, q3]) rfl ⟨by rw [HT.out]; rfl, ?_⟩
      repeat (first | refine Below.setCell ?_ (by simp) _ | exact HB.out)
end Go.Proofs.YtoafolefecddmaaGreatDoor
