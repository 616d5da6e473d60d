/-
  The law FnNums answers true at every code, in every world in which the listed variables hold what the program's text lays; nothing that was there is turned.
-/
import Derived.Test.YtomkdofagjkfiaaDoorDraw4
import Derived.Test.YtomkdofagjkfiaaDoorRegion
import Derived.Test.YtomkdofagjkfiaaDoorLaws3
import Derived.Test.YtomkdofagjkfiaaDoorDivsMath
namespace Go.Proofs.YtomkdofagjkfiaaDoor
open Go.RowKit Go.Extern.Stop Go.Stop Go.Extern Num Go.Lib

theorem below_box {w w1 w2 wq : World} {o : Obj} (b1 : Below w.heap.size w w1) (b2 : Below w1.heap.size w1 w2) (bq : Below (w2.alloc o).heap.size (w2.alloc o) wq) : Below w.heap.size w wq := by
  have s1 := b1.size
  have s2 := b2.size
  refine Below.trans ?_ (bq.mono (by simp; omega))
  exact (b1.trans (b2.mono s1)).alloc (by omega) _
theorem fieldT (c : Int) (l : List UInt8) (w : World) : (Instr.field 29 (TR c l) 1).run Tryd.prog w = .ok (S l) w := by kernel_rfl
theorem fault_facts (a : Int) : ∃ f : Int, Hid (∀ w, LW w → Calls Tryd.prog 21 #[.int .i64 a] w fun e w' => e = .returned (.int .i64 f) ∧ Below w.heap.size w w') ∧ Hid (∀ w, Calls Tryd.prog 22 #[.int .i64 a] w fun e w' => e = .returned (.int .i64 f) ∧ Below w.heap.size w w') := by
  cases h : inB a
  · refine ⟨3, fun w hL => implFault_no a w h hL.lt.et, fun w => (specFault_no a w h).mono ?_⟩
    rintro e w' ⟨rfl, rfl⟩; exact ⟨rfl, Below.refl _ _⟩
  · refine ⟨0, fun w _ => implFault_yes a w h, fun w => (specFault_yes a w h).mono ?_⟩
    rintro e w' ⟨rfl, rfl⟩; exact ⟨rfl, Below.refl _ _⟩
theorem sum_facts (a b : Int) (ha : inB a = true) (hb : inB b = true) (hv : inB (a + b) = true) :
    Hid (∀ w, ET w → Calls Tryd.prog 19 #[.int .i64 a, .int .i64 b] w fun e w' => e = .returned (IR 0 (a + b)) ∧ Below w.heap.size w w') ∧
    Hid (∀ w, ET w → Calls Tryd.prog 23 #[.int .i64 (a + b), .int .i64 b] w fun e w' => e = .returned (IR 0 a) ∧ Below w.heap.size w w') ∧
    Hid (∀ w, LT w → Calls Tryd.prog 16 #[.int .i64 a] w fun e w' => e = .returned (TR 0 (itoa a)) ∧ Below w.heap.size w w') ∧
    Hid (∀ w, ET w → Calls Tryd.prog 19 #[.int .i64 b, .int .i64 a] w fun e w' => e = .returned (IR 0 (a + b)) ∧ Below w.heap.size w w') ∧
    Hid (∀ w, LW w → Calls Tryd.prog 15 #[S (itoa a)] w fun e w' => e = .returned (IR 0 a) ∧ Below w.heap.size w w') := by
  refine ⟨fun w hE => ?_, fun w hE => ?_, fun w hT => implText_yes a w ha hT, fun w hE => ?_, fun w hL => implParse_good _ w a ha (by simp) hL⟩
  · have := implAdd_in a b w hE ha hb
    rwa [show oC (a + b) = 0 by simp [oC, hv], show oV (a + b) = a + b by simp [oV, hv]] at this
  · have := implSub_in (a + b) b w hE hv hb
    rwa [show a + b - b = a by omega, show oC a = 0 by simp [oC, ha], show oV a = a by simp [oV, ha]] at this
  · have := implAdd_in b a w hE hb ha
    rwa [show b + a = a + b by omega, show oC (a + b) = 0 by simp [oC, hv], show oV (a + b) = a + b by simp [oV, hv]] at this

set_option maxHeartbeats 16000000 in
set_option maxRecDepth 100000 in
theorem lawNums_any (w : World) (ca : Option Addr) (len cap : Nat) (hL : LW w) (hB : Bytes w ca len) (hmax : (len : Int) ≤ 9223372036854775807) :
    Calls Tryd.prog 3 #[.slice ca len cap] w fun e w' => e = .returned (.bool true) ∧ Below w.heap.size w w' := by
  have fC := fieldC
  have fV := fieldV
  have fT := fieldT
  go_enter Tryd.func3, Tryd.ntmps3
  go_wp2_with fail
  refine (big_any _ ca len cap).mono ?_
  rintro e w' ⟨big, rfl, rfl⟩
  cases big
  · go_wp2_with fail
    refine (drawText_any _ ca len cap hB hmax).mono ?_
    rintro e w1 ⟨s, rfl, hs, b1⟩
    go_wp2_with fail
    by_cases hg : ∃ v, inB v = true ∧ itoa v = s.data.toList
    · obtain ⟨v, hv, he⟩ := hg
      have HN : Hid (∀ w, LT w → Calls Tryd.prog 16 #[.int .i64 v] w fun e w' => e = .returned (TR 0 (itoa v)) ∧ Below w.heap.size w w') := fun w hT => implText_yes v w hv hT
      have HSP : Hid (∀ w, Calls Tryd.prog 17 #[.string s] w fun e w' => e = .returned (IR 0 v) ∧ Below w.heap.size w w') := fun w => specParse_good s w (by omega) v hv he
      have hne1 : (!itoa v == s.toList) = false := by rw [ByteArray.toList_eq, he]; simp
      refine (implParse_good s _ v hv he (hL.below b1)).mono ?_
      rintro e w2 ⟨rfl, b2⟩
      clear hv he
      go_wp2_with fail
      have u0 : ∀ p : BW (w2.alloc (.cells #[.int .i64 0, .int .i64 v] 26)), p.x.cell? ⟨w2.heap.size, 0, none⟩ = some (.int .i64 0) := fun p => p.cell (by simp)
      have u1 : ∀ p : BW (w2.alloc (.cells #[.int .i64 0, .int .i64 v] 26)), p.x.cell? ⟨w2.heap.size, 1, none⟩ = some (.int .i64 v) := fun p => p.cell (by simp)
      have hne := bw_some (w2.alloc (.cells #[.int .i64 0, .int .i64 v] 26))
      have L2 := ((hL.below b1).below b2).alloc (.cells #[.int .i64 0, .int .i64 v] 26)
      refine wp_region_below (by kernel_rfl) (by kernel_rfl) ?_
      repeat (go_big_quiet_step ((first | (go_at_call 16; exact calls_bw (HN.out _ (L2.below (BW.h _)).lt)) | (go_at_call 17; exact calls_bw (HSP.out _)))))
      refine wpQuiet_nil ?_
      intro wq hw'
      obtain ⟨⟨_, bq⟩, rfl⟩ := hw'
      clear u0 u1 hne L2
      have BB := below_box b1 b2 bq
      have LQ := hL.below BB
      have BQ := hB.below BB
      go_wp2_with fail
      refine (drawAdd_any _ ca len cap BQ hmax).mono ?_
      rintro e w5 ⟨a, b, rfl, b5⟩
      have B5 := BB.trans (b5.mono BB.size)
      have L5 := LQ.below b5
      clear BB LQ BQ b5 bq b2 b1 hB hL hmax
      go_wp2_with fail
      obtain ⟨ft, HF, HSF⟩ := fault_facts a
      cases h : (inB a && inB b)
      · have HA : Hid (∀ w, ET w → Calls Tryd.prog 19 #[.int .i64 a, .int .i64 b] w fun e w' => e = .returned (IR 3 0) ∧ Below w.heap.size w w') := fun w hE => implAdd_range a b w hE h
        have HSA : Hid (∀ w, Calls Tryd.prog 20 #[.int .i64 a, .int .i64 b] w fun e w' => e = .returned (IR 3 0) ∧ Below w.heap.size w w') := fun w => specAdd_range a b w h
        clear h
        refine (HA.out _ (L5.lt.et)).mono ?_
        rintro e w6 ⟨rfl, b6⟩
        have L6 := (L5.below b6).alloc (.cells #[.int .i64 3, .int .i64 0] 26)
        go_wp2_with fail
        have q0 : ∀ p : BW (w6.alloc (.cells #[.int .i64 3, .int .i64 0] 26)), p.x.cell? ⟨w6.heap.size, 0, none⟩ = some (.int .i64 3) := fun p => p.cell (by simp)
        have hne := bw_some (w6.alloc (.cells #[.int .i64 3, .int .i64 0] 26))
        refine wp_region_below (by kernel_rfl) (by kernel_rfl) ?_
        repeat (go_big_quiet_step ((first | (go_at_call 20; exact calls_bw (HSA.out _)) | (go_at_call 21; exact calls_bw (HF.out _ (L6.below (BW.h _)))) | (go_at_call 22; exact calls_bw (HSF.out _)))))
        refine wpQuiet_nil ?_
        intro _ hw'
        obtain ⟨⟨w7, b7⟩, rfl⟩ := hw'
        go_wp2
        go_ret
        refine ⟨rfl, ?_⟩
        have t6 := b6.size
        have B5s := B5.size
        refine Below.trans ?_ (b7.mono (by simp; omega))
        refine Below.alloc ?_ (by omega) _
        exact B5.trans (b6.mono B5.size)
      · simp only [Bool.and_eq_true] at h
        obtain ⟨ha, hb⟩ := h
        cases hv : inB (a + b)
        · have HA : Hid (∀ w, ET w → Calls Tryd.prog 19 #[.int .i64 a, .int .i64 b] w fun e w' => e = .returned (IR 7 0) ∧ Below w.heap.size w w') := fun w hE => by
            have := implAdd_in a b w hE ha hb
            rwa [show oC (a + b) = 7 by simp [oC, hv], show oV (a + b) = 0 by simp [oV, hv]] at this
          have HSA : Hid (∀ w, Calls Tryd.prog 20 #[.int .i64 a, .int .i64 b] w fun e w' => e = .returned (IR 7 0) ∧ Below w.heap.size w w') := fun w => by
            have := specAdd_in a b w ha hb
            rwa [show oC (a + b) = 7 by simp [oC, hv], show oV (a + b) = 0 by simp [oV, hv]] at this
          clear hv ha hb
          refine (HA.out _ (L5.lt.et)).mono ?_
          rintro e w6 ⟨rfl, b6⟩
          have L6 := (L5.below b6).alloc (.cells #[.int .i64 7, .int .i64 0] 26)
          go_wp2_with fail
          have q0 : ∀ p : BW (w6.alloc (.cells #[.int .i64 7, .int .i64 0] 26)), p.x.cell? ⟨w6.heap.size, 0, none⟩ = some (.int .i64 7) := fun p => p.cell (by simp)
          have hne := bw_some (w6.alloc (.cells #[.int .i64 7, .int .i64 0] 26))
          refine wp_region_below (by kernel_rfl) (by kernel_rfl) ?_
          repeat (go_big_quiet_step ((first | (go_at_call 20; exact calls_bw (HSA.out _)) | (go_at_call 21; exact calls_bw (HF.out _ (L6.below (BW.h _)))) | (go_at_call 22; exact calls_bw (HSF.out _)))))
          refine wpQuiet_nil ?_
          intro _ hw'
          obtain ⟨⟨w7, b7⟩, rfl⟩ := hw'
          go_wp2
          go_ret
          refine ⟨rfl, ?_⟩
          have t6 := b6.size
          have B5s := B5.size
          refine Below.trans ?_ (b7.mono (by simp; omega))
          refine Below.alloc ?_ (by omega) _
          exact B5.trans (b6.mono B5.size)
        · obtain ⟨HA, HS, HT, HB2, HP2⟩ := sum_facts a b ha hb hv
          clear hv ha hb
          refine (HA.out _ (L5.lt.et)).mono ?_
          rintro e w6 ⟨rfl, b6⟩
          have L6 := L5.below b6
          go_wp2_with fail
          refine (HS.out _ ((L6.alloc _).lt.et)).mono ?_
          rintro e w7 ⟨rfl, b7⟩
          have L7 := (L6.alloc _).below b7
          obtain ⟨hc7, hf7⟩ := bcell b7
          have z7 : w6.heap.size < w7.heap.size := by have := b7.size; simp at this; omega
          go_wp2_with fail
          refine (HT.out _ ((L7.alloc _).lt)).mono ?_
          rintro e w8 ⟨rfl, b8⟩
          have L8 := ((L7.alloc _).below b8).alloc (.cells #[.int .i64 0, S (itoa a)] 29)
          obtain ⟨hc8, hf8⟩ := bcell b8
          have z8 : w7.heap.size < w8.heap.size := by have := b8.size; simp at this; omega
          have z9 : w6.heap.size < w8.heap.size := by omega
          go_wp2_with fail
          have r1 : ∀ p : BW (w8.alloc (.cells #[.int .i64 0, S (itoa a)] 29)), p.x.cell? ⟨w6.heap.size, 1, none⟩ = some (.int .i64 (a + b)) := fun p => p.cell (cell_laid _ (cell_keep b8 (cell_laid _ (cell_keep b7 (by simp)))))
          have s0 : ∀ p : BW (w8.alloc (.cells #[.int .i64 0, S (itoa a)] 29)), p.x.cell? ⟨w7.heap.size, 0, none⟩ = some (.int .i64 0) := fun p => p.cell (cell_laid _ (cell_keep b8 (by simp)))
          have s1 : ∀ p : BW (w8.alloc (.cells #[.int .i64 0, S (itoa a)] 29)), p.x.cell? ⟨w7.heap.size, 1, none⟩ = some (.int .i64 a) := fun p => p.cell (cell_laid _ (cell_keep b8 (by simp)))
          have t0 : ∀ p : BW (w8.alloc (.cells #[.int .i64 0, S (itoa a)] 29)), p.x.cell? ⟨w8.heap.size, 0, none⟩ = some (.int .i64 0) := fun p => p.cell (by simp)
          have t1 : ∀ p : BW (w8.alloc (.cells #[.int .i64 0, S (itoa a)] 29)), p.x.cell? ⟨w8.heap.size, 1, none⟩ = some (S (itoa a)) := fun p => p.cell (by simp)
          have hne := bw_some (w8.alloc (.cells #[.int .i64 0, S (itoa a)] 29))
          clear hc7 hf7 hc8 hf8
          refine wp_region_below (by kernel_rfl) (by kernel_rfl) ?_
          repeat (go_big_quiet_step ((first | (go_at_call 19; exact calls_bw (HB2.out _ (L8.below (BW.h _)).lt.et)) | (go_at_call 15; exact calls_bw (HP2.out _ (L8.below (BW.h _)))))))
          refine wpQuiet_nil ?_
          intro _ hw'
          obtain ⟨⟨w9, b9⟩, rfl⟩ := hw'
          go_wp2
          go_ret
          refine ⟨rfl, ?_⟩
          have t6 := b6.size
          have B5s := B5.size
          refine Below.trans ?_ (b9.mono (by simp; omega))
          refine Below.alloc ?_ (by omega) _
          refine Below.trans ?_ (b8.mono (by simp; omega))
          refine Below.alloc ?_ (by omega) _
          refine Below.trans ?_ (b7.mono (by simp; omega))
          refine Below.alloc ?_ (by omega) _
          exact B5.trans (b6.mono B5.size)
    · have hb : ∀ v, inB v = true → itoa v ≠ s.data.toList := fun v hv e => hg ⟨v, hv, e⟩
      have HN : Hid (∀ w, LT w → Calls Tryd.prog 16 #[.int .i64 0] w fun e w' => e = .returned (TR 0 (itoa 0)) ∧ Below w.heap.size w w') := fun w hT => implText_yes 0 w (by decide) hT
      have HSP : Hid (∀ w, Calls Tryd.prog 17 #[.string s] w fun e w' => e = .returned (IR 5 0) ∧ Below w.heap.size w w') := fun w => specParse_bad s w (by omega) hb
      refine (implParse_bad s _ (by omega) hb (hL.below b1)).mono ?_
      rintro e w2 ⟨rfl, b2⟩
      clear hg hb
      go_wp2_with fail
      have u0 : ∀ p : BW (w2.alloc (.cells #[.int .i64 5, .int .i64 0] 26)), p.x.cell? ⟨w2.heap.size, 0, none⟩ = some (.int .i64 5) := fun p => p.cell (by simp)
      have u1 : ∀ p : BW (w2.alloc (.cells #[.int .i64 5, .int .i64 0] 26)), p.x.cell? ⟨w2.heap.size, 1, none⟩ = some (.int .i64 0) := fun p => p.cell (by simp)
      have hne := bw_some (w2.alloc (.cells #[.int .i64 5, .int .i64 0] 26))
      have L2 := ((hL.below b1).below b2).alloc (.cells #[.int .i64 5, .int .i64 0] 26)
      refine wp_region_below (by kernel_rfl) (by kernel_rfl) ?_
      repeat (go_big_quiet_step ((first | (go_at_call 16; exact calls_bw (HN.out _ (L2.below (BW.h _)).lt)) | (go_at_call 17; exact calls_bw (HSP.out _)))))
      refine wpQuiet_nil ?_
      intro wq hw'
      obtain ⟨⟨_, bq⟩, rfl⟩ := hw'
      clear u0 u1 hne L2
      have BB := below_box b1 b2 bq
      have LQ := hL.below BB
      have BQ := hB.below BB
      go_wp2_with fail
      refine (drawAdd_any _ ca len cap BQ hmax).mono ?_
      rintro e w5 ⟨a, b, rfl, b5⟩
      have B5 := BB.trans (b5.mono BB.size)
      have L5 := LQ.below b5
      clear BB LQ BQ b5 bq b2 b1 hB hL hmax
      go_wp2_with fail
      obtain ⟨ft, HF, HSF⟩ := fault_facts a
      cases h : (inB a && inB b)
      · have HA : Hid (∀ w, ET w → Calls Tryd.prog 19 #[.int .i64 a, .int .i64 b] w fun e w' => e = .returned (IR 3 0) ∧ Below w.heap.size w w') := fun w hE => implAdd_range a b w hE h
        have HSA : Hid (∀ w, Calls Tryd.prog 20 #[.int .i64 a, .int .i64 b] w fun e w' => e = .returned (IR 3 0) ∧ Below w.heap.size w w') := fun w => specAdd_range a b w h
        clear h
        refine (HA.out _ (L5.lt.et)).mono ?_
        rintro e w6 ⟨rfl, b6⟩
        have L6 := (L5.below b6).alloc (.cells #[.int .i64 3, .int .i64 0] 26)
        go_wp2_with fail
        have q0 : ∀ p : BW (w6.alloc (.cells #[.int .i64 3, .int .i64 0] 26)), p.x.cell? ⟨w6.heap.size, 0, none⟩ = some (.int .i64 3) := fun p => p.cell (by simp)
        have hne := bw_some (w6.alloc (.cells #[.int .i64 3, .int .i64 0] 26))
        refine wp_region_below (by kernel_rfl) (by kernel_rfl) ?_
        repeat (go_big_quiet_step ((first | (go_at_call 20; exact calls_bw (HSA.out _)) | (go_at_call 21; exact calls_bw (HF.out _ (L6.below (BW.h _)))) | (go_at_call 22; exact calls_bw (HSF.out _)))))
        refine wpQuiet_nil ?_
        intro _ hw'
        obtain ⟨⟨w7, b7⟩, rfl⟩ := hw'
        go_wp2
        go_ret
        refine ⟨rfl, ?_⟩
        have t6 := b6.size
        have B5s := B5.size
        refine Below.trans ?_ (b7.mono (by simp; omega))
        refine Below.alloc ?_ (by omega) _
        exact B5.trans (b6.mono B5.size)
      · simp only [Bool.and_eq_true] at h
        obtain ⟨ha, hb⟩ := h
        cases hv : inB (a + b)
        · have HA : Hid (∀ w, ET w → Calls Tryd.prog 19 #[.int .i64 a, .int .i64 b] w fun e w' => e = .returned (IR 7 0) ∧ Below w.heap.size w w') := fun w hE => by
            have := implAdd_in a b w hE ha hb
            rwa [show oC (a + b) = 7 by simp [oC, hv], show oV (a + b) = 0 by simp [oV, hv]] at this
          have HSA : Hid (∀ w, Calls Tryd.prog 20 #[.int .i64 a, .int .i64 b] w fun e w' => e = .returned (IR 7 0) ∧ Below w.heap.size w w') := fun w => by
            have := specAdd_in a b w ha hb
            rwa [show oC (a + b) = 7 by simp [oC, hv], show oV (a + b) = 0 by simp [oV, hv]] at this
          clear hv ha hb
          refine (HA.out _ (L5.lt.et)).mono ?_
          rintro e w6 ⟨rfl, b6⟩
          have L6 := (L5.below b6).alloc (.cells #[.int .i64 7, .int .i64 0] 26)
          go_wp2_with fail
          have q0 : ∀ p : BW (w6.alloc (.cells #[.int .i64 7, .int .i64 0] 26)), p.x.cell? ⟨w6.heap.size, 0, none⟩ = some (.int .i64 7) := fun p => p.cell (by simp)
          have hne := bw_some (w6.alloc (.cells #[.int .i64 7, .int .i64 0] 26))
          refine wp_region_below (by kernel_rfl) (by kernel_rfl) ?_
          repeat (go_big_quiet_step ((first | (go_at_call 20; exact calls_bw (HSA.out _)) | (go_at_call 21; exact calls_bw (HF.out _ (L6.below (BW.h _)))) | (go_at_call 22; exact calls_bw (HSF.out _)))))
          refine wpQuiet_nil ?_
          intro _ hw'
          obtain ⟨⟨w7, b7⟩, rfl⟩ := hw'
          go_wp2
          go_ret
          refine ⟨rfl, ?_⟩
          have t6 := b6.size
          have B5s := B5.size
          refine Below.trans ?_ (b7.mono (by simp; omega))
          refine Below.alloc ?_ (by omega) _
          exact B5.trans (b6.mono B5.size)
        · obtain ⟨HA, HS, HT, HB2, HP2⟩ := sum_facts a b ha hb hv
          clear hv ha hb
          refine (HA.out _ (L5.lt.et)).mono ?_
          rintro e w6 ⟨rfl, b6⟩
          have L6 := L5.below b6
          go_wp2_with fail
          refine (HS.out _ ((L6.alloc _).lt.et)).mono ?_
          rintro e w7 ⟨rfl, b7⟩
          have L7 := (L6.alloc _).below b7
          obtain ⟨hc7, hf7⟩ := bcell b7
          have z7 : w6.heap.size < w7.heap.size := by have := b7.size; simp at this; omega
          go_wp2_with fail
          refine (HT.out _ ((L7.alloc _).lt)).mono ?_
          rintro e w8 ⟨rfl, b8⟩
          have L8 := ((L7.alloc _).below b8).alloc (.cells #[.int .i64 0, S (itoa a)] 29)
          obtain ⟨hc8, hf8⟩ := bcell b8
          have z8 : w7.heap.size < w8.heap.size := by have := b8.size; simp at this; omega
          have z9 : w6.heap.size < w8.heap.size := by omega
          go_wp2_with fail
          have r1 : ∀ p : BW (w8.alloc (.cells #[.int .i64 0, S (itoa a)] 29)), p.x.cell? ⟨w6.heap.size, 1, none⟩ = some (.int .i64 (a + b)) := fun p => p.cell (cell_laid _ (cell_keep b8 (cell_laid _ (cell_keep b7 (by simp)))))
          have s0 : ∀ p : BW (w8.alloc (.cells #[.int .i64 0, S (itoa a)] 29)), p.x.cell? ⟨w7.heap.size, 0, none⟩ = some (.int .i64 0) := fun p => p.cell (cell_laid _ (cell_keep b8 (by simp)))
          have s1 : ∀ p : BW (w8.alloc (.cells #[.int .i64 0, S (itoa a)] 29)), p.x.cell? ⟨w7.heap.size, 1, none⟩ = some (.int .i64 a) := fun p => p.cell (cell_laid _ (cell_keep b8 (by simp)))
          have t0 : ∀ p : BW (w8.alloc (.cells #[.int .i64 0, S (itoa a)] 29)), p.x.cell? ⟨w8.heap.size, 0, none⟩ = some (.int .i64 0) := fun p => p.cell (by simp)
          have t1 : ∀ p : BW (w8.alloc (.cells #[.int .i64 0, S (itoa a)] 29)), p.x.cell? ⟨w8.heap.size, 1, none⟩ = some (S (itoa a)) := fun p => p.cell (by simp)
          have hne := bw_some (w8.alloc (.cells #[.int .i64 0, S (itoa a)] 29))
          clear hc7 hf7 hc8 hf8
          refine wp_region_below (by kernel_rfl) (by kernel_rfl) ?_
          repeat (go_big_quiet_step ((first | (go_at_call 19; exact calls_bw (HB2.out _ (L8.below (BW.h _)).lt.et)) | (go_at_call 15; exact calls_bw (HP2.out _ (L8.below (BW.h _)))))))
          refine wpQuiet_nil ?_
          intro _ hw'
          obtain ⟨⟨w9, b9⟩, rfl⟩ := hw'
          go_wp2
          go_ret
          refine ⟨rfl, ?_⟩
          have t6 := b6.size
          have B5s := B5.size
          refine Below.trans ?_ (b9.mono (by simp; omega))
          refine Below.alloc ?_ (by omega) _
          refine Below.trans ?_ (b8.mono (by simp; omega))
          refine Below.alloc ?_ (by omega) _
          refine Below.trans ?_ (b7.mono (by simp; omega))
          refine Below.alloc ?_ (by omega) _
          exact B5.trans (b6.mono B5.size)
  · go_wp2
    go_ret
    exact ⟨rfl, Below.refl _ _⟩
end Go.Proofs.YtomkdofagjkfiaaDoor
