/-
  The law FnDivs answers true at every code, in every world in which errors.errorType holds what the program's text lays; nothing that was there is turned.
-/
import Derived.Test.YtomkdofagjkfiaaDoorDivsMath
namespace Go.Proofs.YtomkdofagjkfiaaDoor
open Go.RowKit Go.Extern.Stop Go.Stop Go.Extern Num

set_option maxHeartbeats 8000000 in
set_option maxRecDepth 100000 in
theorem lawDivs_any (w : World) (ca : Option Addr) (len cap : Nat) (hE : ET w) (hB : Bytes w ca len) (hmax : (len : Int) ≤ 9223372036854775807) :
    Calls Tryd.prog 4 #[.slice ca len cap] w fun e w' => e = .returned (.bool true) ∧ Below w.heap.size w w' := by
  have fC := fieldC
  have fV := fieldV
  go_enter Tryd.func4, Tryd.ntmps4
  go_wp2_with fail
  refine (big_any _ ca len cap).mono ?_
  rintro e w' ⟨big, rfl, rfl⟩
  cases big
  · go_wp2_with fail
    refine (drawQuo_any _ ca len cap hB hmax).mono ?_
    rintro e w1 ⟨a, b, rfl, b1⟩
    have hE1 := hE.below b1
    clear hB hmax hE
    go_wp2_with fail
    cases h : (inB a && inB b)
    · have HQ : Hid (∀ w, ET w → Calls Tryd.prog 25 #[.int .i64 a, .int .i64 b] w fun e w' => e = .returned (IR 3 0) ∧ Below w.heap.size w w') := fun w hE => implQuo_range a b w hE h
      have HSQ : Hid (∀ w, Calls Tryd.prog 26 #[.int .i64 a, .int .i64 b] w fun e w' => e = .returned (IR 3 0) ∧ Below w.heap.size w w') := fun w => specQuo_range a b w h
      have HR : Hid (∀ w, ET w → Calls Tryd.prog 28 #[.int .i64 a, .int .i64 b] w fun e w' => e = .returned (IR 3 0) ∧ Below w.heap.size w w') := fun w hE => implRem_range a b w hE h
      have HSR : Hid (∀ w, Calls Tryd.prog 27 #[.int .i64 a, .int .i64 b] w fun e w' => e = .returned (IR 3 0) ∧ Below w.heap.size w w') := fun w => specRem_range a b w h
      clear h
      refine (HQ.out _ hE1).mono ?_
      rintro e w2 ⟨rfl, b2⟩
      have hE2 := (hE1.below b2).alloc (.cells #[.int .i64 3, .int .i64 0] 26)
      go_wp2_with fail
      have q0 : ∀ p : BW (w2.alloc (.cells #[.int .i64 3, .int .i64 0] 26)), p.x.cell? ⟨w2.heap.size, 0, none⟩ = some (.int .i64 3) := fun p => p.cell (by simp)
      have hne := bw_some (w2.alloc (.cells #[.int .i64 3, .int .i64 0] 26))
      refine wp_region_below (by kernel_rfl) (by kernel_rfl) ?_
      repeat (go_big_quiet_step ((first | (go_at_call 26; exact calls_bw (HSQ.out _)) | (go_at_call 27; exact calls_bw (HSR.out _)) | (go_at_call 28; exact calls_bw (HR.out _ (hE2.below (BW.h _)))))))
      refine wpQuiet_nil ?_
      intro _ hw'
      obtain ⟨⟨wq, b5⟩, rfl⟩ := hw'
      go_wp2
      go_ret
      refine ⟨rfl, ?_⟩
      have t1 := b1.size
      have t2 := b2.size
      refine Below.trans ?_ (b5.mono (by simp; omega))
      refine Below.alloc ?_ (by omega) _
      exact b1.trans (b2.mono t1)
    · simp only [Bool.and_eq_true] at h
      obtain ⟨ha, hb⟩ := h
      by_cases h0 : b = 0
      · subst h0
        have HQ : Hid (∀ w, ET w → Calls Tryd.prog 25 #[.int .i64 a, .int .i64 0] w fun e w' => e = .returned (IR 7 0) ∧ Below w.heap.size w w') := fun w hE => implQuo_zero a w hE ha
        have HSQ : Hid (∀ w, Calls Tryd.prog 26 #[.int .i64 a, .int .i64 0] w fun e w' => e = .returned (IR 7 0) ∧ Below w.heap.size w w') := fun w => specQuo_zero a w ha
        have HR : Hid (∀ w, ET w → Calls Tryd.prog 28 #[.int .i64 a, .int .i64 0] w fun e w' => e = .returned (IR 7 0) ∧ Below w.heap.size w w') := fun w hE => implRem_zero a w hE ha
        have HSR : Hid (∀ w, Calls Tryd.prog 27 #[.int .i64 a, .int .i64 0] w fun e w' => e = .returned (IR 7 0) ∧ Below w.heap.size w w') := fun w => specRem_zero a w ha
        clear ha hb
        refine (HQ.out _ hE1).mono ?_
        rintro e w2 ⟨rfl, b2⟩
        have hE2 := (hE1.below b2).alloc (.cells #[.int .i64 7, .int .i64 0] 26)
        go_wp2_with fail
        have q0 : ∀ p : BW (w2.alloc (.cells #[.int .i64 7, .int .i64 0] 26)), p.x.cell? ⟨w2.heap.size, 0, none⟩ = some (.int .i64 7) := fun p => p.cell (by simp)
        have hne := bw_some (w2.alloc (.cells #[.int .i64 7, .int .i64 0] 26))
        refine wp_region_below (by kernel_rfl) (by kernel_rfl) ?_
        repeat (go_big_quiet_step ((first | (go_at_call 26; exact calls_bw (HSQ.out _)) | (go_at_call 27; exact calls_bw (HSR.out _)) | (go_at_call 28; exact calls_bw (HR.out _ (hE2.below (BW.h _)))))))
        refine wpQuiet_nil ?_
        intro _ hw'
        obtain ⟨⟨wq, b5⟩, rfl⟩ := hw'
        go_wp2
        go_ret
        refine ⟨rfl, ?_⟩
        have t1 := b1.size
        have t2 := b2.size
        refine Below.trans ?_ (b5.mono (by simp; omega))
        refine Below.alloc ?_ (by omega) _
        exact b1.trans (b2.mono t1)
      · obtain ⟨q, r, iq, sq, ir, near, hr, hp⟩ := divs_facts a b ha hb h0
        clear ha hb h0
        rcases near with ⟨s1, s2, s3⟩ | ⟨s1, s2, s3⟩
        · rcases hp with im | ⟨m, im, hw, m2, m3⟩
          · clear hr
            refine (iq.out _ hE1).mono ?_
            rintro e w2 ⟨rfl, b2⟩
            have hE2 : ET w2 := hE1.below b2
            go_wp2_with fail
            refine (ir.out _ (hE2.alloc _)).mono ?_
            rintro e w3 ⟨rfl, b3⟩
            have hE3 : ET w3 := (hE2.alloc _).below b3
            obtain ⟨hc3, hf3⟩ := bcell b3
            have z3 : w2.heap.size < w3.heap.size := by have := b3.size; simp at this; omega
            go_wp2_with fail
            refine (im.out _ (hE3.alloc _)).mono ?_
            rintro e w4 ⟨rfl, b4⟩
            obtain ⟨hc4, hf4⟩ := bcell b4
            have z4 : w3.heap.size < w4.heap.size := by have := b4.size; simp at this; omega
            have z5 : w2.heap.size < w4.heap.size := by omega
            go_wp2_with fail
            have q1 : ∀ p : BW (w4.alloc (.cells #[.int .i64 7, .int .i64 0] 26)), p.x.cell? ⟨w2.heap.size, 1, none⟩ = some (.int .i64 q) := fun p => p.cell (cell_laid _ (cell_keep b4 (cell_laid _ (cell_keep b3 (by simp)))))
            have r0 : ∀ p : BW (w4.alloc (.cells #[.int .i64 7, .int .i64 0] 26)), p.x.cell? ⟨w3.heap.size, 0, none⟩ = some (.int .i64 0) := fun p => p.cell (cell_laid _ (cell_keep b4 (by simp)))
            have r1 : ∀ p : BW (w4.alloc (.cells #[.int .i64 7, .int .i64 0] 26)), p.x.cell? ⟨w3.heap.size, 1, none⟩ = some (.int .i64 r) := fun p => p.cell (cell_laid _ (cell_keep b4 (by simp)))
            have m0 : ∀ p : BW (w4.alloc (.cells #[.int .i64 7, .int .i64 0] 26)), p.x.cell? ⟨w4.heap.size, 0, none⟩ = some (.int .i64 7) := fun p => p.cell (by simp)
            have m1 : ∀ p : BW (w4.alloc (.cells #[.int .i64 7, .int .i64 0] 26)), p.x.cell? ⟨w4.heap.size, 1, none⟩ = some (.int .i64 0) := fun p => p.cell (by simp)
            have hne := bw_some (w4.alloc (.cells #[.int .i64 7, .int .i64 0] 26))
            clear hc3 hf3 hc4 hf4
            refine wp_region_below (by kernel_rfl) (by kernel_rfl) ?_
            repeat (go_big_quiet_step ((go_at_call 26; exact calls_bw (sq.out _))))
            refine wpQuiet_nil ?_
            intro _ hw'
            obtain ⟨⟨wq, b5⟩, rfl⟩ := hw'
            go_wp2
            go_ret
            refine ⟨rfl, ?_⟩
            have t1 := b1.size
            have t2 := b2.size
            refine Below.trans ?_ (b5.mono (by simp; omega))
            refine Below.alloc ?_ (by omega) _
            refine Below.trans ?_ (b4.mono (by simp; omega))
            refine Below.alloc ?_ (by omega) _
            refine Below.trans ?_ (b3.mono (by simp; omega))
            refine Below.alloc ?_ (by omega) _
            exact b1.trans (b2.mono t1)
          · have r2 := hr.1
            have r3 := hr.2
            clear hr
            refine (iq.out _ hE1).mono ?_
            rintro e w2 ⟨rfl, b2⟩
            have hE2 : ET w2 := hE1.below b2
            go_wp2_with fail
            refine (ir.out _ (hE2.alloc _)).mono ?_
            rintro e w3 ⟨rfl, b3⟩
            have hE3 : ET w3 := (hE2.alloc _).below b3
            obtain ⟨hc3, hf3⟩ := bcell b3
            have z3 : w2.heap.size < w3.heap.size := by have := b3.size; simp at this; omega
            go_wp2_with fail
            refine (im.out _ (hE3.alloc _)).mono ?_
            rintro e w4 ⟨rfl, b4⟩
            obtain ⟨hc4, hf4⟩ := bcell b4
            have z4 : w3.heap.size < w4.heap.size := by have := b4.size; simp at this; omega
            have z5 : w2.heap.size < w4.heap.size := by omega
            go_wp2_with fail
            have q1 : ∀ p : BW (w4.alloc (.cells #[.int .i64 0, .int .i64 m] 26)), p.x.cell? ⟨w2.heap.size, 1, none⟩ = some (.int .i64 q) := fun p => p.cell (cell_laid _ (cell_keep b4 (cell_laid _ (cell_keep b3 (by simp)))))
            have r0 : ∀ p : BW (w4.alloc (.cells #[.int .i64 0, .int .i64 m] 26)), p.x.cell? ⟨w3.heap.size, 0, none⟩ = some (.int .i64 0) := fun p => p.cell (cell_laid _ (cell_keep b4 (by simp)))
            have r1 : ∀ p : BW (w4.alloc (.cells #[.int .i64 0, .int .i64 m] 26)), p.x.cell? ⟨w3.heap.size, 1, none⟩ = some (.int .i64 r) := fun p => p.cell (cell_laid _ (cell_keep b4 (by simp)))
            have m0 : ∀ p : BW (w4.alloc (.cells #[.int .i64 0, .int .i64 m] 26)), p.x.cell? ⟨w4.heap.size, 0, none⟩ = some (.int .i64 0) := fun p => p.cell (by simp)
            have m1 : ∀ p : BW (w4.alloc (.cells #[.int .i64 0, .int .i64 m] 26)), p.x.cell? ⟨w4.heap.size, 1, none⟩ = some (.int .i64 m) := fun p => p.cell (by simp)
            have hne := bw_some (w4.alloc (.cells #[.int .i64 0, .int .i64 m] 26))
            clear hc3 hf3 hc4 hf4
            refine wp_region_below (by kernel_rfl) (by kernel_rfl) ?_
            repeat (go_big_quiet_step ((go_at_call 26; exact calls_bw (sq.out _))))
            refine wpQuiet_nil ?_
            intro _ hw'
            obtain ⟨⟨wq, b5⟩, rfl⟩ := hw'
            go_wp2
            go_ret
            refine ⟨rfl, ?_⟩
            have t1 := b1.size
            have t2 := b2.size
            refine Below.trans ?_ (b5.mono (by simp; omega))
            refine Below.alloc ?_ (by omega) _
            refine Below.trans ?_ (b4.mono (by simp; omega))
            refine Below.alloc ?_ (by omega) _
            refine Below.trans ?_ (b3.mono (by simp; omega))
            refine Below.alloc ?_ (by omega) _
            exact b1.trans (b2.mono t1)
        · have s0 : ¬ 0 < b := by omega
          rcases hp with im | ⟨m, im, hw, m2, m3⟩
          · clear hr
            refine (iq.out _ hE1).mono ?_
            rintro e w2 ⟨rfl, b2⟩
            have hE2 : ET w2 := hE1.below b2
            go_wp2_with fail
            refine (ir.out _ (hE2.alloc _)).mono ?_
            rintro e w3 ⟨rfl, b3⟩
            have hE3 : ET w3 := (hE2.alloc _).below b3
            obtain ⟨hc3, hf3⟩ := bcell b3
            have z3 : w2.heap.size < w3.heap.size := by have := b3.size; simp at this; omega
            go_wp2_with fail
            refine (im.out _ (hE3.alloc _)).mono ?_
            rintro e w4 ⟨rfl, b4⟩
            obtain ⟨hc4, hf4⟩ := bcell b4
            have z4 : w3.heap.size < w4.heap.size := by have := b4.size; simp at this; omega
            have z5 : w2.heap.size < w4.heap.size := by omega
            go_wp2_with fail
            have q1 : ∀ p : BW (w4.alloc (.cells #[.int .i64 7, .int .i64 0] 26)), p.x.cell? ⟨w2.heap.size, 1, none⟩ = some (.int .i64 q) := fun p => p.cell (cell_laid _ (cell_keep b4 (cell_laid _ (cell_keep b3 (by simp)))))
            have r0 : ∀ p : BW (w4.alloc (.cells #[.int .i64 7, .int .i64 0] 26)), p.x.cell? ⟨w3.heap.size, 0, none⟩ = some (.int .i64 0) := fun p => p.cell (cell_laid _ (cell_keep b4 (by simp)))
            have r1 : ∀ p : BW (w4.alloc (.cells #[.int .i64 7, .int .i64 0] 26)), p.x.cell? ⟨w3.heap.size, 1, none⟩ = some (.int .i64 r) := fun p => p.cell (cell_laid _ (cell_keep b4 (by simp)))
            have m0 : ∀ p : BW (w4.alloc (.cells #[.int .i64 7, .int .i64 0] 26)), p.x.cell? ⟨w4.heap.size, 0, none⟩ = some (.int .i64 7) := fun p => p.cell (by simp)
            have m1 : ∀ p : BW (w4.alloc (.cells #[.int .i64 7, .int .i64 0] 26)), p.x.cell? ⟨w4.heap.size, 1, none⟩ = some (.int .i64 0) := fun p => p.cell (by simp)
            have hne := bw_some (w4.alloc (.cells #[.int .i64 7, .int .i64 0] 26))
            clear hc3 hf3 hc4 hf4
            refine wp_region_below (by kernel_rfl) (by kernel_rfl) ?_
            repeat (go_big_quiet_step ((go_at_call 26; exact calls_bw (sq.out _))))
            refine wpQuiet_nil ?_
            intro _ hw'
            obtain ⟨⟨wq, b5⟩, rfl⟩ := hw'
            go_wp2
            go_ret
            refine ⟨rfl, ?_⟩
            have t1 := b1.size
            have t2 := b2.size
            refine Below.trans ?_ (b5.mono (by simp; omega))
            refine Below.alloc ?_ (by omega) _
            refine Below.trans ?_ (b4.mono (by simp; omega))
            refine Below.alloc ?_ (by omega) _
            refine Below.trans ?_ (b3.mono (by simp; omega))
            refine Below.alloc ?_ (by omega) _
            exact b1.trans (b2.mono t1)
          · have r2 := hr.1
            have r3 := hr.2
            clear hr
            refine (iq.out _ hE1).mono ?_
            rintro e w2 ⟨rfl, b2⟩
            have hE2 : ET w2 := hE1.below b2
            go_wp2_with fail
            refine (ir.out _ (hE2.alloc _)).mono ?_
            rintro e w3 ⟨rfl, b3⟩
            have hE3 : ET w3 := (hE2.alloc _).below b3
            obtain ⟨hc3, hf3⟩ := bcell b3
            have z3 : w2.heap.size < w3.heap.size := by have := b3.size; simp at this; omega
            go_wp2_with fail
            refine (im.out _ (hE3.alloc _)).mono ?_
            rintro e w4 ⟨rfl, b4⟩
            obtain ⟨hc4, hf4⟩ := bcell b4
            have z4 : w3.heap.size < w4.heap.size := by have := b4.size; simp at this; omega
            have z5 : w2.heap.size < w4.heap.size := by omega
            go_wp2_with fail
            have q1 : ∀ p : BW (w4.alloc (.cells #[.int .i64 0, .int .i64 m] 26)), p.x.cell? ⟨w2.heap.size, 1, none⟩ = some (.int .i64 q) := fun p => p.cell (cell_laid _ (cell_keep b4 (cell_laid _ (cell_keep b3 (by simp)))))
            have r0 : ∀ p : BW (w4.alloc (.cells #[.int .i64 0, .int .i64 m] 26)), p.x.cell? ⟨w3.heap.size, 0, none⟩ = some (.int .i64 0) := fun p => p.cell (cell_laid _ (cell_keep b4 (by simp)))
            have r1 : ∀ p : BW (w4.alloc (.cells #[.int .i64 0, .int .i64 m] 26)), p.x.cell? ⟨w3.heap.size, 1, none⟩ = some (.int .i64 r) := fun p => p.cell (cell_laid _ (cell_keep b4 (by simp)))
            have m0 : ∀ p : BW (w4.alloc (.cells #[.int .i64 0, .int .i64 m] 26)), p.x.cell? ⟨w4.heap.size, 0, none⟩ = some (.int .i64 0) := fun p => p.cell (by simp)
            have m1 : ∀ p : BW (w4.alloc (.cells #[.int .i64 0, .int .i64 m] 26)), p.x.cell? ⟨w4.heap.size, 1, none⟩ = some (.int .i64 m) := fun p => p.cell (by simp)
            have hne := bw_some (w4.alloc (.cells #[.int .i64 0, .int .i64 m] 26))
            clear hc3 hf3 hc4 hf4
            refine wp_region_below (by kernel_rfl) (by kernel_rfl) ?_
            repeat (go_big_quiet_step ((go_at_call 26; exact calls_bw (sq.out _))))
            refine wpQuiet_nil ?_
            intro _ hw'
            obtain ⟨⟨wq, b5⟩, rfl⟩ := hw'
            go_wp2
            go_ret
            refine ⟨rfl, ?_⟩
            have t1 := b1.size
            have t2 := b2.size
            refine Below.trans ?_ (b5.mono (by simp; omega))
            refine Below.alloc ?_ (by omega) _
            refine Below.trans ?_ (b4.mono (by simp; omega))
            refine Below.alloc ?_ (by omega) _
            refine Below.trans ?_ (b3.mono (by simp; omega))
            refine Below.alloc ?_ (by omega) _
            exact b1.trans (b2.mono t1)
  · go_wp2
    go_ret
    exact ⟨rfl, Below.refl _ _⟩
end Go.Proofs.YtomkdofagjkfiaaDoor
