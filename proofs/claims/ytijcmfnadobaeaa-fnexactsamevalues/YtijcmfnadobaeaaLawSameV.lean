/-
  SameValues of the model and of the program: whether two values are the same; the exact law answers true at every two values; nothing that was there is turned.
-/
import Derived.Test.YtijcmfnadobaeaaVBox
import Derived.Test.YtijcmfnadobaeaaRegion
namespace Go.Proofs.Ytijcmfnadobaeaa
open Go.RowKit Go.Extern.Stop Go.Stop Go.Extern Num Go.Lib

def eqVB (a b : Vlu) : Bool := a.kind == b.kind && (a.num == b.num && (a.name.toList == b.name.toList))
set_option maxHeartbeats 1000000 in
theorem specSV_any (a b : Vlu) (w : World) :
    Calls Try.prog 28 #[a.val, b.val] w fun e w' => e = .returned (.bool (eqVB a b)) ∧ Below w.heap.size w w' := by
  have HQ : Hid (eqVB a b = (a.kind == b.kind && (a.num == b.num && (a.name.toList == b.name.toList)))) := rfl
  rw [HQ.out]
  clear HQ
  cases e0 : (a.kind == b.kind) <;> cases e1 : (a.num == b.num) <;> cases e2 : (a.name.toList == b.name.toList)
  all_goals
    go_enter Try.func28, Try.ntmps28
    go_wp2
    go_ret
    refine ⟨rfl, ?_⟩
    repeat (first | exact Below.refl _ _ | refine Below.alloc ?_ (by simp <;> omega) _ | refine Below.drew ?_)
set_option maxHeartbeats 1000000 in
theorem implSV_any (a b : Vlu) (w : World) :
    Calls Try.prog 14 #[a.val, b.val] w fun e w' => e = .returned (.bool (eqVB a b)) ∧ Below w.heap.size w w' := by
  have HQ : Hid (eqVB a b = (a.kind == b.kind && (a.num == b.num && (a.name.toList == b.name.toList)))) := rfl
  rw [HQ.out]
  clear HQ
  cases e0 : (a.kind == b.kind) <;> cases e1 : (a.num == b.num) <;> cases e2 : (a.name.toList == b.name.toList)
  all_goals
    go_enter Try.func14, Try.ntmps14
    go_wp2
    go_ret
    refine ⟨rfl, ?_⟩
    repeat (first | exact Below.refl _ _ | refine Below.alloc ?_ (by simp <;> omega) _ | refine Below.drew ?_)
set_option maxRecDepth 100000 in
set_option maxHeartbeats 1000000 in
theorem lawSameV_any (w : World) (a : Vlu) (ha : a.name.size ≤ 9223372036854775807) (b : Vlu) (hb : b.name.size ≤ 9223372036854775807) :
    Calls Try.prog 7 #[a.val, b.val] w fun e w' => e = .returned (.bool true) ∧ Below w.heap.size w w' := by
  obtain ⟨R, hR⟩ : ∃ R : Bool, R = eqVB a b := ⟨_, rfl⟩
  have HS : Hid (∀ w, Calls Try.prog 28 #[a.val, b.val] w fun e w' => e = .returned (.bool R) ∧ Below w.heap.size w w') := fun w => by rw [hR]; exact specSV_any a b w
  have HI : Hid (∀ w, Calls Try.prog 14 #[a.val, b.val] w fun e w' => e = .returned (.bool R) ∧ Below w.heap.size w w') := fun w => by rw [hR]; exact implSV_any a b w
  have HT : Hid (∀ (t : Vlu) (w : World), Calls Try.prog 18 #[t.val] w fun e w' => e = .returned t.val ∧ Below w.heap.size w w') := fun t w => toV_any t w
  clear hR
  have VA : Hid _ := (box2 w a b 38 38).1
  have VB : Hid _ := (box2 w a b 38 38).2.1
  have B : Hid _ := (box2 w a b 38 38).2.2
  by_cases h1 : 1048576 < a.name.size
  · have HZ : Hid (∀ w, Calls Try.prog 16 #[a.val, .int .i64 1048576] w fun e w' => e = .returned (.int .i64 (-1)) ∧ Below w.heap.size w w') := fun w => szV_far a 1048576 w ha (Nat.le_refl _) h1
    clear h1 ha hb
    go_enter Try.func7, Try.ntmps7
    go_wp2_with fail
    refine (HZ.out _).mono ?_
    rintro e w1 ⟨rfl, hb1⟩
    replace VA : Hid (VBox w.heap.size a w1) := VA.out.below hb1
    replace VB : Hid (VBox (w.heap.size + 1) b w1) := VB.out.below hb1
    replace B : Hid (Below w.heap.size w w1) := B.out.trans (hb1.mono B.out.size)
    clear hb1
    go_wp2
    go_ret
    exact ⟨rfl, B.out⟩
  obtain ⟨q, hq⟩ : ∃ q : Nat, q = 1048576 - a.name.size := ⟨_, rfl⟩
  have HZ : Hid (∀ w, Calls Try.prog 16 #[a.val, .int .i64 1048576] w fun e w' => e = .returned (.int .i64 (q : Int)) ∧ Below w.heap.size w w') := fun w => by rw [hq]; exact szV_near a 1048576 w (Nat.le_refl _) (by omega)
  by_cases h2 : q < b.name.size
  · have HY : Hid (∀ w, Calls Try.prog 16 #[b.val, .int .i64 (q : Int)] w fun e w' => e = .returned (.int .i64 (-1)) ∧ Below w.heap.size w w') := fun w => szV_far b q w hb (by omega) h2
    clear h1 h2 hq ha hb
    go_enter Try.func7, Try.ntmps7
    go_wp2_with fail
    refine (HZ.out _).mono ?_
    rintro e w1 ⟨rfl, hb1⟩
    replace VA : Hid (VBox w.heap.size a w1) := VA.out.below hb1
    replace VB : Hid (VBox (w.heap.size + 1) b w1) := VB.out.below hb1
    replace B : Hid (Below w.heap.size w w1) := B.out.trans (hb1.mono B.out.size)
    clear hb1
    have b0 : w1.cell? ⟨w.heap.size + 1, 0, none⟩ = some (.int .i64 b.kind) := VB.out.c0
    have b1 : w1.cell? ⟨w.heap.size + 1, 1, none⟩ = some (.int .i64 b.num) := VB.out.c1
    have b2 : w1.cell? ⟨w.heap.size + 1, 2, none⟩ = some (.string b.name) := VB.out.c2
    go_wp2_with fail
    refine (HY.out _).mono ?_
    rintro e w2 ⟨rfl, hb2⟩
    clear b0 b1 b2
    replace VA : Hid (VBox w.heap.size a w2) := VA.out.below hb2
    replace VB : Hid (VBox (w.heap.size + 1) b w2) := VB.out.below hb2
    replace B : Hid (Below w.heap.size w w2) := B.out.trans (hb2.mono B.out.size)
    clear hb2
    go_wp2
    go_ret
    exact ⟨rfl, B.out⟩
  obtain ⟨r, hr⟩ : ∃ r : Nat, r = q - b.name.size := ⟨_, rfl⟩
  have HY : Hid (∀ w, Calls Try.prog 16 #[b.val, .int .i64 (q : Int)] w fun e w' => e = .returned (.int .i64 (r : Int)) ∧ Below w.heap.size w w') := fun w => by rw [hr]; exact szV_near b q w (by omega) (by omega)
  clear h1 h2 hq hr ha hb
  go_enter Try.func7, Try.ntmps7
  go_wp2_with fail
  refine (HZ.out _).mono ?_
  rintro e w1 ⟨rfl, hb1⟩
  replace VA : Hid (VBox w.heap.size a w1) := VA.out.below hb1
  replace VB : Hid (VBox (w.heap.size + 1) b w1) := VB.out.below hb1
  replace B : Hid (Below w.heap.size w w1) := B.out.trans (hb1.mono B.out.size)
  clear hb1
  have b0 : w1.cell? ⟨w.heap.size + 1, 0, none⟩ = some (.int .i64 b.kind) := VB.out.c0
  have b1 : w1.cell? ⟨w.heap.size + 1, 1, none⟩ = some (.int .i64 b.num) := VB.out.c1
  have b2 : w1.cell? ⟨w.heap.size + 1, 2, none⟩ = some (.string b.name) := VB.out.c2
  go_wp2_with fail
  refine (HY.out _).mono ?_
  rintro e w2 ⟨rfl, hb2⟩
  clear b0 b1 b2
  replace VA : Hid (VBox w.heap.size a w2) := VA.out.below hb2
  replace VB : Hid (VBox (w.heap.size + 1) b w2) := VB.out.below hb2
  replace B : Hid (Below w.heap.size w w2) := B.out.trans (hb2.mono B.out.size)
  clear hb2
  have a0 : ∀ p : BW w2, p.x.cell? ⟨w.heap.size, 0, none⟩ = some (.int .i64 a.kind) := fun p => p.cell VA.out.c0
  have a1 : ∀ p : BW w2, p.x.cell? ⟨w.heap.size, 1, none⟩ = some (.int .i64 a.num) := fun p => p.cell VA.out.c1
  have a2 : ∀ p : BW w2, p.x.cell? ⟨w.heap.size, 2, none⟩ = some (.string a.name) := fun p => p.cell VA.out.c2
  have b0 : ∀ p : BW w2, p.x.cell? ⟨w.heap.size + 1, 0, none⟩ = some (.int .i64 b.kind) := fun p => p.cell VB.out.c0
  have b1 : ∀ p : BW w2, p.x.cell? ⟨w.heap.size + 1, 1, none⟩ = some (.int .i64 b.num) := fun p => p.cell VB.out.c1
  have b2 : ∀ p : BW w2, p.x.cell? ⟨w.heap.size + 1, 2, none⟩ = some (.string b.name) := fun p => p.cell VB.out.c2
  have hne := bw_some w2
  go_wp2_with fail
  refine wp_region_below (by kernel_rfl) (by kernel_rfl) ?_
  repeat (go_big_quiet_step ((first | (go_at_call 18; exact calls_bw (HT.out _ _)) | (go_at_call 28; exact calls_bw (HS.out _)))))
  refine wpQuiet_nil ?_
  intro w3 hw'
  obtain ⟨⟨_, hb3⟩, rfl⟩ := hw'
  clear hne
  clear a0 a1 a2 b0 b1 b2
  replace VA : Hid (VBox w.heap.size a w3) := VA.out.below hb3
  replace VB : Hid (VBox (w.heap.size + 1) b w3) := VB.out.below hb3
  replace B : Hid (Below w.heap.size w w3) := B.out.trans (hb3.mono B.out.size)
  clear hb3
  have a0 : ∀ p : BW w3, p.x.cell? ⟨w.heap.size, 0, none⟩ = some (.int .i64 a.kind) := fun p => p.cell VA.out.c0
  have a1 : ∀ p : BW w3, p.x.cell? ⟨w.heap.size, 1, none⟩ = some (.int .i64 a.num) := fun p => p.cell VA.out.c1
  have a2 : ∀ p : BW w3, p.x.cell? ⟨w.heap.size, 2, none⟩ = some (.string a.name) := fun p => p.cell VA.out.c2
  have b0 : ∀ p : BW w3, p.x.cell? ⟨w.heap.size + 1, 0, none⟩ = some (.int .i64 b.kind) := fun p => p.cell VB.out.c0
  have b1 : ∀ p : BW w3, p.x.cell? ⟨w.heap.size + 1, 1, none⟩ = some (.int .i64 b.num) := fun p => p.cell VB.out.c1
  have b2 : ∀ p : BW w3, p.x.cell? ⟨w.heap.size + 1, 2, none⟩ = some (.string b.name) := fun p => p.cell VB.out.c2
  have hne := bw_some w3
  go_wp2_with fail
  refine wp_region_below (by kernel_rfl) (by kernel_rfl) ?_
  repeat (go_big_quiet_step ((first | (go_at_call 18; exact calls_bw (HT.out _ _)) | (go_at_call 14; exact calls_bw (HI.out _)))))
  refine wpQuiet_nil ?_
  intro w4 hw'
  obtain ⟨⟨_, hb4⟩, rfl⟩ := hw'
  clear hne
  clear a0 a1 a2 b0 b1 b2
  replace VA : Hid (VBox w.heap.size a w4) := VA.out.below hb4
  replace VB : Hid (VBox (w.heap.size + 1) b w4) := VB.out.below hb4
  replace B : Hid (Below w.heap.size w w4) := B.out.trans (hb4.mono B.out.size)
  clear hb4
  go_wp2
  go_ret
  exact ⟨rfl, B.out⟩
end Go.Proofs.Ytijcmfnadobaeaa
