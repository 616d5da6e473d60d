/-
  The laws' heldTokenS, markTokensResult and heldTokensResult: the marks are there; nothing but the marked row is turned.
-/
import Derived.Test.YtnlfnicgfhfpfaaDoorHeld
namespace Go.Proofs.YtnlfnicgfhfpfaaDoor
open Go.RowKit Go.Extern.Stop Go.Stop Go.Extern Num Go.Lib

theorem held_at {w : World} {g cap base k n i q : Nat} (h : w.ownsRow base 35 3 (.slice (some ⟨g, 0, none⟩) n cap) n (cellsOf (marks k n))) (hi : i < n) (hq : q = k + 3 * i) :
    w.cell? ⟨g, i * 3, none⟩ = some (.int .i64 (q : Int)) ∧ w.cell? ⟨g, i * 3 + 1, none⟩ = some (.int .i64 ((q : Int) + 1)) ∧ w.cell? ⟨g, i * 3 + 2, none⟩ = some (S (109 :: decDigits (q + 2))) := by
  subst hq
  have hl := marks_len k n
  have h' : w.ownsRow base 35 3 (.slice (some ⟨g, 0, none⟩) (marks k n).length cap) (marks k n).length (cellsOf (marks k n)) := by rw [hl]; exact h
  obtain ⟨h1, h2, h3⟩ := row_at h' i (by rw [hl]; exact hi)
  rw [marks_at k n i hi] at h1 h2 h3
  exact ⟨h1, h2, h3⟩
set_option maxRecDepth 100000 in
set_option maxHeartbeats 2000000 in
theorem heldS_some (g cap base k n : Nat) (w : World) (hl : n ≤ 120) (hk : 1 ≤ k) (hk2 : k ≤ 1000) (h : w.ownsRow base 35 3 (.slice (some ⟨g, 0, none⟩) n cap) n (cellsOf (marks k n))) :
    Calls Tryd.prog 28 #[.slice (some ⟨g, 0, none⟩) n cap, .int .i64 (k : Int)] w fun e w' => e = .returned (.int .i64 ((k + 3 * n : Nat) : Int)) ∧ Below w.heap.size w w' := by
  have HO : Hid (w.ownsRow base 35 3 (.slice (some ⟨g, 0, none⟩) n cap) n (cellsOf (marks k n))) := h
  clear h
  go_enter Tryd.func28, Tryd.ntmps28
  go_wp2_with fail
  go_loopw [1, 5] (fun v m wr => ∃ i q : Nat, i ≤ n ∧ m = .int .i64 (i : Int) ∧ v = .int .i64 (q : Int) ∧ q = k + 3 * i ∧ Below w.heap.size w wr) (fun _ m _ => n - (RowKit.intOf m).toNat)
  case atStart => exact ⟨0, k, Nat.zero_le _, rfl, rfl, by omega, Below.refl _ _⟩
  case round =>
    obtain ⟨i, q, hi, rfl, rfl, hq, hb⟩ := hrel
    have HB : Hid (Below w.heap.size w wr) := hb
    have HQ : Hid (q = k + 3 * i) := hq
    have hq1 : 1 ≤ q := by omega
    have hq2 : q ≤ 2000 := by omega
    clear hb hq
    by_cases hlt : i < n
    · have HA : Hid _ := held_at (own_below HO.out HB.out) hlt HQ.out
      have a0 := HA.out.1
      have a1 := HA.out.2.1
      have a2 : ∀ p : BW wr, p.x.cell? ⟨g, i * 3 + 2, none⟩ = some (S (109 :: decDigits (q + 2))) := fun p => p.cell HA.out.2.2
      have hne := bw_some wr
      have HT : Hid (∀ w, Calls Tryd.prog 43 #[.int .i64 ((q : Int) + 1 + 1)] w fun e w' => e = .returned (S (109 :: decDigits (q + 2))) ∧ Below w.heap.size w w') := fun w => markText_any (q + 2) w (by omega) (by omega)
      go_wp2_with fail
      refine wp_region_below (by kernel_rfl) (by kernel_rfl) ?_
      repeat (go_big_quiet_step ((go_at_call 43; exact calls_bw (HT.out _))))
      refine wpQuiet_nil ?_
      intro wq hw'
      obtain ⟨⟨_, bq⟩, rfl⟩ := hw'
      have HB2 : Hid _ := HB.out.trans (bq.mono HB.out.size)
      clear bq a0 a1 a2 hne
      go_wp2
      exact ⟨⟨i + 1, q + 3, by omega, by go_num, by go_num, by have := HQ.out; omega, HB2.out⟩, by simp [RowKit.intOf]; omega⟩
    · have hil : i = n := by omega
      have HE : Hid ((q : Int) = ((k + 3 * n : Nat) : Int)) := by have := HQ.out; show (q : Int) = _; rw [this, hil]
      clear hil
      go_wp2
      go_ret
      exact ⟨by rw [← HE.out]; rfl, HB.out⟩
theorem markS_nil (ao : Option Addr) (cap k : Nat) (w : World) :
    Calls Tryd.prog 27 #[.slice ao 0 cap, .int .i64 (k : Int)] w fun e w' => e = .returned (.int .i64 (k : Int)) ∧ w' = w := by
  go_enter Tryd.func27, Tryd.ntmps27
  go_wp2_with fail
  go_loop [1, 5] (fun v i => v = .int .i64 (k : Int) ∧ i = .int .i64 0) (fun _ _ => 0)
  case atStart => exact ⟨rfl, rfl⟩
  case round =>
    obtain ⟨rfl, rfl⟩ := hrel
    go_wp2
    go_ret
    exact ⟨rfl, rfl⟩
theorem heldS_nil (ao : Option Addr) (cap k : Nat) (w : World) :
    Calls Tryd.prog 28 #[.slice ao 0 cap, .int .i64 (k : Int)] w fun e w' => e = .returned (.int .i64 (k : Int)) ∧ w' = w := by
  go_enter Tryd.func28, Tryd.ntmps28
  go_wp2_with fail
  go_loop [1, 5] (fun v i => v = .int .i64 (k : Int) ∧ i = .int .i64 0) (fun _ _ => 0)
  case atStart => exact ⟨rfl, rfl⟩
  case round =>
    obtain ⟨rfl, rfl⟩ := hrel
    go_wp2
    go_ret
    exact ⟨rfl, rfl⟩
/-- What is not the row v's block stays. -/
def Apart (v : Value) (w w' : World) : Prop := w.grownBy w' v.ownBlock
theorem markS_any (ao : Option Addr) (cap base : Nat) (l : List Tok) (w : World) (hl : l.length ≤ 120) (h : w.ownsRow base 35 3 (.slice ao l.length cap) l.length (cellsOf l)) :
    Calls Tryd.prog 27 #[.slice ao l.length cap, .int .i64 ((1 : Nat) : Int)] w fun e w' => e = .returned (.int .i64 ((1 + 3 * l.length : Nat) : Int)) ∧ w'.ownsRow base 35 3 (.slice ao l.length cap) l.length (cellsOf (marks 1 l.length)) ∧ w.grownBy w' (Value.slice ao l.length cap).ownBlock := by
  cases l with
  | nil =>
    refine (markS_nil ao cap 1 w).mono ?_
    rintro e w' ⟨rfl, rfl⟩
    exact ⟨rfl, h, gb_refl _ _⟩
  | cons t r =>
    obtain ⟨g, c, hv, _, _⟩ := h.form (by simp)
    obtain ⟨rfl, rfl⟩ : ao = some ⟨g, 0, none⟩ ∧ cap = c := by simp at hv; exact hv
    exact markS_some g cap base 1 (t :: r) w hl (by omega) (by omega) h
theorem heldS_any (ao : Option Addr) (cap base n : Nat) (w : World) (hl : n ≤ 120) (h : w.ownsRow base 35 3 (.slice ao n cap) n (cellsOf (marks 1 n))) :
    Calls Tryd.prog 28 #[.slice ao n cap, .int .i64 ((1 : Nat) : Int)] w fun e w' => e = .returned (.int .i64 ((1 + 3 * n : Nat) : Int)) ∧ Below w.heap.size w w' := by
  cases n with
  | zero =>
    refine (heldS_nil ao cap 1 w).mono ?_
    rintro e w' ⟨rfl, rfl⟩
    exact ⟨rfl, Below.refl _ _⟩
  | succ n =>
    obtain ⟨g, c, hv, _, _⟩ := h.form (by simp)
    obtain ⟨rfl, rfl⟩ : ao = some ⟨g, 0, none⟩ ∧ cap = c := by simp at hv; exact hv
    exact heldS_some g cap base 1 (n + 1) w hl (by omega) (by omega) h
/-- The marks of an answer. -/
theorem markT_any (c a : Int) (ao : Option Addr) (cap base : Nat) (l : List Tok) (w : World) (hl : l.length ≤ 120) (h : w.ownsRow base 35 3 (.slice ao l.length cap) l.length (cellsOf l)) :
    Calls Tryd.prog 10 #[.agg #[.int .i64 c, .int .i64 a, .slice ao l.length cap], .int .i64 1] w fun e w' => e = .returned (.int .i64 ((1 + 3 * l.length : Nat) : Int)) ∧ w'.ownsRow base 35 3 (.slice ao l.length cap) l.length (cellsOf (marks 1 l.length)) ∧ w.grownBy w' (Value.slice ao l.length cap).ownBlock := by
  have HS : Hid (∀ o, Calls Tryd.prog 27 #[.slice ao l.length cap, .int .i64 1] (w.alloc o) fun e w' => e = .returned (.int .i64 ((1 + 3 * l.length : Nat) : Int)) ∧ w'.ownsRow base 35 3 (.slice ao l.length cap) l.length (cellsOf (marks 1 l.length)) ∧ w.grownBy w' (Value.slice ao l.length cap).ownBlock) := fun o => by
    refine (markS_any ao cap base l (w.alloc o) hl (h.alloc _)).mono ?_
    rintro e w' ⟨rfl, h1, h2⟩
    refine ⟨rfl, h1, ⟨h2.os, h2.tape, h2.output, Nat.le_trans (by simp) h2.size, fun k hk hn => (h2.block k (by simp; omega) hn).trans (Below.heap_alloc _ _ _ hk)⟩⟩
  clear h
  go_enter Tryd.func10, Tryd.ntmps10
  go_wp2_with (go_at_call 27; refine (HS.out _).mono ?_; rintro e w1 ⟨rfl, hq⟩; have HQ : Hid _ := hq; clear hq)
  go_ret
  exact ⟨rfl, HQ.out.1, HQ.out.2⟩
theorem heldT_any (c a : Int) (ao : Option Addr) (cap base n : Nat) (w : World) (hl : n ≤ 120) (h : w.ownsRow base 35 3 (.slice ao n cap) n (cellsOf (marks 1 n))) :
    Calls Tryd.prog 11 #[.agg #[.int .i64 c, .int .i64 a, .slice ao n cap], .int .i64 1] w fun e w' => e = .returned (.int .i64 ((1 + 3 * n : Nat) : Int)) ∧ Below w.heap.size w w' := by
  obtain ⟨q, hq⟩ : ∃ q : Nat, q = 1 + 3 * n := ⟨_, rfl⟩
  have HS : Hid (∀ o, Calls Tryd.prog 28 #[.slice ao n cap, .int .i64 1] (w.alloc o) fun e w' => e = .returned (.int .i64 (q : Int)) ∧ Below w.heap.size w w') := fun o => by
    rw [hq]
    refine (heldS_any ao cap base n (w.alloc o) hl (h.alloc _)).mono ?_
    rintro e w' ⟨rfl, h1⟩
    exact ⟨rfl, ((Below.refl _ _).alloc (Nat.le_refl _) _).trans (h1.mono (by simp))⟩
  rw [← hq]
  clear h hq
  go_enter Tryd.func11, Tryd.ntmps11
  go_wp2_with (go_at_call 28; refine (HS.out _).mono ?_; rintro e w1 ⟨rfl, hq⟩; have HQ : Hid _ := hq; clear hq)
  go_ret
  exact ⟨rfl, HQ.out⟩
end Go.Proofs.YtnlfnicgfhfpfaaDoor
