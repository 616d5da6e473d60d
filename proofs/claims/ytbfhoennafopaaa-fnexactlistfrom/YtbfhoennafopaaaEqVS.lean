/-
  Rows of values: what the laws' eqValueS answers; nothing that was there is turned.
-/
import Derived.Test.YtbfhoennafopaaaVluBase
namespace Go.Proofs.Ytbfhoennafopaaa
open Go.RowKit Go.Extern.Stop Go.Stop Go.Extern Num Go.Lib

theorem eqVS_nil (ao bo : Option Addr) (ca cb : Nat) (w : World) :
    Calls Try.prog 45 #[.slice ao 0 ca, .slice bo 0 cb] w fun e w' => e = .returned (.bool true) ∧ Below w.heap.size w w' := by
  go_enter Try.func45, Try.ntmps45
  go_wp2_with fail
  go_loop [5] (fun i => i = .int .i64 0) (fun _ => 0)
  case atStart => rfl
  case round =>
    obtain rfl := hrel
    go_wp2
    go_ret
    exact ⟨rfl, Below.refl _ _⟩
set_option maxRecDepth 100000 in
set_option maxHeartbeats 1000000 in
theorem eqVS_some (g1 g2 c1 c2 b1 b2 : Nat) (l : List Vlu) (w : World) (hl : l.length ≤ 1048576) (h1 : w.ownsRow b1 26 3 (.slice (some ⟨g1, 0, none⟩) l.length c1) l.length (cellsV l)) (h2 : w.ownsRow b2 26 3 (.slice (some ⟨g2, 0, none⟩) l.length c2) l.length (cellsV l)) :
    Calls Try.prog 45 #[.slice (some ⟨g1, 0, none⟩) l.length c1, .slice (some ⟨g2, 0, none⟩) l.length c2] w fun e w' => e = .returned (.bool true) ∧ Below w.heap.size w w' := by
  have H1 : Hid _ := fun k hk => rowV_at h1 k hk
  have H2 : Hid _ := fun k hk => rowV_at h2 k hk
  clear h1 h2
  go_enter Try.func45, Try.ntmps45
  go_wp2_with fail
  go_loopw [5] (fun i wr => ∃ k : Nat, k ≤ l.length ∧ i = .int .i64 (k : Int) ∧ Below w.heap.size w wr) (fun i _ => l.length - (RowKit.intOf i).toNat)
  case atStart => exact ⟨0, Nat.zero_le _, rfl, Below.refl _ _⟩
  case round =>
    obtain ⟨k, hk, rfl, hb⟩ := hrel
    have HB : Hid (Below w.heap.size w wr) := hb
    clear hb
    by_cases hlt : k < l.length
    · have HT : Hid (∀ w, Calls Try.prog 41 #[(l[k]'hlt).val, (l[k]'hlt).val] w fun e w' => e = .returned (.bool true) ∧ Below w.heap.size w w') := fun w => eqV_same _ w
      have a0 : ∀ p : BW wr, p.x.cell? ⟨g1, k * 3, none⟩ = some (.int .i64 (l[k]'hlt).kind) := fun p => p.cell (cell_keep HB.out (H1.out k hlt).1)
      have a1 : ∀ p : BW wr, p.x.cell? ⟨g1, k * 3 + 1, none⟩ = some (.int .i64 (l[k]'hlt).num) := fun p => p.cell (cell_keep HB.out (H1.out k hlt).2.1)
      have a2 : ∀ p : BW wr, p.x.cell? ⟨g1, k * 3 + 2, none⟩ = some (.string (l[k]'hlt).name) := fun p => p.cell (cell_keep HB.out (H1.out k hlt).2.2)
      have d0 : ∀ p : BW wr, p.x.cell? ⟨g2, k * 3, none⟩ = some (.int .i64 (l[k]'hlt).kind) := fun p => p.cell (cell_keep HB.out (H2.out k hlt).1)
      have d1 : ∀ p : BW wr, p.x.cell? ⟨g2, k * 3 + 1, none⟩ = some (.int .i64 (l[k]'hlt).num) := fun p => p.cell (cell_keep HB.out (H2.out k hlt).2.1)
      have d2 : ∀ p : BW wr, p.x.cell? ⟨g2, k * 3 + 2, none⟩ = some (.string (l[k]'hlt).name) := fun p => p.cell (cell_keep HB.out (H2.out k hlt).2.2)
      have hne := bw_some wr
      go_wp2_with fail
      refine wp_region_below (by kernel_rfl) (by kernel_rfl) ?_
      repeat (go_big_quiet_step ((go_at_call 41; exact calls_bw (HT.out _))))
      refine wpQuiet_nil ?_
      intro wq hw'
      obtain ⟨⟨_, bq⟩, rfl⟩ := hw'
      have HB2 : Hid _ := HB.out.trans (bq.mono HB.out.size)
      clear bq a0 a1 a2 d0 d1 d2 hne
      go_wp2
      exact ⟨⟨k + 1, by omega, by go_num, HB2.out⟩, by simp [RowKit.intOf]; omega⟩
    · go_wp2
      go_ret
      exact ⟨rfl, HB.out⟩
theorem eqVS_same (a b : Value) (b1 b2 : Nat) (l : List Vlu) (w : World) (hl : l.length ≤ 1048576) (h1 : w.ownsRow b1 26 3 a l.length (cellsV l)) (h2 : w.ownsRow b2 26 3 b l.length (cellsV l)) :
    Calls Try.prog 45 #[a, b] w fun e w' => e = .returned (.bool true) ∧ Below w.heap.size w w' := by
  cases l with
  | nil =>
    obtain ⟨ao, ca, rfl⟩ := own_form h1
    obtain ⟨bo, cb, rfl⟩ := own_form h2
    exact eqVS_nil ao bo ca cb w
  | cons t r =>
    obtain ⟨g1, c1, rfl, _, _⟩ := h1.form (by simp)
    obtain ⟨g2, c2, rfl, _, _⟩ := h2.form (by simp)
    exact eqVS_some g1 g2 c1 c2 b1 b2 (t :: r) w hl h1 h2

end Go.Proofs.Ytbfhoennafopaaa
