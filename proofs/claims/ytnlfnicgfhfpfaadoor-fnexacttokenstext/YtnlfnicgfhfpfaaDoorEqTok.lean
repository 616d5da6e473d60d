/-
  The laws' eqToken, eqTokenS and eqTokensResult answer true of the same tokens, wherever they lie; nothing that was there is turned.
-/
import Derived.Test.YtnlfnicgfhfpfaaDoorSpecOf
import Derived.Test.YtnlfnicgfhfpfaaDoorRegion
namespace Go.Proofs.YtnlfnicgfhfpfaaDoor
open Go.RowKit Go.Extern.Stop Go.Stop Go.Extern Num Go.Lib

theorem eqToken_same (t : Tok) (w : World) :
    Calls Tryd.prog 36 #[t.val, t.val] w fun e w' => e = .returned (.bool true) ∧ Below w.heap.size w w' := by
  go_enter Tryd.func36, Tryd.ntmps36
  go_wp2
  go_ret
  refine ⟨rfl, ?_⟩
  repeat (first | exact Below.refl _ _ | refine Below.alloc ?_ (by simp <;> omega) _ | refine Below.drew ?_)
theorem row_at {w : World} {base g cap : Nat} {l : List Tok} (h : w.ownsRow base 35 3 (.slice (some ⟨g, 0, none⟩) l.length cap) l.length (cellsOf l)) (k : Nat) (hk : k < l.length) :
    w.cell? ⟨g, k * 3, none⟩ = some (.int .i64 l[k].kind) ∧ w.cell? ⟨g, k * 3 + 1, none⟩ = some (.int .i64 l[k].num) ∧ w.cell? ⟨g, k * 3 + 2, none⟩ = some (.string l[k].name) := by
  have ha : ∀ j, (⟨g, 0, none⟩ : Addr).add j = ⟨g, j, none⟩ := fun j => by unfold Addr.add; split <;> simp_all
  have hc := h.cells (g := g) rfl
  obtain ⟨h1, h2, h3⟩ := cellsOf_at l k hk
  exact ⟨by rw [← ha]; exact hc _ _ h1, by rw [← ha]; exact hc _ _ h2, by rw [← ha]; exact hc _ _ h3⟩
theorem eqS_nil (ao bo : Option Addr) (ca cb : Nat) (w : World) :
    Calls Tryd.prog 21 #[.slice ao 0 ca, .slice bo 0 cb] w fun e w' => e = .returned (.bool true) ∧ Below w.heap.size w w' := by
  go_enter Tryd.func21, Tryd.ntmps21
  go_wp2_with fail
  go_loop [5] (fun i => i = .int .i64 0) (fun _ => 0)
  case atStart => rfl
  case round =>
    obtain rfl := hrel
    go_wp2
    go_ret
    exact ⟨rfl, Below.refl _ _⟩
set_option maxRecDepth 100000 in
set_option maxHeartbeats 1000000 in
theorem eqS_some (g1 g2 c1 c2 b1 b2 : Nat) (l : List Tok) (w : World) (hl : l.length ≤ 1048576) (h1 : w.ownsRow b1 35 3 (.slice (some ⟨g1, 0, none⟩) l.length c1) l.length (cellsOf l)) (h2 : w.ownsRow b2 35 3 (.slice (some ⟨g2, 0, none⟩) l.length c2) l.length (cellsOf l)) :
    Calls Tryd.prog 21 #[.slice (some ⟨g1, 0, none⟩) l.length c1, .slice (some ⟨g2, 0, none⟩) l.length c2] w fun e w' => e = .returned (.bool true) ∧ Below w.heap.size w w' := by
  have H1 : Hid _ := fun k hk => row_at h1 k hk
  have H2 : Hid _ := fun k hk => row_at h2 k hk
  have HL1 : Hid (g1 < w.heap.size) := (h1.lt g1 rfl).2
  have HL2 : Hid (g2 < w.heap.size) := (h2.lt g2 rfl).2
  clear h1 h2
  go_enter Tryd.func21, Tryd.ntmps21
  go_wp2_with fail
  go_loopw [5] (fun i wr => ∃ k : Nat, k ≤ l.length ∧ i = .int .i64 (k : Int) ∧ Below w.heap.size w wr) (fun i _ => l.length - (RowKit.intOf i).toNat)
  case atStart => exact ⟨0, Nat.zero_le _, rfl, Below.refl _ _⟩
  case round =>
    obtain ⟨k, hk, rfl, hb⟩ := hrel
    have HB : Hid (Below w.heap.size w wr) := hb
    clear hb
    by_cases hlt : k < l.length
    · have HT : Hid (∀ w, Calls Tryd.prog 36 #[(l[k]'hlt).val, (l[k]'hlt).val] w fun e w' => e = .returned (.bool true) ∧ Below w.heap.size w w') := fun w => eqToken_same _ w
      have a0 : ∀ p : BW wr, p.x.cell? ⟨g1, k * 3, none⟩ = some (.int .i64 (l[k]'hlt).kind) := fun p => p.cell (cell_keep HB.out (H1.out k hlt).1)
      have a1 : ∀ p : BW wr, p.x.cell? ⟨g1, k * 3 + 1, none⟩ = some (.int .i64 (l[k]'hlt).num) := fun p => p.cell (cell_keep HB.out (H1.out k hlt).2.1)
      have a2 : ∀ p : BW wr, p.x.cell? ⟨g1, k * 3 + 2, none⟩ = some (.string (l[k]'hlt).name) := fun p => p.cell (cell_keep HB.out (H1.out k hlt).2.2)
      have d0 : ∀ p : BW wr, p.x.cell? ⟨g2, k * 3, none⟩ = some (.int .i64 (l[k]'hlt).kind) := fun p => p.cell (cell_keep HB.out (H2.out k hlt).1)
      have d1 : ∀ p : BW wr, p.x.cell? ⟨g2, k * 3 + 1, none⟩ = some (.int .i64 (l[k]'hlt).num) := fun p => p.cell (cell_keep HB.out (H2.out k hlt).2.1)
      have d2 : ∀ p : BW wr, p.x.cell? ⟨g2, k * 3 + 2, none⟩ = some (.string (l[k]'hlt).name) := fun p => p.cell (cell_keep HB.out (H2.out k hlt).2.2)
      have hne := bw_some wr
      go_wp2_with fail
      refine wp_region_below (by kernel_rfl) (by kernel_rfl) ?_
      repeat (go_big_quiet_step ((go_at_call 36; exact calls_bw (HT.out _))))
      refine wpQuiet_nil ?_
      intro wq hw'
      obtain ⟨⟨_, bq⟩, rfl⟩ := hw'
      have HB2 : Hid _ := HB.out.trans (bq.mono HB.out.size)
      clear bq a0 a1 a2 d0 d1 d2 hne
      go_wp2
      exact ⟨⟨k + 1, by omega, by go_num, HB2.out⟩, by simp [RowKit.intOf]; omega⟩
    · go_wp2
      go_ret
      exact ⟨rfl, HB.out⟩
theorem eqS_same (a b : Value) (b1 b2 : Nat) (l : List Tok) (w : World) (hl : l.length ≤ 1048576) (h1 : w.ownsRow b1 35 3 a l.length (cellsOf l)) (h2 : w.ownsRow b2 35 3 b l.length (cellsOf l)) :
    Calls Tryd.prog 21 #[a, b] w fun e w' => e = .returned (.bool true) ∧ Below w.heap.size w w' := by
  cases l with
  | nil =>
    obtain ⟨ao, ca, rfl⟩ := own_form h1
    obtain ⟨bo, cb, rfl⟩ := own_form h2
    exact eqS_nil ao bo ca cb w
  | cons t r =>
    obtain ⟨g1, c1, rfl, _, _⟩ := h1.form (by simp)
    obtain ⟨g2, c2, rfl, _, _⟩ := h2.form (by simp)
    exact eqS_some g1 g2 c1 c2 b1 b2 (t :: r) w hl h1 h2
theorem eqT_same (c a : Int) (ao bo : Option Addr) (ca cb b1 b2 : Nat) (l : List Tok) (w : World) (hl : l.length ≤ 1048576) (h1 : w.ownsRow b1 35 3 (.slice ao l.length ca) l.length (cellsOf l)) (h2 : w.ownsRow b2 35 3 (.slice bo l.length cb) l.length (cellsOf l)) :
    Calls Tryd.prog 9 #[.agg #[.int .i64 c, .int .i64 a, .slice ao l.length ca], .agg #[.int .i64 c, .int .i64 a, .slice bo l.length cb]] w fun e w' => e = .returned (.bool true) ∧ Below w.heap.size w w' := by
  have HS : Hid (∀ o o', Calls Tryd.prog 21 #[.slice ao l.length ca, .slice bo l.length cb] ((w.alloc o).alloc o') fun e w' => e = .returned (.bool true) ∧ Below ((w.alloc o).alloc o').heap.size ((w.alloc o).alloc o') w') := fun o o' => eqS_same _ _ b1 b2 l _ hl ((h1.alloc _).alloc _) ((h2.alloc _).alloc _)
  clear h1 h2
  go_enter Tryd.func9, Tryd.ntmps9
  go_wp2_with (go_at_call 21; refine (HS.out _ _).mono ?_; rintro e w1 ⟨rfl, hq⟩)
  go_ret
  refine ⟨rfl, ?_⟩
  repeat (first | exact Below.refl _ _ | refine Below.trans ?_ (hq.mono (by simp <;> omega)) | refine Below.alloc ?_ (by simp <;> omega) _ | refine Below.drew ?_)
end Go.Proofs.YtnlfnicgfhfpfaaDoor
