/-
  Parts of the proof laid into one text, one behind the other; each says at its head what is proved in it.
-/
import Derived.Test.YtebnonpdaddniaaGreatDoorHtJ
/-
  The laws' eqCore and eqCoreS at cores that are the same: true; nothing that was there is turned.
-/
namespace Go.Proofs.YtebnonpdaddniaaGreatDoor
open Go.RowKit Go.Extern.Stop Go.Stop Go.Extern Num Go.Lib

theorem eqC_same (t : Cor) (v1 v2 : Value) (b1 b2 : Nat) (w : World) (hl : t.data.length ≤ 1048576) (h1 : w.ownsRow b1 100 4 v1 t.data.length (cellsD t.data)) (h2 : w.ownsRow b2 100 4 v2 t.data.length (cellsD t.data)) :
    Calls Tryz.prog 58 #[t.val v1, t.val v2] w fun e w' => e = .returned (.bool true) ∧ Below w.heap.size w w' := by
  have HS : Hid (∀ u, Below w.heap.size w u → Calls Tryz.prog 26 #[v1, v2] u fun e w' => e = .returned (.bool true) ∧ Below u.heap.size u w') := fun u hu => eqDS_same v1 v2 b1 b2 t.data u hl (own_below h1 hu) (own_below h2 hu)
  obtain ⟨o1, c1, rfl⟩ := own_form h1
  obtain ⟨o2, c2, rfl⟩ := own_form h2
  clear h1 h2 hl
  go_enter Tryz.func58, Tryz.ntmps58
  go_wp2_with fail
  refine (HS.out _ (by repeat (first | exact Below.refl _ _ | refine Below.alloc ?_ (by simp <;> omega) _ | refine Below.drew ?_))).mono ?_
  rintro e w1 ⟨rfl, b1⟩
  have HB : Hid (Below w.heap.size w w1) := Below.trans (by repeat (first | exact Below.refl _ _ | refine Below.alloc ?_ (by simp <;> omega) _ | refine Below.drew ?_)) (b1.mono (by simp <;> omega))
  clear b1
  go_wp2
  go_ret
  exact ⟨rfl, HB.out⟩
set_option maxRecDepth 100000 in
set_option maxHeartbeats 2000000 in
theorem eqCS_same (g1 g2 c1 c2 B1 B2 : Nat) (l : List Cor) (w : World) (hl : l.length ≤ 1048576) (hz : ∀ (k : Nat) (h : k < l.length), l[k].small) (h1 : RowC w B1 g1 l) (h2 : RowC w B2 g2 l) :
    Calls Tryz.prog 20 #[.slice (some ⟨g1, 0, none⟩) l.length c1, .slice (some ⟨g2, 0, none⟩) l.length c2] w fun e w' => e = .returned (.bool true) ∧ Below w.heap.size w w' := by
  have H1 : Hid (RowC w B1 g1 l) := h1
  have H2 : Hid (RowC w B2 g2 l) := h2
  have HZ : Hid (∀ (k : Nat) (h : k < l.length), l[k].small) := hz
  clear h1 h2 hz
  go_enter Tryz.func20, Tryz.ntmps20
  go_wp2_with fail
  go_loopw [5] (fun i wr => ∃ k : Nat, k ≤ l.length ∧ i = .int .i64 (k : Int) ∧ Below w.heap.size w wr) (fun i _ => l.length - (RowKit.intOf i).toNat)
  case atStart => exact ⟨0, Nat.zero_le _, rfl, Below.refl _ _⟩
  case round =>
    obtain ⟨k, hk, rfl, hb⟩ := hrel
    have HB : Hid (Below w.heap.size w wr) := hb
    clear hb
    by_cases hlt : k < l.length
    · obtain ⟨p0, p1, p2, p3, p4, ga, p5, oa⟩ := H1.out.below HB.out k hlt
      obtain ⟨q0, q1, q2, q3, q4, gb, q5, ob⟩ := H2.out.below HB.out k hlt
      have HT : Hid (∀ p : BW wr, Calls Tryz.prog 58 #[(l[k]'hlt).val (.slice (some ⟨ga, 0, none⟩) (l[k]'hlt).data.length (l[k]'hlt).data.length), (l[k]'hlt).val (.slice (some ⟨gb, 0, none⟩) (l[k]'hlt).data.length (l[k]'hlt).data.length)] p.x fun e w' => e = .returned (.bool true) ∧ Below p.x.heap.size p.x w') := fun p => eqC_same _ _ _ B1 B2 p.x (HZ.out k hlt).len (own_below oa p.h) (own_below ob p.h)
      have a0 : ∀ p : BW wr, p.x.cell? ⟨g1, k * 6, none⟩ = some (.int .i64 (l[k]'hlt).kind) := fun p => p.cell p0
      have a1 : ∀ p : BW wr, p.x.cell? ⟨g1, k * 6 + 1, none⟩ = some (.int .i64 (l[k]'hlt).parent) := fun p => p.cell p1
      have a2 : ∀ p : BW wr, p.x.cell? ⟨g1, k * 6 + 2, none⟩ = some (.int .i64 (l[k]'hlt).a) := fun p => p.cell p2
      have a3 : ∀ p : BW wr, p.x.cell? ⟨g1, k * 6 + 3, none⟩ = some (.int .i64 (l[k]'hlt).b) := fun p => p.cell p3
      have a4 : ∀ p : BW wr, p.x.cell? ⟨g1, k * 6 + 4, none⟩ = some (.string (l[k]'hlt).name) := fun p => p.cell p4
      have a5 : ∀ p : BW wr, p.x.cell? ⟨g1, k * 6 + 5, none⟩ = some (.slice (some ⟨ga, 0, none⟩) (l[k]'hlt).data.length (l[k]'hlt).data.length) := fun p => p.cell p5
      have d0 : ∀ p : BW wr, p.x.cell? ⟨g2, k * 6, none⟩ = some (.int .i64 (l[k]'hlt).kind) := fun p => p.cell q0
      have d1 : ∀ p : BW wr, p.x.cell? ⟨g2, k * 6 + 1, none⟩ = some (.int .i64 (l[k]'hlt).parent) := fun p => p.cell q1
      have d2 : ∀ p : BW wr, p.x.cell? ⟨g2, k * 6 + 2, none⟩ = some (.int .i64 (l[k]'hlt).a) := fun p => p.cell q2
      have d3 : ∀ p : BW wr, p.x.cell? ⟨g2, k * 6 + 3, none⟩ = some (.int .i64 (l[k]'hlt).b) := fun p => p.cell q3
      have d4 : ∀ p : BW wr, p.x.cell? ⟨g2, k * 6 + 4, none⟩ = some (.string (l[k]'hlt).name) := fun p => p.cell q4
      have d5 : ∀ p : BW wr, p.x.cell? ⟨g2, k * 6 + 5, none⟩ = some (.slice (some ⟨gb, 0, none⟩) (l[k]'hlt).data.length (l[k]'hlt).data.length) := fun p => p.cell q5
      have hne := bw_some wr
      clear p0 p1 p2 p3 p4 p5 q0 q1 q2 q3 q4 q5 oa ob
      go_wp2_with fail
      refine wp_region_below (by kernel_rfl) (by kernel_rfl) ?_
      repeat (go_big_quiet_step ((go_at_call 58; exact calls_bw (HT.out _))))
      refine wpQuiet_nil ?_
      intro wq hw'
      obtain ⟨⟨_, bq⟩, rfl⟩ := hw'
      have HB2 : Hid _ := HB.out.trans (bq.mono HB.out.size)
      clear bq a0 a1 a2 a3 a4 a5 d0 d1 d2 d3 d4 d5 hne
      go_wp2
      exact ⟨⟨k + 1, by omega, by go_num, HB2.out⟩, by simp [RowKit.intOf]; omega⟩
    · go_wp2
      go_ret
      exact ⟨rfl, HB.out⟩
end Go.Proofs.YtebnonpdaddniaaGreatDoor
