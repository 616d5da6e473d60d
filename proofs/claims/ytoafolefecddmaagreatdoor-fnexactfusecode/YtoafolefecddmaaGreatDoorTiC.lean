/-
  Parts of the proof laid into one text, one behind the other: EqOp, EqBlock. Contracts of the program's and the model's functions, and what they are proved of, as their theorems say.
-/
import Derived.Test.YtoafolefecddmaaGreatDoorTiE
namespace Go.Proofs.YtoafolefecddmaaGreatDoor
open Go.RowKit Go.Extern.Stop Go.Stop Go.Extern Num Go.Lib
theorem eqOp_same (t : Opr) (g1 g2 b1 b2 : Nat) (w : World) (hl : t.data.length ≤ 1048576) (h1 : IsD w b1 g1 t.data.length t.data) (h2 : IsD w b2 g2 t.data.length t.data) :
    Calls Tryz.prog 133 #[t.val (.slice (some ⟨g1, 0, none⟩) t.data.length t.data.length), t.val (.slice (some ⟨g2, 0, none⟩) t.data.length t.data.length)] w fun e w' => e = .returned (.bool true) ∧ Below w.heap.size w w' := by
  have HS : Hid (∀ u, Below w.heap.size w u → Calls Tryz.prog 170 #[.slice (some ⟨g1, 0, none⟩) t.data.length t.data.length, .slice (some ⟨g2, 0, none⟩) t.data.length t.data.length] u fun e w' => e = .returned (.bool true) ∧ Below u.heap.size u w') := fun u hu => eqDS_same _ _ b1 b2 t.data u hl (h1.below hu) (h2.below hu)
  clear h1 h2 hl
  go_enter Tryz.func133, Tryz.ntmps133
  go_wp2_with fail
  refine (HS.out _ (by repeat (first | exact Below.refl _ _ | refine Below.alloc ?_ (by simp <;> omega) _ | refine Below.drew ?_))).mono ?_
  rintro e w1 ⟨rfl, b1⟩
  have HB : Hid (Below w.heap.size w w1) := Below.trans (by repeat (first | exact Below.refl _ _ | refine Below.alloc ?_ (by simp <;> omega) _ | refine Below.drew ?_)) (b1.mono (by simp <;> omega))
  clear b1
  go_wp2
  go_ret
  exact ⟨rfl, HB.out⟩
set_option maxRecDepth 100000 in
set_option maxHeartbeats 2000000 in
theorem eqOpS_same (g1 g2 c1 c2 B1 B2 : Nat) (l : List Opr) (w : World) (hl : l.length ≤ 1048576) (hz : ∀ (k : Nat) (h : k < l.length), l[k].small) (h1 : RowOp w B1 g1 l) (h2 : RowOp w B2 g2 l) :
    Calls Tryz.prog 91 #[.slice (some ⟨g1, 0, none⟩) l.length c1, .slice (some ⟨g2, 0, none⟩) l.length c2] w fun e w' => e = .returned (.bool true) ∧ Below w.heap.size w w' := by
  have H1 : Hid (RowOp w B1 g1 l) := h1
  have H2 : Hid (RowOp w B2 g2 l) := h2
  have HZ : Hid (∀ (k : Nat) (h : k < l.length), l[k].small) := hz
  clear h1 h2 hz
  go_enter Tryz.func91, Tryz.ntmps91
  go_wp2_with fail
  go_loopw [5] (fun i wr => ∃ k : Nat, k ≤ l.length ∧ i = .int .i64 (k : Int) ∧ Below w.heap.size w wr) (fun i _ => l.length - (RowKit.intOf i).toNat)
  case atStart => exact ⟨0, Nat.zero_le _, rfl, Below.refl _ _⟩
  case round =>
    obtain ⟨k, hk, rfl, hb⟩ := hrel
    have HB : Hid (Below w.heap.size w wr) := hb
    clear hb
    by_cases hlt : k < l.length
    · obtain ⟨p0, p1, p2, p3, p4, p5, ga, pz, oa⟩ := H1.out.below HB.out k hlt
      obtain ⟨q0, q1, q2, q3, q4, q5, gb, qz, ob⟩ := H2.out.below HB.out k hlt
      have HT : Hid (∀ p : BW wr, Calls Tryz.prog 133 #[(l[k]'hlt).val (.slice (some ⟨ga, 0, none⟩) (l[k]'hlt).data.length (l[k]'hlt).data.length), (l[k]'hlt).val (.slice (some ⟨gb, 0, none⟩) (l[k]'hlt).data.length (l[k]'hlt).data.length)] p.x fun e w' => e = .returned (.bool true) ∧ Below p.x.heap.size p.x w') := fun p => eqOp_same _ _ _ B1 B2 p.x (HZ.out k hlt).len (oa.below p.h) (ob.below p.h)
      have a0 : ∀ p : BW wr, p.x.cell? ⟨g1, k * 7, none⟩ = some (.int .i64 (l[k]'hlt).kind) := fun p => p.cell p0
      have a1 : ∀ p : BW wr, p.x.cell? ⟨g1, k * 7 + 1, none⟩ = some (.int .i64 (l[k]'hlt).a) := fun p => p.cell p1
      have a2 : ∀ p : BW wr, p.x.cell? ⟨g1, k * 7 + 2, none⟩ = some (.int .i64 (l[k]'hlt).b) := fun p => p.cell p2
      have a3 : ∀ p : BW wr, p.x.cell? ⟨g1, k * 7 + 3, none⟩ = some (.int .i64 (l[k]'hlt).c) := fun p => p.cell p3
      have a4 : ∀ p : BW wr, p.x.cell? ⟨g1, k * 7 + 4, none⟩ = some (.int .i64 (l[k]'hlt).d) := fun p => p.cell p4
      have a5 : ∀ p : BW wr, p.x.cell? ⟨g1, k * 7 + 5, none⟩ = some (.string (l[k]'hlt).name) := fun p => p.cell p5
      have az : ∀ p : BW wr, p.x.cell? ⟨g1, k * 7 + 6, none⟩ = some (.slice (some ⟨ga, 0, none⟩) (l[k]'hlt).data.length (l[k]'hlt).data.length) := fun p => p.cell pz
      have d0 : ∀ p : BW wr, p.x.cell? ⟨g2, k * 7, none⟩ = some (.int .i64 (l[k]'hlt).kind) := fun p => p.cell q0
      have d1 : ∀ p : BW wr, p.x.cell? ⟨g2, k * 7 + 1, none⟩ = some (.int .i64 (l[k]'hlt).a) := fun p => p.cell q1
      have d2 : ∀ p : BW wr, p.x.cell? ⟨g2, k * 7 + 2, none⟩ = some (.int .i64 (l[k]'hlt).b) := fun p => p.cell q2
      have d3 : ∀ p : BW wr, p.x.cell? ⟨g2, k * 7 + 3, none⟩ = some (.int .i64 (l[k]'hlt).c) := fun p => p.cell q3
      have d4 : ∀ p : BW wr, p.x.cell? ⟨g2, k * 7 + 4, none⟩ = some (.int .i64 (l[k]'hlt).d) := fun p => p.cell q4
      have d5 : ∀ p : BW wr, p.x.cell? ⟨g2, k * 7 + 5, none⟩ = some (.string (l[k]'hlt).name) := fun p => p.cell q5
      have dz : ∀ p : BW wr, p.x.cell? ⟨g2, k * 7 + 6, none⟩ = some (.slice (some ⟨gb, 0, none⟩) (l[k]'hlt).data.length (l[k]'hlt).data.length) := fun p => p.cell qz
      have hne := bw_some wr
      clear p0 p1 p2 p3 p4 p5 pz q0 q1 q2 q3 q4 q5 qz oa ob
      go_wp2_with fail
      refine wp_region_below (by kernel_rfl) (by kernel_rfl) ?_
      repeat (go_big_quiet_step ((go_at_call 133; exact calls_bw (HT.out _))))
      refine wpQuiet_nil ?_
      intro wq hw'
      obtain ⟨⟨_, bq⟩, rfl⟩ := hw'
      have HB2 : Hid _ := HB.out.trans (bq.mono HB.out.size)
      clear bq hne
      go_wp2
      exact ⟨⟨k + 1, by omega, by go_num, HB2.out⟩, by simp [RowKit.intOf]; omega⟩
    · go_wp2
      go_ret
      exact ⟨rfl, HB.out⟩
theorem eqBl_same (t : Blk) (g1 g2 b1 b2 : Nat) (w : World) (hl : t.ops.length ≤ 1048576) (hs : ∀ (k : Nat) (h : k < t.ops.length), t.ops[k].small) (h1 : IsOp w b1 g1 t.ops.length t.ops) (h2 : IsOp w b2 g2 t.ops.length t.ops) :
    Calls Tryz.prog 57 #[t.val (.slice (some ⟨g1, 0, none⟩) t.ops.length t.ops.length), t.val (.slice (some ⟨g2, 0, none⟩) t.ops.length t.ops.length)] w fun e w' => e = .returned (.bool true) ∧ Below w.heap.size w w' := by
  have HS : Hid (∀ u, Below w.heap.size w u → Calls Tryz.prog 91 #[.slice (some ⟨g1, 0, none⟩) t.ops.length t.ops.length, .slice (some ⟨g2, 0, none⟩) t.ops.length t.ops.length] u fun e w' => e = .returned (.bool true) ∧ Below u.heap.size u w') := fun u hu => eqOpS_same _ _ _ _ b1 b2 t.ops u hl hs (h1.below hu).row (h2.below hu).row
  clear h1 h2 hl hs
  go_enter Tryz.func57, Tryz.ntmps57
  go_wp2_with fail
  refine (HS.out _ (by repeat (first | exact Below.refl _ _ | refine Below.alloc ?_ (by simp <;> omega) _ | refine Below.drew ?_))).mono ?_
  rintro e w1 ⟨rfl, b1⟩
  have HB : Hid (Below w.heap.size w w1) := Below.trans (by repeat (first | exact Below.refl _ _ | refine Below.alloc ?_ (by simp <;> omega) _ | refine Below.drew ?_)) (b1.mono (by simp <;> omega))
  clear b1
  go_wp2
  go_ret
  exact ⟨rfl, HB.out⟩
set_option maxRecDepth 100000 in
set_option maxHeartbeats 2000000 in
theorem eqBlS_same (g1 g2 c1 c2 B1 B2 : Nat) (l : List Blk) (w : World) (hl : l.length ≤ 1048576) (hz : ∀ (k : Nat) (h : k < l.length), l[k].small) (h1 : RowBl w B1 g1 l) (h2 : RowBl w B2 g2 l) :
    Calls Tryz.prog 21 #[.slice (some ⟨g1, 0, none⟩) l.length c1, .slice (some ⟨g2, 0, none⟩) l.length c2] w fun e w' => e = .returned (.bool true) ∧ Below w.heap.size w w' := by
  have H1 : Hid (RowBl w B1 g1 l) := h1
  have H2 : Hid (RowBl w B2 g2 l) := h2
  have HZ : Hid (∀ (k : Nat) (h : k < l.length), l[k].small) := hz
  clear h1 h2 hz
  go_enter Tryz.func21, Tryz.ntmps21
  go_wp2_with fail
  go_loopw [5] (fun i wr => ∃ k : Nat, k ≤ l.length ∧ i = .int .i64 (k : Int) ∧ Below w.heap.size w wr) (fun i _ => l.length - (RowKit.intOf i).toNat)
  case atStart => exact ⟨0, Nat.zero_le _, rfl, Below.refl _ _⟩
  case round =>
    obtain ⟨k, hk, rfl, hb⟩ := hrel
    have HB : Hid (Below w.heap.size w wr) := hb
    clear hb
    by_cases hlt : k < l.length
    · obtain ⟨p0, ga, pz, oa⟩ := H1.out.below HB.out k hlt
      obtain ⟨q0, gb, qz, ob⟩ := H2.out.below HB.out k hlt
      have HT : Hid (∀ p : BW wr, Calls Tryz.prog 57 #[(l[k]'hlt).val (.slice (some ⟨ga, 0, none⟩) (l[k]'hlt).ops.length (l[k]'hlt).ops.length), (l[k]'hlt).val (.slice (some ⟨gb, 0, none⟩) (l[k]'hlt).ops.length (l[k]'hlt).ops.length)] p.x fun e w' => e = .returned (.bool true) ∧ Below p.x.heap.size p.x w') := fun p => eqBl_same _ _ _ B1 B2 p.x (HZ.out k hlt).len (HZ.out k hlt).names (oa.below p.h) (ob.below p.h)
      have a0 : ∀ p : BW wr, p.x.cell? ⟨g1, k * 2, none⟩ = some (.int .i64 (l[k]'hlt).args) := fun p => p.cell p0
      have az : ∀ p : BW wr, p.x.cell? ⟨g1, k * 2 + 1, none⟩ = some (.slice (some ⟨ga, 0, none⟩) (l[k]'hlt).ops.length (l[k]'hlt).ops.length) := fun p => p.cell pz
      have d0 : ∀ p : BW wr, p.x.cell? ⟨g2, k * 2, none⟩ = some (.int .i64 (l[k]'hlt).args) := fun p => p.cell q0
      have dz : ∀ p : BW wr, p.x.cell? ⟨g2, k * 2 + 1, none⟩ = some (.slice (some ⟨gb, 0, none⟩) (l[k]'hlt).ops.length (l[k]'hlt).ops.length) := fun p => p.cell qz
      have hne := bw_some wr
      clear p0 pz q0 qz oa ob
      go_wp2_with fail
      refine wp_region_below (by kernel_rfl) (by kernel_rfl) ?_
      repeat (go_big_quiet_step ((go_at_call 57; exact calls_bw (HT.out _))))
      refine wpQuiet_nil ?_
      intro wq hw'
      obtain ⟨⟨_, bq⟩, rfl⟩ := hw'
      have HB2 : Hid _ := HB.out.trans (bq.mono HB.out.size)
      clear bq hne
      go_wp2
      exact ⟨⟨k + 1, by omega, by go_num, HB2.out⟩, by simp [RowKit.intOf]; omega⟩
    · go_wp2
      go_ret
      exact ⟨rfl, HB.out⟩
end Go.Proofs.YtoafolefecddmaaGreatDoor
