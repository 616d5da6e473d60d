/-
  Pair, a struct of 6 cells, and slices of it: what the laws' eqPair, eqPairS, toPair, toPairS, szPair and szPairS answer; nothing that was there is turned.
-/
import Derived.Test.YtgfienijabkpjaaDoorVluBase
namespace Go.Proofs.YtgfienijabkpjaaDoor
open Go.RowKit Go.Extern.Stop Go.Stop Go.Extern Num Go.Lib

structure Pai where
  head : Vlu
  tail : Vlu
/-- How many bytes its names have. -/
def Pai.big (t : Pai) : Nat := t.head.name.size + t.tail.name.size
/-- Names that a machine can hold. -/
def Pai.able (t : Pai) : Prop := t.head.name.size ≤ 9223372036854775807 ∧ t.tail.name.size ≤ 9223372036854775807
abbrev Pai.val (t : Pai) : Value := .agg #[.int .i64 t.head.kind, .int .i64 t.head.num, .string t.head.name, .int .i64 t.tail.kind, .int .i64 t.tail.num, .string t.tail.name]
def Pai.cells (t : Pai) : List Value := [.int .i64 t.head.kind, .int .i64 t.head.num, .string t.head.name, .int .i64 t.tail.kind, .int .i64 t.tail.num, .string t.tail.name]
def cellsP : List Pai → List Value
  | [] => []
  | t :: r => t.cells ++ cellsP r
theorem cellsP_append (a b : List Pai) : cellsP (a ++ b) = cellsP a ++ cellsP b := by
  induction a with
  | nil => rfl
  | cons t r ih => simp [cellsP, ih]
theorem cellsP_length (l : List Pai) : (cellsP l).length = l.length * 6 := by
  induction l with
  | nil => rfl
  | cons t r ih => simp [cellsP, Pai.cells, ih]; omega
theorem cellsP_one (l : List Pai) : ∀ u ∈ cellsP l, u.oneCell' = true := by
  induction l with
  | nil => intro u h; cases h
  | cons t r ih =>
    intro u h
    simp only [cellsP, Pai.cells, List.mem_append, List.mem_cons, List.not_mem_nil, or_false] at h
    rcases h with (rfl | rfl | rfl | rfl | rfl | rfl) | h
    · rfl
    · rfl
    · rfl
    · rfl
    · rfl
    · rfl
    · exact ih u h
theorem cellsP_at (l : List Pai) (k : Nat) (h : k < l.length) : (cellsP l)[k * 6]? = some (.int .i64 l[k].head.kind) ∧ (cellsP l)[k * 6 + 1]? = some (.int .i64 l[k].head.num) ∧ (cellsP l)[k * 6 + 2]? = some (.string l[k].head.name) ∧ (cellsP l)[k * 6 + 3]? = some (.int .i64 l[k].tail.kind) ∧ (cellsP l)[k * 6 + 4]? = some (.int .i64 l[k].tail.num) ∧ (cellsP l)[k * 6 + 5]? = some (.string l[k].tail.name) := by
  induction l generalizing k with
  | nil => cases h
  | cons t r ih =>
    cases k with
    | zero => exact ⟨rfl, rfl, rfl, rfl, rfl, rfl⟩
    | succ k =>
      have hk : k < r.length := by simpa using h
      have := ih k hk
      have e : ∀ j, (cellsP (t :: r))[j + 6]? = (cellsP r)[j]? := fun j => by
        show (t.cells ++ cellsP r)[j + 6]? = _
        rw [List.getElem?_append_right (by simp [Pai.cells])]
        simp [Pai.cells]
      have e1 : (k + 1) * 6 = k * 6 + 6 := by omega
      rw [e1, show k * 6 + 6 + 1 = k * 6 + 1 + 6 by omega, show k * 6 + 6 + 2 = k * 6 + 2 + 6 by omega, show k * 6 + 6 + 3 = k * 6 + 3 + 6 by omega, show k * 6 + 6 + 4 = k * 6 + 4 + 6 by omega, show k * 6 + 6 + 5 = k * 6 + 5 + 6 by omega, e, e, e, e, e, e]
      simpa using this
theorem takeP (l : List Pai) (k : Nat) (h : k < l.length) : l.take (k + 1) = l.take k ++ [l[k]] := by
  rw [List.take_add_one, List.getElem?_eq_getElem h]; rfl
theorem infoP : (Tryd.prog.info? 85).map (fun i => (i.zero, i.size, i.bytes)) = some (some (.agg #[.int .i64 0, .int .i64 0, .string ⟨#[]⟩, .int .i64 0, .int .i64 0, .string ⟨#[]⟩]), 6, 64) := by kernel_rfl
theorem rowP_at {w : World} {base g cap : Nat} {l : List Pai} (h : w.ownsRow base 85 6 (.slice (some ⟨g, 0, none⟩) l.length cap) l.length (cellsP l)) (k : Nat) (hk : k < l.length) :
    w.cell? ⟨g, k * 6, none⟩ = some (.int .i64 l[k].head.kind) ∧ w.cell? ⟨g, k * 6 + 1, none⟩ = some (.int .i64 l[k].head.num) ∧ w.cell? ⟨g, k * 6 + 2, none⟩ = some (.string l[k].head.name) ∧ w.cell? ⟨g, k * 6 + 3, none⟩ = some (.int .i64 l[k].tail.kind) ∧ w.cell? ⟨g, k * 6 + 4, none⟩ = some (.int .i64 l[k].tail.num) ∧ w.cell? ⟨g, k * 6 + 5, none⟩ = some (.string l[k].tail.name) := by
  have ha : ∀ j, (⟨g, 0, none⟩ : Addr).add j = ⟨g, j, none⟩ := fun j => by unfold Addr.add; split <;> simp_all
  have hc := h.cells (g := g) rfl
  obtain ⟨h0, h1, h2, h3, h4, h5⟩ := cellsP_at l k hk
  exact ⟨by rw [← ha]; exact hc _ _ h0, by rw [← ha]; exact hc _ _ h1, by rw [← ha]; exact hc _ _ h2, by rw [← ha]; exact hc _ _ h3, by rw [← ha]; exact hc _ _ h4, by rw [← ha]; exact hc _ _ h5⟩
theorem eqP_same (t : Pai) (w : World) :
    Calls Tryd.prog 36 #[t.val, t.val] w fun e w' => e = .returned (.bool true) ∧ Below w.heap.size w w' := by
  have H1 : Hid (∀ w, Calls Tryd.prog 65 #[t.head.val, t.head.val] w fun e w' => e = .returned (.bool true) ∧ Below w.heap.size w w') := fun w => eqV_same _ w
  have H2 : Hid (∀ w, Calls Tryd.prog 65 #[t.tail.val, t.tail.val] w fun e w' => e = .returned (.bool true) ∧ Below w.heap.size w w') := fun w => eqV_same _ w
  go_enter Tryd.func36, Tryd.ntmps36
  go_wp2_with fail
  refine (H1.out _).mono ?_
  rintro e w1 ⟨rfl, hb1⟩
  obtain ⟨hc1, hf1⟩ := bcell hb1
  go_wp2_with fail
  refine (H2.out _).mono ?_
  rintro e w2 ⟨rfl, hb2⟩
  go_wp2
  go_ret
  exact ⟨rfl, by
    have B1 : Below w.heap.size w w1 := Below.trans (by repeat (first | exact Below.refl _ _ | refine Below.setCell ?_ (by simp) _ | refine Below.alloc ?_ (by simp <;> omega) _ | refine Below.drew ?_)) (hb1.mono (by simp <;> omega))
    exact B1.trans (hb2.mono B1.size)⟩
theorem eqPS_nil (ao bo : Option Addr) (ca cb : Nat) (w : World) :
    Calls Tryd.prog 19 #[.slice ao 0 ca, .slice bo 0 cb] w fun e w' => e = .returned (.bool true) ∧ Below w.heap.size w w' := by
  go_enter Tryd.func19, Tryd.ntmps19
  go_wp2_with fail
  go_loop [5] (fun i => i = .int .i64 0) (fun _ => 0)
  case atStart => rfl
  case round =>
    obtain rfl := hrel
    go_wp2
    go_ret
    exact ⟨rfl, Below.refl _ _⟩
set_option maxRecDepth 100000 in
set_option maxHeartbeats 1000000 in
theorem eqPS_some (g1 g2 c1 c2 b1 b2 : Nat) (l : List Pai) (w : World) (hl : l.length ≤ 1048576) (h1 : w.ownsRow b1 85 6 (.slice (some ⟨g1, 0, none⟩) l.length c1) l.length (cellsP l)) (h2 : w.ownsRow b2 85 6 (.slice (some ⟨g2, 0, none⟩) l.length c2) l.length (cellsP l)) :
    Calls Tryd.prog 19 #[.slice (some ⟨g1, 0, none⟩) l.length c1, .slice (some ⟨g2, 0, none⟩) l.length c2] w fun e w' => e = .returned (.bool true) ∧ Below w.heap.size w w' := by
  have H1 : Hid _ := fun k hk => rowP_at h1 k hk
  have H2 : Hid _ := fun k hk => rowP_at h2 k hk
  clear h1 h2
  go_enter Tryd.func19, Tryd.ntmps19
  go_wp2_with fail
  go_loopw [5] (fun i wr => ∃ k : Nat, k ≤ l.length ∧ i = .int .i64 (k : Int) ∧ Below w.heap.size w wr) (fun i _ => l.length - (RowKit.intOf i).toNat)
  case atStart => exact ⟨0, Nat.zero_le _, rfl, Below.refl _ _⟩
  case round =>
    obtain ⟨k, hk, rfl, hb⟩ := hrel
    have HB : Hid (Below w.heap.size w wr) := hb
    clear hb
    by_cases hlt : k < l.length
    · have HT : Hid (∀ w, Calls Tryd.prog 36 #[(l[k]'hlt).val, (l[k]'hlt).val] w fun e w' => e = .returned (.bool true) ∧ Below w.heap.size w w') := fun w => eqP_same _ w
      have a0 : ∀ p : BW wr, p.x.cell? ⟨g1, k * 6, none⟩ = some (.int .i64 (l[k]'hlt).head.kind) := fun p => p.cell (cell_keep HB.out (H1.out k hlt).1)
      have a1 : ∀ p : BW wr, p.x.cell? ⟨g1, k * 6 + 1, none⟩ = some (.int .i64 (l[k]'hlt).head.num) := fun p => p.cell (cell_keep HB.out (H1.out k hlt).2.1)
      have a2 : ∀ p : BW wr, p.x.cell? ⟨g1, k * 6 + 2, none⟩ = some (.string (l[k]'hlt).head.name) := fun p => p.cell (cell_keep HB.out (H1.out k hlt).2.2.1)
      have a3 : ∀ p : BW wr, p.x.cell? ⟨g1, k * 6 + 3, none⟩ = some (.int .i64 (l[k]'hlt).tail.kind) := fun p => p.cell (cell_keep HB.out (H1.out k hlt).2.2.2.1)
      have a4 : ∀ p : BW wr, p.x.cell? ⟨g1, k * 6 + 4, none⟩ = some (.int .i64 (l[k]'hlt).tail.num) := fun p => p.cell (cell_keep HB.out (H1.out k hlt).2.2.2.2.1)
      have a5 : ∀ p : BW wr, p.x.cell? ⟨g1, k * 6 + 5, none⟩ = some (.string (l[k]'hlt).tail.name) := fun p => p.cell (cell_keep HB.out (H1.out k hlt).2.2.2.2.2)
      have d0 : ∀ p : BW wr, p.x.cell? ⟨g2, k * 6, none⟩ = some (.int .i64 (l[k]'hlt).head.kind) := fun p => p.cell (cell_keep HB.out (H2.out k hlt).1)
      have d1 : ∀ p : BW wr, p.x.cell? ⟨g2, k * 6 + 1, none⟩ = some (.int .i64 (l[k]'hlt).head.num) := fun p => p.cell (cell_keep HB.out (H2.out k hlt).2.1)
      have d2 : ∀ p : BW wr, p.x.cell? ⟨g2, k * 6 + 2, none⟩ = some (.string (l[k]'hlt).head.name) := fun p => p.cell (cell_keep HB.out (H2.out k hlt).2.2.1)
      have d3 : ∀ p : BW wr, p.x.cell? ⟨g2, k * 6 + 3, none⟩ = some (.int .i64 (l[k]'hlt).tail.kind) := fun p => p.cell (cell_keep HB.out (H2.out k hlt).2.2.2.1)
      have d4 : ∀ p : BW wr, p.x.cell? ⟨g2, k * 6 + 4, none⟩ = some (.int .i64 (l[k]'hlt).tail.num) := fun p => p.cell (cell_keep HB.out (H2.out k hlt).2.2.2.2.1)
      have d5 : ∀ p : BW wr, p.x.cell? ⟨g2, k * 6 + 5, none⟩ = some (.string (l[k]'hlt).tail.name) := fun p => p.cell (cell_keep HB.out (H2.out k hlt).2.2.2.2.2)
      have hne := bw_some wr
      go_wp2_with fail
      refine wp_region_below (by kernel_rfl) (by kernel_rfl) ?_
      repeat (go_big_quiet_step ((go_at_call 36; exact calls_bw (HT.out _))))
      refine wpQuiet_nil ?_
      intro wq hw'
      obtain ⟨⟨_, bq⟩, rfl⟩ := hw'
      have HB2 : Hid _ := HB.out.trans (bq.mono HB.out.size)
      clear bq a0 a1 a2 a3 a4 a5 d0 d1 d2 d3 d4 d5 hne
      go_wp2
      exact ⟨⟨k + 1, by omega, by go_num, HB2.out⟩, by simp [RowKit.intOf]; omega⟩
    · go_wp2
      go_ret
      exact ⟨rfl, HB.out⟩
theorem eqPS_same (a b : Value) (b1 b2 : Nat) (l : List Pai) (w : World) (hl : l.length ≤ 1048576) (h1 : w.ownsRow b1 85 6 a l.length (cellsP l)) (h2 : w.ownsRow b2 85 6 b l.length (cellsP l)) :
    Calls Tryd.prog 19 #[a, b] w fun e w' => e = .returned (.bool true) ∧ Below w.heap.size w w' := by
  cases l with
  | nil =>
    obtain ⟨ao, ca, rfl⟩ := own_form h1
    obtain ⟨bo, cb, rfl⟩ := own_form h2
    exact eqPS_nil ao bo ca cb w
  | cons t r =>
    obtain ⟨g1, c1, rfl, _, _⟩ := h1.form (by simp)
    obtain ⟨g2, c2, rfl, _, _⟩ := h2.form (by simp)
    exact eqPS_some g1 g2 c1 c2 b1 b2 (t :: r) w hl h1 h2

set_option maxHeartbeats 1000000 in
theorem toP_any (t : Pai) (w : World) :
    Calls Tryd.prog 33 #[t.val] w fun e w' => e = .returned t.val ∧ Below w.heap.size w w' := by
  have H1 : Hid (∀ w, Calls Tryd.prog 16 #[t.head.val] w fun e w' => e = .returned t.head.val ∧ Below w.heap.size w w') := fun w => toV_any _ w
  have H2 : Hid (∀ w, Calls Tryd.prog 16 #[t.tail.val] w fun e w' => e = .returned t.tail.val ∧ Below w.heap.size w w') := fun w => toV_any _ w
  go_enter Tryd.func33, Tryd.ntmps33
  go_wp2_with fail
  refine (H1.out _).mono ?_
  rintro e w1 ⟨rfl, hb1⟩
  obtain ⟨hc1, hf1⟩ := bcell hb1
  have z1 : w.heap.size + 2 < w1.heap.size := by have := hb1.size; simp at this; omega
  have B1 : Below w.heap.size w w1 := Below.trans (by repeat (first | exact Below.refl _ _ | refine Below.setCell ?_ (by simp <;> omega) _ | refine Below.alloc ?_ (by simp <;> omega) _ | refine Below.drew ?_)) (hb1.mono (by simp <;> omega))
  have z1a : w.heap.size + 1 < w1.heap.size := by omega
  have z1b : w.heap.size < w1.heap.size := by omega
  go_wp2_with fail
  refine (H2.out _).mono ?_
  rintro e w2 ⟨rfl, hb2⟩
  obtain ⟨hc2, hf2⟩ := bcell hb2
  have z2 : w.heap.size + 2 < w2.heap.size := by have := hb2.size; simp at this; omega
  have B2 : Below w.heap.size w w2 := Below.trans (by repeat (first | refine Below.setCell ?_ (by simp <;> omega) _ | exact B1)) (hb2.mono (by have := B1.size; simp <;> omega))
  have q0 : w2.cell? ⟨w.heap.size + 1, 0, none⟩ = some (.int .i64 0) := by
    rw [hc2 _ _ (by simp <;> omega), World.cell?_setCell_other _ _ _ _ (by simp), World.cell?_setCell_other _ _ _ _ (by simp), World.cell?_setCell_other _ _ _ _ (by simp), hc1 _ _ (by simp <;> omega)]
    rw [World.cell?_alloc_past _ _ _ (by simp), World.cell?_alloc_at _ _ _ _ (by simp)]; rfl
  have q1 : w2.cell? ⟨w.heap.size + 1, 1, none⟩ = some (.int .i64 0) := by
    rw [hc2 _ _ (by simp <;> omega), World.cell?_setCell_other _ _ _ _ (by simp), World.cell?_setCell_other _ _ _ _ (by simp), World.cell?_setCell_other _ _ _ _ (by simp), hc1 _ _ (by simp <;> omega)]
    rw [World.cell?_alloc_past _ _ _ (by simp), World.cell?_alloc_at _ _ _ _ (by simp)]; rfl
  have q2 : w2.cell? ⟨w.heap.size + 1, 2, none⟩ = some (.string ⟨#[]⟩) := by
    rw [hc2 _ _ (by simp <;> omega), World.cell?_setCell_other _ _ _ _ (by simp), World.cell?_setCell_other _ _ _ _ (by simp), World.cell?_setCell_other _ _ _ _ (by simp), hc1 _ _ (by simp <;> omega)]
    rw [World.cell?_alloc_past _ _ _ (by simp), World.cell?_alloc_at _ _ _ _ (by simp)]; rfl
  have q3 : w2.cell? ⟨w.heap.size + 1, 3, none⟩ = some (.int .i64 0) := by
    rw [hc2 _ _ (by simp <;> omega), World.cell?_setCell_other _ _ _ _ (by simp), World.cell?_setCell_other _ _ _ _ (by simp), World.cell?_setCell_other _ _ _ _ (by simp), hc1 _ _ (by simp <;> omega)]
    rw [World.cell?_alloc_past _ _ _ (by simp), World.cell?_alloc_at _ _ _ _ (by simp)]; rfl
  have q4 : w2.cell? ⟨w.heap.size + 1, 4, none⟩ = some (.int .i64 0) := by
    rw [hc2 _ _ (by simp <;> omega), World.cell?_setCell_other _ _ _ _ (by simp), World.cell?_setCell_other _ _ _ _ (by simp), World.cell?_setCell_other _ _ _ _ (by simp), hc1 _ _ (by simp <;> omega)]
    rw [World.cell?_alloc_past _ _ _ (by simp), World.cell?_alloc_at _ _ _ _ (by simp)]; rfl
  have q5 : w2.cell? ⟨w.heap.size + 1, 5, none⟩ = some (.string ⟨#[]⟩) := by
    rw [hc2 _ _ (by simp <;> omega), World.cell?_setCell_other _ _ _ _ (by simp), World.cell?_setCell_other _ _ _ _ (by simp), World.cell?_setCell_other _ _ _ _ (by simp), hc1 _ _ (by simp <;> omega)]
    rw [World.cell?_alloc_past _ _ _ (by simp), World.cell?_alloc_at _ _ _ _ (by simp)]; rfl
  go_wp2
  exact bodyPost_ret (v := t.val) (by simp [results, Tryd.results33, go_sem, q0, q1, q2, q3, q4, q5]) rfl ⟨rfl, by
    repeat (first | refine Below.setCell ?_ (by simp <;> omega) _ | exact B2)⟩
theorem szP_far (t : Pai) (n : Nat) (w : World) (hz : t.able) (hn : n ≤ 1048576) (h : n < t.big) :
    Calls Tryd.prog 30 #[t.val, .int .i64 (n : Int)] w fun e w' => e = .returned (.int .i64 (-1)) ∧ Below w.heap.size w w' := by
  by_cases h1 : n < t.head.name.size
  · have H1 : Hid (∀ w, Calls Tryd.prog 13 #[t.head.val, .int .i64 (n : Int)] w fun e w' => e = .returned (.int .i64 (-1)) ∧ Below w.heap.size w w') := fun w => szV_far _ n w hz.1 hn h1
    clear hz h h1
    go_enter Tryd.func30, Tryd.ntmps30
    go_wp2_with fail
    refine (H1.out _).mono ?_
    rintro e w1 ⟨rfl, hb1⟩
    go_wp2
    go_ret
    exact ⟨rfl, Below.trans (by repeat (first | exact Below.refl _ _ | refine Below.setCell ?_ (by simp) _ | refine Below.alloc ?_ (by simp <;> omega) _ | refine Below.drew ?_)) (hb1.mono (by simp <;> omega))⟩
  · obtain ⟨q, hq⟩ : ∃ q : Nat, q = n - t.head.name.size := ⟨_, rfl⟩
    have H1 : Hid (∀ w, Calls Tryd.prog 13 #[t.head.val, .int .i64 (n : Int)] w fun e w' => e = .returned (.int .i64 (q : Int)) ∧ Below w.heap.size w w') := fun w => by rw [hq]; exact szV_near _ n w hn (by omega)
    have H2 : Hid (∀ w, Calls Tryd.prog 13 #[t.tail.val, .int .i64 (q : Int)] w fun e w' => e = .returned (.int .i64 (-1)) ∧ Below w.heap.size w w') := fun w => szV_far _ q w hz.2 (by omega) (by unfold Pai.big at h; omega)
    clear hz h h1 hq
    go_enter Tryd.func30, Tryd.ntmps30
    go_wp2_with fail
    refine (H1.out _).mono ?_
    rintro e w1 ⟨rfl, hb1⟩
    obtain ⟨hc1, hf1⟩ := bcell hb1
    go_wp2_with fail
    refine (H2.out _).mono ?_
    rintro e w2 ⟨rfl, hb2⟩
    go_wp2
    go_ret
    exact ⟨rfl, by
    have B1 : Below w.heap.size w w1 := Below.trans (by repeat (first | exact Below.refl _ _ | refine Below.setCell ?_ (by simp) _ | refine Below.alloc ?_ (by simp <;> omega) _ | refine Below.drew ?_)) (hb1.mono (by simp <;> omega))
    exact B1.trans (hb2.mono B1.size)⟩
theorem szP_near (t : Pai) (n : Nat) (w : World) (hn : n ≤ 1048576) (h : t.big ≤ n) :
    Calls Tryd.prog 30 #[t.val, .int .i64 (n : Int)] w fun e w' => e = .returned (.int .i64 ((n - t.big : Nat) : Int)) ∧ Below w.heap.size w w' := by
  obtain ⟨q, hq⟩ : ∃ q : Nat, q = n - t.head.name.size := ⟨_, rfl⟩
  obtain ⟨r, hr⟩ : ∃ r : Nat, r = n - t.big := ⟨_, rfl⟩
  have H1 : Hid (∀ w, Calls Tryd.prog 13 #[t.head.val, .int .i64 (n : Int)] w fun e w' => e = .returned (.int .i64 (q : Int)) ∧ Below w.heap.size w w') := fun w => by rw [hq]; exact szV_near _ n w hn (by unfold Pai.big at h; omega)
  have H2 : Hid (∀ w, Calls Tryd.prog 13 #[t.tail.val, .int .i64 (q : Int)] w fun e w' => e = .returned (.int .i64 (r : Int)) ∧ Below w.heap.size w w') := fun w => by
    have e : r = q - t.tail.name.size := by unfold Pai.big at hr; omega
    rw [e]; exact szV_near _ q w (by omega) (by unfold Pai.big at h; omega)
  rw [← hr]
  clear h hq hr
  go_enter Tryd.func30, Tryd.ntmps30
  go_wp2_with fail
  refine (H1.out _).mono ?_
  rintro e w1 ⟨rfl, hb1⟩
  obtain ⟨hc1, hf1⟩ := bcell hb1
  go_wp2_with fail
  refine (H2.out _).mono ?_
  rintro e w2 ⟨rfl, hb2⟩
  go_wp2
  go_ret
  exact ⟨rfl, by
    have B1 : Below w.heap.size w w1 := Below.trans (by repeat (first | exact Below.refl _ _ | refine Below.setCell ?_ (by simp) _ | refine Below.alloc ?_ (by simp <;> omega) _ | refine Below.drew ?_)) (hb1.mono (by simp <;> omega))
    exact B1.trans (hb2.mono B1.size)⟩
/-- What lies where a slice leads that came in. -/
def MemP (w : World) (a : Option Addr) (l : List Pai) : Prop :=
  0 < l.length → ∃ b off, a = some ⟨b, off, none⟩ ∧ ∀ (k : Nat) (h : k < l.length), w.cell? ⟨b, off + k * 6, none⟩ = some (.int .i64 l[k].head.kind) ∧ w.cell? ⟨b, off + k * 6 + 1, none⟩ = some (.int .i64 l[k].head.num) ∧ w.cell? ⟨b, off + k * 6 + 2, none⟩ = some (.string l[k].head.name) ∧ w.cell? ⟨b, off + k * 6 + 3, none⟩ = some (.int .i64 l[k].tail.kind) ∧ w.cell? ⟨b, off + k * 6 + 4, none⟩ = some (.int .i64 l[k].tail.num) ∧ w.cell? ⟨b, off + k * 6 + 5, none⟩ = some (.string l[k].tail.name)
theorem MemP.below {w w' : World} {a : Option Addr} {l : List Pai} (h : MemP w a l) (hb : Below w.heap.size w w') : MemP w' a l := by
  intro hl
  obtain ⟨b, off, e, hc⟩ := h hl
  exact ⟨b, off, e, fun k hk => ⟨cell_keep hb (hc k hk).1, cell_keep hb (hc k hk).2.1, cell_keep hb (hc k hk).2.2.1, cell_keep hb (hc k hk).2.2.2.1, cell_keep hb (hc k hk).2.2.2.2.1, cell_keep hb (hc k hk).2.2.2.2.2⟩⟩
/-- How much a slice holds. -/
def SZP (l : List Pai) (w : World) (e : Ending) (w' : World) : Prop :=
  ((e = .returned (.int .i64 (-1))) ∨ (∃ q : Nat, q ≤ 1048576 ∧ e = .returned (.int .i64 (q : Int)) ∧ l.length ≤ 1048576 ∧ ∀ (k : Nat) (h : k < l.length), l[k].big ≤ 1048576)) ∧ Below w.heap.size w w'
set_option maxHeartbeats 1000000 in
theorem szPS_any (a : Option Addr) (c : Nat) (l : List Pai) (w : World) (n0 : Nat) (hn0 : n0 ≤ 1048576) (hl0 : l.length ≤ 9223372036854775807) (h : MemP w a l) (hz : ∀ (k : Nat) (h : k < l.length), l[k].able) :
    Calls Tryd.prog 12 #[.slice a l.length c, .int .i64 (n0 : Int)] w fun e w' => SZP l w e w' := by
  have HT : Hid (MemP w a l) := h
  have HZ : Hid (∀ (k : Nat) (h : k < l.length), l[k].able) := hz
  clear h hz
  by_cases hl : n0 < l.length
  · go_enter Tryd.func12, Tryd.ntmps12
    go_wp2
    go_ret
    exact ⟨Or.inl rfl, Below.refl _ _⟩
  go_enter Tryd.func12, Tryd.ntmps12
  go_wp2_with fail
  go_loopw [1, 5] (fun v i wr => ∃ k n : Nat, k ≤ l.length ∧ n ≤ 1048576 ∧ v = .int .i64 (n : Int) ∧ i = .int .i64 (k : Int) ∧ Hid (∀ (j : Nat) (h : j < l.length), j < k → l[j].big ≤ 1048576) ∧ Below w.heap.size w wr) (fun _ i _ => l.length - (RowKit.intOf i).toNat)
  case atStart => exact ⟨0, n0 - l.length, Nat.zero_le _, by omega, by congr 1; omega, rfl, fun j _ hj => by omega, Below.refl _ _⟩
  case round =>
    obtain ⟨k, n, hk, hn, rfl, rfl, HJ, hb⟩ := hrel
    have HB : Hid (Below w.heap.size w wr) := hb
    clear hb
    by_cases hlt : k < l.length
    · obtain ⟨b, off, rfl, hc⟩ := (HT.out.below HB.out) (by omega)
      obtain ⟨c0, c1, c2, c3, c4, c5⟩ := hc k hlt
      clear hc
      by_cases hs : n < (l[k]'hlt).big
      · have HX : Hid (∀ w, Calls Tryd.prog 30 #[(l[k]'hlt).val, .int .i64 (n : Int)] w fun e w' => e = .returned (.int .i64 (-1)) ∧ Below w.heap.size w w') := fun w => szP_far _ n w (HZ.out k hlt) hn hs
        clear hs
        go_wp2_with (go_at_call 30; refine (HX.out _).mono ?_; rintro e w1 ⟨rfl, hq⟩)
        go_ret
        exact ⟨Or.inl rfl, HB.out.trans (hq.mono HB.out.size)⟩
      · obtain ⟨q, hq⟩ : ∃ q : Nat, q = n - (l[k]'hlt).big := ⟨_, rfl⟩
        have HX : Hid (∀ w, Calls Tryd.prog 30 #[(l[k]'hlt).val, .int .i64 (n : Int)] w fun e w' => e = .returned (.int .i64 (q : Int)) ∧ Below w.heap.size w w') := fun w => by rw [hq]; exact szP_near _ n w hn (by omega)
        have HS : Hid ((l[k]'hlt).big ≤ 1048576) := by show (l[k]'hlt).big ≤ 1048576; omega
        have hq2 : q ≤ 1048576 := by omega
        clear hq hs
        go_wp2_with (go_at_call 30; refine (HX.out _).mono ?_; rintro e w1 ⟨rfl, hb1⟩)
        refine ⟨⟨k + 1, q, by omega, hq2, rfl, by go_num, fun j hj hjk => ?_, HB.out.trans (hb1.mono HB.out.size)⟩, by simp [RowKit.intOf]; omega⟩
        by_cases e : j < k
        · exact HJ.out j hj e
        · have : j = k := by omega
          subst this; exact HS.out
    · go_wp2
      go_ret
      exact ⟨Or.inr ⟨n, hn, rfl, by omega, fun j hj => HJ.out j hj (by omega)⟩, HB.out⟩

theorem makeP (n : Nat) (hn : n ≤ 1048576) (w : World) : (Instr.makeSlice 36 (.int .i64 (n : Int)) (.int .i64 (n : Int))).run Tryd.prog w = .ok (.slice (some ⟨w.heap.size, 0, none⟩) n n) (w.alloc (.cells (madeCells #[.int .i64 0, .int .i64 0, .string ⟨#[]⟩, .int .i64 0, .int .i64 0, .string ⟨#[]⟩] (n * 6)) 85)) := by
  obtain ⟨i0, hi, hz0, hz1, hz2⟩ := info_parts infoP
  have := run_make (P := Tryd.prog) w 36 85 i0 _ Tryd.underlying36 hi hz0 .i64 .i64 (n : Int) (n : Int) (by omega) (by omega) (by rw [hz2]; omega) (by omega)
  rw [this, hz1]
  simp [Value.cells]
theorem madeP (n : Nat) (hn : n ≤ 1048576) (w : World) : (w.alloc (.cells (madeCells #[.int .i64 0, .int .i64 0, .string ⟨#[]⟩, .int .i64 0, .int .i64 0, .string ⟨#[]⟩] (n * 6)) 85)).ownsRow w.heap.size 85 6 (.slice (some ⟨w.heap.size, 0, none⟩) n n) n (madeCells #[.int .i64 0, .int .i64 0, .string ⟨#[]⟩, .int .i64 0, .int .i64 0, .string ⟨#[]⟩] (n * 6)).toList :=
  ⟨by simp [madeCells], .inr ⟨w.heap.size, n, _, rfl, Nat.le_refl _, heap_alloc_new w _, Nat.le_refl _, by unfold maxLen; omega, by simp [madeCells], by rw [List.take_of_length_le]; simp [madeCells]⟩⟩
theorem putP (xs A : List Value) (k : Nat) (a b c d e f : Value) (h : xs.take (k * 6) = A) (hl : k * 6 + 6 ≤ xs.length) : ((((((xs.set (k * 6) a).set (k * 6 + 1) b).set (k * 6 + 2) c).set (k * 6 + 3) d).set (k * 6 + 4) e).set (k * 6 + 5) f).take ((k + 1) * 6) = A ++ [a, b, c, d, e, f] := by
  have e : xs = xs.take (k * 6) ++ (xs[k * 6]'(by omega) :: xs[k * 6 + 1]'(by omega) :: xs[k * 6 + 2]'(by omega) :: xs[k * 6 + 3]'(by omega) :: xs[k * 6 + 4]'(by omega) :: xs[k * 6 + 5]'(by omega) :: xs.drop (k * 6 + 6)) := by
    rw [← List.drop_eq_getElem_cons, ← List.drop_eq_getElem_cons, ← List.drop_eq_getElem_cons, ← List.drop_eq_getElem_cons, ← List.drop_eq_getElem_cons, ← List.drop_eq_getElem_cons, List.take_append_drop]
  have hA : A.length = k * 6 := by rw [← h]; simp; omega
  rw [h] at e
  generalize xs[k * 6]'(by omega) = x0 at e
  generalize xs[k * 6 + 1]'(by omega) = x1 at e
  generalize xs[k * 6 + 2]'(by omega) = x2 at e
  generalize xs[k * 6 + 3]'(by omega) = x3 at e
  generalize xs[k * 6 + 4]'(by omega) = x4 at e
  generalize xs[k * 6 + 5]'(by omega) = x5 at e
  generalize xs.drop (k * 6 + 6) = r at e
  clear h
  subst e
  rw [List.set_append_right _ _ (by omega), List.set_append_right _ _ (by omega), List.set_append_right _ _ (by omega), List.set_append_right _ _ (by omega), List.set_append_right _ _ (by omega), List.set_append_right _ _ (by omega), hA, show k * 6 - k * 6 = 0 by omega, show k * 6 + 1 - k * 6 = 1 by omega, show k * 6 + 2 - k * 6 = 2 by omega, show k * 6 + 3 - k * 6 = 3 by omega, show k * 6 + 4 - k * 6 = 4 by omega, show k * 6 + 5 - k * 6 = 5 by omega]
  rw [show (k + 1) * 6 = A.length + 6 by omega, List.take_append, List.take_of_length_le (by omega), show A.length + 6 - A.length = 6 by omega]
  rfl
/-- One stored into its place. -/
theorem putP_next {wr : World} {base g n k : Nat} {xs A : List Value} {t : Pai} (ho : wr.ownsRow base 85 6 (.slice (some ⟨g, 0, none⟩) n n) n xs) (hA : xs.take (k * 6) = A) (hk : k < n) :
    ∃ ys, ((((((wr.setCell ⟨g, k * 6, none⟩ (.int .i64 t.head.kind)).setCell ⟨g, k * 6 + 1, none⟩ (.int .i64 t.head.num)).setCell ⟨g, k * 6 + 2, none⟩ (.string t.head.name)).setCell ⟨g, k * 6 + 3, none⟩ (.int .i64 t.tail.kind)).setCell ⟨g, k * 6 + 4, none⟩ (.int .i64 t.tail.num)).setCell ⟨g, k * 6 + 5, none⟩ (.string t.tail.name)).ownsRow base 85 6 (.slice (some ⟨g, 0, none⟩) n n) n ys ∧ ys.take ((k + 1) * 6) = A ++ t.cells :=
  ⟨_, own_put (own_put (own_put (own_put (own_put (own_put ho _ _) _ _) _ _) _ _) _ _) _ _, putP xs A k _ _ _ _ _ _ hA (by have := ho.1; omega)⟩
set_option maxRecDepth 100000 in
set_option maxHeartbeats 2000000 in
theorem toPS_any (a : Option Addr) (c : Nat) (l : List Pai) (w : World) (hl : l.length ≤ 1048576) (h : MemP w a l) :
    Calls Tryd.prog 15 #[.slice a l.length c] w fun e w' => ∃ g, e = .returned (.slice (some ⟨g, 0, none⟩) l.length l.length) ∧ w'.ownsRow w.heap.size 85 6 (.slice (some ⟨g, 0, none⟩) l.length l.length) l.length (cellsP l) ∧ Below w.heap.size w w' := by
  have HT : Hid (MemP w a l) := h
  have hmk := makeP l.length hl
  have HM : Hid (∃ xs, (w.alloc (.cells (madeCells #[.int .i64 0, .int .i64 0, .string ⟨#[]⟩, .int .i64 0, .int .i64 0, .string ⟨#[]⟩] (l.length * 6)) 85)).ownsRow w.heap.size 85 6 (.slice (some ⟨w.heap.size, 0, none⟩) l.length l.length) l.length xs ∧ xs.take (0 * 6) = cellsP (l.take 0)) := ⟨_, madeP l.length hl w, rfl⟩
  clear h
  go_enter Tryd.func15, Tryd.ntmps15
  go_wp2_with fail
  go_loopw [4] (fun i wr => ∃ k : Nat, k ≤ l.length ∧ i = .int .i64 (k : Int) ∧ Hid (∃ xs, wr.ownsRow w.heap.size 85 6 (.slice (some ⟨w.heap.size, 0, none⟩) l.length l.length) l.length xs ∧ xs.take (k * 6) = cellsP (l.take k)) ∧ Below w.heap.size w wr) (fun i _ => l.length - (RowKit.intOf i).toNat)
  case atStart => exact ⟨0, Nat.zero_le _, rfl, HM.out, (Below.refl _ _).alloc (Nat.le_refl _) _⟩
  case round =>
    obtain ⟨k, hk, rfl, HX, hb⟩ := hrel
    have HB : Hid (Below w.heap.size w wr) := hb
    clear hb
    by_cases hlt : k < l.length
    · obtain ⟨b, off, rfl, hc⟩ := (HT.out.below HB.out) (by omega)
      obtain ⟨c0, c1, c2, c3, c4, c5⟩ := hc k hlt
      clear hc
      have HU : Hid (∀ w, Calls Tryd.prog 33 #[(l[k]'hlt).val] w fun e w' => e = .returned (l[k]'hlt).val ∧ Below w.heap.size w w') := fun w => toP_any _ w
      obtain ⟨xs, hox, htx⟩ := HX.out
      have HO : Hid (wr.ownsRow w.heap.size 85 6 (.slice (some ⟨w.heap.size, 0, none⟩) l.length l.length) l.length xs) := hox
      have HE : Hid (xs.take (k * 6) = cellsP (l.take k)) := htx
      have hgl : w.heap.size < wr.heap.size := (hox.lt w.heap.size rfl).2
      have HL : Hid (xs.length = l.length * 6) := hox.1
      clear hox htx
      go_wp2_with fail
      refine (HU.out _).mono ?_
      rintro e w1 ⟨rfl, hb1⟩
      have HO1 : Hid (w1.ownsRow w.heap.size 85 6 (.slice (some ⟨w.heap.size, 0, none⟩) l.length l.length) l.length xs) := own_below HO.out hb1
      have HB1 : Hid (Below w.heap.size w w1) := HB.out.trans (hb1.mono HB.out.size)
      have hgl1 : w.heap.size < w1.heap.size := (HO1.out.lt w.heap.size rfl).2
      clear hb1 c0 c1 c2 c3 c4 c5
      obtain ⟨x0, e0⟩ := own_cell HO1.out (k * 6) (by have := HL.out; omega)
      obtain ⟨x1, e1⟩ := own_cell HO1.out (k * 6 + 1) (by have := HL.out; omega)
      obtain ⟨x2, e2⟩ := own_cell HO1.out (k * 6 + 2) (by have := HL.out; omega)
      obtain ⟨x3, e3⟩ := own_cell HO1.out (k * 6 + 3) (by have := HL.out; omega)
      obtain ⟨x4, e4⟩ := own_cell HO1.out (k * 6 + 4) (by have := HL.out; omega)
      obtain ⟨x5, e5⟩ := own_cell HO1.out (k * 6 + 5) (by have := HL.out; omega)
      have ff : ∀ j, w1.frozen? ⟨w.heap.size, j, none⟩ = false := own_frozen HO1.out
      go_wp2
      obtain ⟨ys, hy, hyt⟩ := putP_next (t := l[k]'hlt) HO1.out HE.out hlt
      refine ⟨⟨k + 1, by omega, by go_num, ⟨ys, hy, ?_⟩, (((((HB1.out.setCell (Nat.le_refl _) _).setCell (Nat.le_refl _) _).setCell (Nat.le_refl _) _).setCell (Nat.le_refl _) _).setCell (Nat.le_refl _) _).setCell (Nat.le_refl _) _⟩, by simp [RowKit.intOf]; omega⟩
      rw [hyt, takeP l k hlt, cellsP_append]; simp [cellsP]
    · have HF : Hid (wr.ownsRow w.heap.size 85 6 (.slice (some ⟨w.heap.size, 0, none⟩) l.length l.length) l.length (cellsP l)) := by
        obtain ⟨xs, hox, htx⟩ := HX.out
        have hkl : k = l.length := by omega
        rw [hkl, List.take_length, List.take_of_length_le (by rw [hox.1]; exact Nat.le_refl _)] at htx
        rw [htx] at hox
        exact hox
      clear HX
      go_wp2
      go_ret
      exact ⟨_, rfl, HF.out, HB.out⟩
end Go.Proofs.YtgfienijabkpjaaDoor
