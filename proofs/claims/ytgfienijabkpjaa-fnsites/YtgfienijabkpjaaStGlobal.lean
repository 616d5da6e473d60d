/-
  Global, a struct of 5 cells, and slices of it: what the laws' eqGlobal, eqGlobalS, toGlobal, toGlobalS, szGlobal and szGlobalS answer; nothing that was there is turned.
-/
import Derived.Test.YtgfienijabkpjaaVluBase
namespace Go.Proofs.Ytgfienijabkpjaa
open Go.RowKit Go.Extern.Stop Go.Stop Go.Extern Num Go.Lib

structure Glb where
  name : ByteArray
  value : Vlu
  ver : Int
/-- How many bytes its names have. -/
def Glb.big (t : Glb) : Nat := t.name.size + t.value.name.size
/-- Names that a machine can hold. -/
def Glb.able (t : Glb) : Prop := t.name.size ≤ 9223372036854775807 ∧ t.value.name.size ≤ 9223372036854775807
abbrev Glb.val (t : Glb) : Value := .agg #[.string t.name, .int .i64 t.value.kind, .int .i64 t.value.num, .string t.value.name, .int .i64 t.ver]
def Glb.cells (t : Glb) : List Value := [.string t.name, .int .i64 t.value.kind, .int .i64 t.value.num, .string t.value.name, .int .i64 t.ver]
def cellsG : List Glb → List Value
  | [] => []
  | t :: r => t.cells ++ cellsG r
theorem cellsG_append (a b : List Glb) : cellsG (a ++ b) = cellsG a ++ cellsG b := by
  induction a with
  | nil => rfl
  | cons t r ih => simp [cellsG, ih]
theorem cellsG_length (l : List Glb) : (cellsG l).length = l.length * 5 := by
  induction l with
  | nil => rfl
  | cons t r ih => simp [cellsG, Glb.cells, ih]; omega
theorem cellsG_one (l : List Glb) : ∀ u ∈ cellsG l, u.oneCell' = true := by
  induction l with
  | nil => intro u h; cases h
  | cons t r ih =>
    intro u h
    simp only [cellsG, Glb.cells, List.mem_append, List.mem_cons, List.not_mem_nil, or_false] at h
    rcases h with (rfl | rfl | rfl | rfl | rfl) | h
    · rfl
    · rfl
    · rfl
    · rfl
    · rfl
    · exact ih u h
theorem cellsG_at (l : List Glb) (k : Nat) (h : k < l.length) : (cellsG l)[k * 5]? = some (.string l[k].name) ∧ (cellsG l)[k * 5 + 1]? = some (.int .i64 l[k].value.kind) ∧ (cellsG l)[k * 5 + 2]? = some (.int .i64 l[k].value.num) ∧ (cellsG l)[k * 5 + 3]? = some (.string l[k].value.name) ∧ (cellsG l)[k * 5 + 4]? = some (.int .i64 l[k].ver) := by
  induction l generalizing k with
  | nil => cases h
  | cons t r ih =>
    cases k with
    | zero => exact ⟨rfl, rfl, rfl, rfl, rfl⟩
    | succ k =>
      have hk : k < r.length := by simpa using h
      have := ih k hk
      have e : ∀ j, (cellsG (t :: r))[j + 5]? = (cellsG r)[j]? := fun j => by
        show (t.cells ++ cellsG r)[j + 5]? = _
        rw [List.getElem?_append_right (by simp [Glb.cells])]
        simp [Glb.cells]
      have e1 : (k + 1) * 5 = k * 5 + 5 := by omega
      rw [e1, show k * 5 + 5 + 1 = k * 5 + 1 + 5 by omega, show k * 5 + 5 + 2 = k * 5 + 2 + 5 by omega, show k * 5 + 5 + 3 = k * 5 + 3 + 5 by omega, show k * 5 + 5 + 4 = k * 5 + 4 + 5 by omega, e, e, e, e, e]
      simpa using this
theorem takeG (l : List Glb) (k : Nat) (h : k < l.length) : l.take (k + 1) = l.take k ++ [l[k]] := by
  rw [List.take_add_one, List.getElem?_eq_getElem h]; rfl
theorem infoG : (Try.prog.info? 33).map (fun i => (i.zero, i.size, i.bytes)) = some (some (.agg #[.string ⟨#[]⟩, .int .i64 0, .int .i64 0, .string ⟨#[]⟩, .int .i64 0]), 5, 56) := by kernel_rfl
theorem rowG_at {w : World} {base g cap : Nat} {l : List Glb} (h : w.ownsRow base 33 5 (.slice (some ⟨g, 0, none⟩) l.length cap) l.length (cellsG l)) (k : Nat) (hk : k < l.length) :
    w.cell? ⟨g, k * 5, none⟩ = some (.string l[k].name) ∧ w.cell? ⟨g, k * 5 + 1, none⟩ = some (.int .i64 l[k].value.kind) ∧ w.cell? ⟨g, k * 5 + 2, none⟩ = some (.int .i64 l[k].value.num) ∧ w.cell? ⟨g, k * 5 + 3, none⟩ = some (.string l[k].value.name) ∧ w.cell? ⟨g, k * 5 + 4, none⟩ = some (.int .i64 l[k].ver) := by
  have ha : ∀ j, (⟨g, 0, none⟩ : Addr).add j = ⟨g, j, none⟩ := fun j => by unfold Addr.add; split <;> simp_all
  have hc := h.cells (g := g) rfl
  obtain ⟨h0, h1, h2, h3, h4⟩ := cellsG_at l k hk
  exact ⟨by rw [← ha]; exact hc _ _ h0, by rw [← ha]; exact hc _ _ h1, by rw [← ha]; exact hc _ _ h2, by rw [← ha]; exact hc _ _ h3, by rw [← ha]; exact hc _ _ h4⟩
theorem eqG_same (t : Glb) (w : World) :
    Calls Try.prog 58 #[t.val, t.val] w fun e w' => e = .returned (.bool true) ∧ Below w.heap.size w w' := by
  have H1 : Hid (∀ w, Calls Try.prog 81 #[t.value.val, t.value.val] w fun e w' => e = .returned (.bool true) ∧ Below w.heap.size w w') := fun w => eqV_same _ w
  go_enter Try.func58, Try.ntmps58
  go_wp2_with fail
  refine (H1.out _).mono ?_
  rintro e w1 ⟨rfl, hb1⟩
  obtain ⟨hc1, hf1⟩ := bcell hb1
  go_wp2
  go_ret
  exact ⟨rfl, Below.trans (by repeat (first | exact Below.refl _ _ | refine Below.setCell ?_ (by simp) _ | refine Below.alloc ?_ (by simp <;> omega) _ | refine Below.drew ?_)) (hb1.mono (by simp <;> omega))⟩
theorem eqGS_nil (ao bo : Option Addr) (ca cb : Nat) (w : World) :
    Calls Try.prog 25 #[.slice ao 0 ca, .slice bo 0 cb] w fun e w' => e = .returned (.bool true) ∧ Below w.heap.size w w' := by
  go_enter Try.func25, Try.ntmps25
  go_wp2_with fail
  go_loop [5] (fun i => i = .int .i64 0) (fun _ => 0)
  case atStart => rfl
  case round =>
    obtain rfl := hrel
    go_wp2
    go_ret
    exact ⟨rfl, Below.refl _ _⟩
set_option maxRecDepth 100000 in
set_option maxHeartbeats 1000000 in
theorem eqGS_some (g1 g2 c1 c2 b1 b2 : Nat) (l : List Glb) (w : World) (hl : l.length ≤ 1048576) (h1 : w.ownsRow b1 33 5 (.slice (some ⟨g1, 0, none⟩) l.length c1) l.length (cellsG l)) (h2 : w.ownsRow b2 33 5 (.slice (some ⟨g2, 0, none⟩) l.length c2) l.length (cellsG l)) :
    Calls Try.prog 25 #[.slice (some ⟨g1, 0, none⟩) l.length c1, .slice (some ⟨g2, 0, none⟩) l.length c2] w fun e w' => e = .returned (.bool true) ∧ Below w.heap.size w w' := by
  have H1 : Hid _ := fun k hk => rowG_at h1 k hk
  have H2 : Hid _ := fun k hk => rowG_at h2 k hk
  clear h1 h2
  go_enter Try.func25, Try.ntmps25
  go_wp2_with fail
  go_loopw [5] (fun i wr => ∃ k : Nat, k ≤ l.length ∧ i = .int .i64 (k : Int) ∧ Below w.heap.size w wr) (fun i _ => l.length - (RowKit.intOf i).toNat)
  case atStart => exact ⟨0, Nat.zero_le _, rfl, Below.refl _ _⟩
  case round =>
    obtain ⟨k, hk, rfl, hb⟩ := hrel
    have HB : Hid (Below w.heap.size w wr) := hb
    clear hb
    by_cases hlt : k < l.length
    · have HT : Hid (∀ w, Calls Try.prog 58 #[(l[k]'hlt).val, (l[k]'hlt).val] w fun e w' => e = .returned (.bool true) ∧ Below w.heap.size w w') := fun w => eqG_same _ w
      have a0 : ∀ p : BW wr, p.x.cell? ⟨g1, k * 5, none⟩ = some (.string (l[k]'hlt).name) := fun p => p.cell (cell_keep HB.out (H1.out k hlt).1)
      have a1 : ∀ p : BW wr, p.x.cell? ⟨g1, k * 5 + 1, none⟩ = some (.int .i64 (l[k]'hlt).value.kind) := fun p => p.cell (cell_keep HB.out (H1.out k hlt).2.1)
      have a2 : ∀ p : BW wr, p.x.cell? ⟨g1, k * 5 + 2, none⟩ = some (.int .i64 (l[k]'hlt).value.num) := fun p => p.cell (cell_keep HB.out (H1.out k hlt).2.2.1)
      have a3 : ∀ p : BW wr, p.x.cell? ⟨g1, k * 5 + 3, none⟩ = some (.string (l[k]'hlt).value.name) := fun p => p.cell (cell_keep HB.out (H1.out k hlt).2.2.2.1)
      have a4 : ∀ p : BW wr, p.x.cell? ⟨g1, k * 5 + 4, none⟩ = some (.int .i64 (l[k]'hlt).ver) := fun p => p.cell (cell_keep HB.out (H1.out k hlt).2.2.2.2)
      have d0 : ∀ p : BW wr, p.x.cell? ⟨g2, k * 5, none⟩ = some (.string (l[k]'hlt).name) := fun p => p.cell (cell_keep HB.out (H2.out k hlt).1)
      have d1 : ∀ p : BW wr, p.x.cell? ⟨g2, k * 5 + 1, none⟩ = some (.int .i64 (l[k]'hlt).value.kind) := fun p => p.cell (cell_keep HB.out (H2.out k hlt).2.1)
      have d2 : ∀ p : BW wr, p.x.cell? ⟨g2, k * 5 + 2, none⟩ = some (.int .i64 (l[k]'hlt).value.num) := fun p => p.cell (cell_keep HB.out (H2.out k hlt).2.2.1)
      have d3 : ∀ p : BW wr, p.x.cell? ⟨g2, k * 5 + 3, none⟩ = some (.string (l[k]'hlt).value.name) := fun p => p.cell (cell_keep HB.out (H2.out k hlt).2.2.2.1)
      have d4 : ∀ p : BW wr, p.x.cell? ⟨g2, k * 5 + 4, none⟩ = some (.int .i64 (l[k]'hlt).ver) := fun p => p.cell (cell_keep HB.out (H2.out k hlt).2.2.2.2)
      have hne := bw_some wr
      go_wp2_with fail
      refine wp_region_below (by kernel_rfl) (by kernel_rfl) ?_
      repeat (go_big_quiet_step ((go_at_call 58; exact calls_bw (HT.out _))))
      refine wpQuiet_nil ?_
      intro wq hw'
      obtain ⟨⟨_, bq⟩, rfl⟩ := hw'
      have HB2 : Hid _ := HB.out.trans (bq.mono HB.out.size)
      clear bq a0 a1 a2 a3 a4 d0 d1 d2 d3 d4 hne
      go_wp2
      exact ⟨⟨k + 1, by omega, by go_num, HB2.out⟩, by simp [RowKit.intOf]; omega⟩
    · go_wp2
      go_ret
      exact ⟨rfl, HB.out⟩
theorem eqGS_same (a b : Value) (b1 b2 : Nat) (l : List Glb) (w : World) (hl : l.length ≤ 1048576) (h1 : w.ownsRow b1 33 5 a l.length (cellsG l)) (h2 : w.ownsRow b2 33 5 b l.length (cellsG l)) :
    Calls Try.prog 25 #[a, b] w fun e w' => e = .returned (.bool true) ∧ Below w.heap.size w w' := by
  cases l with
  | nil =>
    obtain ⟨ao, ca, rfl⟩ := own_form h1
    obtain ⟨bo, cb, rfl⟩ := own_form h2
    exact eqGS_nil ao bo ca cb w
  | cons t r =>
    obtain ⟨g1, c1, rfl, _, _⟩ := h1.form (by simp)
    obtain ⟨g2, c2, rfl, _, _⟩ := h2.form (by simp)
    exact eqGS_some g1 g2 c1 c2 b1 b2 (t :: r) w hl h1 h2

set_option maxHeartbeats 1000000 in
theorem toG_any (t : Glb) (w : World) :
    Calls Try.prog 57 #[t.val] w fun e w' => e = .returned t.val ∧ Below w.heap.size w w' := by
  have H1 : Hid (∀ w, Calls Try.prog 23 #[t.value.val] w fun e w' => e = .returned t.value.val ∧ Below w.heap.size w w') := fun w => toV_any _ w
  go_enter Try.func57, Try.ntmps57
  go_wp2_with fail
  refine (H1.out _).mono ?_
  rintro e w1 ⟨rfl, hb1⟩
  obtain ⟨hc1, hf1⟩ := bcell hb1
  have z1 : w.heap.size + 2 < w1.heap.size := by have := hb1.size; simp at this; omega
  have B1 : Below w.heap.size w w1 := Below.trans (by repeat (first | exact Below.refl _ _ | refine Below.setCell ?_ (by simp <;> omega) _ | refine Below.alloc ?_ (by simp <;> omega) _ | refine Below.drew ?_)) (hb1.mono (by simp <;> omega))
  have z1a : w.heap.size + 1 < w1.heap.size := by omega
  have z1b : w.heap.size < w1.heap.size := by omega
  go_wp2
  exact bodyPost_ret (v := t.val) (by simp [results, Try.results57, go_sem, hc1]) rfl ⟨rfl, by
    repeat (first | refine Below.setCell ?_ (by simp <;> omega) _ | exact B1)⟩
theorem szG_far (t : Glb) (n : Nat) (w : World) (hz : t.able) (hn : n ≤ 1048576) (h : n < t.big) :
    Calls Try.prog 56 #[t.val, .int .i64 (n : Int)] w fun e w' => e = .returned (.int .i64 (-1)) ∧ Below w.heap.size w w' := by
  obtain ⟨hz1, hz2⟩ := hz
  by_cases h1 : n < t.name.size
  · clear h
    go_enter Try.func56, Try.ntmps56
    go_wp2
    go_ret
    exact ⟨rfl, by repeat (first | exact Below.refl _ _ | refine Below.setCell ?_ (by simp) _ | refine Below.alloc ?_ (by simp <;> omega) _ | refine Below.drew ?_)⟩
  · obtain ⟨q, hq⟩ : ∃ q : Nat, q = n - t.name.size := ⟨_, rfl⟩
    have H2 : Hid (∀ w, Calls Try.prog 21 #[t.value.val, .int .i64 (q : Int)] w fun e w' => e = .returned (.int .i64 (-1)) ∧ Below w.heap.size w w') := fun w => szV_far _ q w hz2 (by omega) (by unfold Glb.big at h; omega)
    have hq1 : n = q + t.name.size := by omega
    clear hz2 h h1 hq
    subst hq1
    go_enter Try.func56, Try.ntmps56
    have hqi : ((q + t.name.size : Nat) : Int) - (t.name.size : Int) = (q : Int) := by omega
    go_wp2_with fail
    refine (H2.out _).mono ?_
    rintro e w2 ⟨rfl, hb2⟩
    go_wp2
    go_ret
    exact ⟨rfl, Below.trans (by repeat (first | exact Below.refl _ _ | refine Below.setCell ?_ (by simp) _ | refine Below.alloc ?_ (by simp <;> omega) _ | refine Below.drew ?_)) (hb2.mono (by simp <;> omega))⟩
theorem szG_near (t : Glb) (n : Nat) (w : World) (hn : n ≤ 1048576) (h : t.big ≤ n) :
    Calls Try.prog 56 #[t.val, .int .i64 (n : Int)] w fun e w' => e = .returned (.int .i64 ((n - t.big : Nat) : Int)) ∧ Below w.heap.size w w' := by
  obtain ⟨q, hq⟩ : ∃ q : Nat, q = n - t.name.size := ⟨_, rfl⟩
  obtain ⟨r, hr⟩ : ∃ r : Nat, r = n - t.big := ⟨_, rfl⟩
  have H2 : Hid (∀ w, Calls Try.prog 21 #[t.value.val, .int .i64 (q : Int)] w fun e w' => e = .returned (.int .i64 (r : Int)) ∧ Below w.heap.size w w') := fun w => by
    have e : r = q - t.value.name.size := by unfold Glb.big at hr; omega
    rw [e]; exact szV_near _ q w (by omega) (by unfold Glb.big at h; omega)
  rw [← hr]
  have hq1 : n = q + t.name.size := by unfold Glb.big at h; omega
  clear h hq hr
  subst hq1
  go_enter Try.func56, Try.ntmps56
  have hqi : ((q + t.name.size : Nat) : Int) - (t.name.size : Int) = (q : Int) := by omega
  go_wp2_with fail
  refine (H2.out _).mono ?_
  rintro e w2 ⟨rfl, hb2⟩
  go_wp2
  go_ret
  exact ⟨rfl, Below.trans (by repeat (first | exact Below.refl _ _ | refine Below.setCell ?_ (by simp) _ | refine Below.alloc ?_ (by simp <;> omega) _ | refine Below.drew ?_)) (hb2.mono (by simp <;> omega))⟩
/-- What lies where a slice leads that came in. -/
def MemG (w : World) (a : Option Addr) (l : List Glb) : Prop :=
  0 < l.length → ∃ b off, a = some ⟨b, off, none⟩ ∧ ∀ (k : Nat) (h : k < l.length), w.cell? ⟨b, off + k * 5, none⟩ = some (.string l[k].name) ∧ w.cell? ⟨b, off + k * 5 + 1, none⟩ = some (.int .i64 l[k].value.kind) ∧ w.cell? ⟨b, off + k * 5 + 2, none⟩ = some (.int .i64 l[k].value.num) ∧ w.cell? ⟨b, off + k * 5 + 3, none⟩ = some (.string l[k].value.name) ∧ w.cell? ⟨b, off + k * 5 + 4, none⟩ = some (.int .i64 l[k].ver)
theorem MemG.below {w w' : World} {a : Option Addr} {l : List Glb} (h : MemG w a l) (hb : Below w.heap.size w w') : MemG w' a l := by
  intro hl
  obtain ⟨b, off, e, hc⟩ := h hl
  exact ⟨b, off, e, fun k hk => ⟨cell_keep hb (hc k hk).1, cell_keep hb (hc k hk).2.1, cell_keep hb (hc k hk).2.2.1, cell_keep hb (hc k hk).2.2.2.1, cell_keep hb (hc k hk).2.2.2.2⟩⟩
/-- How much a slice holds. -/
def SZG (l : List Glb) (w : World) (e : Ending) (w' : World) : Prop :=
  ((e = .returned (.int .i64 (-1))) ∨ (∃ q : Nat, q ≤ 1048576 ∧ e = .returned (.int .i64 (q : Int)) ∧ l.length ≤ 1048576 ∧ ∀ (k : Nat) (h : k < l.length), l[k].big ≤ 1048576)) ∧ Below w.heap.size w w'
set_option maxHeartbeats 1000000 in
theorem szGS_any (a : Option Addr) (c : Nat) (l : List Glb) (w : World) (n0 : Nat) (hn0 : n0 ≤ 1048576) (hl0 : l.length ≤ 9223372036854775807) (h : MemG w a l) (hz : ∀ (k : Nat) (h : k < l.length), l[k].able) :
    Calls Try.prog 20 #[.slice a l.length c, .int .i64 (n0 : Int)] w fun e w' => SZG l w e w' := by
  have HT : Hid (MemG w a l) := h
  have HZ : Hid (∀ (k : Nat) (h : k < l.length), l[k].able) := hz
  clear h hz
  by_cases hl : n0 < l.length
  · go_enter Try.func20, Try.ntmps20
    go_wp2
    go_ret
    exact ⟨Or.inl rfl, Below.refl _ _⟩
  go_enter Try.func20, Try.ntmps20
  go_wp2_with fail
  go_loopw [1, 5] (fun v i wr => ∃ k n : Nat, k ≤ l.length ∧ n ≤ 1048576 ∧ v = .int .i64 (n : Int) ∧ i = .int .i64 (k : Int) ∧ Hid (∀ (j : Nat) (h : j < l.length), j < k → l[j].big ≤ 1048576) ∧ Below w.heap.size w wr) (fun _ i _ => l.length - (RowKit.intOf i).toNat)
  case atStart => exact ⟨0, n0 - l.length, Nat.zero_le _, by omega, by congr 1; omega, rfl, fun j _ hj => by omega, Below.refl _ _⟩
  case round =>
    obtain ⟨k, n, hk, hn, rfl, rfl, HJ, hb⟩ := hrel
    have HB : Hid (Below w.heap.size w wr) := hb
    clear hb
    by_cases hlt : k < l.length
    · obtain ⟨b, off, rfl, hc⟩ := (HT.out.below HB.out) (by omega)
      obtain ⟨c0, c1, c2, c3, c4⟩ := hc k hlt
      clear hc
      by_cases hs : n < (l[k]'hlt).big
      · have HX : Hid (∀ w, Calls Try.prog 56 #[(l[k]'hlt).val, .int .i64 (n : Int)] w fun e w' => e = .returned (.int .i64 (-1)) ∧ Below w.heap.size w w') := fun w => szG_far _ n w (HZ.out k hlt) hn hs
        clear hs
        go_wp2_with (go_at_call 56; refine (HX.out _).mono ?_; rintro e w1 ⟨rfl, hq⟩)
        go_ret
        exact ⟨Or.inl rfl, HB.out.trans (hq.mono HB.out.size)⟩
      · obtain ⟨q, hq⟩ : ∃ q : Nat, q = n - (l[k]'hlt).big := ⟨_, rfl⟩
        have HX : Hid (∀ w, Calls Try.prog 56 #[(l[k]'hlt).val, .int .i64 (n : Int)] w fun e w' => e = .returned (.int .i64 (q : Int)) ∧ Below w.heap.size w w') := fun w => by rw [hq]; exact szG_near _ n w hn (by omega)
        have HS : Hid ((l[k]'hlt).big ≤ 1048576) := by show (l[k]'hlt).big ≤ 1048576; omega
        have hq2 : q ≤ 1048576 := by omega
        clear hq hs
        go_wp2_with (go_at_call 56; refine (HX.out _).mono ?_; rintro e w1 ⟨rfl, hb1⟩)
        refine ⟨⟨k + 1, q, by omega, hq2, rfl, by go_num, fun j hj hjk => ?_, HB.out.trans (hb1.mono HB.out.size)⟩, by simp [RowKit.intOf]; omega⟩
        by_cases e : j < k
        · exact HJ.out j hj e
        · have : j = k := by omega
          subst this; exact HS.out
    · go_wp2
      go_ret
      exact ⟨Or.inr ⟨n, hn, rfl, by omega, fun j hj => HJ.out j hj (by omega)⟩, HB.out⟩

theorem makeG (n : Nat) (hn : n ≤ 1048576) (w : World) : (Instr.makeSlice 24 (.int .i64 (n : Int)) (.int .i64 (n : Int))).run Try.prog w = .ok (.slice (some ⟨w.heap.size, 0, none⟩) n n) (w.alloc (.cells (madeCells #[.string ⟨#[]⟩, .int .i64 0, .int .i64 0, .string ⟨#[]⟩, .int .i64 0] (n * 5)) 33)) := by
  obtain ⟨i0, hi, hz0, hz1, hz2⟩ := info_parts infoG
  have := run_make (P := Try.prog) w 24 33 i0 _ Try.underlying24 hi hz0 .i64 .i64 (n : Int) (n : Int) (by omega) (by omega) (by rw [hz2]; omega) (by omega)
  rw [this, hz1]
  simp [Value.cells]
theorem madeG (n : Nat) (hn : n ≤ 1048576) (w : World) : (w.alloc (.cells (madeCells #[.string ⟨#[]⟩, .int .i64 0, .int .i64 0, .string ⟨#[]⟩, .int .i64 0] (n * 5)) 33)).ownsRow w.heap.size 33 5 (.slice (some ⟨w.heap.size, 0, none⟩) n n) n (madeCells #[.string ⟨#[]⟩, .int .i64 0, .int .i64 0, .string ⟨#[]⟩, .int .i64 0] (n * 5)).toList :=
  ⟨by simp [madeCells], .inr ⟨w.heap.size, n, _, rfl, Nat.le_refl _, heap_alloc_new w _, Nat.le_refl _, by unfold maxLen; omega, by simp [madeCells], by rw [List.take_of_length_le]; simp [madeCells]⟩⟩
theorem putG (xs A : List Value) (k : Nat) (a b c d e : Value) (h : xs.take (k * 5) = A) (hl : k * 5 + 5 ≤ xs.length) : (((((xs.set (k * 5) a).set (k * 5 + 1) b).set (k * 5 + 2) c).set (k * 5 + 3) d).set (k * 5 + 4) e).take ((k + 1) * 5) = A ++ [a, b, c, d, e] := by
  have e : xs = xs.take (k * 5) ++ (xs[k * 5]'(by omega) :: xs[k * 5 + 1]'(by omega) :: xs[k * 5 + 2]'(by omega) :: xs[k * 5 + 3]'(by omega) :: xs[k * 5 + 4]'(by omega) :: xs.drop (k * 5 + 5)) := by
    rw [← List.drop_eq_getElem_cons, ← List.drop_eq_getElem_cons, ← List.drop_eq_getElem_cons, ← List.drop_eq_getElem_cons, ← List.drop_eq_getElem_cons, List.take_append_drop]
  have hA : A.length = k * 5 := by rw [← h]; simp; omega
  rw [h] at e
  generalize xs[k * 5]'(by omega) = x0 at e
  generalize xs[k * 5 + 1]'(by omega) = x1 at e
  generalize xs[k * 5 + 2]'(by omega) = x2 at e
  generalize xs[k * 5 + 3]'(by omega) = x3 at e
  generalize xs[k * 5 + 4]'(by omega) = x4 at e
  generalize xs.drop (k * 5 + 5) = r at e
  clear h
  subst e
  rw [List.set_append_right _ _ (by omega), List.set_append_right _ _ (by omega), List.set_append_right _ _ (by omega), List.set_append_right _ _ (by omega), List.set_append_right _ _ (by omega), hA, show k * 5 - k * 5 = 0 by omega, show k * 5 + 1 - k * 5 = 1 by omega, show k * 5 + 2 - k * 5 = 2 by omega, show k * 5 + 3 - k * 5 = 3 by omega, show k * 5 + 4 - k * 5 = 4 by omega]
  rw [show (k + 1) * 5 = A.length + 5 by omega, List.take_append, List.take_of_length_le (by omega), show A.length + 5 - A.length = 5 by omega]
  rfl
/-- One stored into its place. -/
theorem putG_next {wr : World} {base g n k : Nat} {xs A : List Value} {t : Glb} (ho : wr.ownsRow base 33 5 (.slice (some ⟨g, 0, none⟩) n n) n xs) (hA : xs.take (k * 5) = A) (hk : k < n) :
    ∃ ys, (((((wr.setCell ⟨g, k * 5, none⟩ (.string t.name)).setCell ⟨g, k * 5 + 1, none⟩ (.int .i64 t.value.kind)).setCell ⟨g, k * 5 + 2, none⟩ (.int .i64 t.value.num)).setCell ⟨g, k * 5 + 3, none⟩ (.string t.value.name)).setCell ⟨g, k * 5 + 4, none⟩ (.int .i64 t.ver)).ownsRow base 33 5 (.slice (some ⟨g, 0, none⟩) n n) n ys ∧ ys.take ((k + 1) * 5) = A ++ t.cells :=
  ⟨_, own_put (own_put (own_put (own_put (own_put ho _ _) _ _) _ _) _ _) _ _, putG xs A k _ _ _ _ _ hA (by have := ho.1; omega)⟩
set_option maxRecDepth 100000 in
set_option maxHeartbeats 2000000 in
theorem toGS_any (a : Option Addr) (c : Nat) (l : List Glb) (w : World) (hl : l.length ≤ 1048576) (h : MemG w a l) :
    Calls Try.prog 22 #[.slice a l.length c] w fun e w' => ∃ g, e = .returned (.slice (some ⟨g, 0, none⟩) l.length l.length) ∧ w'.ownsRow w.heap.size 33 5 (.slice (some ⟨g, 0, none⟩) l.length l.length) l.length (cellsG l) ∧ Below w.heap.size w w' := by
  have HT : Hid (MemG w a l) := h
  have hmk := makeG l.length hl
  have HM : Hid (∃ xs, (w.alloc (.cells (madeCells #[.string ⟨#[]⟩, .int .i64 0, .int .i64 0, .string ⟨#[]⟩, .int .i64 0] (l.length * 5)) 33)).ownsRow w.heap.size 33 5 (.slice (some ⟨w.heap.size, 0, none⟩) l.length l.length) l.length xs ∧ xs.take (0 * 5) = cellsG (l.take 0)) := ⟨_, madeG l.length hl w, rfl⟩
  clear h
  go_enter Try.func22, Try.ntmps22
  go_wp2_with fail
  go_loopw [4] (fun i wr => ∃ k : Nat, k ≤ l.length ∧ i = .int .i64 (k : Int) ∧ Hid (∃ xs, wr.ownsRow w.heap.size 33 5 (.slice (some ⟨w.heap.size, 0, none⟩) l.length l.length) l.length xs ∧ xs.take (k * 5) = cellsG (l.take k)) ∧ Below w.heap.size w wr) (fun i _ => l.length - (RowKit.intOf i).toNat)
  case atStart => exact ⟨0, Nat.zero_le _, rfl, HM.out, (Below.refl _ _).alloc (Nat.le_refl _) _⟩
  case round =>
    obtain ⟨k, hk, rfl, HX, hb⟩ := hrel
    have HB : Hid (Below w.heap.size w wr) := hb
    clear hb
    by_cases hlt : k < l.length
    · obtain ⟨b, off, rfl, hc⟩ := (HT.out.below HB.out) (by omega)
      obtain ⟨c0, c1, c2, c3, c4⟩ := hc k hlt
      clear hc
      have HU : Hid (∀ w, Calls Try.prog 57 #[(l[k]'hlt).val] w fun e w' => e = .returned (l[k]'hlt).val ∧ Below w.heap.size w w') := fun w => toG_any _ w
      obtain ⟨xs, hox, htx⟩ := HX.out
      have HO : Hid (wr.ownsRow w.heap.size 33 5 (.slice (some ⟨w.heap.size, 0, none⟩) l.length l.length) l.length xs) := hox
      have HE : Hid (xs.take (k * 5) = cellsG (l.take k)) := htx
      have hgl : w.heap.size < wr.heap.size := (hox.lt w.heap.size rfl).2
      have HL : Hid (xs.length = l.length * 5) := hox.1
      clear hox htx
      go_wp2_with fail
      refine (HU.out _).mono ?_
      rintro e w1 ⟨rfl, hb1⟩
      have HO1 : Hid (w1.ownsRow w.heap.size 33 5 (.slice (some ⟨w.heap.size, 0, none⟩) l.length l.length) l.length xs) := own_below HO.out hb1
      have HB1 : Hid (Below w.heap.size w w1) := HB.out.trans (hb1.mono HB.out.size)
      have hgl1 : w.heap.size < w1.heap.size := (HO1.out.lt w.heap.size rfl).2
      clear hb1 c0 c1 c2 c3 c4
      obtain ⟨x0, e0⟩ := own_cell HO1.out (k * 5) (by have := HL.out; omega)
      obtain ⟨x1, e1⟩ := own_cell HO1.out (k * 5 + 1) (by have := HL.out; omega)
      obtain ⟨x2, e2⟩ := own_cell HO1.out (k * 5 + 2) (by have := HL.out; omega)
      obtain ⟨x3, e3⟩ := own_cell HO1.out (k * 5 + 3) (by have := HL.out; omega)
      obtain ⟨x4, e4⟩ := own_cell HO1.out (k * 5 + 4) (by have := HL.out; omega)
      have ff : ∀ j, w1.frozen? ⟨w.heap.size, j, none⟩ = false := own_frozen HO1.out
      go_wp2
      obtain ⟨ys, hy, hyt⟩ := putG_next (t := l[k]'hlt) HO1.out HE.out hlt
      refine ⟨⟨k + 1, by omega, by go_num, ⟨ys, hy, ?_⟩, ((((HB1.out.setCell (Nat.le_refl _) _).setCell (Nat.le_refl _) _).setCell (Nat.le_refl _) _).setCell (Nat.le_refl _) _).setCell (Nat.le_refl _) _⟩, by simp [RowKit.intOf]; omega⟩
      rw [hyt, takeG l k hlt, cellsG_append]; simp [cellsG]
    · have HF : Hid (wr.ownsRow w.heap.size 33 5 (.slice (some ⟨w.heap.size, 0, none⟩) l.length l.length) l.length (cellsG l)) := by
        obtain ⟨xs, hox, htx⟩ := HX.out
        have hkl : k = l.length := by omega
        rw [hkl, List.take_length, List.take_of_length_le (by rw [hox.1]; exact Nat.le_refl _)] at htx
        rw [htx] at hox
        exact hox
      clear HX
      go_wp2
      go_ret
      exact ⟨_, rfl, HF.out, HB.out⟩
end Go.Proofs.Ytgfienijabkpjaa
