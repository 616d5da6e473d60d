/-
  Global, a struct of 5 cells, and slices of it: what the laws' eqGlobal, eqGlobalS, toGlobal, toGlobalS, szGlobal and szGlobalS answer; nothing that was there is turned.
-/
import Derived.Test.YtlamkbggfbancaaDoorVluBase
namespace Go.Proofs.YtlamkbggfbancaaDoor
open Go.RowKit Go.Extern.Stop Go.Stop Go.Extern Num Go.Lib

structure Glb where
  name : ByteArray
  value : Vlu
  ver : Int
/-- How many bytes its names have. -/
def Glb.big (t : Glb) : Nat := t.name.size + t.value.name.size
/-- Names that a machine can hold. -/
def Glb.able (t : Glb) : Prop := t.name.size ≤ 9223372036854775807 ∧ t.value.name.size ≤ 9223372036854775807
abbrev Glb.val (t : Glb) : Value := .agg #[.string t.name, .int .i64 t.value.kind, .int .i64 t.value.num, .string t.value.name, .int .i64 t.ver]
def Glb.cells (t : Glb) : List Value := [.string t.name, .int .i64 t.value.kind, .int .i64 t.value.num, .string t.value.name, .int .i64 t.ver]
def cellsG : List Glb → List Value
  | [] => []
  | t :: r => t.cells ++ cellsG r
theorem cellsG_append (a b : List Glb) : cellsG (a ++ b) = cellsG a ++ cellsG b := by
  induction a with
  | nil => rfl
  | cons t r ih => simp [cellsG, ih]
theorem cellsG_length (l : List Glb) : (cellsG l).length = l.length * 5 := by
  induction l with
  | nil => rfl
  | cons t r ih => simp [cellsG, Glb.cells, ih]; omega
theorem cellsG_one (l : List Glb) : ∀ u ∈ cellsG l, u.oneCell' = true := by
  induction l with
  | nil => intro u h; cases h
  | cons t r ih =>
    intro u h
    simp only [cellsG, Glb.cells, List.mem_append, List.mem_cons, List.not_mem_nil, or_false] at h
    rcases h with (rfl | rfl | rfl | rfl | rfl) | h
    · rfl
    · rfl
    · rfl
    · rfl
    · rfl
    · exact ih u h
theorem cellsG_at (l : List Glb) (k : Nat) (h : k < l.length) : (cellsG l)[k * 5]? = some (.string l[k].name) ∧ (cellsG l)[k * 5 + 1]? = some (.int .i64 l[k].value.kind) ∧ (cellsG l)[k * 5 + 2]? = some (.int .i64 l[k].value.num) ∧ (cellsG l)[k * 5 + 3]? = some (.string l[k].value.name) ∧ (cellsG l)[k * 5 + 4]? = some (.int .i64 l[k].ver) := by
  induction l generalizing k with
  | nil => cases h
  | cons t r ih =>
    cases k with
    | zero => exact ⟨rfl, rfl, rfl, rfl, rfl⟩
    | succ k =>
      have hk : k < r.length := by simpa using h
      have := ih k hk
      have e : ∀ j, (cellsG (t :: r))[j + 5]? = (cellsG r)[j]? := fun j => by
        show (t.cells ++ cellsG r)[j + 5]? = _
        rw [List.getElem?_append_right (by simp [Glb.cells])]
        simp [Glb.cells]
      have e1 : (k + 1) * 5 = k * 5 + 5 := by omega
      rw [e1, show k * 5 + 5 + 1 = k * 5 + 1 + 5 by omega, show k * 5 + 5 + 2 = k * 5 + 2 + 5 by omega, show k * 5 + 5 + 3 = k * 5 + 3 + 5 by omega, show k * 5 + 5 + 4 = k * 5 + 4 + 5 by omega, e, e, e, e, e]
      simpa using this
theorem takeG (l : List Glb) (k : Nat) (h : k < l.length) : l.take (k + 1) = l.take k ++ [l[k]] := by
  rw [List.take_add_one, List.getElem?_eq_getElem h]; rfl
theorem infoG : (Tryd.prog.info? 69).map (fun i => (i.zero, i.size, i.bytes)) = some (some (.agg #[.string ⟨#[]⟩, .int .i64 0, .int .i64 0, .string ⟨#[]⟩, .int .i64 0]), 5, 56) := by kernel_rfl
theorem rowG_at {w : World} {base g cap : Nat} {l : List Glb} (h : w.ownsRow base 69 5 (.slice (some ⟨g, 0, none⟩) l.length cap) l.length (cellsG l)) (k : Nat) (hk : k < l.length) :
    w.cell? ⟨g, k * 5, none⟩ = some (.string l[k].name) ∧ w.cell? ⟨g, k * 5 + 1, none⟩ = some (.int .i64 l[k].value.kind) ∧ w.cell? ⟨g, k * 5 + 2, none⟩ = some (.int .i64 l[k].value.num) ∧ w.cell? ⟨g, k * 5 + 3, none⟩ = some (.string l[k].value.name) ∧ w.cell? ⟨g, k * 5 + 4, none⟩ = some (.int .i64 l[k].ver) := by
  have ha : ∀ j, (⟨g, 0, none⟩ : Addr).add j = ⟨g, j, none⟩ := fun j => by unfold Addr.add; split <;> simp_all
  have hc := h.cells (g := g) rfl
  obtain ⟨h0, h1, h2, h3, h4⟩ := cellsG_at l k hk
  exact ⟨by rw [← ha]; exact hc _ _ h0, by rw [← ha]; exact hc _ _ h1, by rw [← ha]; exact hc _ _ h2, by rw [← ha]; exact hc _ _ h3, by rw [← ha]; exact hc _ _ h4⟩
theorem eqG_same (t : Glb) (w : World) :
    Calls Tryd.prog 59 #[t.val, t.val] w fun e w' => e = .returned (.bool true) ∧ Below w.heap.size w w' := by
  have H1 : Hid (∀ w, Calls Tryd.prog 39 #[t.value.val, t.value.val] w fun e w' => e = .returned (.bool true) ∧ Below w.heap.size w w') := fun w => eqV_same _ w
  go_enter Tryd.func59, Tryd.ntmps59
  go_wp2_with fail
  refine (H1.out _).mono ?_
  rintro e w1 ⟨rfl, hb1⟩
  obtain ⟨hc1, hf1⟩ := bcell hb1
  go_wp2
  go_ret
  exact ⟨rfl, Below.trans (by repeat (first | exact Below.refl _ _ | refine Below.setCell ?_ (by simp) _ | refine Below.alloc ?_ (by simp <;> omega) _ | refine Below.drew ?_)) (hb1.mono (by simp <;> omega))⟩
theorem eqGS_nil (ao bo : Option Addr) (ca cb : Nat) (w : World) :
    Calls Tryd.prog 29 #[.slice ao 0 ca, .slice bo 0 cb] w fun e w' => e = .returned (.bool true) ∧ Below w.heap.size w w' := by
  go_enter Tryd.func29, Tryd.ntmps29
  go_wp2_with fail
  go_loop [5] (fun i => i = .int .i64 0) (fun _ => 0)
  case atStart => rfl
  case round =>
    obtain rfl := hrel
    go_wp2
    go_ret
    exact ⟨rfl, Below.refl _ _⟩
set_option maxRecDepth 100000 in
set_option maxHeartbeats 1000000 in
theorem eqGS_some (g1 g2 c1 c2 b1 b2 : Nat) (l : List Glb) (w : World) (hl : l.length ≤ 1048576) (h1 : w.ownsRow b1 69 5 (.slice (some ⟨g1, 0, none⟩) l.length c1) l.length (cellsG l)) (h2 : w.ownsRow b2 69 5 (.slice (some ⟨g2, 0, none⟩) l.length c2) l.length (cellsG l)) :
    Calls Tryd.prog 29 #[.slice (some ⟨g1, 0, none⟩) l.length c1, .slice (some ⟨g2, 0, none⟩) l.length c2] w fun e w' => e = .returned (.bool true) ∧ Below w.heap.size w w' := by
  have H1 : Hid _ := fun k hk => rowG_at h1 k hk
  have H2 : Hid _ := fun k hk => rowG_at h2 k hk
  clear h1 h2
  go_enter Tryd.func29, Tryd.ntmps29
  go_wp2_with fail
  go_loopw [5] (fun i wr => ∃ k : Nat, k ≤ l.length ∧ i = .int .i64 (k : Int) ∧ Below w.heap.size w wr) (fun i _ => l.length - (RowKit.intOf i).toNat)
  case atStart => exact ⟨0, Nat.zero_le _, rfl, Below.refl _ _⟩
  case round =>
    obtain ⟨k, hk, rfl, hb⟩ := hrel
    have HB : Hid (Below w.heap.size w wr) := hb
    clear hb
    by_cases hlt : k < l.length
    · have HT : Hid (∀ w, Calls Tryd.prog 59 #[(l[k]'hlt).val, (l[k]'hlt).val] w fun e w' => e = .returned (.bool true) ∧ Below w.heap.size w w') := fun w => eqG_same _ w
      have a0 : ∀ p : BW wr, p.x.cell? ⟨g1, k * 5, none⟩ = some (.string (l[k]'hlt).name) := fun p => p.cell (cell_keep HB.out (H1.out k hlt).1)
      have a1 : ∀ p : BW wr, p.x.cell? ⟨g1, k * 5 + 1, none⟩ = some (.int .i64 (l[k]'hlt).value.kind) := fun p => p.cell (cell_keep HB.out (H1.out k hlt).2.1)
      have a2 : ∀ p : BW wr, p.x.cell? ⟨g1, k * 5 + 2, none⟩ = some (.int .i64 (l[k]'hlt).value.num) := fun p => p.cell (cell_keep HB.out (H1.out k hlt).2.2.1)
      have a3 : ∀ p : BW wr, p.x.cell? ⟨g1, k * 5 + 3, none⟩ = some (.string (l[k]'hlt).value.name) := fun p => p.cell (cell_keep HB.out (H1.out k hlt).2.2.2.1)
      have a4 : ∀ p : BW wr, p.x.cell? ⟨g1, k * 5 + 4, none⟩ = some (.int .i64 (l[k]'hlt).ver) := fun p => p.cell (cell_keep HB.out (H1.out k hlt).2.2.2.2)
      have d0 : ∀ p : BW wr, p.x.cell? ⟨g2, k * 5, none⟩ = some (.string (l[k]'hlt).name) := fun p => p.cell (cell_keep HB.out (H2.out k hlt).1)
      have d1 : ∀ p : BW wr, p.x.cell? ⟨g2, k * 5 + 1, none⟩ = some (.int .i64 (l[k]'hlt).value.kind) := fun p => p.cell (cell_keep HB.out (H2.out k hlt).2.1)
      have d2 : ∀ p : BW wr, p.x.cell? ⟨g2, k * 5 + 2, none⟩ = some (.int .i64 (l[k]'hlt).value.num) := fun p => p.cell (cell_keep HB.out (H2.out k hlt).2.2.1)
      have d3 : ∀ p : BW wr, p.x.cell? ⟨g2, k * 5 + 3, none⟩ = some (.string (l[k]'hlt).value.name) := fun p => p.cell (cell_keep HB.out (H2.out k hlt).2.2.2.1)
      have d4 : ∀ p : BW wr, p.x.cell? ⟨g2, k * 5 + 4, none⟩ = some (.int .i64 (l[k]'hlt).ver) := fun p => p.cell (cell_keep HB.out (H2.out k hlt).2.2.2.2)
      have hne := bw_some wr
      go_wp2_with fail
      refine wp_region_below (by kernel_rfl) (by kernel_rfl) ?_
      repeat (go_big_quiet_step ((go_at_call 59; exact calls_bw (HT.out _))))
      refine wpQuiet_nil ?_
      intro wq hw'
      obtain ⟨⟨_, bq⟩, rfl⟩ := hw'
      have HB2 : Hid _ := HB.out.trans (bq.mono HB.out.size)
      clear bq a0 a1 a2 a3 a4 d0 d1 d2 d3 d4 hne
      go_wp2
      exact ⟨⟨k + 1, by omega, by go_num, HB2.out⟩, by simp [RowKit.intOf]; omega⟩
    · go_wp2
      go_ret
      exact ⟨rfl, HB.out⟩
theorem eqGS_same (a b : Value) (b1 b2 : Nat) (l : List Glb) (w : World) (hl : l.length ≤ 1048576) (h1 : w.ownsRow b1 69 5 a l.length (cellsG l)) (h2 : w.ownsRow b2 69 5 b l.length (cellsG l)) :
    Calls Tryd.prog 29 #[a, b] w fun e w' => e = .returned (.bool true) ∧ Below w.heap.size w w' := by
  cases l with
  | nil =>
    obtain ⟨ao, ca, rfl⟩ := own_form h1
    obtain ⟨bo, cb, rfl⟩ := own_form h2
    exact eqGS_nil ao bo ca cb w
  | cons t r =>
    obtain ⟨g1, c1, rfl, _, _⟩ := h1.form (by simp)
    obtain ⟨g2, c2, rfl, _, _⟩ := h2.form (by simp)
    exact eqGS_some g1 g2 c1 c2 b1 b2 (t :: r) w hl h1 h2

/-- What lies where a slice leads that came in. -/
def MemG (w : World) (a : Option Addr) (l : List Glb) : Prop :=
  0 < l.length → ∃ b off, a = some ⟨b, off, none⟩ ∧ ∀ (k : Nat) (h : k < l.length), w.cell? ⟨b, off + k * 5, none⟩ = some (.string l[k].name) ∧ w.cell? ⟨b, off + k * 5 + 1, none⟩ = some (.int .i64 l[k].value.kind) ∧ w.cell? ⟨b, off + k * 5 + 2, none⟩ = some (.int .i64 l[k].value.num) ∧ w.cell? ⟨b, off + k * 5 + 3, none⟩ = some (.string l[k].value.name) ∧ w.cell? ⟨b, off + k * 5 + 4, none⟩ = some (.int .i64 l[k].ver)
theorem MemG.below {w w' : World} {a : Option Addr} {l : List Glb} (h : MemG w a l) (hb : Below w.heap.size w w') : MemG w' a l := by
  intro hl
  obtain ⟨b, off, e, hc⟩ := h hl
  exact ⟨b, off, e, fun k hk => ⟨cell_keep hb (hc k hk).1, cell_keep hb (hc k hk).2.1, cell_keep hb (hc k hk).2.2.1, cell_keep hb (hc k hk).2.2.2.1, cell_keep hb (hc k hk).2.2.2.2⟩⟩
/-- How much a slice holds. -/
def SZG (l : List Glb) (w : World) (e : Ending) (w' : World) : Prop :=
  ((e = .returned (.int .i64 (-1))) ∨ (∃ q : Nat, q ≤ 1048576 ∧ e = .returned (.int .i64 (q : Int)) ∧ l.length ≤ 1048576 ∧ ∀ (k : Nat) (h : k < l.length), l[k].big ≤ 1048576)) ∧ Below w.heap.size w w'
theorem makeG (n : Nat) (hn : n ≤ 1048576) (w : World) : (Instr.makeSlice 37 (.int .i64 (n : Int)) (.int .i64 (n : Int))).run Tryd.prog w = .ok (.slice (some ⟨w.heap.size, 0, none⟩) n n) (w.alloc (.cells (madeCells #[.string ⟨#[]⟩, .int .i64 0, .int .i64 0, .string ⟨#[]⟩, .int .i64 0] (n * 5)) 69)) := by
  obtain ⟨i0, hi, hz0, hz1, hz2⟩ := info_parts infoG
  have := run_make (P := Tryd.prog) w 37 69 i0 _ Tryd.underlying37 hi hz0 .i64 .i64 (n : Int) (n : Int) (by omega) (by omega) (by rw [hz2]; omega) (by omega)
  rw [this, hz1]
  simp [Value.cells]
theorem madeG (n : Nat) (hn : n ≤ 1048576) (w : World) : (w.alloc (.cells (madeCells #[.string ⟨#[]⟩, .int .i64 0, .int .i64 0, .string ⟨#[]⟩, .int .i64 0] (n * 5)) 69)).ownsRow w.heap.size 69 5 (.slice (some ⟨w.heap.size, 0, none⟩) n n) n (madeCells #[.string ⟨#[]⟩, .int .i64 0, .int .i64 0, .string ⟨#[]⟩, .int .i64 0] (n * 5)).toList :=
  ⟨by simp [madeCells], .inr ⟨w.heap.size, n, _, rfl, Nat.le_refl _, heap_alloc_new w _, Nat.le_refl _, by unfold maxLen; omega, by simp [madeCells], by rw [List.take_of_length_le]; simp [madeCells]⟩⟩
theorem putG (xs A : List Value) (k : Nat) (a b c d e : Value) (h : xs.take (k * 5) = A) (hl : k * 5 + 5 ≤ xs.length) : (((((xs.set (k * 5) a).set (k * 5 + 1) b).set (k * 5 + 2) c).set (k * 5 + 3) d).set (k * 5 + 4) e).take ((k + 1) * 5) = A ++ [a, b, c, d, e] := by
  have e : xs = xs.take (k * 5) ++ (xs[k * 5]'(by omega) :: xs[k * 5 + 1]'(by omega) :: xs[k * 5 + 2]'(by omega) :: xs[k * 5 + 3]'(by omega) :: xs[k * 5 + 4]'(by omega) :: xs.drop (k * 5 + 5)) := by
    rw [← List.drop_eq_getElem_cons, ← List.drop_eq_getElem_cons, ← List.drop_eq_getElem_cons, ← List.drop_eq_getElem_cons, ← List.drop_eq_getElem_cons, List.take_append_drop]
  have hA : A.length = k * 5 := by rw [← h]; simp; omega
  rw [h] at e
  generalize xs[k * 5]'(by omega) = x0 at e
  generalize xs[k * 5 + 1]'(by omega) = x1 at e
  generalize xs[k * 5 + 2]'(by omega) = x2 at e
  generalize xs[k * 5 + 3]'(by omega) = x3 at e
  generalize xs[k * 5 + 4]'(by omega) = x4 at e
  generalize xs.drop (k * 5 + 5) = r at e
  clear h
  subst e
  rw [List.set_append_right _ _ (by omega), List.set_append_right _ _ (by omega), List.set_append_right _ _ (by omega), List.set_append_right _ _ (by omega), List.set_append_right _ _ (by omega), hA, show k * 5 - k * 5 = 0 by omega, show k * 5 + 1 - k * 5 = 1 by omega, show k * 5 + 2 - k * 5 = 2 by omega, show k * 5 + 3 - k * 5 = 3 by omega, show k * 5 + 4 - k * 5 = 4 by omega]
  rw [show (k + 1) * 5 = A.length + 5 by omega, List.take_append, List.take_of_length_le (by omega), show A.length + 5 - A.length = 5 by omega]
  rfl
/-- One stored into its place. -/
theorem putG_next {wr : World} {base g n k : Nat} {xs A : List Value} {t : Glb} (ho : wr.ownsRow base 69 5 (.slice (some ⟨g, 0, none⟩) n n) n xs) (hA : xs.take (k * 5) = A) (hk : k < n) :
    ∃ ys, (((((wr.setCell ⟨g, k * 5, none⟩ (.string t.name)).setCell ⟨g, k * 5 + 1, none⟩ (.int .i64 t.value.kind)).setCell ⟨g, k * 5 + 2, none⟩ (.int .i64 t.value.num)).setCell ⟨g, k * 5 + 3, none⟩ (.string t.value.name)).setCell ⟨g, k * 5 + 4, none⟩ (.int .i64 t.ver)).ownsRow base 69 5 (.slice (some ⟨g, 0, none⟩) n n) n ys ∧ ys.take ((k + 1) * 5) = A ++ t.cells :=
  ⟨_, own_put (own_put (own_put (own_put (own_put ho _ _) _ _) _ _) _ _) _ _, putG xs A k _ _ _ _ _ hA (by have := ho.1; omega)⟩
end Go.Proofs.YtlamkbggfbancaaDoor
