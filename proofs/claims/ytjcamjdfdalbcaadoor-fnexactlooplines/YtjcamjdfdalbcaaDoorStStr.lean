/-
  Slices of texts: what the laws' eqStringS, toStringS and szStringS answer; nothing that was there is turned.
-/
import Derived.Test.YtjcamjdfdalbcaaDoorRowKit0
namespace Go.Proofs.YtjcamjdfdalbcaaDoor
open Go.RowKit Go.Extern.Stop Go.Stop Go.Extern Num Go.Lib

def cellsT (l : List ByteArray) : List Value := l.map (Value.string)
theorem cellsT_length (l : List ByteArray) : (cellsT l).length = l.length := by simp [cellsT]
theorem cellsT_append (a b : List ByteArray) : cellsT (a ++ b) = cellsT a ++ cellsT b := by simp [cellsT]
theorem infoT : (Tryd.prog.info? 9).map (fun i => (i.zero, i.size, i.bytes)) = some (some (.string ⟨#[]⟩), 1, 16) := by kernel_rfl
theorem rowT_at {w : World} {base g cap : Nat} {l : List ByteArray} (h : w.ownsRow base 9 1 (.slice (some ⟨g, 0, none⟩) l.length cap) l.length (cellsT l)) (k : Nat) (hk : k < l.length) :
    w.cell? ⟨g, k, none⟩ = some (.string l[k]) := by
  have ha : ∀ j, (⟨g, 0, none⟩ : Addr).add j = ⟨g, j, none⟩ := fun j => by unfold Addr.add; split <;> simp_all
  rw [← ha]
  exact h.cells (g := g) rfl k _ (by simp [cellsT, hk])
theorem newsT {W : World} {b : Nat} {x : Value} {ty : TypeId} {fr : Nat × Nat} (h : W.heap[b]? = some (.cells #[x] ty fr)) : ∀ j u, [x][j]? = some u → W.cell? ((⟨b, 0, none⟩ : Addr).add j) = some u := by
  intro j u hj
  have ha : ∀ j, (⟨b, 0, none⟩ : Addr).add j = ⟨b, j, none⟩ := fun j => by unfold Addr.add; split <;> simp_all
  rw [ha, cell_of_row W b j _ ty fr h]
  match j, hj with
  | 0, hj => simpa using hj
theorem eqTS_nil (ao bo : Option Addr) (ca cb : Nat) (w : World) :
    Calls Tryd.prog 16 #[.slice ao 0 ca, .slice bo 0 cb] w fun e w' => e = .returned (.bool true) ∧ Below w.heap.size w w' := by
  go_enter Tryd.func16, Tryd.ntmps16
  go_wp2_with fail
  go_loop [5] (fun i => i = .int .i64 0) (fun _ => 0)
  case atStart => rfl
  case round =>
    obtain rfl := hrel
    go_wp2
    go_ret
    exact ⟨rfl, Below.refl _ _⟩
set_option maxRecDepth 100000 in
set_option maxHeartbeats 1000000 in
theorem eqTS_some (g1 g2 c1 c2 b1 b2 : Nat) (l : List ByteArray) (w : World) (hl : l.length ≤ 1048576) (h1 : w.ownsRow b1 9 1 (.slice (some ⟨g1, 0, none⟩) l.length c1) l.length (cellsT l)) (h2 : w.ownsRow b2 9 1 (.slice (some ⟨g2, 0, none⟩) l.length c2) l.length (cellsT l)) :
    Calls Tryd.prog 16 #[.slice (some ⟨g1, 0, none⟩) l.length c1, .slice (some ⟨g2, 0, none⟩) l.length c2] w fun e w' => e = .returned (.bool true) ∧ Below w.heap.size w w' := by
  have H1 : Hid _ := fun k hk => rowT_at h1 k hk
  have H2 : Hid _ := fun k hk => rowT_at h2 k hk
  clear h1 h2
  go_enter Tryd.func16, Tryd.ntmps16
  go_wp2_with fail
  go_loopw [5] (fun i wr => ∃ k : Nat, k ≤ l.length ∧ i = .int .i64 (k : Int) ∧ Below w.heap.size w wr) (fun i _ => l.length - (RowKit.intOf i).toNat)
  case atStart => exact ⟨0, Nat.zero_le _, rfl, Below.refl _ _⟩
  case round =>
    obtain ⟨k, hk, rfl, hb⟩ := hrel
    have HB : Hid (Below w.heap.size w wr) := hb
    clear hb
    by_cases hlt : k < l.length
    · have a0 : ∀ p : BW wr, p.x.cell? ⟨g1, k, none⟩ = some (.string (l[k]'hlt)) := fun p => p.cell (cell_keep HB.out (H1.out k hlt))
      have d0 : ∀ p : BW wr, p.x.cell? ⟨g2, k, none⟩ = some (.string (l[k]'hlt)) := fun p => p.cell (cell_keep HB.out (H2.out k hlt))
      have hne := bw_some wr
      go_wp2_with fail
      refine wp_region_below (by kernel_rfl) (by kernel_rfl) ?_
      repeat (go_big_quiet_step (fail))
      refine wpQuiet_nil ?_
      intro wq hw'
      obtain ⟨⟨_, bq⟩, rfl⟩ := hw'
      have HB2 : Hid _ := HB.out.trans (bq.mono HB.out.size)
      clear bq a0 d0 hne
      go_wp2
      exact ⟨⟨k + 1, by omega, by go_num, HB2.out⟩, by simp [RowKit.intOf]; omega⟩
    · go_wp2
      go_ret
      exact ⟨rfl, HB.out⟩
theorem eqTS_same (a b : Value) (b1 b2 : Nat) (l : List ByteArray) (w : World) (hl : l.length ≤ 1048576) (h1 : w.ownsRow b1 9 1 a l.length (cellsT l)) (h2 : w.ownsRow b2 9 1 b l.length (cellsT l)) :
    Calls Tryd.prog 16 #[a, b] w fun e w' => e = .returned (.bool true) ∧ Below w.heap.size w w' := by
  cases l with
  | nil =>
    obtain ⟨ao, ca, rfl⟩ := own_form h1
    obtain ⟨bo, cb, rfl⟩ := own_form h2
    exact eqTS_nil ao bo ca cb w
  | cons t r =>
    obtain ⟨g1, c1, rfl, _, _⟩ := h1.form (by simp)
    obtain ⟨g2, c2, rfl, _, _⟩ := h2.form (by simp)
    exact eqTS_some g1 g2 c1 c2 b1 b2 (t :: r) w hl h1 h2
/-- What lies where a slice leads that came in. -/
def MemT (w : World) (a : Option Addr) (l : List ByteArray) : Prop :=
  0 < l.length → ∃ b off, a = some ⟨b, off, none⟩ ∧ ∀ (k : Nat) (h : k < l.length), w.cell? ⟨b, off + k, none⟩ = some (.string l[k])
theorem MemT.below {w w' : World} {a : Option Addr} {l : List ByteArray} (h : MemT w a l) (hb : Below w.heap.size w w') : MemT w' a l := by
  intro hl
  obtain ⟨b, off, e, hc⟩ := h hl
  exact ⟨b, off, e, fun k hk => cell_keep hb (hc k hk)⟩
theorem MemT.of {w : World} {base g cap : Nat} {l : List ByteArray} (h : w.ownsRow base 9 1 (.slice (some ⟨g, 0, none⟩) l.length cap) l.length (cellsT l)) : MemT w (some ⟨g, 0, none⟩) l :=
  fun _ => ⟨g, 0, rfl, fun k hk => by rw [Nat.zero_add]; exact rowT_at h k hk⟩
/-- How much a slice holds. -/
def SZT (l : List ByteArray) (w : World) (e : Ending) (w' : World) : Prop :=
  ((e = .returned (.int .i64 (-1))) ∨ (∃ q : Nat, q ≤ 1048576 ∧ e = .returned (.int .i64 (q : Int)) ∧ l.length ≤ 1048576 ∧ ∀ (k : Nat) (h : k < l.length), l[k].size ≤ 1048576)) ∧ Below w.heap.size w w'
theorem takeT (l : List ByteArray) (k : Nat) (h : k < l.length) : l.take (k + 1) = l.take k ++ [l[k]] := by
  rw [List.take_add_one, List.getElem?_eq_getElem h]; rfl
theorem makeT (n : Nat) (hn : n ≤ 1048576) (w : World) : (Instr.makeSlice 22 (.int .i64 (n : Int)) (.int .i64 (n : Int))).run Tryd.prog w = .ok (.slice (some ⟨w.heap.size, 0, none⟩) n n) (w.alloc (.cells (madeCells #[.string ⟨#[]⟩] n) 9)) := by
  obtain ⟨i0, hi, hz0, hz1, hz2⟩ := info_parts infoT
  have := run_make (P := Tryd.prog) w 22 9 i0 _ Tryd.underlying22 hi hz0 .i64 .i64 (n : Int) (n : Int) (by omega) (by omega) (by rw [hz2]; omega) (by omega)
  rw [this, hz1]
  simp [Value.cells]
theorem madeT (n : Nat) (hn : n ≤ 1048576) (w : World) : (w.alloc (.cells (madeCells #[.string ⟨#[]⟩] n) 9)).ownsRow w.heap.size 9 1 (.slice (some ⟨w.heap.size, 0, none⟩) n n) n (madeCells #[.string ⟨#[]⟩] n).toList :=
  ⟨by simp [madeCells], .inr ⟨w.heap.size, n, _, rfl, Nat.le_refl _, heap_alloc_new w _, Nat.le_refl _, by unfold maxLen; omega, by simp [madeCells], by rw [List.take_of_length_le]; simp [madeCells]⟩⟩
theorem putT (xs A : List Value) (k : Nat) (a : Value) (h : xs.take k = A) (hl : k + 1 ≤ xs.length) : (xs.set k a).take (k + 1) = A ++ [a] := by
  rw [List.take_add_one, List.getElem?_set_self (by omega), ← h, List.take_set_of_le (Nat.le_refl _)]
  rfl
/-- One stored into its place. -/
theorem putT_next {wr : World} {base g n k : Nat} {xs A : List Value} {t : ByteArray} (ho : wr.ownsRow base 9 1 (.slice (some ⟨g, 0, none⟩) n n) n xs) (hA : xs.take k = A) (hk : k < n) :
    ∃ ys, (wr.setCell ⟨g, k, none⟩ (.string t)).ownsRow base 9 1 (.slice (some ⟨g, 0, none⟩) n n) n ys ∧ ys.take (k + 1) = A ++ [.string t] :=
  ⟨_, own_put ho _ _, putT xs A k _ hA (by have := ho.1; omega)⟩
end Go.Proofs.YtjcamjdfdalbcaaDoor
