/-
  Parts of the proof laid into one text, one behind the other; each says at its head what is proved in it.
-/
import Derived.Deep.QuietTactic
import Derived.BigQuiet
import Derived.Below
import Derived.WalkKit
import Derived.Test.YtfdkklhigliciaaGreatDoorXaA
import Derived.OwnWalk
import Derived.Deep.AppendLies
import Derived.Laws.MakeOwn
import Derived.Deep.CutRange
/-
  A region that draws its order, whose own operations only read, and whose callees turn nothing that was there, walked once, in the order of the text: a class of worlds for the library's theorem; no program in it.
-/
namespace Go.Proofs.YtfdkklhigliciaaGreatDoor
open Go.RowKit

/-- A world in which all that lay in W lies as it lay. -/
structure BW (W : World) where
  x : World
  h : Below W.heap.size W x
theorem wp_region_below {P : Program} {id : Nat} {Q : Exit → Act → World → Prop} {a : Act} {w : World} {l : List Oper} (hm : P.follows .mixedOrders = true) (hB : Region.lexB .any l.toArray = true)
    (h : wpQuiet P l.toArray (fun w' => ∃ p : BW w, w' = p.x) (fun a' => ∀ w', (∃ p : BW w, w' = p.x) → Q .normal a' w') l a) : (Code.region id l.toArray true).wp P Q a w :=
  wp_region_quiet (C := fun w' => ∃ p : BW w, w' = p.x) hm hB ⟨⟨w.drew, (Below.refl _ _).drew⟩, rfl⟩ (by simpa using h)
theorem bw_some (W : World) : Nonempty (BW W) := ⟨⟨W, Below.refl _ _⟩⟩
/-- A callee's contract, met in a world of the class. -/
theorem calls_bw {P : Program} {f : FuncId} {args : Array Value} {W : World} {p : BW W} {v : Value}
    (h : Calls P f args p.x fun e w' => e = .returned v ∧ Below p.x.heap.size p.x w') : Calls P f args p.x fun e w'' => e = .returned v ∧ ∃ p' : BW W, w'' = p'.x :=
  h.mono fun _ w' ⟨he, hb⟩ => ⟨he, ⟨w', p.h.trans (hb.mono p.h.size)⟩, rfl⟩
theorem cell_keep {W w' : World} {a : Addr} {v : Value} (hb : Below W.heap.size W w') (h : W.cell? a = some v) : w'.cell? a = some v := by
  have hlt : a.block < W.heap.size := by
    rcases Nat.lt_or_ge a.block W.heap.size with h' | h'
    · exact h'
    · simp [World.cell?, Array.getElem?_eq_none h'] at h
  rw [hb.cell hlt]; exact h
theorem cell_laid {W : World} {a : Addr} {v : Value} (o : Obj) (h : W.cell? a = some v) : (W.alloc o).cell? a = some v :=
  cell_keep ((Below.refl _ _).alloc (Nat.le_refl _) _) h
theorem BW.cell {W : World} (p : BW W) {a : Addr} {v : Value} (h : W.cell? a = some v) : p.x.cell? a = some v := cell_keep p.h h
end Go.Proofs.YtfdkklhigliciaaGreatDoor
/-
  Rows of cells that a slice owns: laws of no one struct (what a store, another block, a callee leave of them).
-/
namespace Go.Proofs.YtfdkklhigliciaaGreatDoor
open Go.RowKit Go.Extern.Stop Go.Stop Go.Extern Num Go.Lib

theorem own_below {w w' : World} {base : Nat} {e : TypeId} {size : Nat} {v : Value} {n : Nat} {xs : List Value} (h : w.ownsRow base e size v n xs) (hb : Below w.heap.size w w') : w'.ownsRow base e size v n xs := by
  refine ⟨h.1, ?_⟩
  rcases h.2 with hn | ⟨g, cap, cur, rfl, hbg, hgg, rest⟩
  · exact .inl hn
  · refine .inr ⟨g, cap, cur, rfl, hbg, ?_, rest⟩
    rw [hb.block g (Array.getElem?_eq_some_iff.1 hgg).1]; exact hgg
theorem heap_new' (w : World) (o : Obj) (n : Nat) (h : w.heap.size = n) : (w.alloc o).heap[n]? = some o := by subst h; exact heap_alloc_new w o
theorem own_set {w : World} {base : Nat} {e : TypeId} {size g n cap : Nat} {xs : List Value} (h : w.ownsRow base e size (.slice (some ⟨g, 0, none⟩) n cap) n xs) {p : Addr} (hp : g ≠ p.block) (u : Value) : (w.setCell p u).ownsRow base e size (.slice (some ⟨g, 0, none⟩) n cap) n xs := by
  refine ⟨h.1, ?_⟩
  rcases h.2 with hn | ⟨g', cap', cur, hv, hbg, hgg, rest⟩
  · exact .inl hn
  · refine .inr ⟨g', cap', cur, hv, hbg, ?_, rest⟩
    have : g' = g := by simp at hv; omega
    subst this
    rw [Below.heap_setCell _ _ _ _ hp]; exact hgg
theorem own_form {w : World} {base : Nat} {e : TypeId} {size n : Nat} {v : Value} {xs : List Value} (h : w.ownsRow base e size v n xs) : ∃ ao cap, v = .slice ao n cap := by
  rcases h.2 with ⟨rfl, rfl⟩ | ⟨g, cap, cur, rfl, _⟩
  · exact ⟨none, 0, rfl⟩
  · exact ⟨_, _, rfl⟩
theorem own_base {w : World} {base base' : Nat} {e : TypeId} {size n : Nat} {v : Value} {xs : List Value} (h : w.ownsRow base e size v n xs) (hb : base' ≤ base) : w.ownsRow base' e size v n xs := by
  refine ⟨h.1, ?_⟩
  rcases h.2 with hn | ⟨g, cap, cur, rfl, hbg, rest⟩
  · exact .inl hn
  · exact .inr ⟨g, cap, cur, rfl, by omega, rest⟩
theorem own_set' {w : World} {base : Nat} {e : TypeId} {size n : Nat} {v : Value} {xs : List Value} (h : w.ownsRow base e size v n xs) {p : Addr} (hp : ∀ g, v.ownBlock = some g → g ≠ p.block) (u : Value) : (w.setCell p u).ownsRow base e size v n xs := by
  refine ⟨h.1, ?_⟩
  rcases h.2 with hn | ⟨g, cap, cur, rfl, hbg, hgg, rest⟩
  · exact .inl hn
  · refine .inr ⟨g, cap, cur, rfl, hbg, ?_, rest⟩
    rw [Below.heap_setCell _ _ _ _ (hp g rfl)]; exact hgg
theorem own_set_low {w : World} {base b : Nat} {e : TypeId} {size n : Nat} {v : Value} {xs : List Value} (h : w.ownsRow base e size v n xs) (hb : b < base) {o : Nat} (u : Value) : (w.setCell ⟨b, o, none⟩ u).ownsRow base e size v n xs :=
  own_set' h (fun g hg => by have := (h.lt g hg).1; show g ≠ b; omega) u
theorem own_put {w : World} {base : Nat} {e : TypeId} {size g n cap : Nat} {xs : List Value} (h : w.ownsRow base e size (.slice (some ⟨g, 0, none⟩) n cap) n xs) (j : Nat) (u : Value) : (w.setCell ⟨g, j, none⟩ u).ownsRow base e size (.slice (some ⟨g, 0, none⟩) n cap) n (xs.set j u) := by
  refine ⟨by rw [List.length_set]; exact h.1, ?_⟩
  rcases h.2 with ⟨hv, _⟩ | ⟨g', cap', cur, hv, hbg, hgg, h1, h2, h3, h4⟩
  · simp at hv
  · obtain ⟨rfl, rfl⟩ : g' = g ∧ cap' = cap := by simp at hv; exact ⟨hv.1.symm, hv.2.symm⟩
    refine .inr ⟨g', cap', _, rfl, hbg, heap_setCell_same w g' j cur e u hgg, h1, h2, ?_, ?_⟩
    · simp [h3]
    · rw [← h4]
      simp [List.take_set]
theorem own_frozen {w : World} {base : Nat} {e : TypeId} {size g n cap : Nat} {xs : List Value} (h : w.ownsRow base e size (.slice (some ⟨g, 0, none⟩) n cap) n xs) (j : Nat) : w.frozen? ⟨g, j, none⟩ = false := by
  rcases h.2 with ⟨hv, _⟩ | ⟨g', cap', cur, hv, hbg, hgg, _⟩
  · simp at hv
  · obtain rfl : g' = g := by simp at hv; exact hv.1.symm
    simp [World.frozen?, hgg]
theorem own_cell {w : World} {base : Nat} {e : TypeId} {size g n cap : Nat} {xs : List Value} (h : w.ownsRow base e size (.slice (some ⟨g, 0, none⟩) n cap) n xs) (j : Nat) (hj : j < xs.length) : ∃ u, w.cell? ⟨g, j, none⟩ = some u := by
  have ha : ∀ j, (⟨g, 0, none⟩ : Addr).add j = ⟨g, j, none⟩ := fun j => by unfold Addr.add; split <;> simp_all
  exact ⟨xs[j], by rw [← ha]; exact h.cells (g := g) rfl j _ (by simp)⟩
theorem gb_below {w a b : World} {r : Option Nat} (h : w.grownBy a r) (hb : Below a.heap.size a b) : w.grownBy b r :=
  ⟨hb.os.trans h.os, hb.tape.trans h.tape, hb.output.trans h.output, Nat.le_trans h.size hb.size, fun k hk hn => (hb.block k (Nat.lt_of_lt_of_le hk h.size)).trans (h.block k hk hn)⟩
theorem gb_set {w a : World} {g j : Nat} (h : w.grownBy a (some g)) (u : Value) : w.grownBy (a.setCell ⟨g, j, none⟩ u) (some g) :=
  ⟨h.os, h.tape, h.output, by simpa using h.size, fun k hk hn => (Below.heap_setCell _ _ _ _ (by intro e; apply hn; rw [e])).trans (h.block k hk hn)⟩
theorem gb_refl (w : World) (r : Option Nat) : w.grownBy w r := ⟨rfl, rfl, rfl, Nat.le_refl _, fun _ _ _ => rfl⟩
/-- A row lies as it lay behind a change of another row. -/
theorem own_apart {w w' : World} {base : Nat} {e : TypeId} {size n : Nat} {v : Value} {xs : List Value} {r : Option Nat} (h : w.ownsRow base e size v n xs) (hg : w.grownBy w' r) (hn : ∀ g, v.ownBlock = some g → r ≠ some g) : w'.ownsRow base e size v n xs :=
  h.kept hg (by
    cases hv : v.ownBlock with
    | none => exact Or.inl rfl
    | some g => exact Or.inr (fun e => hn g hv e.symm))
theorem below_of_grown {w w' : World} {B : Nat} {r : Option Nat} (hg : w.grownBy w' r) (hB : B ≤ w.heap.size) (hr : ∀ k, r = some k → B ≤ k) : Below B w w' := (Below.refl B w).grown hg hB hr
end Go.Proofs.YtfdkklhigliciaaGreatDoor
/-
  Datum, a struct of 4 cells, and slices of it: what the laws' eqDatum, eqDatumS, toDatum, toDatumS, szDatum and szDatumS answer; nothing that was there is turned.
-/
namespace Go.Proofs.YtfdkklhigliciaaGreatDoor
open Go.RowKit Go.Extern.Stop Go.Stop Go.Extern Num Go.Lib

structure Dat where
  kind : Int
  parent : Int
  num : Int
  name : ByteArray
abbrev Dat.val (t : Dat) : Value := .agg #[.int .i64 t.kind, .int .i64 t.parent, .int .i64 t.num, .string t.name]
def Dat.cells (t : Dat) : List Value := [.int .i64 t.kind, .int .i64 t.parent, .int .i64 t.num, .string t.name]
def cellsD : List Dat → List Value
  | [] => []
  | t :: r => t.cells ++ cellsD r
theorem cellsD_append (a b : List Dat) : cellsD (a ++ b) = cellsD a ++ cellsD b := by
  induction a with
  | nil => rfl
  | cons t r ih => simp [cellsD, ih]
theorem cellsD_length (l : List Dat) : (cellsD l).length = l.length * 4 := by
  induction l with
  | nil => rfl
  | cons t r ih => simp [cellsD, Dat.cells, ih]; omega
theorem cellsD_one (l : List Dat) : ∀ u ∈ cellsD l, u.oneCell' = true := by
  induction l with
  | nil => intro u h; cases h
  | cons t r ih =>
    intro u h
    simp only [cellsD, Dat.cells, List.mem_append, List.mem_cons, List.not_mem_nil, or_false] at h
    rcases h with (rfl | rfl | rfl | rfl) | h
    · rfl
    · rfl
    · rfl
    · rfl
    · exact ih u h
theorem cellsD_at (l : List Dat) (k : Nat) (h : k < l.length) : (cellsD l)[k * 4]? = some (.int .i64 l[k].kind) ∧ (cellsD l)[k * 4 + 1]? = some (.int .i64 l[k].parent) ∧ (cellsD l)[k * 4 + 2]? = some (.int .i64 l[k].num) ∧ (cellsD l)[k * 4 + 3]? = some (.string l[k].name) := by
  induction l generalizing k with
  | nil => cases h
  | cons t r ih =>
    cases k with
    | zero => exact ⟨rfl, rfl, rfl, rfl⟩
    | succ k =>
      have hk : k < r.length := by simpa using h
      have := ih k hk
      have e : ∀ j, (cellsD (t :: r))[j + 4]? = (cellsD r)[j]? := fun j => by
        show (t.cells ++ cellsD r)[j + 4]? = _
        rw [List.getElem?_append_right (by simp [Dat.cells])]
        simp [Dat.cells]
      have e1 : (k + 1) * 4 = k * 4 + 4 := by omega
      rw [e1, show k * 4 + 4 + 1 = k * 4 + 1 + 4 by omega, show k * 4 + 4 + 2 = k * 4 + 2 + 4 by omega, show k * 4 + 4 + 3 = k * 4 + 3 + 4 by omega, e, e, e, e]
      simpa using this
theorem takeD (l : List Dat) (k : Nat) (h : k < l.length) : l.take (k + 1) = l.take k ++ [l[k]] := by
  rw [List.take_add_one, List.getElem?_eq_getElem h]; rfl
theorem infoD : (Tryz.prog.info? 49).map (fun i => (i.zero, i.size, i.bytes)) = some (some (.agg #[.int .i64 0, .int .i64 0, .int .i64 0, .string ⟨#[]⟩]), 4, 40) := by kernel_rfl
theorem rowD_at {w : World} {base g cap : Nat} {l : List Dat} (h : w.ownsRow base 49 4 (.slice (some ⟨g, 0, none⟩) l.length cap) l.length (cellsD l)) (k : Nat) (hk : k < l.length) :
    w.cell? ⟨g, k * 4, none⟩ = some (.int .i64 l[k].kind) ∧ w.cell? ⟨g, k * 4 + 1, none⟩ = some (.int .i64 l[k].parent) ∧ w.cell? ⟨g, k * 4 + 2, none⟩ = some (.int .i64 l[k].num) ∧ w.cell? ⟨g, k * 4 + 3, none⟩ = some (.string l[k].name) := by
  have ha : ∀ j, (⟨g, 0, none⟩ : Addr).add j = ⟨g, j, none⟩ := fun j => by unfold Addr.add; split <;> simp_all
  have hc := h.cells (g := g) rfl
  obtain ⟨h0, h1, h2, h3⟩ := cellsD_at l k hk
  exact ⟨by rw [← ha]; exact hc _ _ h0, by rw [← ha]; exact hc _ _ h1, by rw [← ha]; exact hc _ _ h2, by rw [← ha]; exact hc _ _ h3⟩
theorem eqD_same (t : Dat) (w : World) :
    Calls Tryz.prog 26 #[t.val, t.val] w fun e w' => e = .returned (.bool true) ∧ Below w.heap.size w w' := by
  go_enter Tryz.func26, Tryz.ntmps26
  go_wp2
  go_ret
  refine ⟨rfl, ?_⟩
  repeat (first | exact Below.refl _ _ | refine Below.alloc ?_ (by simp <;> omega) _ | refine Below.drew ?_)
theorem eqDS_nil (ao bo : Option Addr) (ca cb : Nat) (w : World) :
    Calls Tryz.prog 10 #[.slice ao 0 ca, .slice bo 0 cb] w fun e w' => e = .returned (.bool true) ∧ Below w.heap.size w w' := by
  go_enter Tryz.func10, Tryz.ntmps10
  go_wp2_with fail
  go_loop [5] (fun i => i = .int .i64 0) (fun _ => 0)
  case atStart => rfl
  case round =>
    obtain rfl := hrel
    go_wp2
    go_ret
    exact ⟨rfl, Below.refl _ _⟩
set_option maxRecDepth 100000 in
set_option maxHeartbeats 1000000 in
theorem eqDS_some (g1 g2 c1 c2 b1 b2 : Nat) (l : List Dat) (w : World) (hl : l.length ≤ 1048576) (h1 : w.ownsRow b1 49 4 (.slice (some ⟨g1, 0, none⟩) l.length c1) l.length (cellsD l)) (h2 : w.ownsRow b2 49 4 (.slice (some ⟨g2, 0, none⟩) l.length c2) l.length (cellsD l)) :
    Calls Tryz.prog 10 #[.slice (some ⟨g1, 0, none⟩) l.length c1, .slice (some ⟨g2, 0, none⟩) l.length c2] w fun e w' => e = .returned (.bool true) ∧ Below w.heap.size w w' := by
  have H1 : Hid _ := fun k hk => rowD_at h1 k hk
  have H2 : Hid _ := fun k hk => rowD_at h2 k hk
  clear h1 h2
  go_enter Tryz.func10, Tryz.ntmps10
  go_wp2_with fail
  go_loopw [5] (fun i wr => ∃ k : Nat, k ≤ l.length ∧ i = .int .i64 (k : Int) ∧ Below w.heap.size w wr) (fun i _ => l.length - (RowKit.intOf i).toNat)
  case atStart => exact ⟨0, Nat.zero_le _, rfl, Below.refl _ _⟩
  case round =>
    obtain ⟨k, hk, rfl, hb⟩ := hrel
    have HB : Hid (Below w.heap.size w wr) := hb
    clear hb
    by_cases hlt : k < l.length
    · have HT : Hid (∀ w, Calls Tryz.prog 26 #[(l[k]'hlt).val, (l[k]'hlt).val] w fun e w' => e = .returned (.bool true) ∧ Below w.heap.size w w') := fun w => eqD_same _ w
      have a0 : ∀ p : BW wr, p.x.cell? ⟨g1, k * 4, none⟩ = some (.int .i64 (l[k]'hlt).kind) := fun p => p.cell (cell_keep HB.out (H1.out k hlt).1)
      have a1 : ∀ p : BW wr, p.x.cell? ⟨g1, k * 4 + 1, none⟩ = some (.int .i64 (l[k]'hlt).parent) := fun p => p.cell (cell_keep HB.out (H1.out k hlt).2.1)
      have a2 : ∀ p : BW wr, p.x.cell? ⟨g1, k * 4 + 2, none⟩ = some (.int .i64 (l[k]'hlt).num) := fun p => p.cell (cell_keep HB.out (H1.out k hlt).2.2.1)
      have a3 : ∀ p : BW wr, p.x.cell? ⟨g1, k * 4 + 3, none⟩ = some (.string (l[k]'hlt).name) := fun p => p.cell (cell_keep HB.out (H1.out k hlt).2.2.2)
      have d0 : ∀ p : BW wr, p.x.cell? ⟨g2, k * 4, none⟩ = some (.int .i64 (l[k]'hlt).kind) := fun p => p.cell (cell_keep HB.out (H2.out k hlt).1)
      have d1 : ∀ p : BW wr, p.x.cell? ⟨g2, k * 4 + 1, none⟩ = some (.int .i64 (l[k]'hlt).parent) := fun p => p.cell (cell_keep HB.out (H2.out k hlt).2.1)
      have d2 : ∀ p : BW wr, p.x.cell? ⟨g2, k * 4 + 2, none⟩ = some (.int .i64 (l[k]'hlt).num) := fun p => p.cell (cell_keep HB.out (H2.out k hlt).2.2.1)
      have d3 : ∀ p : BW wr, p.x.cell? ⟨g2, k * 4 + 3, none⟩ = some (.string (l[k]'hlt).name) := fun p => p.cell (cell_keep HB.out (H2.out k hlt).2.2.2)
      have hne := bw_some wr
      go_wp2_with fail
      refine wp_region_below (by kernel_rfl) (by kernel_rfl) ?_
      repeat (go_big_quiet_step ((go_at_call 26; exact calls_bw (HT.out _))))
      refine wpQuiet_nil ?_
      intro wq hw'
      obtain ⟨⟨_, bq⟩, rfl⟩ := hw'
      have HB2 : Hid _ := HB.out.trans (bq.mono HB.out.size)
      clear bq a0 a1 a2 a3 d0 d1 d2 d3 hne
      go_wp2
      exact ⟨⟨k + 1, by omega, by go_num, HB2.out⟩, by simp [RowKit.intOf]; omega⟩
    · go_wp2
      go_ret
      exact ⟨rfl, HB.out⟩
theorem eqDS_same (a b : Value) (b1 b2 : Nat) (l : List Dat) (w : World) (hl : l.length ≤ 1048576) (h1 : w.ownsRow b1 49 4 a l.length (cellsD l)) (h2 : w.ownsRow b2 49 4 b l.length (cellsD l)) :
    Calls Tryz.prog 10 #[a, b] w fun e w' => e = .returned (.bool true) ∧ Below w.heap.size w w' := by
  cases l with
  | nil =>
    obtain ⟨ao, ca, rfl⟩ := own_form h1
    obtain ⟨bo, cb, rfl⟩ := own_form h2
    exact eqDS_nil ao bo ca cb w
  | cons t r =>
    obtain ⟨g1, c1, rfl, _, _⟩ := h1.form (by simp)
    obtain ⟨g2, c2, rfl, _, _⟩ := h2.form (by simp)
    exact eqDS_some g1 g2 c1 c2 b1 b2 (t :: r) w hl h1 h2

theorem toD_any (t : Dat) (w : World) :
    Calls Tryz.prog 20 #[t.val] w fun e w' => e = .returned t.val ∧ Below w.heap.size w w' := by
  go_enter Tryz.func20, Tryz.ntmps20
  go_wp2
  exact bodyPost_ret (v := t.val) (by simp [results, Tryz.results20, go_sem]) rfl ⟨rfl, by
    repeat (first | exact Below.refl _ _ | refine Below.setCell ?_ (by simp) _ | refine Below.alloc ?_ (by simp <;> omega) _)⟩
theorem szD_far (t : Dat) (n : Nat) (w : World) (hz : t.name.size ≤ 9223372036854775807) (hn : n ≤ 1048576) (h : n < t.name.size) :
    Calls Tryz.prog 17 #[t.val, .int .i64 (n : Int)] w fun e w' => e = .returned (.int .i64 (-1)) ∧ Below w.heap.size w w' := by
  go_enter Tryz.func17, Tryz.ntmps17
  go_wp2
  go_ret
  exact ⟨rfl, by repeat (first | exact Below.refl _ _ | refine Below.setCell ?_ (by simp) _ | refine Below.alloc ?_ (by simp <;> omega) _)⟩
theorem szD_near (t : Dat) (n : Nat) (w : World) (hn : n ≤ 1048576) (h : t.name.size ≤ n) :
    Calls Tryz.prog 17 #[t.val, .int .i64 (n : Int)] w fun e w' => e = .returned (.int .i64 ((n - t.name.size : Nat) : Int)) ∧ Below w.heap.size w w' := by
  have e : ((n - t.name.size : Nat) : Int) = (n : Int) - (t.name.size : Int) := by omega
  rw [e]
  clear e
  go_enter Tryz.func17, Tryz.ntmps17
  go_wp2
  go_ret
  exact ⟨rfl, by repeat (first | exact Below.refl _ _ | refine Below.setCell ?_ (by simp) _ | refine Below.alloc ?_ (by simp <;> omega) _)⟩
/-- What lies where a slice leads that came in. -/
def MemD (w : World) (a : Option Addr) (l : List Dat) : Prop :=
  0 < l.length → ∃ b off, a = some ⟨b, off, none⟩ ∧ ∀ (k : Nat) (h : k < l.length), w.cell? ⟨b, off + k * 4, none⟩ = some (.int .i64 l[k].kind) ∧ w.cell? ⟨b, off + k * 4 + 1, none⟩ = some (.int .i64 l[k].parent) ∧ w.cell? ⟨b, off + k * 4 + 2, none⟩ = some (.int .i64 l[k].num) ∧ w.cell? ⟨b, off + k * 4 + 3, none⟩ = some (.string l[k].name)
theorem MemD.below {w w' : World} {a : Option Addr} {l : List Dat} (h : MemD w a l) (hb : Below w.heap.size w w') : MemD w' a l := by
  intro hl
  obtain ⟨b, off, e, hc⟩ := h hl
  exact ⟨b, off, e, fun k hk => ⟨cell_keep hb (hc k hk).1, cell_keep hb (hc k hk).2.1, cell_keep hb (hc k hk).2.2.1, cell_keep hb (hc k hk).2.2.2⟩⟩
/-- How much a slice holds. -/
def SZD (l : List Dat) (w : World) (e : Ending) (w' : World) : Prop :=
  ((e = .returned (.int .i64 (-1))) ∨ (∃ q : Nat, q ≤ 1048576 ∧ e = .returned (.int .i64 (q : Int)) ∧ l.length ≤ 1048576 ∧ ∀ (k : Nat) (h : k < l.length), l[k].name.size ≤ 1048576)) ∧ Below w.heap.size w w'
set_option maxHeartbeats 1000000 in
theorem szDS_any (a : Option Addr) (c : Nat) (l : List Dat) (w : World) (n0 : Nat) (hn0 : n0 ≤ 1048576) (hl0 : l.length ≤ 9223372036854775807) (h : MemD w a l) (hz : ∀ (k : Nat) (h : k < l.length), l[k].name.size ≤ 9223372036854775807) :
    Calls Tryz.prog 5 #[.slice a l.length c, .int .i64 (n0 : Int)] w fun e w' => SZD l w e w' := by
  have HT : Hid (MemD w a l) := h
  have HZ : Hid (∀ (k : Nat) (h : k < l.length), l[k].name.size ≤ 9223372036854775807) := hz
  clear h hz
  by_cases hl : n0 < l.length
  · go_enter Tryz.func5, Tryz.ntmps5
    go_wp2
    go_ret
    exact ⟨Or.inl rfl, Below.refl _ _⟩
  go_enter Tryz.func5, Tryz.ntmps5
  go_wp2_with fail
  go_loopw [1, 5] (fun v i wr => ∃ k n : Nat, k ≤ l.length ∧ n ≤ 1048576 ∧ v = .int .i64 (n : Int) ∧ i = .int .i64 (k : Int) ∧ Hid (∀ (j : Nat) (h : j < l.length), j < k → l[j].name.size ≤ 1048576) ∧ Below w.heap.size w wr) (fun _ i _ => l.length - (RowKit.intOf i).toNat)
  case atStart => exact ⟨0, n0 - l.length, Nat.zero_le _, by omega, by congr 1; omega, rfl, fun j _ hj => by omega, Below.refl _ _⟩
  case round =>
    obtain ⟨k, n, hk, hn, rfl, rfl, HJ, hb⟩ := hrel
    have HB : Hid (Below w.heap.size w wr) := hb
    clear hb
    by_cases hlt : k < l.length
    · obtain ⟨b, off, rfl, hc⟩ := (HT.out.below HB.out) (by omega)
      obtain ⟨c0, c1, c2, c3⟩ := hc k hlt
      clear hc
      by_cases hs : n < (l[k]'hlt).name.size
      · have HX : Hid (∀ w, Calls Tryz.prog 17 #[(l[k]'hlt).val, .int .i64 (n : Int)] w fun e w' => e = .returned (.int .i64 (-1)) ∧ Below w.heap.size w w') := fun w => szD_far _ n w (HZ.out k hlt) hn hs
        clear hs
        go_wp2_with (go_at_call 17; refine (HX.out _).mono ?_; rintro e w1 ⟨rfl, hq⟩)
        go_ret
        exact ⟨Or.inl rfl, HB.out.trans (hq.mono HB.out.size)⟩
      · obtain ⟨q, hq⟩ : ∃ q : Nat, q = n - (l[k]'hlt).name.size := ⟨_, rfl⟩
        have HX : Hid (∀ w, Calls Tryz.prog 17 #[(l[k]'hlt).val, .int .i64 (n : Int)] w fun e w' => e = .returned (.int .i64 (q : Int)) ∧ Below w.heap.size w w') := fun w => by rw [hq]; exact szD_near _ n w hn (by omega)
        have HS : Hid ((l[k]'hlt).name.size ≤ 1048576) := by show (l[k]'hlt).name.size ≤ 1048576; omega
        have hq2 : q ≤ 1048576 := by omega
        clear hq hs
        go_wp2_with (go_at_call 17; refine (HX.out _).mono ?_; rintro e w1 ⟨rfl, hb1⟩)
        refine ⟨⟨k + 1, q, by omega, hq2, rfl, by go_num, fun j hj hjk => ?_, HB.out.trans (hb1.mono HB.out.size)⟩, by simp [RowKit.intOf]; omega⟩
        by_cases e : j < k
        · exact HJ.out j hj e
        · have : j = k := by omega
          subst this; exact HS.out
    · go_wp2
      go_ret
      exact ⟨Or.inr ⟨n, hn, rfl, by omega, fun j hj => HJ.out j hj (by omega)⟩, HB.out⟩

theorem makeD (n : Nat) (hn : n ≤ 1048576) (w : World) : (Instr.makeSlice 28 (.int .i64 (n : Int)) (.int .i64 (n : Int))).run Tryz.prog w = .ok (.slice (some ⟨w.heap.size, 0, none⟩) n n) (w.alloc (.cells (madeCells #[.int .i64 0, .int .i64 0, .int .i64 0, .string ⟨#[]⟩] (n * 4)) 49)) := by
  obtain ⟨i0, hi, hz0, hz1, hz2⟩ := info_parts infoD
  have := run_make (P := Tryz.prog) w 28 49 i0 _ Tryz.underlying28 hi hz0 .i64 .i64 (n : Int) (n : Int) (by omega) (by omega) (by rw [hz2]; omega) (by omega)
  rw [this, hz1]
  simp [Value.cells]
theorem madeD (n : Nat) (hn : n ≤ 1048576) (w : World) : (w.alloc (.cells (madeCells #[.int .i64 0, .int .i64 0, .int .i64 0, .string ⟨#[]⟩] (n * 4)) 49)).ownsRow w.heap.size 49 4 (.slice (some ⟨w.heap.size, 0, none⟩) n n) n (madeCells #[.int .i64 0, .int .i64 0, .int .i64 0, .string ⟨#[]⟩] (n * 4)).toList :=
  ⟨by simp [madeCells], .inr ⟨w.heap.size, n, _, rfl, Nat.le_refl _, heap_alloc_new w _, Nat.le_refl _, by unfold maxLen; omega, by simp [madeCells], by rw [List.take_of_length_le]; simp [madeCells]⟩⟩
theorem putD (xs A : List Value) (k : Nat) (a b c d : Value) (h : xs.take (k * 4) = A) (hl : k * 4 + 4 ≤ xs.length) : ((((xs.set (k * 4) a).set (k * 4 + 1) b).set (k * 4 + 2) c).set (k * 4 + 3) d).take ((k + 1) * 4) = A ++ [a, b, c, d] := by
  have e : xs = xs.take (k * 4) ++ (xs[k * 4]'(by omega) :: xs[k * 4 + 1]'(by omega) :: xs[k * 4 + 2]'(by omega) :: xs[k * 4 + 3]'(by omega) :: xs.drop (k * 4 + 4)) := by
    rw [← List.drop_eq_getElem_cons, ← List.drop_eq_getElem_cons, ← List.drop_eq_getElem_cons, ← List.drop_eq_getElem_cons, List.take_append_drop]
  have hA : A.length = k * 4 := by rw [← h]; simp; omega
  rw [h] at e
  generalize xs[k * 4]'(by omega) = x0 at e
  generalize xs[k * 4 + 1]'(by omega) = x1 at e
  generalize xs[k * 4 + 2]'(by omega) = x2 at e
  generalize xs[k * 4 + 3]'(by omega) = x3 at e
  generalize xs.drop (k * 4 + 4) = r at e
  clear h
  subst e
  rw [List.set_append_right _ _ (by omega), List.set_append_right _ _ (by omega), List.set_append_right _ _ (by omega), List.set_append_right _ _ (by omega), hA, show k * 4 - k * 4 = 0 by omega, show k * 4 + 1 - k * 4 = 1 by omega, show k * 4 + 2 - k * 4 = 2 by omega, show k * 4 + 3 - k * 4 = 3 by omega]
  rw [show (k + 1) * 4 = A.length + 4 by omega, List.take_append, List.take_of_length_le (by omega), show A.length + 4 - A.length = 4 by omega]
  rfl
/-- One stored into its place. -/
theorem putD_next {wr : World} {base g n k : Nat} {xs A : List Value} {t : Dat} (ho : wr.ownsRow base 49 4 (.slice (some ⟨g, 0, none⟩) n n) n xs) (hA : xs.take (k * 4) = A) (hk : k < n) :
    ∃ ys, ((((wr.setCell ⟨g, k * 4, none⟩ (.int .i64 t.kind)).setCell ⟨g, k * 4 + 1, none⟩ (.int .i64 t.parent)).setCell ⟨g, k * 4 + 2, none⟩ (.int .i64 t.num)).setCell ⟨g, k * 4 + 3, none⟩ (.string t.name)).ownsRow base 49 4 (.slice (some ⟨g, 0, none⟩) n n) n ys ∧ ys.take ((k + 1) * 4) = A ++ t.cells :=
  ⟨_, own_put (own_put (own_put (own_put ho _ _) _ _) _ _) _ _, putD xs A k _ _ _ _ hA (by have := ho.1; omega)⟩
set_option maxRecDepth 100000 in
set_option maxHeartbeats 2000000 in
theorem toDS_any (a : Option Addr) (c : Nat) (l : List Dat) (w : World) (hl : l.length ≤ 1048576) (h : MemD w a l) :
    Calls Tryz.prog 7 #[.slice a l.length c] w fun e w' => ∃ g, e = .returned (.slice (some ⟨g, 0, none⟩) l.length l.length) ∧ w'.ownsRow w.heap.size 49 4 (.slice (some ⟨g, 0, none⟩) l.length l.length) l.length (cellsD l) ∧ Below w.heap.size w w' := by
  have HT : Hid (MemD w a l) := h
  have hmk := makeD l.length hl
  have HM : Hid (∃ xs, (w.alloc (.cells (madeCells #[.int .i64 0, .int .i64 0, .int .i64 0, .string ⟨#[]⟩] (l.length * 4)) 49)).ownsRow w.heap.size 49 4 (.slice (some ⟨w.heap.size, 0, none⟩) l.length l.length) l.length xs ∧ xs.take (0 * 4) = cellsD (l.take 0)) := ⟨_, madeD l.length hl w, rfl⟩
  clear h
  go_enter Tryz.func7, Tryz.ntmps7
  go_wp2_with fail
  go_loopw [4] (fun i wr => ∃ k : Nat, k ≤ l.length ∧ i = .int .i64 (k : Int) ∧ Hid (∃ xs, wr.ownsRow w.heap.size 49 4 (.slice (some ⟨w.heap.size, 0, none⟩) l.length l.length) l.length xs ∧ xs.take (k * 4) = cellsD (l.take k)) ∧ Below w.heap.size w wr) (fun i _ => l.length - (RowKit.intOf i).toNat)
  case atStart => exact ⟨0, Nat.zero_le _, rfl, HM.out, (Below.refl _ _).alloc (Nat.le_refl _) _⟩
  case round =>
    obtain ⟨k, hk, rfl, HX, hb⟩ := hrel
    have HB : Hid (Below w.heap.size w wr) := hb
    clear hb
    by_cases hlt : k < l.length
    · obtain ⟨b, off, rfl, hc⟩ := (HT.out.below HB.out) (by omega)
      obtain ⟨c0, c1, c2, c3⟩ := hc k hlt
      clear hc
      have HU : Hid (∀ w, Calls Tryz.prog 20 #[(l[k]'hlt).val] w fun e w' => e = .returned (l[k]'hlt).val ∧ Below w.heap.size w w') := fun w => toD_any _ w
      obtain ⟨xs, hox, htx⟩ := HX.out
      have HO : Hid (wr.ownsRow w.heap.size 49 4 (.slice (some ⟨w.heap.size, 0, none⟩) l.length l.length) l.length xs) := hox
      have HE : Hid (xs.take (k * 4) = cellsD (l.take k)) := htx
      have hgl : w.heap.size < wr.heap.size := (hox.lt w.heap.size rfl).2
      have HL : Hid (xs.length = l.length * 4) := hox.1
      clear hox htx
      go_wp2_with fail
      refine (HU.out _).mono ?_
      rintro e w1 ⟨rfl, hb1⟩
      have HO1 : Hid (w1.ownsRow w.heap.size 49 4 (.slice (some ⟨w.heap.size, 0, none⟩) l.length l.length) l.length xs) := own_below HO.out hb1
      have HB1 : Hid (Below w.heap.size w w1) := HB.out.trans (hb1.mono HB.out.size)
      have hgl1 : w.heap.size < w1.heap.size := (HO1.out.lt w.heap.size rfl).2
      clear hb1 c0 c1 c2 c3
      obtain ⟨x0, e0⟩ := own_cell HO1.out (k * 4) (by have := HL.out; omega)
      obtain ⟨x1, e1⟩ := own_cell HO1.out (k * 4 + 1) (by have := HL.out; omega)
      obtain ⟨x2, e2⟩ := own_cell HO1.out (k * 4 + 2) (by have := HL.out; omega)
      obtain ⟨x3, e3⟩ := own_cell HO1.out (k * 4 + 3) (by have := HL.out; omega)
      have ff : ∀ j, w1.frozen? ⟨w.heap.size, j, none⟩ = false := own_frozen HO1.out
      go_wp2
      obtain ⟨ys, hy, hyt⟩ := putD_next (t := l[k]'hlt) HO1.out HE.out hlt
      refine ⟨⟨k + 1, by omega, by go_num, ⟨ys, hy, ?_⟩, (((HB1.out.setCell (Nat.le_refl _) _).setCell (Nat.le_refl _) _).setCell (Nat.le_refl _) _).setCell (Nat.le_refl _) _⟩, by simp [RowKit.intOf]; omega⟩
      rw [hyt, takeD l k hlt, cellsD_append]; simp [cellsD]
    · have HF : Hid (wr.ownsRow w.heap.size 49 4 (.slice (some ⟨w.heap.size, 0, none⟩) l.length l.length) l.length (cellsD l)) := by
        obtain ⟨xs, hox, htx⟩ := HX.out
        have hkl : k = l.length := by omega
        rw [hkl, List.take_length, List.take_of_length_le (by rw [hox.1]; exact Nat.le_refl _)] at htx
        rw [htx] at hox
        exact hox
      clear HX
      go_wp2
      go_ret
      exact ⟨_, rfl, HF.out, HB.out⟩
end Go.Proofs.YtfdkklhigliciaaGreatDoor
/-
  The model's l2Byte and l2Sym answer what the plain functions tell, whatever the world; nothing is turned.
-/
namespace Go.Proofs.YtfdkklhigliciaaGreatDoor
open Go.RowKit Go.Extern.Stop Go.Stop Go.Extern Num

/-- The signs that a symbol may have besides letters. -/
def signs : List UInt8 := [43, 45, 42, 47, 60, 61, 63, 33]
def symB (b : UInt8) : Bool := (decide (97 ≤ b.toNat) && decide (b.toNat ≤ 122)) || signs.any (· == b)
def symL (l : List UInt8) : Bool := l.all symB && (decide (1 ≤ l.length) && decide (l.length ≤ 12))

theorem byte_letter (b : UInt8) (w : World) (h1 : 97 ≤ (b.toNat : Int)) (h2 : (b.toNat : Int) ≤ 122) :
    Calls Tryz.prog 63 #[.int .u8 b.toNat] w fun e w' => e = .returned (.bool true) ∧ w' = w := by
  go_enter Tryz.func63, Tryz.ntmps63
  go_wp2
  go_ret
  exact ⟨rfl, rfl⟩
theorem sign_at (k : Nat) (h : k < 8) : signs[k]'h = (({ data := #[43, 45, 42, 47, 60, 61, 63, 33] } : ByteArray)[k]'h) := rfl
theorem sign_yes (k : Nat) (b : UInt8) (h : k < 8) (ht : (((({ data := #[43, 45, 42, 47, 60, 61, 63, 33] } : ByteArray)[k]'h).toNat : Int) == (b.toNat : Int)) = true) : signs.any (· == b) = true := by
  have e : (signs[k]'h) = b := by
    rw [sign_at k h]
    have := eq_of_beq ht
    rw [← UInt8.toNat_inj]; omega
  rw [List.any_eq_true]
  exact ⟨b, by rw [← e]; exact List.getElem_mem _, by simp⟩
theorem sign_no (k : Nat) (b : UInt8) (h : k < 8) (hn : (signs.take k).any (· == b) = false) (ht : (((({ data := #[43, 45, 42, 47, 60, 61, 63, 33] } : ByteArray)[k]'h).toNat : Int) == (b.toNat : Int)) = false) : (signs.take (k + 1)).any (· == b) = false := by
  rw [List.take_succ_eq_append_getElem (by exact h), List.any_append, hn, sign_at k h]
  have : ((({ data := #[43, 45, 42, 47, 60, 61, 63, 33] } : ByteArray)[k]'h) == b) = false := by
    rw [beq_eq_false_iff_ne] at ht ⊢
    intro e; apply ht; rw [e]
  simp only [List.any_cons, List.any_nil, this, Bool.or_false]
theorem byte_other (b : UInt8) (w : World) (h : ¬ (97 ≤ (b.toNat : Int) ∧ (b.toNat : Int) ≤ 122)) :
    Calls Tryz.prog 63 #[.int .u8 b.toNat] w fun e w' => e = .returned (.bool (signs.any (· == b))) ∧ w' = w := by
  by_cases h1 : 97 ≤ (b.toNat : Int)
  · have h2 : ¬ (b.toNat : Int) ≤ 122 := fun h2 => h ⟨h1, h2⟩
    clear h
    go_enter Tryz.func63, Tryz.ntmps63
    go_wp2
    go_loop [4] (fun i => ∃ k : Nat, k ≤ 8 ∧ i = .int .i64 k ∧ (signs.take k).any (· == b) = false) (fun i => 8 - (intOf i).toNat)
    case atStart => exact ⟨0, by omega, rfl, rfl⟩
    case round =>
      obtain ⟨k, hk, rfl, hn⟩ := hrel
      have HN : Hid ((signs.take k).any (· == b) = false) := hn
      clear hn
      by_cases hlt : k < 8
      · cases ht : ((({ data := #[43, 45, 42, 47, 60, 61, 63, 33] } : ByteArray)[k]'hlt).toNat : Int) == (b.toNat : Int)
        · have HT : Hid ((signs.take (k + 1)).any (· == b) = false) := sign_no k b hlt HN.out ht
          go_wp2
          exact ⟨⟨k + 1, by omega, by go_num, HT.out⟩, by simp [intOf]; omega⟩
        · have HT : Hid (signs.any (· == b) = true) := sign_yes k b hlt ht
          go_wp2
          go_ret
          exact ⟨by rw [HT.out]; rfl, rfl⟩
      · have HT : Hid (signs.any (· == b) = false) := by
          have := HN.out
          rwa [List.take_of_length_le (by show 8 ≤ k; omega)] at this
        go_wp2
        go_ret
        exact ⟨by rw [HT.out]; rfl, rfl⟩
  · clear h
    go_enter Tryz.func63, Tryz.ntmps63
    go_wp2
    go_loop [4] (fun i => ∃ k : Nat, k ≤ 8 ∧ i = .int .i64 k ∧ (signs.take k).any (· == b) = false) (fun i => 8 - (intOf i).toNat)
    case atStart => exact ⟨0, by omega, rfl, rfl⟩
    case round =>
      obtain ⟨k, hk, rfl, hn⟩ := hrel
      have HN : Hid ((signs.take k).any (· == b) = false) := hn
      clear hn
      by_cases hlt : k < 8
      · cases ht : ((({ data := #[43, 45, 42, 47, 60, 61, 63, 33] } : ByteArray)[k]'hlt).toNat : Int) == (b.toNat : Int)
        · have HT : Hid ((signs.take (k + 1)).any (· == b) = false) := sign_no k b hlt HN.out ht
          go_wp2
          exact ⟨⟨k + 1, by omega, by go_num, HT.out⟩, by simp [intOf]; omega⟩
        · have HT : Hid (signs.any (· == b) = true) := sign_yes k b hlt ht
          go_wp2
          go_ret
          exact ⟨by rw [HT.out]; rfl, rfl⟩
      · have HT : Hid (signs.any (· == b) = false) := by
          have := HN.out
          rwa [List.take_of_length_le (by show 8 ≤ k; omega)] at this
        go_wp2
        go_ret
        exact ⟨by rw [HT.out]; rfl, rfl⟩
theorem byte_any (b : UInt8) (w : World) :
    Calls Tryz.prog 63 #[.int .u8 b.toNat] w fun e w' => e = .returned (.bool (symB b)) ∧ w' = w := by
  by_cases h : 97 ≤ (b.toNat : Int) ∧ (b.toNat : Int) ≤ 122
  · have e : symB b = true := by unfold symB; simp; exact Or.inl ⟨by omega, by omega⟩
    rw [e]; exact byte_letter b w h.1 h.2
  · have e : symB b = signs.any (· == b) := by
      unfold symB
      have : (decide (97 ≤ b.toNat) && decide (b.toNat ≤ 122)) = false := by simp; omega
      rw [this, Bool.false_or]
    rw [e]; exact byte_other b w h

theorem take_all (s : ByteArray) (k : Nat) (h : k < s.size) (ha : ((s.data.toList.take k).all symB) = true) : ((s.data.toList.take (k + 1)).all symB) = symB (s[k]'h) := by
  have hk : k < s.data.toList.length := by rw [Array.length_toList]; exact h
  rw [List.take_succ_eq_append_getElem hk, List.all_append, ha]
  simp only [List.all_cons, List.all_nil, Bool.and_true, Bool.true_and]
  rfl
theorem not_all (s : ByteArray) (k : Nat) (h : k < s.size) (hb : symB (s[k]'h) = false) : symL s.data.toList = false := by
  have hk : k < s.data.toList.length := by rw [Array.length_toList]; exact h
  unfold symL
  have : s.data.toList.all symB = false := by
    rw [List.all_eq_false]
    exact ⟨s.data.toList[k], List.getElem_mem _, by show ¬ symB (s[k]'h) = true; rw [hb]; simp⟩
  rw [this, Bool.false_and]
theorem all_len (s : ByteArray) (ha : s.data.toList.all symB = true) : symL s.data.toList = (decide (1 ≤ (s.size : Int)) && decide ((s.size : Int) ≤ 12)) := by
  unfold symL
  have hl : s.data.toList.length = s.size := by rw [Array.length_toList]; rfl
  rw [ha, Bool.true_and, hl]
  congr 1 <;> (rw [decide_eq_decide]; omega)
theorem sym_any (s : ByteArray) (w : World) (hs : s.size ≤ 9223372036854775807) :
    Calls Tryz.prog 37 #[.string s] w fun e w' => e = .returned (.bool (symL s.data.toList)) ∧ w' = w := by
  go_enter Tryz.func37, Tryz.ntmps37
  go_wp2_with fail
  go_loop [3] (fun i => ∃ k : Nat, k ≤ s.size ∧ i = .int .i64 k ∧ (s.data.toList.take k).all symB = true) (fun i => s.size - (intOf i).toNat)
  case atStart => exact ⟨0, by omega, rfl, rfl⟩
  case round =>
    obtain ⟨k, hk, rfl, hn⟩ := hrel
    have HN : Hid ((s.data.toList.take k).all symB = true) := hn
    clear hn
    by_cases hlt : k < s.size
    · cases ht : symB (s[k]'hlt)
      · have HT : Hid (symL s.data.toList = false) := not_all s k hlt ht
        go_wp2_with (go_at_call 63; refine (byte_any _ _).mono ?_; rintro e w' ⟨rfl, rfl⟩)
        go_ret
        exact ⟨by rw [HT.out]; rfl, rfl⟩
      · have HT : Hid ((s.data.toList.take (k + 1)).all symB = true) := (take_all s k hlt HN.out).trans ht
        go_wp2_with (go_at_call 63; refine (byte_any _ _).mono ?_; rintro e w' ⟨rfl, rfl⟩)
        exact ⟨⟨k + 1, by omega, by go_num, HT.out⟩, by simp [intOf]; omega⟩
    · have HA : Hid (symL s.data.toList = (decide (1 ≤ (s.size : Int)) && decide ((s.size : Int) ≤ 12))) := all_len s (by
        have := HN.out
        rwa [List.take_of_length_le (by rw [Array.length_toList]; show s.size ≤ k; omega)] at this)
      go_wp2_with (go_at_call 36; refine (l1In_any _ _ _ _).mono ?_; rintro e w' ⟨rfl, rfl⟩)
      go_ret
      exact ⟨by rw [HA.out]; rfl, rfl⟩
end Go.Proofs.YtfdkklhigliciaaGreatDoor
/-
  Data, plainly, and the model's l3Bare, l3Deep and l3Line: what a datum has, how deep it lies, whether its list is still open; nothing is turned.
-/
namespace Go.Proofs.YtfdkklhigliciaaGreatDoor
open Go.RowKit Go.Extern.Stop Go.Stop Go.Extern Num Go.Lib

/-- The data that lie in a row. -/
def RowD (w : World) (g : Nat) (l : List Dat) : Prop := ∀ (k : Nat) (h : k < l.length), w.cell? ⟨g, k * 4, none⟩ = some (.int .i64 l[k].kind) ∧ w.cell? ⟨g, k * 4 + 1, none⟩ = some (.int .i64 l[k].parent) ∧ w.cell? ⟨g, k * 4 + 2, none⟩ = some (.int .i64 l[k].num) ∧ w.cell? ⟨g, k * 4 + 3, none⟩ = some (.string l[k].name)
theorem RowD.below {w w' : World} {g : Nat} {l : List Dat} (h : RowD w g l) (hb : Below w.heap.size w w') : RowD w' g l := fun k hk => ⟨cell_keep hb (h k hk).1, cell_keep hb (h k hk).2.1, cell_keep hb (h k hk).2.2.1, cell_keep hb (h k hk).2.2.2⟩
theorem RowD.of {w : World} {base g cap : Nat} {l : List Dat} (h : w.ownsRow base 49 4 (.slice (some ⟨g, 0, none⟩) l.length cap) l.length (cellsD l)) : RowD w g l := fun k hk => rowD_at h k hk
/-- Whose part it is. -/
def par (l : List Dat) (k : Nat) : Int := (l[k]?.map (·.parent)).getD (-1)
theorem par_at (l : List Dat) (k : Nat) (h : k < l.length) : par l k = l[k].parent := by simp [par, h]
/-- How many data there are from a place up. -/
def deepF (l : List Dat) : Nat → Int → Nat
  | 0, _ => 0
  | f + 1, a => if a < 0 then 0 else deepF l f (par l a.toNat) + 1
theorem deepF_neg (l : List Dat) (f : Nat) (a : Int) (h : a < 0) : deepF l f a = 0 := by cases f <;> simp [deepF, h]
theorem deepF_at (l : List Dat) (f k : Nat) (h : k < l.length) : deepF l (f + 1) (k : Int) = deepF l f l[k].parent + 1 := by
  have h0 : ¬ ((k : Int) < 0) := by omega
  simp only [deepF, if_neg h0, Int.toNat_natCast, par_at l k h]
/-- Whether, from a place up, p is met, and is a list. -/
def lineF (l : List Dat) (p : Int) : Nat → Int → Bool
  | 0, _ => false
  | f + 1, a => if a < 0 then false else if a = p then ((l[a.toNat]?.map (·.kind)).getD 0 == 4) else lineF l p f (par l a.toNat)
theorem lineF_neg (l : List Dat) (p : Int) (f : Nat) (a : Int) (h : a < 0) : lineF l p f a = false := by cases f <;> simp [lineF, h]
theorem lineF_hit (l : List Dat) (f k : Nat) (h : k < l.length) : lineF l (k : Int) (f + 1) (k : Int) = (l[k].kind == 4) := by
  have h0 : ¬ ((k : Int) < 0) := by omega
  simp [lineF, h]
theorem lineF_on (l : List Dat) (p : Int) (f k : Nat) (h : k < l.length) (hp : (k : Int) ≠ p) : lineF l p (f + 1) (k : Int) = lineF l p f l[k].parent := by
  have h0 : ¬ ((k : Int) < 0) := by omega
  simp only [lineF, if_neg h0, if_neg hp, Int.toNat_natCast, par_at l k h]
def lineB (l : List Dat) (i : Nat) : Bool := lineF l (par l i) i ((i : Int) - 1)

set_option maxHeartbeats 1000000 in
theorem l3Deep_any (g cap : Nat) (l : List Dat) (w : World) (i : Nat) (a : Int) (hR : RowD w g l) (hi : i < l.length) (hp : ∀ (j : Nat) (h : j < l.length), j ≤ i → l[j].parent ≤ (j : Int)) (ha : a ≤ (i : Int)) :
    Calls Tryz.prog 39 #[.slice (some ⟨g, 0, none⟩) l.length cap, .int .i64 a] w fun e w' => e = .returned (.int .i64 (deepF l 100 a : Nat)) ∧ w' = w := by
  have HR : Hid (RowD w g l) := hR
  have HP : Hid (∀ (j : Nat) (h : j < l.length), j ≤ i → l[j].parent ≤ (j : Int)) := hp
  clear hR hp
  obtain ⟨R, hRe⟩ : ∃ R : Nat, R = deepF l 100 a := ⟨_, rfl⟩
  rw [← hRe]
  have HE : Hid (R = deepF l 100 a) := hRe
  clear hRe
  go_enter Tryz.func39, Tryz.ntmps39
  go_wp2_with fail
  go_loopw [1, 5] (fun v m wr => ∃ (b : Int) (n : Nat), b ≤ (i : Int) ∧ n ≤ 100 ∧ v = .int .i64 b ∧ m = .int .i64 (n : Int) ∧ Hid (n + deepF l (100 - n) b = R) ∧ Hid (wr = w)) (fun _ m _ => 100 - (RowKit.intOf m).toNat)
  case atStart => exact ⟨a, 0, ha, by omega, rfl, rfl, by show 0 + deepF l 100 a = R; rw [HE.out]; omega, rfl⟩
  case round =>
    obtain ⟨b, n, hb, hn, rfl, rfl, HD, HW⟩ := hrel
    by_cases h0 : 0 ≤ b
    · obtain ⟨k, rfl⟩ := Int.eq_ofNat_of_zero_le h0
      by_cases h1 : (n : Int) < 100
      · have hk : k < l.length := by omega
        have hc : wr.cell? ⟨g, k * 4 + 1, none⟩ = some (.int .i64 (l[k]'hk).parent) := by rw [HW.out]; exact (HR.out k hk).2.1
        have hpk := HP.out k hk (by omega)
        have HD2 : Hid ((n + 1) + deepF l (100 - (n + 1)) (l[k]'hk).parent = R) := by
          have := HD.out
          show (n + 1) + _ = R
          rw [← this, show 100 - n = (100 - (n + 1)) + 1 by omega, deepF_at l _ k hk]; omega
        go_wp2
        exact ⟨⟨(l[k]'hk).parent, n + 1, by omega, by omega, rfl, by go_num, HD2.out, HW.out⟩, by simp [RowKit.intOf]; omega⟩
      · have HF : Hid ((n : Int) = (R : Int)) := by
          have := HD.out
          rw [show 100 - n = 0 by omega] at this
          simp [deepF] at this
          show (n : Int) = (R : Int)
          omega
        go_wp2
        go_ret
        exact ⟨by rw [HF.out]; rfl, HW.out⟩
    · have HF : Hid ((n : Int) = (R : Int)) := by
        have := HD.out
        rw [deepF_neg l _ b (by omega)] at this
        show (n : Int) = (R : Int)
        omega
      go_wp2
      go_ret
      exact ⟨by rw [HF.out]; rfl, HW.out⟩
set_option maxHeartbeats 1000000 in
theorem l3Line_any (g cap : Nat) (l : List Dat) (w : World) (i : Nat) (hR : RowD w g l) (hi : i < l.length) (hi0 : 0 < i) (hlm : l.length ≤ 1048576) (hp : ∀ (j : Nat) (h : j < l.length), j < i → l[j].parent < (j : Int)) :
    Calls Tryz.prog 38 #[.slice (some ⟨g, 0, none⟩) l.length cap, .int .i64 (i : Int)] w fun e w' => e = .returned (.bool (lineB l i)) ∧ w' = w := by
  have HR : Hid (RowD w g l) := hR
  have HP : Hid (∀ (j : Nat) (h : j < l.length), j < i → l[j].parent < (j : Int)) := hp
  have hci := (HR.out i hi).2.1
  have HPI : Hid (par l i = (l[i]'hi).parent) := par_at l i hi
  clear hR hp
  obtain ⟨R, hRe⟩ : ∃ R : Bool, R = lineB l i := ⟨_, rfl⟩
  rw [← hRe]
  have HE : Hid (R = lineB l i) := hRe
  clear hRe
  go_enter Tryz.func38, Tryz.ntmps38
  go_wp2_with fail
  go_loopw [5] (fun v wr => ∃ (b : Int) (f : Nat), b < (f : Int) ∧ b < (i : Int) ∧ v = .int .i64 b ∧ Hid (lineF l (par l i) f b = R) ∧ Hid (wr = w)) (fun v _ => ((RowKit.intOf v) + 1).toNat)
  case atStart => exact ⟨(i : Int) - 1, i, by omega, by omega, rfl, HE.out.symm, rfl⟩
  case round =>
    obtain ⟨b, f, hf, hb, rfl, HD, HW⟩ := hrel
    have hciw : wr.cell? ⟨g, i * 4 + 1, none⟩ = some (.int .i64 (l[i]'hi).parent) := by rw [HW.out]; exact hci
    clear hci
    by_cases h0 : 0 ≤ b
    · obtain ⟨k, rfl⟩ := Int.eq_ofNat_of_zero_le h0
      have hk : k < l.length := by omega
      obtain ⟨f', rfl⟩ : ∃ f', f = f' + 1 := ⟨f - 1, by omega⟩
      have hc0 : wr.cell? ⟨g, k * 4, none⟩ = some (.int .i64 (l[k]'hk).kind) := by rw [HW.out]; exact (HR.out k hk).1
      have hc1 : wr.cell? ⟨g, k * 4 + 1, none⟩ = some (.int .i64 (l[k]'hk).parent) := by rw [HW.out]; exact (HR.out k hk).2.1
      by_cases he : (k : Int) = (l[i]'hi).parent
      · have hb1 : ((k : Int) == (l[i]'hi).parent) = true := by simpa using he
        have HF : Hid (((l[k]'hk).kind == 4) = R) := by
          have := HD.out
          rw [HPI.out, ← he, lineF_hit l f' k hk] at this
          exact this
        clear he
        go_wp2
        go_ret
        exact ⟨by rw [← HF.out]; rfl, HW.out⟩
      · have hb1 : ((k : Int) == (l[i]'hi).parent) = false := by simpa using he
        have hpk := HP.out k hk (by omega)
        have HF : Hid (lineF l (par l i) f' (l[k]'hk).parent = R) := by
          have := HD.out
          rw [lineF_on l (par l i) f' k hk (by rw [HPI.out]; exact he)] at this
          exact this
        clear he
        go_wp2
        exact ⟨⟨(l[k]'hk).parent, f', by omega, by omega, rfl, HF.out, HW.out⟩, by simp [RowKit.intOf]; omega⟩
    · have HF : Hid (false = R) := by
        have := HD.out
        rw [lineF_neg l _ _ b (by omega)] at this
        exact this
      go_wp2
      go_ret
      exact ⟨by rw [← HF.out]; rfl, HW.out⟩
/-- A datum has nothing but what its kind has. -/
def bareB (t : Dat) : Bool := decide (1 ≤ t.kind ∧ t.kind ≤ 4) && ((t.kind == 1 || t.kind == 2) || t.num == 0) && (t.kind == 3 || (t.name.data.toList == []))
theorem bare_of (t : Dat) (b1 b2 b3 bi bn bz : Bool) (e1 : (t.kind == 1) = b1) (e2 : (t.kind == 2) = b2) (e3 : (t.kind == 3) = b3) (hin : (decide (1 ≤ t.kind) && decide (t.kind ≤ 4)) = bi) (en : (t.num == 0) = bn) (ez : (t.name.toList == []) = bz) : bareB t = (bi && ((b1 || b2) || bn) && (b3 || bz)) := by
  have h1 : decide (1 ≤ t.kind ∧ t.kind ≤ 4) = bi := by rw [← hin]; simp
  have h2 : (t.name.data.toList == []) = bz := by rw [← ez, ByteArray.toList_eq]
  unfold bareB
  rw [h1, h2, e1, e2, e3, en]
set_option maxHeartbeats 4000000 in
theorem l3Bare_any (g k : Nat) (t : Dat) (w : World) (c0 : w.cell? ⟨g, k, none⟩ = some (.int .i64 t.kind)) (c2 : w.cell? ⟨g, k + 2, none⟩ = some (.int .i64 t.num)) (c3 : w.cell? ⟨g, k + 3, none⟩ = some (.string t.name)) :
    Calls Tryz.prog 34 #[.pointer (some ⟨g, k, none⟩)] w fun e w' => e = .returned (.bool (bareB t)) ∧ w' = w := by
  have hk : ((t.kind == 1) = true ∧ (t.kind == 2) = false ∧ (t.kind == 3) = false ∧ (decide (1 ≤ t.kind) && decide (t.kind ≤ 4)) = true) ∨ ((t.kind == 1) = false ∧ (t.kind == 2) = true ∧ (t.kind == 3) = false ∧ (decide (1 ≤ t.kind) && decide (t.kind ≤ 4)) = true) ∨ ((t.kind == 1) = false ∧ (t.kind == 2) = false ∧ (t.kind == 3) = true ∧ (decide (1 ≤ t.kind) && decide (t.kind ≤ 4)) = true) ∨ ((t.kind == 1) = false ∧ (t.kind == 2) = false ∧ (t.kind == 3) = false ∧ (decide (1 ≤ t.kind) && decide (t.kind ≤ 4)) = true) ∨ ((t.kind == 1) = false ∧ (t.kind == 2) = false ∧ (t.kind == 3) = false ∧ (decide (1 ≤ t.kind) && decide (t.kind ≤ 4)) = false) := by
    by_cases h1 : t.kind = 1
    · simp [h1]
    · by_cases h2 : t.kind = 2
      · simp [h2]
      · by_cases h3 : t.kind = 3
        · simp [h3]
        · by_cases h4 : 1 ≤ t.kind ∧ t.kind ≤ 4
          · simp [h1, h2, h3, h4]
          · have : (decide (1 ≤ t.kind) && decide (t.kind ≤ 4)) = false := by
              by_cases h5 : 1 ≤ t.kind
              · have h6 : ¬ t.kind ≤ 4 := fun h6 => h4 ⟨h5, h6⟩
                simp [h6]
              · simp [h5]
            simp [h1, h2, h3, this]
  rcases hk with ⟨e1, e2, e3, hin⟩ | ⟨e1, e2, e3, hin⟩ | ⟨e1, e2, e3, hin⟩ | ⟨e1, e2, e3, hin⟩ | ⟨e1, e2, e3, hin⟩ <;> cases en : (t.num == 0) <;> cases ez : (t.name.toList == [])
  all_goals
    have HB : Hid _ := bare_of t _ _ _ _ _ _ e1 e2 e3 hin en ez
    rw [HB.out]
    clear HB
    go_enter Tryz.func34, Tryz.ntmps34
    go_wp2_with (go_at_call 36; refine (l1In_any _ _ _ _).mono ?_; rintro e w' ⟨rfl, rfl⟩)
    go_ret
    exact ⟨rfl, rfl⟩
end Go.Proofs.YtfdkklhigliciaaGreatDoor
/-
  The model's DataFault: what is wrong with data, datum by datum; nothing is turned.
-/
namespace Go.Proofs.YtfdkklhigliciaaGreatDoor
open Go.RowKit Go.Extern.Stop Go.Stop Go.Extern Num Go.Lib

def rangeBad (t : Dat) : Bool := (t.kind == 1 && !(inB t.num)) || (t.kind == 2 && !(decide (0 ≤ t.num) && decide (t.num ≤ 1)))
def symBad (t : Dat) : Bool := t.kind == 3 && !(symL t.name.data.toList)
def parBad (i : Nat) (p : Int) : Bool := (i == 0 && p != -1) || (decide (0 < i) && !(decide (0 ≤ p) && decide (p ≤ (i : Int) - 1)))
/-- What is wrong with the datum at a place. -/
def chkD (l : List Dat) (i : Nat) (t : Dat) : Int :=
  if bareB t = false then 1 else if rangeBad t = true then 3 else if symBad t = true then 5 else if parBad i t.parent = true then 3 else if (decide (0 < i) && !(lineB l i)) = true then 1 else if 12 < deepF l 100 (i : Int) then 2 else 0
/-- The first fault, from a place on. -/
def faultFrom (l : List Dat) : Nat → List Dat → Int
  | _, [] => 0
  | i, t :: r => if chkD l i t = 0 then faultFrom l (i + 1) r else chkD l i t
def dataFault (l : List Dat) : Int := if l.length < 1 ∨ 80 < l.length then 2 else faultFrom l 0 l
/-- All is well up to a place. -/
def okUpto (l : List Dat) (k : Nat) : Prop := ∀ (j : Nat) (h : j < l.length), j < k → chkD l j l[j] = 0
theorem faultFrom_drop (l : List Dat) (k : Nat) (hok : okUpto l k) (hk : k ≤ l.length) : faultFrom l 0 l = faultFrom l k (l.drop k) := by
  induction k with
  | zero => simp
  | succ k ih =>
    have hk' : k < l.length := by omega
    rw [ih (fun j h hj => hok j h (by omega)) (by omega), List.drop_eq_getElem_cons hk', faultFrom, if_pos (hok k hk' (by omega))]
theorem fault_hit (l : List Dat) (k : Nat) (hk : k < l.length) (hok : okUpto l k) (hc : chkD l k l[k] ≠ 0) : faultFrom l 0 l = chkD l k l[k] := by
  rw [faultFrom_drop l k hok (by omega), List.drop_eq_getElem_cons hk, faultFrom, if_neg hc]
theorem fault_end (l : List Dat) (hok : okUpto l l.length) : faultFrom l 0 l = 0 := by
  rw [faultFrom_drop l l.length hok (Nat.le_refl _)]; simp [faultFrom]
theorem okUpto_next {l : List Dat} {k : Nat} (h : okUpto l k) (hk : k < l.length) (hc : chkD l k l[k] = 0) : okUpto l (k + 1) := by
  intro j hj hjk
  by_cases e : j < k
  · exact h j hj e
  · have : j = k := by omega
    subst this; exact hc
theorem parBad_lt {i : Nat} {p : Int} (h : parBad i p = false) : p < (i : Int) ∧ -1 ≤ p := by
  unfold parBad at h
  by_cases h0 : i = 0
  · subst h0
    simp at h
    omega
  · have h1 : 0 < i := by omega
    have h2 : (i == 0) = false := by simpa using h0
    rw [h2] at h
    simp [h1] at h
    omega
theorem chk_par {l : List Dat} {i : Nat} {t : Dat} (h : chkD l i t = 0) : t.parent < (i : Int) ∧ -1 ≤ t.parent := by
  apply parBad_lt
  unfold chkD at h
  cases hp : parBad i t.parent with
  | false => rfl
  | true =>
    exfalso
    rw [hp] at h
    split at h
    · cases h
    · split at h
      · cases h
      · split at h
        · cases h
        · simp at h
theorem chk_bare {l : List Dat} {k : Nat} {t : Dat} (h : bareB t = false) : chkD l k t = 1 := by simp [chkD, h]
theorem chk_range {l : List Dat} {k : Nat} {t : Dat} (h : bareB t = true) (h2 : rangeBad t = true) : chkD l k t = 3 := by simp [chkD, h, h2]
theorem chk_sym {l : List Dat} {k : Nat} {t : Dat} (h : bareB t = true) (h2 : rangeBad t = false) (h3 : symBad t = true) : chkD l k t = 5 := by simp [chkD, h, h2, h3]
theorem chk_parent {l : List Dat} {k : Nat} {t : Dat} (h : bareB t = true) (h2 : rangeBad t = false) (h3 : symBad t = false) (h4 : parBad k t.parent = true) : chkD l k t = 3 := by simp [chkD, h, h2, h3, h4]
theorem chk_line {l : List Dat} {k : Nat} {t : Dat} (h : bareB t = true) (h2 : rangeBad t = false) (h3 : symBad t = false) (h4 : parBad k t.parent = false) (h5 : (decide (0 < k) && !(lineB l k)) = true) : chkD l k t = 1 := by
  unfold chkD
  rw [h, h2, h3, h4, if_neg (by decide), if_neg (by decide), if_neg (by decide), if_neg (by decide), if_pos h5]
theorem chk_deep {l : List Dat} {k : Nat} {t : Dat} (h : bareB t = true) (h2 : rangeBad t = false) (h3 : symBad t = false) (h4 : parBad k t.parent = false) (h5 : (decide (0 < k) && !(lineB l k)) = false) : chkD l k t = if 12 < deepF l 100 (k : Int) then 2 else 0 := by
  unfold chkD
  rw [h, h2, h3, h4, h5, if_neg (by decide), if_neg (by decide), if_neg (by decide), if_neg (by decide), if_neg (by decide)]
def KF (t : Dat) : Prop := ((t.kind == 1) = true ∧ (t.kind == 2) = false ∧ (t.kind == 3) = false) ∨ ((t.kind == 1) = false ∧ (t.kind == 2) = true ∧ (t.kind == 3) = false) ∨ ((t.kind == 1) = false ∧ (t.kind == 2) = false ∧ (t.kind == 3) = true) ∨ ((t.kind == 1) = false ∧ (t.kind == 2) = false ∧ (t.kind == 3) = false)
theorem kf (t : Dat) : KF t := by
  unfold KF
  by_cases h1 : t.kind = 1
  · simp [h1]
  · by_cases h2 : t.kind = 2
    · simp [h2]
    · by_cases h3 : t.kind = 3
      · simp [h3]
      · simp [h1, h2, h3]
set_option maxRecDepth 100000 in
set_option maxHeartbeats 8000000 in
theorem l3Fault_few (g cap : Nat) (l : List Dat) (w : World) (hR : RowD w g l) (h1 : 1 ≤ (l.length : Int)) (h80 : (l.length : Int) ≤ 80) (hz : ∀ (k : Nat) (h : k < l.length), l[k].name.size ≤ 9223372036854775807) :
    Calls Tryz.prog 18 #[.slice (some ⟨g, 0, none⟩) l.length cap] w fun e w' => e = .returned (.int .i64 (faultFrom l 0 l)) ∧ w' = w := by
  have HR : Hid (RowD w g l) := hR
  have HZ : Hid (∀ (k : Nat) (h : k < l.length), l[k].name.size ≤ 9223372036854775807) := hz
  clear hR hz
  obtain ⟨R, hRe⟩ : ∃ R : Int, R = faultFrom l 0 l := ⟨_, rfl⟩
  rw [← hRe]
  have HE : Hid (R = faultFrom l 0 l) := hRe
  clear hRe
  go_enter Tryz.func18, Tryz.ntmps18
  go_wp2_with fail
  go_loopw [3, 4] (fun v x wr => ∃ k : Nat, k ≤ l.length ∧ v = .int .i64 (k : Int) ∧ Hid (okUpto l k) ∧ Hid (wr = w)) (fun v _ _ => l.length - (RowKit.intOf v).toNat)
  case atStart => exact ⟨0, Nat.zero_le _, rfl, fun j _ hj => by omega, rfl⟩
  case round =>
    obtain ⟨k, hk, rfl, HK, HW⟩ := hrel
    have hww : wr = w := HW.out
    subst hww
    by_cases hlt : k < l.length
    · obtain ⟨t, ht⟩ : ∃ t, t = l[k]'hlt := ⟨_, rfl⟩
      have HT : Hid (t = l[k]'hlt) := ht
      have hcs := HR.out k hlt
      rw [← ht] at hcs
      clear ht
      obtain ⟨c0, c1, c2, c3⟩ := hcs
      have HBr : Hid (Calls Tryz.prog 34 #[.pointer (some ⟨g, k * 4, none⟩)] wr fun e w' => e = .returned (.bool (bareB t)) ∧ w' = wr) := l3Bare_any g (k * 4) t wr c0 c2 c3
      have HRet : Hid (chkD l k t ≠ 0 → R = chkD l k t) := fun h => by rw [HE.out, fault_hit l k hlt HK.out (by rw [← HT.out]; exact h), ← HT.out]
      have HNu : Hid (∀ w, Calls Tryz.prog 35 #[.int .i64 t.num] w fun e w' => e = .returned (.bool (inB t.num)) ∧ w' = w) := fun w => l1Num_any t.num w
      have HSy : Hid (∀ w, Calls Tryz.prog 37 #[.string t.name] w fun e w' => e = .returned (.bool (symL t.name.data.toList)) ∧ w' = w) := fun w => sym_any t.name w (by rw [HT.out]; exact HZ.out k hlt)
      cases hb : bareB t
      · rw [hb] at HBr
        have HC : Hid (R = 1) := by
          have e := chk_bare (l := l) (k := k) hb
          have := HRet.out (by rw [e]; decide)
          show R = 1
          rw [this, e]
        clear hb
        go_wp2_with (go_at_call 34; refine HBr.out.mono ?_; rintro e w' ⟨rfl, rfl⟩)
        go_ret
        exact ⟨by rw [HC.out]; rfl, rfl⟩
      rw [hb] at HBr
      have HBa : Hid (bareB t = true) := hb
      clear hb
      go_upto_region 9 with (go_at_call 34; refine HBr.out.mono ?_; rintro e w' ⟨rfl, hw'⟩; replace hw' := hw'.symm; subst hw')
      go_cut [52] from 13 to 100 (fun v wx => v = .bool (rangeBad t) ∧ wx = wr)
      case first =>
        rcases kf t with ⟨e1, e2, -⟩ | ⟨e1, e2, -⟩ | ⟨e1, e2, -⟩ | ⟨e1, e2, -⟩ <;> cases hnu : inB t.num <;> cases h01 : (decide (0 ≤ t.num) && decide (t.num ≤ 1))
        all_goals
          have HV : Hid (rangeBad t = ((t.kind == 1 && !(inB t.num)) || (t.kind == 2 && !(decide (0 ≤ t.num) && decide (t.num ≤ 1))))) := rfl
          go_wp2_with (first | (go_at_call 35; refine (HNu.out _).mono ?_; rintro e w' ⟨rfl, hw'⟩; replace hw' := hw'.symm; subst hw') | (go_at_call 36; refine (l1In_any _ _ _ _).mono ?_; rintro e w' ⟨rfl, hw'⟩; replace hw' := hw'.symm; subst hw'))
          go_meet
          exact ⟨by rw [HV.out, e1, e2, hnu, h01]; rfl, rfl⟩
      case rest =>
        obtain ⟨rfl, hwc⟩ := hcut
        replace hwc := hwc.symm; subst hwc
        rcases Bool.eq_false_or_eq_true (rangeBad t) with hrb | hrb
        · rw [hrb]
          have HC : Hid (R = 3) := by
            have e := chk_range (l := l) (k := k) HBa.out hrb
            have := HRet.out (by rw [e]; decide)
            show R = 3
            rw [this, e]
          go_wp2
          go_ret
          exact ⟨by rw [HC.out]; rfl, rfl⟩
        rw [hrb]
        have HRa : Hid (rangeBad t = false) := hrb
        clear hrb
        go_upto_region 11 with fail
        go_cut [65] from 13 to 100 (fun v wx => v = .bool (symBad t) ∧ wx = wr)
        case first =>
          rcases kf t with ⟨-, -, e3⟩ | ⟨-, -, e3⟩ | ⟨-, -, e3⟩ | ⟨-, -, e3⟩ <;> cases hsy : symL t.name.data.toList
          all_goals
            have HV : Hid (symBad t = (t.kind == 3 && !(symL t.name.data.toList))) := rfl
            go_wp2_with (go_at_call 37; refine (HSy.out _).mono ?_; rintro e w' ⟨rfl, hw'⟩; replace hw' := hw'.symm; subst hw')
            go_meet
            exact ⟨by rw [HV.out, e3, hsy]; rfl, rfl⟩
        case rest =>
          obtain ⟨rfl, hwc⟩ := hcut
          replace hwc := hwc.symm; subst hwc
          rcases Bool.eq_false_or_eq_true (symBad t) with hsb | hsb
          · rw [hsb]
            have HC : Hid (R = 5) := by
              have e := chk_sym (l := l) (k := k) HBa.out HRa.out hsb
              have := HRet.out (by rw [e]; decide)
              show R = 5
              rw [this, e]
            go_wp2
            go_ret
            exact ⟨by rw [HC.out]; rfl, rfl⟩
          rw [hsb]
          have HSa : Hid (symBad t = false) := hsb
          clear hsb
          go_upto_region 13 with fail
          go_cut [88] from 13 to 100 (fun v wx => v = .bool (parBad k t.parent) ∧ wx = wr)
          case first =>
            by_cases hk0 : k = 0
            · have hkz : ((k : Int) == 0) = true := by rw [beq_iff_eq]; omega
              have HV : Hid (parBad k t.parent = (t.parent != -1)) := by show parBad k t.parent = _; rw [hk0]; simp [parBad]
              have hkn : ¬ 0 < (k : Int) := by omega
              clear hk0
              cases hm : (t.parent != -1)
              all_goals
                go_wp2
                go_meet
                exact ⟨by rw [HV.out, hm], rfl⟩
            · have hkz : ((k : Int) == 0) = false := by rw [beq_eq_false_iff_ne]; omega
              have hkp : 0 < (k : Int) := by omega
              have HV : Hid (parBad k t.parent = !(decide (0 ≤ t.parent) && decide (t.parent ≤ (k : Int) - 1))) := by
                have h1 : (k == 0) = false := by simpa using hk0
                have h2 : 0 < k := by omega
                show parBad k t.parent = _
                simp [parBad, h1, h2]
              clear hk0
              cases hin : (decide (0 ≤ t.parent) && decide (t.parent ≤ (k : Int) - 1))
              all_goals
                go_wp2_with (go_at_call 36; refine (l1In_any _ _ _ _).mono ?_; rintro e w' ⟨rfl, hw'⟩; replace hw' := hw'.symm; subst hw')
                go_meet
                exact ⟨by rw [HV.out, hin]; rfl, rfl⟩
          case rest =>
            obtain ⟨rfl, hwc⟩ := hcut
            replace hwc := hwc.symm; subst hwc
            rcases Bool.eq_false_or_eq_true (parBad k t.parent) with hpb | hpb
            · rw [hpb]
              have HC : Hid (R = 3) := by
                have e := chk_parent (l := l) (k := k) HBa.out HRa.out HSa.out hpb
                have := HRet.out (by rw [e]; decide)
                show R = 3
                rw [this, e]
              go_wp2
              go_ret
              exact ⟨by rw [HC.out]; rfl, rfl⟩
            rw [hpb]
            have HPa : Hid (parBad k t.parent = false) := hpb
            clear hpb
            have HPl : Hid (∀ (j : Nat) (h : j < l.length), j < k → l[j].parent < (j : Int)) := fun j h hj => (chk_par (HK.out j h hj)).1
            have HPm : Hid (∀ (j : Nat) (h : j < l.length), j ≤ k → l[j].parent ≤ (j : Int)) := fun j h hj => by
              by_cases e : j < k
              · have := HPl.out j h e; omega
              · have : j = k := by omega
                subst this
                have := (parBad_lt HPa.out).1
                rw [← HT.out]; omega
            go_upto_region 15 with fail
            go_cut [96] from 13 to 100 (fun v wx => v = .bool (decide (0 < k) && !(lineB l k)) ∧ wx = wr)
            case first =>
              by_cases hk0 : 0 < (k : Int)
              · have HV : Hid ((decide (0 < k) && !(lineB l k)) = !(lineB l k)) := by
                  have h2 : 0 < k := by omega
                  show (decide (0 < k) && !(lineB l k)) = _
                  simp [h2]
                have HLi : Hid (Calls Tryz.prog 38 #[.slice (some ⟨g, 0, none⟩) l.length cap, .int .i64 (k : Int)] wr fun e w' => e = .returned (.bool (lineB l k)) ∧ w' = wr) := l3Line_any g cap l wr k HR.out hlt (by omega) (by omega) HPl.out
                cases hli : lineB l k
                all_goals
                  rw [hli] at HLi
                  go_wp2_with (go_at_call 38; refine HLi.out.mono ?_; rintro e w' ⟨rfl, hw'⟩; replace hw' := hw'.symm; subst hw')
                  go_meet
                  exact ⟨by rw [HV.out, hli]; rfl, rfl⟩
              · have HV : Hid ((decide (0 < k) && !(lineB l k)) = false) := by
                  have h2 : ¬ 0 < k := by omega
                  show (decide (0 < k) && !(lineB l k)) = _
                  simp [h2]
                go_wp2
                go_meet
                exact ⟨by rw [HV.out], rfl⟩
            case rest =>
              obtain ⟨rfl, hwc⟩ := hcut
              replace hwc := hwc.symm; subst hwc
              rcases Bool.eq_false_or_eq_true (decide (0 < k) && !(lineB l k)) with hlb | hlb
              · rw [hlb]
                have HC : Hid (R = 1) := by
                  have e := chk_line (l := l) (k := k) HBa.out HRa.out HSa.out HPa.out hlb
                  have := HRet.out (by rw [e]; decide)
                  show R = 1
                  rw [this, e]
                go_wp2
                go_ret
                exact ⟨by rw [HC.out]; rfl, rfl⟩
              rw [hlb]
              have HD : Hid (Calls Tryz.prog 39 #[.slice (some ⟨g, 0, none⟩) l.length cap, .int .i64 (k : Int)] wr fun e w' => e = .returned (.int .i64 (deepF l 100 (k : Int) : Nat)) ∧ w' = wr) := l3Deep_any g cap l wr k (k : Int) HR.out hlt HPm.out (Int.le_refl _)
              have HCk : Hid (chkD l k t = if 12 < deepF l 100 (k : Int) then 2 else 0) := chk_deep HBa.out HRa.out HSa.out HPa.out hlb
              clear hlb
              generalize deepF l 100 (k : Int) = dp at HD HCk
              by_cases h12 : 12 < (dp : Int)
              · have HC : Hid (R = 2) := by
                  have e := HCk.out
                  rw [if_pos (by omega)] at e
                  have := HRet.out (by rw [e]; decide)
                  show R = 2
                  rw [this, e]
                go_wp2_with (go_at_call 39; refine HD.out.mono ?_; rintro e w' ⟨rfl, hw'⟩; replace hw' := hw'.symm; subst hw')
                go_ret
                exact ⟨by rw [HC.out]; rfl, rfl⟩
              · have HN : Hid (okUpto l (k + 1)) := okUpto_next HK.out hlt (by
                  have e := HCk.out
                  rw [if_neg (by omega)] at e
                  rw [← HT.out]; exact e)
                go_wp2_with (go_at_call 39; refine HD.out.mono ?_; rintro e w' ⟨rfl, hw'⟩; replace hw' := hw'.symm; subst hw')
                exact ⟨⟨k + 1, by omega, by go_num, HN.out, trivial⟩, by simp [RowKit.intOf]; omega⟩
    · have HC : Hid (R = 0) := by
        have hkl : k = l.length := by omega
        have hok := HK.out
        rw [hkl] at hok
        show R = 0
        rw [HE.out, fault_end l hok]
      go_wp2
      go_ret
      exact ⟨by rw [HC.out]; rfl, rfl⟩
theorem l3Fault_none (ao : Option Addr) (n cap : Nat) (w : World) (h : (n : Int) < 1) :
    Calls Tryz.prog 18 #[.slice ao n cap] w fun e w' => e = .returned (.int .i64 2) ∧ w' = w := by
  go_enter Tryz.func18, Tryz.ntmps18
  go_wp2
  go_ret
  exact ⟨rfl, rfl⟩
theorem l3Fault_many (ao : Option Addr) (n cap : Nat) (w : World) (h1 : ¬ (n : Int) < 1) (h : 80 < (n : Int)) :
    Calls Tryz.prog 18 #[.slice ao n cap] w fun e w' => e = .returned (.int .i64 2) ∧ w' = w := by
  go_enter Tryz.func18, Tryz.ntmps18
  go_wp2
  go_ret
  exact ⟨rfl, rfl⟩
theorem l3Fault_any (ao : Option Addr) (cap base : Nat) (l : List Dat) (w : World) (h : w.ownsRow base 49 4 (.slice ao l.length cap) l.length (cellsD l)) (hz : ∀ (k : Nat) (h : k < l.length), l[k].name.size ≤ 9223372036854775807) :
    Calls Tryz.prog 18 #[.slice ao l.length cap] w fun e w' => e = .returned (.int .i64 (dataFault l)) ∧ w' = w := by
  by_cases h1 : (l.length : Int) < 1
  · have e : dataFault l = 2 := by unfold dataFault; rw [if_pos (by omega)]
    rw [e]; exact l3Fault_none ao l.length cap w h1
  · by_cases h2 : 80 < (l.length : Int)
    · have e : dataFault l = 2 := by unfold dataFault; rw [if_pos (by omega)]
      rw [e]; exact l3Fault_many ao l.length cap w h1 h2
    · have e : dataFault l = faultFrom l 0 l := by unfold dataFault; rw [if_neg (by omega)]
      rw [e]
      obtain ⟨g, c, hv, _, _⟩ := h.form (by omega)
      obtain ⟨rfl, rfl⟩ : ao = some ⟨g, 0, none⟩ ∧ cap = c := by simp at hv; exact hv
      exact l3Fault_few g cap l w (RowD.of h) (by omega) (by omega) hz
theorem name_le {l : List Dat} (h : ∀ (k : Nat) (h : k < l.length), l[k].name.size ≤ 1048576) : ∀ (k : Nat) (h : k < l.length), l[k].name.size ≤ 9223372036854775807 := fun k hk => by have := h k hk; omega
end Go.Proofs.YtfdkklhigliciaaGreatDoor
