/-
  Parts of the proof laid into one text, one behind the other; each says at its head what is proved in it.
-/
import Derived.Deep.QuietTactic
import Derived.BigQuiet
import Derived.Below
import Derived.WalkKit
import Derived.Test.YtebnonpdaddniaaGreatDoorHtA
import Derived.OwnWalk
import Derived.Deep.AppendLies
import Derived.Laws.MakeOwn
import Derived.WalkSmall
/-
  A region that draws its order, whose own operations only read, and whose callees turn nothing that was there, walked once, in the order of the text: a class of worlds for the library's theorem; no program in it.
-/
namespace Go.Proofs.YtebnonpdaddniaaGreatDoor
open Go.RowKit

/-- A world in which all that lay in W lies as it lay. -/
structure BW (W : World) where
  x : World
  h : Below W.heap.size W x
theorem wp_region_below {P : Program} {id : Nat} {Q : Exit → Act → World → Prop} {a : Act} {w : World} {l : List Oper} (hm : P.follows .mixedOrders = true) (hB : Region.lexB .any l.toArray = true)
    (h : wpQuiet P l.toArray (fun w' => ∃ p : BW w, w' = p.x) (fun a' => ∀ w', (∃ p : BW w, w' = p.x) → Q .normal a' w') l a) : (Code.region id l.toArray true).wp P Q a w :=
  wp_region_quiet (C := fun w' => ∃ p : BW w, w' = p.x) hm hB ⟨⟨w.drew, (Below.refl _ _).drew⟩, rfl⟩ (by simpa using h)
theorem bw_some (W : World) : Nonempty (BW W) := ⟨⟨W, Below.refl _ _⟩⟩
/-- A callee's contract, met in a world of the class. -/
theorem calls_bw {P : Program} {f : FuncId} {args : Array Value} {W : World} {p : BW W} {v : Value}
    (h : Calls P f args p.x fun e w' => e = .returned v ∧ Below p.x.heap.size p.x w') : Calls P f args p.x fun e w'' => e = .returned v ∧ ∃ p' : BW W, w'' = p'.x :=
  h.mono fun _ w' ⟨he, hb⟩ => ⟨he, ⟨w', p.h.trans (hb.mono p.h.size)⟩, rfl⟩
theorem cell_keep {W w' : World} {a : Addr} {v : Value} (hb : Below W.heap.size W w') (h : W.cell? a = some v) : w'.cell? a = some v := by
  have hlt : a.block < W.heap.size := by
    rcases Nat.lt_or_ge a.block W.heap.size with h' | h'
    · exact h'
    · simp [World.cell?, Array.getElem?_eq_none h'] at h
  rw [hb.cell hlt]; exact h
theorem cell_laid {W : World} {a : Addr} {v : Value} (o : Obj) (h : W.cell? a = some v) : (W.alloc o).cell? a = some v :=
  cell_keep ((Below.refl _ _).alloc (Nat.le_refl _) _) h
theorem BW.cell {W : World} (p : BW W) {a : Addr} {v : Value} (h : W.cell? a = some v) : p.x.cell? a = some v := cell_keep p.h h
end Go.Proofs.YtebnonpdaddniaaGreatDoor
/-
  Rows of cells that a slice owns: laws of no one struct (what a store, another block, a callee leave of them).
-/
namespace Go.Proofs.YtebnonpdaddniaaGreatDoor
open Go.RowKit Go.Extern.Stop Go.Stop Go.Extern Num Go.Lib

theorem own_below {w w' : World} {base : Nat} {e : TypeId} {size : Nat} {v : Value} {n : Nat} {xs : List Value} (h : w.ownsRow base e size v n xs) (hb : Below w.heap.size w w') : w'.ownsRow base e size v n xs := by
  refine ⟨h.1, ?_⟩
  rcases h.2 with hn | ⟨g, cap, cur, rfl, hbg, hgg, rest⟩
  · exact .inl hn
  · refine .inr ⟨g, cap, cur, rfl, hbg, ?_, rest⟩
    rw [hb.block g (Array.getElem?_eq_some_iff.1 hgg).1]; exact hgg
theorem heap_new' (w : World) (o : Obj) (n : Nat) (h : w.heap.size = n) : (w.alloc o).heap[n]? = some o := by subst h; exact heap_alloc_new w o
theorem own_set {w : World} {base : Nat} {e : TypeId} {size g n cap : Nat} {xs : List Value} (h : w.ownsRow base e size (.slice (some ⟨g, 0, none⟩) n cap) n xs) {p : Addr} (hp : g ≠ p.block) (u : Value) : (w.setCell p u).ownsRow base e size (.slice (some ⟨g, 0, none⟩) n cap) n xs := by
  refine ⟨h.1, ?_⟩
  rcases h.2 with hn | ⟨g', cap', cur, hv, hbg, hgg, rest⟩
  · exact .inl hn
  · refine .inr ⟨g', cap', cur, hv, hbg, ?_, rest⟩
    have : g' = g := by simp at hv; omega
    subst this
    rw [Below.heap_setCell _ _ _ _ hp]; exact hgg
theorem own_form {w : World} {base : Nat} {e : TypeId} {size n : Nat} {v : Value} {xs : List Value} (h : w.ownsRow base e size v n xs) : ∃ ao cap, v = .slice ao n cap := by
  rcases h.2 with ⟨rfl, rfl⟩ | ⟨g, cap, cur, rfl, _⟩
  · exact ⟨none, 0, rfl⟩
  · exact ⟨_, _, rfl⟩
theorem own_base {w : World} {base base' : Nat} {e : TypeId} {size n : Nat} {v : Value} {xs : List Value} (h : w.ownsRow base e size v n xs) (hb : base' ≤ base) : w.ownsRow base' e size v n xs := by
  refine ⟨h.1, ?_⟩
  rcases h.2 with hn | ⟨g, cap, cur, rfl, hbg, rest⟩
  · exact .inl hn
  · exact .inr ⟨g, cap, cur, rfl, by omega, rest⟩
theorem own_set' {w : World} {base : Nat} {e : TypeId} {size n : Nat} {v : Value} {xs : List Value} (h : w.ownsRow base e size v n xs) {p : Addr} (hp : ∀ g, v.ownBlock = some g → g ≠ p.block) (u : Value) : (w.setCell p u).ownsRow base e size v n xs := by
  refine ⟨h.1, ?_⟩
  rcases h.2 with hn | ⟨g, cap, cur, rfl, hbg, hgg, rest⟩
  · exact .inl hn
  · refine .inr ⟨g, cap, cur, rfl, hbg, ?_, rest⟩
    rw [Below.heap_setCell _ _ _ _ (hp g rfl)]; exact hgg
theorem own_set_low {w : World} {base b : Nat} {e : TypeId} {size n : Nat} {v : Value} {xs : List Value} (h : w.ownsRow base e size v n xs) (hb : b < base) {o : Nat} (u : Value) : (w.setCell ⟨b, o, none⟩ u).ownsRow base e size v n xs :=
  own_set' h (fun g hg => by have := (h.lt g hg).1; show g ≠ b; omega) u
theorem own_put {w : World} {base : Nat} {e : TypeId} {size g n cap : Nat} {xs : List Value} (h : w.ownsRow base e size (.slice (some ⟨g, 0, none⟩) n cap) n xs) (j : Nat) (u : Value) : (w.setCell ⟨g, j, none⟩ u).ownsRow base e size (.slice (some ⟨g, 0, none⟩) n cap) n (xs.set j u) := by
  refine ⟨by rw [List.length_set]; exact h.1, ?_⟩
  rcases h.2 with ⟨hv, _⟩ | ⟨g', cap', cur, hv, hbg, hgg, h1, h2, h3, h4⟩
  · simp at hv
  · obtain ⟨rfl, rfl⟩ : g' = g ∧ cap' = cap := by simp at hv; exact ⟨hv.1.symm, hv.2.symm⟩
    refine .inr ⟨g', cap', _, rfl, hbg, heap_setCell_same w g' j cur e u hgg, h1, h2, ?_, ?_⟩
    · simp [h3]
    · rw [← h4]
      simp [List.take_set]
theorem own_frozen {w : World} {base : Nat} {e : TypeId} {size g n cap : Nat} {xs : List Value} (h : w.ownsRow base e size (.slice (some ⟨g, 0, none⟩) n cap) n xs) (j : Nat) : w.frozen? ⟨g, j, none⟩ = false := by
  rcases h.2 with ⟨hv, _⟩ | ⟨g', cap', cur, hv, hbg, hgg, _⟩
  · simp at hv
  · obtain rfl : g' = g := by simp at hv; exact hv.1.symm
    simp [World.frozen?, hgg]
theorem own_cell {w : World} {base : Nat} {e : TypeId} {size g n cap : Nat} {xs : List Value} (h : w.ownsRow base e size (.slice (some ⟨g, 0, none⟩) n cap) n xs) (j : Nat) (hj : j < xs.length) : ∃ u, w.cell? ⟨g, j, none⟩ = some u := by
  have ha : ∀ j, (⟨g, 0, none⟩ : Addr).add j = ⟨g, j, none⟩ := fun j => by unfold Addr.add; split <;> simp_all
  exact ⟨xs[j], by rw [← ha]; exact h.cells (g := g) rfl j _ (by simp)⟩
theorem gb_below {w a b : World} {r : Option Nat} (h : w.grownBy a r) (hb : Below a.heap.size a b) : w.grownBy b r :=
  ⟨hb.os.trans h.os, hb.tape.trans h.tape, hb.output.trans h.output, Nat.le_trans h.size hb.size, fun k hk hn => (hb.block k (Nat.lt_of_lt_of_le hk h.size)).trans (h.block k hk hn)⟩
theorem gb_set {w a : World} {g j : Nat} (h : w.grownBy a (some g)) (u : Value) : w.grownBy (a.setCell ⟨g, j, none⟩ u) (some g) :=
  ⟨h.os, h.tape, h.output, by simpa using h.size, fun k hk hn => (Below.heap_setCell _ _ _ _ (by intro e; apply hn; rw [e])).trans (h.block k hk hn)⟩
theorem gb_refl (w : World) (r : Option Nat) : w.grownBy w r := ⟨rfl, rfl, rfl, Nat.le_refl _, fun _ _ _ => rfl⟩
/-- A row lies as it lay behind a change of another row. -/
theorem own_apart {w w' : World} {base : Nat} {e : TypeId} {size n : Nat} {v : Value} {xs : List Value} {r : Option Nat} (h : w.ownsRow base e size v n xs) (hg : w.grownBy w' r) (hn : ∀ g, v.ownBlock = some g → r ≠ some g) : w'.ownsRow base e size v n xs :=
  h.kept hg (by
    cases hv : v.ownBlock with
    | none => exact Or.inl rfl
    | some g => exact Or.inr (fun e => hn g hv e.symm))
theorem below_of_grown {w w' : World} {B : Nat} {r : Option Nat} (hg : w.grownBy w' r) (hB : B ≤ w.heap.size) (hr : ∀ k, r = some k → B ≤ k) : Below B w w' := (Below.refl B w).grown hg hB hr
end Go.Proofs.YtebnonpdaddniaaGreatDoor
/-
  Datum, a struct of 4 cells, and slices of it: what the laws' eqDatum, eqDatumS, toDatum, toDatumS, szDatum and szDatumS answer; nothing that was there is turned.
-/
namespace Go.Proofs.YtebnonpdaddniaaGreatDoor
open Go.RowKit Go.Extern.Stop Go.Stop Go.Extern Num Go.Lib

structure Dat where
  kind : Int
  parent : Int
  num : Int
  name : ByteArray
abbrev Dat.val (t : Dat) : Value := .agg #[.int .i64 t.kind, .int .i64 t.parent, .int .i64 t.num, .string t.name]
def Dat.cells (t : Dat) : List Value := [.int .i64 t.kind, .int .i64 t.parent, .int .i64 t.num, .string t.name]
def cellsD : List Dat → List Value
  | [] => []
  | t :: r => t.cells ++ cellsD r
theorem cellsD_append (a b : List Dat) : cellsD (a ++ b) = cellsD a ++ cellsD b := by
  induction a with
  | nil => rfl
  | cons t r ih => simp [cellsD, ih]
theorem cellsD_length (l : List Dat) : (cellsD l).length = l.length * 4 := by
  induction l with
  | nil => rfl
  | cons t r ih => simp [cellsD, Dat.cells, ih]; omega
theorem cellsD_one (l : List Dat) : ∀ u ∈ cellsD l, u.oneCell' = true := by
  induction l with
  | nil => intro u h; cases h
  | cons t r ih =>
    intro u h
    simp only [cellsD, Dat.cells, List.mem_append, List.mem_cons, List.not_mem_nil, or_false] at h
    rcases h with (rfl | rfl | rfl | rfl) | h
    · rfl
    · rfl
    · rfl
    · rfl
    · exact ih u h
theorem cellsD_at (l : List Dat) (k : Nat) (h : k < l.length) : (cellsD l)[k * 4]? = some (.int .i64 l[k].kind) ∧ (cellsD l)[k * 4 + 1]? = some (.int .i64 l[k].parent) ∧ (cellsD l)[k * 4 + 2]? = some (.int .i64 l[k].num) ∧ (cellsD l)[k * 4 + 3]? = some (.string l[k].name) := by
  induction l generalizing k with
  | nil => cases h
  | cons t r ih =>
    cases k with
    | zero => exact ⟨rfl, rfl, rfl, rfl⟩
    | succ k =>
      have hk : k < r.length := by simpa using h
      have := ih k hk
      have e : ∀ j, (cellsD (t :: r))[j + 4]? = (cellsD r)[j]? := fun j => by
        show (t.cells ++ cellsD r)[j + 4]? = _
        rw [List.getElem?_append_right (by simp [Dat.cells])]
        simp [Dat.cells]
      have e1 : (k + 1) * 4 = k * 4 + 4 := by omega
      rw [e1, show k * 4 + 4 + 1 = k * 4 + 1 + 4 by omega, show k * 4 + 4 + 2 = k * 4 + 2 + 4 by omega, show k * 4 + 4 + 3 = k * 4 + 3 + 4 by omega, e, e, e, e]
      simpa using this
theorem takeD (l : List Dat) (k : Nat) (h : k < l.length) : l.take (k + 1) = l.take k ++ [l[k]] := by
  rw [List.take_add_one, List.getElem?_eq_getElem h]; rfl
theorem infoD : (Tryz.prog.info? 100).map (fun i => (i.zero, i.size, i.bytes)) = some (some (.agg #[.int .i64 0, .int .i64 0, .int .i64 0, .string ⟨#[]⟩]), 4, 40) := by kernel_rfl
theorem rowD_at {w : World} {base g cap : Nat} {l : List Dat} (h : w.ownsRow base 100 4 (.slice (some ⟨g, 0, none⟩) l.length cap) l.length (cellsD l)) (k : Nat) (hk : k < l.length) :
    w.cell? ⟨g, k * 4, none⟩ = some (.int .i64 l[k].kind) ∧ w.cell? ⟨g, k * 4 + 1, none⟩ = some (.int .i64 l[k].parent) ∧ w.cell? ⟨g, k * 4 + 2, none⟩ = some (.int .i64 l[k].num) ∧ w.cell? ⟨g, k * 4 + 3, none⟩ = some (.string l[k].name) := by
  have ha : ∀ j, (⟨g, 0, none⟩ : Addr).add j = ⟨g, j, none⟩ := fun j => by unfold Addr.add; split <;> simp_all
  have hc := h.cells (g := g) rfl
  obtain ⟨h0, h1, h2, h3⟩ := cellsD_at l k hk
  exact ⟨by rw [← ha]; exact hc _ _ h0, by rw [← ha]; exact hc _ _ h1, by rw [← ha]; exact hc _ _ h2, by rw [← ha]; exact hc _ _ h3⟩
theorem eqD_same (t : Dat) (w : World) :
    Calls Tryz.prog 67 #[t.val, t.val] w fun e w' => e = .returned (.bool true) ∧ Below w.heap.size w w' := by
  go_enter Tryz.func67, Tryz.ntmps67
  go_wp2
  go_ret
  refine ⟨rfl, ?_⟩
  repeat (first | exact Below.refl _ _ | refine Below.alloc ?_ (by simp <;> omega) _ | refine Below.drew ?_)
theorem eqDS_nil (ao bo : Option Addr) (ca cb : Nat) (w : World) :
    Calls Tryz.prog 26 #[.slice ao 0 ca, .slice bo 0 cb] w fun e w' => e = .returned (.bool true) ∧ Below w.heap.size w w' := by
  go_enter Tryz.func26, Tryz.ntmps26
  go_wp2_with fail
  go_loop [5] (fun i => i = .int .i64 0) (fun _ => 0)
  case atStart => rfl
  case round =>
    obtain rfl := hrel
    go_wp2
    go_ret
    exact ⟨rfl, Below.refl _ _⟩
set_option maxRecDepth 100000 in
set_option maxHeartbeats 1000000 in
theorem eqDS_some (g1 g2 c1 c2 b1 b2 : Nat) (l : List Dat) (w : World) (hl : l.length ≤ 1048576) (h1 : w.ownsRow b1 100 4 (.slice (some ⟨g1, 0, none⟩) l.length c1) l.length (cellsD l)) (h2 : w.ownsRow b2 100 4 (.slice (some ⟨g2, 0, none⟩) l.length c2) l.length (cellsD l)) :
    Calls Tryz.prog 26 #[.slice (some ⟨g1, 0, none⟩) l.length c1, .slice (some ⟨g2, 0, none⟩) l.length c2] w fun e w' => e = .returned (.bool true) ∧ Below w.heap.size w w' := by
  have H1 : Hid _ := fun k hk => rowD_at h1 k hk
  have H2 : Hid _ := fun k hk => rowD_at h2 k hk
  clear h1 h2
  go_enter Tryz.func26, Tryz.ntmps26
  go_wp2_with fail
  go_loopw [5] (fun i wr => ∃ k : Nat, k ≤ l.length ∧ i = .int .i64 (k : Int) ∧ Below w.heap.size w wr) (fun i _ => l.length - (RowKit.intOf i).toNat)
  case atStart => exact ⟨0, Nat.zero_le _, rfl, Below.refl _ _⟩
  case round =>
    obtain ⟨k, hk, rfl, hb⟩ := hrel
    have HB : Hid (Below w.heap.size w wr) := hb
    clear hb
    by_cases hlt : k < l.length
    · have HT : Hid (∀ w, Calls Tryz.prog 67 #[(l[k]'hlt).val, (l[k]'hlt).val] w fun e w' => e = .returned (.bool true) ∧ Below w.heap.size w w') := fun w => eqD_same _ w
      have a0 : ∀ p : BW wr, p.x.cell? ⟨g1, k * 4, none⟩ = some (.int .i64 (l[k]'hlt).kind) := fun p => p.cell (cell_keep HB.out (H1.out k hlt).1)
      have a1 : ∀ p : BW wr, p.x.cell? ⟨g1, k * 4 + 1, none⟩ = some (.int .i64 (l[k]'hlt).parent) := fun p => p.cell (cell_keep HB.out (H1.out k hlt).2.1)
      have a2 : ∀ p : BW wr, p.x.cell? ⟨g1, k * 4 + 2, none⟩ = some (.int .i64 (l[k]'hlt).num) := fun p => p.cell (cell_keep HB.out (H1.out k hlt).2.2.1)
      have a3 : ∀ p : BW wr, p.x.cell? ⟨g1, k * 4 + 3, none⟩ = some (.string (l[k]'hlt).name) := fun p => p.cell (cell_keep HB.out (H1.out k hlt).2.2.2)
      have d0 : ∀ p : BW wr, p.x.cell? ⟨g2, k * 4, none⟩ = some (.int .i64 (l[k]'hlt).kind) := fun p => p.cell (cell_keep HB.out (H2.out k hlt).1)
      have d1 : ∀ p : BW wr, p.x.cell? ⟨g2, k * 4 + 1, none⟩ = some (.int .i64 (l[k]'hlt).parent) := fun p => p.cell (cell_keep HB.out (H2.out k hlt).2.1)
      have d2 : ∀ p : BW wr, p.x.cell? ⟨g2, k * 4 + 2, none⟩ = some (.int .i64 (l[k]'hlt).num) := fun p => p.cell (cell_keep HB.out (H2.out k hlt).2.2.1)
      have d3 : ∀ p : BW wr, p.x.cell? ⟨g2, k * 4 + 3, none⟩ = some (.string (l[k]'hlt).name) := fun p => p.cell (cell_keep HB.out (H2.out k hlt).2.2.2)
      have hne := bw_some wr
      go_wp2_with fail
      refine wp_region_below (by kernel_rfl) (by kernel_rfl) ?_
      repeat (go_big_quiet_step ((go_at_call 67; exact calls_bw (HT.out _))))
      refine wpQuiet_nil ?_
      intro wq hw'
      obtain ⟨⟨_, bq⟩, rfl⟩ := hw'
      have HB2 : Hid _ := HB.out.trans (bq.mono HB.out.size)
      clear bq a0 a1 a2 a3 d0 d1 d2 d3 hne
      go_wp2
      exact ⟨⟨k + 1, by omega, by go_num, HB2.out⟩, by simp [RowKit.intOf]; omega⟩
    · go_wp2
      go_ret
      exact ⟨rfl, HB.out⟩
theorem eqDS_same (a b : Value) (b1 b2 : Nat) (l : List Dat) (w : World) (hl : l.length ≤ 1048576) (h1 : w.ownsRow b1 100 4 a l.length (cellsD l)) (h2 : w.ownsRow b2 100 4 b l.length (cellsD l)) :
    Calls Tryz.prog 26 #[a, b] w fun e w' => e = .returned (.bool true) ∧ Below w.heap.size w w' := by
  cases l with
  | nil =>
    obtain ⟨ao, ca, rfl⟩ := own_form h1
    obtain ⟨bo, cb, rfl⟩ := own_form h2
    exact eqDS_nil ao bo ca cb w
  | cons t r =>
    obtain ⟨g1, c1, rfl, _, _⟩ := h1.form (by simp)
    obtain ⟨g2, c2, rfl, _, _⟩ := h2.form (by simp)
    exact eqDS_some g1 g2 c1 c2 b1 b2 (t :: r) w hl h1 h2

theorem toD_any (t : Dat) (w : World) :
    Calls Tryz.prog 62 #[t.val] w fun e w' => e = .returned t.val ∧ Below w.heap.size w w' := by
  go_enter Tryz.func62, Tryz.ntmps62
  go_wp2
  exact bodyPost_ret (v := t.val) (by simp [results, Tryz.results62, go_sem]) rfl ⟨rfl, by
    repeat (first | exact Below.refl _ _ | refine Below.setCell ?_ (by simp) _ | refine Below.alloc ?_ (by simp <;> omega) _)⟩
theorem szD_far (t : Dat) (n : Nat) (w : World) (hz : t.name.size ≤ 9223372036854775807) (hn : n ≤ 1048576) (h : n < t.name.size) :
    Calls Tryz.prog 59 #[t.val, .int .i64 (n : Int)] w fun e w' => e = .returned (.int .i64 (-1)) ∧ Below w.heap.size w w' := by
  go_enter Tryz.func59, Tryz.ntmps59
  go_wp2
  go_ret
  exact ⟨rfl, by repeat (first | exact Below.refl _ _ | refine Below.setCell ?_ (by simp) _ | refine Below.alloc ?_ (by simp <;> omega) _)⟩
theorem szD_near (t : Dat) (n : Nat) (w : World) (hn : n ≤ 1048576) (h : t.name.size ≤ n) :
    Calls Tryz.prog 59 #[t.val, .int .i64 (n : Int)] w fun e w' => e = .returned (.int .i64 ((n - t.name.size : Nat) : Int)) ∧ Below w.heap.size w w' := by
  have e : ((n - t.name.size : Nat) : Int) = (n : Int) - (t.name.size : Int) := by omega
  rw [e]
  clear e
  go_enter Tryz.func59, Tryz.ntmps59
  go_wp2
  go_ret
  exact ⟨rfl, by repeat (first | exact Below.refl _ _ | refine Below.setCell ?_ (by simp) _ | refine Below.alloc ?_ (by simp <;> omega) _)⟩
/-- What lies where a slice leads that came in. -/
def MemD (w : World) (a : Option Addr) (l : List Dat) : Prop :=
  0 < l.length → ∃ b off, a = some ⟨b, off, none⟩ ∧ ∀ (k : Nat) (h : k < l.length), w.cell? ⟨b, off + k * 4, none⟩ = some (.int .i64 l[k].kind) ∧ w.cell? ⟨b, off + k * 4 + 1, none⟩ = some (.int .i64 l[k].parent) ∧ w.cell? ⟨b, off + k * 4 + 2, none⟩ = some (.int .i64 l[k].num) ∧ w.cell? ⟨b, off + k * 4 + 3, none⟩ = some (.string l[k].name)
theorem MemD.below {w w' : World} {a : Option Addr} {l : List Dat} (h : MemD w a l) (hb : Below w.heap.size w w') : MemD w' a l := by
  intro hl
  obtain ⟨b, off, e, hc⟩ := h hl
  exact ⟨b, off, e, fun k hk => ⟨cell_keep hb (hc k hk).1, cell_keep hb (hc k hk).2.1, cell_keep hb (hc k hk).2.2.1, cell_keep hb (hc k hk).2.2.2⟩⟩
/-- How much a slice holds. -/
def SZD (l : List Dat) (w : World) (e : Ending) (w' : World) : Prop :=
  ((e = .returned (.int .i64 (-1))) ∨ (∃ q : Nat, q ≤ 1048576 ∧ e = .returned (.int .i64 (q : Int)) ∧ l.length ≤ 1048576 ∧ ∀ (k : Nat) (h : k < l.length), l[k].name.size ≤ 1048576)) ∧ Below w.heap.size w w'
set_option maxHeartbeats 1000000 in
theorem szDS_any (a : Option Addr) (c : Nat) (l : List Dat) (w : World) (n0 : Nat) (hn0 : n0 ≤ 1048576) (hl0 : l.length ≤ 9223372036854775807) (h : MemD w a l) (hz : ∀ (k : Nat) (h : k < l.length), l[k].name.size ≤ 9223372036854775807) :
    Calls Tryz.prog 21 #[.slice a l.length c, .int .i64 (n0 : Int)] w fun e w' => SZD l w e w' := by
  have HT : Hid (MemD w a l) := h
  have HZ : Hid (∀ (k : Nat) (h : k < l.length), l[k].name.size ≤ 9223372036854775807) := hz
  clear h hz
  by_cases hl : n0 < l.length
  · go_enter Tryz.func21, Tryz.ntmps21
    go_wp2
    go_ret
    exact ⟨Or.inl rfl, Below.refl _ _⟩
  go_enter Tryz.func21, Tryz.ntmps21
  go_wp2_with fail
  go_loopw [1, 5] (fun v i wr => ∃ k n : Nat, k ≤ l.length ∧ n ≤ 1048576 ∧ v = .int .i64 (n : Int) ∧ i = .int .i64 (k : Int) ∧ Hid (∀ (j : Nat) (h : j < l.length), j < k → l[j].name.size ≤ 1048576) ∧ Below w.heap.size w wr) (fun _ i _ => l.length - (RowKit.intOf i).toNat)
  case atStart => exact ⟨0, n0 - l.length, Nat.zero_le _, by omega, by congr 1; omega, rfl, fun j _ hj => by omega, Below.refl _ _⟩
  case round =>
    obtain ⟨k, n, hk, hn, rfl, rfl, HJ, hb⟩ := hrel
    have HB : Hid (Below w.heap.size w wr) := hb
    clear hb
    by_cases hlt : k < l.length
    · obtain ⟨b, off, rfl, hc⟩ := (HT.out.below HB.out) (by omega)
      obtain ⟨c0, c1, c2, c3⟩ := hc k hlt
      clear hc
      by_cases hs : n < (l[k]'hlt).name.size
      · have HX : Hid (∀ w, Calls Tryz.prog 59 #[(l[k]'hlt).val, .int .i64 (n : Int)] w fun e w' => e = .returned (.int .i64 (-1)) ∧ Below w.heap.size w w') := fun w => szD_far _ n w (HZ.out k hlt) hn hs
        clear hs
        go_wp2_with (go_at_call 59; refine (HX.out _).mono ?_; rintro e w1 ⟨rfl, hq⟩)
        go_ret
        exact ⟨Or.inl rfl, HB.out.trans (hq.mono HB.out.size)⟩
      · obtain ⟨q, hq⟩ : ∃ q : Nat, q = n - (l[k]'hlt).name.size := ⟨_, rfl⟩
        have HX : Hid (∀ w, Calls Tryz.prog 59 #[(l[k]'hlt).val, .int .i64 (n : Int)] w fun e w' => e = .returned (.int .i64 (q : Int)) ∧ Below w.heap.size w w') := fun w => by rw [hq]; exact szD_near _ n w hn (by omega)
        have HS : Hid ((l[k]'hlt).name.size ≤ 1048576) := by show (l[k]'hlt).name.size ≤ 1048576; omega
        have hq2 : q ≤ 1048576 := by omega
        clear hq hs
        go_wp2_with (go_at_call 59; refine (HX.out _).mono ?_; rintro e w1 ⟨rfl, hb1⟩)
        refine ⟨⟨k + 1, q, by omega, hq2, rfl, by go_num, fun j hj hjk => ?_, HB.out.trans (hb1.mono HB.out.size)⟩, by simp [RowKit.intOf]; omega⟩
        by_cases e : j < k
        · exact HJ.out j hj e
        · have : j = k := by omega
          subst this; exact HS.out
    · go_wp2
      go_ret
      exact ⟨Or.inr ⟨n, hn, rfl, by omega, fun j hj => HJ.out j hj (by omega)⟩, HB.out⟩

theorem makeD (n : Nat) (hn : n ≤ 1048576) (w : World) : (Instr.makeSlice 47 (.int .i64 (n : Int)) (.int .i64 (n : Int))).run Tryz.prog w = .ok (.slice (some ⟨w.heap.size, 0, none⟩) n n) (w.alloc (.cells (madeCells #[.int .i64 0, .int .i64 0, .int .i64 0, .string ⟨#[]⟩] (n * 4)) 100)) := by
  obtain ⟨i0, hi, hz0, hz1, hz2⟩ := info_parts infoD
  have := run_make (P := Tryz.prog) w 47 100 i0 _ Tryz.underlying47 hi hz0 .i64 .i64 (n : Int) (n : Int) (by omega) (by omega) (by rw [hz2]; omega) (by omega)
  rw [this, hz1]
  simp [Value.cells]
theorem madeD (n : Nat) (hn : n ≤ 1048576) (w : World) : (w.alloc (.cells (madeCells #[.int .i64 0, .int .i64 0, .int .i64 0, .string ⟨#[]⟩] (n * 4)) 100)).ownsRow w.heap.size 100 4 (.slice (some ⟨w.heap.size, 0, none⟩) n n) n (madeCells #[.int .i64 0, .int .i64 0, .int .i64 0, .string ⟨#[]⟩] (n * 4)).toList :=
  ⟨by simp [madeCells], .inr ⟨w.heap.size, n, _, rfl, Nat.le_refl _, heap_alloc_new w _, Nat.le_refl _, by unfold maxLen; omega, by simp [madeCells], by rw [List.take_of_length_le]; simp [madeCells]⟩⟩
theorem putD (xs A : List Value) (k : Nat) (a b c d : Value) (h : xs.take (k * 4) = A) (hl : k * 4 + 4 ≤ xs.length) : ((((xs.set (k * 4) a).set (k * 4 + 1) b).set (k * 4 + 2) c).set (k * 4 + 3) d).take ((k + 1) * 4) = A ++ [a, b, c, d] := by
  have e : xs = xs.take (k * 4) ++ (xs[k * 4]'(by omega) :: xs[k * 4 + 1]'(by omega) :: xs[k * 4 + 2]'(by omega) :: xs[k * 4 + 3]'(by omega) :: xs.drop (k * 4 + 4)) := by
    rw [← List.drop_eq_getElem_cons, ← List.drop_eq_getElem_cons, ← List.drop_eq_getElem_cons, ← List.drop_eq_getElem_cons, List.take_append_drop]
  have hA : A.length = k * 4 := by rw [← h]; simp; omega
  rw [h] at e
  generalize xs[k * 4]'(by omega) = x0 at e
  generalize xs[k * 4 + 1]'(by omega) = x1 at e
  generalize xs[k * 4 + 2]'(by omega) = x2 at e
  generalize xs[k * 4 + 3]'(by omega) = x3 at e
  generalize xs.drop (k * 4 + 4) = r at e
  clear h
  subst e
  rw [List.set_append_right _ _ (by omega), List.set_append_right _ _ (by omega), List.set_append_right _ _ (by omega), List.set_append_right _ _ (by omega), hA, show k * 4 - k * 4 = 0 by omega, show k * 4 + 1 - k * 4 = 1 by omega, show k * 4 + 2 - k * 4 = 2 by omega, show k * 4 + 3 - k * 4 = 3 by omega]
  rw [show (k + 1) * 4 = A.length + 4 by omega, List.take_append, List.take_of_length_le (by omega), show A.length + 4 - A.length = 4 by omega]
  rfl
/-- One stored into its place. -/
theorem putD_next {wr : World} {base g n k : Nat} {xs A : List Value} {t : Dat} (ho : wr.ownsRow base 100 4 (.slice (some ⟨g, 0, none⟩) n n) n xs) (hA : xs.take (k * 4) = A) (hk : k < n) :
    ∃ ys, ((((wr.setCell ⟨g, k * 4, none⟩ (.int .i64 t.kind)).setCell ⟨g, k * 4 + 1, none⟩ (.int .i64 t.parent)).setCell ⟨g, k * 4 + 2, none⟩ (.int .i64 t.num)).setCell ⟨g, k * 4 + 3, none⟩ (.string t.name)).ownsRow base 100 4 (.slice (some ⟨g, 0, none⟩) n n) n ys ∧ ys.take ((k + 1) * 4) = A ++ t.cells :=
  ⟨_, own_put (own_put (own_put (own_put ho _ _) _ _) _ _) _ _, putD xs A k _ _ _ _ hA (by have := ho.1; omega)⟩
set_option maxRecDepth 100000 in
set_option maxHeartbeats 2000000 in
theorem toDS_any (a : Option Addr) (c : Nat) (l : List Dat) (w : World) (hl : l.length ≤ 1048576) (h : MemD w a l) :
    Calls Tryz.prog 23 #[.slice a l.length c] w fun e w' => ∃ g, e = .returned (.slice (some ⟨g, 0, none⟩) l.length l.length) ∧ w'.ownsRow w.heap.size 100 4 (.slice (some ⟨g, 0, none⟩) l.length l.length) l.length (cellsD l) ∧ Below w.heap.size w w' := by
  have HT : Hid (MemD w a l) := h
  have hmk := makeD l.length hl
  have HM : Hid (∃ xs, (w.alloc (.cells (madeCells #[.int .i64 0, .int .i64 0, .int .i64 0, .string ⟨#[]⟩] (l.length * 4)) 100)).ownsRow w.heap.size 100 4 (.slice (some ⟨w.heap.size, 0, none⟩) l.length l.length) l.length xs ∧ xs.take (0 * 4) = cellsD (l.take 0)) := ⟨_, madeD l.length hl w, rfl⟩
  clear h
  go_enter Tryz.func23, Tryz.ntmps23
  go_wp2_with fail
  go_loopw [4] (fun i wr => ∃ k : Nat, k ≤ l.length ∧ i = .int .i64 (k : Int) ∧ Hid (∃ xs, wr.ownsRow w.heap.size 100 4 (.slice (some ⟨w.heap.size, 0, none⟩) l.length l.length) l.length xs ∧ xs.take (k * 4) = cellsD (l.take k)) ∧ Below w.heap.size w wr) (fun i _ => l.length - (RowKit.intOf i).toNat)
  case atStart => exact ⟨0, Nat.zero_le _, rfl, HM.out, (Below.refl _ _).alloc (Nat.le_refl _) _⟩
  case round =>
    obtain ⟨k, hk, rfl, HX, hb⟩ := hrel
    have HB : Hid (Below w.heap.size w wr) := hb
    clear hb
    by_cases hlt : k < l.length
    · obtain ⟨b, off, rfl, hc⟩ := (HT.out.below HB.out) (by omega)
      obtain ⟨c0, c1, c2, c3⟩ := hc k hlt
      clear hc
      have HU : Hid (∀ w, Calls Tryz.prog 62 #[(l[k]'hlt).val] w fun e w' => e = .returned (l[k]'hlt).val ∧ Below w.heap.size w w') := fun w => toD_any _ w
      obtain ⟨xs, hox, htx⟩ := HX.out
      have HO : Hid (wr.ownsRow w.heap.size 100 4 (.slice (some ⟨w.heap.size, 0, none⟩) l.length l.length) l.length xs) := hox
      have HE : Hid (xs.take (k * 4) = cellsD (l.take k)) := htx
      have hgl : w.heap.size < wr.heap.size := (hox.lt w.heap.size rfl).2
      have HL : Hid (xs.length = l.length * 4) := hox.1
      clear hox htx
      go_wp2_with fail
      refine (HU.out _).mono ?_
      rintro e w1 ⟨rfl, hb1⟩
      have HO1 : Hid (w1.ownsRow w.heap.size 100 4 (.slice (some ⟨w.heap.size, 0, none⟩) l.length l.length) l.length xs) := own_below HO.out hb1
      have HB1 : Hid (Below w.heap.size w w1) := HB.out.trans (hb1.mono HB.out.size)
      have hgl1 : w.heap.size < w1.heap.size := (HO1.out.lt w.heap.size rfl).2
      clear hb1 c0 c1 c2 c3
      obtain ⟨x0, e0⟩ := own_cell HO1.out (k * 4) (by have := HL.out; omega)
      obtain ⟨x1, e1⟩ := own_cell HO1.out (k * 4 + 1) (by have := HL.out; omega)
      obtain ⟨x2, e2⟩ := own_cell HO1.out (k * 4 + 2) (by have := HL.out; omega)
      obtain ⟨x3, e3⟩ := own_cell HO1.out (k * 4 + 3) (by have := HL.out; omega)
      have ff : ∀ j, w1.frozen? ⟨w.heap.size, j, none⟩ = false := own_frozen HO1.out
      go_wp2
      obtain ⟨ys, hy, hyt⟩ := putD_next (t := l[k]'hlt) HO1.out HE.out hlt
      refine ⟨⟨k + 1, by omega, by go_num, ⟨ys, hy, ?_⟩, (((HB1.out.setCell (Nat.le_refl _) _).setCell (Nat.le_refl _) _).setCell (Nat.le_refl _) _).setCell (Nat.le_refl _) _⟩, by simp [RowKit.intOf]; omega⟩
      rw [hyt, takeD l k hlt, cellsD_append]; simp [cellsD]
    · have HF : Hid (wr.ownsRow w.heap.size 100 4 (.slice (some ⟨w.heap.size, 0, none⟩) l.length l.length) l.length (cellsD l)) := by
        obtain ⟨xs, hox, htx⟩ := HX.out
        have hkl : k = l.length := by omega
        rw [hkl, List.take_length, List.take_of_length_le (by rw [hox.1]; exact Nat.le_refl _)] at htx
        rw [htx] at hox
        exact hox
      clear HX
      go_wp2
      go_ret
      exact ⟨_, rfl, HF.out, HB.out⟩
end Go.Proofs.YtebnonpdaddniaaGreatDoor
/-
  Rows of int64 that a slice owns; the laws' eqInt64S, markInt64S and heldInt64S; nothing but a marked row is turned.
-/
namespace Go.Proofs.YtebnonpdaddniaaGreatDoor
open Go.RowKit Go.Extern.Stop Go.Stop Go.Extern Num Go.Lib

def cellsI (l : List Int) : List Value := l.map (Value.int .i64)
theorem cellsI_length (l : List Int) : (cellsI l).length = l.length := by simp [cellsI]
theorem cellsI_append (a b : List Int) : cellsI (a ++ b) = cellsI a ++ cellsI b := by simp [cellsI]
theorem infoI : (Tryz.prog.info? 2).map (fun i => (i.zero, i.size, i.bytes)) = some (some (.int .i64 0), 1, 8) := by kernel_rfl
theorem rowI_at {w : World} {base g cap : Nat} {l : List Int} (h : w.ownsRow base 2 1 (.slice (some ⟨g, 0, none⟩) l.length cap) l.length (cellsI l)) (k : Nat) (hk : k < l.length) :
    w.cell? ⟨g, k, none⟩ = some (.int .i64 l[k]) := by
  have ha : ∀ j, (⟨g, 0, none⟩ : Addr).add j = ⟨g, j, none⟩ := fun j => by unfold Addr.add; split <;> simp_all
  rw [← ha]
  exact h.cells (g := g) rfl k _ (by simp [cellsI, hk])
theorem newsI {W : World} {b : Nat} {x : Value} {ty : TypeId} {fr : Nat × Nat} (h : W.heap[b]? = some (.cells #[x] ty fr)) : ∀ j u, [x][j]? = some u → W.cell? ((⟨b, 0, none⟩ : Addr).add j) = some u := by
  intro j u hj
  have ha : ∀ j, (⟨b, 0, none⟩ : Addr).add j = ⟨b, j, none⟩ := fun j => by unfold Addr.add; split <;> simp_all
  rw [ha, cell_of_row W b j _ ty fr h]
  match j, hj with
  | 0, hj => simpa using hj
/-- The marks of a row. -/
def marksI (k : Nat) : Nat → List Int
  | 0 => []
  | n + 1 => marksI k n ++ [((k + n : Nat) : Int)]
theorem marksI_len (k n : Nat) : (marksI k n).length = n := by
  induction n with
  | zero => rfl
  | succ n ih => simp [marksI, ih]
theorem marksI_at (k n i : Nat) (h : i < n) : (marksI k n)[i]'(by rw [marksI_len]; exact h) = ((k + i : Nat) : Int) := by
  induction n with
  | zero => omega
  | succ n ih =>
    simp only [marksI]
    by_cases hi : i < n
    · rw [List.getElem_append_left (by rw [marksI_len]; exact hi)]; exact ih hi
    · have : i = n := by omega
      subst this
      rw [List.getElem_append_right (by rw [marksI_len]; omega)]
      simp [marksI_len]
theorem marksI_zero (k : Nat) (l : List Int) : marksI k 0 ++ l.drop 0 = l := by simp [marksI]
theorem markI_next {w wr : World} {g cap base k i q : Nat} {l : List Int}
    (ho : wr.ownsRow base 2 1 (.slice (some ⟨g, 0, none⟩) l.length cap) l.length (cellsI (marksI k i ++ l.drop i))) (hg : w.grownBy wr (some g)) (hi : i < l.length) (hq : q = k + i) :
    (wr.setCell ⟨g, i, none⟩ (.int .i64 (q : Int))).ownsRow base 2 1 (.slice (some ⟨g, 0, none⟩) l.length cap) l.length (cellsI (marksI k (i + 1) ++ l.drop (i + 1))) ∧ w.grownBy (wr.setCell ⟨g, i, none⟩ (.int .i64 (q : Int))) (some g) := by
  refine ⟨?_, gb_set hg _⟩
  have h := own_put ho i (.int .i64 (q : Int))
  have e : (cellsI (marksI k i ++ l.drop i)).set i (.int .i64 (q : Int)) = cellsI (marksI k (i + 1) ++ l.drop (i + 1)) := by
    have e1 : l.drop i = l[i] :: l.drop (i + 1) := List.drop_eq_getElem_cons hi
    obtain ⟨R, hR⟩ : ∃ R, R = l.drop (i + 1) := ⟨_, rfl⟩
    rw [← hR] at e1 ⊢
    rw [e1, cellsI_append, cellsI_append, List.set_append_right _ _ (by rw [cellsI_length, marksI_len]; omega), cellsI_length, marksI_len, Nat.sub_self]
    simp [marksI, cellsI, hq]
  rw [e] at h
  exact h
end Go.Proofs.YtebnonpdaddniaaGreatDoor
/-
  A block whose cells hold slices that are owned, apart from one another: what a store into one leaves of the others.
-/
namespace Go.Proofs.YtebnonpdaddniaaGreatDoor
open Go.RowKit Go.Extern.Stop Go.Stop Go.Extern Num Go.Lib

/-- A cell of a block that holds a slice, its row owned. -/
def Fld (w : World) (B r f : Nat) (e : TypeId) (size : Nat) (v : Value) (n : Nat) (xs : List Value) : Prop :=
  w.cell? ⟨r, f, none⟩ = some v ∧ w.ownsRow B e size v n xs ∧ ∀ g, v.ownBlock = some g → g ≠ r
section
variable {w w1 : World} {B r f : Nat} {e : TypeId} {size : Nat} {v : Value} {n : Nat} {xs : List Value}
theorem Fld.lt (h : Fld w B r f e size v n xs) : r < w.heap.size := lt_of_cell h.1
theorem Fld.put {v' : Value} {n' : Nat} {xs' : List Value} (h : Fld w B r f e size v n xs) (hg : w.grownBy w1 v.ownBlock) (ho : w1.ownsRow B e size v' n' xs') (hv : ∀ g, v'.ownBlock = some g → v.ownBlock = some g ∨ w.heap.size ≤ g) :
    Fld (w1.setCell ⟨r, f, none⟩ v') B r f e size v' n' xs' := by
  have hlt := h.lt
  have hcell : w1.cell? ⟨r, f, none⟩ = some v := hg.cell h.1 (fun e => h.2.2 r e.symm rfl)
  have hne : ∀ g, v'.ownBlock = some g → g ≠ r := fun g hg' => by
    rcases hv g hg' with h1 | h1
    · exact h.2.2 g h1
    · omega
  exact ⟨World.cell?_setCell_same' _ _ _ (by rw [hcell]; rfl), own_set' ho hne v', hne⟩
theorem Fld.other {ro : Option Nat} {f' : Nat} (h : Fld w B r f e size v n xs) (hg : w.grownBy w1 ro) (hro : ro ≠ some r) (hap : ∀ g, v.ownBlock = some g → ro ≠ some g) (hf : f' ≠ f) (v' : Value) :
    Fld (w1.setCell ⟨r, f', none⟩ v') B r f e size v n xs := by
  have hcell : w1.cell? ⟨r, f, none⟩ = some v := hg.cell h.1 (fun e => hro e.symm)
  refine ⟨?_, own_set' (own_apart h.2.1 hg hap) h.2.2 v', h.2.2⟩
  rw [World.cell?_setCell_other _ _ _ _ (by intro e; apply hf; injection e)]
  exact hcell
theorem Fld.below (h : Fld w B r f e size v n xs) (hb : Below w.heap.size w w1) : Fld w1 B r f e size v n xs := ⟨cell_keep hb h.1, own_below h.2.1 hb, h.2.2⟩
theorem Fld.own_lt (h : Fld w B r f e size v n xs) : ∀ g, v.ownBlock = some g → g < w.heap.size := fun g hg => (h.2.1.lt g hg).2
end
theorem apart_put {w : World} {v v' u : Value} (hv : ∀ g, v'.ownBlock = some g → v.ownBlock = some g ∨ w.heap.size ≤ g) (hap : ∀ g, v.ownBlock = some g → u.ownBlock ≠ some g) (hu : ∀ g, u.ownBlock = some g → g < w.heap.size) : ∀ g, v'.ownBlock = some g → u.ownBlock ≠ some g := by
  intro g hg e
  rcases hv g hg with h | h
  · exact hap g h e
  · have := hu g e; omega
theorem apart_sym {v u : Value} (h : ∀ g, v.ownBlock = some g → u.ownBlock ≠ some g) : ∀ g, u.ownBlock = some g → v.ownBlock ≠ some g := fun g hg e => h g e hg
theorem fz_grown {w w1 : World} {r : Nat} {ro : Option Nat} (hz : ∀ o, w.frozen? ⟨r, o, none⟩ = false) (hlt : r < w.heap.size) (hg : w.grownBy w1 ro) (hro : ro ≠ some r) (p : Addr) (v : Value) : ∀ o, (w1.setCell p v).frozen? ⟨r, o, none⟩ = false := fun o => by
  rw [World.frozen?_setCell, World.frozen?_of_block (a := ⟨r, o, none⟩) (hg.block r hlt (fun e => hro e.symm))]; exact hz o
/-- A cell ahead of a row that has grown. -/
theorem afterGrow {w u w1 : World} {row : Option Nat} {r f : Nat} {v : Value} (hb : Below w.heap.size w u) (c : w.cell? ⟨r, f, none⟩ = some v) (fz : w.frozen? ⟨r, f, none⟩ = false) (hg : u.grownBy w1 row) (hr : row ≠ some r) : w1.cell? ⟨r, f, none⟩ = some v ∧ w1.frozen? ⟨r, f, none⟩ = false := by
  have h1 := cell_keep hb c
  refine ⟨hg.cell h1 (Ne.symm hr), ?_⟩
  rw [World.frozen?_of_block (a := ⟨r, f, none⟩) (hg.block r (lt_of_cell h1) (Ne.symm hr)), (bcell hb).2 r f (lt_of_cell c)]
  exact fz
end Go.Proofs.YtebnonpdaddniaaGreatDoor
