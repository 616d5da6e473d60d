/-
  The laws' eqValuesResult, markValuesResult and heldValuesResult, and the two boxes in which a law keeps two answers; nothing but a marked row is turned.
-/
import Derived.Test.YtbfhoennafopaaaMkValue
import Derived.Test.YtbfhoennafopaaaEqVS
import Derived.Test.YtbfhoennafopaaaCtBox
namespace Go.Proofs.Ytbfhoennafopaaa
open Go.RowKit Go.Extern.Stop Go.Stop Go.Extern Num Go.Lib

theorem eqRVS_same (c0 : Int) (t : Vlu) (ao bo : Option Addr) (ca cb b1 b2 : Nat) (l : List Vlu) (w : World) (hl : l.length ≤ 1048576) (h1 : w.ownsRow b1 26 3 (.slice ao l.length ca) l.length (cellsV l)) (h2 : w.ownsRow b2 26 3 (.slice bo l.length cb) l.length (cellsV l)) :
    Calls Try.prog 23 #[.agg #[.int .i64 c0, .slice ao l.length ca, .int .i64 t.kind, .int .i64 t.num, .string t.name], .agg #[.int .i64 c0, .slice bo l.length cb, .int .i64 t.kind, .int .i64 t.num, .string t.name]] w fun e w' => e = .returned (.bool true) ∧ Below w.heap.size w w' := by
  have HS : Hid (∀ o o', Calls Try.prog 45 #[.slice ao l.length ca, .slice bo l.length cb] ((w.alloc o).alloc o') fun e w' => e = .returned (.bool true) ∧ Below ((w.alloc o).alloc o').heap.size ((w.alloc o).alloc o') w') := fun o o' => eqVS_same _ _ b1 b2 l _ hl ((h1.alloc _).alloc _) ((h2.alloc _).alloc _)
  have HV : Hid (∀ w, Calls Try.prog 41 #[t.val, t.val] w fun e w' => e = .returned (.bool true) ∧ Below w.heap.size w w') := fun w => eqV_same t w
  clear h1 h2
  go_enter Try.func23, Try.ntmps23
  go_wp2_with fail
  refine (HS.out _ _).mono ?_
  rintro e w1 ⟨rfl, hq⟩
  obtain ⟨hc1, hf1⟩ := bcell hq
  have z1 : w.heap.size + 1 < w1.heap.size := by have := hq.size; simp at this; omega
  have B1 : Hid (Below w.heap.size w w1) := Below.trans (by repeat (first | exact Below.refl _ _ | refine Below.alloc ?_ (by simp <;> omega) _ | refine Below.drew ?_)) (hq.mono (by simp <;> omega))
  go_wp2_with fail
  refine (HV.out _).mono ?_
  rintro e w2 ⟨rfl, hq2⟩
  go_wp2
  go_ret
  exact ⟨rfl, B1.out.trans (hq2.mono B1.out.size)⟩
theorem markRVS_any (c0 : Int) (t : Vlu) (ao : Option Addr) (cap base : Nat) (l : List Vlu) (w : World) (hl : l.length ≤ 1048576) (h : w.ownsRow base 26 3 (.slice ao l.length cap) l.length (cellsV l)) :
    Calls Try.prog 24 #[.agg #[.int .i64 c0, .slice ao l.length cap, .int .i64 t.kind, .int .i64 t.num, .string t.name], .int .i64 1] w fun e w' => e = .returned (.int .i64 ((1 + 3 * l.length : Nat) : Int)) ∧ w'.ownsRow base 26 3 (.slice ao l.length cap) l.length (cellsV (marksV 1 l.length)) ∧ w.grownBy w' (Value.slice ao l.length cap).ownBlock := by
  obtain ⟨q, hq⟩ : ∃ q : Nat, q = 1 + 3 * l.length := ⟨_, rfl⟩
  have HS : Hid (∀ o, Calls Try.prog 46 #[.slice ao l.length cap, .int .i64 1] (w.alloc o) fun e w' => e = .returned (.int .i64 (q : Int)) ∧ w'.ownsRow base 26 3 (.slice ao l.length cap) l.length (cellsV (marksV 1 l.length)) ∧ w.grownBy w' (Value.slice ao l.length cap).ownBlock) := fun o => by
    rw [hq]
    refine (markVS_any ao cap base 1 l (w.alloc o) hl (Nat.le_refl _) (by omega) (h.alloc _)).mono ?_
    rintro e w' ⟨rfl, h1, h2⟩
    refine ⟨rfl, h1, ⟨h2.os, h2.tape, h2.output, Nat.le_trans (by simp) h2.size, fun k hk hn => (h2.block k (by simp; omega) hn).trans (Below.heap_alloc _ _ _ hk)⟩⟩
  rw [← hq]
  clear h hq
  go_enter Try.func24, Try.ntmps24
  go_wp2_with (go_at_call 46; refine (HS.out _).mono ?_; rintro e w1 ⟨rfl, hq⟩; have HQ : Hid _ := hq; clear hq)
  go_ret
  exact ⟨rfl, HQ.out.1, HQ.out.2⟩
theorem heldRVS_any (c0 : Int) (t : Vlu) (ao : Option Addr) (cap base n : Nat) (w : World) (hl : n ≤ 1048576) (h : w.ownsRow base 26 3 (.slice ao n cap) n (cellsV (marksV 1 n))) :
    Calls Try.prog 25 #[.agg #[.int .i64 c0, .slice ao n cap, .int .i64 t.kind, .int .i64 t.num, .string t.name], .int .i64 1] w fun e w' => e = .returned (.int .i64 ((1 + 3 * n : Nat) : Int)) ∧ Below w.heap.size w w' := by
  obtain ⟨q, hq⟩ : ∃ q : Nat, q = 1 + 3 * n := ⟨_, rfl⟩
  have HS : Hid (∀ o, Calls Try.prog 47 #[.slice ao n cap, .int .i64 1] (w.alloc o) fun e w' => e = .returned (.int .i64 (q : Int)) ∧ Below w.heap.size w w') := fun o => by
    rw [hq]
    refine (heldVS_any ao cap base 1 n (w.alloc o) hl (Nat.le_refl _) (by omega) (h.alloc _)).mono ?_
    rintro e w' ⟨rfl, h1⟩
    exact ⟨rfl, ((Below.refl _ _).alloc (Nat.le_refl _) _).trans (h1.mono (by simp))⟩
  rw [← hq]
  clear h hq
  go_enter Try.func25, Try.ntmps25
  go_wp2_with (go_at_call 47; refine (HS.out _).mono ?_; rintro e w1 ⟨rfl, hq⟩; have HQ : Hid _ := hq; clear hq)
  go_ret
  exact ⟨rfl, HQ.out⟩
/-- The two boxes in which a law keeps two answers. -/
structure BoxVS (x y : Nat) (c0 : Int) (t : Vlu) (ao bo : Option Addr) (n ca cb : Nat) (w : World) : Prop where
  p0 : w.cell? ⟨x, 0, none⟩ = some (.int .i64 c0)
  p1 : w.cell? ⟨x, 1, none⟩ = some (.slice ao n ca)
  p2 : w.cell? ⟨x, 2, none⟩ = some (.int .i64 t.kind)
  p3 : w.cell? ⟨x, 3, none⟩ = some (.int .i64 t.num)
  p4 : w.cell? ⟨x, 4, none⟩ = some (.string t.name)
  q0 : w.cell? ⟨y, 0, none⟩ = some (.int .i64 c0)
  q1 : w.cell? ⟨y, 1, none⟩ = some (.slice bo n cb)
  q2 : w.cell? ⟨y, 2, none⟩ = some (.int .i64 t.kind)
  q3 : w.cell? ⟨y, 3, none⟩ = some (.int .i64 t.num)
  q4 : w.cell? ⟨y, 4, none⟩ = some (.string t.name)
theorem BoxVS.below {x y : Nat} {c0 : Int} {t : Vlu} {ao bo : Option Addr} {n ca cb : Nat} {w w' : World} (h : BoxVS x y c0 t ao bo n ca cb w) (hb : Below w.heap.size w w') : BoxVS x y c0 t ao bo n ca cb w' :=
  ⟨cell_keep hb h.p0, cell_keep hb h.p1, cell_keep hb h.p2, cell_keep hb h.p3, cell_keep hb h.p4, cell_keep hb h.q0, cell_keep hb h.q1, cell_keep hb h.q2, cell_keep hb h.q3, cell_keep hb h.q4⟩
theorem BoxVS.grown {x y : Nat} {c0 : Int} {t : Vlu} {ao bo : Option Addr} {n ca cb : Nat} {w w' : World} {r : Option Nat} (h : BoxVS x y c0 t ao bo n ca cb w) (hg : w.grownBy w' r) (hx : some x ≠ r) (hy : some y ≠ r) : BoxVS x y c0 t ao bo n ca cb w' :=
  ⟨hg.cell h.p0 hx, hg.cell h.p1 hx, hg.cell h.p2 hx, hg.cell h.p3 hx, hg.cell h.p4 hx, hg.cell h.q0 hy, hg.cell h.q1 hy, hg.cell h.q2 hy, hg.cell h.q3 hy, hg.cell h.q4 hy⟩
theorem BoxVS.mk' {c0 : Int} {t : Vlu} {ao bo : Option Addr} {n ca cb : Nat} {w1 w2 : World} (hb : Below (w1.alloc (.cells #[.int .i64 c0, .slice ao n ca, .int .i64 t.kind, .int .i64 t.num, .string t.name] 34)).heap.size (w1.alloc (.cells #[.int .i64 c0, .slice ao n ca, .int .i64 t.kind, .int .i64 t.num, .string t.name] 34)) w2) :
    BoxVS w1.heap.size w2.heap.size c0 t ao bo n ca cb (w2.alloc (.cells #[.int .i64 c0, .slice bo n cb, .int .i64 t.kind, .int .i64 t.num, .string t.name] 34)) := by
  have h1 : ∀ j u, #[Value.int .i64 c0, Value.slice ao n ca, Value.int .i64 t.kind, Value.int .i64 t.num, Value.string t.name][j]? = some u → (w2.alloc (.cells #[.int .i64 c0, .slice bo n cb, .int .i64 t.kind, .int .i64 t.num, .string t.name] 34)).cell? ⟨w1.heap.size, j, none⟩ = some u := fun j u h => by
    refine cell_laid _ (cell_keep hb ?_)
    rw [cell_of_row _ _ j _ _ _ (heap_alloc_new w1 _)]; exact h
  have h2 : ∀ j u, #[Value.int .i64 c0, Value.slice bo n cb, Value.int .i64 t.kind, Value.int .i64 t.num, Value.string t.name][j]? = some u → (w2.alloc (.cells #[.int .i64 c0, .slice bo n cb, .int .i64 t.kind, .int .i64 t.num, .string t.name] 34)).cell? ⟨w2.heap.size, j, none⟩ = some u := fun j u h => by
    rw [cell_of_row _ _ j _ _ _ (heap_alloc_new w2 _)]; exact h
  exact ⟨h1 0 _ rfl, h1 1 _ rfl, h1 2 _ rfl, h1 3 _ rfl, h1 4 _ rfl, h2 0 _ rfl, h2 1 _ rfl, h2 2 _ rfl, h2 3 _ rfl, h2 4 _ rfl⟩
end Go.Proofs.Ytbfhoennafopaaa
