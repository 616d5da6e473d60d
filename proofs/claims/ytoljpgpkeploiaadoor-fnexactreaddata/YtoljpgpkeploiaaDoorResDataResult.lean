/-
  The laws' eqDataResult, markDataResult and heldDataResult, and the two boxes in which a law keeps two answers; nothing but a marked row is turned.
-/
import Derived.Test.YtoljpgpkeploiaaDoorMkDatum
namespace Go.Proofs.YtoljpgpkeploiaaDoor
open Go.RowKit Go.Extern.Stop Go.Stop Go.Extern Num Go.Lib

theorem eqRD_same (c0 c1 : Int) (ao bo : Option Addr) (ca cb b1 b2 : Nat) (l : List Dat) (w : World) (hl : l.length ≤ 1048576) (h1 : w.ownsRow b1 51 4 (.slice ao l.length ca) l.length (cellsD l)) (h2 : w.ownsRow b2 51 4 (.slice bo l.length cb) l.length (cellsD l)) :
    Calls Tryd.prog 15 #[.agg #[.int .i64 c0, .int .i64 c1, .slice ao l.length ca], .agg #[.int .i64 c0, .int .i64 c1, .slice bo l.length cb]] w fun e w' => e = .returned (.bool true) ∧ Below w.heap.size w w' := by
  have HS : Hid (∀ o o', Calls Tryd.prog 12 #[.slice ao l.length ca, .slice bo l.length cb] ((w.alloc o).alloc o') fun e w' => e = .returned (.bool true) ∧ Below ((w.alloc o).alloc o').heap.size ((w.alloc o).alloc o') w') := fun o o' => eqDS_same _ _ b1 b2 l _ hl ((h1.alloc _).alloc _) ((h2.alloc _).alloc _)
  clear h1 h2
  go_enter Tryd.func15, Tryd.ntmps15
  go_wp2_with (go_at_call 12; refine (HS.out _ _).mono ?_; rintro e w1 ⟨rfl, hq⟩)
  go_ret
  refine ⟨rfl, ?_⟩
  repeat (first | exact Below.refl _ _ | refine Below.trans ?_ (hq.mono (by simp <;> omega)) | refine Below.alloc ?_ (by simp <;> omega) _ | refine Below.drew ?_)
theorem markRD_any (c0 c1 : Int) (ao : Option Addr) (cap base : Nat) (l : List Dat) (w : World) (hl : l.length ≤ 1048576) (h : w.ownsRow base 51 4 (.slice ao l.length cap) l.length (cellsD l)) :
    Calls Tryd.prog 16 #[.agg #[.int .i64 c0, .int .i64 c1, .slice ao l.length cap], .int .i64 1] w fun e w' => e = .returned (.int .i64 ((1 + 4 * l.length : Nat) : Int)) ∧ w'.ownsRow base 51 4 (.slice ao l.length cap) l.length (cellsD (marksD 1 l.length)) ∧ w.grownBy w' (Value.slice ao l.length cap).ownBlock := by
  obtain ⟨q, hq⟩ : ∃ q : Nat, q = 1 + 4 * l.length := ⟨_, rfl⟩
  have HS : Hid (∀ o, Calls Tryd.prog 24 #[.slice ao l.length cap, .int .i64 1] (w.alloc o) fun e w' => e = .returned (.int .i64 (q : Int)) ∧ w'.ownsRow base 51 4 (.slice ao l.length cap) l.length (cellsD (marksD 1 l.length)) ∧ w.grownBy w' (Value.slice ao l.length cap).ownBlock) := fun o => by
    rw [hq]
    refine (markDS_any ao cap base 1 l (w.alloc o) hl (Nat.le_refl _) (by omega) (h.alloc _)).mono ?_
    rintro e w' ⟨rfl, h1, h2⟩
    refine ⟨rfl, h1, ⟨h2.os, h2.tape, h2.output, Nat.le_trans (by simp) h2.size, fun k hk hn => (h2.block k (by simp; omega) hn).trans (Below.heap_alloc _ _ _ hk)⟩⟩
  rw [← hq]
  clear h hq
  go_enter Tryd.func16, Tryd.ntmps16
  go_wp2_with (go_at_call 24; refine (HS.out _).mono ?_; rintro e w1 ⟨rfl, hq⟩; have HQ : Hid _ := hq; clear hq)
  go_ret
  exact ⟨rfl, HQ.out.1, HQ.out.2⟩
theorem heldRD_any (c0 c1 : Int) (ao : Option Addr) (cap base n : Nat) (w : World) (hl : n ≤ 1048576) (h : w.ownsRow base 51 4 (.slice ao n cap) n (cellsD (marksD 1 n))) :
    Calls Tryd.prog 17 #[.agg #[.int .i64 c0, .int .i64 c1, .slice ao n cap], .int .i64 1] w fun e w' => e = .returned (.int .i64 ((1 + 4 * n : Nat) : Int)) ∧ Below w.heap.size w w' := by
  obtain ⟨q, hq⟩ : ∃ q : Nat, q = 1 + 4 * n := ⟨_, rfl⟩
  have HS : Hid (∀ o, Calls Tryd.prog 38 #[.slice ao n cap, .int .i64 1] (w.alloc o) fun e w' => e = .returned (.int .i64 (q : Int)) ∧ Below w.heap.size w w') := fun o => by
    rw [hq]
    refine (heldDS_any ao cap base 1 n (w.alloc o) hl (Nat.le_refl _) (by omega) (h.alloc _)).mono ?_
    rintro e w' ⟨rfl, h1⟩
    exact ⟨rfl, ((Below.refl _ _).alloc (Nat.le_refl _) _).trans (h1.mono (by simp))⟩
  rw [← hq]
  clear h hq
  go_enter Tryd.func17, Tryd.ntmps17
  go_wp2_with (go_at_call 38; refine (HS.out _).mono ?_; rintro e w1 ⟨rfl, hq⟩; have HQ : Hid _ := hq; clear hq)
  go_ret
  exact ⟨rfl, HQ.out⟩
/-- The two boxes in which a law keeps two answers. -/
structure BoxD (x y : Nat) (c0 c1 : Int) (ao bo : Option Addr) (n ca cb : Nat) (w : World) : Prop where
  p0 : w.cell? ⟨x, 0, none⟩ = some (.int .i64 c0)
  p1 : w.cell? ⟨x, 1, none⟩ = some (.int .i64 c1)
  p2 : w.cell? ⟨x, 2, none⟩ = some (.slice ao n ca)
  q0 : w.cell? ⟨y, 0, none⟩ = some (.int .i64 c0)
  q1 : w.cell? ⟨y, 1, none⟩ = some (.int .i64 c1)
  q2 : w.cell? ⟨y, 2, none⟩ = some (.slice bo n cb)
theorem BoxD.below {x y : Nat} {c0 c1 : Int} {ao bo : Option Addr} {n ca cb : Nat} {w w' : World} (h : BoxD x y c0 c1 ao bo n ca cb w) (hb : Below w.heap.size w w') : BoxD x y c0 c1 ao bo n ca cb w' :=
  ⟨cell_keep hb h.p0, cell_keep hb h.p1, cell_keep hb h.p2, cell_keep hb h.q0, cell_keep hb h.q1, cell_keep hb h.q2⟩
theorem BoxD.grown {x y : Nat} {c0 c1 : Int} {ao bo : Option Addr} {n ca cb : Nat} {w w' : World} {r : Option Nat} (h : BoxD x y c0 c1 ao bo n ca cb w) (hg : w.grownBy w' r) (hx : some x ≠ r) (hy : some y ≠ r) : BoxD x y c0 c1 ao bo n ca cb w' :=
  ⟨hg.cell h.p0 hx, hg.cell h.p1 hx, hg.cell h.p2 hx, hg.cell h.q0 hy, hg.cell h.q1 hy, hg.cell h.q2 hy⟩
theorem BoxD.mk' {c0 c1 : Int} {ao bo : Option Addr} {n ca cb : Nat} {w1 w2 : World} (hb : Below (w1.alloc (.cells #[.int .i64 c0, .int .i64 c1, .slice ao n ca] 30)).heap.size (w1.alloc (.cells #[.int .i64 c0, .int .i64 c1, .slice ao n ca] 30)) w2) :
    BoxD w1.heap.size w2.heap.size c0 c1 ao bo n ca cb (w2.alloc (.cells #[.int .i64 c0, .int .i64 c1, .slice bo n cb] 30)) := by
  have h1 : ∀ j u, #[Value.int .i64 c0, Value.int .i64 c1, Value.slice ao n ca][j]? = some u → (w2.alloc (.cells #[.int .i64 c0, .int .i64 c1, .slice bo n cb] 30)).cell? ⟨w1.heap.size, j, none⟩ = some u := fun j u h => by
    refine cell_laid _ (cell_keep hb ?_)
    rw [cell_of_row _ _ j _ _ _ (heap_alloc_new w1 _)]; exact h
  have h2 : ∀ j u, #[Value.int .i64 c0, Value.int .i64 c1, Value.slice bo n cb][j]? = some u → (w2.alloc (.cells #[.int .i64 c0, .int .i64 c1, .slice bo n cb] 30)).cell? ⟨w2.heap.size, j, none⟩ = some u := fun j u h => by
    rw [cell_of_row _ _ j _ _ _ (heap_alloc_new w2 _)]; exact h
  exact ⟨h1 0 _ rfl, h1 1 _ rfl, h1 2 _ rfl, h2 0 _ rfl, h2 1 _ rfl, h2 2 _ rfl⟩
end Go.Proofs.YtoljpgpkeploiaaDoor
