/-
  The laws' eqIntsResult, markIntsResult and heldIntsResult, and the two boxes in which a law keeps two answers; nothing but a marked row is turned.
-/
import Derived.Test.YtaacbejkejonoaaIntRow
namespace Go.Proofs.Ytaacbejkejonoaa
open Go.RowKit Go.Extern.Stop Go.Stop Go.Extern Num Go.Lib

theorem eqRI_same (c0 : Int) (ao bo : Option Addr) (ca cb b1 b2 : Nat) (l : List Int) (w : World) (hl : l.length ≤ 1048576) (h1 : w.ownsRow b1 2 1 (.slice ao l.length ca) l.length (cellsI l)) (h2 : w.ownsRow b2 2 1 (.slice bo l.length cb) l.length (cellsI l)) :
    Calls Try.prog 17 #[.agg #[.int .i64 c0, .slice ao l.length ca], .agg #[.int .i64 c0, .slice bo l.length cb]] w fun e w' => e = .returned (.bool true) ∧ Below w.heap.size w w' := by
  have HS : Hid (∀ o o', Calls Try.prog 9 #[.slice ao l.length ca, .slice bo l.length cb] ((w.alloc o).alloc o') fun e w' => e = .returned (.bool true) ∧ Below ((w.alloc o).alloc o').heap.size ((w.alloc o).alloc o') w') := fun o o' => eqIS_same _ _ b1 b2 l _ hl ((h1.alloc _).alloc _) ((h2.alloc _).alloc _)
  clear h1 h2
  go_enter Try.func17, Try.ntmps17
  go_wp2_with (go_at_call 9; refine (HS.out _ _).mono ?_; rintro e w1 ⟨rfl, hq⟩)
  go_ret
  refine ⟨rfl, ?_⟩
  repeat (first | exact Below.refl _ _ | refine Below.trans ?_ (hq.mono (by simp <;> omega)) | refine Below.alloc ?_ (by simp <;> omega) _ | refine Below.drew ?_)
theorem markRI_any (c0 : Int) (ao : Option Addr) (cap base : Nat) (l : List Int) (w : World) (hl : l.length ≤ 1048576) (h : w.ownsRow base 2 1 (.slice ao l.length cap) l.length (cellsI l)) :
    Calls Try.prog 20 #[.agg #[.int .i64 c0, .slice ao l.length cap], .int .i64 1] w fun e w' => e = .returned (.int .i64 ((1 + l.length : Nat) : Int)) ∧ w'.ownsRow base 2 1 (.slice ao l.length cap) l.length (cellsI (marksI 1 l.length)) ∧ w.grownBy w' (Value.slice ao l.length cap).ownBlock := by
  obtain ⟨q, hq⟩ : ∃ q : Nat, q = 1 + l.length := ⟨_, rfl⟩
  have HS : Hid (∀ o, Calls Try.prog 10 #[.slice ao l.length cap, .int .i64 1] (w.alloc o) fun e w' => e = .returned (.int .i64 (q : Int)) ∧ w'.ownsRow base 2 1 (.slice ao l.length cap) l.length (cellsI (marksI 1 l.length)) ∧ w.grownBy w' (Value.slice ao l.length cap).ownBlock) := fun o => by
    rw [hq]
    refine (markIS_any ao cap base 1 l (w.alloc o) hl (by omega) (h.alloc _)).mono ?_
    rintro e w' ⟨rfl, h1, h2⟩
    refine ⟨rfl, h1, ⟨h2.os, h2.tape, h2.output, Nat.le_trans (by simp) h2.size, fun k hk hn => (h2.block k (by simp; omega) hn).trans (Below.heap_alloc _ _ _ hk)⟩⟩
  rw [← hq]
  clear h hq
  go_enter Try.func20, Try.ntmps20
  go_wp2_with (go_at_call 10; refine (HS.out _).mono ?_; rintro e w1 ⟨rfl, hq⟩; have HQ : Hid _ := hq; clear hq)
  go_ret
  exact ⟨rfl, HQ.out.1, HQ.out.2⟩
theorem heldRI_any (c0 : Int) (ao : Option Addr) (cap base n : Nat) (w : World) (hl : n ≤ 1048576) (h : w.ownsRow base 2 1 (.slice ao n cap) n (cellsI (marksI 1 n))) :
    Calls Try.prog 21 #[.agg #[.int .i64 c0, .slice ao n cap], .int .i64 1] w fun e w' => e = .returned (.int .i64 ((1 + n : Nat) : Int)) ∧ Below w.heap.size w w' := by
  obtain ⟨q, hq⟩ : ∃ q : Nat, q = 1 + n := ⟨_, rfl⟩
  have HS : Hid (∀ o, Calls Try.prog 38 #[.slice ao n cap, .int .i64 1] (w.alloc o) fun e w' => e = .returned (.int .i64 (q : Int)) ∧ Below w.heap.size w w') := fun o => by
    rw [hq]
    refine (heldIS_any ao cap base 1 n (w.alloc o) hl (by omega) (h.alloc _)).mono ?_
    rintro e w' ⟨rfl, h1⟩
    exact ⟨rfl, ((Below.refl _ _).alloc (Nat.le_refl _) _).trans (h1.mono (by simp))⟩
  rw [← hq]
  clear h hq
  go_enter Try.func21, Try.ntmps21
  go_wp2_with (go_at_call 38; refine (HS.out _).mono ?_; rintro e w1 ⟨rfl, hq⟩; have HQ : Hid _ := hq; clear hq)
  go_ret
  exact ⟨rfl, HQ.out⟩
/-- The two boxes in which a law keeps two answers. -/
structure BoxI (x y : Nat) (c0 : Int) (ao bo : Option Addr) (n ca cb : Nat) (w : World) : Prop where
  p0 : w.cell? ⟨x, 0, none⟩ = some (.int .i64 c0)
  p1 : w.cell? ⟨x, 1, none⟩ = some (.slice ao n ca)
  q0 : w.cell? ⟨y, 0, none⟩ = some (.int .i64 c0)
  q1 : w.cell? ⟨y, 1, none⟩ = some (.slice bo n cb)
theorem BoxI.below {x y : Nat} {c0 : Int} {ao bo : Option Addr} {n ca cb : Nat} {w w' : World} (h : BoxI x y c0 ao bo n ca cb w) (hb : Below w.heap.size w w') : BoxI x y c0 ao bo n ca cb w' :=
  ⟨cell_keep hb h.p0, cell_keep hb h.p1, cell_keep hb h.q0, cell_keep hb h.q1⟩
theorem BoxI.grown {x y : Nat} {c0 : Int} {ao bo : Option Addr} {n ca cb : Nat} {w w' : World} {r : Option Nat} (h : BoxI x y c0 ao bo n ca cb w) (hg : w.grownBy w' r) (hx : some x ≠ r) (hy : some y ≠ r) : BoxI x y c0 ao bo n ca cb w' :=
  ⟨hg.cell h.p0 hx, hg.cell h.p1 hx, hg.cell h.q0 hy, hg.cell h.q1 hy⟩
theorem BoxI.mk' {c0 : Int} {ao bo : Option Addr} {n ca cb : Nat} {w1 w2 : World} (hb : Below (w1.alloc (.cells #[.int .i64 c0, .slice ao n ca] 40)).heap.size (w1.alloc (.cells #[.int .i64 c0, .slice ao n ca] 40)) w2) :
    BoxI w1.heap.size w2.heap.size c0 ao bo n ca cb (w2.alloc (.cells #[.int .i64 c0, .slice bo n cb] 40)) := by
  have h1 : ∀ j u, #[Value.int .i64 c0, Value.slice ao n ca][j]? = some u → (w2.alloc (.cells #[.int .i64 c0, .slice bo n cb] 40)).cell? ⟨w1.heap.size, j, none⟩ = some u := fun j u h => by
    refine cell_laid _ (cell_keep hb ?_)
    rw [cell_of_row _ _ j _ _ _ (heap_alloc_new w1 _)]; exact h
  have h2 : ∀ j u, #[Value.int .i64 c0, Value.slice bo n cb][j]? = some u → (w2.alloc (.cells #[.int .i64 c0, .slice bo n cb] 40)).cell? ⟨w2.heap.size, j, none⟩ = some u := fun j u h => by
    rw [cell_of_row _ _ j _ _ _ (heap_alloc_new w2 _)]; exact h
  exact ⟨h1 0 _ rfl, h1 1 _ rfl, h2 0 _ rfl, h2 1 _ rfl⟩
end Go.Proofs.Ytaacbejkejonoaa
