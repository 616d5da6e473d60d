/-
  The exact law of TokensOf answers true at every text, in every world in which the listed variables hold what the program's text lays; nothing that was there is turned.
-/
import Derived.Test.YtnlfnicgfhfpfaaDoorHeld2
import Derived.Test.YtnlfnicgfhfpfaaDoorImplOf
namespace Go.Proofs.YtnlfnicgfhfpfaaDoor
open Go.RowKit Go.Extern.Stop Go.Stop Go.Extern Num Go.Lib

/-- An answer of TokensOf, its parts known. -/
def AnsC (c a : Int) (l : List Tok) (w : World) (e : Ending) (w' : World) : Prop :=
  ∃ ao cap, e = .returned (.agg #[.int .i64 c, .int .i64 a, .slice ao l.length cap]) ∧ w'.ownsRow w.heap.size 35 3 (.slice ao l.length cap) l.length (cellsOf l) ∧ Below w.heap.size w w'
theorem ansC_of {s : ByteArray} {c a : Int} {l : List Tok} (h : TOf s c a l) {w w' : World} {e : Ending} (h' : AnsT s w e w') : AnsC c a l w e w' := by
  obtain ⟨ao, cap, c', a', l', rfl, ht, ho, hb⟩ := h'
  obtain ⟨rfl, rfl, rfl⟩ := tof_one ht h
  exact ⟨ao, cap, rfl, ho, hb⟩
/-- The two boxes in which the law keeps the answers. -/
structure Boxes (x y : Nat) (c a : Int) (ao bo : Option Addr) (n ca cb : Nat) (w : World) : Prop where
  p0 : w.cell? ⟨x, 0, none⟩ = some (.int .i64 c)
  p1 : w.cell? ⟨x, 1, none⟩ = some (.int .i64 a)
  p2 : w.cell? ⟨x, 2, none⟩ = some (.slice ao n ca)
  q0 : w.cell? ⟨y, 0, none⟩ = some (.int .i64 c)
  q1 : w.cell? ⟨y, 1, none⟩ = some (.int .i64 a)
  q2 : w.cell? ⟨y, 2, none⟩ = some (.slice bo n cb)
theorem Boxes.below {x y : Nat} {c a : Int} {ao bo : Option Addr} {n ca cb : Nat} {w w' : World} (h : Boxes x y c a ao bo n ca cb w) (hb : Below w.heap.size w w') : Boxes x y c a ao bo n ca cb w' :=
  ⟨cell_keep hb h.p0, cell_keep hb h.p1, cell_keep hb h.p2, cell_keep hb h.q0, cell_keep hb h.q1, cell_keep hb h.q2⟩
theorem Boxes.grown {x y : Nat} {c a : Int} {ao bo : Option Addr} {n ca cb : Nat} {w w' : World} {r : Option Nat} (h : Boxes x y c a ao bo n ca cb w) (hg : w.grownBy w' r) (hx : some x ≠ r) (hy : some y ≠ r) : Boxes x y c a ao bo n ca cb w' :=
  ⟨hg.cell h.p0 hx, hg.cell h.p1 hx, hg.cell h.p2 hx, hg.cell h.q0 hy, hg.cell h.q1 hy, hg.cell h.q2 hy⟩
theorem Boxes.mk' {c a : Int} {ao bo : Option Addr} {n ca cb : Nat} {w1 w2 : World} (hb : Below (w1.alloc (.cells #[.int .i64 c, .int .i64 a, .slice ao n ca] 24)).heap.size (w1.alloc (.cells #[.int .i64 c, .int .i64 a, .slice ao n ca] 24)) w2) :
    Boxes w1.heap.size w2.heap.size c a ao bo n ca cb (w2.alloc (.cells #[.int .i64 c, .int .i64 a, .slice bo n cb] 24)) := by
  have h1 : ∀ j u, #[Value.int .i64 c, .int .i64 a, .slice ao n ca][j]? = some u → (w2.alloc (.cells #[.int .i64 c, .int .i64 a, .slice bo n cb] 24)).cell? ⟨w1.heap.size, j, none⟩ = some u := fun j u h => by
    refine cell_laid _ (cell_keep hb ?_)
    rw [cell_of_row _ _ j _ _ _ (heap_alloc_new w1 _)]; exact h
  have h2 : ∀ j u, #[Value.int .i64 c, .int .i64 a, .slice bo n cb][j]? = some u → (w2.alloc (.cells #[.int .i64 c, .int .i64 a, .slice bo n cb] 24)).cell? ⟨w2.heap.size, j, none⟩ = some u := fun j u h => by
    rw [cell_of_row _ _ j _ _ _ (heap_alloc_new w2 _)]; exact h
  exact ⟨h1 0 _ rfl, h1 1 _ rfl, h1 2 _ rfl, h2 0 _ rfl, h2 1 _ rfl, h2 2 _ rfl⟩
theorem lawTokens_long (s : ByteArray) (w : World) (h : 1048576 < (s.size : Int)) :
    Calls Tryd.prog 3 #[.string s] w fun e w' => e = .returned (.bool true) ∧ Below w.heap.size w w' := by
  go_enter Tryd.func3, Tryd.ntmps3
  go_wp2
  go_ret
  exact ⟨rfl, Below.refl _ _⟩
set_option maxRecDepth 100000 in
set_option maxHeartbeats 4000000 in
theorem lawTokens_of (s : ByteArray) (c a : Int) (l : List Tok) (w : World) (hL : LR w) (h : ¬ 1048576 < (s.size : Int)) (hl : l.length ≤ 120)
    (hs : ∀ w, Calls Tryd.prog 7 #[.string s] w fun e w' => AnsC c a l w e w')
    (hi : ∀ w, LR w → Calls Tryd.prog 8 #[.string s] w fun e w' => AnsC c a l w e w') :
    Calls Tryd.prog 3 #[.string s] w fun e w' => e = .returned (.bool true) ∧ Below w.heap.size w w' := by
  have HS : Hid (∀ w, Calls Tryd.prog 7 #[.string s] w fun e w' => AnsC c a l w e w') := hs
  have HI : Hid (∀ w, LR w → Calls Tryd.prog 8 #[.string s] w fun e w' => AnsC c a l w e w') := hi
  clear hs hi
  go_enter Tryd.func3, Tryd.ntmps3
  go_wp2_with fail
  refine (HS.out _).mono ?_
  rintro e w1 ⟨ao, ca, rfl, o1, b1⟩
  have O1 : Hid (w1.ownsRow w.heap.size 35 3 (.slice ao l.length ca) l.length (cellsOf l)) := o1
  have B1 : Hid (Below w.heap.size w w1) := b1
  have s1 : w.heap.size ≤ w1.heap.size := b1.size
  clear o1 b1
  go_wp2_with fail
  refine (HI.out _ ((hL.below B1.out).alloc _)).mono ?_
  rintro e w2 ⟨bo, cb, rfl, o2, b2⟩
  have O2 : Hid (World.ownsRow w2 _ 35 3 (.slice bo l.length cb) l.length (cellsOf l)) := o2
  have B2 : Hid _ := b2
  obtain ⟨c2, f2⟩ := bcell b2
  have s2 : w1.heap.size < w2.heap.size := by have := b2.size; simp at this; omega
  have hg2 : ∀ g, (Value.slice bo l.length cb).ownBlock = some g → w1.heap.size < g ∧ g < w2.heap.size := fun g hg => by have := o2.lt g hg; simp at this; omega
  have hg1 : ∀ g, (Value.slice ao l.length ca).ownBlock = some g → g < w1.heap.size := fun g hg => (O1.out.lt g hg).2
  clear o2 b2
  go_wp2_with fail
  have X2 : Hid (Boxes w1.heap.size w2.heap.size c a ao bo l.length ca cb (w2.alloc (.cells #[.int .i64 c, .int .i64 a, .slice bo l.length cb] 24))) := Boxes.mk' B2.out
  have BB2 : Hid (Below w.heap.size w (w2.alloc (.cells #[.int .i64 c, .int .i64 a, .slice bo l.length cb] 24))) := ((B1.out.alloc s1 _).trans (B2.out.mono (by simp; omega))).alloc (by omega) _
  have O1a : Hid (World.ownsRow (w2.alloc (.cells #[.int .i64 c, .int .i64 a, .slice bo l.length cb] 24)) w.heap.size 35 3 (.slice ao l.length ca) l.length (cellsOf l)) := (own_below (O1.out.alloc _) B2.out).alloc _
  have O2a : Hid (World.ownsRow (w2.alloc (.cells #[.int .i64 c, .int .i64 a, .slice bo l.length cb] 24)) _ 35 3 (.slice bo l.length cb) l.length (cellsOf l)) := O2.out.alloc _
  clear c2 f2
  refine (eqT_same c a bo ao cb ca _ _ l _ (by omega) O2a.out O1a.out).mono ?_
  rintro e w3 ⟨rfl, b3⟩
  have X3 : Hid (Boxes w1.heap.size w2.heap.size c a ao bo l.length ca cb w3) := X2.out.below b3
  have BB3 : Hid (Below w.heap.size w w3) := BB2.out.trans (b3.mono (by simp; omega))
  have O1b : Hid _ := own_below O1a.out b3
  have O2b : Hid (World.ownsRow w3 _ 35 3 (.slice bo l.length cb) l.length (cellsOf l)) := own_below O2a.out b3
  have s3 : w2.heap.size < w3.heap.size := by have := b3.size; simp at this; omega
  have q0 := X3.out.q0
  have q1 := X3.out.q1
  have q2 := X3.out.q2
  clear b3
  go_wp2_with fail
  clear q0 q1 q2
  refine (markT_any c a bo cb _ l _ hl O2b.out).mono ?_
  rintro e w4 ⟨rfl, o4, g4⟩
  have O4 : Hid (World.ownsRow w4 _ 35 3 (.slice bo l.length cb) l.length (cellsOf (marks 1 l.length))) := o4
  have X4 : Hid (Boxes w1.heap.size w2.heap.size c a ao bo l.length ca cb w4) := X3.out.grown g4 (fun e => by have := hg2 _ e.symm; omega) (fun e => by have := hg2 _ e.symm; omega)
  have BB4 : Hid (Below w.heap.size w w4) := BB3.out.trans (below_of_grown g4 (by omega) (fun k hk => by have := hg2 k hk; omega))
  have O1c : Hid _ := own_apart O1b.out g4 (fun g hg e => by have h1 := hg1 g hg; have h2 := hg2 g e; omega)
  have s4 : w3.heap.size ≤ w4.heap.size := g4.size
  have q0 := X4.out.q0
  have q1 := X4.out.q1
  have q2 := X4.out.q2
  clear o4 g4
  obtain ⟨m, hm⟩ : ∃ m : Nat, m = 1 + 3 * l.length := ⟨_, rfl⟩
  have HM : Hid (m = 1 + 3 * l.length) := hm
  rw [← hm]
  clear hm
  go_wp2_with fail
  clear q0 q1 q2
  refine (heldT_any c a bo cb _ l.length _ hl O4.out).mono ?_
  rintro e w5 ⟨rfl, b5⟩
  rw [← HM.out]
  have X5 : Hid (Boxes w1.heap.size w2.heap.size c a ao bo l.length ca cb w5) := X4.out.below b5
  have BB5 : Hid (Below w.heap.size w w5) := BB4.out.trans (b5.mono (by omega))
  have O1d : Hid _ := own_below O1c.out b5
  have O4b : Hid _ := own_below O4.out b5
  have s5 : w4.heap.size ≤ w5.heap.size := b5.size
  clear b5
  go_wp2_with fail
  refine (HI.out _ (hL.below BB5.out)).mono ?_
  rintro e w6 ⟨ho, ch, rfl, o6, b6⟩
  have O6 : Hid (World.ownsRow w6 _ 35 3 (.slice ho l.length ch) l.length (cellsOf l)) := o6
  have X6 : Hid (Boxes w1.heap.size w2.heap.size c a ao bo l.length ca cb w6) := X5.out.below b6
  have BB6 : Hid (Below w.heap.size w w6) := BB5.out.trans (b6.mono (by omega))
  have O1e : Hid _ := own_below O1d.out b6
  have O4c : Hid _ := own_below O4b.out b6
  have s6 : w5.heap.size ≤ w6.heap.size := b6.size
  have p0 := X6.out.p0
  have p1 := X6.out.p1
  have p2 := X6.out.p2
  clear o6 b6
  have l1 : w1.heap.size < w6.heap.size := by omega
  go_wp2_with fail
  clear p0 p1 p2
  refine (eqT_same c a ho ao ch ca _ _ l _ (by omega) (O6.out.alloc _) (World.ownsRow.alloc O1e.out _)).mono ?_
  rintro e w7 ⟨rfl, b7⟩
  have X7 : Hid (Boxes w1.heap.size w2.heap.size c a ao bo l.length ca cb w7) := (X6.out.below ((Below.refl _ _).alloc (Nat.le_refl _) _)).below b7
  have BB7 : Hid (Below w.heap.size w w7) := (BB6.out.alloc (by omega) _).trans (b7.mono (by simp; omega))
  have O4d : Hid _ := own_below (World.ownsRow.alloc O4c.out _) b7
  have s7 : w6.heap.size ≤ w7.heap.size := by have := b7.size; simp at this; omega
  have q0 := X7.out.q0
  have q1 := X7.out.q1
  have q2 := X7.out.q2
  clear b7
  go_wp2_with fail
  clear q0 q1 q2
  refine (heldT_any c a bo cb _ l.length _ hl O4d.out).mono ?_
  rintro e w8 ⟨rfl, b8⟩
  rw [← HM.out]
  have BB8 : Hid (Below w.heap.size w w8) := BB7.out.trans (b8.mono (by omega))
  clear b8
  go_wp2
  go_ret
  exact ⟨rfl, BB8.out⟩
theorem lawTokens_any (s : ByteArray) (w : World) (hL : LR w) :
    Calls Tryd.prog 3 #[.string s] w fun e w' => e = .returned (.bool true) ∧ Below w.heap.size w w' := by
  by_cases hl : 1048576 < (s.size : Int)
  · exact lawTokens_long s w hl
  · obtain ⟨c, a, l, h⟩ := tof_total s
    exact lawTokens_of s c a l w hL hl (tof_len h) (fun w => (specOf_any s w).mono fun _ _ h' => ansC_of h h') (fun w hL => (implOf_any s w hL).mono fun _ _ h' => ansC_of h h')
end Go.Proofs.YtnlfnicgfhfpfaaDoor
