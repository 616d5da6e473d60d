/-
  The exact law of NewGlobals answers true at every version; nothing that was there is turned.
-/
import Derived.Test.YtlamkbggfbancaaDoorNewG
import Derived.Test.YtlamkbggfbancaaDoorResGlobalsResult
namespace Go.Proofs.YtlamkbggfbancaaDoor
open Go.RowKit Go.Extern.Stop Go.Stop Go.Extern Num Go.Lib

set_option maxRecDepth 100000 in
set_option maxHeartbeats 4000000 in
theorem lawNG_any (p : Int) (w : World) :
    Calls Tryd.prog 4 #[.int .i64 p] w fun e w' => e = .returned (.bool true) ∧ Below w.heap.size w w' := by
  have HP : Hid (∀ w, Calls Tryd.prog 13 #[.int .i64 p] w fun e w' => AnsG w (codeNG p) (listNG p) e w') := fun w => specNG_any p w
  have HI : Hid (∀ w, Calls Tryd.prog 14 #[.int .i64 p] w fun e w' => AnsG w (codeNG p) (listNG p) e w') := fun w => implNG_any p w
  have hM := listNG_len p
  generalize codeNG p = c0 at HP HI
  generalize listNG p = M at HP HI hM
  go_enter Tryd.func4, Tryd.ntmps4
  go_wp2_with fail
  refine (HP.out _).mono ?_
  rintro e w3 ⟨ao, ca, rfl, o3, b3⟩
  have O3 : Hid (w3.ownsRow w.heap.size 69 5 (.slice ao M.length ca) M.length (cellsG M)) := o3
  have B3 : Hid (Below w.heap.size w w3) := b3
  have hg3 : ∀ g, (Value.slice ao M.length ca).ownBlock = some g → g < w3.heap.size := fun g hg => (o3.lt g hg).2
  have B3a : Hid (Below w.heap.size w (w3.alloc (.cells #[.int .i64 c0, .slice ao M.length ca] 39))) := b3.alloc b3.size _
  clear o3 b3
  go_wp2_with fail
  refine (HI.out _).mono ?_
  rintro e w5 ⟨bo, cb, rfl, o5, b5⟩
  have B5 : Hid (Below w.heap.size w w5) := B3a.out.trans (b5.mono B3a.out.size)
  have s35 : w3.heap.size < w5.heap.size := by have := b5.size; simp at this; omega
  have hg5 : ∀ g, (Value.slice bo M.length cb).ownBlock = some g → w3.heap.size < g ∧ g < w5.heap.size := fun g hg => by have := o5.lt g hg; simp at this; omega
  have X5 : Hid (BoxG w3.heap.size w5.heap.size c0 ao bo M.length ca cb (w5.alloc (.cells #[.int .i64 c0, .slice bo M.length cb] 39))) := BoxG.mk' b5
  have O5w : Hid (World.ownsRow (w5.alloc (.cells #[.int .i64 c0, .slice bo M.length cb] 39)) w.heap.size 69 5 (.slice ao M.length ca) M.length (cellsG M)) := (own_below (O3.out.alloc _) b5).alloc _
  have O5g : Hid (World.ownsRow (w5.alloc (.cells #[.int .i64 c0, .slice bo M.length cb] 39)) w.heap.size 69 5 (.slice bo M.length cb) M.length (cellsG M)) := (own_base o5 B3a.out.size).alloc _
  have B5a : Hid (Below w.heap.size w (w5.alloc (.cells #[.int .i64 c0, .slice bo M.length cb] 39))) := B5.out.alloc B5.out.size _
  clear o5 b5 O3
  have p0 := X5.out.p0
  have p1 := X5.out.p1
  have q0 := X5.out.q0
  have q1 := X5.out.q1
  go_wp2_with fail
  clear p0 p1 q0 q1
  refine (eqRG_same c0 bo ao cb ca _ _ M _ (by omega) O5g.out O5w.out).mono ?_
  rintro e w6 ⟨rfl, b6⟩
  have X6 : Hid (BoxG w3.heap.size w5.heap.size c0 ao bo M.length ca cb w6) := X5.out.below b6
  have B6 : Hid (Below w.heap.size w w6) := B5a.out.trans (b6.mono B5a.out.size)
  have O6w : Hid (w6.ownsRow w.heap.size 69 5 (.slice ao M.length ca) M.length (cellsG M)) := own_below O5w.out b6
  have O6g : Hid (w6.ownsRow w.heap.size 69 5 (.slice bo M.length cb) M.length (cellsG M)) := own_below O5g.out b6
  have s6 : w5.heap.size < w6.heap.size := by have := b6.size; simp at this; omega
  clear b6 X5 O5w O5g
  have q0 := X6.out.q0
  have q1 := X6.out.q1
  go_wp2_with fail
  clear q0 q1
  refine (markRG_any c0 bo cb _ M _ (by omega) O6g.out).mono ?_
  rintro e w11 ⟨rfl, o11, g11⟩
  have O11 : Hid (w11.ownsRow w.heap.size 69 5 (.slice bo M.length cb) M.length (cellsG (marksG 1 M.length))) := o11
  have X11 : Hid (BoxG w3.heap.size w5.heap.size c0 ao bo M.length ca cb w11) := X6.out.grown g11 (fun e => by have := hg5 _ e.symm; omega) (fun e => by have := hg5 _ e.symm; omega)
  have B11 : Hid (Below w.heap.size w w11) := B6.out.trans (below_of_grown g11 B6.out.size (fun k hk => by have := hg5 k hk; have := B3.out.size; omega))
  have O11w : Hid (w11.ownsRow w.heap.size 69 5 (.slice ao M.length ca) M.length (cellsG M)) := own_apart O6w.out g11 (fun g hg e => by have h1 := hg3 g hg; have h2 := hg5 g e; omega)
  clear o11 g11 X6 O6w O6g
  have q0 := X11.out.q0
  have q1 := X11.out.q1
  obtain ⟨m, hm⟩ : ∃ m : Nat, m = 1 + 5 * M.length := ⟨_, rfl⟩
  have HM : Hid (∀ (u : World) (base : Nat), u.ownsRow base 69 5 (.slice bo M.length cb) M.length (cellsG (marksG 1 M.length)) → Calls Tryd.prog 17 #[.agg #[.int .i64 c0, .slice bo M.length cb], .int .i64 1] u fun e w' => e = .returned (.int .i64 (m : Int)) ∧ Below u.heap.size u w') := fun u base ho => by rw [hm]; exact heldRG_any c0 bo cb base M.length u (by omega) ho
  rw [← hm]
  clear hm
  go_wp2_with fail
  clear q0 q1
  refine (HM.out _ _ O11.out).mono ?_
  rintro e w12 ⟨rfl, b12⟩
  have X12 : Hid (BoxG w3.heap.size w5.heap.size c0 ao bo M.length ca cb w12) := X11.out.below b12
  have B12 : Hid (Below w.heap.size w w12) := B11.out.trans (b12.mono B11.out.size)
  have O12w : Hid (w12.ownsRow w.heap.size 69 5 (.slice ao M.length ca) M.length (cellsG M)) := own_below O11w.out b12
  have O12 : Hid (w12.ownsRow w.heap.size 69 5 (.slice bo M.length cb) M.length (cellsG (marksG 1 M.length))) := own_below O11.out b12
  clear b12 X11 O11 O11w
  go_wp2_with fail
  refine (HI.out _).mono ?_
  rintro e w14 ⟨ho, ch, rfl, o14, b14⟩
  have O14h : Hid (w14.ownsRow w12.heap.size 69 5 (.slice ho M.length ch) M.length (cellsG M)) := o14
  have X14 : Hid (BoxG w3.heap.size w5.heap.size c0 ao bo M.length ca cb w14) := X12.out.below b14
  have B14 : Hid (Below w.heap.size w w14) := B12.out.trans (b14.mono B12.out.size)
  have O14w : Hid (w14.ownsRow w.heap.size 69 5 (.slice ao M.length ca) M.length (cellsG M)) := own_below O12w.out b14
  have O14 : Hid (w14.ownsRow w.heap.size 69 5 (.slice bo M.length cb) M.length (cellsG (marksG 1 M.length))) := own_below O12.out b14
  have l14 : w3.heap.size < w14.heap.size := lt_of_cell X14.out.p0
  clear o14 b14 X12 O12 O12w
  have p0 := X14.out.p0
  have p1 := X14.out.p1
  go_wp2_with fail
  clear p0 p1
  refine (eqRG_same c0 ho ao ch ca _ _ M _ (by omega) (O14h.out.alloc _) (O14w.out.alloc _)).mono ?_
  rintro e w15 ⟨rfl, b15⟩
  have X15 : Hid (BoxG w3.heap.size w5.heap.size c0 ao bo M.length ca cb w15) := (X14.out.below ((Below.refl _ _).alloc (Nat.le_refl _) _)).below b15
  have B15 : Hid (Below w.heap.size w w15) := (B14.out.alloc B14.out.size _).trans (b15.mono (by have := B14.out.size; simp; omega))
  have O15 : Hid (w15.ownsRow w.heap.size 69 5 (.slice bo M.length cb) M.length (cellsG (marksG 1 M.length))) := own_below (O14.out.alloc _) b15
  clear b15 X14 O14 O14w O14h
  have q0 := X15.out.q0
  have q1 := X15.out.q1
  go_wp2_with fail
  clear q0 q1
  refine (HM.out _ _ O15.out).mono ?_
  rintro e w16 ⟨rfl, b16⟩
  have B16 : Hid (Below w.heap.size w w16) := B15.out.trans (b16.mono B15.out.size)
  clear b16
  go_wp2
  go_ret
  exact ⟨rfl, B16.out⟩
end Go.Proofs.YtlamkbggfbancaaDoor
