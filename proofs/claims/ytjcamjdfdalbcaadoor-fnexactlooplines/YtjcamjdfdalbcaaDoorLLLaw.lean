/-
  The exact law of LoopLines answers true at every text; nothing that was there is turned.
-/
import Derived.Test.YtjcamjdfdalbcaaDoorLLSpec
import Derived.Test.YtjcamjdfdalbcaaDoorMkStr
namespace Go.Proofs.YtjcamjdfdalbcaaDoor
open Go.RowKit Go.Extern.Stop Go.Stop Go.Extern Num Go.Lib

theorem lmL_len (t : ByteArray) : (lmL t).length ≤ 2001 := by
  unfold lmL
  split
  · rename_i h; have := linesL_len t; omega
  · simp
set_option maxRecDepth 100000 in
set_option maxHeartbeats 4000000 in
theorem lawLL_any (t : ByteArray) (w : World) (hx : t.size ≤ 9223372036854775807) (hM : ∃ m, w.cell? ⟨0, 0, none⟩ = some (.int .i64 m)) :
    Calls Tryd.prog 3 #[.string t] w fun e w' => e = .returned (.bool true) ∧ Below w.heap.size w w' := by
  by_cases h : t.size ≤ 1048576
  · obtain ⟨mm, hm⟩ := hM
    have HP : Hid (∀ u, Calls Tryd.prog 4 #[.string t] u fun e w' => AnsLL (lcL t) (lmL t) u w' e) := fun u => specLL_any t u h
    have HI : Hid (∀ u, Below w.heap.size w u → Calls Tryd.prog 5 #[.string t] u fun e w' => AnsLL (lcL t) (lmL t) u w' e) := fun u hu => implLL_any t mm u h (cell_keep hu hm)
    have hM := lmL_len t
    generalize lmL t = M at HP HI hM
    generalize lcL t = c0 at HP HI
    clear hm
    go_enter Tryd.func3, Tryd.ntmps3
    go_wp2_with fail
    refine (HP.out _).mono ?_
    rintro e w3 ⟨ao, ca, rfl, o3, b3⟩
    have O3 : Hid (w3.ownsRow w.heap.size 9 1 (.slice ao M.length ca) M.length (cellsT M)) := o3
    have B3 : Hid (Below w.heap.size w w3) := b3
    have s3 : w.heap.size ≤ w3.heap.size := b3.size
    have hg3 : ∀ g, (Value.slice ao M.length ca).ownBlock = some g → g < w3.heap.size := fun g hg => (O3.out.lt g hg).2
    clear o3 b3
    have B3a : Hid (Below w.heap.size w (w3.alloc (.cells #[.int .i64 c0, .slice ao M.length ca] 24))) := B3.out.alloc s3 _
    go_wp2_with fail
    refine (HI.out _ B3a.out).mono ?_
    rintro e w5 ⟨bo, cb, rfl, o5, b5⟩
    have O5 : Hid (w5.ownsRow (w3.heap.size + 1) 9 1 (.slice bo M.length cb) M.length (cellsT M)) := by show World.ownsRow _ _ _ _ _ _ _; simpa using o5
    have X4 : Hid (Below (w3.alloc (.cells #[.int .i64 c0, .slice ao M.length ca] 24)).heap.size (w3.alloc (.cells #[.int .i64 c0, .slice ao M.length ca] 24)) w5) := b5
    have P5 : Hid (w5.ownsRow w.heap.size 9 1 (.slice ao M.length ca) M.length (cellsT M)) := own_below (O3.out.alloc _) b5
    have B5 : Hid (Below w.heap.size w w5) := B3a.out.trans (b5.mono B3a.out.size)
    have hg5 : ∀ g, (Value.slice bo M.length cb).ownBlock = some g → w3.heap.size < g ∧ g < w5.heap.size := fun g hg => by have := O5.out.lt g hg; omega
    have s5 : w3.heap.size < w5.heap.size := by have := b5.size; simp at this; omega
    have X5 : Hid (BoxT w3.heap.size w5.heap.size c0 ao bo M.length ca cb (w5.alloc (.cells #[.int .i64 c0, .slice bo M.length cb] 24))) := BoxT.mk' X4.out
    have O5w : Hid (World.ownsRow (w5.alloc (.cells #[.int .i64 c0, .slice bo M.length cb] 24)) w.heap.size 9 1 (.slice ao M.length ca) M.length (cellsT M)) := P5.out.alloc _
    have O5g : Hid (World.ownsRow (w5.alloc (.cells #[.int .i64 c0, .slice bo M.length cb] 24)) (w3.heap.size + 1) 9 1 (.slice bo M.length cb) M.length (cellsT M)) := O5.out.alloc _
    have B5a : Hid (Below w.heap.size w (w5.alloc (.cells #[.int .i64 c0, .slice bo M.length cb] 24))) := B5.out.alloc B5.out.size _
    clear o5 b5 O5 P5 X4 O3
    have p0 := X5.out.p0
    have p1 := X5.out.p1
    have q0 := X5.out.q0
    have q1 := X5.out.q1
    go_wp2_with fail
    clear p0 p1 q0 q1
    refine (eqRT_same c0 bo ao cb ca _ _ M _ (by omega) O5g.out O5w.out).mono ?_
    rintro e w10 ⟨rfl, b10⟩
    have X10 : Hid (BoxT w3.heap.size w5.heap.size c0 ao bo M.length ca cb w10) := X5.out.below b10
    have B10 : Hid (Below w.heap.size w w10) := B5a.out.trans (b10.mono B5a.out.size)
    have O10w : Hid (w10.ownsRow w.heap.size 9 1 (.slice ao M.length ca) M.length (cellsT M)) := own_below O5w.out b10
    have O10g : Hid (w10.ownsRow (w3.heap.size + 1) 9 1 (.slice bo M.length cb) M.length (cellsT M)) := own_below O5g.out b10
    have s10 : w5.heap.size < w10.heap.size := by have := b10.size; simp at this; omega
    clear b10 X5 O5w O5g
    have q0 := X10.out.q0
    have q1 := X10.out.q1
    go_wp2_with fail
    clear q0 q1
    refine (markRT_any c0 bo cb _ M _ (by omega) O10g.out).mono ?_
    rintro e w11 ⟨rfl, o11, g11⟩
    have O11 : Hid (w11.ownsRow (w3.heap.size + 1) 9 1 (.slice bo M.length cb) M.length (cellsT (marksT 1 M.length))) := o11
    have X11 : Hid (BoxT w3.heap.size w5.heap.size c0 ao bo M.length ca cb w11) := X10.out.grown g11 (fun e => by have := hg5 _ e.symm; omega) (fun e => by have := hg5 _ e.symm; omega)
    have B11 : Hid (Below w.heap.size w w11) := B10.out.trans (below_of_grown g11 B10.out.size (fun k hk => by have := hg5 k hk; omega))
    have O11w : Hid (w11.ownsRow w.heap.size 9 1 (.slice ao M.length ca) M.length (cellsT M)) := own_apart O10w.out g11 (fun g hg e => by have h1 := hg3 g hg; have h2 := hg5 g e; omega)
    have s11 : w10.heap.size ≤ w11.heap.size := g11.size
    clear o11 g11 X10 O10w O10g
    have q0 := X11.out.q0
    have q1 := X11.out.q1
    obtain ⟨m, hm⟩ : ∃ m : Nat, m = 1 + M.length := ⟨_, rfl⟩
    have HM : Hid (∀ (u : World) (base : Nat), u.ownsRow base 9 1 (.slice bo M.length cb) M.length (cellsT (marksT 1 M.length)) → Calls Tryd.prog 8 #[.agg #[.int .i64 c0, .slice bo M.length cb], .int .i64 1] u fun e w' => e = .returned (.int .i64 (m : Int)) ∧ Below u.heap.size u w') := fun u base ho => by rw [hm]; exact heldRT_any c0 bo cb base M.length u (by omega) ho
    rw [← hm]
    clear hm
    go_wp2_with fail
    clear q0 q1
    refine (HM.out _ _ O11.out).mono ?_
    rintro e w13 ⟨rfl, b13⟩
    have X13 : Hid (BoxT w3.heap.size w5.heap.size c0 ao bo M.length ca cb w13) := X11.out.below b13
    have B13 : Hid (Below w.heap.size w w13) := B11.out.trans (b13.mono B11.out.size)
    have O13w : Hid (w13.ownsRow w.heap.size 9 1 (.slice ao M.length ca) M.length (cellsT M)) := own_below O11w.out b13
    have O13 : Hid (w13.ownsRow (w3.heap.size + 1) 9 1 (.slice bo M.length cb) M.length (cellsT (marksT 1 M.length))) := own_below O11.out b13
    have s13 : w11.heap.size ≤ w13.heap.size := b13.size
    clear b13 X11 O11 O11w
    go_wp2_with fail
    refine (HI.out w13 B13.out).mono ?_
    rintro e w14 ⟨ho, ch, rfl, o14, b14⟩
    have O14h : Hid (w14.ownsRow w13.heap.size 9 1 (.slice ho M.length ch) M.length (cellsT M)) := o14
    have X14 : Hid (BoxT w3.heap.size w5.heap.size c0 ao bo M.length ca cb w14) := X13.out.below b14
    have B14 : Hid (Below w.heap.size w w14) := B13.out.trans (b14.mono B13.out.size)
    have O14w : Hid (w14.ownsRow w.heap.size 9 1 (.slice ao M.length ca) M.length (cellsT M)) := own_below O13w.out b14
    have O14 : Hid (w14.ownsRow (w3.heap.size + 1) 9 1 (.slice bo M.length cb) M.length (cellsT (marksT 1 M.length))) := own_below O13.out b14
    have s14 : w13.heap.size ≤ w14.heap.size := b14.size
    have l14 : w3.heap.size < w14.heap.size := by omega
    clear o14 b14 X13 O13 O13w
    have p0 := X14.out.p0
    have p1 := X14.out.p1
    go_wp2_with fail
    clear p0 p1
    refine (eqRT_same c0 ho ao ch ca _ _ M _ (by omega) (O14h.out.alloc _) (O14w.out.alloc _)).mono ?_
    rintro e w15 ⟨rfl, b15⟩
    have X15 : Hid (BoxT w3.heap.size w5.heap.size c0 ao bo M.length ca cb w15) := (X14.out.below ((Below.refl _ _).alloc (Nat.le_refl _) _)).below b15
    have B15 : Hid (Below w.heap.size w w15) := (B14.out.alloc B14.out.size _).trans (b15.mono (by have := B14.out.size; simp; omega))
    have O15 : Hid (w15.ownsRow (w3.heap.size + 1) 9 1 (.slice bo M.length cb) M.length (cellsT (marksT 1 M.length))) := own_below (O14.out.alloc _) b15
    clear b15 X14 O14 O14w O14h
    have q0 := X15.out.q0
    have q1 := X15.out.q1
    go_wp2_with fail
    clear q0 q1
    refine (HM.out _ _ O15.out).mono ?_
    rintro e w16 ⟨rfl, b16⟩
    have B16 : Hid (Below w.heap.size w w16) := B15.out.trans (b16.mono B15.out.size)
    clear b16
    go_wp2
    go_ret
    exact ⟨rfl, B16.out⟩
  · have h' : 1048576 < t.size := by omega
    clear hM
    go_enter Tryd.func3, Tryd.ntmps3
    go_wp2
    go_ret
    exact ⟨rfl, Below.refl _ _⟩
end Go.Proofs.YtjcamjdfdalbcaaDoor
