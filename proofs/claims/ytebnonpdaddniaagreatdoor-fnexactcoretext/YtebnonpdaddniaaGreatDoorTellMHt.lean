/-
  Parts of the proof laid into one text, one behind the other; each says at its head what is proved in it.
-/
import Derived.Test.YtebnonpdaddniaaGreatDoorHtG
import Derived.Test.YtebnonpdaddniaaGreatDoorImplPartsHt
import Derived.Test.YtebnonpdaddniaaGreatDoorHtE
/-
  The program's tell, which calls itself in the rounds of a range over the parts of a place: each place below is told where it begins and where it ends; nothing that was there is turned but what the rounds own.
-/
namespace Go.Proofs.YtebnonpdaddniaaGreatDoor
open Go.RowKit Go.Extern.Stop Go.Stop Go.Extern Num Go.Lib Go.Shelf
attribute [local go_sem] Oper.semAt_some

/-- The temporaries of a round of tell. -/
abbrev actT (A tb K y : Nat) (a x : Int) : Act := { tmps := #[.pointer (some ⟨tb, 0, none⟩), .int .i64 a, .func (.yield y) #[] #[], .pointer (some ⟨A, 0, none⟩), undef, .pointer (some ⟨A + 1, 0, none⟩), .pointer (some ⟨A + 1 + 1, 0, none⟩), .int .i64 x, .func (.yield y) #[] #[], .int .i64 a, .bool true, .bool false, .pointer (some ⟨tb, 0, none⟩), .int .i64 a, .func (.func 236) #[] #[.pointer (some ⟨K, 0, none⟩), .pointer (some ⟨K + 1, 0, none⟩)], .int .i64 x, undef, undef, undef, undef, undef, undef, undef, undef], defers := [] }
theorem roundIn_more {P : Program} {n m l : Nat} {f : FuncId} {tmps : Array Value} {assign body : Code} {w : World} {R : Ending → World → Prop} (h : RoundIn Fence.wide n P l f tmps assign body w R) : RoundIn Fence.wide m P l f tmps assign body w R :=
  ⟨trivial, fun c cs _ => h.2 c cs (room_wide _)⟩
theorem pre_trans {α : Type} {p q r s : List α} (h : p ++ (q ++ r) <+: s) : p ++ q <+: s := (List.prefix_append (p ++ q) r).trans (by rw [List.append_assoc]; exact h)
theorem flat_pre {α β : Type} (g : α → List β) {P L : List α} {x : α} (h : P ++ [x] <+: L) : P.flatMap g ++ g x <+: L.flatMap g := by
  obtain ⟨t, rfl⟩ := h
  simp only [List.flatMap_append, List.flatMap_cons, List.flatMap_nil, List.append_nil]
  exact List.prefix_append _ _
set_option maxRecDepth 100000 in
set_option maxHeartbeats 4000000 in
theorem tell_any {d : List Dat} (Fi : Fine d) (hPd : ∀ (k : Nat) (h : k < (nodes d).length), PdN ((k : Int), (nodes d)[k])) (n₀ B tb y : Nat) (M : World → Nat → Prop) (J : List (Int × Bool) → World → Prop) (hO : OwnM n₀ B M J) (hn : n₀ ≤ B) (L : List (Int × Bool))
    (hY : ∀ pre x W1, J pre W1 → pre ++ [x] <+: L → B ≤ W1.heap.size → ∃ k, YieldAt Fence.wide k Tryz.prog y #[.int .i64 x.1, .bool x.2] W1 fun e W' => e = .returned (.bool true) ∧ J (pre ++ [x]) W' ∧ Kq n₀ M W1 W') :
    ∀ (f a : Nat) (pre : List (Int × Bool)) (W : World), a < d.length → d.length ≤ a + f → pre ++ evF d f a <+: L → J pre W → B ≤ W.heap.size → IsTree n₀ W tb (nodes d) →
      Calls Tryz.prog 238 #[.pointer (some ⟨tb, 0, none⟩), .int .i64 (a : Int), .func (.yield y) #[] #[]] W fun e W' => e = .returned (.bool true) ∧ J (pre ++ evF d f a) W' ∧ Kq n₀ M W W'
  | 0, a, _, _, ha, hf, _, _, _, _ => absurd hf (by omega)
  | f + 1, a, pre, W, ha, hf, hL, hJ, hB, hT => by
    have ih : ∀ (p : Nat) (pre : List (Int × Bool)) (W : World), a < p → p < d.length → pre ++ evF d f p <+: L → J pre W → B ≤ W.heap.size → IsTree n₀ W tb (nodes d) →
      Calls Tryz.prog 238 #[.pointer (some ⟨tb, 0, none⟩), .int .i64 (p : Int), .func (.yield y) #[] #[]] W fun e W' => e = .returned (.bool true) ∧ J (pre ++ evF d f p) W' ∧ Kq n₀ M W W' :=
      fun p pre W h1 h2 h3 h4 h5 h6 => tell_any Fi hPd n₀ B tb y M J hO hn L hY f p pre W h2 (by omega) h3 h4 h5 h6
    have IH : Hid (∀ (p : Nat) (pre : List (Int × Bool)) (W : World), a < p → p < d.length → pre ++ evF d f p <+: L → J pre W → B ≤ W.heap.size → IsTree n₀ W tb (nodes d) →
      Calls Tryz.prog 238 #[.pointer (some ⟨tb, 0, none⟩), .int .i64 (p : Int), .func (.yield y) #[] #[]] W fun e W' => e = .returned (.bool true) ∧ J (pre ++ evF d f p) W' ∧ Kq n₀ M W W') := ih
    clear ih
    have hev : evF d (f + 1) a = [((a : Int), true)] ++ ((partsD d (a : Int)).flatMap (fun p => evF d f p.toNat) ++ [((a : Int), false)]) := by simp [evF]
    have HEV : Hid (evF d (f + 1) a = [((a : Int), true)] ++ ((partsD d (a : Int)).flatMap (fun p => evF d f p.toNat) ++ [((a : Int), false)])) := hev
    have HL : Hid (pre ++ ([((a : Int), true)] ++ ((partsD d (a : Int)).flatMap (fun p => evF d f p.toNat) ++ [((a : Int), false)])) <+: L) := by show _; rw [← hev]; exact hL
    clear hev hL
    have hN : (nodes d).length ≤ 1000 := by rw [nodes_len]; have := Fi.len; omega
    have hka := kids_all Fi a ha
    have HKA : Hid (kidsT a (tellN (nodes d) a (endD d a - a)) = partsD d (a : Int)) := hka
    clear hka
    -- the boxes
    obtain ⟨W1, hW1⟩ : ∃ W1, W1 = (((W.alloc (.cells #[.pointer (some ⟨tb, 0, none⟩)] 102)).alloc (.cells #[.func (.yield y) #[] #[]] 233)).alloc (.cells #[.bool false] 4)) := ⟨_, rfl⟩
    have hs1 : W1.heap.size = W.heap.size + 3 := by rw [hW1]; simp
    have j1 : J pre W1 := by rw [hW1]; exact hO.alloc (hO.alloc (hO.alloc hJ (by omega) (by omega) _) (by simp; omega) (by simp; omega) _) (by simp; omega) (by simp; omega) _
    have k1 : Kq n₀ M W W1 := by rw [hW1]; exact ((kq_alloc hO hJ (by omega) _).trans (kq_alloc hO (hO.alloc hJ (by omega) (by omega) _) (by simp; omega) _)).trans (kq_alloc hO (hO.alloc (hO.alloc hJ (by omega) (by omega) _) (by simp; omega) (by simp; omega) _) (by simp; omega) _)
    have x0 : Boxed W1 W.heap.size 102 (.pointer (some ⟨tb, 0, none⟩)) := by rw [hW1]; exact ((Boxed.new W _ _).alloc _).alloc _
    have x1 : Boxed W1 (W.heap.size + 1) 233 (.func (.yield y) #[] #[]) := by
      have := Boxed.new (W.alloc (.cells #[.pointer (some ⟨tb, 0, none⟩)] 102)) 233 (.func (.yield y) #[] #[])
      rw [World.size_alloc] at this
      rw [hW1]; exact this.alloc _
    have x2 : Boxed W1 (W.heap.size + 1 + 1) 4 (.bool false) := by
      have := Boxed.new ((W.alloc (.cells #[.pointer (some ⟨tb, 0, none⟩)] 102)).alloc (.cells #[.func (.yield y) #[] #[]] 233)) 4 (.bool false)
      rw [World.size_alloc, World.size_alloc] at this
      rw [hW1]; exact this
    have n1 : ∀ b, W.heap.size ≤ b → ¬ M W1 b := fun b hb hm => by
      rw [hW1] at hm
      have h3 := hO.allocM (hO.alloc (hO.alloc hJ (by omega) (by omega) _) (by simp; omega) (by simp; omega) _) _ hm
      have h2 := hO.allocM (hO.alloc hJ (by omega) (by omega) _) _ h3
      have := hO.lt hJ (hO.allocM hJ _ h2)
      omega
    obtain ⟨k, fn, tmps, assign, body, hy, hR⟩ := hY pre ((a : Int), true) W1 j1 (pre_trans HL.out) (by omega)
    have hy' : (Instr.yield y #[.int .i64 (a : Int), .bool true]).run Tryz.prog (((W.alloc (.cells #[.pointer (some ⟨tb, 0, none⟩)] 102)).alloc (.cells #[.func (.yield y) #[] #[]] 233)).alloc (.cells #[.bool false] 4)) = .ok (.round y fn tmps assign body) (((W.alloc (.cells #[.pointer (some ⟨tb, 0, none⟩)] 102)).alloc (.cells #[.func (.yield y) #[] #[]] 233)).alloc (.cells #[.bool false] 4)) := by rw [← hW1]; exact hy
    have hR' : RoundIn Fence.wide (10 - 1) Tryz.prog y fn tmps assign body (((W.alloc (.cells #[.pointer (some ⟨tb, 0, none⟩)] 102)).alloc (.cells #[.func (.yield y) #[] #[]] 233)).alloc (.cells #[.bool false] 4)) (fun e W' => e = .returned (.bool true) ∧ J (pre ++ [((a : Int), true)]) W' ∧ Kq n₀ M W1 W') := by rw [← hW1]; exact roundIn_more hR
    clear hy hR
    refine (callsIn_wide (n := 10)).1 ?_
    refine callsIn_of_wp_marks Tryz.func238 rfl trivial ?_ rfl
    simp only [Tryz.ntmps238, List.size_toArray, List.length_cons, List.length_nil, Nat.reduceAdd, Nat.reduceSub, Array.replicate_succ, Array.replicate_zero, List.push_toArray, List.append_toArray, List.nil_append, List.cons_append]
    have hF : ∀ f, Fence.wide.fn f := fun _ => trivial
    have hlt0 : W.heap.size < W1.heap.size := by omega
    have hlt1 : W.heap.size + 1 < W1.heap.size := by omega
    have hlt2 : W.heap.size + 1 + 1 < W1.heap.size := by omega
    gi_wp2_with (first | (gi_at_call 217; refine (kids_in Fence.wide (10 - 1) hF rfl _ _ _).mono ?_; rintro e w' ⟨rfl, rfl⟩) | (refine hR'.mono ?_; rintro r W2 ⟨rfl, j2, k2⟩; have c0 : W2.cell? ⟨W.heap.size, 0, none⟩ = some (.pointer (some ⟨tb, 0, none⟩)) := (k2.cell hlt0 (n1 _ (Nat.le_refl _))).trans x0.cell))
    clear hy' hR' hW1
    have hs2 := k2.size
    obtain ⟨w3, hw3⟩ : ∃ w3, w3 = ((W2.alloc (.cells #[.pointer (some ⟨tb, 0, none⟩)] 102)).alloc (.cells #[.int .i64 (a : Int)] 2)) := ⟨_, rfl⟩
    have hs3 : w3.heap.size = W2.heap.size + 2 := by rw [hw3]; simp
    have j3 : J (pre ++ [((a : Int), true)]) w3 := by rw [hw3]; exact hO.alloc (hO.alloc j2 (by omega) (by omega) _) (by simp; omega) (by simp; omega) _
    have k3 : Kq n₀ M W2 w3 := by rw [hw3]; exact (kq_alloc hO j2 (by omega) _).trans (kq_alloc hO (hO.alloc j2 (by omega) (by omega) _) (by simp; omega) _)
    have y0 : Boxed w3 W2.heap.size 102 (.pointer (some ⟨tb, 0, none⟩)) := by rw [hw3]; exact (Boxed.new W2 _ _).alloc _
    have y1 : Boxed w3 (W2.heap.size + 1) 2 (.int .i64 (a : Int)) := by
      have := Boxed.new (W2.alloc (.cells #[.pointer (some ⟨tb, 0, none⟩)] 102)) 2 (.int .i64 (a : Int))
      rw [World.size_alloc] at this
      rw [hw3]; exact this
    have m3 : ∀ b, M w3 b → M W2 b := fun b hm => by
      rw [hw3] at hm
      exact hO.allocM j2 _ (hO.allocM (hO.alloc j2 (by omega) (by omega) _) _ hm)
    have n3 : ∀ b, W.heap.size ≤ b → b < W1.heap.size → ¬ M w3 b := fun b h1 h2 hm => n1 b h1 (k2.2.2 b h2 (m3 b hm))
    have n4 : ∀ b, W2.heap.size ≤ b → ¬ M w3 b := fun b h1 hm => by have := hO.lt j2 (m3 b hm); omega
    have kW3 : Kq n₀ M W w3 := (k1.trans k2).trans k3
    have k13 : Kq n₀ M W1 w3 := k2.trans k3
    have hT3 : IsTree n₀ w3 tb (nodes d) := hT.below kW3.1
    rw [← hw3]
    refine range_own rfl (by omega : 1 ≤ 10) (gf := 236) (lb := #[.pointer (some ⟨W2.heap.size, 0, none⟩), .pointer (some ⟨W2.heap.size + 1, 0, none⟩)]) rfl (hF _) (enters_of Tryz.func236 (by kernel_rfl) rfl)
      (kids_seq (10 - 1) (by omega) (W2.heap.size + 1) W2.heap.size n₀ W2.heap.size (W2.heap.size + 2) tb _ (nodes d) a (endD d a) (endAt_of Fi a ha) hN hPd w3 (by omega) y1.cell y0.cell (by omega) (by omega) (by omega) (by omega) hT3)
      (fun h k => ⟨kpx_t h.1 k.1, fun b l1 l2 => (k.2 b l1 l2).trans (h.2 b l1 l2)⟩)
      (fun X o o' g1 g2 g3 => ⟨kpx_b (w := w3) (by omega) (by omega) X _ o o' (by omega) g1 g2 g3, fun b l1 l2 => World.putObj_heap_other (by omega)⟩) (Below.refl _ _) (fun _ => rfl)
      (fun P X => J (pre ++ ([((a : Int), true)] ++ P.flatMap (fun p => evF d f p.toNat))) X ∧ Kq n₀ M w3 X ∧ ∀ b, w3.heap.size ≤ b → b < w3.heap.size + 7 → ¬ M X b)
      (fun _ _ _ => False)
      (own_kq hO w3 (by omega) hn (fun P : List Int => pre ++ ([((a : Int), true)] ++ P.flatMap (fun p => evF d f p.toNat))) 7)
      (fun _ _ _ _ _ hs _ _ => hs)
      ⟨by simpa using j3, Kq.refl _ _ _, fun b h1 _ => n4 b (by omega)⟩
      (fun x a' _ => a' = actT W.heap.size tb W2.heap.size y (a : Int) x) (fun x a' s X X' row hs _ _ => hs) ?assign ?body ?done ?stop
    case assign =>
      rintro l' P x X K hI hK
      gi_wp2
      exact hK _ _ (KeepsFrom.refl _ _) ⟨kpx_refl _ _ _ _, fun _ _ _ => rfl⟩ hI rfl
    case body =>
      rintro l' P x a' X ⟨jX, kX, cX⟩ rfl hpx hmm
      rw [HKA.out] at hpx
      have hxm : x ∈ partsD d (a : Int) := hpx.subset (by simp)
      obtain ⟨j, rfl, hj, hpar⟩ := (parts_mem d _ _).1 hxm
      have haj := Fi.parlt hj hpar
      have hsX := kX.size
      have d0 : X.cell? ⟨W.heap.size, 0, none⟩ = some (.pointer (some ⟨tb, 0, none⟩)) := ((k13.trans kX).cell hlt0 (n1 _ (Nat.le_refl _))).trans x0.cell
      have d1 : X.cell? ⟨W.heap.size + 1, 0, none⟩ = some (.func (.yield y) #[] #[]) := ((k13.trans kX).cell hlt1 (n1 _ (by omega))).trans x1.cell
      have hpre : (pre ++ ([((a : Int), true)] ++ P.flatMap (fun p => evF d f p.toNat))) ++ evF d f j <+: L := by
        refine List.IsPrefix.trans ?_ HL.out
        obtain ⟨t, ht⟩ := flat_pre (fun p : Int => evF d f p.toNat) hpx
        rw [← ht]
        refine ⟨t ++ [((a : Int), false)], ?_⟩
        simp
      have HC : Hid (Calls Tryz.prog 238 #[.pointer (some ⟨tb, 0, none⟩), .int .i64 (j : Int), .func (.yield y) #[] #[]] X fun e W' => e = .returned (.bool true) ∧ J ((pre ++ ([((a : Int), true)] ++ P.flatMap (fun p => evF d f p.toNat))) ++ evF d f j) W' ∧ Kq n₀ M X W') := IH.out j _ X haj hj hpre jX (by omega) (hT3.below kX.1)
      clear hpre hpx hxm hpar
      have hFr : ∀ f, (Fence.wide.inRound l').fn f := fun _ => trivial
      gi_wp2_with (gi_at_call 238; refine (((callsIn_wide (n := 10 - 1 - 1 - 1)).2 HC.out).inRound l').mono ?_; rintro r X' ⟨rfl, jX', kX'⟩)
      refine ⟨Kq.others hO jX kX' _, ⟨⟨kX'.1, fun b h1 h2 => kX'.2.1 b (by omega) (fun hm => n4 b h1 (kX.2.2 b (by omega) hm))⟩, fun b h1 h2 => kX'.2.1 b (by omega) (cX b (by omega) (by omega))⟩, by simpa using jX', kX.trans kX', fun b h1 h2 hm => cX b h1 h2 (kX'.2.2 b (by omega) hm)⟩
    case done =>
      rintro D P X hD hP ⟨jX, kX, cX⟩ hK
      have hP' : P = partsD d (a : Int) := by rw [← HKA.out]; exact hP
      subst hP'
      have hsX := kX.size
      have d1 : X.cell? ⟨W.heap.size + 1, 0, none⟩ = some (.func (.yield y) #[] #[]) := ((k13.trans kX).cell hlt1 (n1 _ (by omega))).trans x1.cell
      obtain ⟨kk, fn, tmps, assign, body, hy, hR⟩ := hY _ ((a : Int), false) X jX (by have := HL.out; simpa using this) (by omega)
      have hR' := roundIn_more (m := 10 - 1) hR
      clear hR hP
      have kX1 : Kq n₀ M W1 X := k13.trans kX
      have nD : ¬ M X D := hO.notOther jX hK rfl
      have hDl : D < X.heap.size := (Array.getElem?_eq_some_iff.1 hK).1
      gi_wp2_with (refine hR'.mono ?_; rintro r X2 ⟨rfl, jX2, kX2⟩; have x3 : Boxed X2 (W.heap.size + 1 + 1) 4 (.bool false) := ((kX1.trans kX2).2.1 _ hlt2 (n1 _ (by omega))).trans x2; have hc2 := x3.cell; have hf2 := x3.frozen)
      have hK2 : X2.heap[D]? = some (.deferred (some [])) := (kX2.2.1 D hDl nD).trans hK
      have hK' := (KeepsOthers.setCell X2 ⟨W.heap.size + 1 + 1, 0, none⟩ (.bool true)).same D _ hK2 rfl
      refine ⟨by simp, .inl ⟨_, _, rfl, run_takeDeferred hK', ?_⟩⟩
      have hc5 := cell_kept (x3.set (.bool true)).cell (grownBy_putObj' _ D (.deferred none)) (fun r e => by cases e; exact ⟨_, hK', rfl⟩)
      have nb : ¬ M X2 (W.heap.size + 1 + 1) := fun hm => n1 _ (by omega) ((kX1.trans kX2).2.2 _ hlt2 hm)
      have b5 : Below n₀ X2 (X2.setCell ⟨W.heap.size + 1 + 1, 0, none⟩ (.bool true)) := (Below.refl _ _).setCell (p := ⟨W.heap.size + 1 + 1, 0, none⟩) (by show n₀ ≤ W.heap.size + 1 + 1; omega) _
      have s5 : ∀ b, b ≠ W.heap.size + 1 + 1 → (X2.setCell ⟨W.heap.size + 1 + 1, 0, none⟩ (.bool true)).heap[b]? = X2.heap[b]? := fun b hb => Below.heap_setCell X2 ⟨W.heap.size + 1 + 1, 0, none⟩ _ b hb
      have j5 := hO.keep _ X2 _ jX2 b5 (fun b hb => s5 b (by omega)) (fun b hb => s5 b (fun e => nb (e ▸ hb)))
      have kk5 : Kq n₀ M W (X2.setCell ⟨W.heap.size + 1 + 1, 0, none⟩ (.bool true)) := kq_turn hO jX2 ((k1.trans kX1).trans kX2) (by omega) nb b5 s5
      have nD5 := hO.notOther j5 hK' rfl
      refine ⟨.bool true, ?_, rfl, ?_, kq_turn hO j5 kk5 (by omega) nD5 (below_put n₀ _ D _ (by omega)) (fun b hb => World.putObj_heap_other hb)⟩
      · simp [results, Tryz.f238, go_sem, hc5]
      · rw [HEV.out]
        have := hO.put j5 (.deferred none) (by omega : n₀ ≤ D) (by omega) hK' rfl
        simpa using this
    case stop =>
      rintro D c P X _ _ h _
      exact h.elim
end Go.Proofs.YtebnonpdaddniaaGreatDoor
