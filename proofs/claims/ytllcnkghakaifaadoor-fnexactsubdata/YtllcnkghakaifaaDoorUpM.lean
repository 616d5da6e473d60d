/-
  The program's iterator up: a place and all places that it hangs on, the innermost first; depth and isOpen by it; nothing that was there is turned.
-/
import Derived.Test.YtllcnkghakaifaaDoorNodeM
namespace Go.Proofs.YtllcnkghakaifaaDoor
open Go.RowKit Go.Extern.Stop Go.Stop Go.Extern Num Go.Lib Go.Shelf
attribute [local go_sem] Oper.semAt_some

set_option maxRecDepth 100000 in
set_option maxHeartbeats 2000000 in
theorem up1_in (F : Fence) (n : Nat) (hF : ∀ f, F.fn f) (hro : F.round = none) (hn : 1 ≤ n) (l ba bt n₀ lo hi tb : Nat) (N : List Dat) (hp : Pars N) (a : Int) (ha : -1 ≤ a) (ha2 : a < N.length) (J Jx : List Int → World → Prop)
    (hY : ∀ pre x W, J pre W → pre.length < (upL N a).length → YieldAt F (n - 1) Tryd.prog l #[.int .i64 x] W fun e W' =>
      (e = .returned (.bool true) ∧ J (pre ++ [x]) W' ∧ Kpx n₀ lo hi W W') ∨ (e = .returned (.bool false) ∧ Jx (pre ++ [x]) W'))
    (W : World) (hBa : W.cell? ⟨ba, 0, none⟩ = some (.int .i64 a)) (hBt : W.cell? ⟨bt, 0, none⟩ = some (.pointer (some ⟨tb, 0, none⟩))) (hlo : lo ≤ bt) (hhi : bt < hi) (hT : IsTree n₀ W tb N) (h0 : J [] W) :
    CallsIn F n Tryd.prog 117 #[.func (.yield l) #[] #[], .pointer (some ⟨ba, 0, none⟩), .pointer (some ⟨bt, 0, none⟩)] W fun e W' => (∃ v, e = .returned v) ∧
      ((∃ ys, ys = upL N a ∧ J ys W') ∨ (∃ pre, pre <+: upL N a ∧ Jx pre W')) := by
  refine callsIn_of_wp Tryd.func117 rfl (hF _) ?_ hro
  simp only [Tryd.ntmps117, List.size_toArray, List.length_cons, List.length_nil, Nat.reduceAdd, Nat.reduceSub, Array.replicate_succ, Array.replicate_zero, List.push_toArray, List.append_toArray, List.nil_append, List.cons_append]
  gi_wp2
  gi_loopw [4] (fun i wr => ∃ (q : Int) (pre : List Int), i = .int .i64 q ∧ -1 ≤ q ∧ q < N.length ∧ upL N a = pre ++ upL N q ∧ J pre wr ∧ Kpx n₀ lo hi W wr)
    (fun i _ => (intOf i + 1).toNat)
  case atStart => exact ⟨a, [], rfl, ha, ha2, rfl, h0, kpx_refl _ _ _ _⟩
  case round =>
    obtain ⟨q, pre, rfl, hq1, hq2, hup, hJs, hnx⟩ := hrel
    by_cases hq : q = -1
    · subst hq
      gi_wp2
      go_end0
      exact ⟨⟨_, rfl⟩, .inl ⟨pre, by rw [hup, upL_neg]; simp, hJs⟩⟩
    · obtain ⟨k, rfl⟩ : ∃ k : Nat, q = (k : Int) := ⟨q.toNat, by omega⟩
      have hk : k < N.length := by omega
      have hne : ((k : Int) != -1) = true := by simp
      have e1 := upL_at hp k hk
      have hpk := hp k hk
      obtain ⟨fn, tmps, assign, body, hy, hR⟩ := hY pre (k : Int) wr hJs (by rw [hup, e1]; simp)
      replace hup : upL N a = (pre ++ [(k : Int)]) ++ upL N N[k].parent := by rw [hup, e1]; simp
      clear e1
      gi_wp2
      refine hR.mono ?_
      rintro e W3 (⟨rfl, hJ3, hk3⟩ | ⟨rfl, hJx3⟩)
      · obtain ⟨ao, g, cap, hc, htb, hg, hao, hrow⟩ := (hT.below hnx.1).below hk3.1
        obtain rfl := hao (by intro h; rw [h] at hk; simp at hk)
        have hc3 : W3.cell? ⟨bt, 0, none⟩ = some (.pointer (some ⟨tb, 0, none⟩)) := ((kpx_t hnx hk3).cell hlo hhi).trans hBt
        have hr3 := (hrow k hk).1
        gi_wp2
        go_roundw
        case rel => exact ⟨N[k].parent, pre ++ [(k : Int)], rfl, hpk.2, by omega, hup, hJ3, kpx_t hnx hk3⟩
        case measure => simp [intOf]; omega
      · gi_wp2
        go_end0
        exact ⟨⟨_, rfl⟩, .inr ⟨pre ++ [(k : Int)], ⟨_, hup.symm⟩, hJx3⟩⟩
theorem up_in (F : Fence) (n : Nat) (hF : ∀ f, F.fn f) (hro : F.round = none) (p : Option Addr) (a : Int) (w : World) :
    CallsIn F n Tryd.prog 108 #[.pointer p, .int .i64 a] w fun e w' => e = .returned (.func (.func 117) #[] #[.pointer (some ⟨w.heap.size + 1, 0, none⟩), .pointer (some ⟨w.heap.size, 0, none⟩)]) ∧
      w' = (w.alloc (.cells #[.pointer p] 53)).alloc (.cells #[.int .i64 a] 2) := by
  refine callsIn_of_wp Tryd.func108 rfl (hF _) ?_ hro
  simp only [Tryd.ntmps108, List.size_toArray, List.length_cons, List.length_nil, Nat.reduceAdd, Nat.reduceSub, Array.replicate_succ, Array.replicate_zero, List.push_toArray, List.append_toArray, List.nil_append, List.cons_append]
  gi_wp2
  go_ret
  exact ⟨rfl, rfl⟩
theorem up_stops (F : Fence) (n : Nat) (hF : ∀ f, F.fn f) (hro : F.round = none) (hn : 1 ≤ n) (ba bt n₀ lo hi tb : Nat) (N : List Dat) (hp : Pars N) (a : Int) (ha : -1 ≤ a) (ha2 : a < N.length) (w : World) (hn₀ : n₀ ≤ w.heap.size)
    (hBa : w.cell? ⟨ba, 0, none⟩ = some (.int .i64 a)) (hBt : w.cell? ⟨bt, 0, none⟩ = some (.pointer (some ⟨tb, 0, none⟩))) (hlo : lo ≤ bt) (hhi : bt < hi) (hhi2 : hi ≤ w.heap.size) (hba : ba < w.heap.size) (hT : IsTree n₀ w tb N) :
    SeqStopsK F n Tryd.prog 117 #[.pointer (some ⟨ba, 0, none⟩), .pointer (some ⟨bt, 0, none⟩)] (fun x : Int => #[Value.int .i64 x]) (Kpx n₀ lo hi) (fun ys => ys = upL N a) (fun pre => pre <+: upL N a) (upL N a).length w := fun l J Jx W hW _ _ hY h0 =>
  up1_in F n hF hro hn l ba bt n₀ lo hi tb N hp a ha ha2 J Jx hY W ((hW.cell (p := ⟨ba, 0, none⟩) hba).trans hBa) ((hW.cell (p := ⟨bt, 0, none⟩) (by show bt < _; omega)).trans hBt) hlo hhi (hT.below (hW.mono hn₀)) h0
set_option maxRecDepth 100000 in
set_option maxHeartbeats 2000000 in
theorem depth_in (F : Fence) (n : Nat) (hF : ∀ f, F.fn f) (hro : F.round = none) (hn : 3 ≤ n) (tb : Nat) (N : List Dat) (hp : Pars N) (hl : N.length ≤ 1000000) (a : Int) (ha : -1 ≤ a) (ha2 : a < N.length) (w : World) (hT : IsTree w.heap.size w tb N) :
    CallsIn F n Tryd.prog 84 #[.pointer (some ⟨tb, 0, none⟩), .int .i64 a] w fun e W' => e = .returned (.int .i64 (upL N a).length) ∧ Below w.heap.size w W' := by
  have h1 : 1 ≤ n := by omega
  have hlen := upL_len hp N.length a ha2 (by omega) ha
  refine callsIn_of_wp_marks Tryd.func84 rfl (hF _) ?_ hro
  simp only [Tryd.ntmps84, List.size_toArray, List.length_cons, List.length_nil, Nat.reduceAdd, Nat.reduceSub, Array.replicate_succ, Array.replicate_zero, List.push_toArray, List.append_toArray, List.nil_append, List.cons_append]
  gi_wp2_with (gi_at_call 108; refine (up_in F (n - 1) hF hro _ _ _).mono ?_; rintro e w' ⟨rfl, rfl⟩)
  have c0 := Boxed.new w 2 (.int .i64 0)
  have c1 := Boxed.new (w.alloc (.cells #[.int .i64 0] 2)) 53 (.pointer (some ⟨tb, 0, none⟩))
  have c2 := Boxed.new ((w.alloc (.cells #[.int .i64 0] 2)).alloc (.cells #[.pointer (some ⟨tb, 0, none⟩)] 53)) 2 (.int .i64 a)
  simp only [World.size_alloc] at c1 c2
  have hB0 : Below w.heap.size w (((w.alloc (.cells #[.int .i64 0] 2)).alloc (.cells #[.pointer (some ⟨tb, 0, none⟩)] 53)).alloc (.cells #[.int .i64 a] 2)) := (((Below.refl _ w).alloc (Nat.le_refl _) _).alloc (by simp) _).alloc (by simp; omega) _
  refine wpIn_rangeFunc_ownF hro h1 (gf := 117) (lb := #[.pointer (some ⟨w.heap.size + 1 + 1, 0, none⟩), .pointer (some ⟨w.heap.size + 1, 0, none⟩)]) rfl (hF _) (enters_of Tryd.func117 (by kernel_rfl) rfl)
    (up_stops F (n - 1) hF hro (by omega) (w.heap.size + 1 + 1) (w.heap.size + 1) w.heap.size (w.heap.size + 1) (w.heap.size + 3) tb N hp a ha ha2 _ (by simp; omega) c2.cell (c1.alloc _).cell (Nat.le_refl _) (by omega) (by simp) (by simp) (hT.below hB0)) kpx_t (kpx_b (by simp; omega) (by simp)) (Below.refl _ _) (fun _ => rfl)
    (fun pre W => Boxed W w.heap.size 2 (.int .i64 (pre.length : Nat)) ∧ Below w.heap.size w W)
    (fun _ _ _ => False)
    (OwnFrom.and (Own.from (boxed_own _ _ _) _) (ownFrom_below (Nat.le_refl _) (by simp; omega)))
    (fun _ _ _ _ _ hs _ _ => hs)
    ⟨(c0.alloc _).alloc _, hB0⟩
    (fun x => { tmps := #[.pointer (some ⟨tb, 0, none⟩), .int .i64 a, undef, undef, .int .i64 0, .pointer (some ⟨w.heap.size, 0, none⟩), .pointer (some ⟨tb, 0, none⟩), .int .i64 a, .func (.func 117) #[] #[.pointer (some ⟨w.heap.size + 1 + 1, 0, none⟩), .pointer (some ⟨w.heap.size + 1, 0, none⟩)], .int .i64 x, undef, undef, undef], defers := [] }) ?assign ?body ?done ?stop
  case assign =>
    intro l x W K hK
    gi_wp2
    simpa using hK
  case body =>
    rintro l pre x W ⟨hb, hB⟩ hlt
    have hc := hb.cell
    have hf := hb.frozen
    gi_wp2
    refine ⟨KeepsOthers.setCell _ _ _, kpx_set W _ _ _ (Nat.le_refl _) (.inl (by omega)), ?_, hB.setCell (p := ⟨w.heap.size, 0, none⟩) (Nat.le_refl _) _⟩
    have := hb.set (.int .i64 ((pre.length : Int) + 1))
    simpa using this
  case done =>
    rintro D ys W hD rfl ⟨hb, hB⟩ hK
    have hc := hb.cell
    gi_wp2
    refine ⟨by simp, .inl ⟨_, _, rfl, run_takeDeferred hK, ?_⟩⟩
    exact ⟨_, results_tmp rfl _ _ _, rfl, hB.trans (belowK_b (w := w) (Nat.le_refl _) W D _ _ (by simp at hD; omega) hK rfl rfl)⟩
  case stop =>
    rintro D c pre W _ _ h _
    exact h.elim
theorem size_in (F : Fence) (n : Nat) (hF : ∀ f, F.fn f) (hro : F.round = none) (n₀ tb : Nat) (N : List Dat) (w : World) (hT : IsTree n₀ w tb N) :
    CallsIn F n Tryd.prog 71 #[.pointer (some ⟨tb, 0, none⟩)] w fun e w' => e = .returned (.int .i64 (N.length : Nat)) ∧ w' = w := by
  obtain ⟨ao, g, cap, hc, -⟩ := hT
  refine callsIn_of_wp Tryd.func71 rfl (hF _) ?_ hro
  simp only [Tryd.ntmps71, List.size_toArray, List.length_cons, List.length_nil, Nat.reduceAdd, Nat.reduceSub, Array.replicate_succ, Array.replicate_zero, List.push_toArray, List.append_toArray, List.nil_append, List.cons_append]
  gi_wp2
  go_ret
  exact ⟨rfl, rfl⟩
set_option maxRecDepth 100000 in
set_option maxHeartbeats 2000000 in
theorem isOpen_in (F : Fence) (n : Nat) (hF : ∀ f, F.fn f) (hro : F.round = none) (hn : 3 ≤ n) (tb : Nat) (N : List Dat) (hp : Pars N) (hpos : 0 < N.length) (hl : N.length ≤ 1000000) (a : Int) (w : World) (hT : IsTree w.heap.size w tb N) :
    CallsIn F n Tryd.prog 83 #[.pointer (some ⟨tb, 0, none⟩), .int .i64 a] w fun e W' => e = .returned (.bool (decide (a ∈ upL N ((N.length : Int) - 1)))) ∧ Below w.heap.size w W' := by
  have h1 : 1 ≤ n := by omega
  refine callsIn_of_wp_marks Tryd.func83 rfl (hF _) ?_ hro
  simp only [Tryd.ntmps83, List.size_toArray, List.length_cons, List.length_nil, Nat.reduceAdd, Nat.reduceSub, Array.replicate_succ, Array.replicate_zero, List.push_toArray, List.append_toArray, List.nil_append, List.cons_append]
  have hB1 : Below w.heap.size w ((w.alloc (.cells #[.int .i64 a] 2)).alloc (.cells #[.bool false] 4)) := ((Below.refl _ w).alloc (Nat.le_refl _) _).alloc (by simp) _
  have hT1 := hT.below hB1
  gi_wp2_with (first | (gi_at_call 71; refine (size_in F (n - 1) hF hro _ _ _ _ hT1).mono ?_; rintro e w' ⟨rfl, rfl⟩) | (gi_at_call 108; refine (up_in F (n - 1) hF hro _ _ _).mono ?_; rintro e w' ⟨rfl, rfl⟩))
  have c0 := Boxed.new w 2 (.int .i64 a)
  have c1 := Boxed.new (w.alloc (.cells #[.int .i64 a] 2)) 4 (.bool false)
  have c2 := Boxed.new ((w.alloc (.cells #[.int .i64 a] 2)).alloc (.cells #[.bool false] 4)) 53 (.pointer (some ⟨tb, 0, none⟩))
  have c3 := Boxed.new (((w.alloc (.cells #[.int .i64 a] 2)).alloc (.cells #[.bool false] 4)).alloc (.cells #[.pointer (some ⟨tb, 0, none⟩)] 53)) 2 (.int .i64 ((N.length : Int) - 1))
  simp only [World.size_alloc] at c1 c2 c3
  have hB0 : Below w.heap.size w ((((w.alloc (.cells #[.int .i64 a] 2)).alloc (.cells #[.bool false] 4)).alloc (.cells #[.pointer (some ⟨tb, 0, none⟩)] 53)).alloc (.cells #[.int .i64 ((N.length : Int) - 1)] 2)) := (hB1.alloc (by simp; omega) _).alloc (by simp; omega) _
  refine wpIn_rangeFunc_ownF hro h1 (gf := 117) (lb := #[.pointer (some ⟨w.heap.size + 1 + 1 + 1, 0, none⟩), .pointer (some ⟨w.heap.size + 1 + 1, 0, none⟩)]) rfl (hF _) (enters_of Tryd.func117 (by kernel_rfl) rfl)
    (up_stops F (n - 1) hF hro (by omega) (w.heap.size + 1 + 1 + 1) (w.heap.size + 1 + 1) w.heap.size (w.heap.size + 1 + 1) (w.heap.size + 1 + 1 + 1 + 1) tb N hp ((N.length : Int) - 1) (by omega) (by omega) _ (by simp; omega) c3.cell (c2.alloc _).cell (Nat.le_refl _) (by omega) (by simp) (by simp) (hT.below hB0)) kpx_t (kpx_b (by simp; omega) (by simp)) (Below.refl _ _) (fun _ => rfl)
    (fun pre W => ((∀ y ∈ pre, y ≠ a) ∧ Boxed W w.heap.size 2 (.int .i64 a) ∧ Boxed W (w.heap.size + 1) 4 (.bool false)) ∧ Below w.heap.size w W)
    (fun c pre W => (c = .ret ∧ a ∈ pre ∧ Boxed W (w.heap.size + 1) 4 (.bool true)) ∧ Below w.heap.size w W)
    (OwnFrom.and (OwnFrom.and (ownFrom_pure _ _) (OwnFrom.and (Own.from (boxed_own _ _ _) _) (Own.from (boxed_own _ _ _) _))) (ownFrom_below (Nat.le_refl _) (by simp; omega)))
    (fun c => OwnFrom.and (OwnFrom.and (ownFrom_pure _ _) (OwnFrom.and (ownFrom_pure _ _) (Own.from (boxed_own _ _ _) _))) (ownFrom_below (Nat.le_refl _) (by simp; omega)))
    ⟨⟨by simp, ((c0.alloc _).alloc _).alloc _, (c1.alloc _).alloc _⟩, hB0⟩
    (fun x => { tmps := #[.pointer (some ⟨tb, 0, none⟩), .int .i64 a, undef, .pointer (some ⟨w.heap.size, 0, none⟩), .pointer (some ⟨w.heap.size + 1, 0, none⟩), .int .i64 x, .pointer (some ⟨tb, 0, none⟩), .pointer (some ⟨tb, 0, none⟩), .int .i64 (N.length : Nat), .int .i64 ((N.length : Int) - 1), .func (.func 117) #[] #[.pointer (some ⟨w.heap.size + 1 + 1 + 1, 0, none⟩), .pointer (some ⟨w.heap.size + 1 + 1, 0, none⟩)], .int .i64 x, undef, undef, undef], defers := [] }) ?assign ?body ?done ?stop
  case assign =>
    intro l x W K hK
    gi_wp2
    exact hK
  case body =>
    rintro l pre x W ⟨⟨hne, hb, hr⟩, hB⟩ hlt
    have hc := hb.cell
    have hc2 := hr.cell
    have hf := hr.frozen
    gi_wp2
    · rename_i hx
      obtain rfl : x = a := eq_of_beq hx
      exact ⟨KeepsOthers.setCell _ _ _, ⟨rfl, List.mem_append.2 (.inr (by simp)), hr.set _⟩, hB.setCell (p := ⟨w.heap.size + 1, 0, none⟩) (by simp) _⟩
    · rename_i hx
      exact ⟨KeepsOthers.refl _, kpx_refl _ _ _ _, ⟨fun y hy => (List.mem_append.1 hy).elim (hne y) (fun e e' => by simp at e; subst e; subst e'; simp at hx), hb, hr⟩, hB⟩
  case done =>
    rintro D ys W hD rfl ⟨⟨hne, _, hr⟩, hB⟩ hK
    have hc2 := hr.cell
    have hf := hr.frozen
    gi_wp2
    have hK' := (KeepsOthers.setCell W ⟨w.heap.size + 1, 0, none⟩ (.bool false)).same D _ hK rfl
    refine ⟨by simp, .inl ⟨_, _, rfl, run_takeDeferred hK', ?_⟩⟩
    have hc5 := cell_kept (hr.set (.bool false)).cell (grownBy_putObj' _ D (.deferred none)) (fun r e => by cases e; exact ⟨_, hK', rfl⟩)
    refine ⟨.bool false, ?_, by rw [decide_eq_false (fun h => hne a h rfl)], (hB.setCell (p := ⟨w.heap.size + 1, 0, none⟩) (by simp) _).trans (belowK_b (w := w) (Nat.le_refl _) _ D _ _ (by simp at hD; omega) hK' rfl rfl)⟩
    simp [results, Tryd.f83, go_sem, hc5]
  case stop =>
    rintro D c pre W hD hpre ⟨⟨rfl, hin, hr⟩, hB⟩ hK
    gi_wp2
    refine ⟨by simp, .inl ⟨_, _, rfl, run_takeDeferred hK, ?_⟩⟩
    have hc5 := cell_kept hr.cell (grownBy_putObj' _ D (.deferred none)) (fun r e => by cases e; exact ⟨_, hK, rfl⟩)
    refine ⟨.bool true, ?_, by rw [decide_eq_true (hpre.subset hin)], hB.trans (belowK_b (w := w) (Nat.le_refl _) W D _ _ (by simp at hD; omega) hK rfl rfl)⟩
    simp [results, Tryd.f83, go_sem, hc5]
end Go.Proofs.YtllcnkghakaifaaDoor
