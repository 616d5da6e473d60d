/-
  The program's below, and what a range over it comes to.
-/
import Derived.Test.YtoljpgpkeploiaaDoorBelowM
import Derived.Test.YtoljpgpkeploiaaDoorAddM
import Derived.Test.YtoljpgpkeploiaaDoorClone
import Derived.Deep.AppendLies
namespace Go.Proofs.YtoljpgpkeploiaaDoor
open Go.RowKit Go.Extern.Stop Go.Stop Go.Extern Num Go.Lib Go.Shelf
attribute [local go_sem] Oper.semAt_some

theorem below_in (F : Fence) (n : Nat) (hF : ∀ f, F.fn f) (hro : F.round = none) (p : Option Addr) (a : Int) (w : World) :
    CallsIn F n Tryd.prog 74 #[.pointer p, .int .i64 a] w fun e w' => e = .returned (.func (.func 103) #[] #[.pointer (some ⟨w.heap.size + 1, 0, none⟩), .pointer (some ⟨w.heap.size, 0, none⟩)]) ∧
      w' = (w.alloc (.cells #[.pointer p] 53)).alloc (.cells #[.int .i64 a] 2) := by
  refine callsIn_of_wp Tryd.func74 rfl (hF _) ?_ hro
  simp only [Tryd.ntmps74, List.size_toArray, List.length_cons, List.length_nil, Nat.reduceAdd, Nat.reduceSub, Array.replicate_succ, Array.replicate_zero, List.push_toArray, List.append_toArray, List.nil_append, List.cons_append]
  gi_wp2
  go_ret
  exact ⟨rfl, rfl⟩
/-- What is told of a node: a place and a node with a name that is no longer than a text may be, on a place that there is. -/
def PdN (x : Int × Dat) : Prop := x.2.name.size ≤ 1048576 ∧ -1 ≤ x.2.parent ∧ x.2.parent < 1000
abbrev Told := { x : Int × Dat // PdN x }
theorem map_last {pre : List (Int × Dat)} {x : Int × Dat} {P : List Told} {y : Told} (h : P.map Subtype.val = pre) (hy : y.1 = x) : (P ++ [y]).map Subtype.val = pre ++ [x] := by rw [List.map_append, h, ← hy]; rfl
theorem told_lt {N : List Dat} {a m : Nat} {P : List Told} {x : Told} (h : (P ++ [x]).map Subtype.val <+: tellN N a m) (hm : a + m ≤ N.length) : P.length < m := by
  have h1 := h.length_le
  rw [tellN_len N a m hm] at h1
  simp at h1
  omega
theorem below_seq (F : Fence) (n : Nat) (hF : ∀ f, F.fn f) (hro : F.round = none) (hn : 2 ≤ n) (ba bt n₀ lo hi tb B : Nat) (N : List Dat) (a e : Nat) (hE : EndAt N a e) (hN : N.length ≤ 1000) (hPd : ∀ (k : Nat) (h : k < N.length), PdN ((k : Int), N[k])) (w : World) (hn₀ : n₀ ≤ w.heap.size)
    (hBa : w.cell? ⟨ba, 0, none⟩ = some (.int .i64 (a : Int))) (hBt : w.cell? ⟨bt, 0, none⟩ = some (.pointer (some ⟨tb, 0, none⟩))) (hlo : lo ≤ bt) (hhi : bt < hi) (hlo2 : lo ≤ ba) (hhi2 : ba < hi) (hhi3 : hi ≤ w.heap.size) (hT : IsTree n₀ w tb N) :
    SeqO F n Tryd.prog 103 #[.pointer (some ⟨ba, 0, none⟩), .pointer (some ⟨bt, 0, none⟩)] (fun x : Told => encN x.1) B 0 (Kpx n₀ lo hi) (fun ys => ys.map Subtype.val = tellN N a (e - a)) (fun pre => pre.map Subtype.val <+: tellN N a (e - a)) (fun pre x => (pre ++ [x]).map Subtype.val <+: tellN N a (e - a)) w := fun l J Jx W hWB hW hJ _ hY h0 => by
  refine (below1_in F n hF hro hn l ba bt n₀ lo hi tb N a e hE hN (fun pre W => ∃ P : List Told, P.map Subtype.val = pre ∧ J P W ∧ B ≤ W.heap.size) (fun pre W => ∃ P : List Told, P.map Subtype.val = pre ∧ Jx P W) PdN hPd ?_ ?_ W
    ((hW.cell (p := ⟨ba, 0, none⟩) (by show ba < _; omega)).trans hBa) ((hW.cell (p := ⟨bt, 0, none⟩) (by show bt < _; omega)).trans hBt) hlo hhi hlo2 hhi2 (hT.below (hW.mono hn₀)) ⟨[], rfl, h0, by omega⟩).mono ?_
  · rintro pre x W1 hx ⟨P, hP, hJ1, hs1⟩ hlen
    refine (hY P ⟨x, hx⟩ W1 hJ1 (by show List.map Subtype.val (P ++ [(⟨x, hx⟩ : Told)]) <+: _; rw [map_last hP rfl]; exact hlen) (by omega)).mono ?_
    rintro r W' ⟨⟨h1, h2⟩ | ⟨h1, h2⟩, h3, h4⟩
    · exact ⟨.inl ⟨h1, _, map_last hP rfl, h2, Nat.le_trans hs1 h4.size⟩, h3⟩
    · exact ⟨.inr ⟨h1, _, map_last hP rfl, h2⟩, h3⟩
  · rintro pre W1 ⟨P, hP, hJ1, hs1⟩
    exact ⟨P, hP, hJ P W1 _ none hJ1 ⟨rfl, rfl, rfl, Nat.le_refl _, fun _ _ _ => rfl⟩ (fun r e => by cases e), hs1⟩
  · rintro r W' ⟨hv, ⟨ys, rfl, P, hP, hJ1, _⟩ | ⟨pre, hpre, P, rfl, hJ1⟩⟩
    · exact ⟨hv, .inl ⟨P, hP, hJ1⟩⟩
    · exact ⟨hv, .inr ⟨P, hpre, hJ1⟩⟩
/-- The kind of the datum that begins with a token. -/
def dkD (k : Int) : Int := if k = 4 then 1 else if k = 5 then 2 else if k = 6 then 3 else 4
theorem datumKind_any (k : Int) (w : World) : Calls Tryd.prog 75 #[.int .i64 k] w fun e w' => e = .returned (.int .i64 (dkD k)) ∧ w' = w := by
  by_cases h1 : k = 4
  · subst h1
    go_enter Tryd.func75, Tryd.ntmps75
    go_wp2
    go_ret
    exact ⟨rfl, rfl⟩
  by_cases h2 : k = 5
  · subst h2
    go_enter Tryd.func75, Tryd.ntmps75
    go_wp2
    go_ret
    exact ⟨rfl, rfl⟩
  by_cases h3 : k = 6
  · subst h3
    go_enter Tryd.func75, Tryd.ntmps75
    go_wp2
    go_ret
    exact ⟨rfl, rfl⟩
  have e : dkD k = 4 := by simp [dkD, h1, h2, h3]
  rw [e]
  have b1 : (k == 4) = false := by simpa using h1
  have b2 : (k == 5) = false := by simpa using h2
  have b3 : (k == 6) = false := by simpa using h3
  go_enter Tryd.func75, Tryd.ntmps75
  go_wp2
  go_ret
  exact ⟨rfl, rfl⟩
/-- A node as a datum of what is taken out at a place. -/
def subN (a : Int) (x : Int × Dat) : Dat := ⟨dkD x.2.kind, max (x.2.parent - a) (-1), x.2.num, x.2.name⟩
abbrev subP (a : Int) (P : List Told) : List Dat := P.map fun x => subN a x.1
theorem ownFrom_block {β : Type} (B b : Nat) (o : Obj) (ho : o.isCells = true) : OwnFrom B (fun (_ : β) W => W.heap[b]? = some o) := fun _ W W' row hs hg hr => by
  refine (hg.block b (Array.getElem?_eq_some_iff.1 hs).1 (fun e => ?_)).trans hs
  obtain ⟨_, o', ho', hc⟩ := hr b e.symm
  rw [hs] at ho'; cases ho'; rw [ho] at hc; cases hc
/-- What the region of a round of dataBelow reads. -/
def SD (A Bx : Nat) (a : Int) (v : Value) (t : Dat) (w' : World) : Prop := w'.cell? ⟨A, 0, none⟩ = some (.int .i64 a) ∧ w'.cell? ⟨A + 1, 0, none⟩ = some v ∧ w'.cell? ⟨Bx, 0, none⟩ = some (.int .i64 t.parent) ∧ w'.cell? ⟨Bx, 1, none⟩ = some (.int .i64 t.kind) ∧ w'.cell? ⟨Bx, 2, none⟩ = some (.int .i64 t.num) ∧ w'.cell? ⟨Bx, 3, none⟩ = some (.string t.name)
theorem SD.keep {A Bx : Nat} {a : Int} {v : Value} {t : Dat} {w w' : World} (h : SD A Bx a v t w) (hb : Below w.heap.size w w') : SD A Bx a v t w' := by
  obtain ⟨s0, s1, s2, s3, s4, s5⟩ := h
  exact ⟨cell_keep hb s0, cell_keep hb s1, cell_keep hb s2, cell_keep hb s3, cell_keep hb s4, cell_keep hb s5⟩
theorem not_row' {W : World} {b : Nat} {cs : Array Value} {t e : TypeId} {fr : Nat × Nat} (h : W.heap[b]? = some (.cells cs t fr)) (hte : t ≠ e) {base size k : Nat} {v : Value} {xs : List Value} (hr : W.ownsRow base e size v k xs) : some b ≠ v.ownBlock := by
  rcases hr.2 with ⟨rfl, _⟩ | ⟨g, cap, cur, rfl, _, hgb, _⟩
  · simp [Value.ownBlock]
  · intro e'
    obtain rfl : b = g := by simpa [Value.ownBlock] using e'
    rw [h] at hgb
    simp at hgb
    exact hte hgb.2.1
theorem keeps_below {B : Nat} {W W' : World} (h : Below W.heap.size W W') : KeepsFrom B W W' := ⟨h.size, fun k _ _ hk _ => (h.block k (Array.getElem?_eq_some_iff.1 hk).1).trans hk⟩
/-- The temporaries of a round. -/
abbrev actD (tb A Bx : Nat) (a : Int) (x : Int × Dat) : Act := { tmps := #[.pointer (some ⟨tb, 0, none⟩), .int .i64 a, undef, .pointer (some ⟨A, 0, none⟩), .slice none 0 0, .pointer (some ⟨A + 1, 0, none⟩), undef, .pointer (some ⟨Bx, 0, none⟩), .pointer (some ⟨tb, 0, none⟩), .int .i64 a, .func (.func 103) #[] #[.pointer (some ⟨A + 1 + 1 + 1, 0, none⟩), .pointer (some ⟨A + 1 + 1, 0, none⟩)], .int .i64 x.1, .agg #[.int .i64 x.2.parent, .int .i64 x.2.kind, .int .i64 x.2.num, .string x.2.name], undef, undef, undef, undef, undef, undef, undef, undef, undef, undef, undef, undef, undef, undef, undef, undef, undef, undef, undef, undef, undef], defers := [] }
set_option maxRecDepth 100000 in
set_option maxHeartbeats 4000000 in
theorem dataBelow_in (n : Nat) (hn : 4 ≤ n) (tb : Nat) (N : List Dat) (a e : Nat) (hE : EndAt N a e) (hN : N.length ≤ 1000) (hPd : ∀ (k : Nat) (h : k < N.length), PdN ((k : Int), N[k])) (w : World) (hT : IsTree w.heap.size w tb N) :
    CallsIn Fence.wide n Tryd.prog 51 #[.pointer (some ⟨tb, 0, none⟩), .int .i64 (a : Int)] w fun r W' => ∃ v, r = .returned v ∧ W'.ownsRow w.heap.size 51 4 v ((tellN N a (e - a)).map (subN a)).length (cellsD ((tellN N a (e - a)).map (subN a))) ∧ Below w.heap.size w W' := by
  have h1 : 1 ≤ n := by omega
  have hF : ∀ f, Fence.wide.fn f := fun _ => trivial
  have hmx : Tryd.prog.follows .mixedOrders = true := by kernel_rfl
  have hel := hE.le
  have hal := hE.lt
  obtain ⟨i0, hi, hz0, hz1, hz2⟩ := info_parts infoD
  refine callsIn_of_wp_marks Tryd.func51 rfl (hF _) ?_ rfl
  simp only [Tryd.ntmps51, List.size_toArray, List.length_cons, List.length_nil, Nat.reduceAdd, Nat.reduceSub, Array.replicate_succ, Array.replicate_zero, List.push_toArray, List.append_toArray, List.nil_append, List.cons_append]
  gi_wp2_with (gi_at_call 74; refine (below_in Fence.wide (n - 1) hF rfl _ _ _).mono ?_; rintro e w' ⟨rfl, rfl⟩)
  have c0 := Boxed.new w 2 (.int .i64 (a : Int))
  have c1 := Boxed.new (w.alloc (.cells #[.int .i64 (a : Int)] 2)) 25 (.slice none 0 0)
  have c2 := Boxed.new ((w.alloc (.cells #[.int .i64 (a : Int)] 2)).alloc (.cells #[.slice none 0 0] 25)) 53 (.pointer (some ⟨tb, 0, none⟩))
  have c3 := Boxed.new (((w.alloc (.cells #[.int .i64 (a : Int)] 2)).alloc (.cells #[.slice none 0 0] 25)).alloc (.cells #[.pointer (some ⟨tb, 0, none⟩)] 53)) 2 (.int .i64 (a : Int))
  simp only [World.size_alloc] at c1 c2 c3
  have hB0 : Below w.heap.size w ((((w.alloc (.cells #[.int .i64 (a : Int)] 2)).alloc (.cells #[.slice none 0 0] 25)).alloc (.cells #[.pointer (some ⟨tb, 0, none⟩)] 53)).alloc (.cells #[.int .i64 (a : Int)] 2)) := ((((Below.refl _ w).alloc (Nat.le_refl _) _).alloc (by simp) _).alloc (by simp; omega) _).alloc (by simp; omega) _
  refine range_own rfl h1 (gf := 103) (lb := #[.pointer (some ⟨w.heap.size + 1 + 1 + 1, 0, none⟩), .pointer (some ⟨w.heap.size + 1 + 1, 0, none⟩)]) rfl (hF _) (enters_of Tryd.func103 (by kernel_rfl) rfl)
    (below_seq Fence.wide (n - 1) hF rfl (by omega) (w.heap.size + 1 + 1 + 1) (w.heap.size + 1 + 1) w.heap.size (w.heap.size + 1 + 1) (w.heap.size + 1 + 1 + 1 + 1) tb _ N a e hE hN hPd _ (by simp; omega) c3.cell (c2.alloc _).cell (Nat.le_refl _) (by omega) (by omega) (by omega) (by simp) (hT.below hB0)) kpx_t (fun W o o' h1 h2 h3 => kpx_b (w := (((((w.alloc (.cells #[.int .i64 (a : Int)] 2)).alloc (.cells #[.slice none 0 0] 25)).alloc (.cells #[.pointer (some ⟨tb, 0, none⟩)] 53)).alloc (.cells #[.int .i64 (a : Int)] 2)))) (by simp; omega) (by simp) W _ o o' (by omega) h1 h2 h3) (Below.refl _ _) (fun _ => rfl)
    (fun P W => ((∃ v, Boxed W (w.heap.size + 1) 25 v ∧ W.ownsRow w.heap.size 51 4 v (subP a P).length (cellsD (subP a P)) ∧ True) ∧ Boxed W w.heap.size 2 (.int .i64 (a : Int)) ∧ Boxed W (w.heap.size + 1 + 1 + 1) 2 (.int .i64 (a : Int)) ∧ Boxed W (w.heap.size + 1 + 1) 53 (.pointer (some ⟨tb, 0, none⟩))) ∧ Below w.heap.size w W)
    (fun _ _ _ => False)
    (OwnFrom.and (OwnFrom.and (Own.from (holdsRow_own w.heap.size (w.heap.size + 1) 25 51 4 (fun P => (subP a P).length) (fun P => cellsD (subP a P)) (fun _ _ => True)) _) (OwnFrom.and (Own.from (boxed_own _ _ _) _) (OwnFrom.and (Own.from (boxed_own _ _ _) _) (Own.from (boxed_own _ _ _) _)))) (ownFrom_below (Nat.le_refl _) (by simp; omega)))
    (fun _ _ _ _ _ hs _ _ => hs)
    ⟨⟨⟨_, (c1.alloc _).alloc _, World.ownsRow_nil _ _ _ _, trivial⟩, ((c0.alloc _).alloc _).alloc _, c3, c2.alloc _⟩, hB0⟩
    (fun x a' W => ∃ Bx, w.heap.size + 1 + 1 + 1 + 1 ≤ Bx ∧ W.heap[Bx]? = some (.cells #[.int .i64 x.1.2.parent, .int .i64 x.1.2.kind, .int .i64 x.1.2.num, .string x.1.2.name] 115 (0, 0)) ∧ a' = actD tb w.heap.size Bx (a : Int) x.1)
    (fun x a' s W W' row hs hg hr => by obtain ⟨Bx, h1, h2, h3⟩ := hs; exact ⟨Bx, h1, ownFrom_block _ Bx _ rfl s W W' row h2 hg hr, h3⟩) ?assign ?body ?done ?stop
  case assign =>
    rintro l pre ⟨⟨z, t⟩, hx⟩ W K ⟨⟨⟨v, hv, hrow, -⟩, hb, hb3, hb2⟩, hB⟩ hK
    have hsz : w.heap.size + 1 + 1 + 1 < W.heap.size := hb3.lt
    have hsz2 := hB.size
    gi_wp2
    exact hK _ _ ((KeepsOthers.alloc _ _).from _) (kpx_below ((Below.refl _ _).alloc (Nat.le_refl _) _) hsz2 (by omega)) ⟨⟨⟨v, hv.alloc _, hrow.alloc _, trivial⟩, hb.alloc _, hb3.alloc _, hb2.alloc _⟩, hB.alloc hsz2 _⟩ ⟨W.heap.size, by omega, World.alloc_heap_new _ _, rfl⟩
  case body =>
    rintro l pre ⟨⟨z, t⟩, hx⟩ a' W ⟨⟨⟨v, hv, hrow, -⟩, hb, hb3, hb2⟩, hB⟩ ⟨Bx, hBx, hn0, rfl⟩ hpx hmm
    have hlt : pre.length < e - a := told_lt hpx (by have := hE.le; have := hE.lt; omega)
    have hx' : t.name.size ≤ 1048576 ∧ -1 ≤ t.parent ∧ t.parent < 1000 := hx
    obtain ⟨D, hD⟩ : ∃ D, D = subP a pre := ⟨_, rfl⟩
    rw [← hD] at hrow
    have HD : Hid (D = subP a pre) := hD
    have hDl : D.length < 1000 := by rw [hD]; simp; omega
    clear hD
    obtain ⟨vo, vc, rfl⟩ := own_form hrow
    have hS0 : SD w.heap.size Bx (a : Int) (.slice vo D.length vc) t W.drew := ⟨hb.cell, hv.cell, (cell_of_row W Bx 0 _ _ _ hn0).trans rfl, (cell_of_row W Bx 1 _ _ _ hn0).trans rfl, (cell_of_row W Bx 2 _ _ _ hn0).trans rfl, (cell_of_row W Bx 3 _ _ _ hn0).trans rfl⟩
    have hwr : IntKind.i64.wrap (t.parent - (a : Int)) = t.parent - (a : Int) := by rw [IntKind.wrap_i64]; omega
    have hFr : ∀ f, (Fence.wide.inRound l).fn f := fun _ => trivial
    gi_wp2
    refine region_anyH (z := 20) (S := SD w.heap.size Bx (a : Int) (.slice vo D.length vc) t) hmx ?_
    refine anyH_take hFr (by kernel_rfl) (i := 0) (v := ?_) (d := some 13) (by kernel_rfl) rfl rfl (by kernel_rfl) (by kernel_rfl) (by kernel_rfl) (fun _ _ _ h => h) (by assumption) (Or.inl ⟨by rfl, fun w hSw => ?_⟩) ?_
    rotate_left
    · obtain ⟨s0, s1, s2, s3, s4, s5⟩ := hSw
      go_simp
      all_goals (try (first | with_reducible rfl | omega))
    try simp only [Act.put]
    try simp only [List.setIfInBounds_toArray]
    try simp only [List.set_cons_zero, List.set_cons_succ]
    refine anyH_take hFr (by kernel_rfl) (i := 1) (v := ?_) (d := some 14) (by kernel_rfl) rfl rfl (by kernel_rfl) (by kernel_rfl) (by kernel_rfl) (fun _ _ _ h => h) (by assumption) (Or.inl ⟨by rfl, fun w hSw => ?_⟩) ?_
    rotate_left
    · obtain ⟨s0, s1, s2, s3, s4, s5⟩ := hSw
      go_simp
      all_goals (try (first | with_reducible rfl | omega))
    try simp only [Act.put]
    try simp only [List.setIfInBounds_toArray]
    try simp only [List.set_cons_zero, List.set_cons_succ]
    refine anyH_take hFr (by kernel_rfl) (i := 2) (v := ?_) (d := some 15) (by kernel_rfl) rfl rfl (by kernel_rfl) (by kernel_rfl) (by kernel_rfl) (fun _ _ _ h => h) (by assumption) (Or.inl ⟨by rfl, fun w hSw => ?_⟩) ?_
    rotate_left
    · obtain ⟨s0, s1, s2, s3, s4, s5⟩ := hSw
      go_simp
      all_goals (try (first | with_reducible rfl | omega))
    try simp only [Act.put]
    try simp only [List.setIfInBounds_toArray]
    try simp only [List.set_cons_zero, List.set_cons_succ]
    refine anyH_take hFr (by kernel_rfl) (i := 3) (v := ?_) (d := some 16) (by kernel_rfl) rfl rfl (by kernel_rfl) (by kernel_rfl) (by kernel_rfl) (fun _ _ _ h => h) (by assumption) (Or.inl ⟨by rfl, fun w hSw => ?_⟩) ?_
    rotate_left
    · obtain ⟨s0, s1, s2, s3, s4, s5⟩ := hSw
      go_simp
      all_goals (try (first | with_reducible rfl | omega))
    try simp only [Act.put]
    try simp only [List.setIfInBounds_toArray]
    try simp only [List.set_cons_zero, List.set_cons_succ]
    refine anyH_take hFr (by kernel_rfl) (i := 5) (v := ?_) (d := some 18) (by kernel_rfl) rfl rfl (by kernel_rfl) (by kernel_rfl) (by kernel_rfl) (fun _ _ _ h => h) (by assumption) (Or.inl ⟨by rfl, fun w hSw => ?_⟩) ?_
    rotate_left
    · obtain ⟨s0, s1, s2, s3, s4, s5⟩ := hSw
      go_simp
      all_goals (try (first | with_reducible rfl | omega))
    try simp only [Act.put]
    try simp only [List.setIfInBounds_toArray]
    try simp only [List.set_cons_zero, List.set_cons_succ]
    refine anyH_take hFr (by kernel_rfl) (i := 6) (v := ?_) (d := some 19) (by kernel_rfl) rfl rfl (by kernel_rfl) (by kernel_rfl) (by kernel_rfl) (fun _ _ _ h => h) (by assumption) (Or.inl ⟨by rfl, fun w hSw => ?_⟩) ?_
    rotate_left
    · obtain ⟨s0, s1, s2, s3, s4, s5⟩ := hSw
      go_simp
      all_goals (try (first | with_reducible rfl | omega))
    try simp only [Act.put]
    try simp only [List.setIfInBounds_toArray]
    try simp only [List.set_cons_zero, List.set_cons_succ]
    refine anyH_take hFr (by kernel_rfl) (i := 7) (v := ?_) (d := some 20) (by kernel_rfl) rfl rfl (by kernel_rfl) (by kernel_rfl) (by kernel_rfl) (fun _ _ _ h => h) (by assumption) (Or.inl ⟨by rfl, fun w hSw => ?_⟩) ?_
    rotate_left
    · obtain ⟨s0, s1, s2, s3, s4, s5⟩ := hSw
      go_simp
      all_goals (try (first | with_reducible rfl | omega))
    try simp only [Act.put]
    try simp only [List.setIfInBounds_toArray]
    try simp only [List.set_cons_zero, List.set_cons_succ]
    refine anyH_take hFr (by kernel_rfl) (i := 8) (v := .int .i64 (t.parent - (a : Int))) (d := some 21) (by kernel_rfl) rfl rfl (by kernel_rfl) (by kernel_rfl) (by kernel_rfl) (fun _ _ _ h => h) (by assumption) (Or.inl ⟨by rfl, fun w hSw => ?_⟩) ?_
    · obtain ⟨s0, s1, s2, s3, s4, s5⟩ := hSw
      go_simp
      all_goals (try (first | with_reducible rfl | omega))
    try simp only [Act.put]
    try simp only [List.setIfInBounds_toArray]
    try simp only [List.set_cons_zero, List.set_cons_succ]
    refine anyH_take hFr (by kernel_rfl) (i := 9) (v := .int .i64 (max (t.parent - (a : Int)) (-1))) (d := some 22) (by kernel_rfl) rfl rfl (by kernel_rfl) (by kernel_rfl) (by kernel_rfl) (fun _ _ _ h => h) (by assumption) (Or.inl ⟨by rfl, fun w hSw => ?_⟩) ?_
    · obtain ⟨s0, s1, s2, s3, s4, s5⟩ := hSw
      go_simp
      all_goals (try (first | with_reducible rfl | omega))
    try simp only [Act.put]
    try simp only [List.setIfInBounds_toArray]
    try simp only [List.set_cons_zero, List.set_cons_succ]
    refine anyH_take hFr (by kernel_rfl) (i := 10) (v := ?_) (d := some 23) (by kernel_rfl) rfl rfl (by kernel_rfl) (by kernel_rfl) (by kernel_rfl) (fun _ _ _ h => h) (by assumption) (Or.inl ⟨by rfl, fun w hSw => ?_⟩) ?_
    rotate_left
    · obtain ⟨s0, s1, s2, s3, s4, s5⟩ := hSw
      go_simp
      all_goals (try (first | with_reducible rfl | omega))
    try simp only [Act.put]
    try simp only [List.setIfInBounds_toArray]
    try simp only [List.set_cons_zero, List.set_cons_succ]
    refine anyH_take hFr (by kernel_rfl) (i := 11) (v := ?_) (d := some 24) (by kernel_rfl) rfl rfl (by kernel_rfl) (by kernel_rfl) (by kernel_rfl) (fun _ _ _ h => h) (by assumption) (Or.inl ⟨by rfl, fun w hSw => ?_⟩) ?_
    rotate_left
    · obtain ⟨s0, s1, s2, s3, s4, s5⟩ := hSw
      go_simp
      all_goals (try (first | with_reducible rfl | omega))
    try simp only [Act.put]
    try simp only [List.setIfInBounds_toArray]
    try simp only [List.set_cons_zero, List.set_cons_succ]
    refine anyH_take hFr (by kernel_rfl) (i := 12) (v := ?_) (d := some 25) (by kernel_rfl) rfl rfl (by kernel_rfl) (by kernel_rfl) (by kernel_rfl) (fun _ _ _ h => h) (by assumption) (Or.inl ⟨by rfl, fun w hSw => ?_⟩) ?_
    rotate_left
    · obtain ⟨s0, s1, s2, s3, s4, s5⟩ := hSw
      go_simp
      all_goals (try (first | with_reducible rfl | omega))
    try simp only [Act.put]
    try simp only [List.setIfInBounds_toArray]
    try simp only [List.set_cons_zero, List.set_cons_succ]
    refine anyH_take hFr (by kernel_rfl) (i := 13) (v := ?_) (d := some 26) (by kernel_rfl) rfl rfl (by kernel_rfl) (by kernel_rfl) (by kernel_rfl) (fun _ _ _ h => h) (by assumption) (Or.inl ⟨by rfl, fun w hSw => ?_⟩) ?_
    rotate_left
    · obtain ⟨s0, s1, s2, s3, s4, s5⟩ := hSw
      go_simp
      all_goals (try (first | with_reducible rfl | omega))
    try simp only [Act.put]
    try simp only [List.setIfInBounds_toArray]
    try simp only [List.set_cons_zero, List.set_cons_succ]
    refine anyH_take hFr (by kernel_rfl) (i := 14) (v := ?_) (d := some 27) (by kernel_rfl) rfl rfl (by kernel_rfl) (by kernel_rfl) (by kernel_rfl) (fun _ _ _ h => h) (by assumption) (Or.inl ⟨by rfl, fun w hSw => ?_⟩) ?_
    rotate_left
    · obtain ⟨s0, s1, s2, s3, s4, s5⟩ := hSw
      go_simp
      all_goals (try (first | with_reducible rfl | omega))
    try simp only [Act.put]
    try simp only [List.setIfInBounds_toArray]
    try simp only [List.set_cons_zero, List.set_cons_succ]
    refine anyH_take hFr (by kernel_rfl) (i := 15) (v := ?_) (d := some 28) (by kernel_rfl) rfl rfl (by kernel_rfl) (by kernel_rfl) (by kernel_rfl) (fun _ _ _ h => h) (by assumption) (Or.inl ⟨by rfl, fun w hSw => ?_⟩) ?_
    rotate_left
    · obtain ⟨s0, s1, s2, s3, s4, s5⟩ := hSw
      go_simp
      all_goals (try (first | with_reducible rfl | omega))
    try simp only [Act.put]
    try simp only [List.setIfInBounds_toArray]
    try simp only [List.set_cons_zero, List.set_cons_succ]
    refine anyH_one (i := 4) (by kernel_rfl) (op_plain rfl (by rfl) (by simp) ?_)
    go_simp
    refine (datumKind_any _ _).mono ?_
    rintro r w' ⟨rfl, hw'⟩
    replace hw' := hw'.symm
    subst hw'
    refine ⟨(by first | exact hS0 | exact fun _ => hS0), ?_⟩
    try simp only [Act.put]
    try simp only [List.setIfInBounds_toArray]
    try simp only [List.set_cons_zero, List.set_cons_succ]
    refine anyH_one (i := 16) (by kernel_rfl) (op_plain rfl (by rfl) (by simp) ?_)
    go_simp
    refine (clone_any _ _ (by omega)).mono ?_
    rintro r W2 ⟨rfl, b2⟩
    have hS2 := hS0.keep b2
    refine ⟨(by first | exact hS2 | exact fun _ => hS2), ?_⟩
    clear hS0
    try simp only [Act.put]
    try simp only [List.setIfInBounds_toArray]
    try simp only [List.set_cons_zero, List.set_cons_succ]
    refine anyH_take hFr (by kernel_rfl) (i := 17) (v := .agg #[.int .i64 (dkD t.kind), .int .i64 (max (t.parent - (a : Int)) (-1)), .int .i64 t.num, .string t.name]) (d := some 30) (by kernel_rfl) rfl rfl (by kernel_rfl) (by kernel_rfl) (by kernel_rfl) (fun _ _ _ h => h) (by assumption) (Or.inl ⟨by rfl, fun w hSw => ?_⟩) ?_
    · obtain ⟨s0, s1, s2, s3, s4, s5⟩ := hSw
      go_simp
      all_goals (try (first | with_reducible rfl | omega))
    try simp only [Act.put]
    try simp only [List.setIfInBounds_toArray]
    try simp only [List.set_cons_zero, List.set_cons_succ]
    refine anyH_one (i := 18) (by kernel_rfl) (op_plain rfl (by rfl) (by simp) ?_)
    go_simp
    have hS3 := hS2.keep ((Below.refl _ _).alloc (Nat.le_refl _) (.cells #[.int .i64 (dkD t.kind), .int .i64 (max (t.parent - (a : Int)) (-1)), .int .i64 t.num, .string t.name] 51))
    refine ⟨(by first | exact hS3 | exact fun _ => hS3), ?_⟩
    clear hS2
    try simp only [Act.put]
    try simp only [List.setIfInBounds_toArray]
    try simp only [List.set_cons_zero, List.set_cons_succ]
    have ho3 : (W2.alloc (.cells #[.int .i64 (dkD t.kind), .int .i64 (max (t.parent - (a : Int)) (-1)), .int .i64 t.num, .string t.name] 51)).ownsRow w.heap.size 51 4 (.slice vo D.length vc) D.length (cellsD D) := (own_below (hrow.drew) b2).alloc _
    have hsz1 := hB.size
    have hsz2 := b2.size
    simp only [World.size_drew] at hsz2
    refine anyH_one (i := 19) (by kernel_rfl) (op_plain rfl (by rfl) (by simp) (wp_append_lies _ _ _ 25 rfl w.heap.size 51 i0 _ 4 40 Tryd.underlying25 hi hz0 hz1 hz2 rfl (by decide) (.slice vo D.length vc) D.length (cellsD D) rfl ho3
      ⟨W2.heap.size, 0, none⟩ 1 1 [.int .i64 (dkD t.kind), .int .i64 (max (t.parent - (a : Int)) (-1)), .int .i64 t.num, .string t.name] rfl rfl (World.news_of_block (cs := #[.int .i64 (dkD t.kind), .int .i64 (max (t.parent - (a : Int)) (-1)), .int .i64 t.num, .string t.name]) (t := 51) (fr := (0, 0)) (heap_new' _ _ _ (by simp))) (by simp [Value.oneCell'])
      (by decide) (by unfold maxLen; omega) (by omega) (by simp; omega) _ rfl ?_))
    intro g' cap' w1 hown1 hgrow hat hlt'
    have nA := hb.not_row (e := 51) (by decide) hrow
    have nA1 := hv.not_row (e := 51) (by decide) hrow
    have nA2 := hb2.not_row (e := 51) (by decide) hrow
    have nA3 := hb3.not_row (e := 51) (by decide) hrow
    have nB := not_row' (e := 51) hn0 (by decide) hrow
    have carry : ∀ (b : Nat) (o : Obj), W.heap[b]? = some o → some b ≠ (Value.slice vo D.length vc).ownBlock → w1.heap[b]? = some o := fun b o h hne => by
      have hlt : b < W.heap.size := (Array.getElem?_eq_some_iff.1 h).1
      exact (hgrow.block b (by simp; omega) hne).trans ((Below.heap_alloc W2 _ b (by omega)).trans ((b2.block b hlt).trans h))
    have hS4 : SD w.heap.size Bx (a : Int) (.slice vo D.length vc) t w1 := by
      obtain ⟨s0, s1, s2, s3, s4, s5⟩ := hS3
      exact ⟨hgrow.cell s0 nA, hgrow.cell s1 nA1, hgrow.cell s2 nB, hgrow.cell s3 nB, hgrow.cell s4 nB, hgrow.cell s5 nB⟩
    refine ⟨fun _ => hS4, ?_⟩
    have v1 : Boxed w1 (w.heap.size + 1) 25 (.slice vo D.length vc) := carry _ _ hv nA1
    have q0 : Boxed w1 w.heap.size 2 (.int .i64 (a : Int)) := carry _ _ hb nA
    have q2 : Boxed w1 (w.heap.size + 1 + 1) 53 (.pointer (some ⟨tb, 0, none⟩)) := carry _ _ hb2 nA2
    have q3 : Boxed w1 (w.heap.size + 1 + 1 + 1) 2 (.int .i64 (a : Int)) := carry _ _ hb3 nA3
    have hsr : w.heap.size + 1 < W.heap.size := hv.lt
    have hg' : g' ≠ w.heap.size + 1 := by
      rcases hat with h | h
      · intro e'; apply nA1; rw [h, e']
      · simp at h; omega
    have bf : Below w.heap.size W (w1.setCell ⟨w.heap.size + 1, 0, none⟩ (.slice (some ⟨g', 0, none⟩) (D.length + 1) cap')) :=
      ((((Below.refl _ W).drew.trans (b2.mono (by simp; omega))).alloc (by omega) _).grown hgrow (by simp; omega) (fun k e => (hrow.lt k e).1)).setCell (p := ⟨w.heap.size + 1, 0, none⟩) (by simp) _
    have kf : ∀ B, KeepsFrom B W (w1.setCell ⟨w.heap.size + 1, 0, none⟩ (.slice (some ⟨g', 0, none⟩) (D.length + 1) cap')) := fun B => ⟨bf.size, fun k o _ hk ho => by
      refine (KeepsOthers.setCell w1 _ _).same k o (carry k o hk ?_) ho
      rcases hrow.2 with ⟨e0, _⟩ | ⟨gg, cc, cur, e0, _, hgb, _⟩
      · rw [e0]; simp [Value.ownBlock]
      · rw [e0]
        intro e'
        obtain rfl : k = gg := by simpa [Value.ownBlock] using e'
        rw [hk] at hgb; cases hgb; cases ho⟩
    have kp : Kpx w.heap.size (w.heap.size + 1 + 1) (w.heap.size + 1 + 1 + 1 + 1) W (w1.setCell ⟨w.heap.size + 1, 0, none⟩ (.slice (some ⟨g', 0, none⟩) (D.length + 1) cap')) := ⟨bf, fun b l1 l2 => by
      refine (Below.heap_setCell w1 ⟨w.heap.size + 1, 0, none⟩ _ b (by intro e'; have : b = w.heap.size + 1 := e'; omega)).trans ?_
      rcases (by omega : b = w.heap.size + 1 + 1 ∨ b = w.heap.size + 1 + 1 + 1) with rfl | rfl
      · exact (show w1.heap[_]? = _ from q2).trans (show W.heap[_]? = _ from hb2).symm
      · exact (show w1.heap[_]? = _ from q3).trans (show W.heap[_]? = _ from hb3).symm⟩
    have e2 : subP a (pre ++ [⟨(z, t), hx⟩]) = D ++ [subN a (z, t)] := by rw [HD.out]; simp
    have of : (w1.setCell ⟨w.heap.size + 1, 0, none⟩ (.slice (some ⟨g', 0, none⟩) (D.length + 1) cap')).ownsRow w.heap.size 51 4 (.slice (some ⟨g', 0, none⟩) (D.length + 1) cap') (subP a (pre ++ [⟨(z, t), hx⟩])).length (cellsD (subP a (pre ++ [⟨(z, t), hx⟩]))) := by
      rw [e2, cellsD_append, List.length_append]
      exact own_set hown1 hg' _
    have HI : Hid (KeepsFrom _ W _ ∧ Kpx _ _ _ W _ ∧ (((∃ v, Boxed (w1.setCell ⟨w.heap.size + 1, 0, none⟩ (.slice (some ⟨g', 0, none⟩) (D.length + 1) cap')) (w.heap.size + 1) 25 v ∧ (w1.setCell ⟨w.heap.size + 1, 0, none⟩ (.slice (some ⟨g', 0, none⟩) (D.length + 1) cap')).ownsRow w.heap.size 51 4 v (subP a (pre ++ [⟨(z, t), hx⟩])).length (cellsD (subP a (pre ++ [⟨(z, t), hx⟩]))) ∧ True) ∧ _ ∧ _ ∧ _) ∧ Below w.heap.size w _)) :=
      ⟨kf (((((w.alloc (.cells #[.int .i64 (a : Int)] 2)).alloc (.cells #[.slice none 0 0] 25)).alloc (.cells #[.pointer (some ⟨tb, 0, none⟩)] 53)).alloc (.cells #[.int .i64 (a : Int)] 2)).heap.size), kp, ⟨⟨_, v1.set _, of, trivial⟩, q0.other (B' := w.heap.size + 1) (by omega) (.slice (some ⟨g', 0, none⟩) (D.length + 1) cap'), q3.other (B' := w.heap.size + 1) (by omega) (.slice (some ⟨g', 0, none⟩) (D.length + 1) cap'), q2.other (B' := w.heap.size + 1) (by omega) (.slice (some ⟨g', 0, none⟩) (D.length + 1) cap')⟩, hB.trans bf⟩
    have hc1 := v1.cell
    have hf1 := v1.frozen
    clear hS3 carry hgrow hown1 hat v1 q0 q2 q3 bf kf kp of e2 nA nA1 nA2 nA3 nB b2 ho3
    try simp only [Act.put]
    try simp only [List.setIfInBounds_toArray]
    try simp only [List.set_cons_zero, List.set_cons_succ]
    refine anyH_one (i := 20) (by kernel_rfl) (op_plain rfl (by rfl) (by simp) ?_)
    go_simp
    refine anyH_done (by kernel_rfl) ?_ _
    exact HI.out
  case done =>
    rintro D P W hD hP ⟨⟨⟨v, hv, hrow, -⟩, hb, hb3, hb2⟩, hB⟩ hK
    have hc := hv.cell
    gi_wp2
    refine ⟨by simp, .inl ⟨_, _, rfl, run_takeDeferred hK, ?_⟩⟩
    have e1 : (tellN N a (e - a)).map (subN a) = subP a P := by rw [← hP, List.map_map]; rfl
    rw [e1]
    exact ⟨_, results_tmp rfl _ _ _, v, rfl, ownsRow_putObj hrow _ hK rfl, hB.trans (belowK_b (w := w) (Nat.le_refl _) W D _ _ (by simp at hD; omega) hK rfl rfl)⟩
  case stop =>
    rintro D c pre W _ _ h _
    exact h.elim
end Go.Proofs.YtoljpgpkeploiaaDoor
