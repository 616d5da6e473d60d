/-
  Parts of the proof laid into one text, one behind the other; each says at its head what is proved in it.
-/
import Derived.Test.YtfdkklhigliciaaGreatDoorXaC
import Derived.RangeFuncNested
import Derived.RangeFuncBound
import Derived.RangeFuncCalls
import Derived.RangeFuncLeaves
import Derived.Shelf.Abstract
import Derived.Shelf.RegionOpen
import Derived.WalkKit
import Derived.OwnWalkIn
import Derived.TacticsInMore
import Derived.LoopNIn
import Derived.LoopIn
/-
  The program's tree in memory: a row of nodes (whose part each is, and its token) that a cell names; and the chain of places that one place hangs on.
-/
namespace Go.Proofs.YtfdkklhigliciaaGreatDoor
open Go.RowKit Go.Extern.Stop Go.Stop Go.Extern Num Go.Lib Go.Shelf

/-- A node's cells: whose part it is, and its token (a Dat whose kind is a token's). -/
def nodC (t : Dat) : List Value := [.int .i64 t.parent, .int .i64 t.kind, .int .i64 t.num, .string t.name]
def cellsN : List Dat → List Value
  | [] => []
  | t :: r => nodC t ++ cellsN r
theorem cellsN_append (a b : List Dat) : cellsN (a ++ b) = cellsN a ++ cellsN b := by
  induction a with
  | nil => rfl
  | cons t r ih => simp [cellsN, ih]
theorem cellsN_length (l : List Dat) : (cellsN l).length = l.length * 4 := by
  induction l with
  | nil => rfl
  | cons t r ih => simp [cellsN, nodC, ih]; omega
theorem cellsN_at (l : List Dat) (k : Nat) (h : k < l.length) : (cellsN l)[k * 4]? = some (.int .i64 l[k].parent) ∧ (cellsN l)[k * 4 + 1]? = some (.int .i64 l[k].kind) ∧ (cellsN l)[k * 4 + 2]? = some (.int .i64 l[k].num) ∧ (cellsN l)[k * 4 + 3]? = some (.string l[k].name) := by
  induction l generalizing k with
  | nil => cases h
  | cons t r ih =>
    cases k with
    | zero => exact ⟨rfl, rfl, rfl, rfl⟩
    | succ k =>
      have hk : k < r.length := by simpa using h
      have := ih k hk
      have e : ∀ j, (cellsN (t :: r))[j + 4]? = (cellsN r)[j]? := fun j => by
        show (nodC t ++ cellsN r)[j + 4]? = _
        rw [List.getElem?_append_right (by simp [nodC])]
        simp [nodC]
      have e1 : (k + 1) * 4 = k * 4 + 4 := by omega
      rw [e1, show k * 4 + 4 + 1 = k * 4 + 1 + 4 by omega, show k * 4 + 4 + 2 = k * 4 + 2 + 4 by omega, show k * 4 + 4 + 3 = k * 4 + 3 + 4 by omega, e, e, e, e]
      simpa using this
/-- The nodes that lie in a row. -/
def RowN (w : World) (g : Nat) (l : List Dat) : Prop := ∀ (k : Nat) (h : k < l.length), w.cell? ⟨g, k * 4, none⟩ = some (.int .i64 l[k].parent) ∧ w.cell? ⟨g, k * 4 + 1, none⟩ = some (.int .i64 l[k].kind) ∧ w.cell? ⟨g, k * 4 + 2, none⟩ = some (.int .i64 l[k].num) ∧ w.cell? ⟨g, k * 4 + 3, none⟩ = some (.string l[k].name)
theorem RowN.of {w : World} {base g cap : Nat} {l : List Dat} (h : w.ownsRow base 121 4 (.slice (some ⟨g, 0, none⟩) l.length cap) l.length (cellsN l)) : RowN w g l := by
  intro k hk
  have ha : ∀ j, (⟨g, 0, none⟩ : Addr).add j = ⟨g, j, none⟩ := fun j => by unfold Addr.add; split <;> simp_all
  have hc := h.cells (g := g) rfl
  obtain ⟨h0, h1, h2, h3⟩ := cellsN_at l k hk
  exact ⟨by rw [← ha]; exact hc _ _ h0, by rw [← ha]; exact hc _ _ h1, by rw [← ha]; exact hc _ _ h2, by rw [← ha]; exact hc _ _ h3⟩
theorem RowN.keep {w w' : World} {g n₀ : Nat} {l : List Dat} (h : RowN w g l) (hb : Below n₀ w w') (hg : g < n₀) : RowN w' g l := fun k hk =>
  ⟨(hb.cell (p := ⟨g, k * 4, none⟩) hg).trans (h k hk).1, (hb.cell (p := ⟨g, k * 4 + 1, none⟩) hg).trans (h k hk).2.1, (hb.cell (p := ⟨g, k * 4 + 2, none⟩) hg).trans (h k hk).2.2.1, (hb.cell (p := ⟨g, k * 4 + 3, none⟩) hg).trans (h k hk).2.2.2⟩
/-- A tree: the cell at a block's place names the row of its nodes; both lie below n₀. -/
def IsTree (n₀ : Nat) (w : World) (tb : Nat) (N : List Dat) : Prop :=
  ∃ ao g cap, w.cell? ⟨tb, 0, none⟩ = some (.slice ao N.length cap) ∧ tb < n₀ ∧ g < n₀ ∧ (N ≠ [] → ao = some ⟨g, 0, none⟩) ∧ RowN w g N
theorem IsTree.below {n₀ : Nat} {w w' : World} {tb : Nat} {N : List Dat} (h : IsTree n₀ w tb N) (hb : Below n₀ w w') : IsTree n₀ w' tb N := by
  obtain ⟨ao, g, cap, hc, ht, hg, ha, hr⟩ := h
  exact ⟨ao, g, cap, (hb.cell (p := ⟨tb, 0, none⟩) ht).trans hc, ht, hg, ha, hr.keep hb hg⟩
theorem IsTree.mono {n₀ n₁ : Nat} {w : World} {tb : Nat} {N : List Dat} (h : IsTree n₀ w tb N) (hn : n₀ ≤ n₁) : IsTree n₁ w tb N := by
  obtain ⟨ao, g, cap, hc, ht, hg, ha, hr⟩ := h
  exact ⟨ao, g, cap, hc, by omega, by omega, ha, hr⟩
/-- Whose parts may be: each hangs on one ahead of it, or on nothing. -/
def Pars (N : List Dat) : Prop := ∀ (j : Nat) (h : j < N.length), N[j].parent < (j : Int) ∧ -1 ≤ N[j].parent
/-- A place and all that it hangs on. -/
def upF (N : List Dat) : Nat → Int → List Int
  | 0, _ => []
  | f + 1, a => if a < 0 then [] else a :: upF N f (par N a.toNat)
def upL (N : List Dat) (a : Int) : List Int := upF N (a + 1).toNat a
theorem upF_neg (N : List Dat) (f : Nat) (a : Int) (h : a < 0) : upF N f a = [] := by cases f <;> simp [upF, h]
theorem upF_fuel {N : List Dat} (hp : Pars N) : ∀ (f g : Nat) (a : Int), a < N.length → a < f → a < g → upF N f a = upF N g a := by
  intro f
  induction f with
  | zero => intro g a _ h1 _; rw [upF_neg N _ a (by omega), upF_neg N _ a (by omega)]
  | succ f ih =>
    intro g a ha h1 h2
    by_cases h0 : a < 0
    · rw [upF_neg N _ a h0, upF_neg N _ a h0]
    · obtain ⟨k, rfl⟩ : ∃ k : Nat, a = (k : Int) := ⟨a.toNat, by omega⟩
      cases g with
      | zero => omega
      | succ g =>
        have hk : k < N.length := by omega
        have := hp k hk
        simp only [upF, if_neg h0, Int.toNat_natCast, par_at N k hk]
        rw [ih g _ (by omega) (by omega) (by omega)]
theorem upL_neg (N : List Dat) : upL N (-1) = [] := upF_neg N _ _ (by decide)
theorem upL_at {N : List Dat} (hp : Pars N) (k : Nat) (hk : k < N.length) : upL N (k : Int) = (k : Int) :: upL N N[k].parent := by
  have h0 : ¬ ((k : Int) < 0) := by omega
  have := hp k hk
  unfold upL
  rw [show ((k : Int) + 1).toNat = k + 1 by omega]
  simp only [upF, if_neg h0, Int.toNat_natCast, par_at N k hk]
  rw [upF_fuel hp k (N[k].parent + 1).toNat _ (by omega) (by omega) (by omega)]
theorem upL_len {N : List Dat} (hp : Pars N) : ∀ (k : Nat) (a : Int), a < N.length → a < k → -1 ≤ a → (upL N a).length ≤ k := by
  intro k
  induction k with
  | zero =>
    intro a _ h1 h2
    obtain rfl : a = -1 := (by omega)
    rw [upL_neg]; simp
  | succ k ih =>
    intro a ha h1 h2
    by_cases h0 : a < 0
    · obtain rfl : a = -1 := by omega
      rw [upL_neg]; simp
    · obtain ⟨j, rfl⟩ : ∃ k : Nat, a = (k : Int) := ⟨a.toNat, by omega⟩
      have := hp j (by omega)
      rw [upL_at hp j (by omega)]
      have := ih N[j].parent (by omega) (by omega) (by omega)
      simp; omega
/-- The chain's length is how deep the place lies. -/
theorem deep_up {N : List Dat} (hp : Pars N) : ∀ (k : Nat) (a : Int) (f : Nat), a < N.length → a < k → -1 ≤ a → a < f → deepF N f a = (upL N a).length := by
  intro k
  induction k with
  | zero =>
    intro a f _ h1 h2 _
    obtain rfl : a = -1 := (by omega)
    rw [upL_neg, deepF_neg N f _ (by decide)]; rfl
  | succ k ih =>
    intro a f ha h1 h2 hf
    by_cases h0 : a < 0
    · obtain rfl : a = -1 := by omega
      rw [upL_neg, deepF_neg N f _ (by decide)]; rfl
    · obtain ⟨j, rfl⟩ : ∃ k : Nat, a = (k : Int) := ⟨a.toNat, by omega⟩
      have := hp j (by omega)
      cases f with
      | zero => omega
      | succ f =>
        rw [deepF_at N f j (by omega), upL_at hp j (by omega), ih N[j].parent f (by omega) (by omega) (by omega) (by omega)]
        simp
/-- A place is met from another one up, and is a list: it is in the chain. -/
theorem line_up {N : List Dat} (hp : Pars N) (p : Nat) (hpl : p < N.length) : ∀ (k : Nat) (a : Int) (f : Nat), a < N.length → a < k → -1 ≤ a → a < f → lineF N (p : Int) f a = (decide ((p : Int) ∈ upL N a) && (N[p].kind == 4)) := by
  intro k
  induction k with
  | zero =>
    intro a f _ h1 h2 _
    obtain rfl : a = -1 := (by omega)
    rw [upL_neg, lineF_neg N _ f _ (by decide)]; simp
  | succ k ih =>
    intro a f ha h1 h2 hf
    by_cases h0 : a < 0
    · obtain rfl : a = -1 := by omega
      rw [upL_neg, lineF_neg N _ f _ (by decide)]; simp
    · obtain ⟨j, rfl⟩ : ∃ k : Nat, a = (k : Int) := ⟨a.toNat, by omega⟩
      have hj := hp j (by omega)
      cases f with
      | zero => omega
      | succ f =>
        by_cases e : j = p
        · subst e
          rw [lineF_hit N f j hpl, upL_at hp j hpl]; simp
        · have e' : ((j : Nat) : Int) ≠ (p : Int) := by omega
          rw [lineF_on N _ f j (by omega) e', upL_at hp j (by omega), ih N[j].parent f (by omega) (by omega) (by omega) (by omega)]
          have : ((p : Int) ∈ (j : Int) :: upL N N[j].parent) ↔ (p : Int) ∈ upL N N[j].parent := by
            simp only [List.mem_cons]
            constructor
            · rintro (h | h)
              · omega
              · exact h
            · exact Or.inr
          rw [decide_eq_decide.2 this]
/-- What a round keeps: all that lies below n₀, and the boxes from lo to hi. -/
def Kpx (n₀ lo hi : Nat) (W W' : World) : Prop := Below n₀ W W' ∧ ∀ b, lo ≤ b → b < hi → W'.heap[b]? = W.heap[b]?
theorem kpx_refl (n₀ lo hi : Nat) (W : World) : Kpx n₀ lo hi W W := ⟨Below.refl _ _, fun _ _ _ => rfl⟩
theorem kpx_t {n₀ lo hi : Nat} {A B C : World} (h : Kpx n₀ lo hi A B) (k : Kpx n₀ lo hi B C) : Kpx n₀ lo hi A C := ⟨h.1.trans k.1, fun b h1 h2 => (k.2 b h1 h2).trans (h.2 b h1 h2)⟩
theorem kpx_b {n₀ lo hi : Nat} {w : World} (hn : n₀ ≤ w.heap.size) (hh : hi ≤ w.heap.size) (W : World) (l : Nat) (o o' : Obj) (hl : w.heap.size ≤ l) (h : W.heap[l]? = some o) (h1 : o.isCells = false) (h2 : o.isWalk = false) : Kpx n₀ lo hi W (W.putObj l o') :=
  ⟨belowK_b hn W l o o' hl h h1 h2, fun b _ hb => World.putObj_heap_other (by omega)⟩
theorem kpx_set {n₀ lo hi : Nat} (W : World) (b j : Nat) (v : Value) (hb : n₀ ≤ b) (hx : b < lo ∨ hi ≤ b) : Kpx n₀ lo hi W (W.setCell ⟨b, j, none⟩ v) :=
  ⟨(Below.refl n₀ W).setCell (p := ⟨b, j, none⟩) hb v, fun k h1 h2 => Below.heap_setCell W ⟨b, j, none⟩ v k (by intro e; have : k = b := e; omega)⟩
theorem kpx_below {n₀ lo hi : Nat} {W W' : World} (h : Below W.heap.size W W') (hn : n₀ ≤ W.heap.size) (hh : hi ≤ W.heap.size) : Kpx n₀ lo hi W W' := ⟨h.mono hn, fun b _ hb => h.block b (by omega)⟩
theorem Kpx.cell {n₀ lo hi : Nat} {W W' : World} (h : Kpx n₀ lo hi W W') {b j : Nat} (h1 : lo ≤ b) (h2 : b < hi) : W'.cell? ⟨b, j, none⟩ = W.cell? ⟨b, j, none⟩ := World.cell?_of_block (h.2 b h1 h2)
end Go.Proofs.YtfdkklhigliciaaGreatDoor
namespace Go.Proofs.YtfdkklhigliciaaGreatDoor
open Go.RowKit Go.Extern.Stop Go.Stop Go.Extern Num Go.Lib Go.Shelf
attribute [local go_sem] Oper.semAt_some

set_option maxRecDepth 100000 in
set_option maxHeartbeats 2000000 in
theorem up1_in (F : Fence) (n : Nat) (hF : ∀ f, F.fn f) (hro : F.round = none) (hn : 1 ≤ n) (l ba bt n₀ lo hi tb : Nat) (N : List Dat) (hp : Pars N) (a : Int) (ha : -1 ≤ a) (ha2 : a < N.length) (J Jx : List Int → World → Prop)
    (hY : ∀ pre x W, J pre W → pre.length < (upL N a).length → YieldAt F (n - 1) Tryz.prog l #[.int .i64 x] W fun e W' =>
      (e = .returned (.bool true) ∧ J (pre ++ [x]) W' ∧ Kpx n₀ lo hi W W') ∨ (e = .returned (.bool false) ∧ Jx (pre ++ [x]) W'))
    (W : World) (hBa : W.cell? ⟨ba, 0, none⟩ = some (.int .i64 a)) (hBt : W.cell? ⟨bt, 0, none⟩ = some (.pointer (some ⟨tb, 0, none⟩))) (hlo : lo ≤ bt) (hhi : bt < hi) (hT : IsTree n₀ W tb N) (h0 : J [] W) :
    CallsIn F n Tryz.prog 137 #[.func (.yield l) #[] #[], .pointer (some ⟨ba, 0, none⟩), .pointer (some ⟨bt, 0, none⟩)] W fun e W' => (∃ v, e = .returned v) ∧
      ((∃ ys, ys = upL N a ∧ J ys W') ∨ (∃ pre, pre <+: upL N a ∧ Jx pre W')) := by
  refine callsIn_of_wp Tryz.func137 rfl (hF _) ?_ hro
  simp only [Tryz.ntmps137, List.size_toArray, List.length_cons, List.length_nil, Nat.reduceAdd, Nat.reduceSub, Array.replicate_succ, Array.replicate_zero, List.push_toArray, List.append_toArray, List.nil_append, List.cons_append]
  gi_wp2
  gi_loopw [4] (fun i wr => ∃ (q : Int) (pre : List Int), i = .int .i64 q ∧ -1 ≤ q ∧ q < N.length ∧ upL N a = pre ++ upL N q ∧ J pre wr ∧ Kpx n₀ lo hi W wr)
    (fun i _ => (intOf i + 1).toNat)
  case atStart => exact ⟨a, [], rfl, ha, ha2, rfl, h0, kpx_refl _ _ _ _⟩
  case round =>
    obtain ⟨q, pre, rfl, hq1, hq2, hup, hJs, hnx⟩ := hrel
    by_cases hq : q = -1
    · subst hq
      gi_wp2
      go_end0
      exact ⟨⟨_, rfl⟩, .inl ⟨pre, by rw [hup, upL_neg]; simp, hJs⟩⟩
    · obtain ⟨k, rfl⟩ : ∃ k : Nat, q = (k : Int) := ⟨q.toNat, by omega⟩
      have hk : k < N.length := by omega
      have hne : ((k : Int) != -1) = true := by simp
      have e1 := upL_at hp k hk
      have hpk := hp k hk
      obtain ⟨fn, tmps, assign, body, hy, hR⟩ := hY pre (k : Int) wr hJs (by rw [hup, e1]; simp)
      replace hup : upL N a = (pre ++ [(k : Int)]) ++ upL N N[k].parent := by rw [hup, e1]; simp
      clear e1
      gi_wp2
      refine hR.mono ?_
      rintro e W3 (⟨rfl, hJ3, hk3⟩ | ⟨rfl, hJx3⟩)
      · obtain ⟨ao, g, cap, hc, htb, hg, hao, hrow⟩ := (hT.below hnx.1).below hk3.1
        obtain rfl := hao (by intro h; rw [h] at hk; simp at hk)
        have hc3 : W3.cell? ⟨bt, 0, none⟩ = some (.pointer (some ⟨tb, 0, none⟩)) := ((kpx_t hnx hk3).cell hlo hhi).trans hBt
        have hr3 := (hrow k hk).1
        gi_wp2
        go_roundw
        case rel => exact ⟨N[k].parent, pre ++ [(k : Int)], rfl, hpk.2, by omega, hup, hJ3, kpx_t hnx hk3⟩
        case measure => simp [intOf]; omega
      · gi_wp2
        go_end0
        exact ⟨⟨_, rfl⟩, .inr ⟨pre ++ [(k : Int)], ⟨_, hup.symm⟩, hJx3⟩⟩
theorem up_in (F : Fence) (n : Nat) (hF : ∀ f, F.fn f) (hro : F.round = none) (p : Option Addr) (a : Int) (w : World) :
    CallsIn F n Tryz.prog 105 #[.pointer p, .int .i64 a] w fun e w' => e = .returned (.func (.func 137) #[] #[.pointer (some ⟨w.heap.size + 1, 0, none⟩), .pointer (some ⟨w.heap.size, 0, none⟩)]) ∧
      w' = (w.alloc (.cells #[.pointer p] 51)).alloc (.cells #[.int .i64 a] 2) := by
  refine callsIn_of_wp Tryz.func105 rfl (hF _) ?_ hro
  simp only [Tryz.ntmps105, List.size_toArray, List.length_cons, List.length_nil, Nat.reduceAdd, Nat.reduceSub, Array.replicate_succ, Array.replicate_zero, List.push_toArray, List.append_toArray, List.nil_append, List.cons_append]
  gi_wp2
  go_ret
  exact ⟨rfl, rfl⟩
theorem up_stops (F : Fence) (n : Nat) (hF : ∀ f, F.fn f) (hro : F.round = none) (hn : 1 ≤ n) (ba bt n₀ lo hi tb : Nat) (N : List Dat) (hp : Pars N) (a : Int) (ha : -1 ≤ a) (ha2 : a < N.length) (w : World) (hn₀ : n₀ ≤ w.heap.size)
    (hBa : w.cell? ⟨ba, 0, none⟩ = some (.int .i64 a)) (hBt : w.cell? ⟨bt, 0, none⟩ = some (.pointer (some ⟨tb, 0, none⟩))) (hlo : lo ≤ bt) (hhi : bt < hi) (hhi2 : hi ≤ w.heap.size) (hba : ba < w.heap.size) (hT : IsTree n₀ w tb N) :
    SeqStopsK F n Tryz.prog 137 #[.pointer (some ⟨ba, 0, none⟩), .pointer (some ⟨bt, 0, none⟩)] (fun x : Int => #[Value.int .i64 x]) (Kpx n₀ lo hi) (fun ys => ys = upL N a) (fun pre => pre <+: upL N a) (upL N a).length w := fun l J Jx W hW _ _ hY h0 =>
  up1_in F n hF hro hn l ba bt n₀ lo hi tb N hp a ha ha2 J Jx hY W ((hW.cell (p := ⟨ba, 0, none⟩) hba).trans hBa) ((hW.cell (p := ⟨bt, 0, none⟩) (by show bt < _; omega)).trans hBt) hlo hhi (hT.below (hW.mono hn₀)) h0
set_option maxRecDepth 100000 in
set_option maxHeartbeats 2000000 in
theorem depth_in (F : Fence) (n : Nat) (hF : ∀ f, F.fn f) (hro : F.round = none) (hn : 3 ≤ n) (tb : Nat) (N : List Dat) (hp : Pars N) (hl : N.length ≤ 1000000) (a : Int) (ha : -1 ≤ a) (ha2 : a < N.length) (w : World) (hT : IsTree w.heap.size w tb N) :
    CallsIn F n Tryz.prog 73 #[.pointer (some ⟨tb, 0, none⟩), .int .i64 a] w fun e W' => e = .returned (.int .i64 (upL N a).length) ∧ Below w.heap.size w W' := by
  have h1 : 1 ≤ n := by omega
  have hlen := upL_len hp N.length a ha2 (by omega) ha
  refine callsIn_of_wp_marks Tryz.func73 rfl (hF _) ?_ hro
  simp only [Tryz.ntmps73, List.size_toArray, List.length_cons, List.length_nil, Nat.reduceAdd, Nat.reduceSub, Array.replicate_succ, Array.replicate_zero, List.push_toArray, List.append_toArray, List.nil_append, List.cons_append]
  gi_wp2_with (gi_at_call 105; refine (up_in F (n - 1) hF hro _ _ _).mono ?_; rintro e w' ⟨rfl, rfl⟩)
  have c0 := Boxed.new w 2 (.int .i64 0)
  have c1 := Boxed.new (w.alloc (.cells #[.int .i64 0] 2)) 51 (.pointer (some ⟨tb, 0, none⟩))
  have c2 := Boxed.new ((w.alloc (.cells #[.int .i64 0] 2)).alloc (.cells #[.pointer (some ⟨tb, 0, none⟩)] 51)) 2 (.int .i64 a)
  simp only [World.size_alloc] at c1 c2
  have hB0 : Below w.heap.size w (((w.alloc (.cells #[.int .i64 0] 2)).alloc (.cells #[.pointer (some ⟨tb, 0, none⟩)] 51)).alloc (.cells #[.int .i64 a] 2)) := (((Below.refl _ w).alloc (Nat.le_refl _) _).alloc (by simp) _).alloc (by simp; omega) _
  refine wpIn_rangeFunc_ownF hro h1 (gf := 137) (lb := #[.pointer (some ⟨w.heap.size + 1 + 1, 0, none⟩), .pointer (some ⟨w.heap.size + 1, 0, none⟩)]) rfl (hF _) (enters_of Tryz.func137 (by kernel_rfl) rfl)
    (up_stops F (n - 1) hF hro (by omega) (w.heap.size + 1 + 1) (w.heap.size + 1) w.heap.size (w.heap.size + 1) (w.heap.size + 3) tb N hp a ha ha2 _ (by simp; omega) c2.cell (c1.alloc _).cell (Nat.le_refl _) (by omega) (by simp) (by simp) (hT.below hB0)) kpx_t (kpx_b (by simp; omega) (by simp)) (Below.refl _ _) (fun _ => rfl)
    (fun pre W => Boxed W w.heap.size 2 (.int .i64 (pre.length : Nat)) ∧ Below w.heap.size w W)
    (fun _ _ _ => False)
    (OwnFrom.and (Own.from (boxed_own _ _ _) _) (ownFrom_below (Nat.le_refl _) (by simp; omega)))
    (fun _ _ _ _ _ hs _ _ => hs)
    ⟨(c0.alloc _).alloc _, hB0⟩
    (fun x => { tmps := #[.pointer (some ⟨tb, 0, none⟩), .int .i64 a, undef, undef, .int .i64 0, .pointer (some ⟨w.heap.size, 0, none⟩), .pointer (some ⟨tb, 0, none⟩), .int .i64 a, .func (.func 137) #[] #[.pointer (some ⟨w.heap.size + 1 + 1, 0, none⟩), .pointer (some ⟨w.heap.size + 1, 0, none⟩)], .int .i64 x, undef, undef, undef], defers := [] }) ?assign ?body ?done ?stop
  case assign =>
    intro l x W K hK
    gi_wp2
    simpa using hK
  case body =>
    rintro l pre x W ⟨hb, hB⟩ hlt
    have hc := hb.cell
    have hf := hb.frozen
    gi_wp2
    refine ⟨KeepsOthers.setCell _ _ _, kpx_set W _ _ _ (Nat.le_refl _) (.inl (by omega)), ?_, hB.setCell (p := ⟨w.heap.size, 0, none⟩) (Nat.le_refl _) _⟩
    have := hb.set (.int .i64 ((pre.length : Int) + 1))
    simpa using this
  case done =>
    rintro D ys W hD rfl ⟨hb, hB⟩ hK
    have hc := hb.cell
    gi_wp2
    refine ⟨by simp, .inl ⟨_, _, rfl, run_takeDeferred hK, ?_⟩⟩
    exact ⟨_, results_tmp rfl _ _ _, rfl, hB.trans (belowK_b (w := w) (Nat.le_refl _) W D _ _ (by simp at hD; omega) hK rfl rfl)⟩
  case stop =>
    rintro D c pre W _ _ h _
    exact h.elim
theorem size_in (F : Fence) (n : Nat) (hF : ∀ f, F.fn f) (hro : F.round = none) (n₀ tb : Nat) (N : List Dat) (w : World) (hT : IsTree n₀ w tb N) :
    CallsIn F n Tryz.prog 74 #[.pointer (some ⟨tb, 0, none⟩)] w fun e w' => e = .returned (.int .i64 (N.length : Nat)) ∧ w' = w := by
  obtain ⟨ao, g, cap, hc, -⟩ := hT
  refine callsIn_of_wp Tryz.func74 rfl (hF _) ?_ hro
  simp only [Tryz.ntmps74, List.size_toArray, List.length_cons, List.length_nil, Nat.reduceAdd, Nat.reduceSub, Array.replicate_succ, Array.replicate_zero, List.push_toArray, List.append_toArray, List.nil_append, List.cons_append]
  gi_wp2
  go_ret
  exact ⟨rfl, rfl⟩
set_option maxRecDepth 100000 in
set_option maxHeartbeats 2000000 in
theorem isOpen_in (F : Fence) (n : Nat) (hF : ∀ f, F.fn f) (hro : F.round = none) (hn : 3 ≤ n) (tb : Nat) (N : List Dat) (hp : Pars N) (hpos : 0 < N.length) (hl : N.length ≤ 1000000) (a : Int) (w : World) (hT : IsTree w.heap.size w tb N) :
    CallsIn F n Tryz.prog 104 #[.pointer (some ⟨tb, 0, none⟩), .int .i64 a] w fun e W' => e = .returned (.bool (decide (a ∈ upL N ((N.length : Int) - 1)))) ∧ Below w.heap.size w W' := by
  have h1 : 1 ≤ n := by omega
  refine callsIn_of_wp_marks Tryz.func104 rfl (hF _) ?_ hro
  simp only [Tryz.ntmps104, List.size_toArray, List.length_cons, List.length_nil, Nat.reduceAdd, Nat.reduceSub, Array.replicate_succ, Array.replicate_zero, List.push_toArray, List.append_toArray, List.nil_append, List.cons_append]
  have hB1 : Below w.heap.size w ((w.alloc (.cells #[.int .i64 a] 2)).alloc (.cells #[.bool false] 4)) := ((Below.refl _ w).alloc (Nat.le_refl _) _).alloc (by simp) _
  have hT1 := hT.below hB1
  gi_wp2_with (first | (gi_at_call 74; refine (size_in F (n - 1) hF hro _ _ _ _ hT1).mono ?_; rintro e w' ⟨rfl, rfl⟩) | (gi_at_call 105; refine (up_in F (n - 1) hF hro _ _ _).mono ?_; rintro e w' ⟨rfl, rfl⟩))
  have c0 := Boxed.new w 2 (.int .i64 a)
  have c1 := Boxed.new (w.alloc (.cells #[.int .i64 a] 2)) 4 (.bool false)
  have c2 := Boxed.new ((w.alloc (.cells #[.int .i64 a] 2)).alloc (.cells #[.bool false] 4)) 51 (.pointer (some ⟨tb, 0, none⟩))
  have c3 := Boxed.new (((w.alloc (.cells #[.int .i64 a] 2)).alloc (.cells #[.bool false] 4)).alloc (.cells #[.pointer (some ⟨tb, 0, none⟩)] 51)) 2 (.int .i64 ((N.length : Int) - 1))
  simp only [World.size_alloc] at c1 c2 c3
  have hB0 : Below w.heap.size w ((((w.alloc (.cells #[.int .i64 a] 2)).alloc (.cells #[.bool false] 4)).alloc (.cells #[.pointer (some ⟨tb, 0, none⟩)] 51)).alloc (.cells #[.int .i64 ((N.length : Int) - 1)] 2)) := (hB1.alloc (by simp; omega) _).alloc (by simp; omega) _
  refine wpIn_rangeFunc_ownF hro h1 (gf := 137) (lb := #[.pointer (some ⟨w.heap.size + 1 + 1 + 1, 0, none⟩), .pointer (some ⟨w.heap.size + 1 + 1, 0, none⟩)]) rfl (hF _) (enters_of Tryz.func137 (by kernel_rfl) rfl)
    (up_stops F (n - 1) hF hro (by omega) (w.heap.size + 1 + 1 + 1) (w.heap.size + 1 + 1) w.heap.size (w.heap.size + 1 + 1) (w.heap.size + 1 + 1 + 1 + 1) tb N hp ((N.length : Int) - 1) (by omega) (by omega) _ (by simp; omega) c3.cell (c2.alloc _).cell (Nat.le_refl _) (by omega) (by simp) (by simp) (hT.below hB0)) kpx_t (kpx_b (by simp; omega) (by simp)) (Below.refl _ _) (fun _ => rfl)
    (fun pre W => ((∀ y ∈ pre, y ≠ a) ∧ Boxed W w.heap.size 2 (.int .i64 a) ∧ Boxed W (w.heap.size + 1) 4 (.bool false)) ∧ Below w.heap.size w W)
    (fun c pre W => (c = .ret ∧ a ∈ pre ∧ Boxed W (w.heap.size + 1) 4 (.bool true)) ∧ Below w.heap.size w W)
    (OwnFrom.and (OwnFrom.and (ownFrom_pure _ _) (OwnFrom.and (Own.from (boxed_own _ _ _) _) (Own.from (boxed_own _ _ _) _))) (ownFrom_below (Nat.le_refl _) (by simp; omega)))
    (fun c => OwnFrom.and (OwnFrom.and (ownFrom_pure _ _) (OwnFrom.and (ownFrom_pure _ _) (Own.from (boxed_own _ _ _) _))) (ownFrom_below (Nat.le_refl _) (by simp; omega)))
    ⟨⟨by simp, ((c0.alloc _).alloc _).alloc _, (c1.alloc _).alloc _⟩, hB0⟩
    (fun x => { tmps := #[.pointer (some ⟨tb, 0, none⟩), .int .i64 a, undef, .pointer (some ⟨w.heap.size, 0, none⟩), .pointer (some ⟨w.heap.size + 1, 0, none⟩), .int .i64 x, .pointer (some ⟨tb, 0, none⟩), .pointer (some ⟨tb, 0, none⟩), .int .i64 (N.length : Nat), .int .i64 ((N.length : Int) - 1), .func (.func 137) #[] #[.pointer (some ⟨w.heap.size + 1 + 1 + 1, 0, none⟩), .pointer (some ⟨w.heap.size + 1 + 1, 0, none⟩)], .int .i64 x, undef, undef, undef], defers := [] }) ?assign ?body ?done ?stop
  case assign =>
    intro l x W K hK
    gi_wp2
    exact hK
  case body =>
    rintro l pre x W ⟨⟨hne, hb, hr⟩, hB⟩ hlt
    have hc := hb.cell
    have hc2 := hr.cell
    have hf := hr.frozen
    gi_wp2
    · rename_i hx
      obtain rfl : x = a := eq_of_beq hx
      exact ⟨KeepsOthers.setCell _ _ _, ⟨rfl, List.mem_append.2 (.inr (by simp)), hr.set _⟩, hB.setCell (p := ⟨w.heap.size + 1, 0, none⟩) (by simp) _⟩
    · rename_i hx
      exact ⟨KeepsOthers.refl _, kpx_refl _ _ _ _, ⟨fun y hy => (List.mem_append.1 hy).elim (hne y) (fun e e' => by simp at e; subst e; subst e'; simp at hx), hb, hr⟩, hB⟩
  case done =>
    rintro D ys W hD rfl ⟨⟨hne, _, hr⟩, hB⟩ hK
    have hc2 := hr.cell
    have hf := hr.frozen
    gi_wp2
    have hK' := (KeepsOthers.setCell W ⟨w.heap.size + 1, 0, none⟩ (.bool false)).same D _ hK rfl
    refine ⟨by simp, .inl ⟨_, _, rfl, run_takeDeferred hK', ?_⟩⟩
    have hc5 := cell_kept (hr.set (.bool false)).cell (grownBy_putObj' _ D (.deferred none)) (fun r e => by cases e; exact ⟨_, hK', rfl⟩)
    refine ⟨.bool false, ?_, by rw [decide_eq_false (fun h => hne a h rfl)], (hB.setCell (p := ⟨w.heap.size + 1, 0, none⟩) (by simp) _).trans (belowK_b (w := w) (Nat.le_refl _) _ D _ _ (by simp at hD; omega) hK' rfl rfl)⟩
    simp [results, Tryz.f104, go_sem, hc5]
  case stop =>
    rintro D c pre W hD hpre ⟨⟨rfl, hin, hr⟩, hB⟩ hK
    gi_wp2
    refine ⟨by simp, .inl ⟨_, _, rfl, run_takeDeferred hK, ?_⟩⟩
    have hc5 := cell_kept hr.cell (grownBy_putObj' _ D (.deferred none)) (fun r e => by cases e; exact ⟨_, hK, rfl⟩)
    refine ⟨.bool true, ?_, by rw [decide_eq_true (hpre.subset hin)], hB.trans (belowK_b (w := w) (Nat.le_refl _) W D _ _ (by simp at hD; omega) hK rfl rfl)⟩
    simp [results, Tryz.f104, go_sem, hc5]
end Go.Proofs.YtfdkklhigliciaaGreatDoor
/-
  Core, a struct of 6 cells whose last one is a slice of data, and slices of it: what the laws' szCore, szCoreS, toCore, toCoreS, eqCore and eqCoreS answer; nothing that was there is turned.
-/
namespace Go.Proofs.YtfdkklhigliciaaGreatDoor
open Go.RowKit Go.Extern.Stop Go.Stop Go.Extern Num Go.Lib

structure Cor where
  kind : Int
  parent : Int
  a : Int
  b : Int
  name : ByteArray
  data : List Dat
abbrev Cor.val (t : Cor) (v : Value) : Value := .agg #[.int .i64 t.kind, .int .i64 t.parent, .int .i64 t.a, .int .i64 t.b, .string t.name, v]
def Cor.cells (t : Cor) (v : Value) : List Value := [.int .i64 t.kind, .int .i64 t.parent, .int .i64 t.a, .int .i64 t.b, .string t.name, v]
/-- No longer than a text may be. -/
structure Cor.small (t : Cor) : Prop where
  name : t.name.size ≤ 1048576
  len : t.data.length ≤ 1048576
  names : ∀ (k : Nat) (h : k < t.data.length), t.data[k].name.size ≤ 1048576
structure Cor.able (t : Cor) : Prop where
  name : t.name.size ≤ 9223372036854775807
  len : t.data.length ≤ 9223372036854775807
  names : ∀ (k : Nat) (h : k < t.data.length), t.data[k].name.size ≤ 9223372036854775807
/-- What lies where a slice leads that came in. -/
def MemC (w : World) (a : Option Addr) (l : List Cor) : Prop :=
  0 < l.length → ∃ b off, a = some ⟨b, off, none⟩ ∧ ∀ (k : Nat) (h : k < l.length), w.cell? ⟨b, off + k * 6, none⟩ = some (.int .i64 l[k].kind) ∧ w.cell? ⟨b, off + k * 6 + 1, none⟩ = some (.int .i64 l[k].parent) ∧ w.cell? ⟨b, off + k * 6 + 2, none⟩ = some (.int .i64 l[k].a) ∧ w.cell? ⟨b, off + k * 6 + 3, none⟩ = some (.int .i64 l[k].b) ∧ w.cell? ⟨b, off + k * 6 + 4, none⟩ = some (.string l[k].name) ∧ ∃ ao cap, w.cell? ⟨b, off + k * 6 + 5, none⟩ = some (.slice ao l[k].data.length cap) ∧ MemD w ao l[k].data
theorem MemC.below {w w' : World} {a : Option Addr} {l : List Cor} (h : MemC w a l) (hb : Below w.heap.size w w') : MemC w' a l := by
  intro hl
  obtain ⟨b, off, e, hc⟩ := h hl
  refine ⟨b, off, e, fun k hk => ?_⟩
  obtain ⟨c0, c1, c2, c3, c4, ao, cap, c5, hm⟩ := hc k hk
  exact ⟨cell_keep hb c0, cell_keep hb c1, cell_keep hb c2, cell_keep hb c3, cell_keep hb c4, ao, cap, cell_keep hb c5, hm.below hb⟩
def SZ1 (t : Cor) (w : World) (e : Ending) (w' : World) : Prop := ((e = .returned (.int .i64 (-1))) ∨ (∃ q : Nat, q ≤ 1048576 ∧ e = .returned (.int .i64 (q : Int)) ∧ t.small)) ∧ Below w.heap.size w w'
def SZC (l : List Cor) (w : World) (e : Ending) (w' : World) : Prop :=
  ((e = .returned (.int .i64 (-1))) ∨ (∃ q : Nat, q ≤ 1048576 ∧ e = .returned (.int .i64 (q : Int)) ∧ l.length ≤ 1048576 ∧ ∀ (k : Nat) (h : k < l.length), l[k].small)) ∧ Below w.heap.size w w'
def cellsC : List (Cor × Value) → List Value
  | [] => []
  | t :: r => t.1.cells t.2 ++ cellsC r
theorem cellsC_append (a b : List (Cor × Value)) : cellsC (a ++ b) = cellsC a ++ cellsC b := by
  induction a with
  | nil => rfl
  | cons t r ih => simp [cellsC, ih]
theorem cellsC_length (l : List (Cor × Value)) : (cellsC l).length = l.length * 6 := by
  induction l with
  | nil => rfl
  | cons t r ih => simp [cellsC, Cor.cells, ih]; omega
theorem cellsC_at (l : List (Cor × Value)) (k : Nat) (h : k < l.length) : (cellsC l)[k * 6]? = some (.int .i64 l[k].1.kind) ∧ (cellsC l)[k * 6 + 1]? = some (.int .i64 l[k].1.parent) ∧ (cellsC l)[k * 6 + 2]? = some (.int .i64 l[k].1.a) ∧ (cellsC l)[k * 6 + 3]? = some (.int .i64 l[k].1.b) ∧ (cellsC l)[k * 6 + 4]? = some (.string l[k].1.name) ∧ (cellsC l)[k * 6 + 5]? = some l[k].2 := by
  induction l generalizing k with
  | nil => cases h
  | cons t r ih =>
    cases k with
    | zero => exact ⟨rfl, rfl, rfl, rfl, rfl, rfl⟩
    | succ k =>
      have hk : k < r.length := by simpa using h
      have := ih k hk
      have e : ∀ j, (cellsC (t :: r))[j + 6]? = (cellsC r)[j]? := fun j => by
        show (t.1.cells t.2 ++ cellsC r)[j + 6]? = _
        rw [List.getElem?_append_right (by simp [Cor.cells])]
        simp [Cor.cells]
      have e1 : (k + 1) * 6 = k * 6 + 6 := by omega
      rw [e1, show k * 6 + 6 + 1 = k * 6 + 1 + 6 by omega, show k * 6 + 6 + 2 = k * 6 + 2 + 6 by omega, show k * 6 + 6 + 3 = k * 6 + 3 + 6 by omega, show k * 6 + 6 + 4 = k * 6 + 4 + 6 by omega, show k * 6 + 6 + 5 = k * 6 + 5 + 6 by omega, e, e, e, e, e, e]
      simpa using this
theorem infoC : (Tryz.prog.info? 78).map (fun i => (i.zero, i.size, i.bytes)) = some (some (.agg #[.int .i64 0, .int .i64 0, .int .i64 0, .int .i64 0, .string ⟨#[]⟩, .slice none 0 0]), 6, 72) := by kernel_rfl
theorem makeC (n : Nat) (hn : n ≤ 1048576) (w : World) : (Instr.makeSlice 24 (.int .i64 (n : Int)) (.int .i64 (n : Int))).run Tryz.prog w = .ok (.slice (some ⟨w.heap.size, 0, none⟩) n n) (w.alloc (.cells (madeCells #[.int .i64 0, .int .i64 0, .int .i64 0, .int .i64 0, .string ⟨#[]⟩, .slice none 0 0] (n * 6)) 78)) := by
  obtain ⟨i0, hi, hz0, hz1, hz2⟩ := info_parts infoC
  have := run_make (P := Tryz.prog) w 24 78 i0 _ Tryz.underlying24 hi hz0 .i64 .i64 (n : Int) (n : Int) (by omega) (by omega) (by rw [hz2]; omega) (by omega)
  rw [this, hz1]
  simp [Value.cells]
theorem madeC (n : Nat) (hn : n ≤ 1048576) (w : World) : (w.alloc (.cells (madeCells #[.int .i64 0, .int .i64 0, .int .i64 0, .int .i64 0, .string ⟨#[]⟩, .slice none 0 0] (n * 6)) 78)).ownsRow w.heap.size 78 6 (.slice (some ⟨w.heap.size, 0, none⟩) n n) n (madeCells #[.int .i64 0, .int .i64 0, .int .i64 0, .int .i64 0, .string ⟨#[]⟩, .slice none 0 0] (n * 6)).toList :=
  ⟨by simp [madeCells], .inr ⟨w.heap.size, n, _, rfl, Nat.le_refl _, heap_alloc_new w _, Nat.le_refl _, by unfold maxLen; omega, by simp [madeCells], by rw [List.take_of_length_le]; simp [madeCells]⟩⟩
theorem put6 (xs A : List Value) (k : Nat) (a b c d e f : Value) (h : xs.take (k * 6) = A) (hl : k * 6 + 6 ≤ xs.length) : ((((((xs.set (k * 6) a).set (k * 6 + 1) b).set (k * 6 + 2) c).set (k * 6 + 3) d).set (k * 6 + 4) e).set (k * 6 + 5) f).take ((k + 1) * 6) = A ++ [a, b, c, d, e, f] := by
  have q : xs = xs.take (k * 6) ++ (xs[k * 6]'(by omega) :: xs[k * 6 + 1]'(by omega) :: xs[k * 6 + 2]'(by omega) :: xs[k * 6 + 3]'(by omega) :: xs[k * 6 + 4]'(by omega) :: xs[k * 6 + 5]'(by omega) :: xs.drop (k * 6 + 6)) := by
    rw [← List.drop_eq_getElem_cons, ← List.drop_eq_getElem_cons, ← List.drop_eq_getElem_cons, ← List.drop_eq_getElem_cons, ← List.drop_eq_getElem_cons, ← List.drop_eq_getElem_cons, List.take_append_drop]
  have hA : A.length = k * 6 := by rw [← h]; simp; omega
  rw [h] at q
  generalize xs[k * 6]'(by omega) = x0 at q
  generalize xs[k * 6 + 1]'(by omega) = x1 at q
  generalize xs[k * 6 + 2]'(by omega) = x2 at q
  generalize xs[k * 6 + 3]'(by omega) = x3 at q
  generalize xs[k * 6 + 4]'(by omega) = x4 at q
  generalize xs[k * 6 + 5]'(by omega) = x5 at q
  generalize xs.drop (k * 6 + 6) = r at q
  clear h
  subst q
  rw [List.set_append_right _ _ (by omega), List.set_append_right _ _ (by omega), List.set_append_right _ _ (by omega), List.set_append_right _ _ (by omega), List.set_append_right _ _ (by omega), List.set_append_right _ _ (by omega), hA, show k * 6 - k * 6 = 0 by omega, show k * 6 + 1 - k * 6 = 1 by omega, show k * 6 + 2 - k * 6 = 2 by omega, show k * 6 + 3 - k * 6 = 3 by omega, show k * 6 + 4 - k * 6 = 4 by omega, show k * 6 + 5 - k * 6 = 5 by omega]
  rw [show (k + 1) * 6 = A.length + 6 by omega, List.take_append, List.take_of_length_le (by omega), show A.length + 6 - A.length = 6 by omega]
  rfl
theorem putC_next {wr : World} {base g n k : Nat} {xs A : List Value} {t : Cor} {v : Value} (ho : wr.ownsRow base 78 6 (.slice (some ⟨g, 0, none⟩) n n) n xs) (hA : xs.take (k * 6) = A) (hk : k < n) :
    ∃ ys, ((((((wr.setCell ⟨g, k * 6, none⟩ (.int .i64 t.kind)).setCell ⟨g, k * 6 + 1, none⟩ (.int .i64 t.parent)).setCell ⟨g, k * 6 + 2, none⟩ (.int .i64 t.a)).setCell ⟨g, k * 6 + 3, none⟩ (.int .i64 t.b)).setCell ⟨g, k * 6 + 4, none⟩ (.string t.name)).setCell ⟨g, k * 6 + 5, none⟩ v).ownsRow base 78 6 (.slice (some ⟨g, 0, none⟩) n n) n ys ∧ ys.take ((k + 1) * 6) = A ++ t.cells v :=
  ⟨_, own_put (own_put (own_put (own_put (own_put (own_put ho _ _) _ _) _ _) _ _) _ _) _ _, put6 xs A k _ _ _ _ _ _ hA (by have := ho.1; omega)⟩
/-- The data of each core, in a row of their own behind block g. -/
def NestC (w : World) (B g : Nat) (P : List (Cor × Value)) : Prop := ∀ x ∈ P, ∃ gk, x.2 = .slice (some ⟨gk, 0, none⟩) x.1.data.length x.1.data.length ∧ g < gk ∧ w.ownsRow B 49 4 (.slice (some ⟨gk, 0, none⟩) x.1.data.length x.1.data.length) x.1.data.length (cellsD x.1.data)
theorem NestC.below {w w' : World} {B g : Nat} {P : List (Cor × Value)} (h : NestC w B g P) (hb : Below w.heap.size w w') : NestC w' B g P := fun x hx => by
  obtain ⟨gk, h1, h2, h3⟩ := h x hx
  exact ⟨gk, h1, h2, own_below h3 hb⟩
theorem NestC.set {w : World} {B g : Nat} {P : List (Cor × Value)} (h : NestC w B g P) (j : Nat) (u : Value) : NestC (w.setCell ⟨g, j, none⟩ u) B g P := fun x hx => by
  obtain ⟨gk, h1, h2, h3⟩ := h x hx
  exact ⟨gk, h1, h2, own_set h3 (p := ⟨g, j, none⟩) (by show gk ≠ g; omega) u⟩
/-- Cores in memory of their own. -/
def IsC (w : World) (B g cap : Nat) (l : List Cor) : Prop := ∃ P : List (Cor × Value), P.map Prod.fst = l ∧ w.ownsRow B 78 6 (.slice (some ⟨g, 0, none⟩) l.length cap) l.length (cellsC P) ∧ NestC w B g P
theorem IsC.below {w w' : World} {B g cap : Nat} {l : List Cor} (h : IsC w B g cap l) (hb : Below w.heap.size w w') : IsC w' B g cap l := by
  obtain ⟨P, h1, h2, h3⟩ := h
  exact ⟨P, h1, own_below h2 hb, h3.below hb⟩
/-- As they are read. -/
def RowC (w : World) (B g : Nat) (l : List Cor) : Prop := ∀ (k : Nat) (h : k < l.length), w.cell? ⟨g, k * 6, none⟩ = some (.int .i64 l[k].kind) ∧ w.cell? ⟨g, k * 6 + 1, none⟩ = some (.int .i64 l[k].parent) ∧ w.cell? ⟨g, k * 6 + 2, none⟩ = some (.int .i64 l[k].a) ∧ w.cell? ⟨g, k * 6 + 3, none⟩ = some (.int .i64 l[k].b) ∧ w.cell? ⟨g, k * 6 + 4, none⟩ = some (.string l[k].name) ∧
  ∃ gk, w.cell? ⟨g, k * 6 + 5, none⟩ = some (.slice (some ⟨gk, 0, none⟩) l[k].data.length l[k].data.length) ∧ w.ownsRow B 49 4 (.slice (some ⟨gk, 0, none⟩) l[k].data.length l[k].data.length) l[k].data.length (cellsD l[k].data)
theorem RowC.below {w w' : World} {B g : Nat} {l : List Cor} (h : RowC w B g l) (hb : Below w.heap.size w w') : RowC w' B g l := fun k hk => by
  obtain ⟨c0, c1, c2, c3, c4, gk, c5, ho⟩ := h k hk
  exact ⟨cell_keep hb c0, cell_keep hb c1, cell_keep hb c2, cell_keep hb c3, cell_keep hb c4, gk, cell_keep hb c5, own_below ho hb⟩
theorem IsC.row {w : World} {B g cap : Nat} {l : List Cor} (h : IsC w B g cap l) : RowC w B g l := fun k hk => by
  obtain ⟨P, h1, h2, h3⟩ := h
  have hkP : k < P.length := by rw [← h1] at hk; simpa using hk
  have e : l[k] = P[k].1 := by simp [← h1]
  have ha : ∀ j, (⟨g, 0, none⟩ : Addr).add j = ⟨g, j, none⟩ := fun j => by unfold Addr.add; split <;> simp_all
  have hc := h2.cells (g := g) rfl
  obtain ⟨c0, c1, c2, c3, c4, c5⟩ := cellsC_at P k hkP
  obtain ⟨gk, q1, q2, q3⟩ := h3 P[k] (List.getElem_mem hkP)
  rw [e]
  rw [q1] at c5
  exact ⟨by rw [← ha]; exact hc _ _ c0, by rw [← ha]; exact hc _ _ c1, by rw [← ha]; exact hc _ _ c2, by rw [← ha]; exact hc _ _ c3, by rw [← ha]; exact hc _ _ c4, gk, by rw [← ha]; exact hc _ _ c5, q3⟩
theorem takeC (l : List Cor) (k : Nat) (h : k < l.length) : l.take (k + 1) = l.take k ++ [l[k]] := by
  rw [List.take_add_one, List.getElem?_eq_getElem h]; rfl
end Go.Proofs.YtfdkklhigliciaaGreatDoor
/-
  The program's tree of cores in memory: a row of nodes (whose part each is, and its core) that a cell names; the chain of places that one place hangs on; its up, depth, size, isOpen.
-/
namespace Go.Proofs.YtfdkklhigliciaaGreatDoor
open Go.RowKit Go.Extern.Stop Go.Stop Go.Extern Num Go.Lib Go.Shelf

/-- A node's cells: whose part it is, and its core. -/
def nodCC (x : Cor × Value) : List Value := [.int .i64 x.1.parent, .int .i64 x.1.kind, .int .i64 x.1.parent, .int .i64 x.1.a, .int .i64 x.1.b, .string x.1.name, x.2]
def cellsNC : List (Cor × Value) → List Value
  | [] => []
  | t :: r => nodCC t ++ cellsNC r
theorem cellsNC_append (a b : List (Cor × Value)) : cellsNC (a ++ b) = cellsNC a ++ cellsNC b := by
  induction a with
  | nil => rfl
  | cons t r ih => simp [cellsNC, ih]
theorem cellsNC_length (l : List (Cor × Value)) : (cellsNC l).length = l.length * 7 := by
  induction l with
  | nil => rfl
  | cons t r ih => simp [cellsNC, nodCC, ih]; omega
theorem cellsNC_at (l : List (Cor × Value)) (k : Nat) (h : k < l.length) : (cellsNC l)[k * 7]? = some (.int .i64 l[k].1.parent) ∧ (cellsNC l)[k * 7 + 1]? = some (.int .i64 l[k].1.kind) ∧ (cellsNC l)[k * 7 + 2]? = some (.int .i64 l[k].1.parent) ∧ (cellsNC l)[k * 7 + 3]? = some (.int .i64 l[k].1.a) ∧ (cellsNC l)[k * 7 + 4]? = some (.int .i64 l[k].1.b) ∧ (cellsNC l)[k * 7 + 5]? = some (.string l[k].1.name) ∧ (cellsNC l)[k * 7 + 6]? = some l[k].2 := by
  induction l generalizing k with
  | nil => cases h
  | cons t r ih =>
    cases k with
    | zero => exact ⟨rfl, rfl, rfl, rfl, rfl, rfl, rfl⟩
    | succ k =>
      have hk : k < r.length := by simpa using h
      have := ih k hk
      have e : ∀ j, (cellsNC (t :: r))[j + 7]? = (cellsNC r)[j]? := fun j => by
        show (nodCC t ++ cellsNC r)[j + 7]? = _
        rw [List.getElem?_append_right (by simp [nodCC])]
        simp [nodCC]
      have e1 : (k + 1) * 7 = k * 7 + 7 := by omega
      rw [e1, show k * 7 + 7 + 1 = k * 7 + 1 + 7 by omega, show k * 7 + 7 + 2 = k * 7 + 2 + 7 by omega, show k * 7 + 7 + 3 = k * 7 + 3 + 7 by omega, show k * 7 + 7 + 4 = k * 7 + 4 + 7 by omega, show k * 7 + 7 + 5 = k * 7 + 5 + 7 by omega, show k * 7 + 7 + 6 = k * 7 + 6 + 7 by omega, e, e, e, e, e, e, e]
      simpa using this
/-- The nodes that lie in a row. -/
def RowNC (w : World) (g : Nat) (l : List (Cor × Value)) : Prop := ∀ (k : Nat) (h : k < l.length), w.cell? ⟨g, k * 7, none⟩ = some (.int .i64 l[k].1.parent) ∧ w.cell? ⟨g, k * 7 + 1, none⟩ = some (.int .i64 l[k].1.kind) ∧ w.cell? ⟨g, k * 7 + 2, none⟩ = some (.int .i64 l[k].1.parent) ∧ w.cell? ⟨g, k * 7 + 3, none⟩ = some (.int .i64 l[k].1.a) ∧ w.cell? ⟨g, k * 7 + 4, none⟩ = some (.int .i64 l[k].1.b) ∧ w.cell? ⟨g, k * 7 + 5, none⟩ = some (.string l[k].1.name) ∧ w.cell? ⟨g, k * 7 + 6, none⟩ = some l[k].2
theorem RowNC.of {w : World} {base g cap : Nat} {l : List (Cor × Value)} (h : w.ownsRow base 100 7 (.slice (some ⟨g, 0, none⟩) l.length cap) l.length (cellsNC l)) : RowNC w g l := by
  intro k hk
  have ha : ∀ j, (⟨g, 0, none⟩ : Addr).add j = ⟨g, j, none⟩ := fun j => by unfold Addr.add; split <;> simp_all
  have hc := h.cells (g := g) rfl
  obtain ⟨h0, h1, h2, h3, h4, h5, h6⟩ := cellsNC_at l k hk
  exact ⟨by rw [← ha]; exact hc _ _ h0, by rw [← ha]; exact hc _ _ h1, by rw [← ha]; exact hc _ _ h2, by rw [← ha]; exact hc _ _ h3, by rw [← ha]; exact hc _ _ h4, by rw [← ha]; exact hc _ _ h5, by rw [← ha]; exact hc _ _ h6⟩
theorem RowNC.keep {w w' : World} {g n₀ : Nat} {l : List (Cor × Value)} (h : RowNC w g l) (hb : Below n₀ w w') (hg : g < n₀) : RowNC w' g l := fun k hk => by
  have hc : ∀ j, w'.cell? ⟨g, j, none⟩ = w.cell? ⟨g, j, none⟩ := fun j => hb.cell (p := ⟨g, j, none⟩) hg
  obtain ⟨h0, h1, h2, h3, h4, h5, h6⟩ := h k hk
  exact ⟨(hc _).trans h0, (hc _).trans h1, (hc _).trans h2, (hc _).trans h3, (hc _).trans h4, (hc _).trans h5, (hc _).trans h6⟩
/-- A tree: the cell at a block's place names the row of its nodes; both lie below n₀. -/
def IsTreeC (n₀ : Nat) (w : World) (tb : Nat) (N : List (Cor × Value)) : Prop :=
  ∃ ao g cap, w.cell? ⟨tb, 0, none⟩ = some (.slice ao N.length cap) ∧ tb < n₀ ∧ g < n₀ ∧ (N ≠ [] → ao = some ⟨g, 0, none⟩) ∧ RowNC w g N
theorem IsTreeC.below {n₀ : Nat} {w w' : World} {tb : Nat} {N : List (Cor × Value)} (h : IsTreeC n₀ w tb N) (hb : Below n₀ w w') : IsTreeC n₀ w' tb N := by
  obtain ⟨ao, g, cap, hc, ht, hg, ha, hr⟩ := h
  exact ⟨ao, g, cap, (hb.cell (p := ⟨tb, 0, none⟩) ht).trans hc, ht, hg, ha, hr.keep hb hg⟩
theorem IsTreeC.mono {n₀ n₁ : Nat} {w : World} {tb : Nat} {N : List (Cor × Value)} (h : IsTreeC n₀ w tb N) (hn : n₀ ≤ n₁) : IsTreeC n₁ w tb N := by
  obtain ⟨ao, g, cap, hc, ht, hg, ha, hr⟩ := h
  exact ⟨ao, g, cap, hc, by omega, by omega, ha, hr⟩
def parC (l : List (Cor × Value)) (k : Nat) : Int := (l[k]?.map (·.1.parent)).getD (-1)
theorem par_atC (l : List (Cor × Value)) (k : Nat) (h : k < l.length) : parC l k = l[k].1.parent := by simp [parC, h]
/-- Whose parts may be: each hangs on one ahead of it, or on nothing. -/
def ParsC (N : List (Cor × Value)) : Prop := ∀ (j : Nat) (h : j < N.length), N[j].1.parent < (j : Int) ∧ -1 ≤ N[j].1.parent
/-- A place and all that it hangs on. -/
def upFC (N : List (Cor × Value)) : Nat → Int → List Int
  | 0, _ => []
  | f + 1, a => if a < 0 then [] else a :: upFC N f (parC N a.toNat)
def upLC (N : List (Cor × Value)) (a : Int) : List Int := upFC N (a + 1).toNat a
theorem upF_negC (N : List (Cor × Value)) (f : Nat) (a : Int) (h : a < 0) : upFC N f a = [] := by cases f <;> simp [upFC, h]
theorem upF_fuelC {N : List (Cor × Value)} (hp : ParsC N) : ∀ (f g : Nat) (a : Int), a < N.length → a < f → a < g → upFC N f a = upFC N g a := by
  intro f
  induction f with
  | zero => intro g a _ h1 _; rw [upF_negC N _ a (by omega), upF_negC N _ a (by omega)]
  | succ f ih =>
    intro g a ha h1 h2
    by_cases h0 : a < 0
    · rw [upF_negC N _ a h0, upF_negC N _ a h0]
    · obtain ⟨k, rfl⟩ : ∃ k : Nat, a = (k : Int) := ⟨a.toNat, by omega⟩
      cases g with
      | zero => omega
      | succ g =>
        have hk : k < N.length := by omega
        have := hp k hk
        simp only [upFC, if_neg h0, Int.toNat_natCast, par_atC N k hk]
        rw [ih g _ (by omega) (by omega) (by omega)]
theorem upL_negC (N : List (Cor × Value)) : upLC N (-1) = [] := upF_negC N _ _ (by decide)
theorem upL_atC {N : List (Cor × Value)} (hp : ParsC N) (k : Nat) (hk : k < N.length) : upLC N (k : Int) = (k : Int) :: upLC N N[k].1.parent := by
  have h0 : ¬ ((k : Int) < 0) := by omega
  have := hp k hk
  unfold upLC
  rw [show ((k : Int) + 1).toNat = k + 1 by omega]
  simp only [upFC, if_neg h0, Int.toNat_natCast, par_atC N k hk]
  rw [upF_fuelC hp k (N[k].1.parent + 1).toNat _ (by omega) (by omega) (by omega)]
theorem upL_lenC {N : List (Cor × Value)} (hp : ParsC N) : ∀ (k : Nat) (a : Int), a < N.length → a < k → -1 ≤ a → (upLC N a).length ≤ k := by
  intro k
  induction k with
  | zero =>
    intro a _ h1 h2
    obtain rfl : a = -1 := (by omega)
    rw [upL_negC]; simp
  | succ k ih =>
    intro a ha h1 h2
    by_cases h0 : a < 0
    · obtain rfl : a = -1 := by omega
      rw [upL_negC]; simp
    · obtain ⟨j, rfl⟩ : ∃ k : Nat, a = (k : Int) := ⟨a.toNat, by omega⟩
      have := hp j (by omega)
      rw [upL_atC hp j (by omega)]
      have := ih N[j].1.parent (by omega) (by omega) (by omega)
      simp; omega
end Go.Proofs.YtfdkklhigliciaaGreatDoor
namespace Go.Proofs.YtfdkklhigliciaaGreatDoor
open Go.RowKit Go.Extern.Stop Go.Stop Go.Extern Num Go.Lib Go.Shelf
attribute [local go_sem] Oper.semAt_some

set_option maxRecDepth 100000 in
set_option maxHeartbeats 2000000 in
theorem up1_inC (F : Fence) (n : Nat) (hF : ∀ f, F.fn f) (hro : F.round = none) (hn : 1 ≤ n) (l ba bt n₀ lo hi tb : Nat) (N : List (Cor × Value)) (hp : ParsC N) (a : Int) (ha : -1 ≤ a) (ha2 : a < N.length) (J Jx : List Int → World → Prop)
    (hY : ∀ pre x W, J pre W → pre.length < (upLC N a).length → YieldAt F (n - 1) Tryz.prog l #[.int .i64 x] W fun e W' =>
      (e = .returned (.bool true) ∧ J (pre ++ [x]) W' ∧ Kpx n₀ lo hi W W') ∨ (e = .returned (.bool false) ∧ Jx (pre ++ [x]) W'))
    (W : World) (hBa : W.cell? ⟨ba, 0, none⟩ = some (.int .i64 a)) (hBt : W.cell? ⟨bt, 0, none⟩ = some (.pointer (some ⟨tb, 0, none⟩))) (hlo : lo ≤ bt) (hhi : bt < hi) (hT : IsTreeC n₀ W tb N) (h0 : J [] W) :
    CallsIn F n Tryz.prog 192 #[.func (.yield l) #[] #[], .pointer (some ⟨ba, 0, none⟩), .pointer (some ⟨bt, 0, none⟩)] W fun e W' => (∃ v, e = .returned v) ∧
      ((∃ ys, ys = upLC N a ∧ J ys W') ∨ (∃ pre, pre <+: upLC N a ∧ Jx pre W')) := by
  refine callsIn_of_wp Tryz.func192 rfl (hF _) ?_ hro
  simp only [Tryz.ntmps192, List.size_toArray, List.length_cons, List.length_nil, Nat.reduceAdd, Nat.reduceSub, Array.replicate_succ, Array.replicate_zero, List.push_toArray, List.append_toArray, List.nil_append, List.cons_append]
  gi_wp2
  gi_loopw [4] (fun i wr => ∃ (q : Int) (pre : List Int), i = .int .i64 q ∧ -1 ≤ q ∧ q < N.length ∧ upLC N a = pre ++ upLC N q ∧ J pre wr ∧ Kpx n₀ lo hi W wr)
    (fun i _ => (intOf i + 1).toNat)
  case atStart => exact ⟨a, [], rfl, ha, ha2, rfl, h0, kpx_refl _ _ _ _⟩
  case round =>
    obtain ⟨q, pre, rfl, hq1, hq2, hup, hJs, hnx⟩ := hrel
    by_cases hq : q = -1
    · subst hq
      gi_wp2
      go_end0
      exact ⟨⟨_, rfl⟩, .inl ⟨pre, by rw [hup, upL_negC]; simp, hJs⟩⟩
    · obtain ⟨k, rfl⟩ : ∃ k : Nat, q = (k : Int) := ⟨q.toNat, by omega⟩
      have hk : k < N.length := by omega
      have hne : ((k : Int) != -1) = true := by simp
      have e1 := upL_atC hp k hk
      have hpk := hp k hk
      obtain ⟨fn, tmps, assign, body, hy, hR⟩ := hY pre (k : Int) wr hJs (by rw [hup, e1]; simp)
      replace hup : upLC N a = (pre ++ [(k : Int)]) ++ upLC N N[k].1.parent := by rw [hup, e1]; simp
      clear e1
      gi_wp2
      refine hR.mono ?_
      rintro e W3 (⟨rfl, hJ3, hk3⟩ | ⟨rfl, hJx3⟩)
      · obtain ⟨ao, g, cap, hc, htb, hg, hao, hrow⟩ := (hT.below hnx.1).below hk3.1
        obtain rfl := hao (by intro h; rw [h] at hk; simp at hk)
        have hc3 : W3.cell? ⟨bt, 0, none⟩ = some (.pointer (some ⟨tb, 0, none⟩)) := ((kpx_t hnx hk3).cell hlo hhi).trans hBt
        have hr3 := (hrow k hk).1
        gi_wp2
        go_roundw
        case rel => exact ⟨N[k].1.parent, pre ++ [(k : Int)], rfl, hpk.2, by omega, hup, hJ3, kpx_t hnx hk3⟩
        case measure => simp [intOf]; omega
      · gi_wp2
        go_end0
        exact ⟨⟨_, rfl⟩, .inr ⟨pre ++ [(k : Int)], ⟨_, hup.symm⟩, hJx3⟩⟩
theorem up_inC (F : Fence) (n : Nat) (hF : ∀ f, F.fn f) (hro : F.round = none) (p : Option Addr) (a : Int) (w : World) :
    CallsIn F n Tryz.prog 177 #[.pointer p, .int .i64 a] w fun e w' => e = .returned (.func (.func 192) #[] #[.pointer (some ⟨w.heap.size + 1, 0, none⟩), .pointer (some ⟨w.heap.size, 0, none⟩)]) ∧
      w' = (w.alloc (.cells #[.pointer p] 108)).alloc (.cells #[.int .i64 a] 2) := by
  refine callsIn_of_wp Tryz.func177 rfl (hF _) ?_ hro
  simp only [Tryz.ntmps177, List.size_toArray, List.length_cons, List.length_nil, Nat.reduceAdd, Nat.reduceSub, Array.replicate_succ, Array.replicate_zero, List.push_toArray, List.append_toArray, List.nil_append, List.cons_append]
  gi_wp2
  go_ret
  exact ⟨rfl, rfl⟩
theorem up_stopsC (F : Fence) (n : Nat) (hF : ∀ f, F.fn f) (hro : F.round = none) (hn : 1 ≤ n) (ba bt n₀ lo hi tb : Nat) (N : List (Cor × Value)) (hp : ParsC N) (a : Int) (ha : -1 ≤ a) (ha2 : a < N.length) (w : World) (hn₀ : n₀ ≤ w.heap.size)
    (hBa : w.cell? ⟨ba, 0, none⟩ = some (.int .i64 a)) (hBt : w.cell? ⟨bt, 0, none⟩ = some (.pointer (some ⟨tb, 0, none⟩))) (hlo : lo ≤ bt) (hhi : bt < hi) (hhi2 : hi ≤ w.heap.size) (hba : ba < w.heap.size) (hT : IsTreeC n₀ w tb N) :
    SeqStopsK F n Tryz.prog 192 #[.pointer (some ⟨ba, 0, none⟩), .pointer (some ⟨bt, 0, none⟩)] (fun x : Int => #[Value.int .i64 x]) (Kpx n₀ lo hi) (fun ys => ys = upLC N a) (fun pre => pre <+: upLC N a) (upLC N a).length w := fun l J Jx W hW _ _ hY h0 =>
  up1_inC F n hF hro hn l ba bt n₀ lo hi tb N hp a ha ha2 J Jx hY W ((hW.cell (p := ⟨ba, 0, none⟩) hba).trans hBa) ((hW.cell (p := ⟨bt, 0, none⟩) (by show bt < _; omega)).trans hBt) hlo hhi (hT.below (hW.mono hn₀)) h0
theorem size_inC (F : Fence) (n : Nat) (hF : ∀ f, F.fn f) (hro : F.round = none) (n₀ tb : Nat) (N : List (Cor × Value)) (w : World) (hT : IsTreeC n₀ w tb N) :
    CallsIn F n Tryz.prog 54 #[.pointer (some ⟨tb, 0, none⟩)] w fun e w' => e = .returned (.int .i64 (N.length : Nat)) ∧ w' = w := by
  obtain ⟨ao, g, cap, hc, -⟩ := hT
  refine callsIn_of_wp Tryz.func54 rfl (hF _) ?_ hro
  simp only [Tryz.ntmps54, List.size_toArray, List.length_cons, List.length_nil, Nat.reduceAdd, Nat.reduceSub, Array.replicate_succ, Array.replicate_zero, List.push_toArray, List.append_toArray, List.nil_append, List.cons_append]
  gi_wp2
  go_ret
  exact ⟨rfl, rfl⟩
set_option maxRecDepth 100000 in
set_option maxHeartbeats 2000000 in
theorem isOpen_inC (F : Fence) (n : Nat) (hF : ∀ f, F.fn f) (hro : F.round = none) (hn : 3 ≤ n) (tb : Nat) (N : List (Cor × Value)) (hp : ParsC N) (hpos : 0 < N.length) (hl : N.length ≤ 1000000) (a : Int) (w : World) (hT : IsTreeC w.heap.size w tb N) :
    CallsIn F n Tryz.prog 159 #[.pointer (some ⟨tb, 0, none⟩), .int .i64 a] w fun e W' => e = .returned (.bool (decide (a ∈ upLC N ((N.length : Int) - 1)))) ∧ Below w.heap.size w W' := by
  have h1 : 1 ≤ n := by omega
  refine callsIn_of_wp_marks Tryz.func159 rfl (hF _) ?_ hro
  simp only [Tryz.ntmps159, List.size_toArray, List.length_cons, List.length_nil, Nat.reduceAdd, Nat.reduceSub, Array.replicate_succ, Array.replicate_zero, List.push_toArray, List.append_toArray, List.nil_append, List.cons_append]
  have hB1 : Below w.heap.size w ((w.alloc (.cells #[.int .i64 a] 2)).alloc (.cells #[.bool false] 4)) := ((Below.refl _ w).alloc (Nat.le_refl _) _).alloc (by simp) _
  have hT1 := hT.below hB1
  gi_wp2_with (first | (gi_at_call 54; refine (size_inC F (n - 1) hF hro _ _ _ _ hT1).mono ?_; rintro e w' ⟨rfl, rfl⟩) | (gi_at_call 177; refine (up_inC F (n - 1) hF hro _ _ _).mono ?_; rintro e w' ⟨rfl, rfl⟩))
  have c0 := Boxed.new w 2 (.int .i64 a)
  have c1 := Boxed.new (w.alloc (.cells #[.int .i64 a] 2)) 4 (.bool false)
  have c2 := Boxed.new ((w.alloc (.cells #[.int .i64 a] 2)).alloc (.cells #[.bool false] 4)) 108 (.pointer (some ⟨tb, 0, none⟩))
  have c3 := Boxed.new (((w.alloc (.cells #[.int .i64 a] 2)).alloc (.cells #[.bool false] 4)).alloc (.cells #[.pointer (some ⟨tb, 0, none⟩)] 108)) 2 (.int .i64 ((N.length : Int) - 1))
  simp only [World.size_alloc] at c1 c2 c3
  have hB0 : Below w.heap.size w ((((w.alloc (.cells #[.int .i64 a] 2)).alloc (.cells #[.bool false] 4)).alloc (.cells #[.pointer (some ⟨tb, 0, none⟩)] 108)).alloc (.cells #[.int .i64 ((N.length : Int) - 1)] 2)) := (hB1.alloc (by simp; omega) _).alloc (by simp; omega) _
  refine wpIn_rangeFunc_ownF hro h1 (gf := 192) (lb := #[.pointer (some ⟨w.heap.size + 1 + 1 + 1, 0, none⟩), .pointer (some ⟨w.heap.size + 1 + 1, 0, none⟩)]) rfl (hF _) (enters_of Tryz.func192 (by kernel_rfl) rfl)
    (up_stopsC F (n - 1) hF hro (by omega) (w.heap.size + 1 + 1 + 1) (w.heap.size + 1 + 1) w.heap.size (w.heap.size + 1 + 1) (w.heap.size + 1 + 1 + 1 + 1) tb N hp ((N.length : Int) - 1) (by omega) (by omega) _ (by simp; omega) c3.cell (c2.alloc _).cell (Nat.le_refl _) (by omega) (by simp) (by simp) (hT.below hB0)) kpx_t (kpx_b (by simp; omega) (by simp)) (Below.refl _ _) (fun _ => rfl)
    (fun pre W => ((∀ y ∈ pre, y ≠ a) ∧ Boxed W w.heap.size 2 (.int .i64 a) ∧ Boxed W (w.heap.size + 1) 4 (.bool false)) ∧ Below w.heap.size w W)
    (fun c pre W => (c = .ret ∧ a ∈ pre ∧ Boxed W (w.heap.size + 1) 4 (.bool true)) ∧ Below w.heap.size w W)
    (OwnFrom.and (OwnFrom.and (ownFrom_pure _ _) (OwnFrom.and (Own.from (boxed_own _ _ _) _) (Own.from (boxed_own _ _ _) _))) (ownFrom_below (Nat.le_refl _) (by simp; omega)))
    (fun c => OwnFrom.and (OwnFrom.and (ownFrom_pure _ _) (OwnFrom.and (ownFrom_pure _ _) (Own.from (boxed_own _ _ _) _))) (ownFrom_below (Nat.le_refl _) (by simp; omega)))
    ⟨⟨by simp, ((c0.alloc _).alloc _).alloc _, (c1.alloc _).alloc _⟩, hB0⟩
    (fun x => { tmps := #[.pointer (some ⟨tb, 0, none⟩), .int .i64 a, undef, .pointer (some ⟨w.heap.size, 0, none⟩), .pointer (some ⟨w.heap.size + 1, 0, none⟩), .int .i64 x, .pointer (some ⟨tb, 0, none⟩), .pointer (some ⟨tb, 0, none⟩), .int .i64 (N.length : Nat), .int .i64 ((N.length : Int) - 1), .func (.func 192) #[] #[.pointer (some ⟨w.heap.size + 1 + 1 + 1, 0, none⟩), .pointer (some ⟨w.heap.size + 1 + 1, 0, none⟩)], .int .i64 x, undef, undef, undef], defers := [] }) ?assign ?body ?done ?stop
  case assign =>
    intro l x W K hK
    gi_wp2
    exact hK
  case body =>
    rintro l pre x W ⟨⟨hne, hb, hr⟩, hB⟩ hlt
    have hc := hb.cell
    have hc2 := hr.cell
    have hf := hr.frozen
    gi_wp2
    · rename_i hx
      obtain rfl : x = a := eq_of_beq hx
      exact ⟨KeepsOthers.setCell _ _ _, ⟨rfl, List.mem_append.2 (.inr (by simp)), hr.set _⟩, hB.setCell (p := ⟨w.heap.size + 1, 0, none⟩) (by simp) _⟩
    · rename_i hx
      exact ⟨KeepsOthers.refl _, kpx_refl _ _ _ _, ⟨fun y hy => (List.mem_append.1 hy).elim (hne y) (fun e e' => by simp at e; subst e; subst e'; simp at hx), hb, hr⟩, hB⟩
  case done =>
    rintro D ys W hD rfl ⟨⟨hne, _, hr⟩, hB⟩ hK
    have hc2 := hr.cell
    have hf := hr.frozen
    gi_wp2
    have hK' := (KeepsOthers.setCell W ⟨w.heap.size + 1, 0, none⟩ (.bool false)).same D _ hK rfl
    refine ⟨by simp, .inl ⟨_, _, rfl, run_takeDeferred hK', ?_⟩⟩
    have hc5 := cell_kept (hr.set (.bool false)).cell (grownBy_putObj' _ D (.deferred none)) (fun r e => by cases e; exact ⟨_, hK', rfl⟩)
    refine ⟨.bool false, ?_, by rw [decide_eq_false (fun h => hne a h rfl)], (hB.setCell (p := ⟨w.heap.size + 1, 0, none⟩) (by simp) _).trans (belowK_b (w := w) (Nat.le_refl _) _ D _ _ (by simp at hD; omega) hK' rfl rfl)⟩
    simp [results, Tryz.f159, go_sem, hc5]
  case stop =>
    rintro D c pre W hD hpre ⟨⟨rfl, hin, hr⟩, hB⟩ hK
    gi_wp2
    refine ⟨by simp, .inl ⟨_, _, rfl, run_takeDeferred hK, ?_⟩⟩
    have hc5 := cell_kept hr.cell (grownBy_putObj' _ D (.deferred none)) (fun r e => by cases e; exact ⟨_, hK, rfl⟩)
    refine ⟨.bool true, ?_, by rw [decide_eq_true (hpre.subset hin)], hB.trans (belowK_b (w := w) (Nat.le_refl _) W D _ _ (by simp at hD; omega) hK rfl rfl)⟩
    simp [results, Tryz.f159, go_sem, hc5]
end Go.Proofs.YtfdkklhigliciaaGreatDoor
/-
  The program's parentFault: what is wrong with the place on which a new node would hang; nothing that was there is turned.
-/
namespace Go.Proofs.YtfdkklhigliciaaGreatDoor
open Go.RowKit Go.Extern.Stop Go.Stop Go.Extern Num Go.Lib Go.Shelf

/-- What is wrong with the place on which a new node would hang. -/
def pfD (N : List Dat) (p : Int) : Int :=
  if N.length = 0 ∧ p = -1 then 0 else if p < 0 ∨ (N.length : Int) ≤ p then 3
  else if ¬ ((N[p.toNat]?.map (·.kind)).getD 0 = 1) ∨ ¬ p ∈ upL N ((N.length : Int) - 1) then 1 else if 12 ≤ (upL N p).length then 2 else 0
/-- The same of the place alone: whether a node can hang there. -/
def lfD (N : List Dat) (p : Int) : Int :=
  if N.length = 0 ∧ p = -1 then 0 else if p < 0 ∨ (N.length : Int) ≤ p then 3 else if ¬ p ∈ upL N ((N.length : Int) - 1) then 1 else 0
theorem size_any (n₀ tb : Nat) (N : List Dat) (w : World) (hT : IsTree n₀ w tb N) :
    Calls Tryz.prog 74 #[.pointer (some ⟨tb, 0, none⟩)] w fun e w' => e = .returned (.int .i64 (N.length : Nat)) ∧ w' = w := (callsIn_wide (n := 3)).1 (size_in Fence.wide 3 (fun _ => trivial) rfl n₀ tb N w hT)
theorem isOpen_any (tb : Nat) (N : List Dat) (hp : Pars N) (hpos : 0 < N.length) (hl : N.length ≤ 1000000) (a : Int) (w : World) (hT : IsTree w.heap.size w tb N) :
    Calls Tryz.prog 104 #[.pointer (some ⟨tb, 0, none⟩), .int .i64 a] w fun e W' => e = .returned (.bool (decide (a ∈ upL N ((N.length : Int) - 1)))) ∧ Below w.heap.size w W' := (callsIn_wide (n := 3)).1 (isOpen_in Fence.wide 3 (fun _ => trivial) rfl (by omega) tb N hp hpos hl a w hT)
theorem depth_any (tb : Nat) (N : List Dat) (hp : Pars N) (hl : N.length ≤ 1000000) (a : Int) (ha : -1 ≤ a) (ha2 : a < N.length) (w : World) (hT : IsTree w.heap.size w tb N) :
    Calls Tryz.prog 73 #[.pointer (some ⟨tb, 0, none⟩), .int .i64 a] w fun e W' => e = .returned (.int .i64 (upL N a).length) ∧ Below w.heap.size w W' := (callsIn_wide (n := 3)).1 (depth_in Fence.wide 3 (fun _ => trivial) rfl (by omega) tb N hp hl a ha ha2 w hT)
theorem lf_empty (tb : Nat) (p : Int) (w : World) (hT : IsTree w.heap.size w tb []) :
    Calls Tryz.prog 72 #[.pointer (some ⟨tb, 0, none⟩), .int .i64 p] w fun e w' => e = .returned (.int .i64 (if p = -1 then 0 else 3)) ∧ w' = w := by
  have HT : Hid (IsTree w.heap.size w tb []) := hT
  clear hT
  by_cases h : p = -1
  · subst h
    go_enter Tryz.func72, Tryz.ntmps72
    go_wp2_with (go_at_call 74; refine (size_any _ _ _ _ HT.out).mono ?_; rintro e w' ⟨rfl, rfl⟩)
    go_ret
    exact ⟨rfl, rfl⟩
  · have h1 : (p == -1) = false := by simpa using h
    have e0 : (if p = -1 then (0 : Int) else 3) = 3 := if_neg h
    rw [e0]
    by_cases h2 : p < 0
    · go_enter Tryz.func72, Tryz.ntmps72
      go_wp2_with (go_at_call 74; refine (size_any _ _ _ _ HT.out).mono ?_; rintro e w' ⟨rfl, rfl⟩)
      go_ret
      exact ⟨rfl, rfl⟩
    · have h3 : 0 ≤ p := by omega
      go_enter Tryz.func72, Tryz.ntmps72
      go_wp2_with (go_at_call 74; refine (size_any _ _ _ _ HT.out).mono ?_; rintro e w' ⟨rfl, rfl⟩)
      go_ret
      exact ⟨rfl, rfl⟩
theorem lf_range (tb : Nat) (N : List Dat) (p : Int) (w : World) (hT : IsTree w.heap.size w tb N) (hN : 0 < N.length) (hp : p < 0 ∨ (N.length : Int) ≤ p) :
    Calls Tryz.prog 72 #[.pointer (some ⟨tb, 0, none⟩), .int .i64 p] w fun e w' => e = .returned (.int .i64 3) ∧ w' = w := by
  have HT : Hid (IsTree w.heap.size w tb N) := hT
  clear hT
  have h0 : ((N.length : Int) == 0) = false := beq_false_of_ne (by omega)
  rcases hp with h | h
  · go_enter Tryz.func72, Tryz.ntmps72
    go_wp2_with (go_at_call 74; refine (size_any _ _ _ _ HT.out).mono ?_; rintro e w' ⟨rfl, rfl⟩)
    go_ret
    exact ⟨rfl, rfl⟩
  · have h3 : 0 ≤ p := by omega
    go_enter Tryz.func72, Tryz.ntmps72
    go_wp2_with (go_at_call 74; refine (size_any _ _ _ _ HT.out).mono ?_; rintro e w' ⟨rfl, rfl⟩)
    go_ret
    exact ⟨rfl, rfl⟩
theorem lf_in (tb : Nat) (N : List Dat) (hp : Pars N) (hl : N.length ≤ 1000000) (k : Nat) (hk : k < N.length) (w : World) (hT : IsTree w.heap.size w tb N) :
    Calls Tryz.prog 72 #[.pointer (some ⟨tb, 0, none⟩), .int .i64 (k : Int)] w fun e w' => e = .returned (.int .i64 (if ¬ (k : Int) ∈ upL N ((N.length : Int) - 1) then 1 else 0)) ∧ Below w.heap.size w w' := by
  have HT : Hid (IsTree w.heap.size w tb N) := hT
  have HO : Hid (∀ u, IsTree u.heap.size u tb N → Calls Tryz.prog 104 #[.pointer (some ⟨tb, 0, none⟩), .int .i64 (k : Int)] u fun e W' => e = .returned (.bool (decide ((k : Int) ∈ upL N ((N.length : Int) - 1)))) ∧ Below u.heap.size u W') := fun u hu => isOpen_any tb N hp (by omega) hl _ u hu
  clear hT hp
  obtain ⟨op, hop⟩ : ∃ op, op = decide ((k : Int) ∈ upL N ((N.length : Int) - 1)) := ⟨_, rfl⟩
  rw [← hop] at HO
  have h0 : ((N.length : Int) == 0) = false := beq_false_of_ne (by omega)
  have h1 : (0 : Int) ≤ (k : Int) := by omega
  have h2 : (k : Int) < (N.length : Int) := by omega
  cases op with
  | false =>
    rw [if_pos (by simpa using hop.symm)]
    clear hop
    go_enter Tryz.func72, Tryz.ntmps72
    go_wp2_with (first | (go_at_call 74; refine (size_any _ _ _ _ HT.out).mono ?_; rintro e w' ⟨rfl, rfl⟩) | (go_at_call 104; refine (HO.out _ HT.out).mono ?_; rintro e w1 ⟨rfl, b1⟩))
    go_ret
    exact ⟨rfl, b1⟩
  | true =>
    rw [if_neg (by simp; simpa using hop.symm)]
    clear hop
    go_enter Tryz.func72, Tryz.ntmps72
    go_wp2_with (first | (go_at_call 74; refine (size_any _ _ _ _ HT.out).mono ?_; rintro e w' ⟨rfl, rfl⟩) | (go_at_call 104; refine (HO.out _ HT.out).mono ?_; rintro e w1 ⟨rfl, b1⟩))
    go_ret
    exact ⟨rfl, b1⟩
theorem lf_any (tb : Nat) (N : List Dat) (hp : Pars N) (hl : N.length ≤ 1000000) (p : Int) (w : World) (hT : IsTree w.heap.size w tb N) :
    Calls Tryz.prog 72 #[.pointer (some ⟨tb, 0, none⟩), .int .i64 p] w fun e w' => e = .returned (.int .i64 (lfD N p)) ∧ Below w.heap.size w w' := by
  by_cases h0 : N.length = 0
  · obtain rfl := List.eq_nil_of_length_eq_zero h0
    refine (lf_empty tb p w hT).mono ?_
    rintro e w' ⟨rfl, rfl⟩
    refine ⟨?_, Below.refl _ _⟩
    unfold lfD
    by_cases h : p = -1
    · simp [h]
    · rw [if_neg h, if_neg (fun h' => h h'.2), if_pos (by simp; omega)]
  · by_cases h : p < 0 ∨ (N.length : Int) ≤ p
    · refine (lf_range tb N p w hT (by omega) h).mono ?_
      rintro e w' ⟨rfl, rfl⟩
      refine ⟨?_, Below.refl _ _⟩
      unfold lfD
      rw [if_neg (fun h' => h0 h'.1), if_pos h]
    · obtain ⟨k, rfl⟩ : ∃ k : Nat, p = (k : Int) := ⟨p.toNat, by omega⟩
      have hk : k < N.length := by omega
      refine (lf_in tb N hp hl k hk w hT).mono ?_
      rintro e w' ⟨rfl, b⟩
      refine ⟨?_, b⟩
      have e : lfD N (k : Int) = if ¬ (k : Int) ∈ upL N ((N.length : Int) - 1) then 1 else 0 := by
        unfold lfD
        rw [if_neg (fun h' : N.length = 0 ∧ _ => h0 h'.1), if_neg h]
      rw [e]
theorem pf_wrong (tb : Nat) (p c : Int) (hc : c ≠ 0 ∨ p = -1) (w : World) (H : Calls Tryz.prog 72 #[.pointer (some ⟨tb, 0, none⟩), .int .i64 p] w fun e w' => e = .returned (.int .i64 c) ∧ Below w.heap.size w w') :
    Calls Tryz.prog 49 #[.pointer (some ⟨tb, 0, none⟩), .int .i64 p] w fun e w' => e = .returned (.int .i64 c) ∧ Below w.heap.size w w' := by
  have HL : Hid (Calls Tryz.prog 72 #[.pointer (some ⟨tb, 0, none⟩), .int .i64 p] w fun e w' => e = .returned (.int .i64 c) ∧ Below w.heap.size w w') := H
  clear H
  by_cases h : c = 0
  · obtain rfl : p = -1 := hc.resolve_left (fun h' => h' h)
    subst h
    go_enter Tryz.func49, Tryz.ntmps49
    go_wp2_with (go_at_call 72; refine HL.out.mono ?_; rintro e w1 ⟨rfl, b1⟩)
    go_ret
    exact ⟨rfl, b1⟩
  · have h4 : (c != 0) = true := by simpa using h
    clear hc h
    go_enter Tryz.func49, Tryz.ntmps49
    go_wp2_with (go_at_call 72; refine HL.out.mono ?_; rintro e w1 ⟨rfl, b1⟩)
    go_ret
    exact ⟨rfl, b1⟩
set_option maxHeartbeats 1000000 in
theorem pf_in (tb : Nat) (N : List Dat) (hp : Pars N) (hl : N.length ≤ 1000000) (k : Nat) (hk : k < N.length) (w : World) (hT : IsTree w.heap.size w tb N) (hop : lfD N (k : Int) = 0) :
    Calls Tryz.prog 49 #[.pointer (some ⟨tb, 0, none⟩), .int .i64 (k : Int)] w fun e w' => e = .returned (.int .i64 (if ¬ (N[k].kind = 1) then 1 else if 12 ≤ (upL N (k : Int)).length then 2 else 0)) ∧ Below w.heap.size w w' := by
  have HT : Hid (IsTree w.heap.size w tb N) := hT
  have hL := lf_any tb N hp hl (k : Int) w hT
  rw [hop] at hL
  have HL : Hid (Calls Tryz.prog 72 #[.pointer (some ⟨tb, 0, none⟩), .int .i64 (k : Int)] w fun e w' => e = .returned (.int .i64 0) ∧ Below w.heap.size w w') := hL
  have HD : Hid (∀ u, IsTree u.heap.size u tb N → Calls Tryz.prog 73 #[.pointer (some ⟨tb, 0, none⟩), .int .i64 (k : Int)] u fun e W' => e = .returned (.int .i64 (upL N (k : Int)).length) ∧ Below u.heap.size u W') := fun u hu => depth_any tb N hp hl _ (by omega) (by omega) u hu
  obtain ⟨ao, g, cap, hc, htb, hg, hao, hrow⟩ := hT
  obtain rfl := hao (by intro h; rw [h] at hk; simp at hk)
  have hr := (hrow k hk).2.1
  clear hrow hao hp hL hop
  obtain ⟨kd, hkd⟩ : ∃ kd, kd = N[k].kind := ⟨_, rfl⟩
  rw [← hkd] at hr ⊢
  clear hkd
  obtain ⟨dl, hdl⟩ : ∃ dl, dl = (upL N (k : Int)).length := ⟨_, rfl⟩
  rw [← hdl] at HD ⊢
  clear hdl
  have h0 : ((N.length : Int) == 0) = false := beq_false_of_ne (by omega)
  have h1 : (0 : Int) ≤ (k : Int) := by omega
  have h2 : (k : Int) < (N.length : Int) := by omega
  have h3 : ((k : Int) == -1) = false := beq_false_of_ne (by omega)
  have HC : Hid (w.cell? ⟨tb, 0, none⟩ = some (.slice (some ⟨g, 0, none⟩) N.length cap) ∧ w.cell? ⟨g, k * 4 + 1, none⟩ = some (.int .i64 kd)) := ⟨hc, hr⟩
  clear hc hr
  by_cases h4 : kd = 1
  · subst h4
    rw [if_neg (by simp)]
    by_cases h5 : 12 ≤ dl
    · rw [if_pos h5]
      have h6 : (12 : Int) ≤ (dl : Int) := by omega
      go_enter Tryz.func49, Tryz.ntmps49
      go_wp2_with (first | (go_at_call 72; refine HL.out.mono ?_; rintro e w1 ⟨rfl, b1⟩; have hc := (b1.cell (p := ⟨tb, 0, none⟩) htb).trans HC.out.1; have hr := (b1.cell (p := ⟨g, k * 4 + 1, none⟩) hg).trans HC.out.2) | (go_at_call 73; refine (HD.out _ ((HT.out.below b1).mono b1.size)).mono ?_; rintro e w2 ⟨rfl, b2⟩))
      go_ret
      exact ⟨rfl, b1.trans (b2.mono b1.size)⟩
    · rw [if_neg h5]
      have h6 : (dl : Int) < 12 := by omega
      go_enter Tryz.func49, Tryz.ntmps49
      go_wp2_with (first | (go_at_call 72; refine HL.out.mono ?_; rintro e w1 ⟨rfl, b1⟩; have hc := (b1.cell (p := ⟨tb, 0, none⟩) htb).trans HC.out.1; have hr := (b1.cell (p := ⟨g, k * 4 + 1, none⟩) hg).trans HC.out.2) | (go_at_call 73; refine (HD.out _ ((HT.out.below b1).mono b1.size)).mono ?_; rintro e w2 ⟨rfl, b2⟩))
      go_ret
      exact ⟨rfl, b1.trans (b2.mono b1.size)⟩
  · rw [if_pos h4]
    have h6 : (kd != 1) = true := by simpa using h4
    go_enter Tryz.func49, Tryz.ntmps49
    go_wp2_with ((go_at_call 72; refine HL.out.mono ?_; rintro e w1 ⟨rfl, b1⟩; have hc := (b1.cell (p := ⟨tb, 0, none⟩) htb).trans HC.out.1; have hr := (b1.cell (p := ⟨g, k * 4 + 1, none⟩) hg).trans HC.out.2))
    go_ret
    exact ⟨rfl, b1⟩
theorem pf_any (tb : Nat) (N : List Dat) (hp : Pars N) (hl : N.length ≤ 1000000) (p : Int) (w : World) (hT : IsTree w.heap.size w tb N) :
    Calls Tryz.prog 49 #[.pointer (some ⟨tb, 0, none⟩), .int .i64 p] w fun e w' => e = .returned (.int .i64 (pfD N p)) ∧ Below w.heap.size w w' := by
  by_cases h : lfD N p ≠ 0 ∨ p = -1
  · refine (pf_wrong tb p (lfD N p) h w (lf_any tb N hp hl p w hT)).mono ?_
    rintro e w' ⟨rfl, b⟩
    refine ⟨?_, b⟩
    have e : pfD N p = lfD N p := by
      unfold lfD at h
      unfold pfD lfD
      by_cases h1 : N.length = 0 ∧ p = -1
      · rw [if_pos h1, if_pos h1]
      · rw [if_neg h1] at h ⊢
        rw [if_neg h1]
        by_cases h2 : p < 0 ∨ (N.length : Int) ≤ p
        · rw [if_pos h2, if_pos h2]
        · rw [if_neg h2] at h ⊢
          rw [if_neg h2]
          by_cases h3 : p ∈ upL N ((N.length : Int) - 1)
          · rw [if_neg (by simp [h3])] at h
            exact absurd h (by simp; omega)
          · rw [if_pos (.inr h3), if_pos h3]
    rw [e]
  · have h1 : lfD N p = 0 := Classical.byContradiction fun h' => h (.inl h')
    have h2 : p ≠ -1 := fun h' => h (.inr h')
    unfold lfD at h1
    rw [if_neg (fun h' => h2 h'.2)] at h1
    by_cases h3 : p < 0 ∨ (N.length : Int) ≤ p
    · rw [if_pos h3] at h1; simp at h1
    rw [if_neg h3] at h1
    by_cases h4 : p ∈ upL N ((N.length : Int) - 1)
    · obtain ⟨k, rfl⟩ : ∃ k : Nat, p = (k : Int) := ⟨p.toNat, by omega⟩
      have hk : k < N.length := by omega
      refine (pf_in tb N hp hl k hk w hT (Classical.byContradiction fun h' => h (.inl h'))).mono ?_
      rintro e w' ⟨rfl, b⟩
      refine ⟨?_, b⟩
      have e : pfD N (k : Int) = if ¬ (N[k].kind = 1) then 1 else if 12 ≤ (upL N (k : Int)).length then 2 else 0 := by
        unfold pfD
        rw [if_neg (fun h' => h2 h'.2), if_neg h3]
        simp [hk, h4]
      rw [e]
    · rw [if_pos h4] at h1; simp at h1
end Go.Proofs.YtfdkklhigliciaaGreatDoor
/-
  The program's linkFault at a tree of cores: whether the next one can hang on a place; nothing that was there is turned.
-/
namespace Go.Proofs.YtfdkklhigliciaaGreatDoor
open Go.RowKit Go.Extern.Stop Go.Stop Go.Extern Num Go.Lib Go.Shelf

def lfDC (N : List (Cor × Value)) (p : Int) : Int :=
  if N.length = 0 ∧ p = -1 then 0 else if p < 0 ∨ (N.length : Int) ≤ p then 3 else if ¬ p ∈ upLC N ((N.length : Int) - 1) then 1 else 0
theorem size_anyC (n₀ tb : Nat) (N : List (Cor × Value)) (w : World) (hT : IsTreeC n₀ w tb N) :
    Calls Tryz.prog 54 #[.pointer (some ⟨tb, 0, none⟩)] w fun e w' => e = .returned (.int .i64 (N.length : Nat)) ∧ w' = w := (callsIn_wide (n := 3)).1 (size_inC Fence.wide 3 (fun _ => trivial) rfl n₀ tb N w hT)
theorem isOpen_anyC (tb : Nat) (N : List (Cor × Value)) (hp : ParsC N) (hpos : 0 < N.length) (hl : N.length ≤ 1000000) (a : Int) (w : World) (hT : IsTreeC w.heap.size w tb N) :
    Calls Tryz.prog 159 #[.pointer (some ⟨tb, 0, none⟩), .int .i64 a] w fun e W' => e = .returned (.bool (decide (a ∈ upLC N ((N.length : Int) - 1)))) ∧ Below w.heap.size w W' := (callsIn_wide (n := 3)).1 (isOpen_inC Fence.wide 3 (fun _ => trivial) rfl (by omega) tb N hp hpos hl a w hT)
theorem lf_emptyC (tb : Nat) (p : Int) (w : World) (hT : IsTreeC w.heap.size w tb []) :
    Calls Tryz.prog 126 #[.pointer (some ⟨tb, 0, none⟩), .int .i64 p] w fun e w' => e = .returned (.int .i64 (if p = -1 then 0 else 3)) ∧ w' = w := by
  have HT : Hid (IsTreeC w.heap.size w tb []) := hT
  clear hT
  by_cases h : p = -1
  · subst h
    go_enter Tryz.func126, Tryz.ntmps126
    go_wp2_with (go_at_call 54; refine (size_anyC _ _ _ _ HT.out).mono ?_; rintro e w' ⟨rfl, rfl⟩)
    go_ret
    exact ⟨rfl, rfl⟩
  · have h1 : (p == -1) = false := by simpa using h
    have e0 : (if p = -1 then (0 : Int) else 3) = 3 := if_neg h
    rw [e0]
    by_cases h2 : p < 0
    · go_enter Tryz.func126, Tryz.ntmps126
      go_wp2_with (go_at_call 54; refine (size_anyC _ _ _ _ HT.out).mono ?_; rintro e w' ⟨rfl, rfl⟩)
      go_ret
      exact ⟨rfl, rfl⟩
    · have h3 : 0 ≤ p := by omega
      go_enter Tryz.func126, Tryz.ntmps126
      go_wp2_with (go_at_call 54; refine (size_anyC _ _ _ _ HT.out).mono ?_; rintro e w' ⟨rfl, rfl⟩)
      go_ret
      exact ⟨rfl, rfl⟩
theorem lf_rangeC (tb : Nat) (N : List (Cor × Value)) (p : Int) (w : World) (hT : IsTreeC w.heap.size w tb N) (hN : 0 < N.length) (hp : p < 0 ∨ (N.length : Int) ≤ p) :
    Calls Tryz.prog 126 #[.pointer (some ⟨tb, 0, none⟩), .int .i64 p] w fun e w' => e = .returned (.int .i64 3) ∧ w' = w := by
  have HT : Hid (IsTreeC w.heap.size w tb N) := hT
  clear hT
  have h0 : ((N.length : Int) == 0) = false := beq_false_of_ne (by omega)
  rcases hp with h | h
  · go_enter Tryz.func126, Tryz.ntmps126
    go_wp2_with (go_at_call 54; refine (size_anyC _ _ _ _ HT.out).mono ?_; rintro e w' ⟨rfl, rfl⟩)
    go_ret
    exact ⟨rfl, rfl⟩
  · have h3 : 0 ≤ p := by omega
    go_enter Tryz.func126, Tryz.ntmps126
    go_wp2_with (go_at_call 54; refine (size_anyC _ _ _ _ HT.out).mono ?_; rintro e w' ⟨rfl, rfl⟩)
    go_ret
    exact ⟨rfl, rfl⟩
theorem lf_inC (tb : Nat) (N : List (Cor × Value)) (hp : ParsC N) (hl : N.length ≤ 1000000) (k : Nat) (hk : k < N.length) (w : World) (hT : IsTreeC w.heap.size w tb N) :
    Calls Tryz.prog 126 #[.pointer (some ⟨tb, 0, none⟩), .int .i64 (k : Int)] w fun e w' => e = .returned (.int .i64 (if ¬ (k : Int) ∈ upLC N ((N.length : Int) - 1) then 1 else 0)) ∧ Below w.heap.size w w' := by
  have HT : Hid (IsTreeC w.heap.size w tb N) := hT
  have HO : Hid (∀ u, IsTreeC u.heap.size u tb N → Calls Tryz.prog 159 #[.pointer (some ⟨tb, 0, none⟩), .int .i64 (k : Int)] u fun e W' => e = .returned (.bool (decide ((k : Int) ∈ upLC N ((N.length : Int) - 1)))) ∧ Below u.heap.size u W') := fun u hu => isOpen_anyC tb N hp (by omega) hl _ u hu
  clear hT hp
  obtain ⟨op, hop⟩ : ∃ op, op = decide ((k : Int) ∈ upLC N ((N.length : Int) - 1)) := ⟨_, rfl⟩
  rw [← hop] at HO
  have h0 : ((N.length : Int) == 0) = false := beq_false_of_ne (by omega)
  have h1 : (0 : Int) ≤ (k : Int) := by omega
  have h2 : (k : Int) < (N.length : Int) := by omega
  cases op with
  | false =>
    rw [if_pos (by simpa using hop.symm)]
    clear hop
    go_enter Tryz.func126, Tryz.ntmps126
    go_wp2_with (first | (go_at_call 54; refine (size_anyC _ _ _ _ HT.out).mono ?_; rintro e w' ⟨rfl, rfl⟩) | (go_at_call 159; refine (HO.out _ HT.out).mono ?_; rintro e w1 ⟨rfl, b1⟩))
    go_ret
    exact ⟨rfl, b1⟩
  | true =>
    rw [if_neg (by simp; simpa using hop.symm)]
    clear hop
    go_enter Tryz.func126, Tryz.ntmps126
    go_wp2_with (first | (go_at_call 54; refine (size_anyC _ _ _ _ HT.out).mono ?_; rintro e w' ⟨rfl, rfl⟩) | (go_at_call 159; refine (HO.out _ HT.out).mono ?_; rintro e w1 ⟨rfl, b1⟩))
    go_ret
    exact ⟨rfl, b1⟩
theorem lf_anyC (tb : Nat) (N : List (Cor × Value)) (hp : ParsC N) (hl : N.length ≤ 1000000) (p : Int) (w : World) (hT : IsTreeC w.heap.size w tb N) :
    Calls Tryz.prog 126 #[.pointer (some ⟨tb, 0, none⟩), .int .i64 p] w fun e w' => e = .returned (.int .i64 (lfDC N p)) ∧ Below w.heap.size w w' := by
  by_cases h0 : N.length = 0
  · obtain rfl := List.eq_nil_of_length_eq_zero h0
    refine (lf_emptyC tb p w hT).mono ?_
    rintro e w' ⟨rfl, rfl⟩
    refine ⟨?_, Below.refl _ _⟩
    unfold lfDC
    by_cases h : p = -1
    · simp [h]
    · rw [if_neg h, if_neg (fun h' => h h'.2), if_pos (by simp; omega)]
  · by_cases h : p < 0 ∨ (N.length : Int) ≤ p
    · refine (lf_rangeC tb N p w hT (by omega) h).mono ?_
      rintro e w' ⟨rfl, rfl⟩
      refine ⟨?_, Below.refl _ _⟩
      unfold lfDC
      rw [if_neg (fun h' => h0 h'.1), if_pos h]
    · obtain ⟨k, rfl⟩ : ∃ k : Nat, p = (k : Int) := ⟨p.toNat, by omega⟩
      have hk : k < N.length := by omega
      refine (lf_inC tb N hp hl k hk w hT).mono ?_
      rintro e w' ⟨rfl, b⟩
      refine ⟨?_, b⟩
      have e : lfDC N (k : Int) = if ¬ (k : Int) ∈ upLC N ((N.length : Int) - 1) then 1 else 0 := by
        unfold lfDC
        rw [if_neg (fun h' : N.length = 0 ∧ _ => h0 h'.1), if_neg h]
      rw [e]
end Go.Proofs.YtfdkklhigliciaaGreatDoor
