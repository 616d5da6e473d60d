/-
  The program's below, and what a range over it comes to.
-/
import Derived.Test.YtkdhmijebkhmaaaGreatDoorCtG
import Derived.Test.YtkdhmijebkhmaaaGreatDoorCtF
import Derived.Test.YtkdhmijebkhmaaaGreatDoorClone
import Derived.Deep.AppendLies
namespace Go.Proofs.YtkdhmijebkhmaaaGreatDoor
open Go.RowKit Go.Extern.Stop Go.Stop Go.Extern Num Go.Lib Go.Shelf
attribute [local go_sem] Oper.semAt_some

theorem below_in (F : Fence) (n : Nat) (hF : ∀ f, F.fn f) (hro : F.round = none) (p : Option Addr) (a : Int) (w : World) :
    CallsIn F n Tryz.prog 157 #[.pointer p, .int .i64 a] w fun e w' => e = .returned (.func (.func 162) #[] #[.pointer (some ⟨w.heap.size + 1, 0, none⟩), .pointer (some ⟨w.heap.size, 0, none⟩)]) ∧
      w' = (w.alloc (.cells #[.pointer p] 148)).alloc (.cells #[.int .i64 a] 2) := by
  refine callsIn_of_wp Tryz.func157 rfl (hF _) ?_ hro
  simp only [Tryz.ntmps157, List.size_toArray, List.length_cons, List.length_nil, Nat.reduceAdd, Nat.reduceSub, Array.replicate_succ, Array.replicate_zero, List.push_toArray, List.append_toArray, List.nil_append, List.cons_append]
  gi_wp2
  go_ret
  exact ⟨rfl, rfl⟩
/-- What is told of a node: a place and a node with a name that is no longer than a text may be, on a place that there is. -/
def PdN (x : Int × Dat) : Prop := x.2.name.size ≤ 1048576 ∧ -1 ≤ x.2.parent ∧ x.2.parent < 1000
abbrev Told := { x : Int × Dat // PdN x }
theorem map_last {pre : List (Int × Dat)} {x : Int × Dat} {P : List Told} {y : Told} (h : P.map Subtype.val = pre) (hy : y.1 = x) : (P ++ [y]).map Subtype.val = pre ++ [x] := by rw [List.map_append, h, ← hy]; rfl
theorem told_lt {N : List Dat} {a m : Nat} {P : List Told} {x : Told} (h : (P ++ [x]).map Subtype.val <+: tellN N a m) (hm : a + m ≤ N.length) : P.length < m := by
  have h1 := h.length_le
  rw [tellN_len N a m hm] at h1
  simp at h1
  omega
theorem below_seq (F : Fence) (n : Nat) (hF : ∀ f, F.fn f) (hro : F.round = none) (hn : 2 ≤ n) (ba bt n₀ lo hi tb B : Nat) (N : List Dat) (a e : Nat) (hE : EndAt N a e) (hN : N.length ≤ 1000) (hPd : ∀ (k : Nat) (h : k < N.length), PdN ((k : Int), N[k])) (w : World) (hn₀ : n₀ ≤ w.heap.size)
    (hBa : w.cell? ⟨ba, 0, none⟩ = some (.int .i64 (a : Int))) (hBt : w.cell? ⟨bt, 0, none⟩ = some (.pointer (some ⟨tb, 0, none⟩))) (hlo : lo ≤ bt) (hhi : bt < hi) (hlo2 : lo ≤ ba) (hhi2 : ba < hi) (hhi3 : hi ≤ w.heap.size) (hT : IsTree n₀ w tb N) :
    SeqO F n Tryz.prog 162 #[.pointer (some ⟨ba, 0, none⟩), .pointer (some ⟨bt, 0, none⟩)] (fun x : Told => encN x.1) B 0 (Kpx n₀ lo hi) (fun ys => ys.map Subtype.val = tellN N a (e - a)) (fun pre => pre.map Subtype.val <+: tellN N a (e - a)) (fun pre x => (pre ++ [x]).map Subtype.val <+: tellN N a (e - a)) w := fun l J Jx W hWB hW hJ _ hY h0 => by
  refine (below1_in F n hF hro hn l ba bt n₀ lo hi tb N a e hE hN (fun pre W => ∃ P : List Told, P.map Subtype.val = pre ∧ J P W ∧ B ≤ W.heap.size) (fun pre W => ∃ P : List Told, P.map Subtype.val = pre ∧ Jx P W) PdN hPd ?_ ?_ W
    ((hW.cell (p := ⟨ba, 0, none⟩) (by show ba < _; omega)).trans hBa) ((hW.cell (p := ⟨bt, 0, none⟩) (by show bt < _; omega)).trans hBt) hlo hhi hlo2 hhi2 (hT.below (hW.mono hn₀)) ⟨[], rfl, h0, by omega⟩).mono ?_
  · rintro pre x W1 hx ⟨P, hP, hJ1, hs1⟩ hlen
    refine (hY P ⟨x, hx⟩ W1 hJ1 (by show List.map Subtype.val (P ++ [(⟨x, hx⟩ : Told)]) <+: _; rw [map_last hP rfl]; exact hlen) (by omega)).mono ?_
    rintro r W' ⟨⟨h1, h2⟩ | ⟨h1, h2⟩, h3, h4⟩
    · exact ⟨.inl ⟨h1, _, map_last hP rfl, h2, Nat.le_trans hs1 h4.size⟩, h3⟩
    · exact ⟨.inr ⟨h1, _, map_last hP rfl, h2⟩, h3⟩
  · rintro pre W1 ⟨P, hP, hJ1, hs1⟩
    exact ⟨P, hP, hJ P W1 _ none hJ1 ⟨rfl, rfl, rfl, Nat.le_refl _, fun _ _ _ => rfl⟩ (fun r e => by cases e), hs1⟩
  · rintro r W' ⟨hv, ⟨ys, rfl, P, hP, hJ1, _⟩ | ⟨pre, hpre, P, rfl, hJ1⟩⟩
    · exact ⟨hv, .inl ⟨P, hP, hJ1⟩⟩
    · exact ⟨hv, .inr ⟨P, hpre, hJ1⟩⟩
/-- The kind of the datum that begins with a token. -/
def dkD (k : Int) : Int := if k = 4 then 1 else if k = 5 then 2 else if k = 6 then 3 else 4
/-- A node as a datum of what is taken out at a place. -/
def subN (a : Int) (x : Int × Dat) : Dat := ⟨dkD x.2.kind, max (x.2.parent - a) (-1), x.2.num, x.2.name⟩
abbrev subP (a : Int) (P : List Told) : List Dat := P.map fun x => subN a x.1
theorem ownFrom_block {β : Type} (B b : Nat) (o : Obj) (ho : o.isCells = true) : OwnFrom B (fun (_ : β) W => W.heap[b]? = some o) := fun _ W W' row hs hg hr => by
  refine (hg.block b (Array.getElem?_eq_some_iff.1 hs).1 (fun e => ?_)).trans hs
  obtain ⟨_, o', ho', hc⟩ := hr b e.symm
  rw [hs] at ho'; cases ho'; rw [ho] at hc; cases hc
/-- What the region of a round of dataBelow reads. -/
def SD (A Bx : Nat) (a : Int) (v : Value) (t : Dat) (w' : World) : Prop := w'.cell? ⟨A, 0, none⟩ = some (.int .i64 a) ∧ w'.cell? ⟨A + 1, 0, none⟩ = some v ∧ w'.cell? ⟨Bx, 0, none⟩ = some (.int .i64 t.parent) ∧ w'.cell? ⟨Bx, 1, none⟩ = some (.int .i64 t.kind) ∧ w'.cell? ⟨Bx, 2, none⟩ = some (.int .i64 t.num) ∧ w'.cell? ⟨Bx, 3, none⟩ = some (.string t.name)
theorem SD.keep {A Bx : Nat} {a : Int} {v : Value} {t : Dat} {w w' : World} (h : SD A Bx a v t w) (hb : Below w.heap.size w w') : SD A Bx a v t w' := by
  obtain ⟨s0, s1, s2, s3, s4, s5⟩ := h
  exact ⟨cell_keep hb s0, cell_keep hb s1, cell_keep hb s2, cell_keep hb s3, cell_keep hb s4, cell_keep hb s5⟩
theorem not_row' {W : World} {b : Nat} {cs : Array Value} {t e : TypeId} {fr : Nat × Nat} (h : W.heap[b]? = some (.cells cs t fr)) (hte : t ≠ e) {base size k : Nat} {v : Value} {xs : List Value} (hr : W.ownsRow base e size v k xs) : some b ≠ v.ownBlock := by
  rcases hr.2 with ⟨rfl, _⟩ | ⟨g, cap, cur, rfl, _, hgb, _⟩
  · simp [Value.ownBlock]
  · intro e'
    obtain rfl : b = g := by simpa [Value.ownBlock] using e'
    rw [h] at hgb
    simp at hgb
    exact hte hgb.2.1
theorem keeps_below {B : Nat} {W W' : World} (h : Below W.heap.size W W') : KeepsFrom B W W' := ⟨h.size, fun k _ _ hk _ => (h.block k (Array.getElem?_eq_some_iff.1 hk).1).trans hk⟩
/-- The temporaries of a round. -/
abbrev actD (tb A Bx : Nat) (a : Int) (x : Int × Dat) : Act := { tmps := #[.pointer (some ⟨tb, 0, none⟩), .int .i64 a, undef, .pointer (some ⟨A, 0, none⟩), .slice none 0 0, .pointer (some ⟨A + 1, 0, none⟩), undef, .pointer (some ⟨Bx, 0, none⟩), .pointer (some ⟨tb, 0, none⟩), .int .i64 a, .func (.func 162) #[] #[.pointer (some ⟨A + 1 + 1 + 1, 0, none⟩), .pointer (some ⟨A + 1 + 1, 0, none⟩)], .int .i64 x.1, .agg #[.int .i64 x.2.parent, .int .i64 x.2.kind, .int .i64 x.2.num, .string x.2.name], undef, undef, undef, undef, undef, undef, undef, undef, undef, undef, undef, undef, undef, undef, undef, undef, undef, undef, undef, undef, undef], defers := [] }
end Go.Proofs.YtkdhmijebkhmaaaGreatDoor
