/-
  Parts of the proof laid into one text, one behind the other; each says at its head what is proved in it.
-/
import Derived.Test.YtgfienijabkpjaaDoorSeqO
import Derived.Test.YtgfienijabkpjaaDoorCellsMath
import Derived.Test.YtgfienijabkpjaaDoorImplCons
import Derived.Shelf.Abstract
import Derived.OwnWalkIn
import Derived.TacticsInMore
import Derived.LoopNIn
import Derived.LoopIn
import Derived.OrdersIn
import Derived.OrdersHeld
import Derived.TacticsIn
/-
  Iterators whose rounds own blocks that may be laid anew while the iterator goes on, and which keep some blocks that are told: what such an iterator owes, and what a range over it comes to where no round leaves the loop.
-/
namespace Go.Proofs.YtgfienijabkpjaaDoor
open Go.RowKit

/-- An invariant that hangs on the blocks below B, and on blocks of its own (M), which are read off themselves and are cells. -/
structure OwnM {β : Type} (n₀ B : Nat) (M : World → Nat → Prop) (J : β → World → Prop) : Prop where
  keep : ∀ s W W', J s W → Below n₀ W W' → (∀ b, b < B → W'.heap[b]? = W.heap[b]?) → (∀ b, M W b → W'.heap[b]? = W.heap[b]?) → J s W'
  read : ∀ s W W', J s W → (∀ b, M W b → W'.heap[b]? = W.heap[b]?) → ∀ b, M W' b → M W b
  cells : ∀ s W b, J s W → M W b → ∃ o : Obj, W.heap[b]? = some o ∧ o.isCells = true
section
variable {β : Type} {n₀ B : Nat} {M : World → Nat → Prop} {J : β → World → Prop}
theorem OwnM.lt (h : OwnM n₀ B M J) {s : β} {W : World} (hJ : J s W) {b : Nat} (hb : M W b) : b < W.heap.size := by
  obtain ⟨o, ho, _⟩ := h.cells s W b hJ hb
  exact (Array.getElem?_eq_some_iff.1 ho).1
theorem OwnM.notOther (h : OwnM n₀ B M J) {s : β} {W : World} (hJ : J s W) {b : Nat} {o : Obj} (ho : W.heap[b]? = some o) (hc : o.isCells = false) : ¬ M W b := fun hb => by
  obtain ⟨o', ho', hc'⟩ := h.cells s W b hJ hb
  rw [ho] at ho'
  cases ho'
  rw [hc] at hc'
  cases hc'
theorem OwnM.alloc (h : OwnM n₀ B M J) {s : β} {W : World} (hJ : J s W) (hn : n₀ ≤ W.heap.size) (hB : B ≤ W.heap.size) (o : Obj) : J s (W.alloc o) :=
  h.keep s W _ hJ ((Below.refl _ W).alloc hn o) (fun b hb => Below.heap_alloc W o b (by omega)) (fun b hb => Below.heap_alloc W o b (h.lt hJ hb))
theorem OwnM.allocM (h : OwnM n₀ B M J) {s : β} {W : World} (hJ : J s W) (o : Obj) {b : Nat} (hb : M (W.alloc o) b) : M W b :=
  h.read s W _ hJ (fun b hb => Below.heap_alloc W o b (h.lt hJ hb)) b hb
theorem below_put (n₀ : Nat) (W : World) (k : Nat) (o : Obj) (hk : n₀ ≤ k) : Below n₀ W (W.putObj k o) := ⟨rfl, rfl, rfl, by simp, fun i hi => World.putObj_heap_other (by omega)⟩
theorem OwnM.put (h : OwnM n₀ B M J) {s : β} {W : World} (hJ : J s W) {k : Nat} {o : Obj} (o' : Obj) (hn : n₀ ≤ k) (hB : B ≤ k) (ho : W.heap[k]? = some o) (hc : o.isCells = false) : J s (W.putObj k o') :=
  h.keep s W _ hJ (below_put n₀ W k o' hn) (fun b hb => World.putObj_heap_other (by omega)) (fun b hb => World.putObj_heap_other (by rintro rfl; exact h.notOther hJ ho hc hb))
theorem OwnM.putM (h : OwnM n₀ B M J) {s : β} {W : World} (hJ : J s W) {k : Nat} {o : Obj} (o' : Obj) (ho : W.heap[k]? = some o) (hc : o.isCells = false) {b : Nat} (hb : M (W.putObj k o') b) : M W b :=
  h.read s W _ hJ (fun b' hb' => World.putObj_heap_other (fun e => h.notOther hJ ho hc (by rw [e] at hb'; exact hb'))) b hb
theorem below_grown {n₀ : Nat} {W W' : World} {row : Option Nat} (hg : W.grownBy W' row) (hn : n₀ ≤ W.heap.size) (hr : ∀ r, row = some r → n₀ ≤ r) : Below n₀ W W' :=
  ⟨hg.os, hg.tape, hg.output, hg.size, fun i hi => hg.block i (by omega) (fun e => by have := hr i e.symm; omega)⟩
theorem OwnM.grown (h : OwnM n₀ B M J) {s : β} {W W' : World} {row : Option Nat} (hJ : J s W) (hg : W.grownBy W' row) (hn : n₀ ≤ W.heap.size) (hB : B ≤ W.heap.size) (hr : ∀ r, row = some r → n₀ ≤ r ∧ B ≤ r ∧ ∃ o : Obj, W.heap[r]? = some o ∧ o.isCells = false) :
    J s W' ∧ ∀ b, M W' b → M W b := by
  have hk : ∀ b, M W b → W'.heap[b]? = W.heap[b]? := fun b hb => hg.block b (h.lt hJ hb) (fun e => by
    obtain ⟨-, -, o, ho, hc⟩ := hr b e.symm
    exact h.notOther hJ ho hc hb)
  exact ⟨h.keep s W W' hJ (below_grown hg hn (fun r e => (hr r e).1)) (fun b hb => hg.block b (by omega) (fun e => by have := (hr b e.symm).2.1; omega)) hk, h.read s W W' hJ hk⟩
/-- What a round keeps: all that lies below n₀, and all blocks that were there but its own; none of these becomes its own. -/
def Kq (n₀ : Nat) (M : World → Nat → Prop) (W W' : World) : Prop := Below n₀ W W' ∧ (∀ b, b < W.heap.size → ¬ M W b → W'.heap[b]? = W.heap[b]?) ∧ ∀ b, b < W.heap.size → M W' b → M W b
theorem Kq.refl (n₀ : Nat) (M : World → Nat → Prop) (W : World) : Kq n₀ M W W := ⟨Below.refl _ _, fun _ _ _ => rfl, fun _ _ h => h⟩
theorem Kq.size {W W' : World} (h : Kq n₀ M W W') : W.heap.size ≤ W'.heap.size := h.1.size
theorem Kq.trans {A B C : World} (h : Kq n₀ M A B) (k : Kq n₀ M B C) : Kq n₀ M A C :=
  ⟨h.1.trans k.1, fun b hb hm => (k.2.1 b (Nat.lt_of_lt_of_le hb h.size) (fun hm' => hm (h.2.2 b hb hm'))).trans (h.2.1 b hb hm), fun b hb hm => h.2.2 b hb (k.2.2 b (Nat.lt_of_lt_of_le hb h.size) hm)⟩
theorem Kq.cell {W W' : World} (h : Kq n₀ M W W') {b j : Nat} (hb : b < W.heap.size) (hm : ¬ M W b) : W'.cell? ⟨b, j, none⟩ = W.cell? ⟨b, j, none⟩ := World.cell?_of_block (h.2.1 b hb hm)
theorem kq_alloc (h : OwnM n₀ B M J) {s : β} {W : World} (hJ : J s W) (hn : n₀ ≤ W.heap.size) (o : Obj) : Kq n₀ M W (W.alloc o) :=
  ⟨(Below.refl _ W).alloc hn o, fun b hb _ => Below.heap_alloc W o b hb, fun _ _ hm => h.allocM hJ o hm⟩
/-- A turn of one block that is not its own and was not there at first. -/
theorem kq_turn (h : OwnM n₀ B M J) {s : β} {A W W' : World} (hJ : J s W) (hk : Kq n₀ M A W) {k : Nat} (hA : A.heap.size ≤ k) (hm : ¬ M W k) (hb : Below n₀ W W') (hs : ∀ b, b ≠ k → W'.heap[b]? = W.heap[b]?) : Kq n₀ M A W' :=
  ⟨hk.1.trans hb, fun b hb' hm' => (hs b (by omega)).trans (hk.2.1 b hb' hm'), fun b hb' hm' => hk.2.2 b hb' (h.read s W W' hJ (fun b hb => hs b (fun e => hm (e ▸ hb))) b hm')⟩
theorem own_kq {α : Type} (h : OwnM n₀ B M J) (w : World) (hB : B ≤ w.heap.size) (hn : n₀ ≤ B) (g : List α → β) (m : Nat) : OwnFrom w.heap.size (fun (P : List α) X => J (g P) X ∧ Kq n₀ M w X ∧ ∀ b, w.heap.size ≤ b → b < w.heap.size + m → ¬ M X b) := fun P X X' row ⟨hj, hk, hc⟩ hg hr => by
  have hs := hk.size
  obtain ⟨hj', hm⟩ := h.grown hj hg (by omega) (by omega) (fun r e => ⟨by have := (hr r e).1; omega, by have := (hr r e).1; omega, (hr r e).2⟩)
  refine ⟨hj', ⟨hk.1.trans (below_grown hg (by omega) (fun r e => by have := (hr r e).1; omega)), fun b hb hnm => ?_, fun b hb h => hk.2.2 b hb (hm b h)⟩, fun b h1 h2 h => hc b h1 h2 (hm b h)⟩
  exact (hg.block b (by omega) (fun e => by have := (hr b e.symm).1; omega)).trans (hk.2.1 b hb hnm)
theorem Kq.others (h : OwnM n₀ B M J) {s : β} {W W' : World} (hJ : J s W) (hk : Kq n₀ M W W') (b : Nat) : KeepsFrom b W W' :=
  ⟨hk.size, fun k _ _ ho hc => (hk.2.1 k (Array.getElem?_eq_some_iff.1 ho).1 (h.notOther hJ ho hc)).trans ho⟩
end
/-- The contract of an iterator value over a list whose rounds never leave, and own none of the blocks N. -/
def SeqX {α : Type} (P : Program) (g : Nat) (lb : Array Value) (encs : α → Array Value) (n₀ : Nat) (L : List α) (w : World) (M : World → Nat → Prop) (N : Nat → Prop) : Prop :=
  ∀ (l : Nat) (J : List α → World → Prop) (W : World), Below w.heap.size w W → n₀ ≤ W.heap.size → OwnM n₀ W.heap.size M J → (∀ pre W1, J pre W1 → ∀ b, N b → ¬ M W1 b) →
    (∀ pre x W1, J pre W1 → pre ++ [x] <+: L → W.heap.size ≤ W1.heap.size → ∃ k, YieldAt Fence.wide k P l (encs x) W1 fun e W' => e = .returned (.bool true) ∧ J (pre ++ [x]) W' ∧ Kq n₀ M W1 W') →
    J [] W → Calls P g (#[.func (.yield l) #[] #[]] ++ lb) W fun e W' => (∃ v, e = .returned v) ∧ J L W' ∧ W.heap.size ≤ W'.heap.size
/-- How a round's body ends. -/
def postX {α : Type} (n₀ : Nat) (M : World → Nat → Prop) (I : List α → World → Prop) (xs : List α) (W : World) : Exit → Act → World → Prop
  | .normal, _, W' => Kq n₀ M W W' ∧ I xs W'
  | .ret, _, _ => False
  | .exit _, _, _ => False
  | .goto _, _, _ => False
  | .panic _, _, _ => False
  | .outgrown, _, _ => False
theorem range_X {α : Type} {g : Operand} {ps : Array Tmp} {assign body : Code} {Q : Exit → Act → World → Prop} {a : Act} {w : World} {n : Nat} {P : Program}
    (h1 : 1 ≤ n) {gf : Nat} {lb : Array Value} (hg : a.eval g = .func (.func gf) #[] lb) (eg : ∀ args w, (callFunc gf args).run P w = .ok (.enter gf args) w)
    {encs : α → Array Value} {L : List α} {n₀ : Nat} {w0 : World} (M : World → Nat → Prop) (N : Nat → Prop) (hseq : SeqX P gf lb encs n₀ L w0 M N) (hb0 : Below w0.heap.size w0 w) (hn : n₀ ≤ w.heap.size) (hps : ∀ x, (encs x).size = ps.size)
    (I : List α → World → Prop) (hO : OwnM n₀ w.heap.size M I) (hN : ∀ pre W, I pre W → ∀ b, N b → ¬ M W b) (h0 : I [] w) (Ax : α → Act → World → Prop)
    (hAx : ∀ x a' W l o o', Ax x a' W → w.heap.size ≤ l → W.heap[l]? = some o → o.isCells = false → Ax x a' (W.putObj l o'))
    (hassign : ∀ (l : Nat) (pre : List α) (x : α) (W : World) (K : Act → World → Prop), I pre W → pre ++ [x] <+: L → w.heap.size + 2 ≤ W.heap.size → (∀ a' W', Kq n₀ M W W' → I pre W' → Ax x a' W' → K a' W') →
      assign.wpIn (Fence.wide.inRound l) (n - 1 - 1) P (Exit.then K (fun _ _ _ => False)) { tmps := (ps.zip (encs x)).foldl (fun t (p, v) => t.setIfInBounds p v) a.tmps, defers := [] } W)
    (hbody : ∀ (l : Nat) (pre : List α) (x : α) (a' : Act) (W : World), I pre W → Ax x a' W → pre ++ [x] <+: L → w.heap.size + 2 ≤ W.heap.size → body.wpIn (Fence.wide.inRound l) (n - 1 - 1) P (postX n₀ M I (pre ++ [x]) W) a' W)
    (hdone : ∀ (W : World), I L W → w.heap.size + 2 ≤ W.heap.size → W.heap[w.heap.size]? = some (.deferred (some [])) → Q .normal { a with defers := { target := .collected w.heap.size, args := #[] } :: a.defers } W) :
    (Code.rangeFunc g ps assign body).wpIn Fence.wide n P Q a w := by
  refine wpIn_rangeFunc fun fn hfn => ?_
  rw [show Fence.wide.round = none from rfl]
  obtain ⟨r0, hr0⟩ : ∃ r0 : Loop, r0 = { state := .ready, pending := none, fn, tmps := a.tmps, params := ps, assign, body, defers := w.heap.size } := ⟨_, rfl⟩
  obtain ⟨W1, hW1⟩ : ∃ W1, W1 = (w.alloc (.deferred (some []))).alloc (.loop r0) := ⟨_, rfl⟩
  have hsz : W1.heap.size = w.heap.size + 2 := by rw [hW1]; simp
  have R1 : Rec w.heap.size r0 W1 := by
    constructor
    · have := World.alloc_heap_new (w.alloc (.deferred (some []))) (.loop r0)
      rw [World.size_alloc] at this
      rw [hW1]; exact this
    · rw [hW1]; exact (Below.heap_alloc _ _ _ (by simp)).trans (World.alloc_heap_new w _)
  have b1 : Below w0.heap.size w0 W1 := by
    rw [hW1]; exact hb0.trans ((((Below.refl _ w).alloc (Nat.le_refl _) _).alloc (by simp) _).mono hb0.size)
  have i1 : I [] W1 := by rw [hW1]; exact hO.alloc (hO.alloc h0 hn (Nat.le_refl _) _) (by simp; omega) (by simp) _
  refine ⟨w.heap.size + 1, [{ target := .collected w.heap.size, args := #[] }], W1, { target := .fn (.func gf) lb, args := #[.func (.yield (w.heap.size + 1)) #[] #[]] }, W1, gf,
    #[.func (.yield (w.heap.size + 1)) #[] #[]] ++ lb, W1, by rw [hW1, hr0]; exact run_enterLoop_outer _ _ _ _ _, by simp only [resolve, hg]; simp [go_sem],
    fun f' hf' => trivial, by simp [invoke, go_sem, eg], fun _ => h1, ?_⟩
  have hJO : OwnM n₀ W1.heap.size M (fun pre W => I pre W ∧ Rec w.heap.size r0 W) :=
    ⟨fun s W W' hs hB hlow hM => ⟨hO.keep s W W' hs.1 hB (fun b hb => hlow b (by omega)) hM, ⟨(hlow _ (by omega)).trans hs.2.loop, (hlow _ (by omega)).trans hs.2.defs⟩⟩, fun s W W' hs => hO.read s W W' hs.1, fun s W b hs => hO.cells s W b hs.1⟩
  refine ((callsIn_wide).2 (hseq (w.heap.size + 1) _ W1 b1 (by omega) hJO (fun pre W h => hN pre W h.1) ?_ ⟨i1, R1⟩)).mono ?_
  · rintro pre x W ⟨hi, hR⟩ hpre hm
    have hm' : w.heap.size + 2 ≤ W.heap.size := by omega
    have hy := run_yield (P := P) (args := encs x) hR.loop (by rw [hr0]; exact hps x)
    rw [show r0.fn = fn by rw [hr0], show r0.assign = assign by rw [hr0], show r0.body = body by rw [hr0], show r0.tmps = a.tmps by rw [hr0], show r0.params = ps by rw [hr0]] at hy
    refine ⟨n - 1 - 1, fn, _, assign, body, hy, roundIn_of_wpIn hfn (hassign _ pre x W _ hi hpre hm' fun a' Wa hka hia hax => ?_)⟩
    have nM0 : ¬ M W (w.heap.size + 1) := hO.notOther hi hR.loop rfl
    have nD0 : ¬ M W w.heap.size := hO.notOther hi hR.defs rfl
    have hRa : Rec w.heap.size r0 Wa := ⟨(hka.2.1 _ (by omega) nM0).trans hR.loop, (hka.2.1 _ (by omega) nD0).trans hR.defs⟩
    refine ⟨_, run_beginRound hRa.loop (by rw [hr0]), ?_⟩
    have hR2 := hRa.put { r0 with state := .busy }
    have hsa := hka.size
    have i2 := hO.put hia (.loop { r0 with state := .busy }) (by omega : n₀ ≤ w.heap.size + 1) (by omega) hRa.loop rfl
    refine wpIn_mono (hbody _ pre x a' _ i2 (hAx x a' Wa _ _ _ hax (by omega) hRa.loop rfl) hpre (by simp; omega)) ?_
    rintro e a3 W3 hp
    cases e with
    | normal =>
      obtain ⟨hk, hi3⟩ := hp
      have nM2 : ¬ M (Wa.putObj (w.heap.size + 1) (.loop { r0 with state := .busy })) (w.heap.size + 1) := hO.notOther i2 hR2.loop rfl
      have nD2 : ¬ M (Wa.putObj (w.heap.size + 1) (.loop { r0 with state := .busy })) w.heap.size := hO.notOther i2 hR2.defs rfl
      have hR3 : Rec w.heap.size { r0 with state := .busy } W3 := ⟨(hk.2.1 _ (by simp; omega) nM2).trans hR2.loop, (hk.2.1 _ (by simp; omega) nD2).trans hR2.defs⟩
      have hrun := run_endRound (P := P) none hR3.loop
      have er : ({ ({ r0 with state := .busy } : Loop) with state := if (none : Option Code).isNone then .ready else .done, pending := none } : Loop) = r0 := by rw [hr0]; rfl
      rw [er] at hrun
      have hR4 := hR3.put r0
      have i4 := hO.put hi3 (.loop r0) (by omega : n₀ ≤ w.heap.size + 1) (by omega) hR3.loop rfl
      refine ⟨_, _, hrun, rfl, ⟨i4, hR4⟩, ?_⟩
      have h3s := hk.size
      simp at h3s
      refine ⟨((hka.1.trans (below_put n₀ Wa _ _ (by omega))).trans hk.1).trans (below_put n₀ W3 _ _ (by omega)), fun b hb hm => ?_, fun b hb hm => ?_⟩
      · by_cases e : b = w.heap.size + 1
        · rw [e, hR4.loop, hR.loop]
        · refine (World.putObj_heap_other (fun e' => e (by omega))).trans ?_
          refine (hk.2.1 b (by simp; omega) (fun h => hm (hka.2.2 b hb (hO.putM hia _ hRa.loop rfl h)))).trans ?_
          exact (World.putObj_heap_other (fun e' => e (by omega))).trans (hka.2.1 b hb hm)
      · have m3 := hO.putM hi3 _ hR3.loop rfl hm
        exact hka.2.2 b hb (hO.putM hia _ hRa.loop rfl (hk.2.2 b (by simp; omega) m3))
    | ret => exact hp.elim
    | exit id => exact hp.elim
    | goto t => exact hp.elim
    | panic ch => exact hp.elim
    | outgrown => exact hp.elim
  · rintro e W2 ⟨⟨v, rfl⟩, ⟨hi, hR⟩, hs2⟩
    have hrun := run_endLoop (P := P) hR.loop (by rw [hr0]; simp)
    rw [show r0.pending = none by rw [hr0]] at hrun
    exact ⟨none, _, hrun, hdone _ (hO.put hi _ (by omega) (by omega) hR.loop rfl) (by simp; omega) (hR.put _).defs⟩
end Go.Proofs.YtgfienijabkpjaaDoor
/-
  The program's iterator cellsFrom: the pairs from a word on, each pointed at; nothing that was there is turned but what the rounds own.
-/
namespace Go.Proofs.YtgfienijabkpjaaDoor
open Go.RowKit Go.Extern.Stop Go.Stop Go.Extern Num Go.Lib Go.Shelf

attribute [local go_sem ↓] Go.wp_at_zero Go.wp_at_succ
set_option maxHeartbeats 1000000 in
theorem cellAt_any (B h k : Nat) (v : Value) (bs : List Nat) (cs : List (Wd × Wd)) (x : Wd) (w : World) (K : HpAt w B h v bs cs) (hn : cs.length ≤ 4000) (hk : k < bs.length) (hx : x.rest = (k : Int)) :
    Calls Tryd.prog 78 #[.pointer (some ⟨h, 0, none⟩), x.val] w fun e w' => e = .returned (.pointer (some ⟨bs[k], 0, none⟩)) ∧ Below w.heap.size w w' := by
  obtain ⟨a, c, rfl⟩ := own_form K.fd.2.1
  have c0 := K.fd.1
  have hlt := K.fd.lt
  obtain ⟨gQ, cQ, hvQ, _, _⟩ := K.fd.2.1.form (by omega)
  obtain ⟨rfl, rfl⟩ : a = some ⟨gQ, 0, none⟩ ∧ c = cQ := by simp at hvQ; exact hvQ
  clear hvQ
  have hbl : bs.length ≤ 4000 := by rw [K.len]; exact hn
  obtain ⟨b, hb⟩ : ∃ b, b = bs[k]'hk := ⟨_, rfl⟩
  have e0 : w.cell? ⟨gQ, k, none⟩ = some (.pointer (some ⟨b, 0, none⟩)) := by
    have ha : ∀ j, (⟨gQ, 0, none⟩ : Addr).add j = ⟨gQ, j, none⟩ := fun j => by unfold Addr.add; split <;> simp_all
    rw [← ha, hb]
    exact K.fd.2.1.cells (g := gQ) rfl k _ (by simp [ptrs, hk])
  rw [← hb]
  have hlg : gQ < w.heap.size := lt_of_cell e0
  obtain ⟨tg, rs⟩ := x
  simp only at hx
  subst hx
  have a1 : ∀ p : BW (w.alloc (.cells #[.int .u8 tg, .int .u64 (k : Int)] 74)), p.x.cell? ⟨w.heap.size, 1, none⟩ = some (.int .u64 (k : Int)) := fun p => p.cell (by rw [World.cell?_alloc_at _ _ _ _ rfl]; rfl)
  have a2 : ∀ p : BW (w.alloc (.cells #[.int .u8 tg, .int .u64 (k : Int)] 74)), p.x.cell? ⟨h, 0, none⟩ = some (.slice (some ⟨gQ, 0, none⟩) bs.length c) := fun p => p.cell (by rw [World.cell?_alloc_past _ _ _ hlt]; exact c0)
  have a3 : ∀ p : BW (w.alloc (.cells #[.int .u8 tg, .int .u64 (k : Int)] 74)), p.x.cell? ⟨gQ, k, none⟩ = some (.pointer (some ⟨b, 0, none⟩)) := fun p => p.cell (by rw [World.cell?_alloc_past _ _ _ hlg]; exact e0)
  have hne := bw_some (w.alloc (.cells #[.int .u8 tg, .int .u64 (k : Int)] 74))
  clear c0 e0 K hb
  have hki : (k : Int) < (bs.length : Int) := by omega
  show Calls Tryd.prog _ #[.pointer (some ⟨h, 0, none⟩), .agg #[.int .u8 tg, .int .u64 (k : Int)]] w _
  go_enter Tryd.func78, Tryd.ntmps78
  go_wp2_with fail
  refine wp_region_below (by kernel_rfl) (by kernel_rfl) ?_
  repeat (go_big_quiet_step (fail))
  refine wpQuiet_nil ?_
  intro wq hw'
  obtain ⟨⟨_, bq⟩, rfl⟩ := hw'
  clear a1 a2 a3 hne
  go_wp2
  go_ret
  exact ⟨rfl, ((Below.refl _ _).alloc (Nat.le_refl _) _).trans (bq.mono (by simp))⟩
/-- What the loop's own variable still leads to. -/
def msV (p : Value) (w : World) : Nat := match p with
  | .pointer (some a) => (match w.cell? ⟨a.block, 0, none⟩, w.cell? ⟨a.block, 1, none⟩ with | some (.int _ t), some (.int _ r) => if t = 5 then r.toNat + 1 else 0 | _, _ => 0)
  | _ => 0
theorem msV_of {b : Nat} {t r : Int} {w : World} (h0 : w.cell? ⟨b, 0, none⟩ = some (.int .u8 t)) (h1 : w.cell? ⟨b, 1, none⟩ = some (.int .u64 r)) : msV (.pointer (some ⟨b, 0, none⟩)) w = if t = 5 then r.toNat + 1 else 0 := by
  unfold msV; simp only [h0, h1]
theorem HpAt.low {w w1 : World} {B h n : Nat} {v : Value} {bs : List Nat} {cs : List (Wd × Wd)} (H : HpAt w B h v bs cs) (hn : w.heap.size = n) (hb : Below n w w1) : HpAt w1 B h v bs cs := H.keep (by rw [hn]; exact hb)
theorem roundIn_wide {P : Program} {n m l : Nat} {f : FuncId} {tmps : Array Value} {assign body : Code} {w : World} {R : Ending → World → Prop} (h : RoundIn Fence.wide n P l f tmps assign body w R) : RoundIn Fence.wide m P l f tmps assign body w R :=
  ⟨trivial, fun c cs _ => h.2 c cs (room_wide _)⟩
theorem kq_below {β : Type} {n₀ B : Nat} {M : World → Nat → Prop} {J : β → World → Prop} (hO : OwnM n₀ B M J) {s : β} {W W' : World} (hJ : J s W) (hb : Below W.heap.size W W') (hn : n₀ ≤ W.heap.size) : Kq n₀ M W W' := ⟨hb.mono hn, fun b hlt _ => hb.block b hlt, fun b _ hm => hO.read s W W' hJ (fun b hm => hb.block b (hO.lt hJ hm)) b hm⟩
theorem own_belowM {β : Type} {n₀ B : Nat} {M : World → Nat → Prop} {J : β → World → Prop} (hO : OwnM n₀ B M J) {s : β} {W W' : World} (hJ : J s W) (hb : Below W.heap.size W W') (hn : n₀ ≤ W.heap.size) (hB : B ≤ W.heap.size) : J s W' := hO.keep s W W' hJ (hb.mono hn) (fun b h => hb.block b (by omega)) (fun b h => hb.block b (hO.lt hJ h))
attribute [local go_sem] Oper.semAt_some
/-- The loop's own variable: a box of a word. -/
structure WBox (b : Nat) (x : Wd) (w : World) : Prop where
  c0 : w.cell? ⟨b, 0, none⟩ = some (.int .u8 x.tag)
  c1 : w.cell? ⟨b, 1, none⟩ = some (.int .u64 x.rest)
  fz : ∀ o, w.frozen? ⟨b, o, none⟩ = false
theorem WBox.new (w : World) (x : Wd) (t : TypeId) : WBox w.heap.size x (w.alloc (.cells #[.int .u8 x.tag, .int .u64 x.rest] t)) := ⟨by rw [World.cell?_alloc_at _ _ _ _ rfl]; rfl, by rw [World.cell?_alloc_at _ _ _ _ rfl]; rfl, fun o => by rw [World.frozen?_alloc_at _ _ _ _ rfl]⟩
theorem WBox.same {b : Nat} {x : Wd} {w w' : World} (h : WBox b x w) (hb : w'.heap[b]? = w.heap[b]?) : WBox b x w' := ⟨by rw [World.cell?_of_block (a := ⟨b, 0, none⟩) hb]; exact h.c0, by rw [World.cell?_of_block (a := ⟨b, 1, none⟩) hb]; exact h.c1, fun o => by rw [World.frozen?_of_block (a := ⟨b, o, none⟩) hb]; exact h.fz o⟩
theorem WBox.lt {b : Nat} {x : Wd} {w : World} (h : WBox b x w) : b < w.heap.size := lt_of_cell h.c0
theorem WBox.below {b : Nat} {x : Wd} {w w' : World} (h : WBox b x w) (hb : Below w.heap.size w w') : WBox b x w' := h.same (hb.block b h.lt)
set_option maxRecDepth 100000 in
set_option maxHeartbeats 2000000 in
theorem cells_seq (l : List Pai) (t : Vlu) (hh : heapFault l = 0) (hah : aheadV l.length t) (n₀ B h wb hb : Nat) (v : Value) (bs : List Nat) (w : World) (K : ∀ u, Below n₀ w u → HpAt u B h v bs (wordsP l)) (hn : n₀ ≤ w.heap.size) (hwb : WBox wb (wdOf t) w) (hhb : w.cell? ⟨hb, 0, none⟩ = some (.pointer (some ⟨h, 0, none⟩))) (M : World → Nat → Prop) (N : Nat → Prop) (hN : N hb) (hbs : ∀ (k : Nat) (hk : k < bs.length), bs[k] < n₀) :
    SeqX Tryd.prog 109 #[.pointer (some ⟨wb, 0, none⟩), .pointer (some ⟨hb, 0, none⟩)] (fun k : Nat => #[.pointer (some ⟨bs.getD k 0, 0, none⟩)]) n₀ (allI l t) w M N := fun y J W hW hnW hO hNM hY h0 => by
  have hlen : bs.length = l.length := by rw [(K w (Below.refl _ _)).len, wordsP_len]
  have hl4 := fault_len hh
  show Calls Tryd.prog _ #[.func (.yield y) #[] #[], .pointer (some ⟨wb, 0, none⟩), .pointer (some ⟨hb, 0, none⟩)] W _
  have hwbW := hwb.below hW
  have c0 := hwbW.c0
  have c1 := hwbW.c1
  have hF : ∀ f, Fence.wide.fn f := fun _ => trivial
  refine (callsIn_wide (n := 10)).1 ?_
  refine callsIn_of_wp Tryd.func109 rfl (hF _) ?_ rfl
  simp only [Tryd.ntmps109, List.size_toArray, List.length_cons, List.length_nil, Nat.reduceAdd, Nat.reduceSub, Array.replicate_succ, Array.replicate_zero, List.push_toArray, List.append_toArray, List.nil_append, List.cons_append]
  have j0 : J [] (W.alloc (.cells #[.int .u8 (wdOf t).tag, .int .u64 (wdOf t).rest] 74)) := hO.alloc h0 hnW (Nat.le_refl _) _
  have k0 : Kq n₀ M W (W.alloc (.cells #[.int .u8 (wdOf t).tag, .int .u64 (wdOf t).rest] 74)) := kq_alloc hO h0 hnW _
  have m0 : ¬ M (W.alloc (.cells #[.int .u8 (wdOf t).tag, .int .u64 (wdOf t).rest] 74)) W.heap.size := fun hm => by have := hO.lt h0 (hO.allocM h0 _ hm); omega
  have x0 : WBox W.heap.size (wdOf t) (W.alloc (.cells #[.int .u8 (wdOf t).tag, .int .u64 (wdOf t).rest] 74)) := WBox.new W _ _
  gi_wp2
  gi_loopw [4, 5] (fun p _ wr => ∃ j b : Nat, p = .pointer (some ⟨b, 0, none⟩) ∧ Hid (J (idxV l j t) wr ∧ Kq n₀ M W wr ∧ W.heap.size ≤ b ∧ ¬ M wr b ∧ (idxV l j t).length = j) ∧ WBox b (wdOf (goV l j t)) wr) (fun p _ wr => msV p wr)
  case atStart => exact ⟨0, W.heap.size, rfl, ⟨j0, k0, Nat.le_refl _, m0, rfl⟩, x0⟩
  case round =>
    obtain ⟨j, b, rfl, HJ, hx⟩ := hrel
    obtain ⟨jJ, jK, hbW, hbM, hjl⟩ := HJ.out
    have hga := goV_ahead hh j l.length t (Nat.le_refl _) hah
    have hsr := jK.size
    have hbr := hx.lt
    by_cases hk : (goV l j t).kind = 5
    · obtain ⟨k, hkl, hnum, hkj, hgo, hhd, hix⟩ := step_at hh hah j hk
      have X0 := hx.c0
      have X1 := hx.c1
      rw [wd_tag hga.1.1, hk] at X0
      rw [wd_rest hga.1.1 hk, hnum] at X1
      have hbl : hb < w.heap.size := lt_of_cell hhb
      have hbM0 : ¬ M W hb := hNM _ W h0 hb hN
      have ch : wr.cell? ⟨hb, 0, none⟩ = some (.pointer (some ⟨h, 0, none⟩)) := (jK.cell (by have := hW.size; omega) hbM0).trans ((hW.cell (p := ⟨hb, 0, none⟩) hbl).trans hhb)
      have hKr := K wr ((hW.mono hn).trans jK.1)
      have hkb : k < bs.length := by omega
      have hW4 : (wordsP l).length ≤ 4000 := by rw [wordsP_len]; exact hl4
      have HC : Hid (CallsIn Fence.wide (10 - 1) Tryd.prog 78 #[.pointer (some ⟨h, 0, none⟩), .agg #[.int .u8 5, .int .u64 (k : Int)]] wr fun e w' => e = .returned (.pointer (some ⟨bs[k], 0, none⟩)) ∧ Below wr.heap.size wr w') := (callsIn_wide).2 (cellAt_any B h k v bs (wordsP l) ⟨5, (k : Int)⟩ wr hKr hW4 hkb rfl)
      have HD : Hid (∀ u, Below n₀ w u → u.cell? ⟨bs[k], 2, none⟩ = some (.int .u8 (wdOf (goV l (j + 1) t)).tag) ∧ u.cell? ⟨bs[k], 3, none⟩ = some (.int .u64 (wdOf (goV l (j + 1) t)).rest)) := fun u hu => by
        have hkw : k < (wordsP l).length := by rw [wordsP_len]; exact hkl
        have he := (K u hu).each k hkb hkw
        have e1 : (wordsP l)[k]'hkw = (wdOf (l[k]'hkl).head, wdOf (l[k]'hkl).tail) := by simp [wordsP]
        rw [e1] at he
        rw [hgo]
        exact ⟨he.c2, he.c3⟩
      have HP : Hid (idxV l j t ++ [k] <+: allI l t ∧ idxV l (j + 1) t = idxV l j t ++ [k]) := ⟨by
        rw [← hix]; unfold allI
        have := idxV_pre (l := l) (j + 1) (l.length - (j + 1)) t
        rwa [show j + 1 + (l.length - (j + 1)) = l.length by omega] at this, hix⟩
      have hgd : bs.getD k 0 = bs[k] := by simp [hkb]
      have hms : msV (.pointer (some ⟨b, 0, none⟩)) wr = k + 1 := by rw [msV_of X0 X1]; simp
      have HMS : Hid (msV (.pointer (some ⟨b, 0, none⟩)) wr = k + 1 ∧ ((goV l (j + 1) t).kind = 5 → (goV l (j + 1) t).num.toNat < k)) := ⟨hms, fun h5 => by
        have := pair_ahead hh k hkl
        rw [hgo] at h5 ⊢
        have := this.2.2 h5
        omega⟩
      have HJL : Hid ((idxV l j t).length = j) := hjl
      have hv1 : vfault (goV l (j + 1) t) = 0 := (goV_ahead hh (j + 1) l.length t (Nat.le_refl _) hah).1.1
      have HV1 : Hid (vfault (goV l (j + 1) t) = 0) := hv1
      clear hms hgo hhd hix hnum hjl hv1
      have HBK : Hid (bs[k] < n₀) := hbs k hkb
      generalize bs[k] = bk at HC HD hgd HBK
      gi_wp2_with fail
      refine HC.out.mono ?_
      rintro e w2 ⟨rfl, b2⟩
      have j2 : J (idxV l j t) w2 := own_belowM hO jJ b2 (by omega) hsr
      have k2 : Kq n₀ M W w2 := jK.trans (kq_below hO jJ b2 (by omega))
      have hb2 : ¬ M w2 b := fun hm => hbM ((kq_below hO jJ b2 (by omega : n₀ ≤ wr.heap.size)).2.2 b hbr hm)
      have hx2 := hx.below b2
      obtain ⟨kk, fn, tmps, assign, body, hy, hR⟩ := hY (idxV l j t) k w2 j2 HP.out.1 k2.size
      rw [hgd] at hy
      have hR' := roundIn_wide (m := 10 - 1) hR
      clear hR hY HC X0 X1 ch
      have hbn : n₀ ≤ b := by omega
      gi_wp2_with (refine hR'.mono ?_; rintro r w3 ⟨rfl, j3, k3⟩; have hx3 : WBox b (wdOf (goV l j t)) w3 := hx2.same (k3.2.1 b hx2.lt hb2); have q0 := hx3.c0; have q1 := hx3.c1; have qf := hx3.fz; have qd := HD.out w3 ((hW.mono hn).trans (k2.trans k3).1); have d2 := qd.1; have d3 := qd.2)
      have hne : bk ≠ b := fun e => by
        have h1 : bk < n₀ := HBK.out
        omega
      obtain ⟨x', hx'⟩ : ∃ x', x' = wdOf (goV l (j + 1) t) := ⟨_, rfl⟩
      rw [← hx']
      obtain ⟨w4, hw4⟩ : ∃ w4, w4 = (w3.setCell ⟨b, 0, none⟩ (.int .u8 x'.tag)).setCell ⟨b, 1, none⟩ (.int .u64 x'.rest) := ⟨_, rfl⟩
      rw [← hw4]
      have same4 : ∀ c, c ≠ b → w4.heap[c]? = w3.heap[c]? := fun c hc => by rw [hw4]; exact (Below.heap_setCell _ _ _ _ hc).trans (Below.heap_setCell _ _ _ _ hc)
      have s4 : w4.heap.size = w3.heap.size := by rw [hw4]; simp
      have b4 : Below n₀ w3 w4 := by rw [hw4]; exact ((Below.refl _ _).setCell hbn _).setCell hbn _
      have m3 : ¬ M w3 b := fun hm => hb2 (k3.2.2 b hx2.lt hm)
      have j3' : J (idxV l (j + 1) t) w3 := by rw [HP.out.2]; exact j3
      have hs3 : W.heap.size ≤ w3.heap.size := (k2.trans k3).size
      have j4 : J (idxV l (j + 1) t) w4 := hO.keep _ w3 w4 j3' b4 (fun c hc => same4 c (by omega)) (fun c hc => same4 c (fun e => m3 (e ▸ hc)))
      have k4 : Kq n₀ M W w4 := kq_turn hO j3' (k2.trans k3) hbW m3 b4 same4
      have xn := WBox.new w4 x' 74
      rw [s4] at xn
      refine ⟨⟨j + 1, w3.heap.size, rfl, ⟨hO.alloc j4 (by omega) (by omega) _, k4.trans (kq_alloc hO j4 (by omega) _), hs3, fun hm => ?_, ?_⟩, by rw [← hx']; exact xn⟩, ?_⟩
      · have := hO.lt j4 (hO.allocM j4 _ hm); omega
      · rw [HP.out.2, List.length_append, HJL.out]; rfl
      · rw [HMS.out.1, msV_of xn.c0 xn.c1, hx']
        by_cases h5 : (goV l (j + 1) t).kind = 5
        · rw [wd_tag HV1.out, if_pos h5, wd_rest HV1.out h5]
          have := HMS.out.2 h5
          omega
        · rw [wd_tag HV1.out, if_neg h5]; omega
    · have hk' : ((wdOf (goV l j t)).tag == 5) = false := by rw [wd_tag hga.1.1]; simpa using hk
      have X0 := hx.c0
      have hall := allI_at hh hah hk
      have JL : J (allI l t) wr := by rw [hall]; exact jJ
      clear hall
      gi_wp2
      exact bodyPost_end (v := .tuple #[]) (by simp [results, Tryd.results109]) rfl ⟨⟨_, rfl⟩, JL, hsr⟩
end Go.Proofs.YtgfienijabkpjaaDoor
/-
  Iterators as in SeqX whose rounds may leave the loop by a return: what such an iterator owes, and what a range over it comes to.
-/
namespace Go.Proofs.YtgfienijabkpjaaDoor
open Go.RowKit

/-- The contract of an iterator value over a list whose rounds may leave by a return (E then), and own none of the blocks N. -/
def SeqL {α : Type} (P : Program) (g : Nat) (lb : Array Value) (encs : α → Array Value) (n₀ : Nat) (L : List α) (w : World) (M : World → Nat → Prop) (N : Nat → Prop) : Prop :=
  ∀ (l : Nat) (J : List α → World → Prop) (E : World → Prop) (W : World), Below w.heap.size w W → n₀ ≤ W.heap.size → OwnM n₀ W.heap.size M J → (∀ pre W1, J pre W1 → ∀ b, N b → ¬ M W1 b) →
    (∀ pre x W1, J pre W1 → pre ++ [x] <+: L → W.heap.size ≤ W1.heap.size → ∃ k, YieldAt Fence.wide k P l (encs x) W1 fun e W' => (e = .returned (.bool true) ∧ J (pre ++ [x]) W' ∧ Kq n₀ M W1 W') ∨ (e = .returned (.bool false) ∧ E W' ∧ W1.heap.size ≤ W'.heap.size)) →
    J [] W → Calls P g (#[.func (.yield l) #[] #[]] ++ lb) W fun e W' => (∃ v, e = .returned v) ∧ (J L W' ∨ E W') ∧ W.heap.size ≤ W'.heap.size
/-- How a round's body ends. -/
def postL {α : Type} (n₀ : Nat) (M : World → Nat → Prop) (I : List α → World → Prop) (E : World → Prop) (xs : List α) (W : World) : Exit → Act → World → Prop
  | .normal, _, W' => Kq n₀ M W W' ∧ I xs W'
  | .ret, _, W' => Kq n₀ M W W' ∧ E W'
  | .exit _, _, _ => False
  | .goto _, _, _ => False
  | .panic _, _, _ => False
  | .outgrown, _, _ => False
theorem range_L {α : Type} {g : Operand} {ps : Array Tmp} {assign body : Code} {Q : Exit → Act → World → Prop} {a : Act} {w : World} {n : Nat} {P : Program}
    (h1 : 1 ≤ n) {gf : Nat} {lb : Array Value} (hg : a.eval g = .func (.func gf) #[] lb) (eg : ∀ args w, (callFunc gf args).run P w = .ok (.enter gf args) w)
    {encs : α → Array Value} {L : List α} {n₀ : Nat} {w0 : World} (M : World → Nat → Prop) (N : Nat → Prop) (hseq : SeqL P gf lb encs n₀ L w0 M N) (hb0 : Below w0.heap.size w0 w) (hn : n₀ ≤ w.heap.size) (hps : ∀ x, (encs x).size = ps.size)
    (I : List α → World → Prop) (E : World → Prop) (hE : ∀ W o o', E W → W.heap[w.heap.size + 1]? = some o → o.isCells = false → E (W.putObj (w.heap.size + 1) o')) (hO : OwnM n₀ w.heap.size M I) (hN : ∀ pre W, I pre W → ∀ b, N b → ¬ M W b) (h0 : I [] w) (Ax : α → Act → World → Prop)
    (hAx : ∀ x a' W l o o', Ax x a' W → w.heap.size ≤ l → W.heap[l]? = some o → o.isCells = false → Ax x a' (W.putObj l o'))
    (hassign : ∀ (l : Nat) (pre : List α) (x : α) (W : World) (K : Act → World → Prop), I pre W → pre ++ [x] <+: L → w.heap.size + 2 ≤ W.heap.size → (∀ a' W', Kq n₀ M W W' → I pre W' → Ax x a' W' → K a' W') →
      assign.wpIn (Fence.wide.inRound l) (n - 1 - 1) P (Exit.then K (fun _ _ _ => False)) { tmps := (ps.zip (encs x)).foldl (fun t (p, v) => t.setIfInBounds p v) a.tmps, defers := [] } W)
    (hbody : ∀ (l : Nat) (pre : List α) (x : α) (a' : Act) (W : World), I pre W → Ax x a' W → pre ++ [x] <+: L → w.heap.size + 2 ≤ W.heap.size → body.wpIn (Fence.wide.inRound l) (n - 1 - 1) P (postL n₀ M I E (pre ++ [x]) W) a' W)
    (hdone : ∀ (W : World), I L W → w.heap.size + 2 ≤ W.heap.size → W.heap[w.heap.size]? = some (.deferred (some [])) → Q .normal { a with defers := { target := .collected w.heap.size, args := #[] } :: a.defers } W)
    (hstop : ∀ (W : World), E W → w.heap.size + 2 ≤ W.heap.size → W.heap[w.heap.size]? = some (.deferred (some [])) → Code.ret.wpIn Fence.wide n P Q { a with defers := { target := .collected w.heap.size, args := #[] } :: a.defers } W) :
    (Code.rangeFunc g ps assign body).wpIn Fence.wide n P Q a w := by
  refine wpIn_rangeFunc fun fn hfn => ?_
  rw [show Fence.wide.round = none from rfl]
  obtain ⟨r0, hr0⟩ : ∃ r0 : Loop, r0 = { state := .ready, pending := none, fn, tmps := a.tmps, params := ps, assign, body, defers := w.heap.size } := ⟨_, rfl⟩
  obtain ⟨W1, hW1⟩ : ∃ W1, W1 = (w.alloc (.deferred (some []))).alloc (.loop r0) := ⟨_, rfl⟩
  have hsz : W1.heap.size = w.heap.size + 2 := by rw [hW1]; simp
  have R1 : Rec w.heap.size r0 W1 := by
    constructor
    · have := World.alloc_heap_new (w.alloc (.deferred (some []))) (.loop r0)
      rw [World.size_alloc] at this
      rw [hW1]; exact this
    · rw [hW1]; exact (Below.heap_alloc _ _ _ (by simp)).trans (World.alloc_heap_new w _)
  have b1 : Below w0.heap.size w0 W1 := by
    rw [hW1]; exact hb0.trans ((((Below.refl _ w).alloc (Nat.le_refl _) _).alloc (by simp) _).mono hb0.size)
  have i1 : I [] W1 := by rw [hW1]; exact hO.alloc (hO.alloc h0 hn (Nat.le_refl _) _) (by simp; omega) (by simp) _
  refine ⟨w.heap.size + 1, [{ target := .collected w.heap.size, args := #[] }], W1, { target := .fn (.func gf) lb, args := #[.func (.yield (w.heap.size + 1)) #[] #[]] }, W1, gf,
    #[.func (.yield (w.heap.size + 1)) #[] #[]] ++ lb, W1, by rw [hW1, hr0]; exact run_enterLoop_outer _ _ _ _ _, by simp only [resolve, hg]; simp [go_sem],
    fun f' hf' => trivial, by simp [invoke, go_sem, eg], fun _ => h1, ?_⟩
  have hJO : OwnM n₀ W1.heap.size M (fun pre W => I pre W ∧ Rec w.heap.size r0 W) :=
    ⟨fun s W W' hs hB hlow hM => ⟨hO.keep s W W' hs.1 hB (fun b hb => hlow b (by omega)) hM, ⟨(hlow _ (by omega)).trans hs.2.loop, (hlow _ (by omega)).trans hs.2.defs⟩⟩, fun s W W' hs => hO.read s W W' hs.1, fun s W b hs => hO.cells s W b hs.1⟩
  refine ((callsIn_wide).2 (hseq (w.heap.size + 1) _ (fun W => E W ∧ Rec w.heap.size { r0 with state := .done, pending := some .ret } W) W1 b1 (by omega) hJO (fun pre W h => hN pre W h.1) ?_ ⟨i1, R1⟩)).mono ?_
  · rintro pre x W ⟨hi, hR⟩ hpre hm
    have hm' : w.heap.size + 2 ≤ W.heap.size := by omega
    have hy := run_yield (P := P) (args := encs x) hR.loop (by rw [hr0]; exact hps x)
    rw [show r0.fn = fn by rw [hr0], show r0.assign = assign by rw [hr0], show r0.body = body by rw [hr0], show r0.tmps = a.tmps by rw [hr0], show r0.params = ps by rw [hr0]] at hy
    refine ⟨n - 1 - 1, fn, _, assign, body, hy, roundIn_of_wpIn hfn (hassign _ pre x W _ hi hpre hm' fun a' Wa hka hia hax => ?_)⟩
    have nM0 : ¬ M W (w.heap.size + 1) := hO.notOther hi hR.loop rfl
    have nD0 : ¬ M W w.heap.size := hO.notOther hi hR.defs rfl
    have hRa : Rec w.heap.size r0 Wa := ⟨(hka.2.1 _ (by omega) nM0).trans hR.loop, (hka.2.1 _ (by omega) nD0).trans hR.defs⟩
    refine ⟨_, run_beginRound hRa.loop (by rw [hr0]), ?_⟩
    have hR2 := hRa.put { r0 with state := .busy }
    have hsa := hka.size
    have i2 := hO.put hia (.loop { r0 with state := .busy }) (by omega : n₀ ≤ w.heap.size + 1) (by omega) hRa.loop rfl
    refine wpIn_mono (hbody _ pre x a' _ i2 (hAx x a' Wa _ _ _ hax (by omega) hRa.loop rfl) hpre (by simp; omega)) ?_
    rintro e a3 W3 hp
    cases e with
    | normal =>
      obtain ⟨hk, hi3⟩ := hp
      have nM2 : ¬ M (Wa.putObj (w.heap.size + 1) (.loop { r0 with state := .busy })) (w.heap.size + 1) := hO.notOther i2 hR2.loop rfl
      have nD2 : ¬ M (Wa.putObj (w.heap.size + 1) (.loop { r0 with state := .busy })) w.heap.size := hO.notOther i2 hR2.defs rfl
      have hR3 : Rec w.heap.size { r0 with state := .busy } W3 := ⟨(hk.2.1 _ (by simp; omega) nM2).trans hR2.loop, (hk.2.1 _ (by simp; omega) nD2).trans hR2.defs⟩
      have hrun := run_endRound (P := P) none hR3.loop
      have er : ({ ({ r0 with state := .busy } : Loop) with state := if (none : Option Code).isNone then .ready else .done, pending := none } : Loop) = r0 := by rw [hr0]; rfl
      rw [er] at hrun
      have hR4 := hR3.put r0
      have i4 := hO.put hi3 (.loop r0) (by omega : n₀ ≤ w.heap.size + 1) (by omega) hR3.loop rfl
      refine ⟨_, _, hrun, .inl ⟨rfl, ⟨i4, hR4⟩, ?_⟩⟩
      have h3s := hk.size
      simp at h3s
      refine ⟨((hka.1.trans (below_put n₀ Wa _ _ (by omega))).trans hk.1).trans (below_put n₀ W3 _ _ (by omega)), fun b hb hm => ?_, fun b hb hm => ?_⟩
      · by_cases e : b = w.heap.size + 1
        · rw [e, hR4.loop, hR.loop]
        · refine (World.putObj_heap_other (fun e' => e (by omega))).trans ?_
          refine (hk.2.1 b (by simp; omega) (fun h => hm (hka.2.2 b hb (hO.putM hia _ hRa.loop rfl h)))).trans ?_
          exact (World.putObj_heap_other (fun e' => e (by omega))).trans (hka.2.1 b hb hm)
      · have m3 := hO.putM hi3 _ hR3.loop rfl hm
        exact hka.2.2 b hb (hO.putM hia _ hRa.loop rfl (hk.2.2 b (by simp; omega) m3))
    | ret =>
      obtain ⟨hk, hi3⟩ := hp
      have nM2 : ¬ M (Wa.putObj (w.heap.size + 1) (.loop { r0 with state := .busy })) (w.heap.size + 1) := hO.notOther i2 hR2.loop rfl
      have nD2 : ¬ M (Wa.putObj (w.heap.size + 1) (.loop { r0 with state := .busy })) w.heap.size := hO.notOther i2 hR2.defs rfl
      have hR3 : Rec w.heap.size { r0 with state := .busy } W3 := ⟨(hk.2.1 _ (by simp; omega) nM2).trans hR2.loop, (hk.2.1 _ (by simp; omega) nD2).trans hR2.defs⟩
      have hrun := run_endRound (P := P) (some .ret) hR3.loop
      have h3s := hk.size
      simp at h3s
      exact ⟨_, _, hrun, .inr ⟨rfl, ⟨hE W3 _ _ hi3 hR3.loop rfl, hR3.put _⟩, by simp; omega⟩⟩
    | exit id => exact hp.elim
    | goto t => exact hp.elim
    | panic ch => exact hp.elim
    | outgrown => exact hp.elim
  · rintro e W2 ⟨⟨v, rfl⟩, ⟨hi, hR⟩ | ⟨hi, hR⟩, hs2⟩
    case inr => exact ⟨some .ret, _, run_endLoop hR.loop (by simp), hstop _ (hE W2 _ _ hi hR.loop rfl) (by simp; omega) (hR.put _).defs⟩
    have hrun := run_endLoop (P := P) hR.loop (by rw [hr0]; simp)
    rw [show r0.pending = none by rw [hr0]] at hrun
    exact ⟨none, _, hrun, hdone _ (hO.put hi _ (by omega) (by omega) hR.loop rfl) (by simp; omega) (hR.put _).defs⟩
end Go.Proofs.YtgfienijabkpjaaDoor
/-
  The program's iterator cellsFrom where a round may leave: the pairs from a word on, each pointed at.
-/
namespace Go.Proofs.YtgfienijabkpjaaDoor
open Go.RowKit Go.Extern.Stop Go.Stop Go.Extern Num Go.Lib Go.Shelf
set_option maxRecDepth 100000 in
set_option maxHeartbeats 2000000 in
theorem cells_seqL (l : List Pai) (t : Vlu) (hh : heapFault l = 0) (hah : aheadV l.length t) (n₀ B h wb hb : Nat) (v : Value) (bs : List Nat) (w : World) (K : ∀ u, Below n₀ w u → HpAt u B h v bs (wordsP l)) (hn : n₀ ≤ w.heap.size) (hwb : WBox wb (wdOf t) w) (hhb : w.cell? ⟨hb, 0, none⟩ = some (.pointer (some ⟨h, 0, none⟩))) (M : World → Nat → Prop) (N : Nat → Prop) (hN : N hb) (hbs : ∀ (k : Nat) (hk : k < bs.length), bs[k] < n₀) :
    SeqL Tryd.prog 109 #[.pointer (some ⟨wb, 0, none⟩), .pointer (some ⟨hb, 0, none⟩)] (fun k : Nat => #[.pointer (some ⟨bs.getD k 0, 0, none⟩)]) n₀ (allI l t) w M N := fun y J E W hW hnW hO hNM hY h0 => by
  have hlen : bs.length = l.length := by rw [(K w (Below.refl _ _)).len, wordsP_len]
  have hl4 := fault_len hh
  show Calls Tryd.prog _ #[.func (.yield y) #[] #[], .pointer (some ⟨wb, 0, none⟩), .pointer (some ⟨hb, 0, none⟩)] W _
  have hwbW := hwb.below hW
  have c0 := hwbW.c0
  have c1 := hwbW.c1
  have hF : ∀ f, Fence.wide.fn f := fun _ => trivial
  refine (callsIn_wide (n := 10)).1 ?_
  refine callsIn_of_wp Tryd.func109 rfl (hF _) ?_ rfl
  simp only [Tryd.ntmps109, List.size_toArray, List.length_cons, List.length_nil, Nat.reduceAdd, Nat.reduceSub, Array.replicate_succ, Array.replicate_zero, List.push_toArray, List.append_toArray, List.nil_append, List.cons_append]
  have j0 : J [] (W.alloc (.cells #[.int .u8 (wdOf t).tag, .int .u64 (wdOf t).rest] 74)) := hO.alloc h0 hnW (Nat.le_refl _) _
  have k0 : Kq n₀ M W (W.alloc (.cells #[.int .u8 (wdOf t).tag, .int .u64 (wdOf t).rest] 74)) := kq_alloc hO h0 hnW _
  have m0 : ¬ M (W.alloc (.cells #[.int .u8 (wdOf t).tag, .int .u64 (wdOf t).rest] 74)) W.heap.size := fun hm => by have := hO.lt h0 (hO.allocM h0 _ hm); omega
  have x0 : WBox W.heap.size (wdOf t) (W.alloc (.cells #[.int .u8 (wdOf t).tag, .int .u64 (wdOf t).rest] 74)) := WBox.new W _ _
  gi_wp2
  gi_loopw [4, 5] (fun p _ wr => ∃ j b : Nat, p = .pointer (some ⟨b, 0, none⟩) ∧ Hid (J (idxV l j t) wr ∧ Kq n₀ M W wr ∧ W.heap.size ≤ b ∧ ¬ M wr b ∧ (idxV l j t).length = j) ∧ WBox b (wdOf (goV l j t)) wr) (fun p _ wr => msV p wr)
  case atStart => exact ⟨0, W.heap.size, rfl, ⟨j0, k0, Nat.le_refl _, m0, rfl⟩, x0⟩
  case round =>
    obtain ⟨j, b, rfl, HJ, hx⟩ := hrel
    obtain ⟨jJ, jK, hbW, hbM, hjl⟩ := HJ.out
    have hga := goV_ahead hh j l.length t (Nat.le_refl _) hah
    have hsr := jK.size
    have hbr := hx.lt
    by_cases hk : (goV l j t).kind = 5
    · obtain ⟨k, hkl, hnum, hkj, hgo, hhd, hix⟩ := step_at hh hah j hk
      have X0 := hx.c0
      have X1 := hx.c1
      rw [wd_tag hga.1.1, hk] at X0
      rw [wd_rest hga.1.1 hk, hnum] at X1
      have hbl : hb < w.heap.size := lt_of_cell hhb
      have hbM0 : ¬ M W hb := hNM _ W h0 hb hN
      have ch : wr.cell? ⟨hb, 0, none⟩ = some (.pointer (some ⟨h, 0, none⟩)) := (jK.cell (by have := hW.size; omega) hbM0).trans ((hW.cell (p := ⟨hb, 0, none⟩) hbl).trans hhb)
      have hKr := K wr ((hW.mono hn).trans jK.1)
      have hkb : k < bs.length := by omega
      have hW4 : (wordsP l).length ≤ 4000 := by rw [wordsP_len]; exact hl4
      have HC : Hid (CallsIn Fence.wide (10 - 1) Tryd.prog 78 #[.pointer (some ⟨h, 0, none⟩), .agg #[.int .u8 5, .int .u64 (k : Int)]] wr fun e w' => e = .returned (.pointer (some ⟨bs[k], 0, none⟩)) ∧ Below wr.heap.size wr w') := (callsIn_wide).2 (cellAt_any B h k v bs (wordsP l) ⟨5, (k : Int)⟩ wr hKr hW4 hkb rfl)
      have HD : Hid (∀ u, Below n₀ w u → u.cell? ⟨bs[k], 2, none⟩ = some (.int .u8 (wdOf (goV l (j + 1) t)).tag) ∧ u.cell? ⟨bs[k], 3, none⟩ = some (.int .u64 (wdOf (goV l (j + 1) t)).rest)) := fun u hu => by
        have hkw : k < (wordsP l).length := by rw [wordsP_len]; exact hkl
        have he := (K u hu).each k hkb hkw
        have e1 : (wordsP l)[k]'hkw = (wdOf (l[k]'hkl).head, wdOf (l[k]'hkl).tail) := by simp [wordsP]
        rw [e1] at he
        rw [hgo]
        exact ⟨he.c2, he.c3⟩
      have HP : Hid (idxV l j t ++ [k] <+: allI l t ∧ idxV l (j + 1) t = idxV l j t ++ [k]) := ⟨by
        rw [← hix]; unfold allI
        have := idxV_pre (l := l) (j + 1) (l.length - (j + 1)) t
        rwa [show j + 1 + (l.length - (j + 1)) = l.length by omega] at this, hix⟩
      have hgd : bs.getD k 0 = bs[k] := by simp [hkb]
      have hms : msV (.pointer (some ⟨b, 0, none⟩)) wr = k + 1 := by rw [msV_of X0 X1]; simp
      have HMS : Hid (msV (.pointer (some ⟨b, 0, none⟩)) wr = k + 1 ∧ ((goV l (j + 1) t).kind = 5 → (goV l (j + 1) t).num.toNat < k)) := ⟨hms, fun h5 => by
        have := pair_ahead hh k hkl
        rw [hgo] at h5 ⊢
        have := this.2.2 h5
        omega⟩
      have HJL : Hid ((idxV l j t).length = j) := hjl
      have hv1 : vfault (goV l (j + 1) t) = 0 := (goV_ahead hh (j + 1) l.length t (Nat.le_refl _) hah).1.1
      have HV1 : Hid (vfault (goV l (j + 1) t) = 0) := hv1
      clear hms hgo hhd hix hnum hjl hv1
      have HBK : Hid (bs[k] < n₀) := hbs k hkb
      generalize bs[k] = bk at HC HD hgd HBK
      gi_wp2_with fail
      refine HC.out.mono ?_
      rintro e w2 ⟨rfl, b2⟩
      have j2 : J (idxV l j t) w2 := own_belowM hO jJ b2 (by omega) hsr
      have k2 : Kq n₀ M W w2 := jK.trans (kq_below hO jJ b2 (by omega))
      have hb2 : ¬ M w2 b := fun hm => hbM ((kq_below hO jJ b2 (by omega : n₀ ≤ wr.heap.size)).2.2 b hbr hm)
      have hx2 := hx.below b2
      obtain ⟨kk, fn, tmps, assign, body, hy, hR⟩ := hY (idxV l j t) k w2 j2 HP.out.1 k2.size
      rw [hgd] at hy
      have hR' := roundIn_wide (m := 10 - 1) hR
      clear hR hY HC X0 X1 ch
      have hbn : n₀ ≤ b := by omega
      gi_wp2_with fail
      refine hR'.mono ?_
      rintro r w3 (⟨rfl, j3, k3⟩ | ⟨rfl, eE, es⟩)
      case inr =>
        have hsz : W.heap.size ≤ w3.heap.size := by have := k2.size; omega
        gi_wp2
        exact bodyPost_ret (v := .tuple #[]) (by simp [results, Tryd.results109]) rfl ⟨⟨_, rfl⟩, .inr eE, hsz⟩
      have hx3 : WBox b (wdOf (goV l j t)) w3 := hx2.same (k3.2.1 b hx2.lt hb2)
      have q0 := hx3.c0
      have q1 := hx3.c1
      have qf := hx3.fz
      have qd := HD.out w3 ((hW.mono hn).trans (k2.trans k3).1)
      have d2 := qd.1
      have d3 := qd.2
      gi_wp2
      have hne : bk ≠ b := fun e => by
        have h1 : bk < n₀ := HBK.out
        omega
      obtain ⟨x', hx'⟩ : ∃ x', x' = wdOf (goV l (j + 1) t) := ⟨_, rfl⟩
      rw [← hx']
      obtain ⟨w4, hw4⟩ : ∃ w4, w4 = (w3.setCell ⟨b, 0, none⟩ (.int .u8 x'.tag)).setCell ⟨b, 1, none⟩ (.int .u64 x'.rest) := ⟨_, rfl⟩
      rw [← hw4]
      have same4 : ∀ c, c ≠ b → w4.heap[c]? = w3.heap[c]? := fun c hc => by rw [hw4]; exact (Below.heap_setCell _ _ _ _ hc).trans (Below.heap_setCell _ _ _ _ hc)
      have s4 : w4.heap.size = w3.heap.size := by rw [hw4]; simp
      have b4 : Below n₀ w3 w4 := by rw [hw4]; exact ((Below.refl _ _).setCell hbn _).setCell hbn _
      have m3 : ¬ M w3 b := fun hm => hb2 (k3.2.2 b hx2.lt hm)
      have j3' : J (idxV l (j + 1) t) w3 := by rw [HP.out.2]; exact j3
      have hs3 : W.heap.size ≤ w3.heap.size := (k2.trans k3).size
      have j4 : J (idxV l (j + 1) t) w4 := hO.keep _ w3 w4 j3' b4 (fun c hc => same4 c (by omega)) (fun c hc => same4 c (fun e => m3 (e ▸ hc)))
      have k4 : Kq n₀ M W w4 := kq_turn hO j3' (k2.trans k3) hbW m3 b4 same4
      have xn := WBox.new w4 x' 74
      rw [s4] at xn
      refine ⟨⟨j + 1, w3.heap.size, rfl, ⟨hO.alloc j4 (by omega) (by omega) _, k4.trans (kq_alloc hO j4 (by omega) _), hs3, fun hm => ?_, ?_⟩, by rw [← hx']; exact xn⟩, ?_⟩
      · have := hO.lt j4 (hO.allocM j4 _ hm); omega
      · rw [HP.out.2, List.length_append, HJL.out]; rfl
      · rw [HMS.out.1, msV_of xn.c0 xn.c1, hx']
        by_cases h5 : (goV l (j + 1) t).kind = 5
        · rw [wd_tag HV1.out, if_pos h5, wd_rest HV1.out h5]
          have := HMS.out.2 h5
          omega
        · rw [wd_tag HV1.out, if_neg h5]; omega
    · have hk' : ((wdOf (goV l j t)).tag == 5) = false := by rw [wd_tag hga.1.1]; simpa using hk
      have X0 := hx.c0
      have hall := allI_at hh hah hk
      have JL : J (allI l t) wr := by rw [hall]; exact jJ
      clear hall
      gi_wp2
      exact bodyPost_end (v := .tuple #[]) (by simp [results, Tryd.results109]) rfl ⟨⟨_, rfl⟩, .inl JL, hsr⟩
end Go.Proofs.YtgfienijabkpjaaDoor
/-
  A region that draws its order, within a fence that lets every function in, in a round or not: an operation that yields one value in every world that meets a condition, and leaves that world, may be taken first, if the condition holds behind every operation.
-/
namespace Go.Proofs.YtgfienijabkpjaaDoor
open Go

section
variable {F : Fence} {n : Nat} {P : Program} {ops : Array Oper} {Q : Exit → Act → World → Prop} {md : Region.Mode} {S : World → Prop} {z : Nat}
def noDef (ops : Array Oper) : Bool := ops.all fun o => match o.op with | .defer _ => false | _ => true
theorem noDef_spec (h : noDef ops = true) {j : Nat} {o : Oper} (ho : ops[j]? = some o) : ∀ c, o.op ≠ .defer c := by
  intro c e
  have := Array.all_eq_true_iff_forall_mem.1 h o (Array.mem_of_getElem? ho)
  simp [e] at this
/-- Number z waits for number i (or there is no such number). -/
def waits (md : Region.Mode) (ops : Array Oper) (z i : Nat) : Bool := match ops[z]? with | some o => o.after.toList.any (fun e => Region.binds md e && e.on == i) | none => true
theorem waits_spec {z i : Nat} {o : Oper} (h : waits md ops z i = true) (ho : ops[z]? = some o) : ∃ e ∈ o.after, Region.binds md e = true ∧ e.on = i := by
  unfold waits at h
  rw [ho] at h
  obtain ⟨e, he, hb⟩ := List.any_eq_true.1 h
  simp at hb
  exact ⟨e, by simpa using he, hb.1, hb.2⟩
/-- Whatever order is picked from here on, the condition holding behind every operation but number z. -/
def anyH (F : Fence) (n : Nat) (P : Program) (md : Region.Mode) (ops : Array Oper) (Q : Exit → Act → World → Prop) (S : World → Prop) (z : Nat) : Nat → Array Bool → Act → World → Prop
  | 0, listed, a, w => Region.ready md ops listed = [] ∧ Q .normal a w
  | k + 1, listed, a, w => (Region.ready md ops listed = [] → Q .normal a w) ∧
      ∀ i ∈ Region.ready md ops listed, wpOpIn F n P ops Q i (fun a' w' => (i ≠ z → S w') ∧ anyH F n P md ops Q S z k (listed.setIfInBounds i true) a' w') a w
theorem any_of_anyH : ∀ (k : Nat) (listed : Array Bool) (a : Act) (w : World), anyH F n P md ops Q S z k listed a w → wpAnyIn F n P md ops Q k listed a w
  | 0, _, _, _, h => h
  | k + 1, _, _, _, h => ⟨h.1, fun i hi => wpOpIn_mono (fun a' w' h' => any_of_anyH k _ a' w' h'.2) (h.2 i hi)⟩
theorem op_of_yields (hF : ∀ f, F.fn f) {i : Nat} {o : Oper} {v : Value} {a : Act} (hi : ops[i]? = some o) (hnd : ∀ c, o.op ≠ .defer c) (hy : YieldsIf P ops S o v a) {K : Act → World → Prop} {w : World} (hS : S w) (h : K (a.put o.dst v) w) :
    wpOpIn F n P ops Q i K a w := by
  unfold wpOpIn
  simp only [hi]
  rcases hy with ⟨hw, hv⟩ | ⟨hw, rfl⟩
  · simp only [hw, if_true, Oper.wpIn, Oper.semAt_eq _ _ _ hnd, hv w hS, Oper.uponIn]
    exact ⟨fun f _ => hF f, h⟩
  · simp only [hw, Bool.false_eq_true, if_false]
    exact ⟨fun f _ => hF f, h⟩
/-- An operation that is apart from one that yields: it does not matter which comes first. -/
theorem op_swap (hF : ∀ f, F.fn f) {j : Nat} {oi oj : Oper} {v : Value} (hj : ops[j]? = some oj) (hnd : ∀ c, oj.op ≠ .defer c) (hap : oi.apart ops oj = true) (hsi : ∀ cs b, oi.op ≠ .select cs b) (hsj : ∀ cs b, oj.op ≠ .select cs b)
    (hQ : ∀ c a w, Q (.panic c) (a.put oi.dst v) w → Q (.panic c) a w) {K : Act → World → Prop} {a : Act} {w : World} (hy : YieldsIf P ops S oi v a) (h : wpOpIn F n P ops Q j K (a.put oi.dst v) w) :
    wpOpIn F n P ops Q j (fun a' w' => YieldsIf P ops S oi v a' ∧ K (a'.put oi.dst v) w') a w := by
  obtain ⟨h1, h2, h3⟩ := Oper.apart_spec hap
  have keep : ∀ a' : Act, YieldsIf P ops S oi v a' → ∀ u, YieldsIf P ops S oi v (a'.put oj.dst u) := fun a' hy' u => hy'.of_same (execOp_put oi hsi a' oj.dst u h3) (wanted_put oi a' oj.dst u h3)
  have comm : ∀ (u : Value) (w' : World), K ((a.put oi.dst v).put oj.dst u) w' → YieldsIf P ops S oi v (a.put oj.dst u) ∧ K ((a.put oj.dst u).put oi.dst v) w' := fun u w' hk => ⟨keep a hy u, by rw [← Act.put_comm a v u h2]; exact hk⟩
  unfold wpOpIn at h ⊢
  simp only [hj] at h ⊢
  rw [wanted_put oj a oi.dst v h1] at h
  by_cases hw : Region.wanted oj (yielded ops a.tmps) = true
  · rw [if_pos hw] at h ⊢
    refine ⟨fun f _ => hF f, ?_⟩
    have hr := h.2
    rw [Oper.semAt_eq _ _ _ hnd, execOp_put oj hsj a oi.dst v h1] at hr
    rw [Oper.semAt_eq _ _ _ hnd]
    generalize (execOp a.eval oj).run P w = r at hr ⊢
    cases r with
    | ok x w' =>
      cases x with
      | value u => exact comm u w' hr
      | skip => exact comm undef w' hr
      | defer d =>
        simp only [Oper.uponIn] at hr ⊢
        have hyd : YieldsIf P ops S oi v { a with defers := d :: a.defers } := hy.of_same rfl rfl
        refine ⟨keep _ hyd _, ?_⟩
        rw [← Act.put_comm _ v undef h2, ← Act.put_defers]
        exact hr
      | enter f args =>
        simp only [Oper.uponIn] at hr ⊢
        refine ⟨hr.1, CallsIn.mono hr.2 fun e w'' he => ?_⟩
        cases e with
        | returned u => exact comm u w'' he
        | panicked c => exact hQ _ _ _ he
        | outgrown => exact he
      | row row args =>
        simp only [Oper.uponIn] at hr ⊢
        exact ⟨hr.1, RowsIn.mono hr.2 fun u w'' he => comm u w'' he⟩
      | round l f tmps assign body =>
        simp only [Oper.uponIn] at hr ⊢
        refine ⟨hr.1, RoundIn.mono hr.2 fun e w'' he => ?_⟩
        cases e with
        | returned u => exact comm u w'' he
        | panicked c => exact hQ _ _ _ he
        | outgrown => exact he
      | _ => exact hr.elim
    | halt x w' =>
      cases x with
      | panic u => exact hQ _ _ _ hr
      | _ => exact hr.elim
  · rw [if_neg hw] at h ⊢
    exact ⟨fun f _ => hF f, comm undef w h.2⟩
theorem anyH_first (hF : ∀ f, F.fn f) (hnd : noDef ops = true) {i : Nat} {oi : Oper} {v : Value} (hzi : waits md ops z i = true) (hi : ops[i]? = some oi) (hsel : ∀ (j : Nat) (o : Oper) cs b, ops[j]? = some o → o.op ≠ .select cs b) (hQ : ∀ c a w, Q (.panic c) (a.put oi.dst v) w → Q (.panic c) a w) :
    ∀ (k : Nat) (listed : Array Bool) (a : Act) (w : World), (∀ j oj, ops[j]? = some oj → j ≠ i → listed.getD j true = false → (∀ e ∈ oj.after, Region.binds md e = true → e.on ≠ i) → oi.apart ops oj = true) →
      i ∈ Region.ready md ops listed → YieldsIf P ops S oi v a → S w → anyH F n P md ops Q S z k (listed.setIfInBounds i true) (a.put oi.dst v) w → anyH F n P md ops Q S z (k + 1) listed a w := by
  intro k
  induction k with
  | zero =>
    intro listed a w _ hr hy hS H
    refine ⟨fun h => (by rw [h] at hr; cases hr), fun j hj => ?_⟩
    by_cases hji : j = i
    · subst hji; exact op_of_yields hF hi (noDef_spec hnd hi) hy hS ⟨fun _ => hS, H⟩
    · have := ready_mono hj hji
      rw [H.1] at this; cases this
  | succ k ih =>
    intro listed a w hfree hr hy hS H
    refine ⟨fun h => (by rw [h] at hr; cases hr), fun j hj => ?_⟩
    by_cases hji : j = i
    · subst hji; exact op_of_yields hF hi (noDef_spec hnd hi) hy hS ⟨fun _ => hS, H⟩
    · obtain ⟨hjun, oj, hoj, hall⟩ := mem_ready.1 hj
      have hnot : ∀ e ∈ oj.after, Region.binds md e = true → e.on ≠ i := fun e he hb heq => by
        have g1 := hall e he hb
        have g0 := (mem_ready.1 hr).1
        rw [heq] at g1
        rcases Nat.lt_or_ge i listed.size with g | g
        · simp [g] at g0 g1; rw [g0] at g1; cases g1
        · simp [Array.getElem?_eq_none g] at g1
      have hsw := op_swap hF hoj (noDef_spec hnd hoj) (hfree j oj hoj hji hjun hnot) (fun cs b => hsel i oi cs b hi) (fun cs b => hsel j oj cs b hoj) hQ hy (H.2 j (ready_mono hj hji))
      have hjz : j ≠ z := fun e => by
        subst e
        obtain ⟨e, he, hb, hon⟩ := waits_spec hzi hoj
        exact hnot e he hb hon
      refine wpOpIn_mono (fun a' w' h3 => ⟨h3.2.1, ih _ a' w' (fun k' ok hk hki hun hno => hfree k' ok hk hki ?_ hno) (ready_mono hr (Ne.symm hji)) h3.1 (h3.2.1 hjz) ?_⟩) hsw
      · by_cases hjk : j = k'
        · subst hjk; exact hjun
        · rw [getD_set_ne true hjk] at hun; exact hun
      · rw [Array.setIfInBounds_comm _ _ hji]; exact h3.2.2
/-- Number i is taken first. -/
theorem anyH_take (hF : ∀ f, F.fn f) (hnd : noDef ops = true) {i : Nat} {oi : Oper} {v : Value} {d : Option Tmp} {k : Nat} {listed : Array Bool} {a : Act} {w : World} (hzi : waits md ops z i = true) (hi : ops[i]? = some oi) (hd : oi.dst = d) (hs : Region.noSelect ops = true) (hf : Region.free md ops listed i = true) (hr : (Region.ready md ops listed).contains i = true)
    (hQ : ∀ c a w, Q (.panic c) (a.put d v) w → Q (.panic c) a w) (hS : S w) (hy : YieldsIf P ops S oi v a) (h : anyH F n P md ops Q S z k (listed.setIfInBounds i true) (a.put d v) w) : anyH F n P md ops Q S z (k + 1) listed a w := by
  subst hd
  exact anyH_first hF hnd hzi hi (Region.noSelect_spec hs) hQ k listed a w (Region.free_spec hi hf) (by simpa using hr) hy hS h
theorem op_step {i : Nat} {o : Oper} {K : Act → World → Prop} {a : Act} {w : World} (ho : ops[i]? = some o) (hw : Region.wanted o (yielded ops a.tmps) = true) (h : o.wpIn F n P a w K Q) : wpOpIn F n P ops Q i K a w := by
  unfold wpOpIn
  simp only [ho, hw, if_true]
  exact h
/-- One operation alone may come up. -/
theorem anyH_one {i : Nat} {k : Nat} {listed : Array Bool} {a : Act} {w : World} (hr : Region.ready md ops listed = [i])
    (h : wpOpIn F n P ops Q i (fun a' w' => (i ≠ z → S w') ∧ anyH F n P md ops Q S z k (listed.setIfInBounds i true) a' w') a w) : anyH F n P md ops Q S z (k + 1) listed a w :=
  ⟨fun h0 => (by rw [hr] at h0; cases h0), fun j hj => (by rw [hr] at hj; obtain rfl := List.mem_singleton.1 hj; exact h)⟩
/-- One of two may come up. -/
theorem anyH_two {i j : Nat} {k : Nat} {listed : Array Bool} {a : Act} {w : World} (hr : Region.ready md ops listed = [i, j])
    (h : wpOpIn F n P ops Q i (fun a' w' => (i ≠ z → S w') ∧ anyH F n P md ops Q S z k (listed.setIfInBounds i true) a' w') a w) (h' : wpOpIn F n P ops Q j (fun a' w' => (j ≠ z → S w') ∧ anyH F n P md ops Q S z k (listed.setIfInBounds j true) a' w') a w) : anyH F n P md ops Q S z (k + 1) listed a w :=
  ⟨fun h0 => (by rw [hr] at h0; cases h0), fun x hx => (by
    rw [hr] at hx
    rcases List.mem_cons.1 hx with rfl | hx
    · exact h
    · obtain rfl := List.mem_singleton.1 hx; exact h')⟩
theorem anyH_done {listed : Array Bool} {a : Act} {w : World} (hr : Region.ready md ops listed = []) (h : Q .normal a w) : ∀ k, anyH F n P md ops Q S z k listed a w
  | 0 => ⟨hr, h⟩
  | _ + 1 => ⟨fun _ => h, by rw [hr]; simp⟩
/-- The beginning. -/
theorem region_anyH {id : Nat} {a : Act} {w : World} (hm : P.follows .mixedOrders = true) (h : anyH F n P .any ops Q S z ops.size (Array.replicate ops.size false) a w.drew) : (Code.region id ops true).wpIn F n P Q a w :=
  wpIn_region_any hm (any_of_anyH _ _ _ _ h)
end
/-- An operation in a round, within the widest fence, by the plain calculus. -/
theorem oper_plain {P : Program} {Q : Exit → Act → World → Prop} {l n : Nat} {o : Oper} {K : Act → World → Prop} {a : Act} {w : World} (hnd : ∀ c, o.op ≠ .defer c) (h : Oper.wp P o a w K Q) : o.wpIn (Fence.wide.inRound l) n P a w K Q := by
  refine ⟨fun _ _ => trivial, ?_⟩
  rw [Oper.semAt_eq _ _ _ hnd]
  unfold Oper.wp at h
  generalize (execOp a.eval o).run P w = r at h ⊢
  cases r with
  | ok x w' =>
    cases x with
    | value u => exact h
    | skip => exact h
    | defer d => exact h
    | enter f args => exact ⟨fun h0 => (by cases h0), (callsIn_wide (n := n - 1)).2 h⟩
    | row row args => exact ⟨fun h0 => (by cases h0), fun c cs _ => (by obtain ⟨v, w'', r, s⟩ := h c cs; exact ⟨v, w'', r, (stepsIn_wide).2 s⟩)⟩
    | _ => exact (h : False).elim
  | halt x w' =>
    cases x with
    | panic u => exact h
    | _ => exact (h : False).elim
theorem op_plain {P : Program} {ops : Array Oper} {Q : Exit → Act → World → Prop} {l n i : Nat} {o : Oper} {K : Act → World → Prop} {a : Act} {w : World} (ho : ops[i]? = some o) (hw : Region.wanted o (yielded ops a.tmps) = true) (hnd : ∀ c, o.op ≠ .defer c) (h : Oper.wp P o a w K Q) :
    wpOpIn (Fence.wide.inRound l) n P ops Q i K a w := op_step ho hw (oper_plain hnd h)
theorem list_plain {P : Program} {ops : Array Oper} {Q : Exit → Act → World → Prop} {l n : Nat} {o : Oper} {rest : List Oper} {a : Act} {w : World} (hg : o.guard = none) (hnd : ∀ c, o.op ≠ .defer c) (h : Oper.wp P o a w (wpListIn (Fence.wide.inRound l) n P ops Q rest) Q) :
    wpListIn (Fence.wide.inRound l) n P ops Q (o :: rest) a w := by
  show (if Region.wanted o (yielded ops a.tmps) then o.wpIn (Fence.wide.inRound l) n P a w (wpListIn (Fence.wide.inRound l) n P ops Q rest) Q else _)
  rw [if_pos (by simp [Region.wanted, hg])]
  exact oper_plain hnd h
end Go.Proofs.YtgfienijabkpjaaDoor
