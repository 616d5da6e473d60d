/-
  Iterators whose rounds own blocks that may be laid anew while the iterator goes on: what such an iterator owes, and what a range over it comes to where no round leaves the loop.
-/
import Derived.Test.YtkdhmijebkhmaaaGreatDoorKidsM
namespace Go.Proofs.YtkdhmijebkhmaaaGreatDoor
open Go.RowKit

/-- An invariant that hangs on the blocks below B, and on blocks of its own (M), which are read off themselves and are cells. -/
structure OwnM {β : Type} (n₀ B : Nat) (M : World → Nat → Prop) (J : β → World → Prop) : Prop where
  keep : ∀ s W W', J s W → Below n₀ W W' → (∀ b, b < B → W'.heap[b]? = W.heap[b]?) → (∀ b, M W b → W'.heap[b]? = W.heap[b]?) → J s W'
  read : ∀ s W W', J s W → (∀ b, M W b → W'.heap[b]? = W.heap[b]?) → ∀ b, M W' b → M W b
  cells : ∀ s W b, J s W → M W b → ∃ o : Obj, W.heap[b]? = some o ∧ o.isCells = true
section
variable {β : Type} {n₀ B : Nat} {M : World → Nat → Prop} {J : β → World → Prop}
theorem OwnM.lt (h : OwnM n₀ B M J) {s : β} {W : World} (hJ : J s W) {b : Nat} (hb : M W b) : b < W.heap.size := by
  obtain ⟨o, ho, _⟩ := h.cells s W b hJ hb
  exact (Array.getElem?_eq_some_iff.1 ho).1
theorem OwnM.notOther (h : OwnM n₀ B M J) {s : β} {W : World} (hJ : J s W) {b : Nat} {o : Obj} (ho : W.heap[b]? = some o) (hc : o.isCells = false) : ¬ M W b := fun hb => by
  obtain ⟨o', ho', hc'⟩ := h.cells s W b hJ hb
  rw [ho] at ho'
  cases ho'
  rw [hc] at hc'
  cases hc'
theorem OwnM.alloc (h : OwnM n₀ B M J) {s : β} {W : World} (hJ : J s W) (hn : n₀ ≤ W.heap.size) (hB : B ≤ W.heap.size) (o : Obj) : J s (W.alloc o) :=
  h.keep s W _ hJ ((Below.refl _ W).alloc hn o) (fun b hb => Below.heap_alloc W o b (by omega)) (fun b hb => Below.heap_alloc W o b (h.lt hJ hb))
theorem OwnM.allocM (h : OwnM n₀ B M J) {s : β} {W : World} (hJ : J s W) (o : Obj) {b : Nat} (hb : M (W.alloc o) b) : M W b :=
  h.read s W _ hJ (fun b hb => Below.heap_alloc W o b (h.lt hJ hb)) b hb
theorem below_put (n₀ : Nat) (W : World) (k : Nat) (o : Obj) (hk : n₀ ≤ k) : Below n₀ W (W.putObj k o) := ⟨rfl, rfl, rfl, by simp, fun i hi => World.putObj_heap_other (by omega)⟩
theorem OwnM.put (h : OwnM n₀ B M J) {s : β} {W : World} (hJ : J s W) {k : Nat} {o : Obj} (o' : Obj) (hn : n₀ ≤ k) (hB : B ≤ k) (ho : W.heap[k]? = some o) (hc : o.isCells = false) : J s (W.putObj k o') :=
  h.keep s W _ hJ (below_put n₀ W k o' hn) (fun b hb => World.putObj_heap_other (by omega)) (fun b hb => World.putObj_heap_other (by rintro rfl; exact h.notOther hJ ho hc hb))
theorem OwnM.putM (h : OwnM n₀ B M J) {s : β} {W : World} (hJ : J s W) {k : Nat} {o : Obj} (o' : Obj) (ho : W.heap[k]? = some o) (hc : o.isCells = false) {b : Nat} (hb : M (W.putObj k o') b) : M W b :=
  h.read s W _ hJ (fun b' hb' => World.putObj_heap_other (fun e => h.notOther hJ ho hc (by rw [e] at hb'; exact hb'))) b hb
theorem below_grown {n₀ : Nat} {W W' : World} {row : Option Nat} (hg : W.grownBy W' row) (hn : n₀ ≤ W.heap.size) (hr : ∀ r, row = some r → n₀ ≤ r) : Below n₀ W W' :=
  ⟨hg.os, hg.tape, hg.output, hg.size, fun i hi => hg.block i (by omega) (fun e => by have := hr i e.symm; omega)⟩
theorem OwnM.grown (h : OwnM n₀ B M J) {s : β} {W W' : World} {row : Option Nat} (hJ : J s W) (hg : W.grownBy W' row) (hn : n₀ ≤ W.heap.size) (hB : B ≤ W.heap.size) (hr : ∀ r, row = some r → n₀ ≤ r ∧ B ≤ r ∧ ∃ o : Obj, W.heap[r]? = some o ∧ o.isCells = false) :
    J s W' ∧ ∀ b, M W' b → M W b := by
  have hk : ∀ b, M W b → W'.heap[b]? = W.heap[b]? := fun b hb => hg.block b (h.lt hJ hb) (fun e => by
    obtain ⟨-, -, o, ho, hc⟩ := hr b e.symm
    exact h.notOther hJ ho hc hb)
  exact ⟨h.keep s W W' hJ (below_grown hg hn (fun r e => (hr r e).1)) (fun b hb => hg.block b (by omega) (fun e => by have := (hr b e.symm).2.1; omega)) hk, h.read s W W' hJ hk⟩
/-- What a round keeps: all that lies below n₀, and all blocks that were there but its own; none of these becomes its own. -/
def Kq (n₀ : Nat) (M : World → Nat → Prop) (W W' : World) : Prop := Below n₀ W W' ∧ (∀ b, b < W.heap.size → ¬ M W b → W'.heap[b]? = W.heap[b]?) ∧ ∀ b, b < W.heap.size → M W' b → M W b
theorem Kq.refl (n₀ : Nat) (M : World → Nat → Prop) (W : World) : Kq n₀ M W W := ⟨Below.refl _ _, fun _ _ _ => rfl, fun _ _ h => h⟩
theorem Kq.size {W W' : World} (h : Kq n₀ M W W') : W.heap.size ≤ W'.heap.size := h.1.size
theorem Kq.trans {A B C : World} (h : Kq n₀ M A B) (k : Kq n₀ M B C) : Kq n₀ M A C :=
  ⟨h.1.trans k.1, fun b hb hm => (k.2.1 b (Nat.lt_of_lt_of_le hb h.size) (fun hm' => hm (h.2.2 b hb hm'))).trans (h.2.1 b hb hm), fun b hb hm => h.2.2 b hb (k.2.2 b (Nat.lt_of_lt_of_le hb h.size) hm)⟩
theorem Kq.cell {W W' : World} (h : Kq n₀ M W W') {b j : Nat} (hb : b < W.heap.size) (hm : ¬ M W b) : W'.cell? ⟨b, j, none⟩ = W.cell? ⟨b, j, none⟩ := World.cell?_of_block (h.2.1 b hb hm)
theorem kq_alloc (h : OwnM n₀ B M J) {s : β} {W : World} (hJ : J s W) (hn : n₀ ≤ W.heap.size) (o : Obj) : Kq n₀ M W (W.alloc o) :=
  ⟨(Below.refl _ W).alloc hn o, fun b hb _ => Below.heap_alloc W o b hb, fun _ _ hm => h.allocM hJ o hm⟩
/-- A turn of one block that is not its own and was not there at first. -/
theorem kq_turn (h : OwnM n₀ B M J) {s : β} {A W W' : World} (hJ : J s W) (hk : Kq n₀ M A W) {k : Nat} (hA : A.heap.size ≤ k) (hm : ¬ M W k) (hb : Below n₀ W W') (hs : ∀ b, b ≠ k → W'.heap[b]? = W.heap[b]?) : Kq n₀ M A W' :=
  ⟨hk.1.trans hb, fun b hb' hm' => (hs b (by omega)).trans (hk.2.1 b hb' hm'), fun b hb' hm' => hk.2.2 b hb' (h.read s W W' hJ (fun b hb => hs b (fun e => hm (e ▸ hb))) b hm')⟩
theorem own_kq {α : Type} (h : OwnM n₀ B M J) (w : World) (hB : B ≤ w.heap.size) (hn : n₀ ≤ B) (g : List α → β) (m : Nat) : OwnFrom w.heap.size (fun (P : List α) X => J (g P) X ∧ Kq n₀ M w X ∧ ∀ b, w.heap.size ≤ b → b < w.heap.size + m → ¬ M X b) := fun P X X' row ⟨hj, hk, hc⟩ hg hr => by
  have hs := hk.size
  obtain ⟨hj', hm⟩ := h.grown hj hg (by omega) (by omega) (fun r e => ⟨by have := (hr r e).1; omega, by have := (hr r e).1; omega, (hr r e).2⟩)
  refine ⟨hj', ⟨hk.1.trans (below_grown hg (by omega) (fun r e => by have := (hr r e).1; omega)), fun b hb hnm => ?_, fun b hb h => hk.2.2 b hb (hm b h)⟩, fun b h1 h2 h => hc b h1 h2 (hm b h)⟩
  exact (hg.block b (by omega) (fun e => by have := (hr b e.symm).1; omega)).trans (hk.2.1 b hb hnm)
theorem Kq.others (h : OwnM n₀ B M J) {s : β} {W W' : World} (hJ : J s W) (hk : Kq n₀ M W W') (b : Nat) : KeepsFrom b W W' :=
  ⟨hk.size, fun k _ _ ho hc => (hk.2.1 k (Array.getElem?_eq_some_iff.1 ho).1 (h.notOther hJ ho hc)).trans ho⟩
end
/-- The contract of an iterator value over a list whose rounds never leave. -/
def SeqM {α : Type} (P : Program) (g : Nat) (lb : Array Value) (encs : α → Array Value) (n₀ : Nat) (L : List α) (w : World) : Prop :=
  ∀ (l : Nat) (M : World → Nat → Prop) (J : List α → World → Prop) (W : World), Below w.heap.size w W → n₀ ≤ W.heap.size → OwnM n₀ W.heap.size M J →
    (∀ pre x W1, J pre W1 → pre ++ [x] <+: L → W.heap.size ≤ W1.heap.size → ∃ k, YieldAt Fence.wide k P l (encs x) W1 fun e W' => e = .returned (.bool true) ∧ J (pre ++ [x]) W' ∧ Kq n₀ M W1 W') →
    J [] W → Calls P g (#[.func (.yield l) #[] #[]] ++ lb) W fun e W' => (∃ v, e = .returned v) ∧ J L W' ∧ W.heap.size ≤ W'.heap.size
/-- How a round's body ends. -/
def postM {α : Type} (n₀ : Nat) (M : World → Nat → Prop) (I : List α → World → Prop) (xs : List α) (W : World) : Exit → Act → World → Prop
  | .normal, _, W' => Kq n₀ M W W' ∧ I xs W'
  | .ret, _, _ => False
  | .exit _, _, _ => False
  | .goto _, _, _ => False
  | .panic _, _, _ => False
  | .outgrown, _, _ => False
theorem range_M {α : Type} {g : Operand} {ps : Array Tmp} {assign body : Code} {Q : Exit → Act → World → Prop} {a : Act} {w : World} {n : Nat} {P : Program}
    (h1 : 1 ≤ n) {gf : Nat} {lb : Array Value} (hg : a.eval g = .func (.func gf) #[] lb) (eg : ∀ args w, (callFunc gf args).run P w = .ok (.enter gf args) w)
    {encs : α → Array Value} {L : List α} {n₀ : Nat} {w0 : World} (hseq : SeqM P gf lb encs n₀ L w0) (hb0 : Below w0.heap.size w0 w) (hn : n₀ ≤ w.heap.size) (hps : ∀ x, (encs x).size = ps.size)
    (M : World → Nat → Prop) (I : List α → World → Prop) (hO : OwnM n₀ w.heap.size M I) (h0 : I [] w) (Ax : α → Act → World → Prop)
    (hAx : ∀ x a' W l o o', Ax x a' W → w.heap.size ≤ l → W.heap[l]? = some o → o.isCells = false → Ax x a' (W.putObj l o'))
    (hassign : ∀ (l : Nat) (pre : List α) (x : α) (W : World) (K : Act → World → Prop), I pre W → pre ++ [x] <+: L → w.heap.size + 2 ≤ W.heap.size → (∀ a' W', Kq n₀ M W W' → I pre W' → Ax x a' W' → K a' W') →
      assign.wpIn (Fence.wide.inRound l) (n - 1 - 1) P (Exit.then K (fun _ _ _ => False)) { tmps := (ps.zip (encs x)).foldl (fun t (p, v) => t.setIfInBounds p v) a.tmps, defers := [] } W)
    (hbody : ∀ (l : Nat) (pre : List α) (x : α) (a' : Act) (W : World), I pre W → Ax x a' W → pre ++ [x] <+: L → w.heap.size + 2 ≤ W.heap.size → body.wpIn (Fence.wide.inRound l) (n - 1 - 1) P (postM n₀ M I (pre ++ [x]) W) a' W)
    (hdone : ∀ (W : World), I L W → w.heap.size + 2 ≤ W.heap.size → W.heap[w.heap.size]? = some (.deferred (some [])) → Q .normal { a with defers := { target := .collected w.heap.size, args := #[] } :: a.defers } W) :
    (Code.rangeFunc g ps assign body).wpIn Fence.wide n P Q a w := by
  refine wpIn_rangeFunc fun fn hfn => ?_
  rw [show Fence.wide.round = none from rfl]
  obtain ⟨r0, hr0⟩ : ∃ r0 : Loop, r0 = { state := .ready, pending := none, fn, tmps := a.tmps, params := ps, assign, body, defers := w.heap.size } := ⟨_, rfl⟩
  obtain ⟨W1, hW1⟩ : ∃ W1, W1 = (w.alloc (.deferred (some []))).alloc (.loop r0) := ⟨_, rfl⟩
  have hsz : W1.heap.size = w.heap.size + 2 := by rw [hW1]; simp
  have R1 : Rec w.heap.size r0 W1 := by
    constructor
    · have := World.alloc_heap_new (w.alloc (.deferred (some []))) (.loop r0)
      rw [World.size_alloc] at this
      rw [hW1]; exact this
    · rw [hW1]; exact (Below.heap_alloc _ _ _ (by simp)).trans (World.alloc_heap_new w _)
  have b1 : Below w0.heap.size w0 W1 := by
    rw [hW1]; exact hb0.trans ((((Below.refl _ w).alloc (Nat.le_refl _) _).alloc (by simp) _).mono hb0.size)
  have i1 : I [] W1 := by rw [hW1]; exact hO.alloc (hO.alloc h0 hn (Nat.le_refl _) _) (by simp; omega) (by simp) _
  refine ⟨w.heap.size + 1, [{ target := .collected w.heap.size, args := #[] }], W1, { target := .fn (.func gf) lb, args := #[.func (.yield (w.heap.size + 1)) #[] #[]] }, W1, gf,
    #[.func (.yield (w.heap.size + 1)) #[] #[]] ++ lb, W1, by rw [hW1, hr0]; exact run_enterLoop_outer _ _ _ _ _, by simp only [resolve, hg]; simp [go_sem],
    fun f' hf' => trivial, by simp [invoke, go_sem, eg], fun _ => h1, ?_⟩
  have hJO : OwnM n₀ W1.heap.size M (fun pre W => I pre W ∧ Rec w.heap.size r0 W) :=
    ⟨fun s W W' hs hB hlow hM => ⟨hO.keep s W W' hs.1 hB (fun b hb => hlow b (by omega)) hM, ⟨(hlow _ (by omega)).trans hs.2.loop, (hlow _ (by omega)).trans hs.2.defs⟩⟩, fun s W W' hs => hO.read s W W' hs.1, fun s W b hs => hO.cells s W b hs.1⟩
  refine ((callsIn_wide).2 (hseq (w.heap.size + 1) M _ W1 b1 (by omega) hJO ?_ ⟨i1, R1⟩)).mono ?_
  · rintro pre x W ⟨hi, hR⟩ hpre hm
    have hm' : w.heap.size + 2 ≤ W.heap.size := by omega
    have hy := run_yield (P := P) (args := encs x) hR.loop (by rw [hr0]; exact hps x)
    rw [show r0.fn = fn by rw [hr0], show r0.assign = assign by rw [hr0], show r0.body = body by rw [hr0], show r0.tmps = a.tmps by rw [hr0], show r0.params = ps by rw [hr0]] at hy
    refine ⟨n - 1 - 1, fn, _, assign, body, hy, roundIn_of_wpIn hfn (hassign _ pre x W _ hi hpre hm' fun a' Wa hka hia hax => ?_)⟩
    have nM0 : ¬ M W (w.heap.size + 1) := hO.notOther hi hR.loop rfl
    have nD0 : ¬ M W w.heap.size := hO.notOther hi hR.defs rfl
    have hRa : Rec w.heap.size r0 Wa := ⟨(hka.2.1 _ (by omega) nM0).trans hR.loop, (hka.2.1 _ (by omega) nD0).trans hR.defs⟩
    refine ⟨_, run_beginRound hRa.loop (by rw [hr0]), ?_⟩
    have hR2 := hRa.put { r0 with state := .busy }
    have hsa := hka.size
    have i2 := hO.put hia (.loop { r0 with state := .busy }) (by omega : n₀ ≤ w.heap.size + 1) (by omega) hRa.loop rfl
    refine wpIn_mono (hbody _ pre x a' _ i2 (hAx x a' Wa _ _ _ hax (by omega) hRa.loop rfl) hpre (by simp; omega)) ?_
    rintro e a3 W3 hp
    cases e with
    | normal =>
      obtain ⟨hk, hi3⟩ := hp
      have nM2 : ¬ M (Wa.putObj (w.heap.size + 1) (.loop { r0 with state := .busy })) (w.heap.size + 1) := hO.notOther i2 hR2.loop rfl
      have nD2 : ¬ M (Wa.putObj (w.heap.size + 1) (.loop { r0 with state := .busy })) w.heap.size := hO.notOther i2 hR2.defs rfl
      have hR3 : Rec w.heap.size { r0 with state := .busy } W3 := ⟨(hk.2.1 _ (by simp; omega) nM2).trans hR2.loop, (hk.2.1 _ (by simp; omega) nD2).trans hR2.defs⟩
      have hrun := run_endRound (P := P) none hR3.loop
      have er : ({ ({ r0 with state := .busy } : Loop) with state := if (none : Option Code).isNone then .ready else .done, pending := none } : Loop) = r0 := by rw [hr0]; rfl
      rw [er] at hrun
      have hR4 := hR3.put r0
      have i4 := hO.put hi3 (.loop r0) (by omega : n₀ ≤ w.heap.size + 1) (by omega) hR3.loop rfl
      refine ⟨_, _, hrun, rfl, ⟨i4, hR4⟩, ?_⟩
      have h3s := hk.size
      simp at h3s
      refine ⟨((hka.1.trans (below_put n₀ Wa _ _ (by omega))).trans hk.1).trans (below_put n₀ W3 _ _ (by omega)), fun b hb hm => ?_, fun b hb hm => ?_⟩
      · by_cases e : b = w.heap.size + 1
        · rw [e, hR4.loop, hR.loop]
        · refine (World.putObj_heap_other (fun e' => e (by omega))).trans ?_
          refine (hk.2.1 b (by simp; omega) (fun h => hm (hka.2.2 b hb (hO.putM hia _ hRa.loop rfl h)))).trans ?_
          exact (World.putObj_heap_other (fun e' => e (by omega))).trans (hka.2.1 b hb hm)
      · have m3 := hO.putM hi3 _ hR3.loop rfl hm
        exact hka.2.2 b hb (hO.putM hia _ hRa.loop rfl (hk.2.2 b (by simp; omega) m3))
    | ret => exact hp.elim
    | exit id => exact hp.elim
    | goto t => exact hp.elim
    | panic ch => exact hp.elim
    | outgrown => exact hp.elim
  · rintro e W2 ⟨⟨v, rfl⟩, ⟨hi, hR⟩, hs2⟩
    have hrun := run_endLoop (P := P) hR.loop (by rw [hr0]; simp)
    rw [show r0.pending = none by rw [hr0]] at hrun
    exact ⟨none, _, hrun, hdone _ (hO.put hi _ (by omega) (by omega) hR.loop rfl) (by simp; omega) (hR.put _).defs⟩
end Go.Proofs.YtkdhmijebkhmaaaGreatDoor
