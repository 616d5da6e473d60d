/-
  Parts of the proof laid into one text, one behind the other; each says at its head what is proved in it.
-/
import Derived.Test.YtoljpgpkeploiaaGreatDoorFpJ
import Derived.Test.YtoljpgpkeploiaaGreatDoorImplParts
import Derived.Test.YtoljpgpkeploiaaGreatDoorFpL
import Derived.Lib.Builder
import Derived.Lib.AppendStr
import Derived.Laws.Externs
import Derived.Shelf.RegionOpenPlain
import Derived.Test.YtoljpgpkeploiaaGreatDoorShelfMore
/-
  Iterators whose rounds own blocks that may be laid anew while the iterator goes on: what such an iterator owes, and what a range over it comes to where no round leaves the loop.
-/
namespace Go.Proofs.YtoljpgpkeploiaaGreatDoor
open Go.RowKit

/-- An invariant that hangs on the blocks below B, and on blocks of its own (M), which are read off themselves and are cells. -/
structure OwnM {β : Type} (n₀ B : Nat) (M : World → Nat → Prop) (J : β → World → Prop) : Prop where
  keep : ∀ s W W', J s W → Below n₀ W W' → (∀ b, b < B → W'.heap[b]? = W.heap[b]?) → (∀ b, M W b → W'.heap[b]? = W.heap[b]?) → J s W'
  read : ∀ s W W', J s W → (∀ b, M W b → W'.heap[b]? = W.heap[b]?) → ∀ b, M W' b → M W b
  cells : ∀ s W b, J s W → M W b → ∃ o : Obj, W.heap[b]? = some o ∧ o.isCells = true
section
variable {β : Type} {n₀ B : Nat} {M : World → Nat → Prop} {J : β → World → Prop}
theorem OwnM.lt (h : OwnM n₀ B M J) {s : β} {W : World} (hJ : J s W) {b : Nat} (hb : M W b) : b < W.heap.size := by
  obtain ⟨o, ho, _⟩ := h.cells s W b hJ hb
  exact (Array.getElem?_eq_some_iff.1 ho).1
theorem OwnM.notOther (h : OwnM n₀ B M J) {s : β} {W : World} (hJ : J s W) {b : Nat} {o : Obj} (ho : W.heap[b]? = some o) (hc : o.isCells = false) : ¬ M W b := fun hb => by
  obtain ⟨o', ho', hc'⟩ := h.cells s W b hJ hb
  rw [ho] at ho'
  cases ho'
  rw [hc] at hc'
  cases hc'
theorem OwnM.alloc (h : OwnM n₀ B M J) {s : β} {W : World} (hJ : J s W) (hn : n₀ ≤ W.heap.size) (hB : B ≤ W.heap.size) (o : Obj) : J s (W.alloc o) :=
  h.keep s W _ hJ ((Below.refl _ W).alloc hn o) (fun b hb => Below.heap_alloc W o b (by omega)) (fun b hb => Below.heap_alloc W o b (h.lt hJ hb))
theorem OwnM.allocM (h : OwnM n₀ B M J) {s : β} {W : World} (hJ : J s W) (o : Obj) {b : Nat} (hb : M (W.alloc o) b) : M W b :=
  h.read s W _ hJ (fun b hb => Below.heap_alloc W o b (h.lt hJ hb)) b hb
theorem below_put (n₀ : Nat) (W : World) (k : Nat) (o : Obj) (hk : n₀ ≤ k) : Below n₀ W (W.putObj k o) := ⟨rfl, rfl, rfl, by simp, fun i hi => World.putObj_heap_other (by omega)⟩
theorem OwnM.put (h : OwnM n₀ B M J) {s : β} {W : World} (hJ : J s W) {k : Nat} {o : Obj} (o' : Obj) (hn : n₀ ≤ k) (hB : B ≤ k) (ho : W.heap[k]? = some o) (hc : o.isCells = false) : J s (W.putObj k o') :=
  h.keep s W _ hJ (below_put n₀ W k o' hn) (fun b hb => World.putObj_heap_other (by omega)) (fun b hb => World.putObj_heap_other (by rintro rfl; exact h.notOther hJ ho hc hb))
theorem OwnM.putM (h : OwnM n₀ B M J) {s : β} {W : World} (hJ : J s W) {k : Nat} {o : Obj} (o' : Obj) (ho : W.heap[k]? = some o) (hc : o.isCells = false) {b : Nat} (hb : M (W.putObj k o') b) : M W b :=
  h.read s W _ hJ (fun b' hb' => World.putObj_heap_other (fun e => h.notOther hJ ho hc (by rw [e] at hb'; exact hb'))) b hb
theorem below_grown {n₀ : Nat} {W W' : World} {row : Option Nat} (hg : W.grownBy W' row) (hn : n₀ ≤ W.heap.size) (hr : ∀ r, row = some r → n₀ ≤ r) : Below n₀ W W' :=
  ⟨hg.os, hg.tape, hg.output, hg.size, fun i hi => hg.block i (by omega) (fun e => by have := hr i e.symm; omega)⟩
theorem OwnM.grown (h : OwnM n₀ B M J) {s : β} {W W' : World} {row : Option Nat} (hJ : J s W) (hg : W.grownBy W' row) (hn : n₀ ≤ W.heap.size) (hB : B ≤ W.heap.size) (hr : ∀ r, row = some r → n₀ ≤ r ∧ B ≤ r ∧ ∃ o : Obj, W.heap[r]? = some o ∧ o.isCells = false) :
    J s W' ∧ ∀ b, M W' b → M W b := by
  have hk : ∀ b, M W b → W'.heap[b]? = W.heap[b]? := fun b hb => hg.block b (h.lt hJ hb) (fun e => by
    obtain ⟨-, -, o, ho, hc⟩ := hr b e.symm
    exact h.notOther hJ ho hc hb)
  exact ⟨h.keep s W W' hJ (below_grown hg hn (fun r e => (hr r e).1)) (fun b hb => hg.block b (by omega) (fun e => by have := (hr b e.symm).2.1; omega)) hk, h.read s W W' hJ hk⟩
/-- What a round keeps: all that lies below n₀, and all blocks that were there but its own; none of these becomes its own. -/
def Kq (n₀ : Nat) (M : World → Nat → Prop) (W W' : World) : Prop := Below n₀ W W' ∧ (∀ b, b < W.heap.size → ¬ M W b → W'.heap[b]? = W.heap[b]?) ∧ ∀ b, b < W.heap.size → M W' b → M W b
theorem Kq.refl (n₀ : Nat) (M : World → Nat → Prop) (W : World) : Kq n₀ M W W := ⟨Below.refl _ _, fun _ _ _ => rfl, fun _ _ h => h⟩
theorem Kq.size {W W' : World} (h : Kq n₀ M W W') : W.heap.size ≤ W'.heap.size := h.1.size
theorem Kq.trans {A B C : World} (h : Kq n₀ M A B) (k : Kq n₀ M B C) : Kq n₀ M A C :=
  ⟨h.1.trans k.1, fun b hb hm => (k.2.1 b (Nat.lt_of_lt_of_le hb h.size) (fun hm' => hm (h.2.2 b hb hm'))).trans (h.2.1 b hb hm), fun b hb hm => h.2.2 b hb (k.2.2 b (Nat.lt_of_lt_of_le hb h.size) hm)⟩
theorem Kq.cell {W W' : World} (h : Kq n₀ M W W') {b j : Nat} (hb : b < W.heap.size) (hm : ¬ M W b) : W'.cell? ⟨b, j, none⟩ = W.cell? ⟨b, j, none⟩ := World.cell?_of_block (h.2.1 b hb hm)
theorem kq_alloc (h : OwnM n₀ B M J) {s : β} {W : World} (hJ : J s W) (hn : n₀ ≤ W.heap.size) (o : Obj) : Kq n₀ M W (W.alloc o) :=
  ⟨(Below.refl _ W).alloc hn o, fun b hb _ => Below.heap_alloc W o b hb, fun _ _ hm => h.allocM hJ o hm⟩
/-- A turn of one block that is not its own and was not there at first. -/
theorem kq_turn (h : OwnM n₀ B M J) {s : β} {A W W' : World} (hJ : J s W) (hk : Kq n₀ M A W) {k : Nat} (hA : A.heap.size ≤ k) (hm : ¬ M W k) (hb : Below n₀ W W') (hs : ∀ b, b ≠ k → W'.heap[b]? = W.heap[b]?) : Kq n₀ M A W' :=
  ⟨hk.1.trans hb, fun b hb' hm' => (hs b (by omega)).trans (hk.2.1 b hb' hm'), fun b hb' hm' => hk.2.2 b hb' (h.read s W W' hJ (fun b hb => hs b (fun e => hm (e ▸ hb))) b hm')⟩
theorem own_kq {α : Type} (h : OwnM n₀ B M J) (w : World) (hB : B ≤ w.heap.size) (hn : n₀ ≤ B) (g : List α → β) (m : Nat) : OwnFrom w.heap.size (fun (P : List α) X => J (g P) X ∧ Kq n₀ M w X ∧ ∀ b, w.heap.size ≤ b → b < w.heap.size + m → ¬ M X b) := fun P X X' row ⟨hj, hk, hc⟩ hg hr => by
  have hs := hk.size
  obtain ⟨hj', hm⟩ := h.grown hj hg (by omega) (by omega) (fun r e => ⟨by have := (hr r e).1; omega, by have := (hr r e).1; omega, (hr r e).2⟩)
  refine ⟨hj', ⟨hk.1.trans (below_grown hg (by omega) (fun r e => by have := (hr r e).1; omega)), fun b hb hnm => ?_, fun b hb h => hk.2.2 b hb (hm b h)⟩, fun b h1 h2 h => hc b h1 h2 (hm b h)⟩
  exact (hg.block b (by omega) (fun e => by have := (hr b e.symm).1; omega)).trans (hk.2.1 b hb hnm)
theorem Kq.others (h : OwnM n₀ B M J) {s : β} {W W' : World} (hJ : J s W) (hk : Kq n₀ M W W') (b : Nat) : KeepsFrom b W W' :=
  ⟨hk.size, fun k _ _ ho hc => (hk.2.1 k (Array.getElem?_eq_some_iff.1 ho).1 (h.notOther hJ ho hc)).trans ho⟩
end
/-- The contract of an iterator value over a list whose rounds never leave. -/
def SeqM {α : Type} (P : Program) (g : Nat) (lb : Array Value) (encs : α → Array Value) (n₀ : Nat) (L : List α) (w : World) : Prop :=
  ∀ (l : Nat) (M : World → Nat → Prop) (J : List α → World → Prop) (W : World), Below w.heap.size w W → n₀ ≤ W.heap.size → OwnM n₀ W.heap.size M J →
    (∀ pre x W1, J pre W1 → pre ++ [x] <+: L → W.heap.size ≤ W1.heap.size → ∃ k, YieldAt Fence.wide k P l (encs x) W1 fun e W' => e = .returned (.bool true) ∧ J (pre ++ [x]) W' ∧ Kq n₀ M W1 W') →
    J [] W → Calls P g (#[.func (.yield l) #[] #[]] ++ lb) W fun e W' => (∃ v, e = .returned v) ∧ J L W' ∧ W.heap.size ≤ W'.heap.size
/-- How a round's body ends. -/
def postM {α : Type} (n₀ : Nat) (M : World → Nat → Prop) (I : List α → World → Prop) (xs : List α) (W : World) : Exit → Act → World → Prop
  | .normal, _, W' => Kq n₀ M W W' ∧ I xs W'
  | .ret, _, _ => False
  | .exit _, _, _ => False
  | .goto _, _, _ => False
  | .panic _, _, _ => False
  | .outgrown, _, _ => False
theorem range_M {α : Type} {g : Operand} {ps : Array Tmp} {assign body : Code} {Q : Exit → Act → World → Prop} {a : Act} {w : World} {n : Nat} {P : Program}
    (h1 : 1 ≤ n) {gf : Nat} {lb : Array Value} (hg : a.eval g = .func (.func gf) #[] lb) (eg : ∀ args w, (callFunc gf args).run P w = .ok (.enter gf args) w)
    {encs : α → Array Value} {L : List α} {n₀ : Nat} {w0 : World} (hseq : SeqM P gf lb encs n₀ L w0) (hb0 : Below w0.heap.size w0 w) (hn : n₀ ≤ w.heap.size) (hps : ∀ x, (encs x).size = ps.size)
    (M : World → Nat → Prop) (I : List α → World → Prop) (hO : OwnM n₀ w.heap.size M I) (h0 : I [] w) (Ax : α → Act → World → Prop)
    (hAx : ∀ x a' W l o o', Ax x a' W → w.heap.size ≤ l → W.heap[l]? = some o → o.isCells = false → Ax x a' (W.putObj l o'))
    (hassign : ∀ (l : Nat) (pre : List α) (x : α) (W : World) (K : Act → World → Prop), I pre W → pre ++ [x] <+: L → w.heap.size + 2 ≤ W.heap.size → (∀ a' W', Kq n₀ M W W' → I pre W' → Ax x a' W' → K a' W') →
      assign.wpIn (Fence.wide.inRound l) (n - 1 - 1) P (Exit.then K (fun _ _ _ => False)) { tmps := (ps.zip (encs x)).foldl (fun t (p, v) => t.setIfInBounds p v) a.tmps, defers := [] } W)
    (hbody : ∀ (l : Nat) (pre : List α) (x : α) (a' : Act) (W : World), I pre W → Ax x a' W → pre ++ [x] <+: L → w.heap.size + 2 ≤ W.heap.size → body.wpIn (Fence.wide.inRound l) (n - 1 - 1) P (postM n₀ M I (pre ++ [x]) W) a' W)
    (hdone : ∀ (W : World), I L W → w.heap.size + 2 ≤ W.heap.size → W.heap[w.heap.size]? = some (.deferred (some [])) → Q .normal { a with defers := { target := .collected w.heap.size, args := #[] } :: a.defers } W) :
    (Code.rangeFunc g ps assign body).wpIn Fence.wide n P Q a w := by
  refine wpIn_rangeFunc fun fn hfn => ?_
  rw [show Fence.wide.round = none from rfl]
  obtain ⟨r0, hr0⟩ : ∃ r0 : Loop, r0 = { state := .ready, pending := none, fn, tmps := a.tmps, params := ps, assign, body, defers := w.heap.size } := ⟨_, rfl⟩
  obtain ⟨W1, hW1⟩ : ∃ W1, W1 = (w.alloc (.deferred (some []))).alloc (.loop r0) := ⟨_, rfl⟩
  have hsz : W1.heap.size = w.heap.size + 2 := by rw [hW1]; simp
  have R1 : Rec w.heap.size r0 W1 := by
    constructor
    · have := World.alloc_heap_new (w.alloc (.deferred (some []))) (.loop r0)
      rw [World.size_alloc] at this
      rw [hW1]; exact this
    · rw [hW1]; exact (Below.heap_alloc _ _ _ (by simp)).trans (World.alloc_heap_new w _)
  have b1 : Below w0.heap.size w0 W1 := by
    rw [hW1]; exact hb0.trans ((((Below.refl _ w).alloc (Nat.le_refl _) _).alloc (by simp) _).mono hb0.size)
  have i1 : I [] W1 := by rw [hW1]; exact hO.alloc (hO.alloc h0 hn (Nat.le_refl _) _) (by simp; omega) (by simp) _
  refine ⟨w.heap.size + 1, [{ target := .collected w.heap.size, args := #[] }], W1, { target := .fn (.func gf) lb, args := #[.func (.yield (w.heap.size + 1)) #[] #[]] }, W1, gf,
    #[.func (.yield (w.heap.size + 1)) #[] #[]] ++ lb, W1, by rw [hW1, hr0]; exact run_enterLoop_outer _ _ _ _ _, by simp only [resolve, hg]; simp [go_sem],
    fun f' hf' => trivial, by simp [invoke, go_sem, eg], fun _ => h1, ?_⟩
  have hJO : OwnM n₀ W1.heap.size M (fun pre W => I pre W ∧ Rec w.heap.size r0 W) :=
    ⟨fun s W W' hs hB hlow hM => ⟨hO.keep s W W' hs.1 hB (fun b hb => hlow b (by omega)) hM, ⟨(hlow _ (by omega)).trans hs.2.loop, (hlow _ (by omega)).trans hs.2.defs⟩⟩, fun s W W' hs => hO.read s W W' hs.1, fun s W b hs => hO.cells s W b hs.1⟩
  refine ((callsIn_wide).2 (hseq (w.heap.size + 1) M _ W1 b1 (by omega) hJO ?_ ⟨i1, R1⟩)).mono ?_
  · rintro pre x W ⟨hi, hR⟩ hpre hm
    have hm' : w.heap.size + 2 ≤ W.heap.size := by omega
    have hy := run_yield (P := P) (args := encs x) hR.loop (by rw [hr0]; exact hps x)
    rw [show r0.fn = fn by rw [hr0], show r0.assign = assign by rw [hr0], show r0.body = body by rw [hr0], show r0.tmps = a.tmps by rw [hr0], show r0.params = ps by rw [hr0]] at hy
    refine ⟨n - 1 - 1, fn, _, assign, body, hy, roundIn_of_wpIn hfn (hassign _ pre x W _ hi hpre hm' fun a' Wa hka hia hax => ?_)⟩
    have nM0 : ¬ M W (w.heap.size + 1) := hO.notOther hi hR.loop rfl
    have nD0 : ¬ M W w.heap.size := hO.notOther hi hR.defs rfl
    have hRa : Rec w.heap.size r0 Wa := ⟨(hka.2.1 _ (by omega) nM0).trans hR.loop, (hka.2.1 _ (by omega) nD0).trans hR.defs⟩
    refine ⟨_, run_beginRound hRa.loop (by rw [hr0]), ?_⟩
    have hR2 := hRa.put { r0 with state := .busy }
    have hsa := hka.size
    have i2 := hO.put hia (.loop { r0 with state := .busy }) (by omega : n₀ ≤ w.heap.size + 1) (by omega) hRa.loop rfl
    refine wpIn_mono (hbody _ pre x a' _ i2 (hAx x a' Wa _ _ _ hax (by omega) hRa.loop rfl) hpre (by simp; omega)) ?_
    rintro e a3 W3 hp
    cases e with
    | normal =>
      obtain ⟨hk, hi3⟩ := hp
      have nM2 : ¬ M (Wa.putObj (w.heap.size + 1) (.loop { r0 with state := .busy })) (w.heap.size + 1) := hO.notOther i2 hR2.loop rfl
      have nD2 : ¬ M (Wa.putObj (w.heap.size + 1) (.loop { r0 with state := .busy })) w.heap.size := hO.notOther i2 hR2.defs rfl
      have hR3 : Rec w.heap.size { r0 with state := .busy } W3 := ⟨(hk.2.1 _ (by simp; omega) nM2).trans hR2.loop, (hk.2.1 _ (by simp; omega) nD2).trans hR2.defs⟩
      have hrun := run_endRound (P := P) none hR3.loop
      have er : ({ ({ r0 with state := .busy } : Loop) with state := if (none : Option Code).isNone then .ready else .done, pending := none } : Loop) = r0 := by rw [hr0]; rfl
      rw [er] at hrun
      have hR4 := hR3.put r0
      have i4 := hO.put hi3 (.loop r0) (by omega : n₀ ≤ w.heap.size + 1) (by omega) hR3.loop rfl
      refine ⟨_, _, hrun, rfl, ⟨i4, hR4⟩, ?_⟩
      have h3s := hk.size
      simp at h3s
      refine ⟨((hka.1.trans (below_put n₀ Wa _ _ (by omega))).trans hk.1).trans (below_put n₀ W3 _ _ (by omega)), fun b hb hm => ?_, fun b hb hm => ?_⟩
      · by_cases e : b = w.heap.size + 1
        · rw [e, hR4.loop, hR.loop]
        · refine (World.putObj_heap_other (fun e' => e (by omega))).trans ?_
          refine (hk.2.1 b (by simp; omega) (fun h => hm (hka.2.2 b hb (hO.putM hia _ hRa.loop rfl h)))).trans ?_
          exact (World.putObj_heap_other (fun e' => e (by omega))).trans (hka.2.1 b hb hm)
      · have m3 := hO.putM hi3 _ hR3.loop rfl hm
        exact hka.2.2 b hb (hO.putM hia _ hRa.loop rfl (hk.2.2 b (by simp; omega) m3))
    | ret => exact hp.elim
    | exit id => exact hp.elim
    | goto t => exact hp.elim
    | panic ch => exact hp.elim
    | outgrown => exact hp.elim
  · rintro e W2 ⟨⟨v, rfl⟩, ⟨hi, hR⟩, hs2⟩
    have hrun := run_endLoop (P := P) hR.loop (by rw [hr0]; simp)
    rw [show r0.pending = none by rw [hr0]] at hrun
    exact ⟨none, _, hrun, hdone _ (hO.put hi _ (by omega) (by omega) hR.loop rfl) (by simp; omega) (hR.put _).defs⟩
end Go.Proofs.YtoljpgpkeploiaaGreatDoor
/-
  The program's tell, which calls itself in the rounds of a range over the parts of a place: each place below is told where it begins and where it ends; nothing that was there is turned but what the rounds own.
-/
namespace Go.Proofs.YtoljpgpkeploiaaGreatDoor
open Go.RowKit Go.Extern.Stop Go.Stop Go.Extern Num Go.Lib Go.Shelf
attribute [local go_sem] Oper.semAt_some

/-- The temporaries of a round of tell. -/
abbrev actT (A tb K y : Nat) (a x : Int) : Act := { tmps := #[.pointer (some ⟨tb, 0, none⟩), .int .i64 a, .func (.yield y) #[] #[], .pointer (some ⟨A, 0, none⟩), undef, .pointer (some ⟨A + 1, 0, none⟩), .pointer (some ⟨A + 1 + 1, 0, none⟩), .int .i64 x, .func (.yield y) #[] #[], .int .i64 a, .bool true, .bool false, .pointer (some ⟨tb, 0, none⟩), .int .i64 a, .func (.func 66) #[] #[.pointer (some ⟨K, 0, none⟩), .pointer (some ⟨K + 1, 0, none⟩)], .int .i64 x, undef, undef, undef, undef, undef, undef, undef, undef], defers := [] }
theorem roundIn_more {P : Program} {n m l : Nat} {f : FuncId} {tmps : Array Value} {assign body : Code} {w : World} {R : Ending → World → Prop} (h : RoundIn Fence.wide n P l f tmps assign body w R) : RoundIn Fence.wide m P l f tmps assign body w R :=
  ⟨trivial, fun c cs _ => h.2 c cs (room_wide _)⟩
theorem pre_trans {α : Type} {p q r s : List α} (h : p ++ (q ++ r) <+: s) : p ++ q <+: s := (List.prefix_append (p ++ q) r).trans (by rw [List.append_assoc]; exact h)
theorem flat_pre {α β : Type} (g : α → List β) {P L : List α} {x : α} (h : P ++ [x] <+: L) : P.flatMap g ++ g x <+: L.flatMap g := by
  obtain ⟨t, rfl⟩ := h
  simp only [List.flatMap_append, List.flatMap_cons, List.flatMap_nil, List.append_nil]
  exact List.prefix_append _ _
set_option maxRecDepth 100000 in
set_option maxHeartbeats 4000000 in
theorem tell_any {d : List Dat} (Fi : Fine d) (hPd : ∀ (k : Nat) (h : k < (nodes d).length), PdN ((k : Int), (nodes d)[k])) (n₀ B tb y : Nat) (M : World → Nat → Prop) (J : List (Int × Bool) → World → Prop) (hO : OwnM n₀ B M J) (hn : n₀ ≤ B) (L : List (Int × Bool))
    (hY : ∀ pre x W1, J pre W1 → pre ++ [x] <+: L → B ≤ W1.heap.size → ∃ k, YieldAt Fence.wide k Tryz.prog y #[.int .i64 x.1, .bool x.2] W1 fun e W' => e = .returned (.bool true) ∧ J (pre ++ [x]) W' ∧ Kq n₀ M W1 W') :
    ∀ (f a : Nat) (pre : List (Int × Bool)) (W : World), a < d.length → d.length ≤ a + f → pre ++ evF d f a <+: L → J pre W → B ≤ W.heap.size → IsTree n₀ W tb (nodes d) →
      Calls Tryz.prog 91 #[.pointer (some ⟨tb, 0, none⟩), .int .i64 (a : Int), .func (.yield y) #[] #[]] W fun e W' => e = .returned (.bool true) ∧ J (pre ++ evF d f a) W' ∧ Kq n₀ M W W'
  | 0, a, _, _, ha, hf, _, _, _, _ => absurd hf (by omega)
  | f + 1, a, pre, W, ha, hf, hL, hJ, hB, hT => by
    have ih : ∀ (p : Nat) (pre : List (Int × Bool)) (W : World), a < p → p < d.length → pre ++ evF d f p <+: L → J pre W → B ≤ W.heap.size → IsTree n₀ W tb (nodes d) →
      Calls Tryz.prog 91 #[.pointer (some ⟨tb, 0, none⟩), .int .i64 (p : Int), .func (.yield y) #[] #[]] W fun e W' => e = .returned (.bool true) ∧ J (pre ++ evF d f p) W' ∧ Kq n₀ M W W' :=
      fun p pre W h1 h2 h3 h4 h5 h6 => tell_any Fi hPd n₀ B tb y M J hO hn L hY f p pre W h2 (by omega) h3 h4 h5 h6
    have IH : Hid (∀ (p : Nat) (pre : List (Int × Bool)) (W : World), a < p → p < d.length → pre ++ evF d f p <+: L → J pre W → B ≤ W.heap.size → IsTree n₀ W tb (nodes d) →
      Calls Tryz.prog 91 #[.pointer (some ⟨tb, 0, none⟩), .int .i64 (p : Int), .func (.yield y) #[] #[]] W fun e W' => e = .returned (.bool true) ∧ J (pre ++ evF d f p) W' ∧ Kq n₀ M W W') := ih
    clear ih
    have hev : evF d (f + 1) a = [((a : Int), true)] ++ ((partsD d (a : Int)).flatMap (fun p => evF d f p.toNat) ++ [((a : Int), false)]) := by simp [evF]
    have HEV : Hid (evF d (f + 1) a = [((a : Int), true)] ++ ((partsD d (a : Int)).flatMap (fun p => evF d f p.toNat) ++ [((a : Int), false)])) := hev
    have HL : Hid (pre ++ ([((a : Int), true)] ++ ((partsD d (a : Int)).flatMap (fun p => evF d f p.toNat) ++ [((a : Int), false)])) <+: L) := by show _; rw [← hev]; exact hL
    clear hev hL
    have hN : (nodes d).length ≤ 1000 := by rw [nodes_len]; have := Fi.len; omega
    have hka := kids_all Fi a ha
    have HKA : Hid (kidsT a (tellN (nodes d) a (endD d a - a)) = partsD d (a : Int)) := hka
    clear hka
    -- the boxes
    obtain ⟨W1, hW1⟩ : ∃ W1, W1 = (((W.alloc (.cells #[.pointer (some ⟨tb, 0, none⟩)] 55)).alloc (.cells #[.func (.yield y) #[] #[]] 143)).alloc (.cells #[.bool false] 4)) := ⟨_, rfl⟩
    have hs1 : W1.heap.size = W.heap.size + 3 := by rw [hW1]; simp
    have j1 : J pre W1 := by rw [hW1]; exact hO.alloc (hO.alloc (hO.alloc hJ (by omega) (by omega) _) (by simp; omega) (by simp; omega) _) (by simp; omega) (by simp; omega) _
    have k1 : Kq n₀ M W W1 := by rw [hW1]; exact ((kq_alloc hO hJ (by omega) _).trans (kq_alloc hO (hO.alloc hJ (by omega) (by omega) _) (by simp; omega) _)).trans (kq_alloc hO (hO.alloc (hO.alloc hJ (by omega) (by omega) _) (by simp; omega) (by simp; omega) _) (by simp; omega) _)
    have x0 : Boxed W1 W.heap.size 55 (.pointer (some ⟨tb, 0, none⟩)) := by rw [hW1]; exact ((Boxed.new W _ _).alloc _).alloc _
    have x1 : Boxed W1 (W.heap.size + 1) 143 (.func (.yield y) #[] #[]) := by
      have := Boxed.new (W.alloc (.cells #[.pointer (some ⟨tb, 0, none⟩)] 55)) 143 (.func (.yield y) #[] #[])
      rw [World.size_alloc] at this
      rw [hW1]; exact this.alloc _
    have x2 : Boxed W1 (W.heap.size + 1 + 1) 4 (.bool false) := by
      have := Boxed.new ((W.alloc (.cells #[.pointer (some ⟨tb, 0, none⟩)] 55)).alloc (.cells #[.func (.yield y) #[] #[]] 143)) 4 (.bool false)
      rw [World.size_alloc, World.size_alloc] at this
      rw [hW1]; exact this
    have n1 : ∀ b, W.heap.size ≤ b → ¬ M W1 b := fun b hb hm => by
      rw [hW1] at hm
      have h3 := hO.allocM (hO.alloc (hO.alloc hJ (by omega) (by omega) _) (by simp; omega) (by simp; omega) _) _ hm
      have h2 := hO.allocM (hO.alloc hJ (by omega) (by omega) _) _ h3
      have := hO.lt hJ (hO.allocM hJ _ h2)
      omega
    obtain ⟨k, fn, tmps, assign, body, hy, hR⟩ := hY pre ((a : Int), true) W1 j1 (pre_trans HL.out) (by omega)
    have hy' : (Instr.yield y #[.int .i64 (a : Int), .bool true]).run Tryz.prog (((W.alloc (.cells #[.pointer (some ⟨tb, 0, none⟩)] 55)).alloc (.cells #[.func (.yield y) #[] #[]] 143)).alloc (.cells #[.bool false] 4)) = .ok (.round y fn tmps assign body) (((W.alloc (.cells #[.pointer (some ⟨tb, 0, none⟩)] 55)).alloc (.cells #[.func (.yield y) #[] #[]] 143)).alloc (.cells #[.bool false] 4)) := by rw [← hW1]; exact hy
    have hR' : RoundIn Fence.wide (10 - 1) Tryz.prog y fn tmps assign body (((W.alloc (.cells #[.pointer (some ⟨tb, 0, none⟩)] 55)).alloc (.cells #[.func (.yield y) #[] #[]] 143)).alloc (.cells #[.bool false] 4)) (fun e W' => e = .returned (.bool true) ∧ J (pre ++ [((a : Int), true)]) W' ∧ Kq n₀ M W1 W') := by rw [← hW1]; exact roundIn_more hR
    clear hy hR
    refine (callsIn_wide (n := 10)).1 ?_
    refine callsIn_of_wp_marks Tryz.func91 rfl trivial ?_ rfl
    simp only [Tryz.ntmps91, List.size_toArray, List.length_cons, List.length_nil, Nat.reduceAdd, Nat.reduceSub, Array.replicate_succ, Array.replicate_zero, List.push_toArray, List.append_toArray, List.nil_append, List.cons_append]
    have hF : ∀ f, Fence.wide.fn f := fun _ => trivial
    have hlt0 : W.heap.size < W1.heap.size := by omega
    have hlt1 : W.heap.size + 1 < W1.heap.size := by omega
    have hlt2 : W.heap.size + 1 + 1 < W1.heap.size := by omega
    gi_wp2_with (first | (gi_at_call 37; refine (kids_in Fence.wide (10 - 1) hF rfl _ _ _).mono ?_; rintro e w' ⟨rfl, rfl⟩) | (refine hR'.mono ?_; rintro r W2 ⟨rfl, j2, k2⟩; have c0 : W2.cell? ⟨W.heap.size, 0, none⟩ = some (.pointer (some ⟨tb, 0, none⟩)) := (k2.cell hlt0 (n1 _ (Nat.le_refl _))).trans x0.cell))
    clear hy' hR' hW1
    have hs2 := k2.size
    obtain ⟨w3, hw3⟩ : ∃ w3, w3 = ((W2.alloc (.cells #[.pointer (some ⟨tb, 0, none⟩)] 55)).alloc (.cells #[.int .i64 (a : Int)] 2)) := ⟨_, rfl⟩
    have hs3 : w3.heap.size = W2.heap.size + 2 := by rw [hw3]; simp
    have j3 : J (pre ++ [((a : Int), true)]) w3 := by rw [hw3]; exact hO.alloc (hO.alloc j2 (by omega) (by omega) _) (by simp; omega) (by simp; omega) _
    have k3 : Kq n₀ M W2 w3 := by rw [hw3]; exact (kq_alloc hO j2 (by omega) _).trans (kq_alloc hO (hO.alloc j2 (by omega) (by omega) _) (by simp; omega) _)
    have y0 : Boxed w3 W2.heap.size 55 (.pointer (some ⟨tb, 0, none⟩)) := by rw [hw3]; exact (Boxed.new W2 _ _).alloc _
    have y1 : Boxed w3 (W2.heap.size + 1) 2 (.int .i64 (a : Int)) := by
      have := Boxed.new (W2.alloc (.cells #[.pointer (some ⟨tb, 0, none⟩)] 55)) 2 (.int .i64 (a : Int))
      rw [World.size_alloc] at this
      rw [hw3]; exact this
    have m3 : ∀ b, M w3 b → M W2 b := fun b hm => by
      rw [hw3] at hm
      exact hO.allocM j2 _ (hO.allocM (hO.alloc j2 (by omega) (by omega) _) _ hm)
    have n3 : ∀ b, W.heap.size ≤ b → b < W1.heap.size → ¬ M w3 b := fun b h1 h2 hm => n1 b h1 (k2.2.2 b h2 (m3 b hm))
    have n4 : ∀ b, W2.heap.size ≤ b → ¬ M w3 b := fun b h1 hm => by have := hO.lt j2 (m3 b hm); omega
    have kW3 : Kq n₀ M W w3 := (k1.trans k2).trans k3
    have k13 : Kq n₀ M W1 w3 := k2.trans k3
    have hT3 : IsTree n₀ w3 tb (nodes d) := hT.below kW3.1
    rw [← hw3]
    refine range_own rfl (by omega : 1 ≤ 10) (gf := 66) (lb := #[.pointer (some ⟨W2.heap.size, 0, none⟩), .pointer (some ⟨W2.heap.size + 1, 0, none⟩)]) rfl (hF _) (enters_of Tryz.func66 (by kernel_rfl) rfl)
      (kids_seq (10 - 1) (by omega) (W2.heap.size + 1) W2.heap.size n₀ W2.heap.size (W2.heap.size + 2) tb _ (nodes d) a (endD d a) (endAt_of Fi a ha) hN hPd w3 (by omega) y1.cell y0.cell (by omega) (by omega) (by omega) (by omega) hT3)
      (fun h k => ⟨kpx_t h.1 k.1, fun b l1 l2 => (k.2 b l1 l2).trans (h.2 b l1 l2)⟩)
      (fun X o o' g1 g2 g3 => ⟨kpx_b (w := w3) (by omega) (by omega) X _ o o' (by omega) g1 g2 g3, fun b l1 l2 => World.putObj_heap_other (by omega)⟩) (Below.refl _ _) (fun _ => rfl)
      (fun P X => J (pre ++ ([((a : Int), true)] ++ P.flatMap (fun p => evF d f p.toNat))) X ∧ Kq n₀ M w3 X ∧ ∀ b, w3.heap.size ≤ b → b < w3.heap.size + 7 → ¬ M X b)
      (fun _ _ _ => False)
      (own_kq hO w3 (by omega) hn (fun P : List Int => pre ++ ([((a : Int), true)] ++ P.flatMap (fun p => evF d f p.toNat))) 7)
      (fun _ _ _ _ _ hs _ _ => hs)
      ⟨by simpa using j3, Kq.refl _ _ _, fun b h1 _ => n4 b (by omega)⟩
      (fun x a' _ => a' = actT W.heap.size tb W2.heap.size y (a : Int) x) (fun x a' s X X' row hs _ _ => hs) ?assign ?body ?done ?stop
    case assign =>
      rintro l' P x X K hI hK
      gi_wp2
      exact hK _ _ (KeepsFrom.refl _ _) ⟨kpx_refl _ _ _ _, fun _ _ _ => rfl⟩ hI rfl
    case body =>
      rintro l' P x a' X ⟨jX, kX, cX⟩ rfl hpx hmm
      rw [HKA.out] at hpx
      have hxm : x ∈ partsD d (a : Int) := hpx.subset (by simp)
      obtain ⟨j, rfl, hj, hpar⟩ := (parts_mem d _ _).1 hxm
      have haj := Fi.parlt hj hpar
      have hsX := kX.size
      have d0 : X.cell? ⟨W.heap.size, 0, none⟩ = some (.pointer (some ⟨tb, 0, none⟩)) := ((k13.trans kX).cell hlt0 (n1 _ (Nat.le_refl _))).trans x0.cell
      have d1 : X.cell? ⟨W.heap.size + 1, 0, none⟩ = some (.func (.yield y) #[] #[]) := ((k13.trans kX).cell hlt1 (n1 _ (by omega))).trans x1.cell
      have hpre : (pre ++ ([((a : Int), true)] ++ P.flatMap (fun p => evF d f p.toNat))) ++ evF d f j <+: L := by
        refine List.IsPrefix.trans ?_ HL.out
        obtain ⟨t, ht⟩ := flat_pre (fun p : Int => evF d f p.toNat) hpx
        rw [← ht]
        refine ⟨t ++ [((a : Int), false)], ?_⟩
        simp
      have HC : Hid (Calls Tryz.prog 91 #[.pointer (some ⟨tb, 0, none⟩), .int .i64 (j : Int), .func (.yield y) #[] #[]] X fun e W' => e = .returned (.bool true) ∧ J ((pre ++ ([((a : Int), true)] ++ P.flatMap (fun p => evF d f p.toNat))) ++ evF d f j) W' ∧ Kq n₀ M X W') := IH.out j _ X haj hj hpre jX (by omega) (hT3.below kX.1)
      clear hpre hpx hxm hpar
      have hFr : ∀ f, (Fence.wide.inRound l').fn f := fun _ => trivial
      gi_wp2_with (gi_at_call 91; refine (((callsIn_wide (n := 10 - 1 - 1 - 1)).2 HC.out).inRound l').mono ?_; rintro r X' ⟨rfl, jX', kX'⟩)
      refine ⟨Kq.others hO jX kX' _, ⟨⟨kX'.1, fun b h1 h2 => kX'.2.1 b (by omega) (fun hm => n4 b h1 (kX.2.2 b (by omega) hm))⟩, fun b h1 h2 => kX'.2.1 b (by omega) (cX b (by omega) (by omega))⟩, by simpa using jX', kX.trans kX', fun b h1 h2 hm => cX b h1 h2 (kX'.2.2 b (by omega) hm)⟩
    case done =>
      rintro D P X hD hP ⟨jX, kX, cX⟩ hK
      have hP' : P = partsD d (a : Int) := by rw [← HKA.out]; exact hP
      subst hP'
      have hsX := kX.size
      have d1 : X.cell? ⟨W.heap.size + 1, 0, none⟩ = some (.func (.yield y) #[] #[]) := ((k13.trans kX).cell hlt1 (n1 _ (by omega))).trans x1.cell
      obtain ⟨kk, fn, tmps, assign, body, hy, hR⟩ := hY _ ((a : Int), false) X jX (by have := HL.out; simpa using this) (by omega)
      have hR' := roundIn_more (m := 10 - 1) hR
      clear hR hP
      have kX1 : Kq n₀ M W1 X := k13.trans kX
      have nD : ¬ M X D := hO.notOther jX hK rfl
      have hDl : D < X.heap.size := (Array.getElem?_eq_some_iff.1 hK).1
      gi_wp2_with (refine hR'.mono ?_; rintro r X2 ⟨rfl, jX2, kX2⟩; have x3 : Boxed X2 (W.heap.size + 1 + 1) 4 (.bool false) := ((kX1.trans kX2).2.1 _ hlt2 (n1 _ (by omega))).trans x2; have hc2 := x3.cell; have hf2 := x3.frozen)
      have hK2 : X2.heap[D]? = some (.deferred (some [])) := (kX2.2.1 D hDl nD).trans hK
      have hK' := (KeepsOthers.setCell X2 ⟨W.heap.size + 1 + 1, 0, none⟩ (.bool true)).same D _ hK2 rfl
      refine ⟨by simp, .inl ⟨_, _, rfl, run_takeDeferred hK', ?_⟩⟩
      have hc5 := cell_kept (x3.set (.bool true)).cell (grownBy_putObj' _ D (.deferred none)) (fun r e => by cases e; exact ⟨_, hK', rfl⟩)
      have nb : ¬ M X2 (W.heap.size + 1 + 1) := fun hm => n1 _ (by omega) ((kX1.trans kX2).2.2 _ hlt2 hm)
      have b5 : Below n₀ X2 (X2.setCell ⟨W.heap.size + 1 + 1, 0, none⟩ (.bool true)) := (Below.refl _ _).setCell (p := ⟨W.heap.size + 1 + 1, 0, none⟩) (by show n₀ ≤ W.heap.size + 1 + 1; omega) _
      have s5 : ∀ b, b ≠ W.heap.size + 1 + 1 → (X2.setCell ⟨W.heap.size + 1 + 1, 0, none⟩ (.bool true)).heap[b]? = X2.heap[b]? := fun b hb => Below.heap_setCell X2 ⟨W.heap.size + 1 + 1, 0, none⟩ _ b hb
      have j5 := hO.keep _ X2 _ jX2 b5 (fun b hb => s5 b (by omega)) (fun b hb => s5 b (fun e => nb (e ▸ hb)))
      have kk5 : Kq n₀ M W (X2.setCell ⟨W.heap.size + 1 + 1, 0, none⟩ (.bool true)) := kq_turn hO jX2 ((k1.trans kX1).trans kX2) (by omega) nb b5 s5
      have nD5 := hO.notOther j5 hK' rfl
      refine ⟨.bool true, ?_, rfl, ?_, kq_turn hO j5 kk5 (by omega) nD5 (below_put n₀ _ D _ (by omega)) (fun b hb => World.putObj_heap_other hb)⟩
      · simp [results, Tryz.f91, go_sem, hc5]
      · rw [HEV.out]
        have := hO.put j5 (.deferred none) (by omega : n₀ ≤ D) (by omega) hK' rfl
        simpa using this
    case stop =>
      rintro D c P X _ _ h _
      exact h.elim
end Go.Proofs.YtoljpgpkeploiaaGreatDoor
/-
  The library's strings.Builder, written at its end: what else was there stays as it was. A builder's blocks: its own, and its row.
-/
namespace Go.Proofs.YtoljpgpkeploiaaGreatDoor
open Go.RowKit Go.Extern.Stop Go.Stop Go.Extern Num Go.Lib Go.Shelf

theorem sizeB : (Tryz.prog.info? 102).map (·.size) = some 2 := by kernel_rfl
theorem liesB : liesAt Tryz.prog Tryz.prog.depth 102 (2 / Tryz.prog.cellsOf 102) 0 102 1 = true := by kernel_rfl
theorem infoByte : (Tryz.prog.info? 5).map (fun i => (i.zero, i.size, i.bytes)) = some (some (.int .u8 0), 1, 1) := by kernel_rfl
set_option maxRecDepth 100000 in
set_option maxHeartbeats 1000000 in
theorem cc_used (b : Nat) (w : World) (h0 : w.cell? ⟨b, 0, none⟩ = some (.pointer (some ⟨b, 0, none⟩))) :
    Calls Tryz.prog 92 #[.pointer (some ⟨b, 0, none⟩)] w fun e w' => e = .returned (.tuple #[]) ∧ w' = w := by
  obtain ⟨j, hj, _⟩ := Option.map_eq_some_iff.1 sizeB
  go_enter Tryz.func92, Tryz.ntmps92
  go_wp2
  rw [Lib.run_neq_ptr_same w _ Tryz.underlying100 hj]
  go_wp2
  exact bodyPost_end (v := .tuple #[]) (by simp [results, Tryz.results92]) rfl ⟨rfl, rfl⟩
set_option maxRecDepth 100000 in
set_option maxHeartbeats 1000000 in
theorem cc_fresh (b : Nat) (w : World) (h0 : w.cell? ⟨b, 0, none⟩ = some (.pointer none)) (hsh : w.shape? b = some (102, 2)) (hfz : w.frozen? ⟨b, 0, none⟩ = false) :
    Calls Tryz.prog 92 #[.pointer (some ⟨b, 0, none⟩)] w fun e w' => e = .returned (.tuple #[]) ∧ w' = w.setCell ⟨b, 0, none⟩ (.pointer (some ⟨b, 0, none⟩)) := by
  obtain ⟨j, hj, hjs⟩ := Option.map_eq_some_iff.1 sizeB
  go_enter Tryz.func92, Tryz.ntmps92
  go_wp2
  rw [Lib.run_to_unsafe w ⟨b, 0, none⟩ Tryz.underlying100 Tryz.underlying157 hj (by rw [hjs]; decide) hsh (Nat.zero_lt_succ 1)]
  simp only [Result.andThen]
  rw [Oper.upon_value]
  go_wp2
  rw [run_callFunc_extern Tryz.func104 (by kernel_rfl) (by kernel_rfl) (by kernel_rfl) (e := Extern.AbiNoEscape.same) (by kernel_rfl)]
  rw [Lib.run_noEscape]
  simp only [Result.andThen]
  rw [Oper.upon_value]
  go_wp2
  rw [Lib.run_from_unsafe w ⟨b, 0, none⟩ Tryz.underlying157 Tryz.underlying100 hj hsh liesB]
  simp only [Result.andThen]
  rw [Oper.upon_value]
  go_wp2
  exact bodyPost_end (v := .tuple #[]) (by simp [results, Tryz.results92]) rfl ⟨rfl, rfl⟩
/-- A string's bytes appended to a row: it is the row that it was, or a new one. -/
theorem append_str_at {P : Program} (w : World) (base : Nat) (t u ty e : TypeId) (i : TypeInfo) (ht : P.underlying t = some (.slice e)) (hu : P.underlying u = some .string) (hi : P.info? e = some i) (hz : i.zero = some (.int .u8 0))
    (hsize : i.size = 1) (hby : i.bytes = 1) (v : Value) (n : Nat) (xs : List Value) (hown : w.ownsRow base e 1 v n xs) (s : ByteArray) (h63 : n + s.size ≤ maxLen) (hbytes : n + s.size ≤ 140737488355328) {v' : Value} {w' : World}
    (hr : (Builtin.append_ #[t, u] ty #[v, .string s]).run P w = .ok v' w') : v'.ownBlock = v.ownBlock ∨ v'.ownBlock = some w.heap.size := by
  have hsmall : n + s.size ≤ 9223372036854775807 := by simp only [maxLen] at h63; omega
  have hxl : xs.length = n := by simpa using hown.1
  rcases hown.2 with ⟨rfl, rfl⟩ | ⟨g, cap, cur, rfl, hbg, hg, hnc, hcm, hcs, htake⟩
  · by_cases hm : s.size = 0
    · have hf := run_firstCells_string (P := P) w 1 s
      rw [hm] at hf
      have h2 : (Builtin.append_ #[t, u] ty #[.slice none 0 0, .string s]).run P w = .ok (.slice none 0 0) w := by simp [Builtin.append_, run_underlying ht, run_underlying hu, sizeOf, typeInfo, hi, hsize, Builtin.lenOf, hm, hf]
      rw [h2] at hr
      cases hr
      exact .inl rfl
    · have h2 := run_append_nil_string (P := P) w t u ty e i (.int .u8 0) ht hu hi hz s (by omega) (by omega) (by rw [hby]; omega)
      rw [h2] at hr
      cases hr
      exact .inr rfl
  · by_cases hroom : n + s.size ≤ cap
    · have hcs' : cur.size = cap := by simpa using hcs
      have h2 := run_append_room_string (P := P) w t u ty e i ht hu hi hsize g n cap cur hg s hroom (by omega)
      rw [h2] at hr
      cases hr
      exact .inl rfl
    · have holds : ∀ j u, xs[j]? = some u → w.cell? ((⟨g, 0, none⟩ : Addr).add j) = some u := hown.cells (g := g) rfl
      have h2 := run_append_grow_string (P := P) w t u ty e i (.int .u8 0) ht hu hi hz ⟨g, 0, none⟩ n cap xs (by rw [hsize]; simpa using hxl) holds s (by omega) (by omega) (by rw [hby]; exact growslice_fits (by omega) (by omega))
      rw [h2] at hr
      cases hr
      exact .inr rfl
theorem wpList_str_at {P : Program} {w : World} {ops : Array Oper} {rest : List Oper} {o : Oper} {a : Act} {Q : Exit → Act → World → Prop} (hgd : o.guard = none) (sl x : Operand) (t u : TypeId)
    (ho : o.op = .call { callee := .builtin .append, args := #[sl, x], argTypes := #[t, u] })
    (base : Nat) (e : TypeId) (i : TypeInfo) (ht : P.underlying t = some (.slice e)) (hu : P.underlying u = some .string) (hi : P.info? e = some i) (hz : i.zero = some (.int .u8 0)) (hsize : i.size = 1) (hby : i.bytes = 1)
    (v : Value) (n : Nat) (xs : List Value) (hs : a.eval sl = v) (hown : w.ownsRow base e 1 v n xs) (s : ByteArray) (hx : a.eval x = .string s) (h63 : n + s.size ≤ maxLen) (hbytes : n + s.size ≤ 140737488355328) (hbase : base ≤ w.heap.size)
    (h : ∀ v' w', w'.ownsRow base e 1 v' (n + s.size) (xs ++ strCells s) → w.grownBy w' v.ownBlock → (v'.ownBlock = v.ownBlock ∨ v'.ownBlock = some w.heap.size) → wpList P ops Q rest (a.put o.dst v') w') : wpList P ops Q (o :: rest) a w := by
  refine wpList_plain hgd fun K hK => ?_
  obtain ⟨v', w', hr, h2, h3, _⟩ := run_append_own_string (P := P) w base t u o.type e i ht hu hi hz hsize hby v n xs hown s h63 hbytes hbase
  have hat := append_str_at w base t u o.type e i ht hu hi hz hsize hby v n xs hown s h63 hbytes hr
  unfold Oper.wp execOp
  simp only [ho, resolve, invoke, builtin, Sem.run_bind, Sem.run_pure, Result.andThen_ok, List.map_toArray, List.map_cons, List.map_nil, hs, hx, hr]
  exact hK _ _ (h v' w' h2 h3 hat)
/-- A builder that holds bytes, and the value of its row. -/
def BldV (n₀ b : Nat) (v : Value) (bs : List Value) (w : World) : Prop :=
  n₀ ≤ b ∧ (∃ p, (p = Value.pointer none ∨ p = .pointer (some ⟨b, 0, none⟩)) ∧ w.heap[b]? = some (.cells #[p, v] 102 (0, 0))) ∧ w.ownsRow n₀ 5 1 v bs.length bs ∧ v.ownBlock ≠ some b
theorem BldV.is {n₀ b : Nat} {v : Value} {bs : List Value} {w : World} (h : BldV n₀ b v bs w) : IsBuilder 102 5 n₀ b bs w := by
  obtain ⟨h1, ⟨p, rfl | rfl, hp⟩, h3, h4⟩ := h
  · exact .inl ⟨h1, v, hp, h3, h4⟩
  · exact .inr ⟨h1, v, hp, h3, h4⟩
theorem BldV.lt {n₀ b : Nat} {v : Value} {bs : List Value} {w : World} (h : BldV n₀ b v bs w) : b < w.heap.size := by
  obtain ⟨_, ⟨p, _, hp⟩, _, _⟩ := h
  exact (Array.getElem?_eq_some_iff.1 hp).1
/-- Its blocks. -/
def Mb (b : Nat) (W : World) (k : Nat) : Prop := k = b ∨ ∃ p v fr, W.heap[b]? = some (.cells #[p, v] 102 fr) ∧ v.ownBlock = some k
theorem BldV.mb {n₀ b : Nat} {v : Value} {bs : List Value} {w : World} (h : BldV n₀ b v bs w) {k : Nat} : Mb b w k ↔ k = b ∨ v.ownBlock = some k := by
  obtain ⟨_, ⟨p, _, hp⟩, _, _⟩ := h
  constructor
  · rintro (h | ⟨p', v', fr, h1, h2⟩)
    · exact .inl h
    · rw [hp] at h1
      obtain ⟨h3, -⟩ : #[p, v] = #[p', v'] ∧ _ := by simpa using h1
      have : v = v' := by simp at h3; exact h3.2
      subst this
      exact .inr h2
  · rintro (h | h)
    · exact .inl h
    · exact .inr ⟨p, v, _, hp, h⟩
set_option maxRecDepth 100000 in
set_option maxHeartbeats 1000000 in
theorem ws_any (n₀ b : Nat) (v : Value) (bs : List Value) (s : ByteArray) (w : World) (h : BldV n₀ b v bs w) (hlen : bs.length + s.size ≤ 140737488355328) (hn : n₀ ≤ w.heap.size) :
    Calls Tryz.prog 53 #[.pointer (some ⟨b, 0, none⟩), .string s] w fun e w' => ∃ r v', e = .returned r ∧ BldV n₀ b v' (bs ++ strCells s) w' ∧ Kq n₀ (Mb b) w w' := by
  obtain ⟨i0, hi, hz0, hz1, hz2⟩ := info_parts infoByte
  have hcc : Calls Tryz.prog 92 #[.pointer (some ⟨b, 0, none⟩)] w fun e w' => e = .returned (.tuple #[]) ∧ w'.heap[b]? = some (.cells #[.pointer (some ⟨b, 0, none⟩), v] 102 (0, 0)) ∧ w.grownBy w' (some b) ∧ w'.heap.size = w.heap.size := by
    obtain ⟨h1, ⟨p, rfl | rfl, hp⟩, h3, h4⟩ := h
    · have hB : BuilderAt 102 5 n₀ b (.pointer none) bs w := ⟨h1, v, hp, h3, h4⟩
      refine (cc_fresh b w hB.cell0 hB.shape hB.frozen0).mono ?_
      rintro e w' ⟨rfl, rfl⟩
      exact ⟨rfl, by simp [World.setCell, Array.getElem?_modify, hp], ⟨rfl, rfl, rfl, by simp, fun k _ hk => Below.heap_setCell _ _ _ _ (fun e => hk (by simp [e]))⟩, by simp⟩
    · refine (cc_used b w (by rw [cell_of_heap hp]; rfl)).mono ?_
      rintro e w' ⟨rfl, rfl⟩
      exact ⟨rfl, hp, ⟨rfl, rfl, rfl, Nat.le_refl _, fun _ _ _ => rfl⟩, rfl⟩
  have HC : Hid (Calls Tryz.prog 92 #[.pointer (some ⟨b, 0, none⟩)] w fun e w' => e = .returned (.tuple #[]) ∧ w'.heap[b]? = some (.cells #[.pointer (some ⟨b, 0, none⟩), v] 102 (0, 0)) ∧ w.grownBy w' (some b) ∧ w'.heap.size = w.heap.size) := hcc
  clear hcc
  have hmb : ∀ {k : Nat}, Mb b w k ↔ k = b ∨ v.ownBlock = some k := h.mb
  have hlt := h.lt
  obtain ⟨hB, -, hown0, hne⟩ := h
  go_enter Tryz.func53, Tryz.ntmps53
  go_wp2_with (go_at_call 92; refine HC.out.mono ?_)
  rintro e w1 ⟨rfl, hbk, hg1, hs1⟩
  have hown : w1.ownsRow n₀ 5 1 v bs.length bs := hown0.kept hg1 (.inr hne)
  have c0 : w1.cell? ⟨b, 0, none⟩ = some (.pointer (some ⟨b, 0, none⟩)) := by rw [cell_of_heap hbk]; rfl
  have c1 : w1.cell? ⟨b, 1, none⟩ = some v := by rw [cell_of_heap hbk]; rfl
  go_wp2_with (at_builtin; refine wpList_str_at rfl _ _ 22 9 rfl n₀ 5 i0 Tryz.underlying22 Tryz.underlying9 hi hz0 hz1 hz2 _ _ _ rfl hown s rfl ?c3 ?c4 ?c5 ?_)
  case c3 => unfold maxLen; omega
  case c4 => omega
  case c5 => omega
  intro v' w2 hown' hgrow hat
  have hb2 : w2.heap[b]? = some (.cells #[.pointer (some ⟨b, 0, none⟩), v] 102 (0, 0)) := by
    rw [hgrow.block b (by omega) (fun e => hne e.symm)]
    exact hbk
  have d0 : w2.cell? ⟨b, 0, none⟩ = some (.pointer (some ⟨b, 0, none⟩)) := by rw [cell_of_heap hb2]; rfl
  have d1 : w2.cell? ⟨b, 1, none⟩ = some v := by rw [cell_of_heap hb2]; rfl
  have f1 : w2.frozen? ⟨b, 1, none⟩ = false := frozen_of_heap hb2 1
  obtain ⟨ao, n', cap, rfl⟩ : ∃ ao n' cap, v' = .slice ao n' cap := by
    rcases hown'.2 with ⟨hv, _⟩ | ⟨g, cap, cur, hv, _⟩
    · exact ⟨_, _, _, hv⟩
    · exact ⟨_, _, _, hv⟩
  go_wp2
  go_ret2
  have hput := BuilderAt.put (T := 102) (e := 5) hB hb2 (bs' := bs ++ strCells s) (by simpa [strCells_length] using hown') (by decide)
  have hb3 : (w2.setCell ⟨b, 1, none⟩ (.slice ao n' cap)).heap[b]? = some (.cells #[.pointer (some ⟨b, 0, none⟩), .slice ao n' cap] 102 (0, 0)) := by simp [World.setCell, Array.getElem?_modify, hb2]
  have hnew : BldV n₀ b (.slice ao n' cap) (bs ++ strCells s) (w2.setCell ⟨b, 1, none⟩ (.slice ao n' cap)) := by
    obtain ⟨q1, v2, q2, q3, q4⟩ := hput
    have : v2 = .slice ao n' cap := by rw [hb3] at q2; simp at q2; exact q2.symm
    subst this
    exact ⟨q1, ⟨_, .inr rfl, q2⟩, q3, q4⟩
  have hsz2 := hgrow.size
  have hown_lt : ∀ k, v.ownBlock = some k → n₀ ≤ k := fun k hk => (hown0.lt k hk).1
  refine ⟨_, _, rfl, hnew, ⟨?_, fun k hk hm => ?_, fun k hk hm => ?_⟩⟩
  · exact ((below_grown hg1 hn (fun r e => by cases e; exact hB)).trans (below_grown hgrow (by omega) (fun r e => hown_lt r e))).setCell (p := ⟨b, 1, none⟩) hB _
  · have h1 : k ≠ b := fun e => hm (hmb.2 (.inl e))
    have h2 : some k ≠ v.ownBlock := fun e => hm (hmb.2 (.inr e.symm))
    refine (Below.heap_setCell _ _ _ _ h1).trans ((hgrow.block k (by omega) h2).trans (hg1.block k hk (fun e => h1 (by simpa using e))))
  · rcases hnew.mb.1 hm with e | e
    · exact hmb.2 (.inl e)
    · rcases hat with e2 | e2
      · exact hmb.2 (.inr (e2.symm.trans e))
      · rw [e] at e2
        have : k = w.heap.size := Option.some.inj e2
        omega
end Go.Proofs.YtoljpgpkeploiaaGreatDoor
/-
  The program's told and writeTree: the text of data without fault, written along what is told of them; nothing that was there is turned.
-/
namespace Go.Proofs.YtoljpgpkeploiaaGreatDoor
open Go.RowKit Go.Extern.Stop Go.Stop Go.Extern Num Go.Lib Go.Shelf
attribute [local go_sem] Oper.semAt_some

theorem told_in (F : Fence) (n : Nat) (hF : ∀ f, F.fn f) (hro : F.round = none) (p : Option Addr) (a : Int) (w : World) :
    CallsIn F n Tryz.prog 52 #[.pointer p, .int .i64 a] w fun e w' => e = .returned (.func (.func 90) #[] #[.pointer (some ⟨w.heap.size, 0, none⟩), .pointer (some ⟨w.heap.size + 1, 0, none⟩)]) ∧
      w' = (w.alloc (.cells #[.pointer p] 55)).alloc (.cells #[.int .i64 a] 2) := by
  refine callsIn_of_wp Tryz.func52 rfl (hF _) ?_ hro
  simp only [Tryz.ntmps52, List.size_toArray, List.length_cons, List.length_nil, Nat.reduceAdd, Nat.reduceSub, Array.replicate_succ, Array.replicate_zero, List.push_toArray, List.append_toArray, List.nil_append, List.cons_append]
  gi_wp2
  go_ret
  exact ⟨rfl, rfl⟩
theorem told_seq {d : List Dat} (Fi : Fine d) (hPd : ∀ (k : Nat) (h : k < (nodes d).length), PdN ((k : Int), (nodes d)[k])) (hd : 0 < d.length) (n₀ tb bt ba : Nat) (w : World) (hn₀ : n₀ ≤ w.heap.size)
    (hBt : w.cell? ⟨bt, 0, none⟩ = some (.pointer (some ⟨tb, 0, none⟩))) (hBa : w.cell? ⟨ba, 0, none⟩ = some (.int .i64 0)) (hbt : bt < w.heap.size) (hba : ba < w.heap.size) (hT : IsTree n₀ w tb (nodes d)) :
    SeqM Tryz.prog 90 #[.pointer (some ⟨bt, 0, none⟩), .pointer (some ⟨ba, 0, none⟩)] (fun x : Int × Bool => #[.int .i64 x.1, .bool x.2]) n₀ (evF d d.length 0) w := fun y M J W hW hn hO hY h0 => by
  have c0 : W.cell? ⟨bt, 0, none⟩ = some (.pointer (some ⟨tb, 0, none⟩)) := (hW.cell (p := ⟨bt, 0, none⟩) hbt).trans hBt
  have c1 : W.cell? ⟨ba, 0, none⟩ = some (.int .i64 0) := (hW.cell (p := ⟨ba, 0, none⟩) hba).trans hBa
  have HC : Hid (Calls Tryz.prog 91 #[.pointer (some ⟨tb, 0, none⟩), .int .i64 0, .func (.yield y) #[] #[]] W fun e W' => e = .returned (.bool true) ∧ J ([] ++ evF d d.length 0) W' ∧ Kq n₀ M W W') :=
    tell_any Fi hPd n₀ W.heap.size tb y M J hO hn (evF d d.length 0) hY d.length 0 [] W hd (by omega) (List.prefix_refl _) h0 (Nat.le_refl _) (hT.below (hW.mono hn₀))
  show Calls Tryz.prog _ #[.func (.yield y) #[] #[], .pointer (some ⟨bt, 0, none⟩), .pointer (some ⟨ba, 0, none⟩)] W _
  clear hY h0 hO hT hPd Fi
  go_enter Tryz.func90, Tryz.ntmps90
  go_wp2_with (go_at_call 91; refine HC.out.mono ?_; rintro e W' ⟨rfl, j, k⟩)
  exact bodyPost_end (v := .tuple #[]) (by simp [results, Tryz.results90]) rfl ⟨⟨_, rfl⟩, j, k.size⟩
theorem Mb.read {b : Nat} {W W' : World} (h : W'.heap[b]? = W.heap[b]?) {k : Nat} (hm : Mb b W' k) : Mb b W k := by
  rcases hm with hm | ⟨p, v, fr, h1, h2⟩
  · exact .inl hm
  · exact .inr ⟨p, v, fr, by rw [← h]; exact h1, h2⟩
theorem BldV.keep {n₀ b : Nat} {v : Value} {bs : List Value} {W W' : World} (h : BldV n₀ b v bs W) (hs : ∀ k, Mb b W k → W'.heap[k]? = W.heap[k]?) : BldV n₀ b v bs W' := by
  obtain ⟨h1, ⟨p, hp, hb⟩, h3, h4⟩ := h
  refine ⟨h1, ⟨p, hp, (hs b (.inl rfl)).trans hb⟩, ?_, h4⟩
  obtain ⟨hl, ⟨e1, e2⟩ | ⟨g, cap, cur, rfl, q1, q2, q3⟩⟩ := h3
  · exact ⟨hl, .inl ⟨e1, e2⟩⟩
  · exact ⟨hl, .inr ⟨g, cap, cur, rfl, q1, (hs g (.inr ⟨p, _, _, hb, rfl⟩)).trans q2, q3⟩⟩
theorem BldV.cells {n₀ b : Nat} {v : Value} {bs : List Value} {W : World} (h : BldV n₀ b v bs W) {k : Nat} (hm : Mb b W k) : ∃ o : Obj, W.heap[k]? = some o ∧ o.isCells = true := by
  have hm' := h.mb.1 hm
  obtain ⟨h1, ⟨p, hp, hb⟩, h3, h4⟩ := h
  rcases hm' with rfl | hm'
  · exact ⟨_, hb, rfl⟩
  · obtain ⟨hl, ⟨e1, e2⟩ | ⟨g, cap, cur, rfl, q1, q2, q3⟩⟩ := h3
    · subst e1; simp [Value.ownBlock] at hm'
    · have : g = k := by simpa [Value.ownBlock] using hm'
      subst this
      exact ⟨_, q2, rfl⟩
theorem kq_mb {n₀ b : Nat} {W W' : World} (hb : Below W.heap.size W W') (hn : n₀ ≤ W.heap.size) (hlt : b < W.heap.size) : Kq n₀ (Mb b) W W' := ⟨hb.mono hn, fun k hk _ => hb.block k hk, fun _ _ hm => Mb.read (hb.block b hlt) hm⟩
theorem BldV.below {n₀ b : Nat} {v : Value} {bs : List Value} {W W' : World} (h : BldV n₀ b v bs W) (hb : Below W.heap.size W W') : BldV n₀ b v bs W' := h.keep fun k hm => by
  obtain ⟨o, ho, _⟩ := h.cells hm
  exact hb.block k (Array.getElem?_eq_some_iff.1 ho).1
theorem cells_str (l : List UInt8) (s : ByteArray) : byteCells l ++ strCells s = byteCells (l ++ s.data.toList) := by simp [byteCells, strCells]
theorem byteCells_len (l : List UInt8) : (byteCells l).length = l.length := by simp [byteCells]
theorem ev_mem {d : List Dat} : ∀ (f a : Nat) (x : Int × Bool), a < d.length → x ∈ evF d f a → ∃ j : Nat, x.1 = (j : Int) ∧ j < d.length
  | 0, _, _, _, h => by simp [evF] at h
  | f + 1, a, x, ha, h => by
    simp only [evF, List.mem_append, List.mem_singleton, List.mem_flatMap] at h
    rcases h with (rfl | ⟨p, hp, hx⟩) | rfl
    · exact ⟨a, rfl, ha⟩
    · obtain ⟨j, rfl, hj, _⟩ := (parts_mem d _ _).1 hp
      exact ev_mem f _ x hj hx
    · exact ⟨a, rfl, ha⟩
/-- A text in the builder; the tree's place; all else as it was. -/
def JL (w : World) (tb : Nat) (l : List UInt8) (X : World) : Prop := (∃ v, BldV w.heap.size (w.heap.size + 1) v (byteCells l) X) ∧ Boxed X w.heap.size 55 (.pointer (some ⟨tb, 0, none⟩)) ∧ Below w.heap.size w X
theorem jl_own (d : List Dat) (w : World) (tb B : Nat) (hB : w.heap.size + 2 ≤ B) : OwnM w.heap.size B (Mb (w.heap.size + 1)) (fun pre => JL w tb (evT d pre)) where
  keep := fun s W W' h hb hl hm => by
    obtain ⟨⟨v, hv⟩, hx, hw⟩ := h
    exact ⟨⟨v, hv.keep hm⟩, (hl _ (by omega)).trans hx, hw.trans hb⟩
  read := fun s W W' h hm b hb => Mb.read (hm _ (.inl rfl)) hb
  cells := fun s W b h hb => by
    obtain ⟨⟨v, hv⟩, -⟩ := h
    exact hv.cells hb
theorem JL.below {w : World} {tb : Nat} {l : List UInt8} {X X' : World} (h : JL w tb l X) (hb : Below X.heap.size X X') : JL w tb l X' := by
  obtain ⟨⟨v, hv⟩, hx, hw⟩ := h
  exact ⟨⟨v, hv.below hb⟩, (hb.block _ hx.lt).trans hx, hw.trans (hb.mono hw.size)⟩
theorem JL.kq {w : World} {tb : Nat} {l : List UInt8} {X X' : World} (h : JL w tb l X) (hb : Below X.heap.size X X') : Kq w.heap.size (Mb (w.heap.size + 1)) X X' := by
  obtain ⟨⟨v, hv⟩, hx, hw⟩ := h
  exact kq_mb hb hw.size hv.lt
theorem JL.not_new {w : World} {tb : Nat} {l : List UInt8} {X : World} (h : JL w tb l X) (o : Obj) : ¬ Mb (w.heap.size + 1) (X.alloc o) X.heap.size := fun hm => by
  obtain ⟨⟨v, hv⟩, hx, hw⟩ := h
  obtain ⟨o', ho, _⟩ := hv.cells (Mb.read (Below.heap_alloc X o _ hv.lt) hm)
  have := (Array.getElem?_eq_some_iff.1 ho).1
  omega
/-- A text written behind the text so far. -/
theorem JL.write {w : World} {tb : Nat} {l : List UInt8} (s : ByteArray) {X : World} (h : JL w tb l X) (hlen : l.length + s.size ≤ 100000) :
    Calls Tryz.prog 53 #[.pointer (some ⟨w.heap.size + 1, 0, none⟩), .string s] X fun e X' => ∃ r, e = .returned r ∧ JL w tb (l ++ s.data.toList) X' ∧ Kq w.heap.size (Mb (w.heap.size + 1)) X X' := by
  obtain ⟨⟨v, hv⟩, hx, hw⟩ := h
  refine (ws_any w.heap.size (w.heap.size + 1) v (byteCells l) s X hv (by rw [byteCells_len]; omega) hw.size).mono ?_
  rintro e X' ⟨r, v', rfl, hv', hk⟩
  rw [cells_str] at hv'
  have hnm : ¬ Mb (w.heap.size + 1) X w.heap.size := fun hm => by
    rcases hv.mb.1 hm with e | e
    · omega
    · exact (hx.not_row (e := 5) (by decide) hv.2.2.1) e.symm
  exact ⟨r, rfl, ⟨⟨v', hv'⟩, (hk.2.1 _ hx.lt hnm).trans hx, hw.trans hk.1⟩, hk⟩
theorem fine_tok {d : List Dat} (Fi : Fine d) (j : Nat) (hj : j < d.length) : dkF d[j] = 0 := by
  obtain ⟨h1, h2, h3, _⟩ := chk_all (Fi.ok j hj hj)
  rw [dk_eq, h1, h2, h3]
  simp
theorem fine_text {d : List Dat} (Fi : Fine d) (j : Nat) (hj : j < d.length) : stepT d ((j : Int), true) = spT d j ++ (tokText ⟨tkD d[j].kind, d[j].num, d[j].name⟩).data.toList := by
  have e : (d[j]?.map (·.kind)).getD 0 = d[j].kind := by simp [hj]
  have e2 : ((d[j]?).map leafT).getD [] = leafT d[j] := by simp [hj]
  simp only [stepT, Int.toNat_natCast, if_true, e, e2]
  congr 1
  rcases Fi.kinds j hj with ⟨h1, _⟩ | ⟨h1, h2, _⟩ | ⟨h1, _⟩ | ⟨h1, _⟩
  · simp [tokText, tkD, h1, leafT]
  · rcases h2 with h2 | h2 <;> simp [tokText, tkD, h1, h2, leafT]
  · simp [tokText, tkD, h1, leafT]
  · simp [tokText, tkD, h1]
theorem fine_end {d : List Dat} (Fi : Fine d) (j : Nat) (hj : j < d.length) : stepT d ((j : Int), false) = if tkD d[j].kind = 1 then [41] else [] := by
  have e : (d[j]?.map (·.kind)).getD 0 = d[j].kind := by simp [hj]
  simp only [stepT, Int.toNat_natCast, e]
  rcases Fi.kinds j hj with ⟨h1, _⟩ | ⟨h1, _⟩ | ⟨h1, _⟩ | ⟨h1, _⟩ <;> simp [tkD, h1]
theorem ev_len {d : List Dat} (Fi : Fine d) (hd : 0 < d.length) {pre : List (Int × Bool)} {x : Int × Bool} (h : pre ++ [x] <+: evF d d.length 0) : (evT d pre).length + (stepT d x).length ≤ 1600 := by
  obtain ⟨t, ht⟩ := h
  have h1 := evT_whole Fi hd
  rw [← ht, evT_append, evT_append, evT_one] at h1
  have h2 := write_small Fi d.length 0 hd
  rw [← h1] at h2
  simp at h2
  omega
abbrev actW (A tb : Nat) (z : Int) (b : Bool) : Act := { tmps := #[.pointer (some ⟨tb, 0, none⟩), .pointer (some ⟨A, 0, none⟩), .string ⟨#[]⟩, .pointer (some ⟨A + 1, 0, none⟩), .int .i64 z, .bool b, undef, .pointer (some ⟨tb, 0, none⟩), .func (.func 90) #[] #[.pointer (some ⟨A + 1 + 1, 0, none⟩), .pointer (some ⟨A + 1 + 1 + 1, 0, none⟩)], .int .i64 z, .bool b, undef, undef, undef, undef, undef, undef, undef, undef, undef, undef, undef, undef, undef, undef, undef, undef, undef, undef, undef, undef, undef, undef, undef, undef, undef, undef], defers := [] }
set_option maxRecDepth 100000 in
set_option maxHeartbeats 4000000 in
theorem wt_any {d : List Dat} (Fi : Fine d) (hPd : ∀ (k : Nat) (h : k < (nodes d).length), PdN ((k : Int), (nodes d)[k])) (hd : 0 < d.length) (hz : ∀ (k : Nat) (h : k < d.length), d[k].name.size ≤ 1048576) (tb : Nat) (w : World) (hL : LT w) (hT : IsTree w.heap.size w tb (nodes d)) :
    Calls Tryz.prog 28 #[.pointer (some ⟨tb, 0, none⟩)] w fun e W' => e = .returned (.string ⟨(writeF d d.length 0).toArray⟩) ∧ Below w.heap.size w W' := by
  have hF : ∀ f, Fence.wide.fn f := fun _ => trivial
  obtain ⟨T, hTe⟩ : ∃ T, T = writeF d d.length 0 := ⟨_, rfl⟩
  rw [← hTe]
  have HTe : Hid (T = writeF d d.length 0) := hTe
  clear hTe
  refine (callsIn_wide (n := 10)).1 ?_
  refine callsIn_of_wp_marks Tryz.func28 rfl trivial ?_ rfl
  simp only [Tryz.ntmps28, List.size_toArray, List.length_cons, List.length_nil, Nat.reduceAdd, Nat.reduceSub, Array.replicate_succ, Array.replicate_zero, List.push_toArray, List.append_toArray, List.nil_append, List.cons_append]
  gi_wp2_with (gi_at_call 52; refine (told_in Fence.wide (10 - 1) hF rfl _ _ _).mono ?_; rintro e w' ⟨rfl, rfl⟩)
  obtain ⟨w4, hw4⟩ : ∃ w4, w4 = ((((w.alloc (.cells #[.pointer (some ⟨tb, 0, none⟩)] 55)).alloc (.cells #[.pointer none, .slice none 0 0] 102)).alloc (.cells #[.pointer (some ⟨tb, 0, none⟩)] 55)).alloc (.cells #[.int .i64 0] 2)) := ⟨_, rfl⟩
  have hs4 : w4.heap.size = w.heap.size + 4 := by rw [hw4]; simp
  have b4 : Below w.heap.size w w4 := by rw [hw4]; exact ((((Below.refl _ w).alloc (Nat.le_refl _) _).alloc (by simp) _).alloc (by simp; omega) _).alloc (by simp; omega) _
  have x0 : Boxed w4 w.heap.size 55 (.pointer (some ⟨tb, 0, none⟩)) := by rw [hw4]; exact (((Boxed.new w _ _).alloc _).alloc _).alloc _
  have x1 : w4.heap[w.heap.size + 1]? = some (.cells #[.pointer none, .slice none 0 0] 102 (0, 0)) := by
    have h := World.alloc_heap_new (w.alloc (.cells #[.pointer (some ⟨tb, 0, none⟩)] 55)) (.cells #[.pointer none, .slice none 0 0] 102)
    rw [World.size_alloc] at h
    rw [hw4]
    exact (Below.heap_alloc _ _ _ (by simp)).trans ((Below.heap_alloc _ _ _ (by simp)).trans h)
  have x2 : Boxed w4 (w.heap.size + 1 + 1) 55 (.pointer (some ⟨tb, 0, none⟩)) := by
    have := Boxed.new ((w.alloc (.cells #[.pointer (some ⟨tb, 0, none⟩)] 55)).alloc (.cells #[.pointer none, .slice none 0 0] 102)) 55 (.pointer (some ⟨tb, 0, none⟩))
    rw [World.size_alloc, World.size_alloc] at this
    rw [hw4]; exact this.alloc _
  have x3 : Boxed w4 (w.heap.size + 1 + 1 + 1) 2 (.int .i64 0) := by
    have := Boxed.new (((w.alloc (.cells #[.pointer (some ⟨tb, 0, none⟩)] 55)).alloc (.cells #[.pointer none, .slice none 0 0] 102)).alloc (.cells #[.pointer (some ⟨tb, 0, none⟩)] 55)) 2 (.int .i64 0)
    rw [World.size_alloc, World.size_alloc, World.size_alloc] at this
    rw [hw4]; exact this
  have j0 : JL w tb (evT d []) w4 := ⟨⟨.slice none 0 0, by omega, ⟨_, .inl rfl, x1⟩, World.ownsRow_nil _ _ _ _, by simp [Value.ownBlock]⟩, x0, b4⟩
  rw [← hw4]
  refine range_M (by omega : 1 ≤ 10) (gf := 90) (lb := #[.pointer (some ⟨w.heap.size + 1 + 1, 0, none⟩), .pointer (some ⟨w.heap.size + 1 + 1 + 1, 0, none⟩)]) rfl (enters_of Tryz.func90 (by kernel_rfl) rfl)
    (told_seq Fi hPd hd w.heap.size tb (w.heap.size + 1 + 1) (w.heap.size + 1 + 1 + 1) w4 (by omega) x2.cell x3.cell (by omega) (by omega) (hT.below b4)) (Below.refl _ _) (by omega) (fun _ => rfl)
    (Mb (w.heap.size + 1)) (fun pre => JL w tb (evT d pre)) (jl_own d w tb _ (by omega)) j0
    (fun x a' _ => a' = actW w.heap.size tb x.1 x.2) (fun _ _ _ _ _ _ h _ _ _ => h) ?assign ?body ?done
  case assign =>
    rintro l' pre x X K hI _ _ hK
    gi_wp2
    exact hK _ _ (Kq.refl _ _ _) hI rfl
  case body =>
    rintro l' pre ⟨z, b⟩ a' X hJ rfl hpx hs
    obtain ⟨j, hj1, hj⟩ := ev_mem d.length 0 (z, b) hd (hpx.subset (by simp))
    obtain rfl : z = (j : Int) := hj1
    have hlen := ev_len Fi hd hpx
    have hFr : ∀ f, (Fence.wide.inRound l').fn f := fun _ => trivial
    have hjn : j < (nodes d).length := by rw [nodes_len]; exact hj
    obtain ⟨ao, g, cap, hc, htb, hg, hao, hrow⟩ := hT.below hJ.2.2
    obtain rfl := hao (by intro h; rw [h] at hjn; simp at hjn)
    obtain ⟨c0, c1, c2, c3⟩ := hrow j hjn
    rw [nodes_at d j hj] at c0 c1 c2 c3
    have d0 := hJ.2.1.cell
    have hjl : (j : Int) < ((nodes d).length : Int) := by omega
    have hj0 : (0 : Int) ≤ (j : Int) := by omega
    have hj3 : j < 1000 := by have := Fi.len; omega
    have hst : evT d (pre ++ [((j : Int), b)]) = evT d pre ++ stepT d ((j : Int), b) := by rw [evT_append, evT_one]
    have HJ : Hid (JL w tb (evT d pre) X) := hJ
    have HT : Hid (∀ u, LT u → Calls Tryz.prog 48 #[.agg #[.int .i64 (tkD d[j].kind), .int .i64 d[j].num, .string d[j].name]] u fun e w' => e = .returned (.agg #[.int .i64 0, .string (tokText ⟨tkD d[j].kind, d[j].num, d[j].name⟩)]) ∧ Below u.heap.size u w') := fun u hu => by
      have h := implTT_any ⟨tkD d[j].kind, d[j].num, d[j].name⟩ u hu (by have := hz j hj; show d[j].name.size ≤ _; omega)
      have e : TT ⟨tkD d[j].kind, d[j].num, d[j].name⟩ = .agg #[.int .i64 0, .string (tokText ⟨tkD d[j].kind, d[j].num, d[j].name⟩)] := by
        have h0 : tokFault ⟨tkD d[j].kind, d[j].num, d[j].name⟩ = 0 := fine_tok Fi j hj
        simp [TT, h0]
      rw [e] at h
      exact h
    have hEnd := fine_end Fi j hj
    have hTxt := fine_text Fi j hj
    have hpar := par_at d j hj
    obtain ⟨t, ht⟩ : ∃ t, t = d[j] := ⟨_, rfl⟩
    rw [← ht] at HT c0 c1 c2 c3 hEnd hTxt hpar
    obtain ⟨kd, hkd⟩ : ∃ kd, kd = tkD t.kind := ⟨_, rfl⟩
    have c1' : X.cell? ⟨g, j * 4 + 1, none⟩ = some (.int .i64 kd) := by rw [hkd]; exact c1
    have c0' : X.cell? ⟨g, j * 4, none⟩ = some (.int .i64 t.parent) := c0
    have c2' : X.cell? ⟨g, j * 4 + 2, none⟩ = some (.int .i64 t.num) := c2
    have c3' : X.cell? ⟨g, j * 4 + 3, none⟩ = some (.string t.name) := c3
    rw [← hkd] at HT hEnd hTxt
    have jY : JL w tb (evT d pre) (X.alloc (.cells #[.int .i64 t.parent, .int .i64 kd, .int .i64 t.num, .string t.name] 107)) := HJ.out.below ((Below.refl _ X).alloc (Nat.le_refl _) (.cells #[.int .i64 t.parent, .int .i64 kd, .int .i64 t.num, .string t.name] 107))
    have kY : Kq w.heap.size (Mb (w.heap.size + 1)) X (X.alloc (.cells #[.int .i64 t.parent, .int .i64 kd, .int .i64 t.num, .string t.name] 107)) := HJ.out.kq ((Below.refl _ X).alloc (Nat.le_refl _) (.cells #[.int .i64 t.parent, .int .i64 kd, .int .i64 t.num, .string t.name] 107))
    have nY : ¬ Mb (w.heap.size + 1) (X.alloc (.cells #[.int .i64 t.parent, .int .i64 kd, .int .i64 t.num, .string t.name] 107)) X.heap.size := HJ.out.not_new _
    have JY : Hid (JL w tb (evT d pre) (X.alloc (.cells #[.int .i64 t.parent, .int .i64 kd, .int .i64 t.num, .string t.name] 107))) := jY
    have KY : Hid (Kq w.heap.size (Mb (w.heap.size + 1)) X (X.alloc (.cells #[.int .i64 t.parent, .int .i64 kd, .int .i64 t.num, .string t.name] 107))) := kY
    have NY : Hid (¬ Mb (w.heap.size + 1) (X.alloc (.cells #[.int .i64 t.parent, .int .i64 kd, .int .i64 t.num, .string t.name] 107)) X.heap.size) := nY
    clear c0 c1 c2 c3 ht hkd hrow hao hJ jY kY nY
    cases b with
    | false =>
      rw [hEnd] at hst hlen
      by_cases hk : kd = 1
      · rw [if_pos hk] at hst hlen
        subst hk
        have HST : Hid (evT d (pre ++ [((j : Int), false)]) = evT d pre ++ [41]) := hst
        have HW : Hid (∀ Y, JL w tb (evT d pre) Y → Calls Tryz.prog 53 #[.pointer (some ⟨w.heap.size + 1, 0, none⟩), .string ⟨#[41]⟩] Y fun e X' => ∃ r, e = .returned r ∧ JL w tb (evT d pre ++ [41]) X' ∧ Kq w.heap.size (Mb (w.heap.size + 1)) Y X') := fun Y hY => hY.write ⟨#[41]⟩ (by have : (⟨#[41]⟩ : ByteArray).size = 1 := rfl; omega)
        clear hst hlen hEnd hTxt hpar HT hpx
        gi_wp2_with (gi_at_call 53; refine (((callsIn_wide (n := 10 - 1 - 1 - 1)).2 (HW.out _ JY.out)).inRound l').mono ?_; rintro r X' ⟨v, rfl, hJ', hk'⟩)
        exact ⟨KY.out.trans hk', by show JL w tb (evT d _) _; rw [HST.out]; exact hJ'⟩
      · rw [if_neg hk, List.append_nil] at hst
        have hkb : (kd == 1) = false := beq_false_of_ne hk
        have HST : Hid (evT d (pre ++ [((j : Int), false)]) = evT d pre) := hst
        clear hst hlen hEnd hTxt hpar HT hpx
        gi_wp2
        exact ⟨KY.out, by show JL w tb (evT d _) _; rw [HST.out]; exact JY.out⟩
    | true =>
      rw [hTxt] at hst hlen
      obtain ⟨tx, htx⟩ : ∃ tx, tx = tokText ⟨kd, t.num, t.name⟩ := ⟨_, rfl⟩
      rw [← htx] at hst hlen HT
      clear htx
      have hfd : ∀ u : World, (Instr.field 32 (.agg #[.int .i64 0, .string tx]) 1).run Tryz.prog u = .ok (.string tx) u := fun u => by kernel_rfl
      have hsz : tx.data.toList.length = tx.size := by rw [Array.length_toList]; rfl
      have e1 : (X.alloc (.cells #[.int .i64 t.parent, .int .i64 kd, .int .i64 t.num, .string t.name] 107)).cell? ⟨X.heap.size, 1, none⟩ = some (.int .i64 kd) := (cell_of_heap (World.alloc_heap_new X _) 1).trans rfl
      have e2 : (X.alloc (.cells #[.int .i64 t.parent, .int .i64 kd, .int .i64 t.num, .string t.name] 107)).cell? ⟨X.heap.size, 2, none⟩ = some (.int .i64 t.num) := (cell_of_heap (World.alloc_heap_new X _) 2).trans rfl
      have e3 : (X.alloc (.cells #[.int .i64 t.parent, .int .i64 kd, .int .i64 t.num, .string t.name] 107)).cell? ⟨X.heap.size, 3, none⟩ = some (.string t.name) := (cell_of_heap (World.alloc_heap_new X _) 3).trans rfl
      have E1 : Hid ((X.alloc (.cells #[.int .i64 t.parent, .int .i64 kd, .int .i64 t.num, .string t.name] 107)).cell? ⟨X.heap.size, 1, none⟩ = some (.int .i64 kd) ∧ (X.alloc (.cells #[.int .i64 t.parent, .int .i64 kd, .int .i64 t.num, .string t.name] 107)).cell? ⟨X.heap.size, 2, none⟩ = some (.int .i64 t.num) ∧ (X.alloc (.cells #[.int .i64 t.parent, .int .i64 kd, .int .i64 t.num, .string t.name] 107)).cell? ⟨X.heap.size, 3, none⟩ = some (.string t.name)) := ⟨e1, e2, e3⟩
      clear e1 e2 e3
      have HW : Hid (∀ l Y, l.length ≤ 50000 → JL w tb l Y → Calls Tryz.prog 53 #[.pointer (some ⟨w.heap.size + 1, 0, none⟩), .string tx] Y fun e X' => ∃ r, e = .returned r ∧ JL w tb (l ++ tx.data.toList) X' ∧ Kq w.heap.size (Mb (w.heap.size + 1)) Y X') := fun l Y hl hY => hY.write tx (by simp at hlen; omega)
      by_cases hp : t.parent = (j : Int) - 1
      · have hpb : (t.parent != (j : Int) - 1) = false := by simpa using hp
        have hsp : spT d j = [] := by unfold spT; rw [hpar, if_pos hp]
        rw [hsp, List.nil_append] at hst hlen
        have HST : Hid (evT d (pre ++ [((j : Int), true)]) = evT d pre ++ tx.data.toList) := hst
        have hlp : (evT d pre).length ≤ 50000 := by omega
        clear hst hlen hEnd hTxt hpar hpx hp hsp
        gi_wp2_with (first | (gi_at_call 48; refine (((callsIn_wide (n := 10 - 1 - 1 - 1)).2 (HT.out _ (hL.below JY.out.2.2))).inRound l').mono ?_; rintro r X3 ⟨rfl, b3⟩) | (gi_at_call 53; refine (((callsIn_wide (n := 10 - 1 - 1 - 1)).2 (HW.out _ _ hlp (JY.out.below b3))).inRound l').mono ?_; rintro r X' ⟨v, rfl, hJ', hk'⟩))
        gi_wp2
        exact ⟨(KY.out.trans (JY.out.kq b3)).trans hk', by show JL w tb (evT d _) _; rw [HST.out]; exact hJ'⟩
      · have hpb : (t.parent != (j : Int) - 1) = true := by simpa using hp
        have hsp : spT d j = [32] := by unfold spT; rw [hpar, if_neg hp]
        rw [hsp] at hst hlen
        have HST : Hid (evT d (pre ++ [((j : Int), true)]) = (evT d pre ++ [32]) ++ tx.data.toList) := by show _ = _; rw [hst, List.append_assoc]
        have hlp : (evT d pre ++ [32]).length ≤ 50000 := by simp at hlen ⊢; omega
        have HB : Hid (∀ Y, JL w tb (evT d pre) Y → Calls Tryz.prog 53 #[.pointer (some ⟨w.heap.size + 1, 0, none⟩), .string ⟨#[32]⟩] Y fun e X' => ∃ r, e = .returned r ∧ JL w tb (evT d pre ++ [32]) X' ∧ Kq w.heap.size (Mb (w.heap.size + 1)) Y X') := fun Y hY => hY.write ⟨#[32]⟩ (by have : (⟨#[32]⟩ : ByteArray).size = 1 := rfl; omega)
        have hsY : X.heap.size < (X.alloc (.cells #[.int .i64 t.parent, .int .i64 kd, .int .i64 t.num, .string t.name] 107)).heap.size := by simp
        clear hst hlen hEnd hTxt hpar hpx hp hsp
        gi_wp2_with (first | (gi_at_call 48; refine (((callsIn_wide (n := 10 - 1 - 1 - 1)).2 (HT.out _ (hL.below j2.2.2))).inRound l').mono ?_; rintro r X3 ⟨rfl, b3⟩) | (gi_at_call 53; refine (((callsIn_wide (n := 10 - 1 - 1 - 1)).2 (HW.out _ _ hlp (j2.below b3))).inRound l').mono ?_; rintro r X' ⟨v, rfl, hJ', hk'⟩) | (gi_at_call 53; refine (((callsIn_wide (n := 10 - 1 - 1 - 1)).2 (HB.out _ JY.out)).inRound l').mono ?_; rintro r X2 ⟨v2, rfl, j2, k2⟩; have q1 := (k2.cell (j := 1) hsY NY.out).trans E1.out.1; have q2 := (k2.cell (j := 2) hsY NY.out).trans E1.out.2.1; have q3 := (k2.cell (j := 3) hsY NY.out).trans E1.out.2.2))
        gi_wp2
        exact ⟨((KY.out.trans k2).trans (j2.kq b3)).trans hk', by show JL w tb (evT d _) _; rw [HST.out]; exact hJ'⟩
  case done =>
    rintro X hJ hs hK
    have ew := evT_whole Fi hd
    have hJ' : JL w tb (evT d (evF d d.length 0)) X := hJ
    rw [ew, ← show T = _ from HTe.out] at hJ'
    obtain ⟨⟨v, hv⟩, hx, hw⟩ := hJ'
    have HS : Hid (Calls Tryz.prog 54 #[.pointer (some ⟨w.heap.size + 1, 0, none⟩)] X fun e w' => e = .returned (.string ⟨T.toArray⟩) ∧ _ ∧ Below w.heap.size X w' ∧ OthersKept 5 (some (w.heap.size + 1)) X w') := Tryz.Builder_String_any_k w.heap.size (w.heap.size + 1) T X (IsBuilderF.of hv.is) hw.size
    clear ew hJ
    gi_wp2_with (gi_at_call 54; refine ((callsIn_wide (n := 10 - 1)).2 HS.out).mono ?_; rintro r X' ⟨rfl, -, hb, hok⟩)
    rw [hs4] at hK
    have hK' : X'.heap[w.heap.size + 1 + 1 + 1 + 1]? = some (.deferred (some [])) := hok _ _ hK (by simp; omega) (fun _ _ h => by cases h)
    refine ⟨by simp, .inl ⟨_, _, rfl, run_takeDeferred hK', ?_⟩⟩
    exact ⟨_, results_tmp rfl _ _ _, rfl, (hw.trans hb).trans (below_put _ _ _ _ (by omega))⟩
end Go.Proofs.YtoljpgpkeploiaaGreatDoor
