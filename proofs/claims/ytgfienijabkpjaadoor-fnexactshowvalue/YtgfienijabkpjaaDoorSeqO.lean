/-
  An iterator that itself ranges over an iterator: it turns the record of a loop of its own between two rounds. What such an iterator owes, and what a range over it comes to.
-/
import Derived.RangeFuncNested
import Derived.RangeFuncBound
import Derived.RangeFuncCalls
import Derived.RangeFuncLeaves
namespace Go.Proofs.YtgfienijabkpjaaDoor
open Go.RowKit

/-- The contract of an iterator value, called in a world of B blocks, whose caller's invariants abide the turn of any block that is no cells and was laid since its call began; at each round it has laid m blocks at least; each round keeps what the iterator asks, and all such blocks that were there when the call began. -/
def SeqO {α : Type} (F : Fence) (n : Nat) (P : Program) (g : Nat) (lb : Array Value) (encs : α → Array Value) (B m : Nat) (Kp : World → World → Prop) (S Sp : List α → Prop) (Pr : List α → α → Prop) (w : World) : Prop :=
  ∀ (l : Nat) (J Jx : List α → World → Prop) (W : World), W.heap.size = B → Below w.heap.size w W → OwnFrom B J → OwnFrom B Jx →
    (∀ pre x W1, J pre W1 → Pr pre x → B + m ≤ W1.heap.size → YieldAt F (n - 1) P l (encs x) W1 fun e W' =>
      ((e = .returned (.bool true) ∧ J (pre ++ [x]) W') ∨ (e = .returned (.bool false) ∧ Jx (pre ++ [x]) W')) ∧ Kp W1 W' ∧ KeepsFrom B W1 W') →
    J [] W →
    CallsIn F n P g (#[.func (.yield l) #[] #[]] ++ lb) W fun e W' => (∃ v, e = .returned v) ∧ ((∃ xs, S xs ∧ J xs W') ∨ (∃ pre, Sp pre ∧ Jx pre W'))
/-- How a round's body may be left. -/
def postO {α : Type} (B : Nat) (Kp : World → World → Prop) (I : List α → World → Prop) (Ix : Code → List α → World → Prop) (xs : List α) (W : World) : Exit → Act → World → Prop
  | .normal, _, W' => KeepsFrom B W W' ∧ Kp W W' ∧ I xs W'
  | .ret, _, W' => KeepsFrom B W W' ∧ Kp W W' ∧ Ix .ret xs W'
  | .exit id, _, W' => KeepsFrom B W W' ∧ Kp W W' ∧ Ix (.exit id) xs W'
  | .goto t, _, W' => KeepsFrom B W W' ∧ Kp W W' ∧ Ix (.goto t) xs W'
  | .panic _, _, _ => False
  | .outgrown, _, _ => False
theorem keepsFrom_mono {B B' : Nat} {W W' : World} (h : KeepsFrom B W W') (hB : B ≤ B') : KeepsFrom B' W W' := ⟨h.size, fun k o hk => h.same k o (Nat.le_trans hB hk)⟩
theorem keepsFrom_put {B : Nat} (W : World) (l : Nat) (o : Obj) (hl : l < B) : KeepsFrom B W (W.putObj l o) := ⟨by simp, fun k o' hk h _ => (World.putObj_heap_other (by omega)).trans h⟩

variable {F : Fence} {n : Nat} {P : Program}
/-- The record of a loop, and the block for its rounds' deferred calls. -/
structure Rec (d : Nat) (r : Loop) (W : World) : Prop where
  loop : W.heap[d + 1]? = some (.loop r)
  defs : W.heap[d]? = some (.deferred (some []))
theorem Rec.put {d : Nat} {r : Loop} {W : World} (h : Rec d r W) (r' : Loop) : Rec d r' (W.putObj (d + 1) (.loop r')) :=
  ⟨World.putObj_heap_same (Array.getElem?_eq_some_iff.1 h.loop).1, (World.putObj_heap_other (by omega)).trans h.defs⟩
theorem Rec.keep {d : Nat} {r : Loop} {W W' : World} (h : Rec d r W) (hk : KeepsFrom d W W') : Rec d r W' :=
  ⟨hk.same _ _ (by omega) h.loop rfl, hk.same _ _ (Nat.le_refl _) h.defs rfl⟩
theorem Rec.own {d B : Nat} {r : Loop} (hB : d + 2 ≤ B) {β : Type} : OwnFrom B (fun (_ : β) W => Rec d r W) := fun _ W W' row hs hg hr => by
  have key : ∀ k o, k < B → W.heap[k]? = some o → W'.heap[k]? = some o := fun k o hk h =>
    (hg.block k (Array.getElem?_eq_some_iff.1 h).1 (fun e => by have := (hr k e.symm).1; omega)).trans h
  exact ⟨key _ _ (by omega) hs.loop, key _ _ (by omega) hs.defs⟩
/-- A range over such an iterator: one invariant between two rounds, one where a round has left; the assignment and the loop's body walked once. -/
theorem range_own {α : Type} {g : Operand} {ps : Array Tmp} {assign body : Code} {Q : Exit → Act → World → Prop} {a : Act} {w : World}
    (hro : F.round = none) (h1 : 1 ≤ n) {gf : Nat} {lb : Array Value} (hg : a.eval g = .func (.func gf) #[] lb) (hFg : F.fn gf) (eg : ∀ args w, (callFunc gf args).run P w = .ok (.enter gf args) w)
    {encs : α → Array Value} {Kp : World → World → Prop} {S Sp : List α → Prop} {Pr : List α → α → Prop} {m : Nat} {w0 : World} (hseq : SeqO F (n - 1) P gf lb encs (w.heap.size + 2) m Kp S Sp Pr w0)
    (hKt : ∀ {A B C : World}, Kp A B → Kp B C → Kp A C) (hKb : ∀ (W : World) (o o' : Obj), W.heap[w.heap.size + 1]? = some o → o.isCells = false → o.isWalk = false → Kp W (W.putObj (w.heap.size + 1) o')) (hb0 : Below w0.heap.size w0 w) (hps : ∀ x, (encs x).size = ps.size)
    (I : List α → World → Prop) (Ix : Code → List α → World → Prop) (hI : OwnFrom w.heap.size I) (hIx : ∀ c, OwnFrom w.heap.size (Ix c)) (h0 : I [] w) (Ax : α → Act → World → Prop) (hAx : ∀ x a', OwnFrom w.heap.size (fun (_ : Unit) W => Ax x a' W))
    (hassign : ∀ (l : Nat) (pre : List α) (x : α) (W : World) (K : Act → World → Prop), I pre W → (∀ a' W', KeepsFrom w.heap.size W W' → Kp W W' → I pre W' → Ax x a' W' → K a' W') →
      assign.wpIn (F.inRound l) (n - 1 - 1) P (Exit.then K (fun _ _ _ => False)) { tmps := (ps.zip (encs x)).foldl (fun t (p, v) => t.setIfInBounds p v) a.tmps, defers := [] } W)
    (hbody : ∀ (l : Nat) (pre : List α) (x : α) (a' : Act) (W : World), I pre W → Ax x a' W → Pr pre x → w.heap.size + 2 + m ≤ W.heap.size → body.wpIn (F.inRound l) (n - 1 - 1) P (postO w.heap.size Kp I Ix (pre ++ [x]) W) a' W)
    (hdone : ∀ (D : Nat) (xs : List α) (W : World), w.heap.size ≤ D → S xs → I xs W → W.heap[D]? = some (.deferred (some [])) → Q .normal { a with defers := { target := .collected D, args := #[] } :: a.defers } W)
    (hstop : ∀ (D : Nat) (c : Code) (pre : List α) (W : World), w.heap.size ≤ D → Sp pre → Ix c pre W → W.heap[D]? = some (.deferred (some [])) → c.wpIn F n P Q { a with defers := { target := .collected D, args := #[] } :: a.defers } W) :
    (Code.rangeFunc g ps assign body).wpIn F n P Q a w := by
  refine wpIn_rangeFunc fun fn hfn => ?_
  rw [hro]
  obtain ⟨r0, hr0⟩ : ∃ r0 : Loop, r0 = { state := .ready, pending := none, fn, tmps := a.tmps, params := ps, assign, body, defers := w.heap.size } := ⟨_, rfl⟩
  obtain ⟨W1, hW1⟩ : ∃ W1, W1 = (w.alloc (.deferred (some []))).alloc (.loop r0) := ⟨_, rfl⟩
  have hsz : W1.heap.size = w.heap.size + 2 := by rw [hW1]; simp
  have R1 : Rec w.heap.size r0 W1 := by
    constructor
    · have := World.alloc_heap_new (w.alloc (.deferred (some []))) (.loop r0)
      rw [World.size_alloc] at this
      rw [hW1]; exact this
    · rw [hW1]; exact (Below.heap_alloc _ _ _ (by simp)).trans (World.alloc_heap_new w _)
  have b1 : Below w0.heap.size w0 W1 := by
    rw [hW1]; exact hb0.trans ((((Below.refl _ w).alloc (Nat.le_refl _) _).alloc (by simp) _).mono hb0.size)
  have hIf : ∀ {B : Nat}, w.heap.size ≤ B → OwnFrom B I := fun hB s A B' row hs hg' hr => hI s A B' row hs hg' (fun r e => ⟨Nat.le_trans hB (hr r e).1, (hr r e).2⟩)
  have hXf : ∀ {B : Nat} (c : Code), w.heap.size ≤ B → OwnFrom B (Ix c) := fun c hB s A B' row hs hg' hr => hIx c s A B' row hs hg' (fun r e => ⟨Nat.le_trans hB (hr r e).1, (hr r e).2⟩)
  have i1 : I [] W1 := by rw [hW1]; exact hI.alloc _ (hI.alloc _ h0)
  refine ⟨w.heap.size + 1, [{ target := .collected w.heap.size, args := #[] }], W1, { target := .fn (.func gf) lb, args := #[.func (.yield (w.heap.size + 1)) #[] #[]] }, W1, gf,
    #[.func (.yield (w.heap.size + 1)) #[] #[]] ++ lb, W1, by rw [hW1, hr0]; exact run_enterLoop_outer _ _ _ _ _, by simp only [resolve, hg]; simp [go_sem],
    fun f' hf' => by simp [Target.leads] at hf'; subst hf'; exact hFg, by simp [invoke, go_sem, eg], fun _ => h1, ?_⟩
  refine (hseq (w.heap.size + 1) (fun pre W => I pre W ∧ Rec w.heap.size r0 W) (fun pre W => ∃ c, Ix c pre W ∧ Rec w.heap.size { r0 with state := .done, pending := some c } W) W1 hsz b1
    (OwnFrom.and (hIf (by omega)) (Rec.own (by omega)))
    (fun s A B row hs hg' hr => by obtain ⟨c, hc, hk⟩ := hs; exact ⟨c, hXf c (by omega) s A B row hc hg' hr, Rec.own (by omega) s A B row hk hg' hr⟩) ?_ ⟨i1, R1⟩).mono ?_
  · -- a round
    rintro pre x W ⟨hi, hR⟩ hlen hm
    have hy := run_yield (P := P) (args := encs x) hR.loop (by rw [hr0]; exact hps x)
    rw [show r0.fn = fn by rw [hr0], show r0.assign = assign by rw [hr0], show r0.body = body by rw [hr0], show r0.tmps = a.tmps by rw [hr0], show r0.params = ps by rw [hr0]] at hy
    refine ⟨fn, _, assign, body, hy, roundIn_of_wpIn hfn (hassign _ pre x W _ hi fun a' Wa hka hpa hia hax => ?_)⟩
    have hRa := hR.keep hka
    refine ⟨_, run_beginRound hRa.loop (by rw [hr0]), ?_⟩
    have hR2 := hRa.put { r0 with state := .busy }
    have hK2 : KeepsFrom (w.heap.size + 2) W (Wa.putObj (w.heap.size + 1) (.loop { r0 with state := .busy })) := (keepsFrom_mono hka (by omega)).trans (keepsFrom_put _ _ _ (by omega))
    have hB2 : Kp W (Wa.putObj (w.heap.size + 1) (.loop { r0 with state := .busy })) := hKt hpa (hKb Wa _ _ hRa.loop rfl rfl)
    refine wpIn_mono (hbody _ pre x a' _ (hI.putObj _ hia (by omega) hRa.loop rfl) ((hAx x a').putObj (s := ()) _ hax (by omega) hRa.loop rfl) hlen (by have := hka.size; simp; omega)) ?_
    have fin : ∀ (jump : Option Code) (W3 : World), KeepsFrom w.heap.size (Wa.putObj (w.heap.size + 1) (.loop { r0 with state := .busy })) W3 → Kp (Wa.putObj (w.heap.size + 1) (.loop { r0 with state := .busy })) W3 →
        ∃ r', r' = ({ r0 with state := if jump.isNone then .ready else .done, pending := jump } : Loop) ∧ (Instr.endRound (w.heap.size + 1) jump).run P W3 = .ok (.bool jump.isNone) (W3.putObj (w.heap.size + 1) (.loop r')) ∧
          Rec w.heap.size r' (W3.putObj (w.heap.size + 1) (.loop r')) ∧ KeepsFrom (w.heap.size + 2) W (W3.putObj (w.heap.size + 1) (.loop r')) ∧ Kp W (W3.putObj (w.heap.size + 1) (.loop r')) ∧
          (∀ {J : List α → World → Prop} {s}, OwnFrom w.heap.size J → J s W3 → J s (W3.putObj (w.heap.size + 1) (.loop r'))) := fun jump W3 hk hkp => by
      have hR3 := hR2.keep hk
      exact ⟨_, rfl, (by have h := run_endRound (P := P) jump hR3.loop; exact h), hR3.put _, (hK2.trans (keepsFrom_mono hk (by omega))).trans (keepsFrom_put _ _ _ (by omega)), hKt (hKt hB2 hkp) (hKb W3 _ _ hR3.loop rfl rfl), fun hJ hs => hJ.putObj _ hs (by omega) hR3.loop rfl⟩
    rintro e a3 W3 hp
    cases e with
    | normal =>
      obtain ⟨hk, hb, hi3⟩ := hp
      obtain ⟨r', hr', hrun, hR4, hK4, hB4, hJ4⟩ := fin none W3 hk hb
      have hr'' : r' = r0 := by rw [hr', hr0]; rfl
      rw [hr''] at hrun hR4 hK4 hB4 hJ4
      exact ⟨_, _, hrun, .inl ⟨rfl, hJ4 hI hi3, hR4⟩, hB4, hK4⟩
    | ret =>
      obtain ⟨hk, hb, hi3⟩ := hp
      obtain ⟨r', hr', hrun, hR4, hK4, hB4, hJ4⟩ := fin (some .ret) W3 hk hb
      subst hr'
      exact ⟨_, _, hrun, .inr ⟨rfl, .ret, hJ4 (hIx _) hi3, hR4⟩, hB4, hK4⟩
    | exit id =>
      obtain ⟨hk, hb, hi3⟩ := hp
      obtain ⟨r', hr', hrun, hR4, hK4, hB4, hJ4⟩ := fin (some (.exit id)) W3 hk hb
      subst hr'
      exact ⟨_, _, hrun, .inr ⟨rfl, .exit id, hJ4 (hIx _) hi3, hR4⟩, hB4, hK4⟩
    | goto t =>
      obtain ⟨hk, hb, hi3⟩ := hp
      obtain ⟨r', hr', hrun, hR4, hK4, hB4, hJ4⟩ := fin (some (.goto t)) W3 hk hb
      subst hr'
      exact ⟨_, _, hrun, .inr ⟨rfl, .goto t, hJ4 (hIx _) hi3, hR4⟩, hB4, hK4⟩
    | panic ch => exact hp.elim
    | outgrown => exact hp.elim
  · -- behind the iterator
    rintro e W2 ⟨⟨v, rfl⟩, ⟨xs, hS, hi, hR⟩ | ⟨pre, hSp, c, hi, hR⟩⟩
    · have hrun := run_endLoop (P := P) hR.loop (by rw [hr0]; simp)
      rw [show r0.pending = none by rw [hr0]] at hrun
      exact ⟨none, _, hrun, hdone w.heap.size xs _ (Nat.le_refl _) hS (hI.putObj _ hi (by omega) hR.loop rfl) (hR.put _).defs⟩
    · exact ⟨some c, _, run_endLoop hR.loop (by simp), hstop w.heap.size c pre _ (Nat.le_refl _) hSp ((hIx c).putObj _ hi (by omega) hR.loop rfl) (hR.put _).defs⟩
end Go.Proofs.YtgfienijabkpjaaDoor
