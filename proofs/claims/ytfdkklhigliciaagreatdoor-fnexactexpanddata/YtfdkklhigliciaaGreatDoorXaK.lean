/-
  Parts of the proof laid into one text, one behind the other; each says at its head what is proved in it.
-/
import Derived.Test.YtfdkklhigliciaaGreatDoorXaC
import Derived.RangeFuncNested
import Derived.RangeFuncBound
import Derived.RangeFuncCalls
import Derived.RangeFuncLeaves
import Derived.OrdersIn
import Derived.OrdersHeld
import Derived.TacticsIn
import Derived.Test.YtfdkklhigliciaaGreatDoorXaD
import Derived.Test.YtfdkklhigliciaaGreatDoorXaE
import Derived.Test.YtfdkklhigliciaaGreatDoorXaG
import Derived.Deep.AppendLies
import Derived.Test.YtfdkklhigliciaaGreatDoorXaJ
import Derived.Tactics
import Derived.Tactics2
import Derived.Defers
import Derived.Recover
import Derived.Laws.Pointers
import Derived.WalkLawsBesides
/-
  Rows of other types lie in other blocks; a world in which nothing is turned but told blocks. No program in it.
-/
namespace Go.Proofs.YtfdkklhigliciaaGreatDoor
open Go.RowKit Go.Extern.Stop Go.Stop Go.Extern Num Go.Lib

theorem typ_ne {u : World} {B B' size size' n n' : Nat} {e T : TypeId} {v v' : Value} {xs ys : List Value} (h : u.ownsRow B e size v n xs) (h' : u.ownsRow B' T size' v' n' ys) (hne : e ≠ T) : ∀ g, v.ownBlock = some g → v'.ownBlock ≠ some g := by
  intro g hg hg'
  rcases h.2 with ⟨rfl, _⟩ | ⟨g1, cap, cur, rfl, _, hgg, _⟩
  · cases hg
  · rcases h'.2 with ⟨rfl, _⟩ | ⟨g2, cap2, cur2, rfl, _, hgg2, _⟩
    · cases hg'
    · have e1 : g1 = g := by simpa [Value.ownBlock] using hg
      have e2 : g2 = g := by simpa [Value.ownBlock] using hg'
      subst e1; subst e2
      rw [hgg] at hgg2
      injection hgg2 with h1
      injection h1 with _ h2
      exact hne h2
def farV (x y : Value) : Prop := ∀ g, x.ownBlock = some g → y.ownBlock ≠ some g
/-- Nothing is turned but blocks of F, and those that are new. -/
structure Keeps (F : Nat → Prop) (w w' : World) : Prop where
  os : w'.os = w.os
  tape : w'.tape = w.tape
  output : w'.output = w.output
  size : w.heap.size ≤ w'.heap.size
  block : ∀ k, k < w.heap.size → ¬ F k → w'.heap[k]? = w.heap[k]?
theorem Keeps.refl (F : Nat → Prop) (w : World) : Keeps F w w := ⟨rfl, rfl, rfl, Nat.le_refl _, fun _ _ _ => rfl⟩
theorem Keeps.below {F : Nat → Prop} {a w w' : World} (h : Keeps F a w) (hb : Below w.heap.size w w') : Keeps F a w' :=
  ⟨hb.os.trans h.os, hb.tape.trans h.tape, hb.output.trans h.output, Nat.le_trans h.size hb.size, fun k hk ho => (hb.block k (Nat.lt_of_lt_of_le hk h.size)).trans (h.block k hk ho)⟩
theorem Keeps.grown {F : Nat → Prop} {r : Option Nat} {a w w' : World} (h : Keeps F a w) (hg : w.grownBy w' r) (h1 : ∀ g, r = some g → F g) : Keeps F a w' :=
  ⟨hg.os.trans h.os, hg.tape.trans h.tape, hg.output.trans h.output, Nat.le_trans h.size hg.size, fun k hk ho => (hg.block k (Nat.lt_of_lt_of_le hk h.size) (fun e => ho (h1 k e.symm))).trans (h.block k hk ho)⟩
theorem Keeps.set {F : Nat → Prop} {g : Nat} {a w : World} (h : Keeps F a w) (h1 : F g) (j : Nat) (u : Value) : Keeps F a (w.setCell ⟨g, j, none⟩ u) :=
  h.grown (gb_set (gb_refl _ _) _) (fun g' e => by have := Option.some.inj e; subst this; exact h1)
theorem Keeps.mono {F G : Nat → Prop} {w w' : World} (h : Keeps F w w') (hf : ∀ k, F k → G k) : Keeps G w w' := ⟨h.os, h.tape, h.output, h.size, fun k hk hn => h.block k hk (fun q => hn (hf k q))⟩
theorem Keeps.trans {F : Nat → Prop} {a b c : World} (h : Keeps F a b) (h' : Keeps F b c) : Keeps F a c :=
  ⟨h'.os.trans h.os, h'.tape.trans h.tape, h'.output.trans h.output, Nat.le_trans h.size h'.size, fun k hk hn => (h'.block k (Nat.lt_of_lt_of_le hk h.size) hn).trans (h.block k hk hn)⟩
theorem Keeps.own {F : Nat → Prop} {base size n : Nat} {e : TypeId} {v : Value} {xs : List Value} {w w' : World} (h : Keeps F w w') (ho : w.ownsRow base e size v n xs) (hg : ∀ g, v.ownBlock = some g → ¬ F g) : w'.ownsRow base e size v n xs := by
  refine ⟨ho.1, ?_⟩
  rcases ho.2 with h1 | ⟨g, cap, cur, rfl, h2, h3, h4⟩
  · exact .inl h1
  · have hl := (World.ownsRow.lt ⟨ho.1, .inr ⟨g, cap, cur, rfl, h2, h3, h4⟩⟩ g rfl).2
    exact .inr ⟨g, cap, cur, rfl, h2, (h.block g hl (hg g rfl)).trans h3, h4⟩
theorem Keeps.cell {F : Nat → Prop} {w w' : World} {p : Addr} {v : Value} (h : Keeps F w w') (hc : w.cell? p = some v) (ho : ¬ F p.block) : w'.cell? p = some v := by
  rw [World.cell?_of_block (h.block p.block (lt_of_cell hc) ho)]; exact hc
end Go.Proofs.YtfdkklhigliciaaGreatDoor
/-
  An iterator that itself ranges over an iterator: it turns the record of a loop of its own between two rounds. What such an iterator owes, and what a range over it comes to.
-/
namespace Go.Proofs.YtfdkklhigliciaaGreatDoor
open Go.RowKit

/-- The contract of an iterator value, called in a world of B blocks, whose caller's invariants abide the turn of any block that is no cells and was laid since its call began; at each round it has laid m blocks at least; each round keeps what the iterator asks, and all such blocks that were there when the call began. -/
def SeqO {α : Type} (F : Fence) (n : Nat) (P : Program) (g : Nat) (lb : Array Value) (encs : α → Array Value) (B m : Nat) (Kp : World → World → Prop) (S Sp : List α → Prop) (Pr : List α → α → Prop) (w : World) : Prop :=
  ∀ (l : Nat) (J Jx : List α → World → Prop) (W : World), W.heap.size = B → Below w.heap.size w W → OwnFrom B J → OwnFrom B Jx →
    (∀ pre x W1, J pre W1 → Pr pre x → B + m ≤ W1.heap.size → YieldAt F (n - 1) P l (encs x) W1 fun e W' =>
      ((e = .returned (.bool true) ∧ J (pre ++ [x]) W') ∨ (e = .returned (.bool false) ∧ Jx (pre ++ [x]) W')) ∧ Kp W1 W' ∧ KeepsFrom B W1 W') →
    J [] W →
    CallsIn F n P g (#[.func (.yield l) #[] #[]] ++ lb) W fun e W' => (∃ v, e = .returned v) ∧ ((∃ xs, S xs ∧ J xs W') ∨ (∃ pre, Sp pre ∧ Jx pre W'))
/-- How a round's body may be left. -/
def postO {α : Type} (B : Nat) (Kp : World → World → Prop) (I : List α → World → Prop) (Ix : Code → List α → World → Prop) (xs : List α) (W : World) : Exit → Act → World → Prop
  | .normal, _, W' => KeepsFrom B W W' ∧ Kp W W' ∧ I xs W'
  | .ret, _, W' => KeepsFrom B W W' ∧ Kp W W' ∧ Ix .ret xs W'
  | .exit id, _, W' => KeepsFrom B W W' ∧ Kp W W' ∧ Ix (.exit id) xs W'
  | .goto t, _, W' => KeepsFrom B W W' ∧ Kp W W' ∧ Ix (.goto t) xs W'
  | .panic _, _, _ => False
  | .outgrown, _, _ => False
theorem keepsFrom_mono {B B' : Nat} {W W' : World} (h : KeepsFrom B W W') (hB : B ≤ B') : KeepsFrom B' W W' := ⟨h.size, fun k o hk => h.same k o (Nat.le_trans hB hk)⟩
theorem keepsFrom_put {B : Nat} (W : World) (l : Nat) (o : Obj) (hl : l < B) : KeepsFrom B W (W.putObj l o) := ⟨by simp, fun k o' hk h _ => (World.putObj_heap_other (by omega)).trans h⟩

variable {F : Fence} {n : Nat} {P : Program}
/-- The record of a loop, and the block for its rounds' deferred calls. -/
structure Rec (d : Nat) (r : Loop) (W : World) : Prop where
  loop : W.heap[d + 1]? = some (.loop r)
  defs : W.heap[d]? = some (.deferred (some []))
theorem Rec.put {d : Nat} {r : Loop} {W : World} (h : Rec d r W) (r' : Loop) : Rec d r' (W.putObj (d + 1) (.loop r')) :=
  ⟨World.putObj_heap_same (Array.getElem?_eq_some_iff.1 h.loop).1, (World.putObj_heap_other (by omega)).trans h.defs⟩
theorem Rec.keep {d : Nat} {r : Loop} {W W' : World} (h : Rec d r W) (hk : KeepsFrom d W W') : Rec d r W' :=
  ⟨hk.same _ _ (by omega) h.loop rfl, hk.same _ _ (Nat.le_refl _) h.defs rfl⟩
theorem Rec.own {d B : Nat} {r : Loop} (hB : d + 2 ≤ B) {β : Type} : OwnFrom B (fun (_ : β) W => Rec d r W) := fun _ W W' row hs hg hr => by
  have key : ∀ k o, k < B → W.heap[k]? = some o → W'.heap[k]? = some o := fun k o hk h =>
    (hg.block k (Array.getElem?_eq_some_iff.1 h).1 (fun e => by have := (hr k e.symm).1; omega)).trans h
  exact ⟨key _ _ (by omega) hs.loop, key _ _ (by omega) hs.defs⟩
/-- A range over such an iterator: one invariant between two rounds, one where a round has left; the assignment and the loop's body walked once. -/
theorem range_own {α : Type} {g : Operand} {ps : Array Tmp} {assign body : Code} {Q : Exit → Act → World → Prop} {a : Act} {w : World}
    (hro : F.round = none) (h1 : 1 ≤ n) {gf : Nat} {lb : Array Value} (hg : a.eval g = .func (.func gf) #[] lb) (hFg : F.fn gf) (eg : ∀ args w, (callFunc gf args).run P w = .ok (.enter gf args) w)
    {encs : α → Array Value} {Kp : World → World → Prop} {S Sp : List α → Prop} {Pr : List α → α → Prop} {m : Nat} {w0 : World} (hseq : SeqO F (n - 1) P gf lb encs (w.heap.size + 2) m Kp S Sp Pr w0)
    (hKt : ∀ {A B C : World}, Kp A B → Kp B C → Kp A C) (hKb : ∀ (W : World) (o o' : Obj), W.heap[w.heap.size + 1]? = some o → o.isCells = false → o.isWalk = false → Kp W (W.putObj (w.heap.size + 1) o')) (hb0 : Below w0.heap.size w0 w) (hps : ∀ x, (encs x).size = ps.size)
    (I : List α → World → Prop) (Ix : Code → List α → World → Prop) (hI : OwnFrom w.heap.size I) (hIx : ∀ c, OwnFrom w.heap.size (Ix c)) (h0 : I [] w) (Ax : α → Act → World → Prop) (hAx : ∀ x a', OwnFrom w.heap.size (fun (_ : Unit) W => Ax x a' W))
    (hassign : ∀ (l : Nat) (pre : List α) (x : α) (W : World) (K : Act → World → Prop), I pre W → (∀ a' W', KeepsFrom w.heap.size W W' → Kp W W' → I pre W' → Ax x a' W' → K a' W') →
      assign.wpIn (F.inRound l) (n - 1 - 1) P (Exit.then K (fun _ _ _ => False)) { tmps := (ps.zip (encs x)).foldl (fun t (p, v) => t.setIfInBounds p v) a.tmps, defers := [] } W)
    (hbody : ∀ (l : Nat) (pre : List α) (x : α) (a' : Act) (W : World), I pre W → Ax x a' W → Pr pre x → w.heap.size + 2 + m ≤ W.heap.size → body.wpIn (F.inRound l) (n - 1 - 1) P (postO w.heap.size Kp I Ix (pre ++ [x]) W) a' W)
    (hdone : ∀ (D : Nat) (xs : List α) (W : World), w.heap.size ≤ D → S xs → I xs W → W.heap[D]? = some (.deferred (some [])) → Q .normal { a with defers := { target := .collected D, args := #[] } :: a.defers } W)
    (hstop : ∀ (D : Nat) (c : Code) (pre : List α) (W : World), w.heap.size ≤ D → Sp pre → Ix c pre W → W.heap[D]? = some (.deferred (some [])) → c.wpIn F n P Q { a with defers := { target := .collected D, args := #[] } :: a.defers } W) :
    (Code.rangeFunc g ps assign body).wpIn F n P Q a w := by
  refine wpIn_rangeFunc fun fn hfn => ?_
  rw [hro]
  obtain ⟨r0, hr0⟩ : ∃ r0 : Loop, r0 = { state := .ready, pending := none, fn, tmps := a.tmps, params := ps, assign, body, defers := w.heap.size } := ⟨_, rfl⟩
  obtain ⟨W1, hW1⟩ : ∃ W1, W1 = (w.alloc (.deferred (some []))).alloc (.loop r0) := ⟨_, rfl⟩
  have hsz : W1.heap.size = w.heap.size + 2 := by rw [hW1]; simp
  have R1 : Rec w.heap.size r0 W1 := by
    constructor
    · have := World.alloc_heap_new (w.alloc (.deferred (some []))) (.loop r0)
      rw [World.size_alloc] at this
      rw [hW1]; exact this
    · rw [hW1]; exact (Below.heap_alloc _ _ _ (by simp)).trans (World.alloc_heap_new w _)
  have b1 : Below w0.heap.size w0 W1 := by
    rw [hW1]; exact hb0.trans ((((Below.refl _ w).alloc (Nat.le_refl _) _).alloc (by simp) _).mono hb0.size)
  have hIf : ∀ {B : Nat}, w.heap.size ≤ B → OwnFrom B I := fun hB s A B' row hs hg' hr => hI s A B' row hs hg' (fun r e => ⟨Nat.le_trans hB (hr r e).1, (hr r e).2⟩)
  have hXf : ∀ {B : Nat} (c : Code), w.heap.size ≤ B → OwnFrom B (Ix c) := fun c hB s A B' row hs hg' hr => hIx c s A B' row hs hg' (fun r e => ⟨Nat.le_trans hB (hr r e).1, (hr r e).2⟩)
  have i1 : I [] W1 := by rw [hW1]; exact hI.alloc _ (hI.alloc _ h0)
  refine ⟨w.heap.size + 1, [{ target := .collected w.heap.size, args := #[] }], W1, { target := .fn (.func gf) lb, args := #[.func (.yield (w.heap.size + 1)) #[] #[]] }, W1, gf,
    #[.func (.yield (w.heap.size + 1)) #[] #[]] ++ lb, W1, by rw [hW1, hr0]; exact run_enterLoop_outer _ _ _ _ _, by simp only [resolve, hg]; simp [go_sem],
    fun f' hf' => by simp [Target.leads] at hf'; subst hf'; exact hFg, by simp [invoke, go_sem, eg], fun _ => h1, ?_⟩
  refine (hseq (w.heap.size + 1) (fun pre W => I pre W ∧ Rec w.heap.size r0 W) (fun pre W => ∃ c, Ix c pre W ∧ Rec w.heap.size { r0 with state := .done, pending := some c } W) W1 hsz b1
    (OwnFrom.and (hIf (by omega)) (Rec.own (by omega)))
    (fun s A B row hs hg' hr => by obtain ⟨c, hc, hk⟩ := hs; exact ⟨c, hXf c (by omega) s A B row hc hg' hr, Rec.own (by omega) s A B row hk hg' hr⟩) ?_ ⟨i1, R1⟩).mono ?_
  · -- a round
    rintro pre x W ⟨hi, hR⟩ hlen hm
    have hy := run_yield (P := P) (args := encs x) hR.loop (by rw [hr0]; exact hps x)
    rw [show r0.fn = fn by rw [hr0], show r0.assign = assign by rw [hr0], show r0.body = body by rw [hr0], show r0.tmps = a.tmps by rw [hr0], show r0.params = ps by rw [hr0]] at hy
    refine ⟨fn, _, assign, body, hy, roundIn_of_wpIn hfn (hassign _ pre x W _ hi fun a' Wa hka hpa hia hax => ?_)⟩
    have hRa := hR.keep hka
    refine ⟨_, run_beginRound hRa.loop (by rw [hr0]), ?_⟩
    have hR2 := hRa.put { r0 with state := .busy }
    have hK2 : KeepsFrom (w.heap.size + 2) W (Wa.putObj (w.heap.size + 1) (.loop { r0 with state := .busy })) := (keepsFrom_mono hka (by omega)).trans (keepsFrom_put _ _ _ (by omega))
    have hB2 : Kp W (Wa.putObj (w.heap.size + 1) (.loop { r0 with state := .busy })) := hKt hpa (hKb Wa _ _ hRa.loop rfl rfl)
    refine wpIn_mono (hbody _ pre x a' _ (hI.putObj _ hia (by omega) hRa.loop rfl) ((hAx x a').putObj (s := ()) _ hax (by omega) hRa.loop rfl) hlen (by have := hka.size; simp; omega)) ?_
    have fin : ∀ (jump : Option Code) (W3 : World), KeepsFrom w.heap.size (Wa.putObj (w.heap.size + 1) (.loop { r0 with state := .busy })) W3 → Kp (Wa.putObj (w.heap.size + 1) (.loop { r0 with state := .busy })) W3 →
        ∃ r', r' = ({ r0 with state := if jump.isNone then .ready else .done, pending := jump } : Loop) ∧ (Instr.endRound (w.heap.size + 1) jump).run P W3 = .ok (.bool jump.isNone) (W3.putObj (w.heap.size + 1) (.loop r')) ∧
          Rec w.heap.size r' (W3.putObj (w.heap.size + 1) (.loop r')) ∧ KeepsFrom (w.heap.size + 2) W (W3.putObj (w.heap.size + 1) (.loop r')) ∧ Kp W (W3.putObj (w.heap.size + 1) (.loop r')) ∧
          (∀ {J : List α → World → Prop} {s}, OwnFrom w.heap.size J → J s W3 → J s (W3.putObj (w.heap.size + 1) (.loop r'))) := fun jump W3 hk hkp => by
      have hR3 := hR2.keep hk
      exact ⟨_, rfl, (by have h := run_endRound (P := P) jump hR3.loop; exact h), hR3.put _, (hK2.trans (keepsFrom_mono hk (by omega))).trans (keepsFrom_put _ _ _ (by omega)), hKt (hKt hB2 hkp) (hKb W3 _ _ hR3.loop rfl rfl), fun hJ hs => hJ.putObj _ hs (by omega) hR3.loop rfl⟩
    rintro e a3 W3 hp
    cases e with
    | normal =>
      obtain ⟨hk, hb, hi3⟩ := hp
      obtain ⟨r', hr', hrun, hR4, hK4, hB4, hJ4⟩ := fin none W3 hk hb
      have hr'' : r' = r0 := by rw [hr', hr0]; rfl
      rw [hr''] at hrun hR4 hK4 hB4 hJ4
      exact ⟨_, _, hrun, .inl ⟨rfl, hJ4 hI hi3, hR4⟩, hB4, hK4⟩
    | ret =>
      obtain ⟨hk, hb, hi3⟩ := hp
      obtain ⟨r', hr', hrun, hR4, hK4, hB4, hJ4⟩ := fin (some .ret) W3 hk hb
      subst hr'
      exact ⟨_, _, hrun, .inr ⟨rfl, .ret, hJ4 (hIx _) hi3, hR4⟩, hB4, hK4⟩
    | exit id =>
      obtain ⟨hk, hb, hi3⟩ := hp
      obtain ⟨r', hr', hrun, hR4, hK4, hB4, hJ4⟩ := fin (some (.exit id)) W3 hk hb
      subst hr'
      exact ⟨_, _, hrun, .inr ⟨rfl, .exit id, hJ4 (hIx _) hi3, hR4⟩, hB4, hK4⟩
    | goto t =>
      obtain ⟨hk, hb, hi3⟩ := hp
      obtain ⟨r', hr', hrun, hR4, hK4, hB4, hJ4⟩ := fin (some (.goto t)) W3 hk hb
      subst hr'
      exact ⟨_, _, hrun, .inr ⟨rfl, .goto t, hJ4 (hIx _) hi3, hR4⟩, hB4, hK4⟩
    | panic ch => exact hp.elim
    | outgrown => exact hp.elim
  · -- behind the iterator
    rintro e W2 ⟨⟨v, rfl⟩, ⟨xs, hS, hi, hR⟩ | ⟨pre, hSp, c, hi, hR⟩⟩
    · have hrun := run_endLoop (P := P) hR.loop (by rw [hr0]; simp)
      rw [show r0.pending = none by rw [hr0]] at hrun
      exact ⟨none, _, hrun, hdone w.heap.size xs _ (Nat.le_refl _) hS (hI.putObj _ hi (by omega) hR.loop rfl) (hR.put _).defs⟩
    · exact ⟨some c, _, run_endLoop hR.loop (by simp), hstop w.heap.size c pre _ (Nat.le_refl _) hSp ((hIx c).putObj _ hi (by omega) hR.loop rfl) (hR.put _).defs⟩
end Go.Proofs.YtfdkklhigliciaaGreatDoor
/-
  A region that draws its order, within a fence that lets every function in, in a round or not: an operation that yields one value in every world that meets a condition, and leaves that world, may be taken first, if the condition holds behind every operation.
-/
namespace Go.Proofs.YtfdkklhigliciaaGreatDoor
open Go

section
variable {F : Fence} {n : Nat} {P : Program} {ops : Array Oper} {Q : Exit → Act → World → Prop} {md : Region.Mode} {S : World → Prop} {z : Nat}
def noDef (ops : Array Oper) : Bool := ops.all fun o => match o.op with | .defer _ => false | _ => true
theorem noDef_spec (h : noDef ops = true) {j : Nat} {o : Oper} (ho : ops[j]? = some o) : ∀ c, o.op ≠ .defer c := by
  intro c e
  have := Array.all_eq_true_iff_forall_mem.1 h o (Array.mem_of_getElem? ho)
  simp [e] at this
/-- Number z waits for number i (or there is no such number). -/
def waits (md : Region.Mode) (ops : Array Oper) (z i : Nat) : Bool := match ops[z]? with | some o => o.after.toList.any (fun e => Region.binds md e && e.on == i) | none => true
theorem waits_spec {z i : Nat} {o : Oper} (h : waits md ops z i = true) (ho : ops[z]? = some o) : ∃ e ∈ o.after, Region.binds md e = true ∧ e.on = i := by
  unfold waits at h
  rw [ho] at h
  obtain ⟨e, he, hb⟩ := List.any_eq_true.1 h
  simp at hb
  exact ⟨e, by simpa using he, hb.1, hb.2⟩
/-- Whatever order is picked from here on, the condition holding behind every operation but number z. -/
def anyH (F : Fence) (n : Nat) (P : Program) (md : Region.Mode) (ops : Array Oper) (Q : Exit → Act → World → Prop) (S : World → Prop) (z : Nat) : Nat → Array Bool → Act → World → Prop
  | 0, listed, a, w => Region.ready md ops listed = [] ∧ Q .normal a w
  | k + 1, listed, a, w => (Region.ready md ops listed = [] → Q .normal a w) ∧
      ∀ i ∈ Region.ready md ops listed, wpOpIn F n P ops Q i (fun a' w' => (i ≠ z → S w') ∧ anyH F n P md ops Q S z k (listed.setIfInBounds i true) a' w') a w
theorem any_of_anyH : ∀ (k : Nat) (listed : Array Bool) (a : Act) (w : World), anyH F n P md ops Q S z k listed a w → wpAnyIn F n P md ops Q k listed a w
  | 0, _, _, _, h => h
  | k + 1, _, _, _, h => ⟨h.1, fun i hi => wpOpIn_mono (fun a' w' h' => any_of_anyH k _ a' w' h'.2) (h.2 i hi)⟩
theorem op_of_yields (hF : ∀ f, F.fn f) {i : Nat} {o : Oper} {v : Value} {a : Act} (hi : ops[i]? = some o) (hnd : ∀ c, o.op ≠ .defer c) (hy : YieldsIf P ops S o v a) {K : Act → World → Prop} {w : World} (hS : S w) (h : K (a.put o.dst v) w) :
    wpOpIn F n P ops Q i K a w := by
  unfold wpOpIn
  simp only [hi]
  rcases hy with ⟨hw, hv⟩ | ⟨hw, rfl⟩
  · simp only [hw, if_true, Oper.wpIn, Oper.semAt_eq _ _ _ hnd, hv w hS, Oper.uponIn]
    exact ⟨fun f _ => hF f, h⟩
  · simp only [hw, Bool.false_eq_true, if_false]
    exact ⟨fun f _ => hF f, h⟩
/-- An operation that is apart from one that yields: it does not matter which comes first. -/
theorem op_swap (hF : ∀ f, F.fn f) {j : Nat} {oi oj : Oper} {v : Value} (hj : ops[j]? = some oj) (hnd : ∀ c, oj.op ≠ .defer c) (hap : oi.apart ops oj = true) (hsi : ∀ cs b, oi.op ≠ .select cs b) (hsj : ∀ cs b, oj.op ≠ .select cs b)
    (hQ : ∀ c a w, Q (.panic c) (a.put oi.dst v) w → Q (.panic c) a w) {K : Act → World → Prop} {a : Act} {w : World} (hy : YieldsIf P ops S oi v a) (h : wpOpIn F n P ops Q j K (a.put oi.dst v) w) :
    wpOpIn F n P ops Q j (fun a' w' => YieldsIf P ops S oi v a' ∧ K (a'.put oi.dst v) w') a w := by
  obtain ⟨h1, h2, h3⟩ := Oper.apart_spec hap
  have keep : ∀ a' : Act, YieldsIf P ops S oi v a' → ∀ u, YieldsIf P ops S oi v (a'.put oj.dst u) := fun a' hy' u => hy'.of_same (execOp_put oi hsi a' oj.dst u h3) (wanted_put oi a' oj.dst u h3)
  have comm : ∀ (u : Value) (w' : World), K ((a.put oi.dst v).put oj.dst u) w' → YieldsIf P ops S oi v (a.put oj.dst u) ∧ K ((a.put oj.dst u).put oi.dst v) w' := fun u w' hk => ⟨keep a hy u, by rw [← Act.put_comm a v u h2]; exact hk⟩
  unfold wpOpIn at h ⊢
  simp only [hj] at h ⊢
  rw [wanted_put oj a oi.dst v h1] at h
  by_cases hw : Region.wanted oj (yielded ops a.tmps) = true
  · rw [if_pos hw] at h ⊢
    refine ⟨fun f _ => hF f, ?_⟩
    have hr := h.2
    rw [Oper.semAt_eq _ _ _ hnd, execOp_put oj hsj a oi.dst v h1] at hr
    rw [Oper.semAt_eq _ _ _ hnd]
    generalize (execOp a.eval oj).run P w = r at hr ⊢
    cases r with
    | ok x w' =>
      cases x with
      | value u => exact comm u w' hr
      | skip => exact comm undef w' hr
      | defer d =>
        simp only [Oper.uponIn] at hr ⊢
        have hyd : YieldsIf P ops S oi v { a with defers := d :: a.defers } := hy.of_same rfl rfl
        refine ⟨keep _ hyd _, ?_⟩
        rw [← Act.put_comm _ v undef h2, ← Act.put_defers]
        exact hr
      | enter f args =>
        simp only [Oper.uponIn] at hr ⊢
        refine ⟨hr.1, CallsIn.mono hr.2 fun e w'' he => ?_⟩
        cases e with
        | returned u => exact comm u w'' he
        | panicked c => exact hQ _ _ _ he
        | outgrown => exact he
      | row row args =>
        simp only [Oper.uponIn] at hr ⊢
        exact ⟨hr.1, RowsIn.mono hr.2 fun u w'' he => comm u w'' he⟩
      | round l f tmps assign body =>
        simp only [Oper.uponIn] at hr ⊢
        refine ⟨hr.1, RoundIn.mono hr.2 fun e w'' he => ?_⟩
        cases e with
        | returned u => exact comm u w'' he
        | panicked c => exact hQ _ _ _ he
        | outgrown => exact he
      | _ => exact hr.elim
    | halt x w' =>
      cases x with
      | panic u => exact hQ _ _ _ hr
      | _ => exact hr.elim
  · rw [if_neg hw] at h ⊢
    exact ⟨fun f _ => hF f, comm undef w h.2⟩
theorem anyH_first (hF : ∀ f, F.fn f) (hnd : noDef ops = true) {i : Nat} {oi : Oper} {v : Value} (hzi : waits md ops z i = true) (hi : ops[i]? = some oi) (hsel : ∀ (j : Nat) (o : Oper) cs b, ops[j]? = some o → o.op ≠ .select cs b) (hQ : ∀ c a w, Q (.panic c) (a.put oi.dst v) w → Q (.panic c) a w) :
    ∀ (k : Nat) (listed : Array Bool) (a : Act) (w : World), (∀ j oj, ops[j]? = some oj → j ≠ i → listed.getD j true = false → (∀ e ∈ oj.after, Region.binds md e = true → e.on ≠ i) → oi.apart ops oj = true) →
      i ∈ Region.ready md ops listed → YieldsIf P ops S oi v a → S w → anyH F n P md ops Q S z k (listed.setIfInBounds i true) (a.put oi.dst v) w → anyH F n P md ops Q S z (k + 1) listed a w := by
  intro k
  induction k with
  | zero =>
    intro listed a w _ hr hy hS H
    refine ⟨fun h => (by rw [h] at hr; cases hr), fun j hj => ?_⟩
    by_cases hji : j = i
    · subst hji; exact op_of_yields hF hi (noDef_spec hnd hi) hy hS ⟨fun _ => hS, H⟩
    · have := ready_mono hj hji
      rw [H.1] at this; cases this
  | succ k ih =>
    intro listed a w hfree hr hy hS H
    refine ⟨fun h => (by rw [h] at hr; cases hr), fun j hj => ?_⟩
    by_cases hji : j = i
    · subst hji; exact op_of_yields hF hi (noDef_spec hnd hi) hy hS ⟨fun _ => hS, H⟩
    · obtain ⟨hjun, oj, hoj, hall⟩ := mem_ready.1 hj
      have hnot : ∀ e ∈ oj.after, Region.binds md e = true → e.on ≠ i := fun e he hb heq => by
        have g1 := hall e he hb
        have g0 := (mem_ready.1 hr).1
        rw [heq] at g1
        rcases Nat.lt_or_ge i listed.size with g | g
        · simp [g] at g0 g1; rw [g0] at g1; cases g1
        · simp [Array.getElem?_eq_none g] at g1
      have hsw := op_swap hF hoj (noDef_spec hnd hoj) (hfree j oj hoj hji hjun hnot) (fun cs b => hsel i oi cs b hi) (fun cs b => hsel j oj cs b hoj) hQ hy (H.2 j (ready_mono hj hji))
      have hjz : j ≠ z := fun e => by
        subst e
        obtain ⟨e, he, hb, hon⟩ := waits_spec hzi hoj
        exact hnot e he hb hon
      refine wpOpIn_mono (fun a' w' h3 => ⟨h3.2.1, ih _ a' w' (fun k' ok hk hki hun hno => hfree k' ok hk hki ?_ hno) (ready_mono hr (Ne.symm hji)) h3.1 (h3.2.1 hjz) ?_⟩) hsw
      · by_cases hjk : j = k'
        · subst hjk; exact hjun
        · rw [getD_set_ne true hjk] at hun; exact hun
      · rw [Array.setIfInBounds_comm _ _ hji]; exact h3.2.2
/-- Number i is taken first. -/
theorem anyH_take (hF : ∀ f, F.fn f) (hnd : noDef ops = true) {i : Nat} {oi : Oper} {v : Value} {d : Option Tmp} {k : Nat} {listed : Array Bool} {a : Act} {w : World} (hzi : waits md ops z i = true) (hi : ops[i]? = some oi) (hd : oi.dst = d) (hs : Region.noSelect ops = true) (hf : Region.free md ops listed i = true) (hr : (Region.ready md ops listed).contains i = true)
    (hQ : ∀ c a w, Q (.panic c) (a.put d v) w → Q (.panic c) a w) (hS : S w) (hy : YieldsIf P ops S oi v a) (h : anyH F n P md ops Q S z k (listed.setIfInBounds i true) (a.put d v) w) : anyH F n P md ops Q S z (k + 1) listed a w := by
  subst hd
  exact anyH_first hF hnd hzi hi (Region.noSelect_spec hs) hQ k listed a w (Region.free_spec hi hf) (by simpa using hr) hy hS h
theorem op_step {i : Nat} {o : Oper} {K : Act → World → Prop} {a : Act} {w : World} (ho : ops[i]? = some o) (hw : Region.wanted o (yielded ops a.tmps) = true) (h : o.wpIn F n P a w K Q) : wpOpIn F n P ops Q i K a w := by
  unfold wpOpIn
  simp only [ho, hw, if_true]
  exact h
/-- One operation alone may come up. -/
theorem anyH_one {i : Nat} {k : Nat} {listed : Array Bool} {a : Act} {w : World} (hr : Region.ready md ops listed = [i])
    (h : wpOpIn F n P ops Q i (fun a' w' => (i ≠ z → S w') ∧ anyH F n P md ops Q S z k (listed.setIfInBounds i true) a' w') a w) : anyH F n P md ops Q S z (k + 1) listed a w :=
  ⟨fun h0 => (by rw [hr] at h0; cases h0), fun j hj => (by rw [hr] at hj; obtain rfl := List.mem_singleton.1 hj; exact h)⟩
/-- One of two may come up. -/
theorem anyH_two {i j : Nat} {k : Nat} {listed : Array Bool} {a : Act} {w : World} (hr : Region.ready md ops listed = [i, j])
    (h : wpOpIn F n P ops Q i (fun a' w' => (i ≠ z → S w') ∧ anyH F n P md ops Q S z k (listed.setIfInBounds i true) a' w') a w) (h' : wpOpIn F n P ops Q j (fun a' w' => (j ≠ z → S w') ∧ anyH F n P md ops Q S z k (listed.setIfInBounds j true) a' w') a w) : anyH F n P md ops Q S z (k + 1) listed a w :=
  ⟨fun h0 => (by rw [hr] at h0; cases h0), fun x hx => (by
    rw [hr] at hx
    rcases List.mem_cons.1 hx with rfl | hx
    · exact h
    · obtain rfl := List.mem_singleton.1 hx; exact h')⟩
theorem anyH_done {listed : Array Bool} {a : Act} {w : World} (hr : Region.ready md ops listed = []) (h : Q .normal a w) : ∀ k, anyH F n P md ops Q S z k listed a w
  | 0 => ⟨hr, h⟩
  | _ + 1 => ⟨fun _ => h, by rw [hr]; simp⟩
/-- The beginning. -/
theorem region_anyH {id : Nat} {a : Act} {w : World} (hm : P.follows .mixedOrders = true) (h : anyH F n P .any ops Q S z ops.size (Array.replicate ops.size false) a w.drew) : (Code.region id ops true).wpIn F n P Q a w :=
  wpIn_region_any hm (any_of_anyH _ _ _ _ h)
end
/-- An operation in a round, within the widest fence, by the plain calculus. -/
theorem oper_plain {P : Program} {Q : Exit → Act → World → Prop} {l n : Nat} {o : Oper} {K : Act → World → Prop} {a : Act} {w : World} (hnd : ∀ c, o.op ≠ .defer c) (h : Oper.wp P o a w K Q) : o.wpIn (Fence.wide.inRound l) n P a w K Q := by
  refine ⟨fun _ _ => trivial, ?_⟩
  rw [Oper.semAt_eq _ _ _ hnd]
  unfold Oper.wp at h
  generalize (execOp a.eval o).run P w = r at h ⊢
  cases r with
  | ok x w' =>
    cases x with
    | value u => exact h
    | skip => exact h
    | defer d => exact h
    | enter f args => exact ⟨fun h0 => (by cases h0), (callsIn_wide (n := n - 1)).2 h⟩
    | row row args => exact ⟨fun h0 => (by cases h0), fun c cs _ => (by obtain ⟨v, w'', r, s⟩ := h c cs; exact ⟨v, w'', r, (stepsIn_wide).2 s⟩)⟩
    | _ => exact (h : False).elim
  | halt x w' =>
    cases x with
    | panic u => exact h
    | _ => exact (h : False).elim
theorem op_plain {P : Program} {ops : Array Oper} {Q : Exit → Act → World → Prop} {l n i : Nat} {o : Oper} {K : Act → World → Prop} {a : Act} {w : World} (ho : ops[i]? = some o) (hw : Region.wanted o (yielded ops a.tmps) = true) (hnd : ∀ c, o.op ≠ .defer c) (h : Oper.wp P o a w K Q) :
    wpOpIn (Fence.wide.inRound l) n P ops Q i K a w := op_step ho hw (oper_plain hnd h)
theorem list_plain {P : Program} {ops : Array Oper} {Q : Exit → Act → World → Prop} {l n : Nat} {o : Oper} {rest : List Oper} {a : Act} {w : World} (hg : o.guard = none) (hnd : ∀ c, o.op ≠ .defer c) (h : Oper.wp P o a w (wpListIn (Fence.wide.inRound l) n P ops Q rest) Q) :
    wpListIn (Fence.wide.inRound l) n P ops Q (o :: rest) a w := by
  show (if Region.wanted o (yielded ops a.tmps) then o.wpIn (Fence.wide.inRound l) n P a w (wpListIn (Fence.wide.inRound l) n P ops Q rest) Q else _)
  rw [if_pos (by simp [Region.wanted, hg])]
  exact oper_plain hnd h
end Go.Proofs.YtfdkklhigliciaaGreatDoor
/-
  The program's iterator below: a place and all places behind it that hang on it, each with its node; nothing that was there is turned.
-/
namespace Go.Proofs.YtfdkklhigliciaaGreatDoor
open Go.RowKit Go.Extern.Stop Go.Stop Go.Extern Num Go.Lib Go.Shelf
attribute [local go_sem] Oper.semAt_some

/-- A place and its node, as they are told. -/
abbrev encN (x : Int × Dat) : Array Value := #[.int .i64 x.1, .agg #[.int .i64 x.2.parent, .int .i64 x.2.kind, .int .i64 x.2.num, .string x.2.name]]
/-- The places from a on, up to e, each with its node. -/
def tellN (N : List Dat) (a : Nat) : Nat → List (Int × Dat)
  | 0 => []
  | m + 1 => tellN N a m ++ (match N[a + m]? with | some t => [(((a + m : Nat) : Int), t)] | none => [])
theorem tellN_next (N : List Dat) (a m : Nat) (h : a + m < N.length) : tellN N a (m + 1) = tellN N a m ++ [(((a + m : Nat) : Int), N[a + m])] := by
  simp [tellN, h]
theorem tellN_len (N : List Dat) (a : Nat) : ∀ m, a + m ≤ N.length → (tellN N a m).length = m
  | 0, _ => rfl
  | m + 1, h => by rw [tellN_next N a m (by omega), List.length_append, tellN_len N a m (by omega)]; rfl
theorem tellN_pre (N : List Dat) (a : Nat) : ∀ m k, k ≤ m → a + m ≤ N.length → tellN N a k <+: tellN N a m
  | 0, k, h, _ => by obtain rfl : k = 0 := by omega
                     exact List.prefix_refl _
  | m + 1, k, h, h2 => by
    by_cases e : k = m + 1
    · subst e; exact List.prefix_refl _
    · rw [tellN_next N a m (by omega)]
      exact (tellN_pre N a m k (by omega) (by omega)).trans (List.prefix_append _ _)
/-- Where what hangs on a place ends: e. -/
structure EndAt (N : List Dat) (a e : Nat) : Prop where
  lt : a < e
  le : e ≤ N.length
  inside : ∀ (j : Nat) (h : j < N.length), a < j → j < e → (a : Int) ≤ N[j].parent
  stop : ∀ (h : e < N.length), N[e].parent < (a : Int)
/-- What the region of a round reads. -/
def SB (ba bt tb g cap k a L : Nat) (t : Dat) (w' : World) : Prop := w'.cell? ⟨ba, 0, none⟩ = some (.int .i64 (a : Int)) ∧ w'.cell? ⟨bt, 0, none⟩ = some (.pointer (some ⟨tb, 0, none⟩)) ∧ w'.cell? ⟨tb, 0, none⟩ = some (.slice (some ⟨g, 0, none⟩) L cap) ∧ w'.cell? ⟨g, k * 4, none⟩ = some (.int .i64 t.parent) ∧ w'.cell? ⟨g, k * 4 + 1, none⟩ = some (.int .i64 t.kind) ∧ w'.cell? ⟨g, k * 4 + 2, none⟩ = some (.int .i64 t.num) ∧ w'.cell? ⟨g, k * 4 + 3, none⟩ = some (.string t.name)
theorem SB.keep {ba bt tb g cap k a L n₀ lo hi : Nat} {t : Dat} {w w' : World} (h : SB ba bt tb g cap k a L t w) (hk : Kpx n₀ lo hi w w') (h1 : lo ≤ bt) (h2 : bt < hi) (h3 : lo ≤ ba) (h4 : ba < hi) (h5 : tb < n₀) (h6 : g < n₀) : SB ba bt tb g cap k a L t w' := by
  obtain ⟨s0, s1, s2, s3, s4, s5, s6⟩ := h
  exact ⟨(hk.cell h3 h4).trans s0, (hk.cell h1 h2).trans s1, (hk.1.cell (p := ⟨tb, 0, none⟩) h5).trans s2, (hk.1.cell (p := ⟨g, k * 4, none⟩) h6).trans s3, (hk.1.cell (p := ⟨g, k * 4 + 1, none⟩) h6).trans s4, (hk.1.cell (p := ⟨g, k * 4 + 2, none⟩) h6).trans s5, (hk.1.cell (p := ⟨g, k * 4 + 3, none⟩) h6).trans s6⟩
set_option maxRecDepth 100000 in
set_option maxHeartbeats 4000000 in
theorem below1_in (F : Fence) (n : Nat) (hF : ∀ f, F.fn f) (hro : F.round = none) (hn : 2 ≤ n) (l ba bt n₀ lo hi tb : Nat) (N : List Dat) (a e : Nat) (hE : EndAt N a e) (hN : N.length ≤ 1000) (J Jx : List (Int × Dat) → World → Prop) (Pd : Int × Dat → Prop) (hPd : ∀ (k : Nat) (h : k < N.length), Pd ((k : Int), N[k]))
    (hY : ∀ pre x W, Pd x → J pre W → pre ++ [x] <+: tellN N a (e - a) → YieldAt F (n - 1) Tryz.prog l (encN x) W fun e W' =>
      ((e = .returned (.bool true) ∧ J (pre ++ [x]) W') ∨ (e = .returned (.bool false) ∧ Jx (pre ++ [x]) W')) ∧ Kpx n₀ lo hi W W')
    (hD : ∀ pre W, J pre W → J pre W.drew)
    (W : World) (hBa : W.cell? ⟨ba, 0, none⟩ = some (.int .i64 (a : Int))) (hBt : W.cell? ⟨bt, 0, none⟩ = some (.pointer (some ⟨tb, 0, none⟩))) (hlo : lo ≤ bt) (hhi : bt < hi) (hlo2 : lo ≤ ba) (hhi2 : ba < hi) (hT : IsTree n₀ W tb N) (h0 : J [] W) :
    CallsIn F n Tryz.prog 142 #[.func (.yield l) #[] #[], .pointer (some ⟨ba, 0, none⟩), .pointer (some ⟨bt, 0, none⟩)] W fun r W' => (∃ v, r = .returned v) ∧
      ((∃ ys, ys = tellN N a (e - a) ∧ J ys W') ∨ (∃ pre, pre <+: tellN N a (e - a) ∧ Jx pre W')) := by
  have hmx : Tryz.prog.follows .mixedOrders = true := by kernel_rfl
  have h1 : 1 ≤ n := by omega
  refine callsIn_of_wp Tryz.func142 rfl (hF _) ?_ hro
  simp only [Tryz.ntmps142, List.size_toArray, List.length_cons, List.length_nil, Nat.reduceAdd, Nat.reduceSub, Array.replicate_succ, Array.replicate_zero, List.push_toArray, List.append_toArray, List.nil_append, List.cons_append]
  gi_wp2
  gi_loopw [4] (fun i wr => ∃ m : Nat, i = .int .i64 ((a + m : Nat) : Int) ∧ a + m ≤ e ∧ J (tellN N a m) wr ∧ Kpx n₀ lo hi W wr)
    (fun i _ => N.length + 1 - (RowKit.intOf i).toNat)
  case atStart => exact ⟨0, rfl, by have := hE.lt; omega, h0, kpx_refl _ _ _ _⟩
  case round =>
    obtain ⟨m, rfl, hm, hJs, hnx⟩ := hrel
    obtain ⟨ao, g, cap, hc, htb, hg, hao, hrow⟩ := hT.below hnx.1
    have hca : wr.cell? ⟨ba, 0, none⟩ = some (.int .i64 (a : Int)) := (hnx.cell hlo2 hhi2).trans hBa
    have hct : wr.cell? ⟨bt, 0, none⟩ = some (.pointer (some ⟨tb, 0, none⟩)) := (hnx.cell hlo hhi).trans hBt
    have hT1 := hT.below hnx.1
    by_cases hend : a + m < N.length
    · obtain rfl := hao (by intro h; rw [h] at hend; simp at hend)
      obtain ⟨k, hk⟩ : ∃ k, k = a + m := ⟨_, rfl⟩
      rw [← hk] at hend hm ⊢
      have HK : Hid (k = a + m) := hk
      have HJ : Hid (J (tellN N a m) wr) := hJs
      have HX : Hid (Kpx n₀ lo hi W wr) := hnx
      have HE : Hid (EndAt N a e) := hE
      obtain ⟨c0, c1, c2, c3⟩ := hrow k hend
      obtain ⟨t, ht⟩ : ∃ t, t = N[k]'hend := ⟨_, rfl⟩
      have HT : Hid (t = N[k]'hend) := ht
      rw [← ht] at c0 c1 c2 c3
      clear hk hJs hnx hrow hao ht hE
      have hlt : (k : Int) < (N.length : Int) := by omega
      have hk0 : (0 : Int) ≤ (k : Int) := by omega
      by_cases hst : k < e
      · -- a round
        have HY : Hid (YieldAt F (n - 1) Tryz.prog l (encN ((k : Int), t)) wr.drew fun r W3 => ∃ b, r = .returned (.bool b) ∧ (((b = true ∧ J (tellN N a (m + 1)) W3) ∨ (b = false ∧ Jx (tellN N a (m + 1)) W3)) ∧ Kpx n₀ lo hi wr.drew W3)) := by
          have et : tellN N a (m + 1) = tellN N a m ++ [((k : Int), t)] := by
            have h1 := HK.out
            rw [tellN_next N a m (by omega), HT.out]
            subst h1
            rfl
          refine (hY _ ((k : Int), t) wr.drew (by rw [HT.out]; exact hPd k hend) (hD _ _ HJ.out) (by rw [← et]; exact tellN_pre N a (e - a) (m + 1) (by have := HK.out; omega) (by have := HE.out.le; have := HE.out.lt; omega))).mono ?_
          rw [et]
          rintro r W3 ⟨⟨h1, h2⟩ | ⟨h1, h2⟩, h3⟩
          · exact ⟨true, h1, .inl ⟨rfl, h2⟩, h3⟩
          · exact ⟨false, h1, .inr ⟨rfl, h2⟩, h3⟩
        obtain ⟨fn, tmps, assign, body, hy, hR'⟩ := HY.out
        clear HY hY hD
        by_cases hm0 : m = 0
        · have hle : ¬ ((a : Int) < (k : Int)) := by have := HK.out; omega
          have hd : decide ((a : Int) < (k : Int)) = false := decide_eq_false hle
          have hka : k ≤ a := by omega
          clear hm0
          gi_wp2_with (gi_at_call 74; refine (size_in F (n - 1) hF hro _ _ _ _ hT1).mono ?_; rintro e w' ⟨rfl, hw'⟩; replace hw' := hw'.symm; subst hw')
          refine region_anyH (z := 99) (S := (SB ba bt tb g cap k a N.length t)) hmx ?_
          have hS0 : (SB ba bt tb g cap k a N.length t) wr.drew := ⟨hca, hct, hc, c0, c1, c2, c3⟩
          refine anyH_take hF (by kernel_rfl) (i := 0) (v := ?_) (d := some 12) (by kernel_rfl) rfl rfl (by kernel_rfl) (by kernel_rfl) (by kernel_rfl) (fun _ _ _ h => h) hS0 (Or.inl ⟨by rfl, fun w hSw => ?_⟩) ?_
          rotate_left
          · obtain ⟨s0, s1, s2, s3, s4, s5, s6⟩ := hSw
            go_simp
            all_goals (try (first | with_reducible rfl | omega))
          try simp only [Act.put]
          try simp only [List.setIfInBounds_toArray]
          try simp only [List.set_cons_zero, List.set_cons_succ]
          refine anyH_take hF (by kernel_rfl) (i := 1) (v := ?_) (d := some 13) (by kernel_rfl) rfl rfl (by kernel_rfl) (by kernel_rfl) (by kernel_rfl) (fun _ _ _ h => h) hS0 (Or.inl ⟨by rfl, fun w hSw => ?_⟩) ?_
          rotate_left
          · obtain ⟨s0, s1, s2, s3, s4, s5, s6⟩ := hSw
            go_simp
            all_goals (try (first | with_reducible rfl | omega))
          try simp only [Act.put]
          try simp only [List.setIfInBounds_toArray]
          try simp only [List.set_cons_zero, List.set_cons_succ]
          refine anyH_take hF (by kernel_rfl) (i := 2) (v := .bool false) (d := some 14) (by kernel_rfl) rfl rfl (by kernel_rfl) (by kernel_rfl) (by kernel_rfl) (fun _ _ _ h => h) hS0 (Or.inl ⟨by rfl, fun w hSw => ?_⟩) ?_
          · obtain ⟨s0, s1, s2, s3, s4, s5, s6⟩ := hSw
            go_simp
            all_goals (try (first | with_reducible rfl | omega))
          try simp only [Act.put]
          try simp only [List.setIfInBounds_toArray]
          try simp only [List.set_cons_zero, List.set_cons_succ]
          refine anyH_take hF (by kernel_rfl) (i := 3) (v := .bool false) (d := some 15) (by kernel_rfl) rfl rfl (by kernel_rfl) (by kernel_rfl) (by kernel_rfl) (fun _ _ _ h => h) hS0 (Or.inl ⟨by rfl, fun w hSw => ?_⟩) ?_
          · obtain ⟨s0, s1, s2, s3, s4, s5, s6⟩ := hSw
            go_simp
            all_goals (try (first | with_reducible rfl | omega))
          try simp only [Act.put]
          try simp only [List.setIfInBounds_toArray]
          try simp only [List.set_cons_zero, List.set_cons_succ]
          refine anyH_take hF (by kernel_rfl) (i := 4) (v := undef) (d := some 16) (by kernel_rfl) rfl rfl (by kernel_rfl) (by kernel_rfl) (by kernel_rfl) (fun _ _ _ h => h) hS0 (Or.inr ⟨by rfl, rfl⟩) ?_
          try simp only [Act.put]
          try simp only [List.setIfInBounds_toArray]
          try simp only [List.set_cons_zero, List.set_cons_succ]
          refine anyH_take hF (by kernel_rfl) (i := 5) (v := undef) (d := some 17) (by kernel_rfl) rfl rfl (by kernel_rfl) (by kernel_rfl) (by kernel_rfl) (fun _ _ _ h => h) hS0 (Or.inr ⟨by rfl, rfl⟩) ?_
          try simp only [Act.put]
          try simp only [List.setIfInBounds_toArray]
          try simp only [List.set_cons_zero, List.set_cons_succ]
          refine anyH_take hF (by kernel_rfl) (i := 6) (v := undef) (d := some 18) (by kernel_rfl) rfl rfl (by kernel_rfl) (by kernel_rfl) (by kernel_rfl) (fun _ _ _ h => h) hS0 (Or.inr ⟨by rfl, rfl⟩) ?_
          try simp only [Act.put]
          try simp only [List.setIfInBounds_toArray]
          try simp only [List.set_cons_zero, List.set_cons_succ]
          refine anyH_take hF (by kernel_rfl) (i := 7) (v := undef) (d := some 19) (by kernel_rfl) rfl rfl (by kernel_rfl) (by kernel_rfl) (by kernel_rfl) (fun _ _ _ h => h) hS0 (Or.inr ⟨by rfl, rfl⟩) ?_
          try simp only [Act.put]
          try simp only [List.setIfInBounds_toArray]
          try simp only [List.set_cons_zero, List.set_cons_succ]
          refine anyH_take hF (by kernel_rfl) (i := 8) (v := undef) (d := some 20) (by kernel_rfl) rfl rfl (by kernel_rfl) (by kernel_rfl) (by kernel_rfl) (fun _ _ _ h => h) hS0 (Or.inr ⟨by rfl, rfl⟩) ?_
          try simp only [Act.put]
          try simp only [List.setIfInBounds_toArray]
          try simp only [List.set_cons_zero, List.set_cons_succ]
          refine anyH_take hF (by kernel_rfl) (i := 9) (v := undef) (d := some 21) (by kernel_rfl) rfl rfl (by kernel_rfl) (by kernel_rfl) (by kernel_rfl) (fun _ _ _ h => h) hS0 (Or.inr ⟨by rfl, rfl⟩) ?_
          try simp only [Act.put]
          try simp only [List.setIfInBounds_toArray]
          try simp only [List.set_cons_zero, List.set_cons_succ]
          refine anyH_take hF (by kernel_rfl) (i := 10) (v := undef) (d := some 22) (by kernel_rfl) rfl rfl (by kernel_rfl) (by kernel_rfl) (by kernel_rfl) (fun _ _ _ h => h) hS0 (Or.inr ⟨by rfl, rfl⟩) ?_
          try simp only [Act.put]
          try simp only [List.setIfInBounds_toArray]
          try simp only [List.set_cons_zero, List.set_cons_succ]
          refine anyH_take hF (by kernel_rfl) (i := 11) (v := undef) (d := some 23) (by kernel_rfl) rfl rfl (by kernel_rfl) (by kernel_rfl) (by kernel_rfl) (fun _ _ _ h => h) hS0 (Or.inr ⟨by rfl, rfl⟩) ?_
          try simp only [Act.put]
          try simp only [List.setIfInBounds_toArray]
          try simp only [List.set_cons_zero, List.set_cons_succ]
          refine anyH_take hF (by kernel_rfl) (i := 12) (v := undef) (d := some 24) (by kernel_rfl) rfl rfl (by kernel_rfl) (by kernel_rfl) (by kernel_rfl) (fun _ _ _ h => h) hS0 (Or.inr ⟨by rfl, rfl⟩) ?_
          try simp only [Act.put]
          try simp only [List.setIfInBounds_toArray]
          try simp only [List.set_cons_zero, List.set_cons_succ]
          refine anyH_take hF (by kernel_rfl) (i := 13) (v := undef) (d := some 25) (by kernel_rfl) rfl rfl (by kernel_rfl) (by kernel_rfl) (by kernel_rfl) (fun _ _ _ h => h) hS0 (Or.inr ⟨by rfl, rfl⟩) ?_
          try simp only [Act.put]
          try simp only [List.setIfInBounds_toArray]
          try simp only [List.set_cons_zero, List.set_cons_succ]
          refine anyH_take hF (by kernel_rfl) (i := 14) (v := .bool false) (d := some 26) (by kernel_rfl) rfl rfl (by kernel_rfl) (by kernel_rfl) (by kernel_rfl) (fun _ _ _ h => h) hS0 (Or.inl ⟨by rfl, fun w hSw => ?_⟩) ?_
          · obtain ⟨s0, s1, s2, s3, s4, s5, s6⟩ := hSw
            go_simp
            all_goals (try (first | with_reducible rfl | omega))
          try simp only [Act.put]
          try simp only [List.setIfInBounds_toArray]
          try simp only [List.set_cons_zero, List.set_cons_succ]
          refine anyH_take hF (by kernel_rfl) (i := 15) (v := .bool false) (d := some 27) (by kernel_rfl) rfl rfl (by kernel_rfl) (by kernel_rfl) (by kernel_rfl) (fun _ _ _ h => h) hS0 (Or.inl ⟨by rfl, fun w hSw => ?_⟩) ?_
          · obtain ⟨s0, s1, s2, s3, s4, s5, s6⟩ := hSw
            go_simp
            all_goals (try (first | with_reducible rfl | omega))
          try simp only [Act.put]
          try simp only [List.setIfInBounds_toArray]
          try simp only [List.set_cons_zero, List.set_cons_succ]
          refine anyH_take hF (by kernel_rfl) (i := 16) (v := ?_) (d := some 28) (by kernel_rfl) rfl rfl (by kernel_rfl) (by kernel_rfl) (by kernel_rfl) (fun _ _ _ h => h) hS0 (Or.inl ⟨by rfl, fun w hSw => ?_⟩) ?_
          rotate_left
          · obtain ⟨s0, s1, s2, s3, s4, s5, s6⟩ := hSw
            go_simp
            all_goals (try (first | with_reducible rfl | omega))
          try simp only [Act.put]
          try simp only [List.setIfInBounds_toArray]
          try simp only [List.set_cons_zero, List.set_cons_succ]
          refine anyH_take hF (by kernel_rfl) (i := 17) (v := ?_) (d := some 29) (by kernel_rfl) rfl rfl (by kernel_rfl) (by kernel_rfl) (by kernel_rfl) (fun _ _ _ h => h) hS0 (Or.inl ⟨by rfl, fun w hSw => ?_⟩) ?_
          rotate_left
          · obtain ⟨s0, s1, s2, s3, s4, s5, s6⟩ := hSw
            go_simp
            all_goals (try (first | with_reducible rfl | omega))
          try simp only [Act.put]
          try simp only [List.setIfInBounds_toArray]
          try simp only [List.set_cons_zero, List.set_cons_succ]
          refine anyH_take hF (by kernel_rfl) (i := 18) (v := ?_) (d := some 30) (by kernel_rfl) rfl rfl (by kernel_rfl) (by kernel_rfl) (by kernel_rfl) (fun _ _ _ h => h) hS0 (Or.inl ⟨by rfl, fun w hSw => ?_⟩) ?_
          rotate_left
          · obtain ⟨s0, s1, s2, s3, s4, s5, s6⟩ := hSw
            go_simp
            all_goals (try (first | with_reducible rfl | omega))
          try simp only [Act.put]
          try simp only [List.setIfInBounds_toArray]
          try simp only [List.set_cons_zero, List.set_cons_succ]
          refine anyH_take hF (by kernel_rfl) (i := 19) (v := ?_) (d := some 31) (by kernel_rfl) rfl rfl (by kernel_rfl) (by kernel_rfl) (by kernel_rfl) (fun _ _ _ h => h) hS0 (Or.inl ⟨by rfl, fun w hSw => ?_⟩) ?_
          rotate_left
          · obtain ⟨s0, s1, s2, s3, s4, s5, s6⟩ := hSw
            go_simp
            all_goals (try (first | with_reducible rfl | omega))
          try simp only [Act.put]
          try simp only [List.setIfInBounds_toArray]
          try simp only [List.set_cons_zero, List.set_cons_succ]
          refine anyH_take hF (by kernel_rfl) (i := 20) (v := ?_) (d := some 32) (by kernel_rfl) rfl rfl (by kernel_rfl) (by kernel_rfl) (by kernel_rfl) (fun _ _ _ h => h) hS0 (Or.inl ⟨by rfl, fun w hSw => ?_⟩) ?_
          rotate_left
          · obtain ⟨s0, s1, s2, s3, s4, s5, s6⟩ := hSw
            go_simp
            all_goals (try (first | with_reducible rfl | omega))
          try simp only [Act.put]
          try simp only [List.setIfInBounds_toArray]
          try simp only [List.set_cons_zero, List.set_cons_succ]
          refine anyH_take hF (by kernel_rfl) (i := 21) (v := ?_) (d := some 33) (by kernel_rfl) rfl rfl (by kernel_rfl) (by kernel_rfl) (by kernel_rfl) (fun _ _ _ h => h) hS0 (Or.inl ⟨by rfl, fun w hSw => ?_⟩) ?_
          rotate_left
          · obtain ⟨s0, s1, s2, s3, s4, s5, s6⟩ := hSw
            go_simp
            all_goals (try (first | with_reducible rfl | omega))
          try simp only [Act.put]
          try simp only [List.setIfInBounds_toArray]
          try simp only [List.set_cons_zero, List.set_cons_succ]
          refine anyH_take hF (by kernel_rfl) (i := 22) (v := ?_) (d := some 34) (by kernel_rfl) rfl rfl (by kernel_rfl) (by kernel_rfl) (by kernel_rfl) (fun _ _ _ h => h) hS0 (Or.inl ⟨by rfl, fun w hSw => ?_⟩) ?_
          rotate_left
          · obtain ⟨s0, s1, s2, s3, s4, s5, s6⟩ := hSw
            go_simp
            all_goals (try (first | with_reducible rfl | omega))
          try simp only [Act.put]
          try simp only [List.setIfInBounds_toArray]
          try simp only [List.set_cons_zero, List.set_cons_succ]
          refine anyH_take hF (by kernel_rfl) (i := 23) (v := ?_) (d := some 35) (by kernel_rfl) rfl rfl (by kernel_rfl) (by kernel_rfl) (by kernel_rfl) (fun _ _ _ h => h) hS0 (Or.inl ⟨by rfl, fun w hSw => ?_⟩) ?_
          rotate_left
          · obtain ⟨s0, s1, s2, s3, s4, s5, s6⟩ := hSw
            go_simp
            all_goals (try (first | with_reducible rfl | omega))
          try simp only [Act.put]
          try simp only [List.setIfInBounds_toArray]
          try simp only [List.set_cons_zero, List.set_cons_succ]
          refine anyH_take hF (by kernel_rfl) (i := 24) (v := ?_) (d := some 36) (by kernel_rfl) rfl rfl (by kernel_rfl) (by kernel_rfl) (by kernel_rfl) (fun _ _ _ h => h) hS0 (Or.inl ⟨by rfl, fun w hSw => ?_⟩) ?_
          rotate_left
          · obtain ⟨s0, s1, s2, s3, s4, s5, s6⟩ := hSw
            go_simp
            all_goals (try (first | with_reducible rfl | omega))
          try simp only [Act.put]
          try simp only [List.setIfInBounds_toArray]
          try simp only [List.set_cons_zero, List.set_cons_succ]
          refine anyH_one (i := 25) (by kernel_rfl) (op_step rfl (by rfl) ⟨fun f _ => hF f, ?_⟩)
          rw [hro, Oper.semAt_none]
          go_simp
          refine hR'.mono ?_
          rintro r W3 ⟨b, rfl, hpost, hk3⟩
          have hS1 : SB ba bt tb g cap k a N.length t W3 := hS0.keep hk3 hlo hhi hlo2 hhi2 htb hg
          refine ⟨(by first | exact hS1 | exact fun _ => hS1), ?_⟩
          clear hS0 hy hR'
          try simp only [Act.put]
          try simp only [List.setIfInBounds_toArray]
          try simp only [List.set_cons_zero, List.set_cons_succ]
          refine anyH_take hF (by kernel_rfl) (i := 26) (v := .bool (!b)) (d := some 38) (by kernel_rfl) rfl rfl (by kernel_rfl) (by kernel_rfl) (by kernel_rfl) (fun _ _ _ h => h) hS1 (Or.inl ⟨by rfl, fun w hSw => ?_⟩) ?_
          · obtain ⟨s0, s1, s2, s3, s4, s5, s6⟩ := hSw
            go_simp
            all_goals (try (first | with_reducible rfl | omega))
          try simp only [Act.put]
          try simp only [List.setIfInBounds_toArray]
          try simp only [List.set_cons_zero, List.set_cons_succ]
          refine anyH_take hF (by kernel_rfl) (i := 27) (v := .bool (!b)) (d := some 39) (by kernel_rfl) rfl rfl (by kernel_rfl) (by kernel_rfl) (by kernel_rfl) (fun _ _ _ h => h) hS1 (Or.inl ⟨by rfl, fun w hSw => ?_⟩) ?_
          · obtain ⟨s0, s1, s2, s3, s4, s5, s6⟩ := hSw
            go_simp
            all_goals (try (first | with_reducible rfl | omega))
          try simp only [Act.put]
          try simp only [List.setIfInBounds_toArray]
          try simp only [List.set_cons_zero, List.set_cons_succ]
          refine anyH_done (by kernel_rfl) ?_ _
          cases b
          · have hJx := hpost.elim (fun h => absurd h.1 (by simp)) (fun h => h.2)
            clear hpost
            gi_wp2
            refine bodyPost_ret (results_none rfl _ _ _) rfl ?_
            exact ⟨⟨_, rfl⟩, .inr ⟨_, tellN_pre N a (e - a) (m + 1) (by have := HK.out; omega) (by have := HE.out.le; have := HE.out.lt; omega), hJx⟩⟩
          · have hJ3 := hpost.elim (fun h => h.2) (fun h => absurd h.1 (by simp))
            clear hpost
            gi_wp2
            go_roundw
            case rel => exact ⟨m + 1, by have := HK.out; rw [show a + (m + 1) = k + 1 by omega]; simp, by have := HK.out; omega, hJ3, kpx_t HX.out (kpx_t (⟨(Below.refl _ _).drew, fun _ _ _ => rfl⟩ : Kpx n₀ lo hi wr wr.drew) hk3)⟩
            case measure => simp [RowKit.intOf]; omega
        · have hle : (a : Int) < (k : Int) := by have := HK.out; omega
          have hd : decide ((a : Int) < (k : Int)) = true := decide_eq_true hle
          have hpa : ¬ (t.parent < (a : Int)) := by have := HE.out.inside k hend (by have := HK.out; omega) hst; rw [← HT.out] at this; omega
          have hpd : decide (t.parent < (a : Int)) = false := decide_eq_false hpa
          have hka : a < k := by omega
          clear hm0
          gi_wp2_with (gi_at_call 74; refine (size_in F (n - 1) hF hro _ _ _ _ hT1).mono ?_; rintro e w' ⟨rfl, hw'⟩; replace hw' := hw'.symm; subst hw')
          refine region_anyH (z := 99) (S := (SB ba bt tb g cap k a N.length t)) hmx ?_
          have hS0 : (SB ba bt tb g cap k a N.length t) wr.drew := ⟨hca, hct, hc, c0, c1, c2, c3⟩
          refine anyH_take hF (by kernel_rfl) (i := 0) (v := ?_) (d := some 12) (by kernel_rfl) rfl rfl (by kernel_rfl) (by kernel_rfl) (by kernel_rfl) (fun _ _ _ h => h) hS0 (Or.inl ⟨by rfl, fun w hSw => ?_⟩) ?_
          rotate_left
          · obtain ⟨s0, s1, s2, s3, s4, s5, s6⟩ := hSw
            go_simp
            all_goals (try (first | with_reducible rfl | omega))
          try simp only [Act.put]
          try simp only [List.setIfInBounds_toArray]
          try simp only [List.set_cons_zero, List.set_cons_succ]
          refine anyH_take hF (by kernel_rfl) (i := 1) (v := ?_) (d := some 13) (by kernel_rfl) rfl rfl (by kernel_rfl) (by kernel_rfl) (by kernel_rfl) (fun _ _ _ h => h) hS0 (Or.inl ⟨by rfl, fun w hSw => ?_⟩) ?_
          rotate_left
          · obtain ⟨s0, s1, s2, s3, s4, s5, s6⟩ := hSw
            go_simp
            all_goals (try (first | with_reducible rfl | omega))
          try simp only [Act.put]
          try simp only [List.setIfInBounds_toArray]
          try simp only [List.set_cons_zero, List.set_cons_succ]
          refine anyH_take hF (by kernel_rfl) (i := 2) (v := .bool true) (d := some 14) (by kernel_rfl) rfl rfl (by kernel_rfl) (by kernel_rfl) (by kernel_rfl) (fun _ _ _ h => h) hS0 (Or.inl ⟨by rfl, fun w hSw => ?_⟩) ?_
          · obtain ⟨s0, s1, s2, s3, s4, s5, s6⟩ := hSw
            go_simp
            all_goals (try (first | with_reducible rfl | omega))
          try simp only [Act.put]
          try simp only [List.setIfInBounds_toArray]
          try simp only [List.set_cons_zero, List.set_cons_succ]
          refine anyH_take hF (by kernel_rfl) (i := 3) (v := .bool true) (d := some 15) (by kernel_rfl) rfl rfl (by kernel_rfl) (by kernel_rfl) (by kernel_rfl) (fun _ _ _ h => h) hS0 (Or.inl ⟨by rfl, fun w hSw => ?_⟩) ?_
          · obtain ⟨s0, s1, s2, s3, s4, s5, s6⟩ := hSw
            go_simp
            all_goals (try (first | with_reducible rfl | omega))
          try simp only [Act.put]
          try simp only [List.setIfInBounds_toArray]
          try simp only [List.set_cons_zero, List.set_cons_succ]
          refine anyH_take hF (by kernel_rfl) (i := 4) (v := ?_) (d := some 16) (by kernel_rfl) rfl rfl (by kernel_rfl) (by kernel_rfl) (by kernel_rfl) (fun _ _ _ h => h) hS0 (Or.inl ⟨by rfl, fun w hSw => ?_⟩) ?_
          rotate_left
          · obtain ⟨s0, s1, s2, s3, s4, s5, s6⟩ := hSw
            go_simp
            all_goals (try (first | with_reducible rfl | omega))
          try simp only [Act.put]
          try simp only [List.setIfInBounds_toArray]
          try simp only [List.set_cons_zero, List.set_cons_succ]
          refine anyH_take hF (by kernel_rfl) (i := 5) (v := ?_) (d := some 17) (by kernel_rfl) rfl rfl (by kernel_rfl) (by kernel_rfl) (by kernel_rfl) (fun _ _ _ h => h) hS0 (Or.inl ⟨by rfl, fun w hSw => ?_⟩) ?_
          rotate_left
          · obtain ⟨s0, s1, s2, s3, s4, s5, s6⟩ := hSw
            go_simp
            all_goals (try (first | with_reducible rfl | omega))
          try simp only [Act.put]
          try simp only [List.setIfInBounds_toArray]
          try simp only [List.set_cons_zero, List.set_cons_succ]
          refine anyH_take hF (by kernel_rfl) (i := 6) (v := ?_) (d := some 18) (by kernel_rfl) rfl rfl (by kernel_rfl) (by kernel_rfl) (by kernel_rfl) (fun _ _ _ h => h) hS0 (Or.inl ⟨by rfl, fun w hSw => ?_⟩) ?_
          rotate_left
          · obtain ⟨s0, s1, s2, s3, s4, s5, s6⟩ := hSw
            go_simp
            all_goals (try (first | with_reducible rfl | omega))
          try simp only [Act.put]
          try simp only [List.setIfInBounds_toArray]
          try simp only [List.set_cons_zero, List.set_cons_succ]
          refine anyH_take hF (by kernel_rfl) (i := 7) (v := ?_) (d := some 19) (by kernel_rfl) rfl rfl (by kernel_rfl) (by kernel_rfl) (by kernel_rfl) (fun _ _ _ h => h) hS0 (Or.inl ⟨by rfl, fun w hSw => ?_⟩) ?_
          rotate_left
          · obtain ⟨s0, s1, s2, s3, s4, s5, s6⟩ := hSw
            go_simp
            all_goals (try (first | with_reducible rfl | omega))
          try simp only [Act.put]
          try simp only [List.setIfInBounds_toArray]
          try simp only [List.set_cons_zero, List.set_cons_succ]
          refine anyH_take hF (by kernel_rfl) (i := 8) (v := ?_) (d := some 20) (by kernel_rfl) rfl rfl (by kernel_rfl) (by kernel_rfl) (by kernel_rfl) (fun _ _ _ h => h) hS0 (Or.inl ⟨by rfl, fun w hSw => ?_⟩) ?_
          rotate_left
          · obtain ⟨s0, s1, s2, s3, s4, s5, s6⟩ := hSw
            go_simp
            all_goals (try (first | with_reducible rfl | omega))
          try simp only [Act.put]
          try simp only [List.setIfInBounds_toArray]
          try simp only [List.set_cons_zero, List.set_cons_succ]
          refine anyH_take hF (by kernel_rfl) (i := 9) (v := ?_) (d := some 21) (by kernel_rfl) rfl rfl (by kernel_rfl) (by kernel_rfl) (by kernel_rfl) (fun _ _ _ h => h) hS0 (Or.inl ⟨by rfl, fun w hSw => ?_⟩) ?_
          rotate_left
          · obtain ⟨s0, s1, s2, s3, s4, s5, s6⟩ := hSw
            go_simp
            all_goals (try (first | with_reducible rfl | omega))
          try simp only [Act.put]
          try simp only [List.setIfInBounds_toArray]
          try simp only [List.set_cons_zero, List.set_cons_succ]
          refine anyH_take hF (by kernel_rfl) (i := 10) (v := ?_) (d := some 22) (by kernel_rfl) rfl rfl (by kernel_rfl) (by kernel_rfl) (by kernel_rfl) (fun _ _ _ h => h) hS0 (Or.inl ⟨by rfl, fun w hSw => ?_⟩) ?_
          rotate_left
          · obtain ⟨s0, s1, s2, s3, s4, s5, s6⟩ := hSw
            go_simp
            all_goals (try (first | with_reducible rfl | omega))
          try simp only [Act.put]
          try simp only [List.setIfInBounds_toArray]
          try simp only [List.set_cons_zero, List.set_cons_succ]
          refine anyH_take hF (by kernel_rfl) (i := 11) (v := ?_) (d := some 23) (by kernel_rfl) rfl rfl (by kernel_rfl) (by kernel_rfl) (by kernel_rfl) (fun _ _ _ h => h) hS0 (Or.inl ⟨by rfl, fun w hSw => ?_⟩) ?_
          rotate_left
          · obtain ⟨s0, s1, s2, s3, s4, s5, s6⟩ := hSw
            go_simp
            all_goals (try (first | with_reducible rfl | omega))
          try simp only [Act.put]
          try simp only [List.setIfInBounds_toArray]
          try simp only [List.set_cons_zero, List.set_cons_succ]
          refine anyH_take hF (by kernel_rfl) (i := 12) (v := ?_) (d := some 24) (by kernel_rfl) rfl rfl (by kernel_rfl) (by kernel_rfl) (by kernel_rfl) (fun _ _ _ h => h) hS0 (Or.inl ⟨by rfl, fun w hSw => ?_⟩) ?_
          rotate_left
          · obtain ⟨s0, s1, s2, s3, s4, s5, s6⟩ := hSw
            go_simp
            all_goals (try (first | with_reducible rfl | omega))
          try simp only [Act.put]
          try simp only [List.setIfInBounds_toArray]
          try simp only [List.set_cons_zero, List.set_cons_succ]
          refine anyH_take hF (by kernel_rfl) (i := 13) (v := .bool false) (d := some 25) (by kernel_rfl) rfl rfl (by kernel_rfl) (by kernel_rfl) (by kernel_rfl) (fun _ _ _ h => h) hS0 (Or.inl ⟨by rfl, fun w hSw => ?_⟩) ?_
          · obtain ⟨s0, s1, s2, s3, s4, s5, s6⟩ := hSw
            go_simp
            all_goals (try (first | with_reducible rfl | omega))
          try simp only [Act.put]
          try simp only [List.setIfInBounds_toArray]
          try simp only [List.set_cons_zero, List.set_cons_succ]
          refine anyH_take hF (by kernel_rfl) (i := 14) (v := .bool false) (d := some 26) (by kernel_rfl) rfl rfl (by kernel_rfl) (by kernel_rfl) (by kernel_rfl) (fun _ _ _ h => h) hS0 (Or.inl ⟨by rfl, fun w hSw => ?_⟩) ?_
          · obtain ⟨s0, s1, s2, s3, s4, s5, s6⟩ := hSw
            go_simp
            all_goals (try (first | with_reducible rfl | omega))
          try simp only [Act.put]
          try simp only [List.setIfInBounds_toArray]
          try simp only [List.set_cons_zero, List.set_cons_succ]
          refine anyH_take hF (by kernel_rfl) (i := 15) (v := .bool false) (d := some 27) (by kernel_rfl) rfl rfl (by kernel_rfl) (by kernel_rfl) (by kernel_rfl) (fun _ _ _ h => h) hS0 (Or.inl ⟨by rfl, fun w hSw => ?_⟩) ?_
          · obtain ⟨s0, s1, s2, s3, s4, s5, s6⟩ := hSw
            go_simp
            all_goals (try (first | with_reducible rfl | omega))
          try simp only [Act.put]
          try simp only [List.setIfInBounds_toArray]
          try simp only [List.set_cons_zero, List.set_cons_succ]
          refine anyH_take hF (by kernel_rfl) (i := 16) (v := ?_) (d := some 28) (by kernel_rfl) rfl rfl (by kernel_rfl) (by kernel_rfl) (by kernel_rfl) (fun _ _ _ h => h) hS0 (Or.inl ⟨by rfl, fun w hSw => ?_⟩) ?_
          rotate_left
          · obtain ⟨s0, s1, s2, s3, s4, s5, s6⟩ := hSw
            go_simp
            all_goals (try (first | with_reducible rfl | omega))
          try simp only [Act.put]
          try simp only [List.setIfInBounds_toArray]
          try simp only [List.set_cons_zero, List.set_cons_succ]
          refine anyH_take hF (by kernel_rfl) (i := 17) (v := ?_) (d := some 29) (by kernel_rfl) rfl rfl (by kernel_rfl) (by kernel_rfl) (by kernel_rfl) (fun _ _ _ h => h) hS0 (Or.inl ⟨by rfl, fun w hSw => ?_⟩) ?_
          rotate_left
          · obtain ⟨s0, s1, s2, s3, s4, s5, s6⟩ := hSw
            go_simp
            all_goals (try (first | with_reducible rfl | omega))
          try simp only [Act.put]
          try simp only [List.setIfInBounds_toArray]
          try simp only [List.set_cons_zero, List.set_cons_succ]
          refine anyH_take hF (by kernel_rfl) (i := 18) (v := ?_) (d := some 30) (by kernel_rfl) rfl rfl (by kernel_rfl) (by kernel_rfl) (by kernel_rfl) (fun _ _ _ h => h) hS0 (Or.inl ⟨by rfl, fun w hSw => ?_⟩) ?_
          rotate_left
          · obtain ⟨s0, s1, s2, s3, s4, s5, s6⟩ := hSw
            go_simp
            all_goals (try (first | with_reducible rfl | omega))
          try simp only [Act.put]
          try simp only [List.setIfInBounds_toArray]
          try simp only [List.set_cons_zero, List.set_cons_succ]
          refine anyH_take hF (by kernel_rfl) (i := 19) (v := ?_) (d := some 31) (by kernel_rfl) rfl rfl (by kernel_rfl) (by kernel_rfl) (by kernel_rfl) (fun _ _ _ h => h) hS0 (Or.inl ⟨by rfl, fun w hSw => ?_⟩) ?_
          rotate_left
          · obtain ⟨s0, s1, s2, s3, s4, s5, s6⟩ := hSw
            go_simp
            all_goals (try (first | with_reducible rfl | omega))
          try simp only [Act.put]
          try simp only [List.setIfInBounds_toArray]
          try simp only [List.set_cons_zero, List.set_cons_succ]
          refine anyH_take hF (by kernel_rfl) (i := 20) (v := ?_) (d := some 32) (by kernel_rfl) rfl rfl (by kernel_rfl) (by kernel_rfl) (by kernel_rfl) (fun _ _ _ h => h) hS0 (Or.inl ⟨by rfl, fun w hSw => ?_⟩) ?_
          rotate_left
          · obtain ⟨s0, s1, s2, s3, s4, s5, s6⟩ := hSw
            go_simp
            all_goals (try (first | with_reducible rfl | omega))
          try simp only [Act.put]
          try simp only [List.setIfInBounds_toArray]
          try simp only [List.set_cons_zero, List.set_cons_succ]
          refine anyH_take hF (by kernel_rfl) (i := 21) (v := ?_) (d := some 33) (by kernel_rfl) rfl rfl (by kernel_rfl) (by kernel_rfl) (by kernel_rfl) (fun _ _ _ h => h) hS0 (Or.inl ⟨by rfl, fun w hSw => ?_⟩) ?_
          rotate_left
          · obtain ⟨s0, s1, s2, s3, s4, s5, s6⟩ := hSw
            go_simp
            all_goals (try (first | with_reducible rfl | omega))
          try simp only [Act.put]
          try simp only [List.setIfInBounds_toArray]
          try simp only [List.set_cons_zero, List.set_cons_succ]
          refine anyH_take hF (by kernel_rfl) (i := 22) (v := ?_) (d := some 34) (by kernel_rfl) rfl rfl (by kernel_rfl) (by kernel_rfl) (by kernel_rfl) (fun _ _ _ h => h) hS0 (Or.inl ⟨by rfl, fun w hSw => ?_⟩) ?_
          rotate_left
          · obtain ⟨s0, s1, s2, s3, s4, s5, s6⟩ := hSw
            go_simp
            all_goals (try (first | with_reducible rfl | omega))
          try simp only [Act.put]
          try simp only [List.setIfInBounds_toArray]
          try simp only [List.set_cons_zero, List.set_cons_succ]
          refine anyH_take hF (by kernel_rfl) (i := 23) (v := ?_) (d := some 35) (by kernel_rfl) rfl rfl (by kernel_rfl) (by kernel_rfl) (by kernel_rfl) (fun _ _ _ h => h) hS0 (Or.inl ⟨by rfl, fun w hSw => ?_⟩) ?_
          rotate_left
          · obtain ⟨s0, s1, s2, s3, s4, s5, s6⟩ := hSw
            go_simp
            all_goals (try (first | with_reducible rfl | omega))
          try simp only [Act.put]
          try simp only [List.setIfInBounds_toArray]
          try simp only [List.set_cons_zero, List.set_cons_succ]
          refine anyH_take hF (by kernel_rfl) (i := 24) (v := ?_) (d := some 36) (by kernel_rfl) rfl rfl (by kernel_rfl) (by kernel_rfl) (by kernel_rfl) (fun _ _ _ h => h) hS0 (Or.inl ⟨by rfl, fun w hSw => ?_⟩) ?_
          rotate_left
          · obtain ⟨s0, s1, s2, s3, s4, s5, s6⟩ := hSw
            go_simp
            all_goals (try (first | with_reducible rfl | omega))
          try simp only [Act.put]
          try simp only [List.setIfInBounds_toArray]
          try simp only [List.set_cons_zero, List.set_cons_succ]
          refine anyH_one (i := 25) (by kernel_rfl) (op_step rfl (by rfl) ⟨fun f _ => hF f, ?_⟩)
          rw [hro, Oper.semAt_none]
          go_simp
          refine hR'.mono ?_
          rintro r W3 ⟨b, rfl, hpost, hk3⟩
          have hS1 : SB ba bt tb g cap k a N.length t W3 := hS0.keep hk3 hlo hhi hlo2 hhi2 htb hg
          refine ⟨(by first | exact hS1 | exact fun _ => hS1), ?_⟩
          clear hS0 hy hR'
          try simp only [Act.put]
          try simp only [List.setIfInBounds_toArray]
          try simp only [List.set_cons_zero, List.set_cons_succ]
          refine anyH_take hF (by kernel_rfl) (i := 26) (v := .bool (!b)) (d := some 38) (by kernel_rfl) rfl rfl (by kernel_rfl) (by kernel_rfl) (by kernel_rfl) (fun _ _ _ h => h) hS1 (Or.inl ⟨by rfl, fun w hSw => ?_⟩) ?_
          · obtain ⟨s0, s1, s2, s3, s4, s5, s6⟩ := hSw
            go_simp
            all_goals (try (first | with_reducible rfl | omega))
          try simp only [Act.put]
          try simp only [List.setIfInBounds_toArray]
          try simp only [List.set_cons_zero, List.set_cons_succ]
          refine anyH_take hF (by kernel_rfl) (i := 27) (v := .bool (!b)) (d := some 39) (by kernel_rfl) rfl rfl (by kernel_rfl) (by kernel_rfl) (by kernel_rfl) (fun _ _ _ h => h) hS1 (Or.inl ⟨by rfl, fun w hSw => ?_⟩) ?_
          · obtain ⟨s0, s1, s2, s3, s4, s5, s6⟩ := hSw
            go_simp
            all_goals (try (first | with_reducible rfl | omega))
          try simp only [Act.put]
          try simp only [List.setIfInBounds_toArray]
          try simp only [List.set_cons_zero, List.set_cons_succ]
          refine anyH_done (by kernel_rfl) ?_ _
          cases b
          · have hJx := hpost.elim (fun h => absurd h.1 (by simp)) (fun h => h.2)
            clear hpost
            gi_wp2
            refine bodyPost_ret (results_none rfl _ _ _) rfl ?_
            exact ⟨⟨_, rfl⟩, .inr ⟨_, tellN_pre N a (e - a) (m + 1) (by have := HK.out; omega) (by have := HE.out.le; have := HE.out.lt; omega), hJx⟩⟩
          · have hJ3 := hpost.elim (fun h => h.2) (fun h => absurd h.1 (by simp))
            clear hpost
            gi_wp2
            go_roundw
            case rel => exact ⟨m + 1, by have := HK.out; rw [show a + (m + 1) = k + 1 by omega]; simp, by have := HK.out; omega, hJ3, kpx_t HX.out (kpx_t (⟨(Below.refl _ _).drew, fun _ _ _ => rfl⟩ : Kpx n₀ lo hi wr wr.drew) hk3)⟩
            case measure => simp [RowKit.intOf]; omega
      · -- the first one that does not hang on it
        have hke : k = e := by omega
        have hle : (a : Int) < (k : Int) := by have := HE.out.lt; omega
        have hd : decide ((a : Int) < (k : Int)) = true := decide_eq_true hle
        have hpa : t.parent < (a : Int) := by
          have := HE.out.stop (by omega)
          have e1 : t = N[e]'(by omega) := by rw [HT.out]; simp only [hke]
          rw [← e1] at this; exact this
        have hpd : decide (t.parent < (a : Int)) = true := decide_eq_true hpa
        have hka : a < k := by omega
        have HJ2 : Hid (J (tellN N a (e - a)) wr.drew) := by
          have := hD _ _ HJ.out
          rw [show e - a = m by have := HK.out; omega]; exact this
        clear hke
        gi_wp2_with (gi_at_call 74; refine (size_in F (n - 1) hF hro _ _ _ _ hT1).mono ?_; rintro e w' ⟨rfl, hw'⟩; replace hw' := hw'.symm; subst hw')
        refine region_anyH (z := 99) (S := (SB ba bt tb g cap k a N.length t)) hmx ?_
        have hS0 : (SB ba bt tb g cap k a N.length t) wr.drew := ⟨hca, hct, hc, c0, c1, c2, c3⟩
        refine anyH_take hF (by kernel_rfl) (i := 0) (v := ?_) (d := some 12) (by kernel_rfl) rfl rfl (by kernel_rfl) (by kernel_rfl) (by kernel_rfl) (fun _ _ _ h => h) hS0 (Or.inl ⟨by rfl, fun w hSw => ?_⟩) ?_
        rotate_left
        · obtain ⟨s0, s1, s2, s3, s4, s5, s6⟩ := hSw
          go_simp
          all_goals (try (first | with_reducible rfl | omega))
        try simp only [Act.put]
        try simp only [List.setIfInBounds_toArray]
        try simp only [List.set_cons_zero, List.set_cons_succ]
        refine anyH_take hF (by kernel_rfl) (i := 1) (v := ?_) (d := some 13) (by kernel_rfl) rfl rfl (by kernel_rfl) (by kernel_rfl) (by kernel_rfl) (fun _ _ _ h => h) hS0 (Or.inl ⟨by rfl, fun w hSw => ?_⟩) ?_
        rotate_left
        · obtain ⟨s0, s1, s2, s3, s4, s5, s6⟩ := hSw
          go_simp
          all_goals (try (first | with_reducible rfl | omega))
        try simp only [Act.put]
        try simp only [List.setIfInBounds_toArray]
        try simp only [List.set_cons_zero, List.set_cons_succ]
        refine anyH_take hF (by kernel_rfl) (i := 2) (v := .bool true) (d := some 14) (by kernel_rfl) rfl rfl (by kernel_rfl) (by kernel_rfl) (by kernel_rfl) (fun _ _ _ h => h) hS0 (Or.inl ⟨by rfl, fun w hSw => ?_⟩) ?_
        · obtain ⟨s0, s1, s2, s3, s4, s5, s6⟩ := hSw
          go_simp
          all_goals (try (first | with_reducible rfl | omega))
        try simp only [Act.put]
        try simp only [List.setIfInBounds_toArray]
        try simp only [List.set_cons_zero, List.set_cons_succ]
        refine anyH_take hF (by kernel_rfl) (i := 3) (v := .bool true) (d := some 15) (by kernel_rfl) rfl rfl (by kernel_rfl) (by kernel_rfl) (by kernel_rfl) (fun _ _ _ h => h) hS0 (Or.inl ⟨by rfl, fun w hSw => ?_⟩) ?_
        · obtain ⟨s0, s1, s2, s3, s4, s5, s6⟩ := hSw
          go_simp
          all_goals (try (first | with_reducible rfl | omega))
        try simp only [Act.put]
        try simp only [List.setIfInBounds_toArray]
        try simp only [List.set_cons_zero, List.set_cons_succ]
        refine anyH_take hF (by kernel_rfl) (i := 4) (v := ?_) (d := some 16) (by kernel_rfl) rfl rfl (by kernel_rfl) (by kernel_rfl) (by kernel_rfl) (fun _ _ _ h => h) hS0 (Or.inl ⟨by rfl, fun w hSw => ?_⟩) ?_
        rotate_left
        · obtain ⟨s0, s1, s2, s3, s4, s5, s6⟩ := hSw
          go_simp
          all_goals (try (first | with_reducible rfl | omega))
        try simp only [Act.put]
        try simp only [List.setIfInBounds_toArray]
        try simp only [List.set_cons_zero, List.set_cons_succ]
        refine anyH_take hF (by kernel_rfl) (i := 5) (v := ?_) (d := some 17) (by kernel_rfl) rfl rfl (by kernel_rfl) (by kernel_rfl) (by kernel_rfl) (fun _ _ _ h => h) hS0 (Or.inl ⟨by rfl, fun w hSw => ?_⟩) ?_
        rotate_left
        · obtain ⟨s0, s1, s2, s3, s4, s5, s6⟩ := hSw
          go_simp
          all_goals (try (first | with_reducible rfl | omega))
        try simp only [Act.put]
        try simp only [List.setIfInBounds_toArray]
        try simp only [List.set_cons_zero, List.set_cons_succ]
        refine anyH_take hF (by kernel_rfl) (i := 6) (v := ?_) (d := some 18) (by kernel_rfl) rfl rfl (by kernel_rfl) (by kernel_rfl) (by kernel_rfl) (fun _ _ _ h => h) hS0 (Or.inl ⟨by rfl, fun w hSw => ?_⟩) ?_
        rotate_left
        · obtain ⟨s0, s1, s2, s3, s4, s5, s6⟩ := hSw
          go_simp
          all_goals (try (first | with_reducible rfl | omega))
        try simp only [Act.put]
        try simp only [List.setIfInBounds_toArray]
        try simp only [List.set_cons_zero, List.set_cons_succ]
        refine anyH_take hF (by kernel_rfl) (i := 7) (v := ?_) (d := some 19) (by kernel_rfl) rfl rfl (by kernel_rfl) (by kernel_rfl) (by kernel_rfl) (fun _ _ _ h => h) hS0 (Or.inl ⟨by rfl, fun w hSw => ?_⟩) ?_
        rotate_left
        · obtain ⟨s0, s1, s2, s3, s4, s5, s6⟩ := hSw
          go_simp
          all_goals (try (first | with_reducible rfl | omega))
        try simp only [Act.put]
        try simp only [List.setIfInBounds_toArray]
        try simp only [List.set_cons_zero, List.set_cons_succ]
        refine anyH_take hF (by kernel_rfl) (i := 8) (v := ?_) (d := some 20) (by kernel_rfl) rfl rfl (by kernel_rfl) (by kernel_rfl) (by kernel_rfl) (fun _ _ _ h => h) hS0 (Or.inl ⟨by rfl, fun w hSw => ?_⟩) ?_
        rotate_left
        · obtain ⟨s0, s1, s2, s3, s4, s5, s6⟩ := hSw
          go_simp
          all_goals (try (first | with_reducible rfl | omega))
        try simp only [Act.put]
        try simp only [List.setIfInBounds_toArray]
        try simp only [List.set_cons_zero, List.set_cons_succ]
        refine anyH_take hF (by kernel_rfl) (i := 9) (v := ?_) (d := some 21) (by kernel_rfl) rfl rfl (by kernel_rfl) (by kernel_rfl) (by kernel_rfl) (fun _ _ _ h => h) hS0 (Or.inl ⟨by rfl, fun w hSw => ?_⟩) ?_
        rotate_left
        · obtain ⟨s0, s1, s2, s3, s4, s5, s6⟩ := hSw
          go_simp
          all_goals (try (first | with_reducible rfl | omega))
        try simp only [Act.put]
        try simp only [List.setIfInBounds_toArray]
        try simp only [List.set_cons_zero, List.set_cons_succ]
        refine anyH_take hF (by kernel_rfl) (i := 10) (v := ?_) (d := some 22) (by kernel_rfl) rfl rfl (by kernel_rfl) (by kernel_rfl) (by kernel_rfl) (fun _ _ _ h => h) hS0 (Or.inl ⟨by rfl, fun w hSw => ?_⟩) ?_
        rotate_left
        · obtain ⟨s0, s1, s2, s3, s4, s5, s6⟩ := hSw
          go_simp
          all_goals (try (first | with_reducible rfl | omega))
        try simp only [Act.put]
        try simp only [List.setIfInBounds_toArray]
        try simp only [List.set_cons_zero, List.set_cons_succ]
        refine anyH_take hF (by kernel_rfl) (i := 11) (v := ?_) (d := some 23) (by kernel_rfl) rfl rfl (by kernel_rfl) (by kernel_rfl) (by kernel_rfl) (fun _ _ _ h => h) hS0 (Or.inl ⟨by rfl, fun w hSw => ?_⟩) ?_
        rotate_left
        · obtain ⟨s0, s1, s2, s3, s4, s5, s6⟩ := hSw
          go_simp
          all_goals (try (first | with_reducible rfl | omega))
        try simp only [Act.put]
        try simp only [List.setIfInBounds_toArray]
        try simp only [List.set_cons_zero, List.set_cons_succ]
        refine anyH_take hF (by kernel_rfl) (i := 12) (v := ?_) (d := some 24) (by kernel_rfl) rfl rfl (by kernel_rfl) (by kernel_rfl) (by kernel_rfl) (fun _ _ _ h => h) hS0 (Or.inl ⟨by rfl, fun w hSw => ?_⟩) ?_
        rotate_left
        · obtain ⟨s0, s1, s2, s3, s4, s5, s6⟩ := hSw
          go_simp
          all_goals (try (first | with_reducible rfl | omega))
        try simp only [Act.put]
        try simp only [List.setIfInBounds_toArray]
        try simp only [List.set_cons_zero, List.set_cons_succ]
        refine anyH_take hF (by kernel_rfl) (i := 13) (v := .bool true) (d := some 25) (by kernel_rfl) rfl rfl (by kernel_rfl) (by kernel_rfl) (by kernel_rfl) (fun _ _ _ h => h) hS0 (Or.inl ⟨by rfl, fun w hSw => ?_⟩) ?_
        · obtain ⟨s0, s1, s2, s3, s4, s5, s6⟩ := hSw
          go_simp
          all_goals (try (first | with_reducible rfl | omega))
        try simp only [Act.put]
        try simp only [List.setIfInBounds_toArray]
        try simp only [List.set_cons_zero, List.set_cons_succ]
        refine anyH_take hF (by kernel_rfl) (i := 14) (v := .bool true) (d := some 26) (by kernel_rfl) rfl rfl (by kernel_rfl) (by kernel_rfl) (by kernel_rfl) (fun _ _ _ h => h) hS0 (Or.inl ⟨by rfl, fun w hSw => ?_⟩) ?_
        · obtain ⟨s0, s1, s2, s3, s4, s5, s6⟩ := hSw
          go_simp
          all_goals (try (first | with_reducible rfl | omega))
        try simp only [Act.put]
        try simp only [List.setIfInBounds_toArray]
        try simp only [List.set_cons_zero, List.set_cons_succ]
        refine anyH_take hF (by kernel_rfl) (i := 15) (v := .bool true) (d := some 27) (by kernel_rfl) rfl rfl (by kernel_rfl) (by kernel_rfl) (by kernel_rfl) (fun _ _ _ h => h) hS0 (Or.inl ⟨by rfl, fun w hSw => ?_⟩) ?_
        · obtain ⟨s0, s1, s2, s3, s4, s5, s6⟩ := hSw
          go_simp
          all_goals (try (first | with_reducible rfl | omega))
        try simp only [Act.put]
        try simp only [List.setIfInBounds_toArray]
        try simp only [List.set_cons_zero, List.set_cons_succ]
        refine anyH_take hF (by kernel_rfl) (i := 16) (v := undef) (d := some 28) (by kernel_rfl) rfl rfl (by kernel_rfl) (by kernel_rfl) (by kernel_rfl) (fun _ _ _ h => h) hS0 (Or.inr ⟨by rfl, rfl⟩) ?_
        try simp only [Act.put]
        try simp only [List.setIfInBounds_toArray]
        try simp only [List.set_cons_zero, List.set_cons_succ]
        refine anyH_take hF (by kernel_rfl) (i := 17) (v := undef) (d := some 29) (by kernel_rfl) rfl rfl (by kernel_rfl) (by kernel_rfl) (by kernel_rfl) (fun _ _ _ h => h) hS0 (Or.inr ⟨by rfl, rfl⟩) ?_
        try simp only [Act.put]
        try simp only [List.setIfInBounds_toArray]
        try simp only [List.set_cons_zero, List.set_cons_succ]
        refine anyH_take hF (by kernel_rfl) (i := 18) (v := undef) (d := some 30) (by kernel_rfl) rfl rfl (by kernel_rfl) (by kernel_rfl) (by kernel_rfl) (fun _ _ _ h => h) hS0 (Or.inr ⟨by rfl, rfl⟩) ?_
        try simp only [Act.put]
        try simp only [List.setIfInBounds_toArray]
        try simp only [List.set_cons_zero, List.set_cons_succ]
        refine anyH_take hF (by kernel_rfl) (i := 19) (v := undef) (d := some 31) (by kernel_rfl) rfl rfl (by kernel_rfl) (by kernel_rfl) (by kernel_rfl) (fun _ _ _ h => h) hS0 (Or.inr ⟨by rfl, rfl⟩) ?_
        try simp only [Act.put]
        try simp only [List.setIfInBounds_toArray]
        try simp only [List.set_cons_zero, List.set_cons_succ]
        refine anyH_take hF (by kernel_rfl) (i := 20) (v := undef) (d := some 32) (by kernel_rfl) rfl rfl (by kernel_rfl) (by kernel_rfl) (by kernel_rfl) (fun _ _ _ h => h) hS0 (Or.inr ⟨by rfl, rfl⟩) ?_
        try simp only [Act.put]
        try simp only [List.setIfInBounds_toArray]
        try simp only [List.set_cons_zero, List.set_cons_succ]
        refine anyH_take hF (by kernel_rfl) (i := 21) (v := undef) (d := some 33) (by kernel_rfl) rfl rfl (by kernel_rfl) (by kernel_rfl) (by kernel_rfl) (fun _ _ _ h => h) hS0 (Or.inr ⟨by rfl, rfl⟩) ?_
        try simp only [Act.put]
        try simp only [List.setIfInBounds_toArray]
        try simp only [List.set_cons_zero, List.set_cons_succ]
        refine anyH_take hF (by kernel_rfl) (i := 22) (v := undef) (d := some 34) (by kernel_rfl) rfl rfl (by kernel_rfl) (by kernel_rfl) (by kernel_rfl) (fun _ _ _ h => h) hS0 (Or.inr ⟨by rfl, rfl⟩) ?_
        try simp only [Act.put]
        try simp only [List.setIfInBounds_toArray]
        try simp only [List.set_cons_zero, List.set_cons_succ]
        refine anyH_take hF (by kernel_rfl) (i := 23) (v := undef) (d := some 35) (by kernel_rfl) rfl rfl (by kernel_rfl) (by kernel_rfl) (by kernel_rfl) (fun _ _ _ h => h) hS0 (Or.inr ⟨by rfl, rfl⟩) ?_
        try simp only [Act.put]
        try simp only [List.setIfInBounds_toArray]
        try simp only [List.set_cons_zero, List.set_cons_succ]
        refine anyH_take hF (by kernel_rfl) (i := 24) (v := undef) (d := some 36) (by kernel_rfl) rfl rfl (by kernel_rfl) (by kernel_rfl) (by kernel_rfl) (fun _ _ _ h => h) hS0 (Or.inr ⟨by rfl, rfl⟩) ?_
        try simp only [Act.put]
        try simp only [List.setIfInBounds_toArray]
        try simp only [List.set_cons_zero, List.set_cons_succ]
        refine anyH_take hF (by kernel_rfl) (i := 25) (v := undef) (d := some 37) (by kernel_rfl) rfl rfl (by kernel_rfl) (by kernel_rfl) (by kernel_rfl) (fun _ _ _ h => h) hS0 (Or.inr ⟨by rfl, rfl⟩) ?_
        try simp only [Act.put]
        try simp only [List.setIfInBounds_toArray]
        try simp only [List.set_cons_zero, List.set_cons_succ]
        refine anyH_take hF (by kernel_rfl) (i := 26) (v := undef) (d := some 38) (by kernel_rfl) rfl rfl (by kernel_rfl) (by kernel_rfl) (by kernel_rfl) (fun _ _ _ h => h) hS0 (Or.inr ⟨by rfl, rfl⟩) ?_
        try simp only [Act.put]
        try simp only [List.setIfInBounds_toArray]
        try simp only [List.set_cons_zero, List.set_cons_succ]
        refine anyH_take hF (by kernel_rfl) (i := 27) (v := .bool true) (d := some 39) (by kernel_rfl) rfl rfl (by kernel_rfl) (by kernel_rfl) (by kernel_rfl) (fun _ _ _ h => h) hS0 (Or.inl ⟨by rfl, fun w hSw => ?_⟩) ?_
        · obtain ⟨s0, s1, s2, s3, s4, s5, s6⟩ := hSw
          go_simp
          all_goals (try (first | with_reducible rfl | omega))
        try simp only [Act.put]
        try simp only [List.setIfInBounds_toArray]
        try simp only [List.set_cons_zero, List.set_cons_succ]
        refine anyH_done (by kernel_rfl) ?_ _
        gi_wp2
        refine bodyPost_ret (results_none rfl _ _ _) rfl ?_
        exact ⟨⟨_, rfl⟩, .inl ⟨_, rfl, HJ2.out⟩⟩
    · have hlt : ¬ (((a + m : Nat) : Int) < (N.length : Int)) := by omega
      have HJ2 : Hid (J (tellN N a (e - a)) wr) := by
        rw [show e - a = m by have := hE.le; omega]; exact hJs
      clear hJs hY hD
      gi_wp2_with (gi_at_call 74; refine (size_in F (n - 1) hF hro _ _ _ _ hT1).mono ?_; rintro e w' ⟨rfl, hw'⟩; replace hw' := hw'.symm; subst hw')
      go_end0
      exact ⟨⟨_, rfl⟩, .inl ⟨_, rfl, HJ2.out⟩⟩
end Go.Proofs.YtfdkklhigliciaaGreatDoor
/-
  The program's below, and what a range over it comes to.
-/
namespace Go.Proofs.YtfdkklhigliciaaGreatDoor
open Go.RowKit Go.Extern.Stop Go.Stop Go.Extern Num Go.Lib Go.Shelf
attribute [local go_sem] Oper.semAt_some

theorem below_in (F : Fence) (n : Nat) (hF : ∀ f, F.fn f) (hro : F.round = none) (p : Option Addr) (a : Int) (w : World) :
    CallsIn F n Tryz.prog 111 #[.pointer p, .int .i64 a] w fun e w' => e = .returned (.func (.func 142) #[] #[.pointer (some ⟨w.heap.size + 1, 0, none⟩), .pointer (some ⟨w.heap.size, 0, none⟩)]) ∧
      w' = (w.alloc (.cells #[.pointer p] 51)).alloc (.cells #[.int .i64 a] 2) := by
  refine callsIn_of_wp Tryz.func111 rfl (hF _) ?_ hro
  simp only [Tryz.ntmps111, List.size_toArray, List.length_cons, List.length_nil, Nat.reduceAdd, Nat.reduceSub, Array.replicate_succ, Array.replicate_zero, List.push_toArray, List.append_toArray, List.nil_append, List.cons_append]
  gi_wp2
  go_ret
  exact ⟨rfl, rfl⟩
/-- What is told of a node: a place and a node with a name that is no longer than a text may be, on a place that there is. -/
def PdN (x : Int × Dat) : Prop := x.2.name.size ≤ 1048576 ∧ -1 ≤ x.2.parent ∧ x.2.parent < 1000
abbrev Told := { x : Int × Dat // PdN x }
theorem map_last {pre : List (Int × Dat)} {x : Int × Dat} {P : List Told} {y : Told} (h : P.map Subtype.val = pre) (hy : y.1 = x) : (P ++ [y]).map Subtype.val = pre ++ [x] := by rw [List.map_append, h, ← hy]; rfl
theorem told_lt {N : List Dat} {a m : Nat} {P : List Told} {x : Told} (h : (P ++ [x]).map Subtype.val <+: tellN N a m) (hm : a + m ≤ N.length) : P.length < m := by
  have h1 := h.length_le
  rw [tellN_len N a m hm] at h1
  simp at h1
  omega
theorem below_seq (F : Fence) (n : Nat) (hF : ∀ f, F.fn f) (hro : F.round = none) (hn : 2 ≤ n) (ba bt n₀ lo hi tb B : Nat) (N : List Dat) (a e : Nat) (hE : EndAt N a e) (hN : N.length ≤ 1000) (hPd : ∀ (k : Nat) (h : k < N.length), PdN ((k : Int), N[k])) (w : World) (hn₀ : n₀ ≤ w.heap.size)
    (hBa : w.cell? ⟨ba, 0, none⟩ = some (.int .i64 (a : Int))) (hBt : w.cell? ⟨bt, 0, none⟩ = some (.pointer (some ⟨tb, 0, none⟩))) (hlo : lo ≤ bt) (hhi : bt < hi) (hlo2 : lo ≤ ba) (hhi2 : ba < hi) (hhi3 : hi ≤ w.heap.size) (hT : IsTree n₀ w tb N) :
    SeqO F n Tryz.prog 142 #[.pointer (some ⟨ba, 0, none⟩), .pointer (some ⟨bt, 0, none⟩)] (fun x : Told => encN x.1) B 0 (Kpx n₀ lo hi) (fun ys => ys.map Subtype.val = tellN N a (e - a)) (fun pre => pre.map Subtype.val <+: tellN N a (e - a)) (fun pre x => (pre ++ [x]).map Subtype.val <+: tellN N a (e - a)) w := fun l J Jx W hWB hW hJ _ hY h0 => by
  refine (below1_in F n hF hro hn l ba bt n₀ lo hi tb N a e hE hN (fun pre W => ∃ P : List Told, P.map Subtype.val = pre ∧ J P W ∧ B ≤ W.heap.size) (fun pre W => ∃ P : List Told, P.map Subtype.val = pre ∧ Jx P W) PdN hPd ?_ ?_ W
    ((hW.cell (p := ⟨ba, 0, none⟩) (by show ba < _; omega)).trans hBa) ((hW.cell (p := ⟨bt, 0, none⟩) (by show bt < _; omega)).trans hBt) hlo hhi hlo2 hhi2 (hT.below (hW.mono hn₀)) ⟨[], rfl, h0, by omega⟩).mono ?_
  · rintro pre x W1 hx ⟨P, hP, hJ1, hs1⟩ hlen
    refine (hY P ⟨x, hx⟩ W1 hJ1 (by show List.map Subtype.val (P ++ [(⟨x, hx⟩ : Told)]) <+: _; rw [map_last hP rfl]; exact hlen) (by omega)).mono ?_
    rintro r W' ⟨⟨h1, h2⟩ | ⟨h1, h2⟩, h3, h4⟩
    · exact ⟨.inl ⟨h1, _, map_last hP rfl, h2, Nat.le_trans hs1 h4.size⟩, h3⟩
    · exact ⟨.inr ⟨h1, _, map_last hP rfl, h2⟩, h3⟩
  · rintro pre W1 ⟨P, hP, hJ1, hs1⟩
    exact ⟨P, hP, hJ P W1 _ none hJ1 ⟨rfl, rfl, rfl, Nat.le_refl _, fun _ _ _ => rfl⟩ (fun r e => by cases e), hs1⟩
  · rintro r W' ⟨hv, ⟨ys, rfl, P, hP, hJ1, _⟩ | ⟨pre, hpre, P, rfl, hJ1⟩⟩
    · exact ⟨hv, .inl ⟨P, hP, hJ1⟩⟩
    · exact ⟨hv, .inr ⟨P, hpre, hJ1⟩⟩
/-- The kind of the datum that begins with a token. -/
def dkD (k : Int) : Int := if k = 4 then 1 else if k = 5 then 2 else if k = 6 then 3 else 4
theorem datumKind_any (k : Int) (w : World) : Calls Tryz.prog 112 #[.int .i64 k] w fun e w' => e = .returned (.int .i64 (dkD k)) ∧ w' = w := by
  by_cases h1 : k = 4
  · subst h1
    go_enter Tryz.func112, Tryz.ntmps112
    go_wp2
    go_ret
    exact ⟨rfl, rfl⟩
  by_cases h2 : k = 5
  · subst h2
    go_enter Tryz.func112, Tryz.ntmps112
    go_wp2
    go_ret
    exact ⟨rfl, rfl⟩
  by_cases h3 : k = 6
  · subst h3
    go_enter Tryz.func112, Tryz.ntmps112
    go_wp2
    go_ret
    exact ⟨rfl, rfl⟩
  have e : dkD k = 4 := by simp [dkD, h1, h2, h3]
  rw [e]
  have b1 : (k == 4) = false := by simpa using h1
  have b2 : (k == 5) = false := by simpa using h2
  have b3 : (k == 6) = false := by simpa using h3
  go_enter Tryz.func112, Tryz.ntmps112
  go_wp2
  go_ret
  exact ⟨rfl, rfl⟩
/-- A node as a datum of what is taken out at a place. -/
def subN (a : Int) (x : Int × Dat) : Dat := ⟨dkD x.2.kind, max (x.2.parent - a) (-1), x.2.num, x.2.name⟩
abbrev subP (a : Int) (P : List Told) : List Dat := P.map fun x => subN a x.1
theorem ownFrom_block {β : Type} (B b : Nat) (o : Obj) (ho : o.isCells = true) : OwnFrom B (fun (_ : β) W => W.heap[b]? = some o) := fun _ W W' row hs hg hr => by
  refine (hg.block b (Array.getElem?_eq_some_iff.1 hs).1 (fun e => ?_)).trans hs
  obtain ⟨_, o', ho', hc⟩ := hr b e.symm
  rw [hs] at ho'; cases ho'; rw [ho] at hc; cases hc
/-- What the region of a round of dataBelow reads. -/
def SD (A Bx : Nat) (a : Int) (v : Value) (t : Dat) (w' : World) : Prop := w'.cell? ⟨A, 0, none⟩ = some (.int .i64 a) ∧ w'.cell? ⟨A + 1, 0, none⟩ = some v ∧ w'.cell? ⟨Bx, 0, none⟩ = some (.int .i64 t.parent) ∧ w'.cell? ⟨Bx, 1, none⟩ = some (.int .i64 t.kind) ∧ w'.cell? ⟨Bx, 2, none⟩ = some (.int .i64 t.num) ∧ w'.cell? ⟨Bx, 3, none⟩ = some (.string t.name)
theorem SD.keep {A Bx : Nat} {a : Int} {v : Value} {t : Dat} {w w' : World} (h : SD A Bx a v t w) (hb : Below w.heap.size w w') : SD A Bx a v t w' := by
  obtain ⟨s0, s1, s2, s3, s4, s5⟩ := h
  exact ⟨cell_keep hb s0, cell_keep hb s1, cell_keep hb s2, cell_keep hb s3, cell_keep hb s4, cell_keep hb s5⟩
theorem not_row' {W : World} {b : Nat} {cs : Array Value} {t e : TypeId} {fr : Nat × Nat} (h : W.heap[b]? = some (.cells cs t fr)) (hte : t ≠ e) {base size k : Nat} {v : Value} {xs : List Value} (hr : W.ownsRow base e size v k xs) : some b ≠ v.ownBlock := by
  rcases hr.2 with ⟨rfl, _⟩ | ⟨g, cap, cur, rfl, _, hgb, _⟩
  · simp [Value.ownBlock]
  · intro e'
    obtain rfl : b = g := by simpa [Value.ownBlock] using e'
    rw [h] at hgb
    simp at hgb
    exact hte hgb.2.1
theorem keeps_below {B : Nat} {W W' : World} (h : Below W.heap.size W W') : KeepsFrom B W W' := ⟨h.size, fun k _ _ hk _ => (h.block k (Array.getElem?_eq_some_iff.1 hk).1).trans hk⟩
/-- The temporaries of a round. -/
abbrev actD (tb A Bx : Nat) (a : Int) (x : Int × Dat) : Act := { tmps := #[.pointer (some ⟨tb, 0, none⟩), .int .i64 a, undef, .pointer (some ⟨A, 0, none⟩), .slice none 0 0, .pointer (some ⟨A + 1, 0, none⟩), undef, .pointer (some ⟨Bx, 0, none⟩), .pointer (some ⟨tb, 0, none⟩), .int .i64 a, .func (.func 142) #[] #[.pointer (some ⟨A + 1 + 1 + 1, 0, none⟩), .pointer (some ⟨A + 1 + 1, 0, none⟩)], .int .i64 x.1, .agg #[.int .i64 x.2.parent, .int .i64 x.2.kind, .int .i64 x.2.num, .string x.2.name], undef, undef, undef, undef, undef, undef, undef, undef, undef, undef, undef, undef, undef, undef, undef, undef, undef, undef, undef, undef, undef], defers := [] }
set_option maxRecDepth 100000 in
set_option maxHeartbeats 4000000 in
theorem dataBelow_in (n : Nat) (hn : 4 ≤ n) (tb : Nat) (N : List Dat) (a e : Nat) (hE : EndAt N a e) (hN : N.length ≤ 1000) (hPd : ∀ (k : Nat) (h : k < N.length), PdN ((k : Int), N[k])) (w : World) (hT : IsTree w.heap.size w tb N) :
    CallsIn Fence.wide n Tryz.prog 77 #[.pointer (some ⟨tb, 0, none⟩), .int .i64 (a : Int)] w fun r W' => ∃ v, r = .returned v ∧ W'.ownsRow w.heap.size 49 4 v ((tellN N a (e - a)).map (subN a)).length (cellsD ((tellN N a (e - a)).map (subN a))) ∧ Below w.heap.size w W' := by
  have h1 : 1 ≤ n := by omega
  have hF : ∀ f, Fence.wide.fn f := fun _ => trivial
  have hmx : Tryz.prog.follows .mixedOrders = true := by kernel_rfl
  have hel := hE.le
  have hal := hE.lt
  obtain ⟨i0, hi, hz0, hz1, hz2⟩ := info_parts infoD
  refine callsIn_of_wp_marks Tryz.func77 rfl (hF _) ?_ rfl
  simp only [Tryz.ntmps77, List.size_toArray, List.length_cons, List.length_nil, Nat.reduceAdd, Nat.reduceSub, Array.replicate_succ, Array.replicate_zero, List.push_toArray, List.append_toArray, List.nil_append, List.cons_append]
  gi_wp2_with (gi_at_call 111; refine (below_in Fence.wide (n - 1) hF rfl _ _ _).mono ?_; rintro e w' ⟨rfl, rfl⟩)
  have c0 := Boxed.new w 2 (.int .i64 (a : Int))
  have c1 := Boxed.new (w.alloc (.cells #[.int .i64 (a : Int)] 2)) 28 (.slice none 0 0)
  have c2 := Boxed.new ((w.alloc (.cells #[.int .i64 (a : Int)] 2)).alloc (.cells #[.slice none 0 0] 28)) 51 (.pointer (some ⟨tb, 0, none⟩))
  have c3 := Boxed.new (((w.alloc (.cells #[.int .i64 (a : Int)] 2)).alloc (.cells #[.slice none 0 0] 28)).alloc (.cells #[.pointer (some ⟨tb, 0, none⟩)] 51)) 2 (.int .i64 (a : Int))
  simp only [World.size_alloc] at c1 c2 c3
  have hB0 : Below w.heap.size w ((((w.alloc (.cells #[.int .i64 (a : Int)] 2)).alloc (.cells #[.slice none 0 0] 28)).alloc (.cells #[.pointer (some ⟨tb, 0, none⟩)] 51)).alloc (.cells #[.int .i64 (a : Int)] 2)) := ((((Below.refl _ w).alloc (Nat.le_refl _) _).alloc (by simp) _).alloc (by simp; omega) _).alloc (by simp; omega) _
  refine range_own rfl h1 (gf := 142) (lb := #[.pointer (some ⟨w.heap.size + 1 + 1 + 1, 0, none⟩), .pointer (some ⟨w.heap.size + 1 + 1, 0, none⟩)]) rfl (hF _) (enters_of Tryz.func142 (by kernel_rfl) rfl)
    (below_seq Fence.wide (n - 1) hF rfl (by omega) (w.heap.size + 1 + 1 + 1) (w.heap.size + 1 + 1) w.heap.size (w.heap.size + 1 + 1) (w.heap.size + 1 + 1 + 1 + 1) tb _ N a e hE hN hPd _ (by simp; omega) c3.cell (c2.alloc _).cell (Nat.le_refl _) (by omega) (by omega) (by omega) (by simp) (hT.below hB0)) kpx_t (fun W o o' h1 h2 h3 => kpx_b (w := (((((w.alloc (.cells #[.int .i64 (a : Int)] 2)).alloc (.cells #[.slice none 0 0] 28)).alloc (.cells #[.pointer (some ⟨tb, 0, none⟩)] 51)).alloc (.cells #[.int .i64 (a : Int)] 2)))) (by simp; omega) (by simp) W _ o o' (by omega) h1 h2 h3) (Below.refl _ _) (fun _ => rfl)
    (fun P W => ((∃ v, Boxed W (w.heap.size + 1) 28 v ∧ W.ownsRow w.heap.size 49 4 v (subP a P).length (cellsD (subP a P)) ∧ True) ∧ Boxed W w.heap.size 2 (.int .i64 (a : Int)) ∧ Boxed W (w.heap.size + 1 + 1 + 1) 2 (.int .i64 (a : Int)) ∧ Boxed W (w.heap.size + 1 + 1) 51 (.pointer (some ⟨tb, 0, none⟩))) ∧ Below w.heap.size w W)
    (fun _ _ _ => False)
    (OwnFrom.and (OwnFrom.and (Own.from (holdsRow_own w.heap.size (w.heap.size + 1) 28 49 4 (fun P => (subP a P).length) (fun P => cellsD (subP a P)) (fun _ _ => True)) _) (OwnFrom.and (Own.from (boxed_own _ _ _) _) (OwnFrom.and (Own.from (boxed_own _ _ _) _) (Own.from (boxed_own _ _ _) _)))) (ownFrom_below (Nat.le_refl _) (by simp; omega)))
    (fun _ _ _ _ _ hs _ _ => hs)
    ⟨⟨⟨_, (c1.alloc _).alloc _, World.ownsRow_nil _ _ _ _, trivial⟩, ((c0.alloc _).alloc _).alloc _, c3, c2.alloc _⟩, hB0⟩
    (fun x a' W => ∃ Bx, w.heap.size + 1 + 1 + 1 + 1 ≤ Bx ∧ W.heap[Bx]? = some (.cells #[.int .i64 x.1.2.parent, .int .i64 x.1.2.kind, .int .i64 x.1.2.num, .string x.1.2.name] 121 (0, 0)) ∧ a' = actD tb w.heap.size Bx (a : Int) x.1)
    (fun x a' s W W' row hs hg hr => by obtain ⟨Bx, h1, h2, h3⟩ := hs; exact ⟨Bx, h1, ownFrom_block _ Bx _ rfl s W W' row h2 hg hr, h3⟩) ?assign ?body ?done ?stop
  case assign =>
    rintro l pre ⟨⟨z, t⟩, hx⟩ W K ⟨⟨⟨v, hv, hrow, -⟩, hb, hb3, hb2⟩, hB⟩ hK
    have hsz : w.heap.size + 1 + 1 + 1 < W.heap.size := hb3.lt
    have hsz2 := hB.size
    gi_wp2
    exact hK _ _ ((KeepsOthers.alloc _ _).from _) (kpx_below ((Below.refl _ _).alloc (Nat.le_refl _) _) hsz2 (by omega)) ⟨⟨⟨v, hv.alloc _, hrow.alloc _, trivial⟩, hb.alloc _, hb3.alloc _, hb2.alloc _⟩, hB.alloc hsz2 _⟩ ⟨W.heap.size, by omega, World.alloc_heap_new _ _, rfl⟩
  case body =>
    rintro l pre ⟨⟨z, t⟩, hx⟩ a' W ⟨⟨⟨v, hv, hrow, -⟩, hb, hb3, hb2⟩, hB⟩ ⟨Bx, hBx, hn0, rfl⟩ hpx hmm
    have hlt : pre.length < e - a := told_lt hpx (by have := hE.le; have := hE.lt; omega)
    have hx' : t.name.size ≤ 1048576 ∧ -1 ≤ t.parent ∧ t.parent < 1000 := hx
    obtain ⟨D, hD⟩ : ∃ D, D = subP a pre := ⟨_, rfl⟩
    rw [← hD] at hrow
    have HD : Hid (D = subP a pre) := hD
    have hDl : D.length < 1000 := by rw [hD]; simp; omega
    clear hD
    obtain ⟨vo, vc, rfl⟩ := own_form hrow
    have hS0 : SD w.heap.size Bx (a : Int) (.slice vo D.length vc) t W.drew := ⟨hb.cell, hv.cell, (cell_of_row W Bx 0 _ _ _ hn0).trans rfl, (cell_of_row W Bx 1 _ _ _ hn0).trans rfl, (cell_of_row W Bx 2 _ _ _ hn0).trans rfl, (cell_of_row W Bx 3 _ _ _ hn0).trans rfl⟩
    have hwr : IntKind.i64.wrap (t.parent - (a : Int)) = t.parent - (a : Int) := by rw [IntKind.wrap_i64]; omega
    have hFr : ∀ f, (Fence.wide.inRound l).fn f := fun _ => trivial
    gi_wp2
    refine region_anyH (z := 20) (S := SD w.heap.size Bx (a : Int) (.slice vo D.length vc) t) hmx ?_
    refine anyH_take hFr (by kernel_rfl) (i := 0) (v := ?_) (d := some 13) (by kernel_rfl) rfl rfl (by kernel_rfl) (by kernel_rfl) (by kernel_rfl) (fun _ _ _ h => h) (by assumption) (Or.inl ⟨by rfl, fun w hSw => ?_⟩) ?_
    rotate_left
    · obtain ⟨s0, s1, s2, s3, s4, s5⟩ := hSw
      go_simp
      all_goals (try (first | with_reducible rfl | omega))
    try simp only [Act.put]
    try simp only [List.setIfInBounds_toArray]
    try simp only [List.set_cons_zero, List.set_cons_succ]
    refine anyH_take hFr (by kernel_rfl) (i := 1) (v := ?_) (d := some 14) (by kernel_rfl) rfl rfl (by kernel_rfl) (by kernel_rfl) (by kernel_rfl) (fun _ _ _ h => h) (by assumption) (Or.inl ⟨by rfl, fun w hSw => ?_⟩) ?_
    rotate_left
    · obtain ⟨s0, s1, s2, s3, s4, s5⟩ := hSw
      go_simp
      all_goals (try (first | with_reducible rfl | omega))
    try simp only [Act.put]
    try simp only [List.setIfInBounds_toArray]
    try simp only [List.set_cons_zero, List.set_cons_succ]
    refine anyH_take hFr (by kernel_rfl) (i := 2) (v := ?_) (d := some 15) (by kernel_rfl) rfl rfl (by kernel_rfl) (by kernel_rfl) (by kernel_rfl) (fun _ _ _ h => h) (by assumption) (Or.inl ⟨by rfl, fun w hSw => ?_⟩) ?_
    rotate_left
    · obtain ⟨s0, s1, s2, s3, s4, s5⟩ := hSw
      go_simp
      all_goals (try (first | with_reducible rfl | omega))
    try simp only [Act.put]
    try simp only [List.setIfInBounds_toArray]
    try simp only [List.set_cons_zero, List.set_cons_succ]
    refine anyH_take hFr (by kernel_rfl) (i := 3) (v := ?_) (d := some 16) (by kernel_rfl) rfl rfl (by kernel_rfl) (by kernel_rfl) (by kernel_rfl) (fun _ _ _ h => h) (by assumption) (Or.inl ⟨by rfl, fun w hSw => ?_⟩) ?_
    rotate_left
    · obtain ⟨s0, s1, s2, s3, s4, s5⟩ := hSw
      go_simp
      all_goals (try (first | with_reducible rfl | omega))
    try simp only [Act.put]
    try simp only [List.setIfInBounds_toArray]
    try simp only [List.set_cons_zero, List.set_cons_succ]
    refine anyH_take hFr (by kernel_rfl) (i := 5) (v := ?_) (d := some 18) (by kernel_rfl) rfl rfl (by kernel_rfl) (by kernel_rfl) (by kernel_rfl) (fun _ _ _ h => h) (by assumption) (Or.inl ⟨by rfl, fun w hSw => ?_⟩) ?_
    rotate_left
    · obtain ⟨s0, s1, s2, s3, s4, s5⟩ := hSw
      go_simp
      all_goals (try (first | with_reducible rfl | omega))
    try simp only [Act.put]
    try simp only [List.setIfInBounds_toArray]
    try simp only [List.set_cons_zero, List.set_cons_succ]
    refine anyH_take hFr (by kernel_rfl) (i := 6) (v := ?_) (d := some 19) (by kernel_rfl) rfl rfl (by kernel_rfl) (by kernel_rfl) (by kernel_rfl) (fun _ _ _ h => h) (by assumption) (Or.inl ⟨by rfl, fun w hSw => ?_⟩) ?_
    rotate_left
    · obtain ⟨s0, s1, s2, s3, s4, s5⟩ := hSw
      go_simp
      all_goals (try (first | with_reducible rfl | omega))
    try simp only [Act.put]
    try simp only [List.setIfInBounds_toArray]
    try simp only [List.set_cons_zero, List.set_cons_succ]
    refine anyH_take hFr (by kernel_rfl) (i := 7) (v := ?_) (d := some 20) (by kernel_rfl) rfl rfl (by kernel_rfl) (by kernel_rfl) (by kernel_rfl) (fun _ _ _ h => h) (by assumption) (Or.inl ⟨by rfl, fun w hSw => ?_⟩) ?_
    rotate_left
    · obtain ⟨s0, s1, s2, s3, s4, s5⟩ := hSw
      go_simp
      all_goals (try (first | with_reducible rfl | omega))
    try simp only [Act.put]
    try simp only [List.setIfInBounds_toArray]
    try simp only [List.set_cons_zero, List.set_cons_succ]
    refine anyH_take hFr (by kernel_rfl) (i := 8) (v := .int .i64 (t.parent - (a : Int))) (d := some 21) (by kernel_rfl) rfl rfl (by kernel_rfl) (by kernel_rfl) (by kernel_rfl) (fun _ _ _ h => h) (by assumption) (Or.inl ⟨by rfl, fun w hSw => ?_⟩) ?_
    · obtain ⟨s0, s1, s2, s3, s4, s5⟩ := hSw
      go_simp
      all_goals (try (first | with_reducible rfl | omega))
    try simp only [Act.put]
    try simp only [List.setIfInBounds_toArray]
    try simp only [List.set_cons_zero, List.set_cons_succ]
    refine anyH_take hFr (by kernel_rfl) (i := 9) (v := .int .i64 (max (t.parent - (a : Int)) (-1))) (d := some 22) (by kernel_rfl) rfl rfl (by kernel_rfl) (by kernel_rfl) (by kernel_rfl) (fun _ _ _ h => h) (by assumption) (Or.inl ⟨by rfl, fun w hSw => ?_⟩) ?_
    · obtain ⟨s0, s1, s2, s3, s4, s5⟩ := hSw
      go_simp
      all_goals (try (first | with_reducible rfl | omega))
    try simp only [Act.put]
    try simp only [List.setIfInBounds_toArray]
    try simp only [List.set_cons_zero, List.set_cons_succ]
    refine anyH_take hFr (by kernel_rfl) (i := 10) (v := ?_) (d := some 23) (by kernel_rfl) rfl rfl (by kernel_rfl) (by kernel_rfl) (by kernel_rfl) (fun _ _ _ h => h) (by assumption) (Or.inl ⟨by rfl, fun w hSw => ?_⟩) ?_
    rotate_left
    · obtain ⟨s0, s1, s2, s3, s4, s5⟩ := hSw
      go_simp
      all_goals (try (first | with_reducible rfl | omega))
    try simp only [Act.put]
    try simp only [List.setIfInBounds_toArray]
    try simp only [List.set_cons_zero, List.set_cons_succ]
    refine anyH_take hFr (by kernel_rfl) (i := 11) (v := ?_) (d := some 24) (by kernel_rfl) rfl rfl (by kernel_rfl) (by kernel_rfl) (by kernel_rfl) (fun _ _ _ h => h) (by assumption) (Or.inl ⟨by rfl, fun w hSw => ?_⟩) ?_
    rotate_left
    · obtain ⟨s0, s1, s2, s3, s4, s5⟩ := hSw
      go_simp
      all_goals (try (first | with_reducible rfl | omega))
    try simp only [Act.put]
    try simp only [List.setIfInBounds_toArray]
    try simp only [List.set_cons_zero, List.set_cons_succ]
    refine anyH_take hFr (by kernel_rfl) (i := 12) (v := ?_) (d := some 25) (by kernel_rfl) rfl rfl (by kernel_rfl) (by kernel_rfl) (by kernel_rfl) (fun _ _ _ h => h) (by assumption) (Or.inl ⟨by rfl, fun w hSw => ?_⟩) ?_
    rotate_left
    · obtain ⟨s0, s1, s2, s3, s4, s5⟩ := hSw
      go_simp
      all_goals (try (first | with_reducible rfl | omega))
    try simp only [Act.put]
    try simp only [List.setIfInBounds_toArray]
    try simp only [List.set_cons_zero, List.set_cons_succ]
    refine anyH_take hFr (by kernel_rfl) (i := 13) (v := ?_) (d := some 26) (by kernel_rfl) rfl rfl (by kernel_rfl) (by kernel_rfl) (by kernel_rfl) (fun _ _ _ h => h) (by assumption) (Or.inl ⟨by rfl, fun w hSw => ?_⟩) ?_
    rotate_left
    · obtain ⟨s0, s1, s2, s3, s4, s5⟩ := hSw
      go_simp
      all_goals (try (first | with_reducible rfl | omega))
    try simp only [Act.put]
    try simp only [List.setIfInBounds_toArray]
    try simp only [List.set_cons_zero, List.set_cons_succ]
    refine anyH_take hFr (by kernel_rfl) (i := 14) (v := ?_) (d := some 27) (by kernel_rfl) rfl rfl (by kernel_rfl) (by kernel_rfl) (by kernel_rfl) (fun _ _ _ h => h) (by assumption) (Or.inl ⟨by rfl, fun w hSw => ?_⟩) ?_
    rotate_left
    · obtain ⟨s0, s1, s2, s3, s4, s5⟩ := hSw
      go_simp
      all_goals (try (first | with_reducible rfl | omega))
    try simp only [Act.put]
    try simp only [List.setIfInBounds_toArray]
    try simp only [List.set_cons_zero, List.set_cons_succ]
    refine anyH_take hFr (by kernel_rfl) (i := 15) (v := ?_) (d := some 28) (by kernel_rfl) rfl rfl (by kernel_rfl) (by kernel_rfl) (by kernel_rfl) (fun _ _ _ h => h) (by assumption) (Or.inl ⟨by rfl, fun w hSw => ?_⟩) ?_
    rotate_left
    · obtain ⟨s0, s1, s2, s3, s4, s5⟩ := hSw
      go_simp
      all_goals (try (first | with_reducible rfl | omega))
    try simp only [Act.put]
    try simp only [List.setIfInBounds_toArray]
    try simp only [List.set_cons_zero, List.set_cons_succ]
    refine anyH_one (i := 4) (by kernel_rfl) (op_plain rfl (by rfl) (by simp) ?_)
    go_simp
    refine (datumKind_any _ _).mono ?_
    rintro r w' ⟨rfl, hw'⟩
    replace hw' := hw'.symm
    subst hw'
    refine ⟨(by first | exact hS0 | exact fun _ => hS0), ?_⟩
    try simp only [Act.put]
    try simp only [List.setIfInBounds_toArray]
    try simp only [List.set_cons_zero, List.set_cons_succ]
    refine anyH_one (i := 16) (by kernel_rfl) (op_plain rfl (by rfl) (by simp) ?_)
    go_simp
    refine (clone_any _ _ (by omega)).mono ?_
    rintro r W2 ⟨rfl, b2⟩
    have hS2 := hS0.keep b2
    refine ⟨(by first | exact hS2 | exact fun _ => hS2), ?_⟩
    clear hS0
    try simp only [Act.put]
    try simp only [List.setIfInBounds_toArray]
    try simp only [List.set_cons_zero, List.set_cons_succ]
    refine anyH_take hFr (by kernel_rfl) (i := 17) (v := .agg #[.int .i64 (dkD t.kind), .int .i64 (max (t.parent - (a : Int)) (-1)), .int .i64 t.num, .string t.name]) (d := some 30) (by kernel_rfl) rfl rfl (by kernel_rfl) (by kernel_rfl) (by kernel_rfl) (fun _ _ _ h => h) (by assumption) (Or.inl ⟨by rfl, fun w hSw => ?_⟩) ?_
    · obtain ⟨s0, s1, s2, s3, s4, s5⟩ := hSw
      go_simp
      all_goals (try (first | with_reducible rfl | omega))
    try simp only [Act.put]
    try simp only [List.setIfInBounds_toArray]
    try simp only [List.set_cons_zero, List.set_cons_succ]
    refine anyH_one (i := 18) (by kernel_rfl) (op_plain rfl (by rfl) (by simp) ?_)
    go_simp
    have hS3 := hS2.keep ((Below.refl _ _).alloc (Nat.le_refl _) (.cells #[.int .i64 (dkD t.kind), .int .i64 (max (t.parent - (a : Int)) (-1)), .int .i64 t.num, .string t.name] 49))
    refine ⟨(by first | exact hS3 | exact fun _ => hS3), ?_⟩
    clear hS2
    try simp only [Act.put]
    try simp only [List.setIfInBounds_toArray]
    try simp only [List.set_cons_zero, List.set_cons_succ]
    have ho3 : (W2.alloc (.cells #[.int .i64 (dkD t.kind), .int .i64 (max (t.parent - (a : Int)) (-1)), .int .i64 t.num, .string t.name] 49)).ownsRow w.heap.size 49 4 (.slice vo D.length vc) D.length (cellsD D) := (own_below (hrow.drew) b2).alloc _
    have hsz1 := hB.size
    have hsz2 := b2.size
    simp only [World.size_drew] at hsz2
    refine anyH_one (i := 19) (by kernel_rfl) (op_plain rfl (by rfl) (by simp) (wp_append_lies _ _ _ 28 rfl w.heap.size 49 i0 _ 4 40 Tryz.underlying28 hi hz0 hz1 hz2 rfl (by decide) (.slice vo D.length vc) D.length (cellsD D) rfl ho3
      ⟨W2.heap.size, 0, none⟩ 1 1 [.int .i64 (dkD t.kind), .int .i64 (max (t.parent - (a : Int)) (-1)), .int .i64 t.num, .string t.name] rfl rfl (World.news_of_block (cs := #[.int .i64 (dkD t.kind), .int .i64 (max (t.parent - (a : Int)) (-1)), .int .i64 t.num, .string t.name]) (t := 49) (fr := (0, 0)) (heap_new' _ _ _ (by simp))) (by simp [Value.oneCell'])
      (by decide) (by unfold maxLen; omega) (by omega) (by simp; omega) _ rfl ?_))
    intro g' cap' w1 hown1 hgrow hat hlt'
    have nA := hb.not_row (e := 49) (by decide) hrow
    have nA1 := hv.not_row (e := 49) (by decide) hrow
    have nA2 := hb2.not_row (e := 49) (by decide) hrow
    have nA3 := hb3.not_row (e := 49) (by decide) hrow
    have nB := not_row' (e := 49) hn0 (by decide) hrow
    have carry : ∀ (b : Nat) (o : Obj), W.heap[b]? = some o → some b ≠ (Value.slice vo D.length vc).ownBlock → w1.heap[b]? = some o := fun b o h hne => by
      have hlt : b < W.heap.size := (Array.getElem?_eq_some_iff.1 h).1
      exact (hgrow.block b (by simp; omega) hne).trans ((Below.heap_alloc W2 _ b (by omega)).trans ((b2.block b hlt).trans h))
    have hS4 : SD w.heap.size Bx (a : Int) (.slice vo D.length vc) t w1 := by
      obtain ⟨s0, s1, s2, s3, s4, s5⟩ := hS3
      exact ⟨hgrow.cell s0 nA, hgrow.cell s1 nA1, hgrow.cell s2 nB, hgrow.cell s3 nB, hgrow.cell s4 nB, hgrow.cell s5 nB⟩
    refine ⟨fun _ => hS4, ?_⟩
    have v1 : Boxed w1 (w.heap.size + 1) 28 (.slice vo D.length vc) := carry _ _ hv nA1
    have q0 : Boxed w1 w.heap.size 2 (.int .i64 (a : Int)) := carry _ _ hb nA
    have q2 : Boxed w1 (w.heap.size + 1 + 1) 51 (.pointer (some ⟨tb, 0, none⟩)) := carry _ _ hb2 nA2
    have q3 : Boxed w1 (w.heap.size + 1 + 1 + 1) 2 (.int .i64 (a : Int)) := carry _ _ hb3 nA3
    have hsr : w.heap.size + 1 < W.heap.size := hv.lt
    have hg' : g' ≠ w.heap.size + 1 := by
      rcases hat with h | h
      · intro e'; apply nA1; rw [h, e']
      · simp at h; omega
    have bf : Below w.heap.size W (w1.setCell ⟨w.heap.size + 1, 0, none⟩ (.slice (some ⟨g', 0, none⟩) (D.length + 1) cap')) :=
      ((((Below.refl _ W).drew.trans (b2.mono (by simp; omega))).alloc (by omega) _).grown hgrow (by simp; omega) (fun k e => (hrow.lt k e).1)).setCell (p := ⟨w.heap.size + 1, 0, none⟩) (by simp) _
    have kf : ∀ B, KeepsFrom B W (w1.setCell ⟨w.heap.size + 1, 0, none⟩ (.slice (some ⟨g', 0, none⟩) (D.length + 1) cap')) := fun B => ⟨bf.size, fun k o _ hk ho => by
      refine (KeepsOthers.setCell w1 _ _).same k o (carry k o hk ?_) ho
      rcases hrow.2 with ⟨e0, _⟩ | ⟨gg, cc, cur, e0, _, hgb, _⟩
      · rw [e0]; simp [Value.ownBlock]
      · rw [e0]
        intro e'
        obtain rfl : k = gg := by simpa [Value.ownBlock] using e'
        rw [hk] at hgb; cases hgb; cases ho⟩
    have kp : Kpx w.heap.size (w.heap.size + 1 + 1) (w.heap.size + 1 + 1 + 1 + 1) W (w1.setCell ⟨w.heap.size + 1, 0, none⟩ (.slice (some ⟨g', 0, none⟩) (D.length + 1) cap')) := ⟨bf, fun b l1 l2 => by
      refine (Below.heap_setCell w1 ⟨w.heap.size + 1, 0, none⟩ _ b (by intro e'; have : b = w.heap.size + 1 := e'; omega)).trans ?_
      rcases (by omega : b = w.heap.size + 1 + 1 ∨ b = w.heap.size + 1 + 1 + 1) with rfl | rfl
      · exact (show w1.heap[_]? = _ from q2).trans (show W.heap[_]? = _ from hb2).symm
      · exact (show w1.heap[_]? = _ from q3).trans (show W.heap[_]? = _ from hb3).symm⟩
    have e2 : subP a (pre ++ [⟨(z, t), hx⟩]) = D ++ [subN a (z, t)] := by rw [HD.out]; simp
    have of : (w1.setCell ⟨w.heap.size + 1, 0, none⟩ (.slice (some ⟨g', 0, none⟩) (D.length + 1) cap')).ownsRow w.heap.size 49 4 (.slice (some ⟨g', 0, none⟩) (D.length + 1) cap') (subP a (pre ++ [⟨(z, t), hx⟩])).length (cellsD (subP a (pre ++ [⟨(z, t), hx⟩]))) := by
      rw [e2, cellsD_append, List.length_append]
      exact own_set hown1 hg' _
    have HI : Hid (KeepsFrom _ W _ ∧ Kpx _ _ _ W _ ∧ (((∃ v, Boxed (w1.setCell ⟨w.heap.size + 1, 0, none⟩ (.slice (some ⟨g', 0, none⟩) (D.length + 1) cap')) (w.heap.size + 1) 28 v ∧ (w1.setCell ⟨w.heap.size + 1, 0, none⟩ (.slice (some ⟨g', 0, none⟩) (D.length + 1) cap')).ownsRow w.heap.size 49 4 v (subP a (pre ++ [⟨(z, t), hx⟩])).length (cellsD (subP a (pre ++ [⟨(z, t), hx⟩]))) ∧ True) ∧ _ ∧ _ ∧ _) ∧ Below w.heap.size w _)) :=
      ⟨kf (((((w.alloc (.cells #[.int .i64 (a : Int)] 2)).alloc (.cells #[.slice none 0 0] 28)).alloc (.cells #[.pointer (some ⟨tb, 0, none⟩)] 51)).alloc (.cells #[.int .i64 (a : Int)] 2)).heap.size), kp, ⟨⟨_, v1.set _, of, trivial⟩, q0.other (B' := w.heap.size + 1) (by omega) (.slice (some ⟨g', 0, none⟩) (D.length + 1) cap'), q3.other (B' := w.heap.size + 1) (by omega) (.slice (some ⟨g', 0, none⟩) (D.length + 1) cap'), q2.other (B' := w.heap.size + 1) (by omega) (.slice (some ⟨g', 0, none⟩) (D.length + 1) cap')⟩, hB.trans bf⟩
    have hc1 := v1.cell
    have hf1 := v1.frozen
    clear hS3 carry hgrow hown1 hat v1 q0 q2 q3 bf kf kp of e2 nA nA1 nA2 nA3 nB b2 ho3
    try simp only [Act.put]
    try simp only [List.setIfInBounds_toArray]
    try simp only [List.set_cons_zero, List.set_cons_succ]
    refine anyH_one (i := 20) (by kernel_rfl) (op_plain rfl (by rfl) (by simp) ?_)
    go_simp
    refine anyH_done (by kernel_rfl) ?_ _
    exact HI.out
  case done =>
    rintro D P W hD hP ⟨⟨⟨v, hv, hrow, -⟩, hb, hb3, hb2⟩, hB⟩ hK
    have hc := hv.cell
    gi_wp2
    refine ⟨by simp, .inl ⟨_, _, rfl, run_takeDeferred hK, ?_⟩⟩
    have e1 : (tellN N a (e - a)).map (subN a) = subP a P := by rw [← hP, List.map_map]; rfl
    rw [e1]
    exact ⟨_, results_tmp rfl _ _ _, v, rfl, ownsRow_putObj hrow _ hK rfl, hB.trans (belowK_b (w := w) (Nat.le_refl _) W D _ _ (by simp at hD; omega) hK rfl rfl)⟩
  case stop =>
    rintro D c pre W _ _ h _
    exact h.elim
end Go.Proofs.YtfdkklhigliciaaGreatDoor
/-
  The program's iterator kids, which ranges over below: the places of the parts of a place; nothing that was there is turned.
-/
namespace Go.Proofs.YtfdkklhigliciaaGreatDoor
open Go.RowKit Go.Extern.Stop Go.Stop Go.Extern Num Go.Lib Go.Shelf
attribute [local go_sem] Oper.semAt_some

/-- The places of what is told that hang on a place itself. -/
def kidsT (a : Int) (P : List (Int × Dat)) : List Int := (P.filter fun x => x.2.parent == a).map (·.1)
theorem kidsT_hit (a : Int) (P : List (Int × Dat)) (x : Int × Dat) (h : (x.2.parent == a) = true) : kidsT a (P ++ [x]) = kidsT a P ++ [x.1] := by simp [kidsT, h]
theorem kidsT_miss (a : Int) (P : List (Int × Dat)) (x : Int × Dat) (h : (x.2.parent == a) = false) : kidsT a (P ++ [x]) = kidsT a P := by simp [kidsT, h]
theorem kidsT_len (a : Int) (P : List (Int × Dat)) : (kidsT a P).length ≤ P.length := by
  unfold kidsT; rw [List.length_map]; exact List.length_filter_le _ _
theorem kidsT_pre {a : Int} {P R : List (Int × Dat)} (h : P <+: R) : kidsT a P <+: kidsT a R := by
  obtain ⟨t, rfl⟩ := h
  unfold kidsT
  rw [List.filter_append, List.map_append]
  exact List.prefix_append _ _
/-- What a round of kids keeps: as Kpx, and the m blocks from B on. -/
def Kpk (n₀ lo hi B m : Nat) (W W' : World) : Prop := Kpx n₀ lo hi W W' ∧ ∀ b, B ≤ b → b < B + m → W'.heap[b]? = W.heap[b]?
theorem OwnFrom.mono' {β : Type} {B B' : Nat} {J : β → World → Prop} (h : OwnFrom B J) (hB : B ≤ B') : OwnFrom B' J := fun s W W' row hs hg hr => h s W W' row hs hg (fun r e => ⟨Nat.le_trans hB (hr r e).1, (hr r e).2⟩)
theorem kids_in (F : Fence) (n : Nat) (hF : ∀ f, F.fn f) (hro : F.round = none) (p : Option Addr) (a : Int) (w : World) :
    CallsIn F n Tryz.prog 141 #[.pointer p, .int .i64 a] w fun e w' => e = .returned (.func (.func 173) #[] #[.pointer (some ⟨w.heap.size, 0, none⟩), .pointer (some ⟨w.heap.size + 1, 0, none⟩)]) ∧
      w' = (w.alloc (.cells #[.pointer p] 51)).alloc (.cells #[.int .i64 a] 2) := by
  refine callsIn_of_wp Tryz.func141 rfl (hF _) ?_ hro
  simp only [Tryz.ntmps141, List.size_toArray, List.length_cons, List.length_nil, Nat.reduceAdd, Nat.reduceSub, Array.replicate_succ, Array.replicate_zero, List.push_toArray, List.append_toArray, List.nil_append, List.cons_append]
  gi_wp2
  go_ret
  exact ⟨rfl, rfl⟩
theorem roundIn_any {P : Program} {n m l l' : Nat} {f : FuncId} {tmps : Array Value} {assign body : Code} {w : World} {R : Ending → World → Prop} (h : RoundIn Fence.wide n P l f tmps assign body w R) : RoundIn (Fence.wide.inRound l') m P l f tmps assign body w R :=
  ⟨trivial, fun c cs _ => h.2 c cs (room_wide _)⟩
/-- The temporaries of a round of kids. -/
abbrev actK (bt ba A tb Bx l : Nat) (a : Int) (x : Int × Dat) : Act := { tmps := #[.func (.yield l) #[] #[], .pointer (some ⟨bt, 0, none⟩), .pointer (some ⟨ba, 0, none⟩), .pointer (some ⟨A, 0, none⟩), .int .i64 x.1, .pointer (some ⟨Bx, 0, none⟩), .pointer (some ⟨tb, 0, none⟩), .int .i64 a, .func (.func 142) #[] #[.pointer (some ⟨A + 1 + 1, 0, none⟩), .pointer (some ⟨A + 1, 0, none⟩)], .int .i64 x.1, .agg #[.int .i64 x.2.parent, .int .i64 x.2.kind, .int .i64 x.2.num, .string x.2.name], undef, undef, undef, undef, undef, undef, undef, undef, undef, undef], defers := [] }
set_option maxRecDepth 100000 in
set_option maxHeartbeats 4000000 in
theorem kids_seq (n : Nat) (hn : 5 ≤ n) (ba bt n₀ lo hi tb B : Nat) (N : List Dat) (a e : Nat) (hE : EndAt N a e) (hN : N.length ≤ 1000) (hPd : ∀ (k : Nat) (h : k < N.length), PdN ((k : Int), N[k])) (w : World) (hn₀ : n₀ ≤ w.heap.size)
    (hBa : w.cell? ⟨ba, 0, none⟩ = some (.int .i64 (a : Int))) (hBt : w.cell? ⟨bt, 0, none⟩ = some (.pointer (some ⟨tb, 0, none⟩))) (hhi : bt < hi) (hlo2 : lo ≤ ba) (hhi2 : ba < hi) (hhi3 : hi ≤ w.heap.size) (hT : IsTree n₀ w tb N) :
    SeqO Fence.wide n Tryz.prog 173 #[.pointer (some ⟨bt, 0, none⟩), .pointer (some ⟨ba, 0, none⟩)] (fun x : Int => #[Value.int .i64 x]) B 5 (Kpk n₀ lo hi B 5) (fun ys => ys = kidsT a (tellN N a (e - a))) (fun pre => pre <+: kidsT a (tellN N a (e - a))) (fun pre x => pre ++ [x] <+: kidsT a (tellN N a (e - a))) w := fun l J Jx W hWB hW hJ hJx hY h0 => by
  have h1 : 1 ≤ n := by omega
  have hF : ∀ f, Fence.wide.fn f := fun _ => trivial
  subst hWB
  have hws := hW.size
  have hlb : bt < W.heap.size := by omega
  have hla : ba < W.heap.size := by omega
  have ca : W.cell? ⟨ba, 0, none⟩ = some (.int .i64 (a : Int)) := (hW.cell (p := ⟨ba, 0, none⟩) (by show ba < _; omega)).trans hBa
  have ct : W.cell? ⟨bt, 0, none⟩ = some (.pointer (some ⟨tb, 0, none⟩)) := (hW.cell (p := ⟨bt, 0, none⟩) (by show bt < _; omega)).trans hBt
  have hTW := hT.below (hW.mono hn₀)
  show CallsIn Fence.wide n Tryz.prog _ #[.func (.yield l) #[] #[], .pointer (some ⟨bt, 0, none⟩), .pointer (some ⟨ba, 0, none⟩)] W _
  refine callsIn_of_wp_marks Tryz.func173 rfl (hF _) ?_ rfl
  simp only [Tryz.ntmps173, List.size_toArray, List.length_cons, List.length_nil, Nat.reduceAdd, Nat.reduceSub, Array.replicate_succ, Array.replicate_zero, List.push_toArray, List.append_toArray, List.nil_append, List.cons_append]
  gi_wp2_with (gi_at_call 111; refine (below_in Fence.wide (n - 1) hF rfl _ _ _).mono ?_; rintro e w' ⟨rfl, rfl⟩)
  have c0 := Boxed.new W 71 (.func (.yield l) #[] #[])
  have c1 := Boxed.new (W.alloc (.cells #[.func (.yield l) #[] #[]] 71)) 51 (.pointer (some ⟨tb, 0, none⟩))
  have c2 := Boxed.new ((W.alloc (.cells #[.func (.yield l) #[] #[]] 71)).alloc (.cells #[.pointer (some ⟨tb, 0, none⟩)] 51)) 2 (.int .i64 (a : Int))
  simp only [World.size_alloc] at c1 c2
  have hB0 : Below W.heap.size W (((W.alloc (.cells #[.func (.yield l) #[] #[]] 71)).alloc (.cells #[.pointer (some ⟨tb, 0, none⟩)] 51)).alloc (.cells #[.int .i64 (a : Int)] 2)) := (((Below.refl _ W).alloc (Nat.le_refl _) _).alloc (by simp) _).alloc (by simp; omega) _
  have hsz3 : (((W.alloc (.cells #[.func (.yield l) #[] #[]] 71)).alloc (.cells #[.pointer (some ⟨tb, 0, none⟩)] 51)).alloc (.cells #[.int .i64 (a : Int)] 2)).heap.size = W.heap.size + 3 := by simp
  refine range_own rfl h1 (gf := 142) (lb := #[.pointer (some ⟨W.heap.size + 1 + 1, 0, none⟩), .pointer (some ⟨W.heap.size + 1, 0, none⟩)]) rfl (hF _) (enters_of Tryz.func142 (by kernel_rfl) rfl)
    (below_seq Fence.wide (n - 1) hF rfl (by omega) (W.heap.size + 1 + 1) (W.heap.size + 1) n₀ (W.heap.size + 1) (W.heap.size + 1 + 1 + 1) tb _ N a e hE hN hPd _ (by simp; omega) c2.cell (c1.alloc _).cell (Nat.le_refl _) (by omega) (by omega) (by omega) (by simp) (hTW.below (hB0.mono (by omega)))) kpx_t
    (fun X o o' g1 g2 g3 => kpx_b (w := (((W.alloc (.cells #[.func (.yield l) #[] #[]] 71)).alloc (.cells #[.pointer (some ⟨tb, 0, none⟩)] 51)).alloc (.cells #[.int .i64 (a : Int)] 2))) (by simp; omega) (by simp) X _ o o' (by omega) g1 g2 g3) (Below.refl _ _) (fun _ => rfl)
    (fun P X => J (kidsT a (P.map Subtype.val)) X ∧ X.cell? ⟨ba, 0, none⟩ = some (.int .i64 (a : Int)) ∧ Boxed X W.heap.size 71 (.func (.yield l) #[] #[]) ∧ Boxed X (W.heap.size + 1 + 1) 2 (.int .i64 (a : Int)))
    (fun c P X => c = .ret ∧ Jx (kidsT a (P.map Subtype.val)) X)
    (OwnFrom.and (fun s A B row hs hg hr => OwnFrom.mono' hJ (by simp; omega) _ A B row hs hg hr) (OwnFrom.and (Own.from (fun s A B row hs hg hr => cell_kept hs hg hr) _) (OwnFrom.and (Own.from (boxed_own _ _ _) _) (Own.from (boxed_own _ _ _) _))))
    (fun c s A B row hs hg hr => ⟨hs.1, OwnFrom.mono' hJx (by simp; omega) _ A B row hs.2 hg hr⟩)
    ⟨hJ.alloc _ (hJ.alloc _ (hJ.alloc _ h0)), cell_laid _ (cell_laid _ (cell_laid _ ca)), (c0.alloc _).alloc _, c2⟩
    (fun x a' X => ∃ Bx, X.heap[Bx]? = some (.cells #[.int .i64 x.1.2.parent, .int .i64 x.1.2.kind, .int .i64 x.1.2.num, .string x.1.2.name] 121 (0, 0)) ∧ a' = actK bt ba W.heap.size tb Bx l (a : Int) x.1)
    (fun x a' s X X' row hs hg hr => by obtain ⟨Bx, h2, h3⟩ := hs; exact ⟨Bx, ownFrom_block _ Bx _ rfl s X X' row h2 hg hr, h3⟩) ?assign ?body ?done ?stop
  case assign =>
    rintro l' pre ⟨⟨z, t⟩, hx⟩ X K ⟨hJ1, hca, hb, hb2⟩ hK
    have hlt := hb2.lt
    gi_wp2
    exact hK _ _ ((KeepsOthers.alloc _ _).from _) (kpx_below ((Below.refl _ _).alloc (Nat.le_refl _) _) (by omega) (by omega)) ⟨hJ.alloc _ hJ1, cell_laid _ hca, hb.alloc _, hb2.alloc _⟩ ⟨X.heap.size, World.alloc_heap_new _ _, rfl⟩
  case body =>
    rintro l' pre ⟨⟨z, t⟩, hx⟩ a' X ⟨hJ1, hca, hb, hb2⟩ ⟨Bx, hn0, rfl⟩ hpx hmm
    have hmm' : W.heap.size + 5 ≤ X.heap.size := by simp at hmm; omega
    have d0 : X.cell? ⟨Bx, 0, none⟩ = some (.int .i64 t.parent) := (cell_of_row X Bx 0 _ _ _ hn0).trans rfl
    have hcy := hb.cell
    have h3 : 1 ≤ n - 1 - 1 := by omega
    have em : (pre ++ [(⟨(z, t), hx⟩ : Told)]).map Subtype.val = pre.map Subtype.val ++ [(z, t)] := by simp
    cases hpa : (t.parent == (a : Int)) with
    | true =>
      have ek : kidsT a ((pre ++ [(⟨(z, t), hx⟩ : Told)]).map Subtype.val) = kidsT a (pre.map Subtype.val) ++ [z] := by rw [em, kidsT_hit _ _ _ hpa]
      have hlen : kidsT a (pre.map Subtype.val) ++ [z] <+: kidsT a (tellN N a (e - a)) := by rw [← ek]; exact kidsT_pre hpx
      obtain ⟨fn, tmps, assign, body, hy, hR⟩ := hY _ z X hJ1 hlen hmm'
      have hR' := (roundIn_any (m := n - 1 - 1 - 1) (l' := l') hR).mono (R' := fun r X' => ∃ b, r = .returned (.bool b) ∧ (((b = true ∧ J (kidsT a (pre.map Subtype.val) ++ [z]) X') ∨ (b = false ∧ Jx (kidsT a (pre.map Subtype.val) ++ [z]) X')) ∧ Kpk n₀ lo hi W.heap.size 5 X X' ∧ KeepsFrom W.heap.size X X'))
        (fun r X' h => by
          obtain ⟨⟨g1, g2⟩ | ⟨g1, g2⟩, g3, g4⟩ := h
          · exact ⟨true, g1, .inl ⟨rfl, g2⟩, g3, g4⟩
          · exact ⟨false, g1, .inr ⟨rfl, g2⟩, g3, g4⟩)
      have HE : Hid (kidsT a ((pre ++ [(⟨(z, t), hx⟩ : Told)]).map Subtype.val) = kidsT a (pre.map Subtype.val) ++ [z]) := ek
      clear hR ek em hY
      gi_wp2_with (refine hR'.mono ?_; rintro r X' ⟨b, rfl, hpost, hk, hf⟩; cases b)
      · have hJx1 := hpost.elim (fun h => absurd h.1 (by simp)) (fun h => h.2)
        exact ⟨keepsFrom_mono hf (by simp; omega), ⟨hk.1.1, fun b l1 l2 => hk.2 b (by omega) (by omega)⟩, rfl, by rw [HE.out]; exact hJx1⟩
      · have hJ3 := hpost.elim (fun h => h.2) (fun h => absurd h.1 (by simp))
        exact ⟨keepsFrom_mono hf (by simp; omega), ⟨hk.1.1, fun b l1 l2 => hk.2 b (by omega) (by omega)⟩, by rw [HE.out]; exact hJ3, (hk.1.cell hlo2 hhi2).trans hca, (hk.2 _ (Nat.le_refl _) (by omega)).trans hb, (hk.2 _ (by omega) (by omega)).trans hb2⟩
    | false =>
      have ek : kidsT a ((pre ++ [(⟨(z, t), hx⟩ : Told)]).map Subtype.val) = kidsT a (pre.map Subtype.val) := by rw [em, kidsT_miss _ _ _ hpa]
      have HE : Hid (kidsT a ((pre ++ [(⟨(z, t), hx⟩ : Told)]).map Subtype.val) = kidsT a (pre.map Subtype.val)) := ek
      clear ek em hY
      gi_wp2
      exact ⟨KeepsFrom.refl _ _, kpx_refl _ _ _ _, by rw [HE.out]; exact hJ1, hca, hb, hb2⟩
  case done =>
    rintro D P X hD hP ⟨hJ1, -⟩ hK
    gi_wp2
    refine ⟨by simp, .inl ⟨_, _, rfl, run_takeDeferred hK, ?_⟩⟩
    refine ⟨_, results_none rfl _ _ _, ⟨_, rfl⟩, .inl ⟨_, rfl, ?_⟩⟩
    rw [← hP]
    exact hJ.putObj _ hJ1 (by simp at hD; omega) hK rfl
  case stop =>
    rintro D c P X hD hP ⟨rfl, hJ1⟩ hK
    gi_wp2
    refine ⟨by simp, .inl ⟨_, _, rfl, run_takeDeferred hK, ?_⟩⟩
    exact ⟨_, results_none rfl _ _ _, ⟨_, rfl⟩, .inr ⟨_, kidsT_pre hP, hJx.putObj _ hJ1 (by simp at hD; omega) hK rfl⟩⟩
end Go.Proofs.YtfdkklhigliciaaGreatDoor
namespace Go.Proofs.YtfdkklhigliciaaGreatDoor
open Go.RowKit Go.Extern.Stop Go.Stop Go.Extern Num Go.Lib Go.Shelf
attribute [local go_sem] Oper.semAt_some

abbrev actA (A bt ba : Nat) (x : Int) : Act := { tmps := #[.slice none 0 0, .func (.func 173) #[] #[.pointer (some ⟨bt, 0, none⟩), .pointer (some ⟨ba, 0, none⟩)], .pointer (some ⟨A, 0, none⟩), undef, .slice none 0 0, .int .i64 x, .func (.func 173) #[] #[.pointer (some ⟨bt, 0, none⟩), .pointer (some ⟨ba, 0, none⟩)], .int .i64 x, undef, undef, undef, undef, undef], defers := [] }
set_option maxRecDepth 100000 in
set_option maxHeartbeats 4000000 in
theorem appSeq_in (n : Nat) (hn : 8 ≤ n) (ba bt lo hi tb : Nat) (N : List Dat) (a e : Nat) (hE : EndAt N a e) (hN : N.length ≤ 1000) (hPd : ∀ (k : Nat) (h : k < N.length), PdN ((k : Int), N[k])) (w : World)
    (hBa : w.cell? ⟨ba, 0, none⟩ = some (.int .i64 (a : Int))) (hBt : w.cell? ⟨bt, 0, none⟩ = some (.pointer (some ⟨tb, 0, none⟩))) (hhi : bt < hi) (hlo2 : lo ≤ ba) (hhi2 : ba < hi) (hhi3 : hi ≤ w.heap.size) (hT : IsTree w.heap.size w tb N) :
    CallsIn Fence.wide n Tryz.prog 172 #[.slice none 0 0, .func (.func 173) #[] #[.pointer (some ⟨bt, 0, none⟩), .pointer (some ⟨ba, 0, none⟩)]] w fun r W' =>
      ∃ v, r = .returned v ∧ W'.ownsRow w.heap.size 2 1 v (kidsT a (tellN N a (e - a))).length (cellsI (kidsT a (tellN N a (e - a)))) ∧ Below w.heap.size w W' := by
  have h1 : 1 ≤ n := by omega
  have hF : ∀ f, Fence.wide.fn f := fun _ => trivial
  have hel := hE.le
  obtain ⟨i0, hi0, hz0, hz1, hz2⟩ := info_parts infoI
  refine callsIn_of_wp_marks Tryz.func172 rfl (hF _) ?_ rfl
  simp only [Tryz.ntmps172, List.size_toArray, List.length_cons, List.length_nil, Nat.reduceAdd, Nat.reduceSub, Array.replicate_succ, Array.replicate_zero, List.push_toArray, List.append_toArray, List.nil_append, List.cons_append]
  gi_wp2
  have c0 := Boxed.new w 81 (.slice none 0 0)
  have hB0 : Below w.heap.size w (w.alloc (.cells #[.slice none 0 0] 81)) := (Below.refl _ w).alloc (Nat.le_refl _) _
  refine range_own rfl h1 (gf := 173) (lb := #[.pointer (some ⟨bt, 0, none⟩), .pointer (some ⟨ba, 0, none⟩)]) rfl (hF _) (enters_of Tryz.func173 (by kernel_rfl) rfl)
    (kids_seq (n - 1) (by omega) ba bt w.heap.size lo hi tb _ N a e hE hN hPd _ (by simp) (cell_laid _ hBa) (cell_laid _ hBt) hhi hlo2 hhi2 (by simp; omega) (hT.below hB0))
    (fun h k => ⟨kpx_t h.1 k.1, fun b l1 l2 => (k.2 b l1 l2).trans (h.2 b l1 l2)⟩)
    (fun X o o' g1 g2 g3 => ⟨kpx_b (w := w) (Nat.le_refl _) hhi3 X _ o o' (by simp; omega) g1 g2 g3, fun b l1 l2 => World.putObj_heap_other (by simp at l1 ⊢; omega)⟩) (Below.refl _ _) (fun _ => rfl)
    (fun P X => (∃ v, Boxed X w.heap.size 81 v ∧ X.ownsRow w.heap.size 2 1 v P.length (cellsI P) ∧ (∀ g, v.ownBlock = some g → w.heap.size + 8 ≤ g)) ∧ Below w.heap.size w X)
    (fun _ _ _ => False)
    (OwnFrom.and (Own.from (holdsRow_own w.heap.size w.heap.size 81 2 1 (fun P : List Int => P.length) (fun P => cellsI P) (fun _ v => ∀ g, v.ownBlock = some g → w.heap.size + 8 ≤ g)) _) (ownFrom_below (Nat.le_refl _) (by simp)))
    (fun _ _ _ _ _ hs _ _ => hs)
    ⟨⟨_, c0, World.ownsRow_nil _ _ _ _, fun g h => by simp [Value.ownBlock] at h⟩, hB0⟩
    (fun x a' _ => a' = actA w.heap.size bt ba x) (fun x a' s X X' row hs _ _ => hs) ?assign ?body ?done ?stop
  case assign =>
    rintro l pre x W K hI hK
    gi_wp2
    exact hK _ _ (KeepsFrom.refl _ _) ⟨kpx_refl _ _ _ _, fun _ _ _ => rfl⟩ hI rfl
  case body =>
    rintro l pre x a' W ⟨⟨v, hv, hrow, hgl⟩, hB⟩ rfl hpx hmm
    have hlt : pre.length < e - a := by
      have h1 := hpx.length_le
      have h2 := kidsT_len a (tellN N a (e - a))
      rw [tellN_len N a _ (by have := hE.lt; omega)] at h2
      simp at h1
      omega
    have hmm' : w.heap.size + 8 ≤ W.heap.size := by simp at hmm; omega
    obtain ⟨vo, vc, rfl⟩ := own_form hrow
    have hc := hv.cell
    have hf := hv.frozen
    have nA := hv.not_row (e := 2) (by decide) hrow
    have hr1 : (W.alloc (.cells #[.int .i64 x] 2)).ownsRow w.heap.size 2 1 (.slice vo pre.length vc) pre.length (cellsI pre) := hrow.alloc _
    gi_wp2_with (gi_at_builtin; refine list_plain rfl (by simp) (wp_append_lies _ _ _ 81 rfl w.heap.size 2 i0 _ 1 8 Tryz.underlying81 hi0 hz0 hz1 hz2 rfl (by decide) (.slice vo pre.length vc) pre.length (cellsI pre) rfl hr1
      ⟨W.heap.size, 0, none⟩ 1 1 [.int .i64 x] rfl rfl (World.news_of_block (cs := #[.int .i64 x]) (t := 2) (fr := (0, 0)) (heap_new' _ _ _ rfl)) (by simp [Value.oneCell']) (by decide) (by unfold maxLen; omega) (by omega) (by simp; omega) _ rfl ?_); intro g' cap' w1 hown1 hgrow hat hlt'; obtain ⟨v1, v2, r2, k2, b2⟩ := hv.appended (by decide) hrow hB.size (Nat.le_refl _) hown1 hgrow; have hc1 := v1.cell; have hf1 := v1.frozen)
    have hgl' : ∀ g, (Value.slice (some ⟨g', 0, none⟩) (pre.length + 1) cap').ownBlock = some g → w.heap.size + 8 ≤ g := fun g h => by
      have : g = g' := by simp [Value.ownBlock] at h; omega
      subst this
      rcases hat with h' | h'
      · exact hgl _ h'
      · simp at h'; omega
    refine ⟨k2.from _, ⟨⟨b2, fun b _ l2 => b2.block b (by omega)⟩, fun b l1 l2 => ?_⟩, ⟨⟨_, v2, by simpa [cellsI] using r2, hgl'⟩, hB.trans b2⟩⟩
    simp at l1 l2
    refine (Below.heap_setCell w1 ⟨w.heap.size, 0, none⟩ _ b (by intro e'; have : b = w.heap.size := e'; omega)).trans ?_
    refine (hgrow.block b (by simp; omega) (fun e' => ?_)).trans (Below.heap_alloc W _ b (by omega))
    have := hgl b e'.symm
    omega
  case done =>
    rintro D P X hD rfl ⟨⟨v, hv, hrow, -⟩, hB⟩ hK
    have hc := hv.cell
    gi_wp2
    refine ⟨by simp, .inl ⟨_, _, rfl, run_takeDeferred hK, ?_⟩⟩
    exact ⟨_, results_tmp rfl _ _ _, v, rfl, ownsRow_putObj hrow _ hK rfl, hB.trans (belowK_b (w := w) (Nat.le_refl _) X D _ _ (by simp at hD; omega) hK rfl rfl)⟩
  case stop =>
    rintro D c pre X _ _ h _
    exact h.elim
set_option maxHeartbeats 1000000 in
theorem collect_in (n : Nat) (hn : 9 ≤ n) (ba bt lo hi tb : Nat) (N : List Dat) (a e : Nat) (hE : EndAt N a e) (hN : N.length ≤ 1000) (hPd : ∀ (k : Nat) (h : k < N.length), PdN ((k : Int), N[k])) (w : World)
    (hBa : w.cell? ⟨ba, 0, none⟩ = some (.int .i64 (a : Int))) (hBt : w.cell? ⟨bt, 0, none⟩ = some (.pointer (some ⟨tb, 0, none⟩))) (hhi : bt < hi) (hlo2 : lo ≤ ba) (hhi2 : ba < hi) (hhi3 : hi ≤ w.heap.size) (hT : IsTree w.heap.size w tb N) :
    Calls Tryz.prog 140 #[.func (.func 173) #[] #[.pointer (some ⟨bt, 0, none⟩), .pointer (some ⟨ba, 0, none⟩)]] w fun r W' =>
      ∃ ao c, r = .returned (.slice ao (kidsT a (tellN N a (e - a))).length c) ∧ W'.ownsRow w.heap.size 2 1 (.slice ao (kidsT a (tellN N a (e - a))).length c) (kidsT a (tellN N a (e - a))).length (cellsI (kidsT a (tellN N a (e - a)))) ∧ Below w.heap.size w W' := by
  have HA : Hid (Calls Tryz.prog 172 #[.slice none 0 0, .func (.func 173) #[] #[.pointer (some ⟨bt, 0, none⟩), .pointer (some ⟨ba, 0, none⟩)]] w fun r W' =>
      ∃ v, r = .returned v ∧ W'.ownsRow w.heap.size 2 1 v (kidsT a (tellN N a (e - a))).length (cellsI (kidsT a (tellN N a (e - a)))) ∧ Below w.heap.size w W') := (callsIn_wide (n := n)).1 (appSeq_in n (by omega) ba bt lo hi tb N a e hE hN hPd w hBa hBt hhi hlo2 hhi2 hhi3 hT)
  clear hBa hBt hT hE hPd
  generalize kidsT a (tellN N a (e - a)) = L at HA ⊢
  go_enter Tryz.func140, Tryz.ntmps140
  go_wp2_with fail
  refine HA.out.mono ?_
  rintro e w' ⟨v, rfl, ho, hb⟩
  obtain ⟨ao, c, rfl⟩ := own_form ho
  have HO : Hid (w'.ownsRow w.heap.size 2 1 (.slice ao L.length c) L.length (cellsI L)) := ho
  clear ho
  go_wp2
  go_ret
  exact ⟨ao, c, rfl, HO.out, hb⟩
end Go.Proofs.YtfdkklhigliciaaGreatDoor
/-
  What hangs on a place of fine data ends where what is taken out at it ends; and what the program tells of it is what is taken out.
-/
namespace Go.Proofs.YtfdkklhigliciaaGreatDoor
open Go.RowKit

theorem subFrom_at (l : List Dat) (a : Nat) : ∀ (f i j : Nat) (h : j < (subFrom l a f i).length), ∃ hl : i + j < l.length, (subFrom l a f i)[j] = shiftD a (i + j) l[i + j]
  | 0, i, j, h => by simp [subFrom] at h
  | f + 1, i, j, h => by
    by_cases hi : i < l.length
    · by_cases hd : i = a ∨ deepF l 100 (a : Int) < deepF l 100 (i : Int)
      · have e := subFrom_on l a f i hi hd
        cases j with
        | zero => exact ⟨by omega, by simp only [e]; rfl⟩
        | succ j =>
          have h' : j < (subFrom l a f (i + 1)).length := by rw [e] at h; simpa using h
          obtain ⟨h1, h2⟩ := subFrom_at l a f (i + 1) j h'
          refine ⟨by omega, ?_⟩
          have e3 : i + 1 + j = i + (j + 1) := by omega
          simp only [e, List.getElem_cons_succ, h2, e3]
      · rw [subFrom_off l a f i hi hd] at h; simp at h
    · rw [subFrom_end l a _ i (by omega)] at h; simp at h
theorem tellN_at (N : List Dat) (a : Nat) : ∀ (m j : Nat) (_ : a + m ≤ N.length) (h : j < (tellN N a m).length), ∃ hl : a + j < N.length, (tellN N a m)[j] = (((a + j : Nat) : Int), N[a + j])
  | 0, j, _, h => by simp [tellN] at h
  | m + 1, j, hm, h => by
    have e := tellN_next N a m (by omega)
    have hl := tellN_len N a (m + 1) hm
    have hl' := tellN_len N a m (by omega)
    refine ⟨by omega, ?_⟩
    simp only [e]
    by_cases hj : j < m
    · rw [List.getElem_append_left (by omega)]
      exact (tellN_at N a m j (by omega) (by omega)).2
    · have : j = m := by omega
      subst this
      rw [List.getElem_append_right (by omega)]
      simp [hl']
variable {l : List Dat}
theorem endAt_of (F : Fine l) (a : Nat) (ha : a < l.length) : EndAt (nodes l) a (endD l a) := by
  obtain ⟨h1, h2, _, _⟩ := end_facts l a ha
  refine ⟨h1, by rw [nodes_len]; exact h2, fun j hj h3 h4 => ?_, fun h => ?_⟩
  · have hj' : j < l.length := by rw [nodes_len] at hj; exact hj
    rw [nodes_at l j hj']
    show (a : Int) ≤ l[j].parent
    rcases abv_inv (below_abv F a ha j (by omega) h4) with e | ⟨p, hp, hA⟩
    · omega
    · have hpl := F.parlt hj' hp
      have := abv_le F p (by omega) hA
      rw [← par_at l j hj', hp]; omega
  · have hj' : endD l a < l.length := by rw [nodes_len] at h; exact h
    rw [nodes_at l _ hj']
    show l[endD l a].parent < (a : Int)
    have hn := behind_not F a ha (endD l a) (Nat.le_refl _) hj'
    obtain ⟨k, hk⟩ : ∃ k, endD l a = k + 1 := ⟨endD l a - 1, by omega⟩
    obtain ⟨q, hq, hA⟩ := F.line (k := k) (by omega)
    have hpar : par l (endD l a) = (q : Int) := by rw [hk]; exact hq
    have hlt := F.parlt hj' hpar
    rw [← par_at l _ hj', hpar]
    by_cases hqa : q < a
    · omega
    · exact absurd (abv_up hpar (below_abv F a ha q (by omega) hlt)) hn
theorem dk_tk {k : Int} (h : 1 ≤ k ∧ k ≤ 4) : dkD (tkD k) = k := by
  rcases (by omega : k = 1 ∨ k = 2 ∨ k = 3 ∨ k = 4) with rfl | rfl | rfl | rfl <;> decide
theorem told_sub (F : Fine l) (a : Nat) (ha : a < l.length) : (tellN (nodes l) a (endD l a - a)).map (subN a) = subD l a := by
  have hE := endAt_of F a ha
  have h1 := hE.lt
  have h2 := hE.le
  have hlen : (tellN (nodes l) a (endD l a - a)).length = endD l a - a := tellN_len _ a _ (by omega)
  have hsl : (subD l a).length = endD l a - a := by unfold endD; omega
  apply List.ext_getElem
  · rw [List.length_map, hlen, hsl]
  · intro j hj hj'
    rw [List.length_map, hlen] at hj
    obtain ⟨g1, g2⟩ := subFrom_at l a l.length a j hj'
    obtain ⟨k1, k2⟩ := tellN_at (nodes l) a (endD l a - a) j (by omega) (by omega)
    show ((tellN (nodes l) a (endD l a - a)).map (subN a))[j] = (subFrom l a l.length a)[j]
    rw [g2, List.getElem_map, k2, nodes_at l (a + j) g1]
    have hb := (chk_all (F.ok (a + j) g1 g1)).1
    have hkd : 1 ≤ l[a + j].kind ∧ l[a + j].kind ≤ 4 := by
      unfold bareB at hb
      simp at hb
      omega
    show (⟨dkD (tkD l[a + j].kind), max (l[a + j].parent - (a : Int)) (-1), l[a + j].num, l[a + j].name⟩ : Dat) = ⟨l[a + j].kind, if a + j = a then -1 else l[a + j].parent - (a : Int), l[a + j].num, l[a + j].name⟩
    rw [dk_tk hkd]
    have hp := F.parent (a + j) g1
    by_cases e0 : a + j = a
    · rw [if_pos e0, Int.max_eq_right (by omega)]
    · rw [if_neg e0]
      have := hE.inside (a + j) k1 (by omega) (by omega)
      rw [nodes_at l (a + j) g1] at this
      have this' : (a : Int) ≤ l[a + j].parent := this
      rw [Int.max_eq_left (by omega)]
end Go.Proofs.YtfdkklhigliciaaGreatDoor
/-
  The program's iterator kids, ranged over whole: the places of the parts of a datum.
-/
namespace Go.Proofs.YtfdkklhigliciaaGreatDoor
open Go.RowKit Go.Extern.Stop Go.Stop Go.Extern Num Go.Lib Go.Shelf
theorem parts_low {l : List Dat} (F : Fine l) (a : Nat) (ha : a < l.length) : ∀ k, k ≤ a → partsTo l (a : Int) k = []
  | 0, _ => rfl
  | k + 1, h => by
    have hp := F.parent k (by omega)
    simp only [partsTo]
    rw [if_neg (by rw [par_at l k (by omega)]; omega)]
    exact parts_low F a ha k (by omega)
theorem kids_parts {l : List Dat} (F : Fine l) (a : Nat) (ha : a < l.length) : ∀ m, a + m ≤ l.length → kidsT a (tellN (nodes l) a m) = partsTo l (a : Int) (a + m)
  | 0, _ => (parts_low F a ha a (Nat.le_refl _)).symm
  | m + 1, h => by
    have hk : a + m < l.length := by omega
    rw [tellN_next (nodes l) a m (by rw [nodes_len]; exact hk), nodes_at l (a + m) hk]
    show _ = (if par l (a + m) = (a : Int) then partsTo l (a : Int) (a + m) ++ [((a + m : Nat) : Int)] else partsTo l (a : Int) (a + m))
    have ih := kids_parts F a ha m (by omega)
    by_cases hp : par l (a + m) = (a : Int)
    · rw [if_pos hp, kidsT_hit _ _ _ (by show (l[a + m].parent == (a : Int)) = true; rw [← par_at l _ hk]; simpa using hp), ih]
    · rw [if_neg hp, kidsT_miss _ _ _ (by show (l[a + m].parent == (a : Int)) = false; rw [← par_at l _ hk]; simpa using hp), ih]
theorem kids_all {l : List Dat} (F : Fine l) (a : Nat) (ha : a < l.length) : kidsT a (tellN (nodes l) a (endD l a - a)) = partsD l (a : Int) := by
  obtain ⟨h1, h2, _, _⟩ := end_facts l a ha
  rw [kids_parts F a ha _ (by omega), show a + (endD l a - a) = endD l a by omega]
  exact (parts_stop F a ha l.length h2 (Nat.le_refl _)).symm
theorem kids_any (p : Option Addr) (a : Int) (w : World) :
    Calls Tryz.prog 141 #[.pointer p, .int .i64 a] w fun e w' => e = .returned (.func (.func 173) #[] #[.pointer (some ⟨w.heap.size, 0, none⟩), .pointer (some ⟨w.heap.size + 1, 0, none⟩)]) ∧
      w' = (w.alloc (.cells #[.pointer p] 51)).alloc (.cells #[.int .i64 a] 2) := (callsIn_wide (n := 3)).1 (kids_in Fence.wide 3 (fun _ => trivial) rfl p a w)
end Go.Proofs.YtfdkklhigliciaaGreatDoor
/-
  A panic that carries a code, and where it ends: the program's demand, codeOf and what it defers.
-/
namespace Go.Proofs.YtfdkklhigliciaaGreatDoor
open Go.RowKit Go.Extern.Stop Go.Stop Go.Extern Num Go.Lib

/-- The panic of this layer that carries a code. -/
abbrev pan (c : Int) : List PanicEntry := [{ v := .iface 94 (.int .i64 c), recovered := false }]
theorem demand_yes (c : Int) (w : World) : Calls Tryz.prog 53 #[.bool true, .int .i64 c] w fun e w' => e = .returned (.tuple #[]) ∧ w' = w := by
  go_enter Tryz.func53, Tryz.ntmps53
  go_wp2
  go_end0
  exact ⟨rfl, rfl⟩
theorem demand_no (c : Int) (w : World) : Calls Tryz.prog 53 #[.bool false, .int .i64 c] w fun e w' => e = .panicked (pan c) ∧ w' = w := by
  go_enter Tryz.func53, Tryz.ntmps53
  go_wp2
  exact ⟨rfl, rfl, rfl⟩
theorem catch_panicking (p : Addr) (x c : Int) (older : List PanicEntry) (w : World) (hc : w.cell? p = some (.int .i64 x)) (hz : w.frozen? p = false) :
    CallsD Tryz.prog 51 #[.pointer (some p)] (.panicking ({ v := .iface 94 (.int .i64 c), recovered := false } :: older)) w fun e u' w' =>
      e = .returned (.tuple #[]) ∧ u' = .panicking ({ v := .iface 94 (.int .i64 c), recovered := true } :: older) ∧ w' = w.setCell p (.int .i64 c) := by
  have hta : ∀ (T : TypeId) (u : World), (Instr.typeAssert (.iface 94 (.int .i64 c)) T 94 false).run Tryz.prog u = .ok (.int .i64 c) u := fun T u => by kernel_rfl
  refine callsD_of_wpS Tryz.func51 rfl fun c₀ cs hu => ?_
  apply wpS_seq
  apply wpS_region
  simp [wpOpsS, go_sem, recoverD, hu, Tryz.ntmps51, Exit.thenS]
  apply wpS_seq
  apply wpS_region
  simp [wpOpsS, go_sem, Exit.thenS]
  refine wpS_cond (t := true) (by simp [Act.eval, Array.replicate]) ?_
  simp only [if_true]
  apply wpS_region
  simp [wpOpsS, go_sem, hta, hc, hz, bodyPostS, results, Tryz.results51]
theorem catch_idle (p : Addr) (w : World) :
    CallsD Tryz.prog 51 #[.pointer (some p)] .returning w fun e u' w' => e = .returned (.tuple #[]) ∧ u' = .returning ∧ w' = w := by
  refine callsD_of_wpS Tryz.func51 rfl fun c₀ cs hu => ?_
  apply wpS_seq
  apply wpS_region
  simp [wpOpsS, go_sem, recoverD, hu, Tryz.ntmps51, Exit.thenS]
  apply wpS_seq
  apply wpS_region
  simp [wpOpsS, go_sem, Exit.thenS]
  refine wpS_cond (t := false) (by simp [Act.eval, Array.replicate]) ?_
  simp only [Bool.false_eq_true, if_false]
  refine wpS_of_wp (wp_skip ?_)
  cases c₀
  simp_all [bodyPostS, results, Tryz.results51]
/-- codeOf, where what it is handed returns. -/
theorem codeOf_ret (f : FuncId) (cap : Array Value) (w : World) (P : World → Prop) (hcf : ∀ args w, (callFunc f args).run Tryz.prog w = .ok (.enter f args) w)
    (h : Calls Tryz.prog f cap (w.alloc (.cells #[.int .i64 0] 2)) fun e w' => e = .returned (.tuple #[]) ∧ (w'.cell? ⟨w.heap.size, 0, none⟩ = some (.int .i64 0) ∧ w'.frozen? ⟨w.heap.size, 0, none⟩ = false) ∧ P w') :
    Calls Tryz.prog 22 #[.func (.func f) #[] cap] w fun e w' => ∃ u, e = .returned (.int .i64 0) ∧ P u ∧ w' = u.setCell ⟨w.heap.size, 0, none⟩ (.int .i64 0) := by
  have hmf : ∀ (fn : Fn) (first cap : Array Value) (w : World), (Instr.makeFunc fn first cap).run Tryz.prog w = .ok (.func fn first cap) w := fun _ _ _ _ => rfl
  have H : Hid (Calls Tryz.prog f cap (w.alloc (.cells #[.int .i64 0] 2)) fun e w' => e = .returned (.tuple #[]) ∧ (w'.cell? ⟨w.heap.size, 0, none⟩ = some (.int .i64 0) ∧ w'.frozen? ⟨w.heap.size, 0, none⟩ = false) ∧ P w') := h
  clear h
  go_enter_defers Tryz.func22, Tryz.ntmps22
  go_wp2_with fail
  refine H.out.mono ?_
  rintro e u ⟨rfl, ⟨c0, cf⟩, hP⟩
  go_wp2
  refine leaves_cons (f := 51) (args := #[.pointer (some ⟨w.heap.size, 0, none⟩)]) (by simp) (by simp [go_sem]) ?_
  refine (catch_idle ⟨w.heap.size, 0, none⟩ _).mono ?_
  rintro e u' w'' ⟨rfl, rfl, rfl⟩
  have hc : (u.setCell ⟨w.heap.size, 0, none⟩ (.int .i64 0)).cell? ⟨w.heap.size, 0, none⟩ = some (.int .i64 0) := by simp [go_sem, c0]
  simp [Leaves, settle, results, Tryz.results22, go_sem, hc]
  exact ⟨u, hP, rfl⟩
theorem codeOf_pan (f : FuncId) (cap : Array Value) (c : Int) (w : World) (P : World → Prop) (hcf : ∀ args w, (callFunc f args).run Tryz.prog w = .ok (.enter f args) w)
    (h : Calls Tryz.prog f cap (w.alloc (.cells #[.int .i64 0] 2)) fun e w' => e = .panicked (pan c) ∧ (w'.cell? ⟨w.heap.size, 0, none⟩ = some (.int .i64 0) ∧ w'.frozen? ⟨w.heap.size, 0, none⟩ = false) ∧ P w') :
    Calls Tryz.prog 22 #[.func (.func f) #[] cap] w fun e w' => ∃ u, e = .returned (.int .i64 c) ∧ P u ∧ w' = u.setCell ⟨w.heap.size, 0, none⟩ (.int .i64 c) := by
  have hmf : ∀ (fn : Fn) (first cap : Array Value) (w : World), (Instr.makeFunc fn first cap).run Tryz.prog w = .ok (.func fn first cap) w := fun _ _ _ _ => rfl
  have H : Hid (Calls Tryz.prog f cap (w.alloc (.cells #[.int .i64 0] 2)) fun e w' => e = .panicked (pan c) ∧ (w'.cell? ⟨w.heap.size, 0, none⟩ = some (.int .i64 0) ∧ w'.frozen? ⟨w.heap.size, 0, none⟩ = false) ∧ P w') := h
  clear h
  go_enter_defers Tryz.func22, Tryz.ntmps22
  go_wp2_with fail
  refine H.out.mono ?_
  rintro e u ⟨rfl, ⟨c0, cf⟩, hP⟩
  dsimp only
  refine leaves_cons (f := 51) (args := #[.pointer (some ⟨w.heap.size, 0, none⟩)]) (by simp) (by simp [go_sem]) ?_
  refine (catch_panicking ⟨w.heap.size, 0, none⟩ 0 c [] _ c0 cf).mono ?_
  rintro e u' w'' ⟨rfl, rfl, rfl⟩
  have hc : (u.setCell ⟨w.heap.size, 0, none⟩ (.int .i64 c)).cell? ⟨w.heap.size, 0, none⟩ = some (.int .i64 c) := by simp [go_sem, c0]
  simp [Leaves, settle, results, Tryz.results22, go_sem, hc]
  exact ⟨u, hP, rfl⟩
end Go.Proofs.YtfdkklhigliciaaGreatDoor
