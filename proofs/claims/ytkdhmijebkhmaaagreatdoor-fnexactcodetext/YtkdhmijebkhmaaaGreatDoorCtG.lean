/-
  Parts of the proof laid into one text, one behind the other; each says at its head what is proved in it.
-/
import Derived.RangeFuncNested
import Derived.RangeFuncBound
import Derived.RangeFuncCalls
import Derived.RangeFuncLeaves
import Derived.OrdersIn
import Derived.OrdersHeld
import Derived.TacticsIn
import Derived.Test.YtkdhmijebkhmaaaGreatDoorCtF
/-
  An iterator that itself ranges over an iterator: it turns the record of a loop of its own between two rounds. What such an iterator owes, and what a range over it comes to.
-/
namespace Go.Proofs.YtkdhmijebkhmaaaGreatDoor
open Go.RowKit

/-- The contract of an iterator value, called in a world of B blocks, whose caller's invariants abide the turn of any block that is no cells and was laid since its call began; at each round it has laid m blocks at least; each round keeps what the iterator asks, and all such blocks that were there when the call began. -/
def SeqO {α : Type} (F : Fence) (n : Nat) (P : Program) (g : Nat) (lb : Array Value) (encs : α → Array Value) (B m : Nat) (Kp : World → World → Prop) (S Sp : List α → Prop) (Pr : List α → α → Prop) (w : World) : Prop :=
  ∀ (l : Nat) (J Jx : List α → World → Prop) (W : World), W.heap.size = B → Below w.heap.size w W → OwnFrom B J → OwnFrom B Jx →
    (∀ pre x W1, J pre W1 → Pr pre x → B + m ≤ W1.heap.size → YieldAt F (n - 1) P l (encs x) W1 fun e W' =>
      ((e = .returned (.bool true) ∧ J (pre ++ [x]) W') ∨ (e = .returned (.bool false) ∧ Jx (pre ++ [x]) W')) ∧ Kp W1 W' ∧ KeepsFrom B W1 W') →
    J [] W →
    CallsIn F n P g (#[.func (.yield l) #[] #[]] ++ lb) W fun e W' => (∃ v, e = .returned v) ∧ ((∃ xs, S xs ∧ J xs W') ∨ (∃ pre, Sp pre ∧ Jx pre W'))
/-- How a round's body may be left. -/
def postO {α : Type} (B : Nat) (Kp : World → World → Prop) (I : List α → World → Prop) (Ix : Code → List α → World → Prop) (xs : List α) (W : World) : Exit → Act → World → Prop
  | .normal, _, W' => KeepsFrom B W W' ∧ Kp W W' ∧ I xs W'
  | .ret, _, W' => KeepsFrom B W W' ∧ Kp W W' ∧ Ix .ret xs W'
  | .exit id, _, W' => KeepsFrom B W W' ∧ Kp W W' ∧ Ix (.exit id) xs W'
  | .goto t, _, W' => KeepsFrom B W W' ∧ Kp W W' ∧ Ix (.goto t) xs W'
  | .panic _, _, _ => False
  | .outgrown, _, _ => False
theorem keepsFrom_mono {B B' : Nat} {W W' : World} (h : KeepsFrom B W W') (hB : B ≤ B') : KeepsFrom B' W W' := ⟨h.size, fun k o hk => h.same k o (Nat.le_trans hB hk)⟩
theorem keepsFrom_put {B : Nat} (W : World) (l : Nat) (o : Obj) (hl : l < B) : KeepsFrom B W (W.putObj l o) := ⟨by simp, fun k o' hk h _ => (World.putObj_heap_other (by omega)).trans h⟩

variable {F : Fence} {n : Nat} {P : Program}
/-- The record of a loop, and the block for its rounds' deferred calls. -/
structure Rec (d : Nat) (r : Loop) (W : World) : Prop where
  loop : W.heap[d + 1]? = some (.loop r)
  defs : W.heap[d]? = some (.deferred (some []))
theorem Rec.put {d : Nat} {r : Loop} {W : World} (h : Rec d r W) (r' : Loop) : Rec d r' (W.putObj (d + 1) (.loop r')) :=
  ⟨World.putObj_heap_same (Array.getElem?_eq_some_iff.1 h.loop).1, (World.putObj_heap_other (by omega)).trans h.defs⟩
theorem Rec.keep {d : Nat} {r : Loop} {W W' : World} (h : Rec d r W) (hk : KeepsFrom d W W') : Rec d r W' :=
  ⟨hk.same _ _ (by omega) h.loop rfl, hk.same _ _ (Nat.le_refl _) h.defs rfl⟩
theorem Rec.own {d B : Nat} {r : Loop} (hB : d + 2 ≤ B) {β : Type} : OwnFrom B (fun (_ : β) W => Rec d r W) := fun _ W W' row hs hg hr => by
  have key : ∀ k o, k < B → W.heap[k]? = some o → W'.heap[k]? = some o := fun k o hk h =>
    (hg.block k (Array.getElem?_eq_some_iff.1 h).1 (fun e => by have := (hr k e.symm).1; omega)).trans h
  exact ⟨key _ _ (by omega) hs.loop, key _ _ (by omega) hs.defs⟩
/-- A range over such an iterator: one invariant between two rounds, one where a round has left; the assignment and the loop's body walked once. -/
theorem range_own {α : Type} {g : Operand} {ps : Array Tmp} {assign body : Code} {Q : Exit → Act → World → Prop} {a : Act} {w : World}
    (hro : F.round = none) (h1 : 1 ≤ n) {gf : Nat} {lb : Array Value} (hg : a.eval g = .func (.func gf) #[] lb) (hFg : F.fn gf) (eg : ∀ args w, (callFunc gf args).run P w = .ok (.enter gf args) w)
    {encs : α → Array Value} {Kp : World → World → Prop} {S Sp : List α → Prop} {Pr : List α → α → Prop} {m : Nat} {w0 : World} (hseq : SeqO F (n - 1) P gf lb encs (w.heap.size + 2) m Kp S Sp Pr w0)
    (hKt : ∀ {A B C : World}, Kp A B → Kp B C → Kp A C) (hKb : ∀ (W : World) (o o' : Obj), W.heap[w.heap.size + 1]? = some o → o.isCells = false → o.isWalk = false → Kp W (W.putObj (w.heap.size + 1) o')) (hb0 : Below w0.heap.size w0 w) (hps : ∀ x, (encs x).size = ps.size)
    (I : List α → World → Prop) (Ix : Code → List α → World → Prop) (hI : OwnFrom w.heap.size I) (hIx : ∀ c, OwnFrom w.heap.size (Ix c)) (h0 : I [] w) (Ax : α → Act → World → Prop) (hAx : ∀ x a', OwnFrom w.heap.size (fun (_ : Unit) W => Ax x a' W))
    (hassign : ∀ (l : Nat) (pre : List α) (x : α) (W : World) (K : Act → World → Prop), I pre W → (∀ a' W', KeepsFrom w.heap.size W W' → Kp W W' → I pre W' → Ax x a' W' → K a' W') →
      assign.wpIn (F.inRound l) (n - 1 - 1) P (Exit.then K (fun _ _ _ => False)) { tmps := (ps.zip (encs x)).foldl (fun t (p, v) => t.setIfInBounds p v) a.tmps, defers := [] } W)
    (hbody : ∀ (l : Nat) (pre : List α) (x : α) (a' : Act) (W : World), I pre W → Ax x a' W → Pr pre x → w.heap.size + 2 + m ≤ W.heap.size → body.wpIn (F.inRound l) (n - 1 - 1) P (postO w.heap.size Kp I Ix (pre ++ [x]) W) a' W)
    (hdone : ∀ (D : Nat) (xs : List α) (W : World), w.heap.size ≤ D → S xs → I xs W → W.heap[D]? = some (.deferred (some [])) → Q .normal { a with defers := { target := .collected D, args := #[] } :: a.defers } W)
    (hstop : ∀ (D : Nat) (c : Code) (pre : List α) (W : World), w.heap.size ≤ D → Sp pre → Ix c pre W → W.heap[D]? = some (.deferred (some [])) → c.wpIn F n P Q { a with defers := { target := .collected D, args := #[] } :: a.defers } W) :
    (Code.rangeFunc g ps assign body).wpIn F n P Q a w := by
  refine wpIn_rangeFunc fun fn hfn => ?_
  rw [hro]
  obtain ⟨r0, hr0⟩ : ∃ r0 : Loop, r0 = { state := .ready, pending := none, fn, tmps := a.tmps, params := ps, assign, body, defers := w.heap.size } := ⟨_, rfl⟩
  obtain ⟨W1, hW1⟩ : ∃ W1, W1 = (w.alloc (.deferred (some []))).alloc (.loop r0) := ⟨_, rfl⟩
  have hsz : W1.heap.size = w.heap.size + 2 := by rw [hW1]; simp
  have R1 : Rec w.heap.size r0 W1 := by
    constructor
    · have := World.alloc_heap_new (w.alloc (.deferred (some []))) (.loop r0)
      rw [World.size_alloc] at this
      rw [hW1]; exact this
    · rw [hW1]; exact (Below.heap_alloc _ _ _ (by simp)).trans (World.alloc_heap_new w _)
  have b1 : Below w0.heap.size w0 W1 := by
    rw [hW1]; exact hb0.trans ((((Below.refl _ w).alloc (Nat.le_refl _) _).alloc (by simp) _).mono hb0.size)
  have hIf : ∀ {B : Nat}, w.heap.size ≤ B → OwnFrom B I := fun hB s A B' row hs hg' hr => hI s A B' row hs hg' (fun r e => ⟨Nat.le_trans hB (hr r e).1, (hr r e).2⟩)
  have hXf : ∀ {B : Nat} (c : Code), w.heap.size ≤ B → OwnFrom B (Ix c) := fun c hB s A B' row hs hg' hr => hIx c s A B' row hs hg' (fun r e => ⟨Nat.le_trans hB (hr r e).1, (hr r e).2⟩)
  have i1 : I [] W1 := by rw [hW1]; exact hI.alloc _ (hI.alloc _ h0)
  refine ⟨w.heap.size + 1, [{ target := .collected w.heap.size, args := #[] }], W1, { target := .fn (.func gf) lb, args := #[.func (.yield (w.heap.size + 1)) #[] #[]] }, W1, gf,
    #[.func (.yield (w.heap.size + 1)) #[] #[]] ++ lb, W1, by rw [hW1, hr0]; exact run_enterLoop_outer _ _ _ _ _, by simp only [resolve, hg]; simp [go_sem],
    fun f' hf' => by simp [Target.leads] at hf'; subst hf'; exact hFg, by simp [invoke, go_sem, eg], fun _ => h1, ?_⟩
  refine (hseq (w.heap.size + 1) (fun pre W => I pre W ∧ Rec w.heap.size r0 W) (fun pre W => ∃ c, Ix c pre W ∧ Rec w.heap.size { r0 with state := .done, pending := some c } W) W1 hsz b1
    (OwnFrom.and (hIf (by omega)) (Rec.own (by omega)))
    (fun s A B row hs hg' hr => by obtain ⟨c, hc, hk⟩ := hs; exact ⟨c, hXf c (by omega) s A B row hc hg' hr, Rec.own (by omega) s A B row hk hg' hr⟩) ?_ ⟨i1, R1⟩).mono ?_
  · -- a round
    rintro pre x W ⟨hi, hR⟩ hlen hm
    have hy := run_yield (P := P) (args := encs x) hR.loop (by rw [hr0]; exact hps x)
    rw [show r0.fn = fn by rw [hr0], show r0.assign = assign by rw [hr0], show r0.body = body by rw [hr0], show r0.tmps = a.tmps by rw [hr0], show r0.params = ps by rw [hr0]] at hy
    refine ⟨fn, _, assign, body, hy, roundIn_of_wpIn hfn (hassign _ pre x W _ hi fun a' Wa hka hpa hia hax => ?_)⟩
    have hRa := hR.keep hka
    refine ⟨_, run_beginRound hRa.loop (by rw [hr0]), ?_⟩
    have hR2 := hRa.put { r0 with state := .busy }
    have hK2 : KeepsFrom (w.heap.size + 2) W (Wa.putObj (w.heap.size + 1) (.loop { r0 with state := .busy })) := (keepsFrom_mono hka (by omega)).trans (keepsFrom_put _ _ _ (by omega))
    have hB2 : Kp W (Wa.putObj (w.heap.size + 1) (.loop { r0 with state := .busy })) := hKt hpa (hKb Wa _ _ hRa.loop rfl rfl)
    refine wpIn_mono (hbody _ pre x a' _ (hI.putObj _ hia (by omega) hRa.loop rfl) ((hAx x a').putObj (s := ()) _ hax (by omega) hRa.loop rfl) hlen (by have := hka.size; simp; omega)) ?_
    have fin : ∀ (jump : Option Code) (W3 : World), KeepsFrom w.heap.size (Wa.putObj (w.heap.size + 1) (.loop { r0 with state := .busy })) W3 → Kp (Wa.putObj (w.heap.size + 1) (.loop { r0 with state := .busy })) W3 →
        ∃ r', r' = ({ r0 with state := if jump.isNone then .ready else .done, pending := jump } : Loop) ∧ (Instr.endRound (w.heap.size + 1) jump).run P W3 = .ok (.bool jump.isNone) (W3.putObj (w.heap.size + 1) (.loop r')) ∧
          Rec w.heap.size r' (W3.putObj (w.heap.size + 1) (.loop r')) ∧ KeepsFrom (w.heap.size + 2) W (W3.putObj (w.heap.size + 1) (.loop r')) ∧ Kp W (W3.putObj (w.heap.size + 1) (.loop r')) ∧
          (∀ {J : List α → World → Prop} {s}, OwnFrom w.heap.size J → J s W3 → J s (W3.putObj (w.heap.size + 1) (.loop r'))) := fun jump W3 hk hkp => by
      have hR3 := hR2.keep hk
      exact ⟨_, rfl, (by have h := run_endRound (P := P) jump hR3.loop; exact h), hR3.put _, (hK2.trans (keepsFrom_mono hk (by omega))).trans (keepsFrom_put _ _ _ (by omega)), hKt (hKt hB2 hkp) (hKb W3 _ _ hR3.loop rfl rfl), fun hJ hs => hJ.putObj _ hs (by omega) hR3.loop rfl⟩
    rintro e a3 W3 hp
    cases e with
    | normal =>
      obtain ⟨hk, hb, hi3⟩ := hp
      obtain ⟨r', hr', hrun, hR4, hK4, hB4, hJ4⟩ := fin none W3 hk hb
      have hr'' : r' = r0 := by rw [hr', hr0]; rfl
      rw [hr''] at hrun hR4 hK4 hB4 hJ4
      exact ⟨_, _, hrun, .inl ⟨rfl, hJ4 hI hi3, hR4⟩, hB4, hK4⟩
    | ret =>
      obtain ⟨hk, hb, hi3⟩ := hp
      obtain ⟨r', hr', hrun, hR4, hK4, hB4, hJ4⟩ := fin (some .ret) W3 hk hb
      subst hr'
      exact ⟨_, _, hrun, .inr ⟨rfl, .ret, hJ4 (hIx _) hi3, hR4⟩, hB4, hK4⟩
    | exit id =>
      obtain ⟨hk, hb, hi3⟩ := hp
      obtain ⟨r', hr', hrun, hR4, hK4, hB4, hJ4⟩ := fin (some (.exit id)) W3 hk hb
      subst hr'
      exact ⟨_, _, hrun, .inr ⟨rfl, .exit id, hJ4 (hIx _) hi3, hR4⟩, hB4, hK4⟩
    | goto t =>
      obtain ⟨hk, hb, hi3⟩ := hp
      obtain ⟨r', hr', hrun, hR4, hK4, hB4, hJ4⟩ := fin (some (.goto t)) W3 hk hb
      subst hr'
      exact ⟨_, _, hrun, .inr ⟨rfl, .goto t, hJ4 (hIx _) hi3, hR4⟩, hB4, hK4⟩
    | panic ch => exact hp.elim
    | outgrown => exact hp.elim
  · -- behind the iterator
    rintro e W2 ⟨⟨v, rfl⟩, ⟨xs, hS, hi, hR⟩ | ⟨pre, hSp, c, hi, hR⟩⟩
    · have hrun := run_endLoop (P := P) hR.loop (by rw [hr0]; simp)
      rw [show r0.pending = none by rw [hr0]] at hrun
      exact ⟨none, _, hrun, hdone w.heap.size xs _ (Nat.le_refl _) hS (hI.putObj _ hi (by omega) hR.loop rfl) (hR.put _).defs⟩
    · exact ⟨some c, _, run_endLoop hR.loop (by simp), hstop w.heap.size c pre _ (Nat.le_refl _) hSp ((hIx c).putObj _ hi (by omega) hR.loop rfl) (hR.put _).defs⟩
end Go.Proofs.YtkdhmijebkhmaaaGreatDoor
/-
  A region that draws its order, within a fence that lets every function in, in a round or not: an operation that yields one value in every world that meets a condition, and leaves that world, may be taken first, if the condition holds behind every operation.
-/
namespace Go.Proofs.YtkdhmijebkhmaaaGreatDoor
open Go

section
variable {F : Fence} {n : Nat} {P : Program} {ops : Array Oper} {Q : Exit → Act → World → Prop} {md : Region.Mode} {S : World → Prop} {z : Nat}
def noDef (ops : Array Oper) : Bool := ops.all fun o => match o.op with | .defer _ => false | _ => true
theorem noDef_spec (h : noDef ops = true) {j : Nat} {o : Oper} (ho : ops[j]? = some o) : ∀ c, o.op ≠ .defer c := by
  intro c e
  have := Array.all_eq_true_iff_forall_mem.1 h o (Array.mem_of_getElem? ho)
  simp [e] at this
/-- Number z waits for number i (or there is no such number). -/
def waits (md : Region.Mode) (ops : Array Oper) (z i : Nat) : Bool := match ops[z]? with | some o => o.after.toList.any (fun e => Region.binds md e && e.on == i) | none => true
theorem waits_spec {z i : Nat} {o : Oper} (h : waits md ops z i = true) (ho : ops[z]? = some o) : ∃ e ∈ o.after, Region.binds md e = true ∧ e.on = i := by
  unfold waits at h
  rw [ho] at h
  obtain ⟨e, he, hb⟩ := List.any_eq_true.1 h
  simp at hb
  exact ⟨e, by simpa using he, hb.1, hb.2⟩
/-- Whatever order is picked from here on, the condition holding behind every operation but number z. -/
def anyH (F : Fence) (n : Nat) (P : Program) (md : Region.Mode) (ops : Array Oper) (Q : Exit → Act → World → Prop) (S : World → Prop) (z : Nat) : Nat → Array Bool → Act → World → Prop
  | 0, listed, a, w => Region.ready md ops listed = [] ∧ Q .normal a w
  | k + 1, listed, a, w => (Region.ready md ops listed = [] → Q .normal a w) ∧
      ∀ i ∈ Region.ready md ops listed, wpOpIn F n P ops Q i (fun a' w' => (i ≠ z → S w') ∧ anyH F n P md ops Q S z k (listed.setIfInBounds i true) a' w') a w
theorem any_of_anyH : ∀ (k : Nat) (listed : Array Bool) (a : Act) (w : World), anyH F n P md ops Q S z k listed a w → wpAnyIn F n P md ops Q k listed a w
  | 0, _, _, _, h => h
  | k + 1, _, _, _, h => ⟨h.1, fun i hi => wpOpIn_mono (fun a' w' h' => any_of_anyH k _ a' w' h'.2) (h.2 i hi)⟩
theorem op_of_yields (hF : ∀ f, F.fn f) {i : Nat} {o : Oper} {v : Value} {a : Act} (hi : ops[i]? = some o) (hnd : ∀ c, o.op ≠ .defer c) (hy : YieldsIf P ops S o v a) {K : Act → World → Prop} {w : World} (hS : S w) (h : K (a.put o.dst v) w) :
    wpOpIn F n P ops Q i K a w := by
  unfold wpOpIn
  simp only [hi]
  rcases hy with ⟨hw, hv⟩ | ⟨hw, rfl⟩
  · simp only [hw, if_true, Oper.wpIn, Oper.semAt_eq _ _ _ hnd, hv w hS, Oper.uponIn]
    exact ⟨fun f _ => hF f, h⟩
  · simp only [hw, Bool.false_eq_true, if_false]
    exact ⟨fun f _ => hF f, h⟩
/-- An operation that is apart from one that yields: it does not matter which comes first. -/
theorem op_swap (hF : ∀ f, F.fn f) {j : Nat} {oi oj : Oper} {v : Value} (hj : ops[j]? = some oj) (hnd : ∀ c, oj.op ≠ .defer c) (hap : oi.apart ops oj = true) (hsi : ∀ cs b, oi.op ≠ .select cs b) (hsj : ∀ cs b, oj.op ≠ .select cs b)
    (hQ : ∀ c a w, Q (.panic c) (a.put oi.dst v) w → Q (.panic c) a w) {K : Act → World → Prop} {a : Act} {w : World} (hy : YieldsIf P ops S oi v a) (h : wpOpIn F n P ops Q j K (a.put oi.dst v) w) :
    wpOpIn F n P ops Q j (fun a' w' => YieldsIf P ops S oi v a' ∧ K (a'.put oi.dst v) w') a w := by
  obtain ⟨h1, h2, h3⟩ := Oper.apart_spec hap
  have keep : ∀ a' : Act, YieldsIf P ops S oi v a' → ∀ u, YieldsIf P ops S oi v (a'.put oj.dst u) := fun a' hy' u => hy'.of_same (execOp_put oi hsi a' oj.dst u h3) (wanted_put oi a' oj.dst u h3)
  have comm : ∀ (u : Value) (w' : World), K ((a.put oi.dst v).put oj.dst u) w' → YieldsIf P ops S oi v (a.put oj.dst u) ∧ K ((a.put oj.dst u).put oi.dst v) w' := fun u w' hk => ⟨keep a hy u, by rw [← Act.put_comm a v u h2]; exact hk⟩
  unfold wpOpIn at h ⊢
  simp only [hj] at h ⊢
  rw [wanted_put oj a oi.dst v h1] at h
  by_cases hw : Region.wanted oj (yielded ops a.tmps) = true
  · rw [if_pos hw] at h ⊢
    refine ⟨fun f _ => hF f, ?_⟩
    have hr := h.2
    rw [Oper.semAt_eq _ _ _ hnd, execOp_put oj hsj a oi.dst v h1] at hr
    rw [Oper.semAt_eq _ _ _ hnd]
    generalize (execOp a.eval oj).run P w = r at hr ⊢
    cases r with
    | ok x w' =>
      cases x with
      | value u => exact comm u w' hr
      | skip => exact comm undef w' hr
      | defer d =>
        simp only [Oper.uponIn] at hr ⊢
        have hyd : YieldsIf P ops S oi v { a with defers := d :: a.defers } := hy.of_same rfl rfl
        refine ⟨keep _ hyd _, ?_⟩
        rw [← Act.put_comm _ v undef h2, ← Act.put_defers]
        exact hr
      | enter f args =>
        simp only [Oper.uponIn] at hr ⊢
        refine ⟨hr.1, CallsIn.mono hr.2 fun e w'' he => ?_⟩
        cases e with
        | returned u => exact comm u w'' he
        | panicked c => exact hQ _ _ _ he
        | outgrown => exact he
      | row row args =>
        simp only [Oper.uponIn] at hr ⊢
        exact ⟨hr.1, RowsIn.mono hr.2 fun u w'' he => comm u w'' he⟩
      | round l f tmps assign body =>
        simp only [Oper.uponIn] at hr ⊢
        refine ⟨hr.1, RoundIn.mono hr.2 fun e w'' he => ?_⟩
        cases e with
        | returned u => exact comm u w'' he
        | panicked c => exact hQ _ _ _ he
        | outgrown => exact he
      | _ => exact hr.elim
    | halt x w' =>
      cases x with
      | panic u => exact hQ _ _ _ hr
      | _ => exact hr.elim
  · rw [if_neg hw] at h ⊢
    exact ⟨fun f _ => hF f, comm undef w h.2⟩
theorem anyH_first (hF : ∀ f, F.fn f) (hnd : noDef ops = true) {i : Nat} {oi : Oper} {v : Value} (hzi : waits md ops z i = true) (hi : ops[i]? = some oi) (hsel : ∀ (j : Nat) (o : Oper) cs b, ops[j]? = some o → o.op ≠ .select cs b) (hQ : ∀ c a w, Q (.panic c) (a.put oi.dst v) w → Q (.panic c) a w) :
    ∀ (k : Nat) (listed : Array Bool) (a : Act) (w : World), (∀ j oj, ops[j]? = some oj → j ≠ i → listed.getD j true = false → (∀ e ∈ oj.after, Region.binds md e = true → e.on ≠ i) → oi.apart ops oj = true) →
      i ∈ Region.ready md ops listed → YieldsIf P ops S oi v a → S w → anyH F n P md ops Q S z k (listed.setIfInBounds i true) (a.put oi.dst v) w → anyH F n P md ops Q S z (k + 1) listed a w := by
  intro k
  induction k with
  | zero =>
    intro listed a w _ hr hy hS H
    refine ⟨fun h => (by rw [h] at hr; cases hr), fun j hj => ?_⟩
    by_cases hji : j = i
    · subst hji; exact op_of_yields hF hi (noDef_spec hnd hi) hy hS ⟨fun _ => hS, H⟩
    · have := ready_mono hj hji
      rw [H.1] at this; cases this
  | succ k ih =>
    intro listed a w hfree hr hy hS H
    refine ⟨fun h => (by rw [h] at hr; cases hr), fun j hj => ?_⟩
    by_cases hji : j = i
    · subst hji; exact op_of_yields hF hi (noDef_spec hnd hi) hy hS ⟨fun _ => hS, H⟩
    · obtain ⟨hjun, oj, hoj, hall⟩ := mem_ready.1 hj
      have hnot : ∀ e ∈ oj.after, Region.binds md e = true → e.on ≠ i := fun e he hb heq => by
        have g1 := hall e he hb
        have g0 := (mem_ready.1 hr).1
        rw [heq] at g1
        rcases Nat.lt_or_ge i listed.size with g | g
        · simp [g] at g0 g1; rw [g0] at g1; cases g1
        · simp [Array.getElem?_eq_none g] at g1
      have hsw := op_swap hF hoj (noDef_spec hnd hoj) (hfree j oj hoj hji hjun hnot) (fun cs b => hsel i oi cs b hi) (fun cs b => hsel j oj cs b hoj) hQ hy (H.2 j (ready_mono hj hji))
      have hjz : j ≠ z := fun e => by
        subst e
        obtain ⟨e, he, hb, hon⟩ := waits_spec hzi hoj
        exact hnot e he hb hon
      refine wpOpIn_mono (fun a' w' h3 => ⟨h3.2.1, ih _ a' w' (fun k' ok hk hki hun hno => hfree k' ok hk hki ?_ hno) (ready_mono hr (Ne.symm hji)) h3.1 (h3.2.1 hjz) ?_⟩) hsw
      · by_cases hjk : j = k'
        · subst hjk; exact hjun
        · rw [getD_set_ne true hjk] at hun; exact hun
      · rw [Array.setIfInBounds_comm _ _ hji]; exact h3.2.2
/-- Number i is taken first. -/
theorem anyH_take (hF : ∀ f, F.fn f) (hnd : noDef ops = true) {i : Nat} {oi : Oper} {v : Value} {d : Option Tmp} {k : Nat} {listed : Array Bool} {a : Act} {w : World} (hzi : waits md ops z i = true) (hi : ops[i]? = some oi) (hd : oi.dst = d) (hs : Region.noSelect ops = true) (hf : Region.free md ops listed i = true) (hr : (Region.ready md ops listed).contains i = true)
    (hQ : ∀ c a w, Q (.panic c) (a.put d v) w → Q (.panic c) a w) (hS : S w) (hy : YieldsIf P ops S oi v a) (h : anyH F n P md ops Q S z k (listed.setIfInBounds i true) (a.put d v) w) : anyH F n P md ops Q S z (k + 1) listed a w := by
  subst hd
  exact anyH_first hF hnd hzi hi (Region.noSelect_spec hs) hQ k listed a w (Region.free_spec hi hf) (by simpa using hr) hy hS h
theorem op_step {i : Nat} {o : Oper} {K : Act → World → Prop} {a : Act} {w : World} (ho : ops[i]? = some o) (hw : Region.wanted o (yielded ops a.tmps) = true) (h : o.wpIn F n P a w K Q) : wpOpIn F n P ops Q i K a w := by
  unfold wpOpIn
  simp only [ho, hw, if_true]
  exact h
/-- One operation alone may come up. -/
theorem anyH_one {i : Nat} {k : Nat} {listed : Array Bool} {a : Act} {w : World} (hr : Region.ready md ops listed = [i])
    (h : wpOpIn F n P ops Q i (fun a' w' => (i ≠ z → S w') ∧ anyH F n P md ops Q S z k (listed.setIfInBounds i true) a' w') a w) : anyH F n P md ops Q S z (k + 1) listed a w :=
  ⟨fun h0 => (by rw [hr] at h0; cases h0), fun j hj => (by rw [hr] at hj; obtain rfl := List.mem_singleton.1 hj; exact h)⟩
/-- One of two may come up. -/
theorem anyH_two {i j : Nat} {k : Nat} {listed : Array Bool} {a : Act} {w : World} (hr : Region.ready md ops listed = [i, j])
    (h : wpOpIn F n P ops Q i (fun a' w' => (i ≠ z → S w') ∧ anyH F n P md ops Q S z k (listed.setIfInBounds i true) a' w') a w) (h' : wpOpIn F n P ops Q j (fun a' w' => (j ≠ z → S w') ∧ anyH F n P md ops Q S z k (listed.setIfInBounds j true) a' w') a w) : anyH F n P md ops Q S z (k + 1) listed a w :=
  ⟨fun h0 => (by rw [hr] at h0; cases h0), fun x hx => (by
    rw [hr] at hx
    rcases List.mem_cons.1 hx with rfl | hx
    · exact h
    · obtain rfl := List.mem_singleton.1 hx; exact h')⟩
theorem anyH_done {listed : Array Bool} {a : Act} {w : World} (hr : Region.ready md ops listed = []) (h : Q .normal a w) : ∀ k, anyH F n P md ops Q S z k listed a w
  | 0 => ⟨hr, h⟩
  | _ + 1 => ⟨fun _ => h, by rw [hr]; simp⟩
/-- The beginning. -/
theorem region_anyH {id : Nat} {a : Act} {w : World} (hm : P.follows .mixedOrders = true) (h : anyH F n P .any ops Q S z ops.size (Array.replicate ops.size false) a w.drew) : (Code.region id ops true).wpIn F n P Q a w :=
  wpIn_region_any hm (any_of_anyH _ _ _ _ h)
end
/-- An operation in a round, within the widest fence, by the plain calculus. -/
theorem oper_plain {P : Program} {Q : Exit → Act → World → Prop} {l n : Nat} {o : Oper} {K : Act → World → Prop} {a : Act} {w : World} (hnd : ∀ c, o.op ≠ .defer c) (h : Oper.wp P o a w K Q) : o.wpIn (Fence.wide.inRound l) n P a w K Q := by
  refine ⟨fun _ _ => trivial, ?_⟩
  rw [Oper.semAt_eq _ _ _ hnd]
  unfold Oper.wp at h
  generalize (execOp a.eval o).run P w = r at h ⊢
  cases r with
  | ok x w' =>
    cases x with
    | value u => exact h
    | skip => exact h
    | defer d => exact h
    | enter f args => exact ⟨fun h0 => (by cases h0), (callsIn_wide (n := n - 1)).2 h⟩
    | row row args => exact ⟨fun h0 => (by cases h0), fun c cs _ => (by obtain ⟨v, w'', r, s⟩ := h c cs; exact ⟨v, w'', r, (stepsIn_wide).2 s⟩)⟩
    | _ => exact (h : False).elim
  | halt x w' =>
    cases x with
    | panic u => exact h
    | _ => exact (h : False).elim
theorem op_plain {P : Program} {ops : Array Oper} {Q : Exit → Act → World → Prop} {l n i : Nat} {o : Oper} {K : Act → World → Prop} {a : Act} {w : World} (ho : ops[i]? = some o) (hw : Region.wanted o (yielded ops a.tmps) = true) (hnd : ∀ c, o.op ≠ .defer c) (h : Oper.wp P o a w K Q) :
    wpOpIn (Fence.wide.inRound l) n P ops Q i K a w := op_step ho hw (oper_plain hnd h)
theorem list_plain {P : Program} {ops : Array Oper} {Q : Exit → Act → World → Prop} {l n : Nat} {o : Oper} {rest : List Oper} {a : Act} {w : World} (hg : o.guard = none) (hnd : ∀ c, o.op ≠ .defer c) (h : Oper.wp P o a w (wpListIn (Fence.wide.inRound l) n P ops Q rest) Q) :
    wpListIn (Fence.wide.inRound l) n P ops Q (o :: rest) a w := by
  show (if Region.wanted o (yielded ops a.tmps) then o.wpIn (Fence.wide.inRound l) n P a w (wpListIn (Fence.wide.inRound l) n P ops Q rest) Q else _)
  rw [if_pos (by simp [Region.wanted, hg])]
  exact oper_plain hnd h
end Go.Proofs.YtkdhmijebkhmaaaGreatDoor
/-
  The program's iterator below: a place and all places behind it that hang on it, each with its node; nothing that was there is turned.
-/
namespace Go.Proofs.YtkdhmijebkhmaaaGreatDoor
open Go.RowKit Go.Extern.Stop Go.Stop Go.Extern Num Go.Lib Go.Shelf
attribute [local go_sem] Oper.semAt_some

/-- A place and its node, as they are told. -/
abbrev encN (x : Int × Dat) : Array Value := #[.int .i64 x.1, .agg #[.int .i64 x.2.parent, .int .i64 x.2.kind, .int .i64 x.2.num, .string x.2.name]]
/-- The places from a on, up to e, each with its node. -/
def tellN (N : List Dat) (a : Nat) : Nat → List (Int × Dat)
  | 0 => []
  | m + 1 => tellN N a m ++ (match N[a + m]? with | some t => [(((a + m : Nat) : Int), t)] | none => [])
theorem tellN_next (N : List Dat) (a m : Nat) (h : a + m < N.length) : tellN N a (m + 1) = tellN N a m ++ [(((a + m : Nat) : Int), N[a + m])] := by
  simp [tellN, h]
theorem tellN_len (N : List Dat) (a : Nat) : ∀ m, a + m ≤ N.length → (tellN N a m).length = m
  | 0, _ => rfl
  | m + 1, h => by rw [tellN_next N a m (by omega), List.length_append, tellN_len N a m (by omega)]; rfl
theorem tellN_pre (N : List Dat) (a : Nat) : ∀ m k, k ≤ m → a + m ≤ N.length → tellN N a k <+: tellN N a m
  | 0, k, h, _ => by obtain rfl : k = 0 := by omega
                     exact List.prefix_refl _
  | m + 1, k, h, h2 => by
    by_cases e : k = m + 1
    · subst e; exact List.prefix_refl _
    · rw [tellN_next N a m (by omega)]
      exact (tellN_pre N a m k (by omega) (by omega)).trans (List.prefix_append _ _)
/-- Where what hangs on a place ends: e. -/
structure EndAt (N : List Dat) (a e : Nat) : Prop where
  lt : a < e
  le : e ≤ N.length
  inside : ∀ (j : Nat) (h : j < N.length), a < j → j < e → (a : Int) ≤ N[j].parent
  stop : ∀ (h : e < N.length), N[e].parent < (a : Int)
/-- What the region of a round reads. -/
def SB (ba bt tb g cap k a L : Nat) (t : Dat) (w' : World) : Prop := w'.cell? ⟨ba, 0, none⟩ = some (.int .i64 (a : Int)) ∧ w'.cell? ⟨bt, 0, none⟩ = some (.pointer (some ⟨tb, 0, none⟩)) ∧ w'.cell? ⟨tb, 0, none⟩ = some (.slice (some ⟨g, 0, none⟩) L cap) ∧ w'.cell? ⟨g, k * 4, none⟩ = some (.int .i64 t.parent) ∧ w'.cell? ⟨g, k * 4 + 1, none⟩ = some (.int .i64 t.kind) ∧ w'.cell? ⟨g, k * 4 + 2, none⟩ = some (.int .i64 t.num) ∧ w'.cell? ⟨g, k * 4 + 3, none⟩ = some (.string t.name)
theorem SB.keep {ba bt tb g cap k a L n₀ lo hi : Nat} {t : Dat} {w w' : World} (h : SB ba bt tb g cap k a L t w) (hk : Kpx n₀ lo hi w w') (h1 : lo ≤ bt) (h2 : bt < hi) (h3 : lo ≤ ba) (h4 : ba < hi) (h5 : tb < n₀) (h6 : g < n₀) : SB ba bt tb g cap k a L t w' := by
  obtain ⟨s0, s1, s2, s3, s4, s5, s6⟩ := h
  exact ⟨(hk.cell h3 h4).trans s0, (hk.cell h1 h2).trans s1, (hk.1.cell (p := ⟨tb, 0, none⟩) h5).trans s2, (hk.1.cell (p := ⟨g, k * 4, none⟩) h6).trans s3, (hk.1.cell (p := ⟨g, k * 4 + 1, none⟩) h6).trans s4, (hk.1.cell (p := ⟨g, k * 4 + 2, none⟩) h6).trans s5, (hk.1.cell (p := ⟨g, k * 4 + 3, none⟩) h6).trans s6⟩
set_option maxRecDepth 100000 in
set_option maxHeartbeats 4000000 in
theorem below1_in (F : Fence) (n : Nat) (hF : ∀ f, F.fn f) (hro : F.round = none) (hn : 2 ≤ n) (l ba bt n₀ lo hi tb : Nat) (N : List Dat) (a e : Nat) (hE : EndAt N a e) (hN : N.length ≤ 1000) (J Jx : List (Int × Dat) → World → Prop) (Pd : Int × Dat → Prop) (hPd : ∀ (k : Nat) (h : k < N.length), Pd ((k : Int), N[k]))
    (hY : ∀ pre x W, Pd x → J pre W → pre ++ [x] <+: tellN N a (e - a) → YieldAt F (n - 1) Tryz.prog l (encN x) W fun e W' =>
      ((e = .returned (.bool true) ∧ J (pre ++ [x]) W') ∨ (e = .returned (.bool false) ∧ Jx (pre ++ [x]) W')) ∧ Kpx n₀ lo hi W W')
    (hD : ∀ pre W, J pre W → J pre W.drew)
    (W : World) (hBa : W.cell? ⟨ba, 0, none⟩ = some (.int .i64 (a : Int))) (hBt : W.cell? ⟨bt, 0, none⟩ = some (.pointer (some ⟨tb, 0, none⟩))) (hlo : lo ≤ bt) (hhi : bt < hi) (hlo2 : lo ≤ ba) (hhi2 : ba < hi) (hT : IsTree n₀ W tb N) (h0 : J [] W) :
    CallsIn F n Tryz.prog 162 #[.func (.yield l) #[] #[], .pointer (some ⟨ba, 0, none⟩), .pointer (some ⟨bt, 0, none⟩)] W fun r W' => (∃ v, r = .returned v) ∧
      ((∃ ys, ys = tellN N a (e - a) ∧ J ys W') ∨ (∃ pre, pre <+: tellN N a (e - a) ∧ Jx pre W')) := by
  have hmx : Tryz.prog.follows .mixedOrders = true := by kernel_rfl
  have h1 : 1 ≤ n := by omega
  refine callsIn_of_wp Tryz.func162 rfl (hF _) ?_ hro
  simp only [Tryz.ntmps162, List.size_toArray, List.length_cons, List.length_nil, Nat.reduceAdd, Nat.reduceSub, Array.replicate_succ, Array.replicate_zero, List.push_toArray, List.append_toArray, List.nil_append, List.cons_append]
  gi_wp2
  gi_loopw [4] (fun i wr => ∃ m : Nat, i = .int .i64 ((a + m : Nat) : Int) ∧ a + m ≤ e ∧ J (tellN N a m) wr ∧ Kpx n₀ lo hi W wr)
    (fun i _ => N.length + 1 - (RowKit.intOf i).toNat)
  case atStart => exact ⟨0, rfl, by have := hE.lt; omega, h0, kpx_refl _ _ _ _⟩
  case round =>
    obtain ⟨m, rfl, hm, hJs, hnx⟩ := hrel
    obtain ⟨ao, g, cap, hc, htb, hg, hao, hrow⟩ := hT.below hnx.1
    have hca : wr.cell? ⟨ba, 0, none⟩ = some (.int .i64 (a : Int)) := (hnx.cell hlo2 hhi2).trans hBa
    have hct : wr.cell? ⟨bt, 0, none⟩ = some (.pointer (some ⟨tb, 0, none⟩)) := (hnx.cell hlo hhi).trans hBt
    have hT1 := hT.below hnx.1
    by_cases hend : a + m < N.length
    · obtain rfl := hao (by intro h; rw [h] at hend; simp at hend)
      obtain ⟨k, hk⟩ : ∃ k, k = a + m := ⟨_, rfl⟩
      rw [← hk] at hend hm ⊢
      have HK : Hid (k = a + m) := hk
      have HJ : Hid (J (tellN N a m) wr) := hJs
      have HX : Hid (Kpx n₀ lo hi W wr) := hnx
      have HE : Hid (EndAt N a e) := hE
      obtain ⟨c0, c1, c2, c3⟩ := hrow k hend
      obtain ⟨t, ht⟩ : ∃ t, t = N[k]'hend := ⟨_, rfl⟩
      have HT : Hid (t = N[k]'hend) := ht
      rw [← ht] at c0 c1 c2 c3
      clear hk hJs hnx hrow hao ht hE
      have hlt : (k : Int) < (N.length : Int) := by omega
      have hk0 : (0 : Int) ≤ (k : Int) := by omega
      by_cases hst : k < e
      · -- a round
        have HY : Hid (YieldAt F (n - 1) Tryz.prog l (encN ((k : Int), t)) wr.drew fun r W3 => ∃ b, r = .returned (.bool b) ∧ (((b = true ∧ J (tellN N a (m + 1)) W3) ∨ (b = false ∧ Jx (tellN N a (m + 1)) W3)) ∧ Kpx n₀ lo hi wr.drew W3)) := by
          have et : tellN N a (m + 1) = tellN N a m ++ [((k : Int), t)] := by
            have h1 := HK.out
            rw [tellN_next N a m (by omega), HT.out]
            subst h1
            rfl
          refine (hY _ ((k : Int), t) wr.drew (by rw [HT.out]; exact hPd k hend) (hD _ _ HJ.out) (by rw [← et]; exact tellN_pre N a (e - a) (m + 1) (by have := HK.out; omega) (by have := HE.out.le; have := HE.out.lt; omega))).mono ?_
          rw [et]
          rintro r W3 ⟨⟨h1, h2⟩ | ⟨h1, h2⟩, h3⟩
          · exact ⟨true, h1, .inl ⟨rfl, h2⟩, h3⟩
          · exact ⟨false, h1, .inr ⟨rfl, h2⟩, h3⟩
        obtain ⟨fn, tmps, assign, body, hy, hR'⟩ := HY.out
        clear HY hY hD
        by_cases hm0 : m = 0
        · have hle : ¬ ((a : Int) < (k : Int)) := by have := HK.out; omega
          have hd : decide ((a : Int) < (k : Int)) = false := decide_eq_false hle
          have hka : k ≤ a := by omega
          clear hm0
          gi_wp2_with (gi_at_call 139; refine (size_in F (n - 1) hF hro _ _ _ _ hT1).mono ?_; rintro e w' ⟨rfl, hw'⟩; replace hw' := hw'.symm; subst hw')
          refine region_anyH (z := 99) (S := (SB ba bt tb g cap k a N.length t)) hmx ?_
          have hS0 : (SB ba bt tb g cap k a N.length t) wr.drew := ⟨hca, hct, hc, c0, c1, c2, c3⟩
          refine anyH_take hF (by kernel_rfl) (i := 0) (v := ?_) (d := some 12) (by kernel_rfl) rfl rfl (by kernel_rfl) (by kernel_rfl) (by kernel_rfl) (fun _ _ _ h => h) hS0 (Or.inl ⟨by rfl, fun w hSw => ?_⟩) ?_
          rotate_left
          · obtain ⟨s0, s1, s2, s3, s4, s5, s6⟩ := hSw
            go_simp
            all_goals (try (first | with_reducible rfl | omega))
          try simp only [Act.put]
          try simp only [List.setIfInBounds_toArray]
          try simp only [List.set_cons_zero, List.set_cons_succ]
          refine anyH_take hF (by kernel_rfl) (i := 1) (v := ?_) (d := some 13) (by kernel_rfl) rfl rfl (by kernel_rfl) (by kernel_rfl) (by kernel_rfl) (fun _ _ _ h => h) hS0 (Or.inl ⟨by rfl, fun w hSw => ?_⟩) ?_
          rotate_left
          · obtain ⟨s0, s1, s2, s3, s4, s5, s6⟩ := hSw
            go_simp
            all_goals (try (first | with_reducible rfl | omega))
          try simp only [Act.put]
          try simp only [List.setIfInBounds_toArray]
          try simp only [List.set_cons_zero, List.set_cons_succ]
          refine anyH_take hF (by kernel_rfl) (i := 2) (v := .bool false) (d := some 14) (by kernel_rfl) rfl rfl (by kernel_rfl) (by kernel_rfl) (by kernel_rfl) (fun _ _ _ h => h) hS0 (Or.inl ⟨by rfl, fun w hSw => ?_⟩) ?_
          · obtain ⟨s0, s1, s2, s3, s4, s5, s6⟩ := hSw
            go_simp
            all_goals (try (first | with_reducible rfl | omega))
          try simp only [Act.put]
          try simp only [List.setIfInBounds_toArray]
          try simp only [List.set_cons_zero, List.set_cons_succ]
          refine anyH_take hF (by kernel_rfl) (i := 3) (v := .bool false) (d := some 15) (by kernel_rfl) rfl rfl (by kernel_rfl) (by kernel_rfl) (by kernel_rfl) (fun _ _ _ h => h) hS0 (Or.inl ⟨by rfl, fun w hSw => ?_⟩) ?_
          · obtain ⟨s0, s1, s2, s3, s4, s5, s6⟩ := hSw
            go_simp
            all_goals (try (first | with_reducible rfl | omega))
          try simp only [Act.put]
          try simp only [List.setIfInBounds_toArray]
          try simp only [List.set_cons_zero, List.set_cons_succ]
          refine anyH_take hF (by kernel_rfl) (i := 4) (v := undef) (d := some 16) (by kernel_rfl) rfl rfl (by kernel_rfl) (by kernel_rfl) (by kernel_rfl) (fun _ _ _ h => h) hS0 (Or.inr ⟨by rfl, rfl⟩) ?_
          try simp only [Act.put]
          try simp only [List.setIfInBounds_toArray]
          try simp only [List.set_cons_zero, List.set_cons_succ]
          refine anyH_take hF (by kernel_rfl) (i := 5) (v := undef) (d := some 17) (by kernel_rfl) rfl rfl (by kernel_rfl) (by kernel_rfl) (by kernel_rfl) (fun _ _ _ h => h) hS0 (Or.inr ⟨by rfl, rfl⟩) ?_
          try simp only [Act.put]
          try simp only [List.setIfInBounds_toArray]
          try simp only [List.set_cons_zero, List.set_cons_succ]
          refine anyH_take hF (by kernel_rfl) (i := 6) (v := undef) (d := some 18) (by kernel_rfl) rfl rfl (by kernel_rfl) (by kernel_rfl) (by kernel_rfl) (fun _ _ _ h => h) hS0 (Or.inr ⟨by rfl, rfl⟩) ?_
          try simp only [Act.put]
          try simp only [List.setIfInBounds_toArray]
          try simp only [List.set_cons_zero, List.set_cons_succ]
          refine anyH_take hF (by kernel_rfl) (i := 7) (v := undef) (d := some 19) (by kernel_rfl) rfl rfl (by kernel_rfl) (by kernel_rfl) (by kernel_rfl) (fun _ _ _ h => h) hS0 (Or.inr ⟨by rfl, rfl⟩) ?_
          try simp only [Act.put]
          try simp only [List.setIfInBounds_toArray]
          try simp only [List.set_cons_zero, List.set_cons_succ]
          refine anyH_take hF (by kernel_rfl) (i := 8) (v := undef) (d := some 20) (by kernel_rfl) rfl rfl (by kernel_rfl) (by kernel_rfl) (by kernel_rfl) (fun _ _ _ h => h) hS0 (Or.inr ⟨by rfl, rfl⟩) ?_
          try simp only [Act.put]
          try simp only [List.setIfInBounds_toArray]
          try simp only [List.set_cons_zero, List.set_cons_succ]
          refine anyH_take hF (by kernel_rfl) (i := 9) (v := undef) (d := some 21) (by kernel_rfl) rfl rfl (by kernel_rfl) (by kernel_rfl) (by kernel_rfl) (fun _ _ _ h => h) hS0 (Or.inr ⟨by rfl, rfl⟩) ?_
          try simp only [Act.put]
          try simp only [List.setIfInBounds_toArray]
          try simp only [List.set_cons_zero, List.set_cons_succ]
          refine anyH_take hF (by kernel_rfl) (i := 10) (v := undef) (d := some 22) (by kernel_rfl) rfl rfl (by kernel_rfl) (by kernel_rfl) (by kernel_rfl) (fun _ _ _ h => h) hS0 (Or.inr ⟨by rfl, rfl⟩) ?_
          try simp only [Act.put]
          try simp only [List.setIfInBounds_toArray]
          try simp only [List.set_cons_zero, List.set_cons_succ]
          refine anyH_take hF (by kernel_rfl) (i := 11) (v := undef) (d := some 23) (by kernel_rfl) rfl rfl (by kernel_rfl) (by kernel_rfl) (by kernel_rfl) (fun _ _ _ h => h) hS0 (Or.inr ⟨by rfl, rfl⟩) ?_
          try simp only [Act.put]
          try simp only [List.setIfInBounds_toArray]
          try simp only [List.set_cons_zero, List.set_cons_succ]
          refine anyH_take hF (by kernel_rfl) (i := 12) (v := undef) (d := some 24) (by kernel_rfl) rfl rfl (by kernel_rfl) (by kernel_rfl) (by kernel_rfl) (fun _ _ _ h => h) hS0 (Or.inr ⟨by rfl, rfl⟩) ?_
          try simp only [Act.put]
          try simp only [List.setIfInBounds_toArray]
          try simp only [List.set_cons_zero, List.set_cons_succ]
          refine anyH_take hF (by kernel_rfl) (i := 13) (v := undef) (d := some 25) (by kernel_rfl) rfl rfl (by kernel_rfl) (by kernel_rfl) (by kernel_rfl) (fun _ _ _ h => h) hS0 (Or.inr ⟨by rfl, rfl⟩) ?_
          try simp only [Act.put]
          try simp only [List.setIfInBounds_toArray]
          try simp only [List.set_cons_zero, List.set_cons_succ]
          refine anyH_take hF (by kernel_rfl) (i := 14) (v := .bool false) (d := some 26) (by kernel_rfl) rfl rfl (by kernel_rfl) (by kernel_rfl) (by kernel_rfl) (fun _ _ _ h => h) hS0 (Or.inl ⟨by rfl, fun w hSw => ?_⟩) ?_
          · obtain ⟨s0, s1, s2, s3, s4, s5, s6⟩ := hSw
            go_simp
            all_goals (try (first | with_reducible rfl | omega))
          try simp only [Act.put]
          try simp only [List.setIfInBounds_toArray]
          try simp only [List.set_cons_zero, List.set_cons_succ]
          refine anyH_take hF (by kernel_rfl) (i := 15) (v := .bool false) (d := some 27) (by kernel_rfl) rfl rfl (by kernel_rfl) (by kernel_rfl) (by kernel_rfl) (fun _ _ _ h => h) hS0 (Or.inl ⟨by rfl, fun w hSw => ?_⟩) ?_
          · obtain ⟨s0, s1, s2, s3, s4, s5, s6⟩ := hSw
            go_simp
            all_goals (try (first | with_reducible rfl | omega))
          try simp only [Act.put]
          try simp only [List.setIfInBounds_toArray]
          try simp only [List.set_cons_zero, List.set_cons_succ]
          refine anyH_take hF (by kernel_rfl) (i := 16) (v := ?_) (d := some 28) (by kernel_rfl) rfl rfl (by kernel_rfl) (by kernel_rfl) (by kernel_rfl) (fun _ _ _ h => h) hS0 (Or.inl ⟨by rfl, fun w hSw => ?_⟩) ?_
          rotate_left
          · obtain ⟨s0, s1, s2, s3, s4, s5, s6⟩ := hSw
            go_simp
            all_goals (try (first | with_reducible rfl | omega))
          try simp only [Act.put]
          try simp only [List.setIfInBounds_toArray]
          try simp only [List.set_cons_zero, List.set_cons_succ]
          refine anyH_take hF (by kernel_rfl) (i := 17) (v := ?_) (d := some 29) (by kernel_rfl) rfl rfl (by kernel_rfl) (by kernel_rfl) (by kernel_rfl) (fun _ _ _ h => h) hS0 (Or.inl ⟨by rfl, fun w hSw => ?_⟩) ?_
          rotate_left
          · obtain ⟨s0, s1, s2, s3, s4, s5, s6⟩ := hSw
            go_simp
            all_goals (try (first | with_reducible rfl | omega))
          try simp only [Act.put]
          try simp only [List.setIfInBounds_toArray]
          try simp only [List.set_cons_zero, List.set_cons_succ]
          refine anyH_take hF (by kernel_rfl) (i := 18) (v := ?_) (d := some 30) (by kernel_rfl) rfl rfl (by kernel_rfl) (by kernel_rfl) (by kernel_rfl) (fun _ _ _ h => h) hS0 (Or.inl ⟨by rfl, fun w hSw => ?_⟩) ?_
          rotate_left
          · obtain ⟨s0, s1, s2, s3, s4, s5, s6⟩ := hSw
            go_simp
            all_goals (try (first | with_reducible rfl | omega))
          try simp only [Act.put]
          try simp only [List.setIfInBounds_toArray]
          try simp only [List.set_cons_zero, List.set_cons_succ]
          refine anyH_take hF (by kernel_rfl) (i := 19) (v := ?_) (d := some 31) (by kernel_rfl) rfl rfl (by kernel_rfl) (by kernel_rfl) (by kernel_rfl) (fun _ _ _ h => h) hS0 (Or.inl ⟨by rfl, fun w hSw => ?_⟩) ?_
          rotate_left
          · obtain ⟨s0, s1, s2, s3, s4, s5, s6⟩ := hSw
            go_simp
            all_goals (try (first | with_reducible rfl | omega))
          try simp only [Act.put]
          try simp only [List.setIfInBounds_toArray]
          try simp only [List.set_cons_zero, List.set_cons_succ]
          refine anyH_take hF (by kernel_rfl) (i := 20) (v := ?_) (d := some 32) (by kernel_rfl) rfl rfl (by kernel_rfl) (by kernel_rfl) (by kernel_rfl) (fun _ _ _ h => h) hS0 (Or.inl ⟨by rfl, fun w hSw => ?_⟩) ?_
          rotate_left
          · obtain ⟨s0, s1, s2, s3, s4, s5, s6⟩ := hSw
            go_simp
            all_goals (try (first | with_reducible rfl | omega))
          try simp only [Act.put]
          try simp only [List.setIfInBounds_toArray]
          try simp only [List.set_cons_zero, List.set_cons_succ]
          refine anyH_take hF (by kernel_rfl) (i := 21) (v := ?_) (d := some 33) (by kernel_rfl) rfl rfl (by kernel_rfl) (by kernel_rfl) (by kernel_rfl) (fun _ _ _ h => h) hS0 (Or.inl ⟨by rfl, fun w hSw => ?_⟩) ?_
          rotate_left
          · obtain ⟨s0, s1, s2, s3, s4, s5, s6⟩ := hSw
            go_simp
            all_goals (try (first | with_reducible rfl | omega))
          try simp only [Act.put]
          try simp only [List.setIfInBounds_toArray]
          try simp only [List.set_cons_zero, List.set_cons_succ]
          refine anyH_take hF (by kernel_rfl) (i := 22) (v := ?_) (d := some 34) (by kernel_rfl) rfl rfl (by kernel_rfl) (by kernel_rfl) (by kernel_rfl) (fun _ _ _ h => h) hS0 (Or.inl ⟨by rfl, fun w hSw => ?_⟩) ?_
          rotate_left
          · obtain ⟨s0, s1, s2, s3, s4, s5, s6⟩ := hSw
            go_simp
            all_goals (try (first | with_reducible rfl | omega))
          try simp only [Act.put]
          try simp only [List.setIfInBounds_toArray]
          try simp only [List.set_cons_zero, List.set_cons_succ]
          refine anyH_take hF (by kernel_rfl) (i := 23) (v := ?_) (d := some 35) (by kernel_rfl) rfl rfl (by kernel_rfl) (by kernel_rfl) (by kernel_rfl) (fun _ _ _ h => h) hS0 (Or.inl ⟨by rfl, fun w hSw => ?_⟩) ?_
          rotate_left
          · obtain ⟨s0, s1, s2, s3, s4, s5, s6⟩ := hSw
            go_simp
            all_goals (try (first | with_reducible rfl | omega))
          try simp only [Act.put]
          try simp only [List.setIfInBounds_toArray]
          try simp only [List.set_cons_zero, List.set_cons_succ]
          refine anyH_take hF (by kernel_rfl) (i := 24) (v := ?_) (d := some 36) (by kernel_rfl) rfl rfl (by kernel_rfl) (by kernel_rfl) (by kernel_rfl) (fun _ _ _ h => h) hS0 (Or.inl ⟨by rfl, fun w hSw => ?_⟩) ?_
          rotate_left
          · obtain ⟨s0, s1, s2, s3, s4, s5, s6⟩ := hSw
            go_simp
            all_goals (try (first | with_reducible rfl | omega))
          try simp only [Act.put]
          try simp only [List.setIfInBounds_toArray]
          try simp only [List.set_cons_zero, List.set_cons_succ]
          refine anyH_one (i := 25) (by kernel_rfl) (op_step rfl (by rfl) ⟨fun f _ => hF f, ?_⟩)
          rw [hro, Oper.semAt_none]
          go_simp
          refine hR'.mono ?_
          rintro r W3 ⟨b, rfl, hpost, hk3⟩
          have hS1 : SB ba bt tb g cap k a N.length t W3 := hS0.keep hk3 hlo hhi hlo2 hhi2 htb hg
          refine ⟨(by first | exact hS1 | exact fun _ => hS1), ?_⟩
          clear hS0 hy hR'
          try simp only [Act.put]
          try simp only [List.setIfInBounds_toArray]
          try simp only [List.set_cons_zero, List.set_cons_succ]
          refine anyH_take hF (by kernel_rfl) (i := 26) (v := .bool (!b)) (d := some 38) (by kernel_rfl) rfl rfl (by kernel_rfl) (by kernel_rfl) (by kernel_rfl) (fun _ _ _ h => h) hS1 (Or.inl ⟨by rfl, fun w hSw => ?_⟩) ?_
          · obtain ⟨s0, s1, s2, s3, s4, s5, s6⟩ := hSw
            go_simp
            all_goals (try (first | with_reducible rfl | omega))
          try simp only [Act.put]
          try simp only [List.setIfInBounds_toArray]
          try simp only [List.set_cons_zero, List.set_cons_succ]
          refine anyH_take hF (by kernel_rfl) (i := 27) (v := .bool (!b)) (d := some 39) (by kernel_rfl) rfl rfl (by kernel_rfl) (by kernel_rfl) (by kernel_rfl) (fun _ _ _ h => h) hS1 (Or.inl ⟨by rfl, fun w hSw => ?_⟩) ?_
          · obtain ⟨s0, s1, s2, s3, s4, s5, s6⟩ := hSw
            go_simp
            all_goals (try (first | with_reducible rfl | omega))
          try simp only [Act.put]
          try simp only [List.setIfInBounds_toArray]
          try simp only [List.set_cons_zero, List.set_cons_succ]
          refine anyH_done (by kernel_rfl) ?_ _
          cases b
          · have hJx := hpost.elim (fun h => absurd h.1 (by simp)) (fun h => h.2)
            clear hpost
            gi_wp2
            refine bodyPost_ret (results_none rfl _ _ _) rfl ?_
            exact ⟨⟨_, rfl⟩, .inr ⟨_, tellN_pre N a (e - a) (m + 1) (by have := HK.out; omega) (by have := HE.out.le; have := HE.out.lt; omega), hJx⟩⟩
          · have hJ3 := hpost.elim (fun h => h.2) (fun h => absurd h.1 (by simp))
            clear hpost
            gi_wp2
            go_roundw
            case rel => exact ⟨m + 1, by have := HK.out; rw [show a + (m + 1) = k + 1 by omega]; simp, by have := HK.out; omega, hJ3, kpx_t HX.out (kpx_t (⟨(Below.refl _ _).drew, fun _ _ _ => rfl⟩ : Kpx n₀ lo hi wr wr.drew) hk3)⟩
            case measure => simp [RowKit.intOf]; omega
        · have hle : (a : Int) < (k : Int) := by have := HK.out; omega
          have hd : decide ((a : Int) < (k : Int)) = true := decide_eq_true hle
          have hpa : ¬ (t.parent < (a : Int)) := by have := HE.out.inside k hend (by have := HK.out; omega) hst; rw [← HT.out] at this; omega
          have hpd : decide (t.parent < (a : Int)) = false := decide_eq_false hpa
          have hka : a < k := by omega
          clear hm0
          gi_wp2_with (gi_at_call 139; refine (size_in F (n - 1) hF hro _ _ _ _ hT1).mono ?_; rintro e w' ⟨rfl, hw'⟩; replace hw' := hw'.symm; subst hw')
          refine region_anyH (z := 99) (S := (SB ba bt tb g cap k a N.length t)) hmx ?_
          have hS0 : (SB ba bt tb g cap k a N.length t) wr.drew := ⟨hca, hct, hc, c0, c1, c2, c3⟩
          refine anyH_take hF (by kernel_rfl) (i := 0) (v := ?_) (d := some 12) (by kernel_rfl) rfl rfl (by kernel_rfl) (by kernel_rfl) (by kernel_rfl) (fun _ _ _ h => h) hS0 (Or.inl ⟨by rfl, fun w hSw => ?_⟩) ?_
          rotate_left
          · obtain ⟨s0, s1, s2, s3, s4, s5, s6⟩ := hSw
            go_simp
            all_goals (try (first | with_reducible rfl | omega))
          try simp only [Act.put]
          try simp only [List.setIfInBounds_toArray]
          try simp only [List.set_cons_zero, List.set_cons_succ]
          refine anyH_take hF (by kernel_rfl) (i := 1) (v := ?_) (d := some 13) (by kernel_rfl) rfl rfl (by kernel_rfl) (by kernel_rfl) (by kernel_rfl) (fun _ _ _ h => h) hS0 (Or.inl ⟨by rfl, fun w hSw => ?_⟩) ?_
          rotate_left
          · obtain ⟨s0, s1, s2, s3, s4, s5, s6⟩ := hSw
            go_simp
            all_goals (try (first | with_reducible rfl | omega))
          try simp only [Act.put]
          try simp only [List.setIfInBounds_toArray]
          try simp only [List.set_cons_zero, List.set_cons_succ]
          refine anyH_take hF (by kernel_rfl) (i := 2) (v := .bool true) (d := some 14) (by kernel_rfl) rfl rfl (by kernel_rfl) (by kernel_rfl) (by kernel_rfl) (fun _ _ _ h => h) hS0 (Or.inl ⟨by rfl, fun w hSw => ?_⟩) ?_
          · obtain ⟨s0, s1, s2, s3, s4, s5, s6⟩ := hSw
            go_simp
            all_goals (try (first | with_reducible rfl | omega))
          try simp only [Act.put]
          try simp only [List.setIfInBounds_toArray]
          try simp only [List.set_cons_zero, List.set_cons_succ]
          refine anyH_take hF (by kernel_rfl) (i := 3) (v := .bool true) (d := some 15) (by kernel_rfl) rfl rfl (by kernel_rfl) (by kernel_rfl) (by kernel_rfl) (fun _ _ _ h => h) hS0 (Or.inl ⟨by rfl, fun w hSw => ?_⟩) ?_
          · obtain ⟨s0, s1, s2, s3, s4, s5, s6⟩ := hSw
            go_simp
            all_goals (try (first | with_reducible rfl | omega))
          try simp only [Act.put]
          try simp only [List.setIfInBounds_toArray]
          try simp only [List.set_cons_zero, List.set_cons_succ]
          refine anyH_take hF (by kernel_rfl) (i := 4) (v := ?_) (d := some 16) (by kernel_rfl) rfl rfl (by kernel_rfl) (by kernel_rfl) (by kernel_rfl) (fun _ _ _ h => h) hS0 (Or.inl ⟨by rfl, fun w hSw => ?_⟩) ?_
          rotate_left
          · obtain ⟨s0, s1, s2, s3, s4, s5, s6⟩ := hSw
            go_simp
            all_goals (try (first | with_reducible rfl | omega))
          try simp only [Act.put]
          try simp only [List.setIfInBounds_toArray]
          try simp only [List.set_cons_zero, List.set_cons_succ]
          refine anyH_take hF (by kernel_rfl) (i := 5) (v := ?_) (d := some 17) (by kernel_rfl) rfl rfl (by kernel_rfl) (by kernel_rfl) (by kernel_rfl) (fun _ _ _ h => h) hS0 (Or.inl ⟨by rfl, fun w hSw => ?_⟩) ?_
          rotate_left
          · obtain ⟨s0, s1, s2, s3, s4, s5, s6⟩ := hSw
            go_simp
            all_goals (try (first | with_reducible rfl | omega))
          try simp only [Act.put]
          try simp only [List.setIfInBounds_toArray]
          try simp only [List.set_cons_zero, List.set_cons_succ]
          refine anyH_take hF (by kernel_rfl) (i := 6) (v := ?_) (d := some 18) (by kernel_rfl) rfl rfl (by kernel_rfl) (by kernel_rfl) (by kernel_rfl) (fun _ _ _ h => h) hS0 (Or.inl ⟨by rfl, fun w hSw => ?_⟩) ?_
          rotate_left
          · obtain ⟨s0, s1, s2, s3, s4, s5, s6⟩ := hSw
            go_simp
            all_goals (try (first | with_reducible rfl | omega))
          try simp only [Act.put]
          try simp only [List.setIfInBounds_toArray]
          try simp only [List.set_cons_zero, List.set_cons_succ]
          refine anyH_take hF (by kernel_rfl) (i := 7) (v := ?_) (d := some 19) (by kernel_rfl) rfl rfl (by kernel_rfl) (by kernel_rfl) (by kernel_rfl) (fun _ _ _ h => h) hS0 (Or.inl ⟨by rfl, fun w hSw => ?_⟩) ?_
          rotate_left
          · obtain ⟨s0, s1, s2, s3, s4, s5, s6⟩ := hSw
            go_simp
            all_goals (try (first | with_reducible rfl | omega))
          try simp only [Act.put]
          try simp only [List.setIfInBounds_toArray]
          try simp only [List.set_cons_zero, List.set_cons_succ]
          refine anyH_take hF (by kernel_rfl) (i := 8) (v := ?_) (d := some 20) (by kernel_rfl) rfl rfl (by kernel_rfl) (by kernel_rfl) (by kernel_rfl) (fun _ _ _ h => h) hS0 (Or.inl ⟨by rfl, fun w hSw => ?_⟩) ?_
          rotate_left
          · obtain ⟨s0, s1, s2, s3, s4, s5, s6⟩ := hSw
            go_simp
            all_goals (try (first | with_reducible rfl | omega))
          try simp only [Act.put]
          try simp only [List.setIfInBounds_toArray]
          try simp only [List.set_cons_zero, List.set_cons_succ]
          refine anyH_take hF (by kernel_rfl) (i := 9) (v := ?_) (d := some 21) (by kernel_rfl) rfl rfl (by kernel_rfl) (by kernel_rfl) (by kernel_rfl) (fun _ _ _ h => h) hS0 (Or.inl ⟨by rfl, fun w hSw => ?_⟩) ?_
          rotate_left
          · obtain ⟨s0, s1, s2, s3, s4, s5, s6⟩ := hSw
            go_simp
            all_goals (try (first | with_reducible rfl | omega))
          try simp only [Act.put]
          try simp only [List.setIfInBounds_toArray]
          try simp only [List.set_cons_zero, List.set_cons_succ]
          refine anyH_take hF (by kernel_rfl) (i := 10) (v := ?_) (d := some 22) (by kernel_rfl) rfl rfl (by kernel_rfl) (by kernel_rfl) (by kernel_rfl) (fun _ _ _ h => h) hS0 (Or.inl ⟨by rfl, fun w hSw => ?_⟩) ?_
          rotate_left
          · obtain ⟨s0, s1, s2, s3, s4, s5, s6⟩ := hSw
            go_simp
            all_goals (try (first | with_reducible rfl | omega))
          try simp only [Act.put]
          try simp only [List.setIfInBounds_toArray]
          try simp only [List.set_cons_zero, List.set_cons_succ]
          refine anyH_take hF (by kernel_rfl) (i := 11) (v := ?_) (d := some 23) (by kernel_rfl) rfl rfl (by kernel_rfl) (by kernel_rfl) (by kernel_rfl) (fun _ _ _ h => h) hS0 (Or.inl ⟨by rfl, fun w hSw => ?_⟩) ?_
          rotate_left
          · obtain ⟨s0, s1, s2, s3, s4, s5, s6⟩ := hSw
            go_simp
            all_goals (try (first | with_reducible rfl | omega))
          try simp only [Act.put]
          try simp only [List.setIfInBounds_toArray]
          try simp only [List.set_cons_zero, List.set_cons_succ]
          refine anyH_take hF (by kernel_rfl) (i := 12) (v := ?_) (d := some 24) (by kernel_rfl) rfl rfl (by kernel_rfl) (by kernel_rfl) (by kernel_rfl) (fun _ _ _ h => h) hS0 (Or.inl ⟨by rfl, fun w hSw => ?_⟩) ?_
          rotate_left
          · obtain ⟨s0, s1, s2, s3, s4, s5, s6⟩ := hSw
            go_simp
            all_goals (try (first | with_reducible rfl | omega))
          try simp only [Act.put]
          try simp only [List.setIfInBounds_toArray]
          try simp only [List.set_cons_zero, List.set_cons_succ]
          refine anyH_take hF (by kernel_rfl) (i := 13) (v := .bool false) (d := some 25) (by kernel_rfl) rfl rfl (by kernel_rfl) (by kernel_rfl) (by kernel_rfl) (fun _ _ _ h => h) hS0 (Or.inl ⟨by rfl, fun w hSw => ?_⟩) ?_
          · obtain ⟨s0, s1, s2, s3, s4, s5, s6⟩ := hSw
            go_simp
            all_goals (try (first | with_reducible rfl | omega))
          try simp only [Act.put]
          try simp only [List.setIfInBounds_toArray]
          try simp only [List.set_cons_zero, List.set_cons_succ]
          refine anyH_take hF (by kernel_rfl) (i := 14) (v := .bool false) (d := some 26) (by kernel_rfl) rfl rfl (by kernel_rfl) (by kernel_rfl) (by kernel_rfl) (fun _ _ _ h => h) hS0 (Or.inl ⟨by rfl, fun w hSw => ?_⟩) ?_
          · obtain ⟨s0, s1, s2, s3, s4, s5, s6⟩ := hSw
            go_simp
            all_goals (try (first | with_reducible rfl | omega))
          try simp only [Act.put]
          try simp only [List.setIfInBounds_toArray]
          try simp only [List.set_cons_zero, List.set_cons_succ]
          refine anyH_take hF (by kernel_rfl) (i := 15) (v := .bool false) (d := some 27) (by kernel_rfl) rfl rfl (by kernel_rfl) (by kernel_rfl) (by kernel_rfl) (fun _ _ _ h => h) hS0 (Or.inl ⟨by rfl, fun w hSw => ?_⟩) ?_
          · obtain ⟨s0, s1, s2, s3, s4, s5, s6⟩ := hSw
            go_simp
            all_goals (try (first | with_reducible rfl | omega))
          try simp only [Act.put]
          try simp only [List.setIfInBounds_toArray]
          try simp only [List.set_cons_zero, List.set_cons_succ]
          refine anyH_take hF (by kernel_rfl) (i := 16) (v := ?_) (d := some 28) (by kernel_rfl) rfl rfl (by kernel_rfl) (by kernel_rfl) (by kernel_rfl) (fun _ _ _ h => h) hS0 (Or.inl ⟨by rfl, fun w hSw => ?_⟩) ?_
          rotate_left
          · obtain ⟨s0, s1, s2, s3, s4, s5, s6⟩ := hSw
            go_simp
            all_goals (try (first | with_reducible rfl | omega))
          try simp only [Act.put]
          try simp only [List.setIfInBounds_toArray]
          try simp only [List.set_cons_zero, List.set_cons_succ]
          refine anyH_take hF (by kernel_rfl) (i := 17) (v := ?_) (d := some 29) (by kernel_rfl) rfl rfl (by kernel_rfl) (by kernel_rfl) (by kernel_rfl) (fun _ _ _ h => h) hS0 (Or.inl ⟨by rfl, fun w hSw => ?_⟩) ?_
          rotate_left
          · obtain ⟨s0, s1, s2, s3, s4, s5, s6⟩ := hSw
            go_simp
            all_goals (try (first | with_reducible rfl | omega))
          try simp only [Act.put]
          try simp only [List.setIfInBounds_toArray]
          try simp only [List.set_cons_zero, List.set_cons_succ]
          refine anyH_take hF (by kernel_rfl) (i := 18) (v := ?_) (d := some 30) (by kernel_rfl) rfl rfl (by kernel_rfl) (by kernel_rfl) (by kernel_rfl) (fun _ _ _ h => h) hS0 (Or.inl ⟨by rfl, fun w hSw => ?_⟩) ?_
          rotate_left
          · obtain ⟨s0, s1, s2, s3, s4, s5, s6⟩ := hSw
            go_simp
            all_goals (try (first | with_reducible rfl | omega))
          try simp only [Act.put]
          try simp only [List.setIfInBounds_toArray]
          try simp only [List.set_cons_zero, List.set_cons_succ]
          refine anyH_take hF (by kernel_rfl) (i := 19) (v := ?_) (d := some 31) (by kernel_rfl) rfl rfl (by kernel_rfl) (by kernel_rfl) (by kernel_rfl) (fun _ _ _ h => h) hS0 (Or.inl ⟨by rfl, fun w hSw => ?_⟩) ?_
          rotate_left
          · obtain ⟨s0, s1, s2, s3, s4, s5, s6⟩ := hSw
            go_simp
            all_goals (try (first | with_reducible rfl | omega))
          try simp only [Act.put]
          try simp only [List.setIfInBounds_toArray]
          try simp only [List.set_cons_zero, List.set_cons_succ]
          refine anyH_take hF (by kernel_rfl) (i := 20) (v := ?_) (d := some 32) (by kernel_rfl) rfl rfl (by kernel_rfl) (by kernel_rfl) (by kernel_rfl) (fun _ _ _ h => h) hS0 (Or.inl ⟨by rfl, fun w hSw => ?_⟩) ?_
          rotate_left
          · obtain ⟨s0, s1, s2, s3, s4, s5, s6⟩ := hSw
            go_simp
            all_goals (try (first | with_reducible rfl | omega))
          try simp only [Act.put]
          try simp only [List.setIfInBounds_toArray]
          try simp only [List.set_cons_zero, List.set_cons_succ]
          refine anyH_take hF (by kernel_rfl) (i := 21) (v := ?_) (d := some 33) (by kernel_rfl) rfl rfl (by kernel_rfl) (by kernel_rfl) (by kernel_rfl) (fun _ _ _ h => h) hS0 (Or.inl ⟨by rfl, fun w hSw => ?_⟩) ?_
          rotate_left
          · obtain ⟨s0, s1, s2, s3, s4, s5, s6⟩ := hSw
            go_simp
            all_goals (try (first | with_reducible rfl | omega))
          try simp only [Act.put]
          try simp only [List.setIfInBounds_toArray]
          try simp only [List.set_cons_zero, List.set_cons_succ]
          refine anyH_take hF (by kernel_rfl) (i := 22) (v := ?_) (d := some 34) (by kernel_rfl) rfl rfl (by kernel_rfl) (by kernel_rfl) (by kernel_rfl) (fun _ _ _ h => h) hS0 (Or.inl ⟨by rfl, fun w hSw => ?_⟩) ?_
          rotate_left
          · obtain ⟨s0, s1, s2, s3, s4, s5, s6⟩ := hSw
            go_simp
            all_goals (try (first | with_reducible rfl | omega))
          try simp only [Act.put]
          try simp only [List.setIfInBounds_toArray]
          try simp only [List.set_cons_zero, List.set_cons_succ]
          refine anyH_take hF (by kernel_rfl) (i := 23) (v := ?_) (d := some 35) (by kernel_rfl) rfl rfl (by kernel_rfl) (by kernel_rfl) (by kernel_rfl) (fun _ _ _ h => h) hS0 (Or.inl ⟨by rfl, fun w hSw => ?_⟩) ?_
          rotate_left
          · obtain ⟨s0, s1, s2, s3, s4, s5, s6⟩ := hSw
            go_simp
            all_goals (try (first | with_reducible rfl | omega))
          try simp only [Act.put]
          try simp only [List.setIfInBounds_toArray]
          try simp only [List.set_cons_zero, List.set_cons_succ]
          refine anyH_take hF (by kernel_rfl) (i := 24) (v := ?_) (d := some 36) (by kernel_rfl) rfl rfl (by kernel_rfl) (by kernel_rfl) (by kernel_rfl) (fun _ _ _ h => h) hS0 (Or.inl ⟨by rfl, fun w hSw => ?_⟩) ?_
          rotate_left
          · obtain ⟨s0, s1, s2, s3, s4, s5, s6⟩ := hSw
            go_simp
            all_goals (try (first | with_reducible rfl | omega))
          try simp only [Act.put]
          try simp only [List.setIfInBounds_toArray]
          try simp only [List.set_cons_zero, List.set_cons_succ]
          refine anyH_one (i := 25) (by kernel_rfl) (op_step rfl (by rfl) ⟨fun f _ => hF f, ?_⟩)
          rw [hro, Oper.semAt_none]
          go_simp
          refine hR'.mono ?_
          rintro r W3 ⟨b, rfl, hpost, hk3⟩
          have hS1 : SB ba bt tb g cap k a N.length t W3 := hS0.keep hk3 hlo hhi hlo2 hhi2 htb hg
          refine ⟨(by first | exact hS1 | exact fun _ => hS1), ?_⟩
          clear hS0 hy hR'
          try simp only [Act.put]
          try simp only [List.setIfInBounds_toArray]
          try simp only [List.set_cons_zero, List.set_cons_succ]
          refine anyH_take hF (by kernel_rfl) (i := 26) (v := .bool (!b)) (d := some 38) (by kernel_rfl) rfl rfl (by kernel_rfl) (by kernel_rfl) (by kernel_rfl) (fun _ _ _ h => h) hS1 (Or.inl ⟨by rfl, fun w hSw => ?_⟩) ?_
          · obtain ⟨s0, s1, s2, s3, s4, s5, s6⟩ := hSw
            go_simp
            all_goals (try (first | with_reducible rfl | omega))
          try simp only [Act.put]
          try simp only [List.setIfInBounds_toArray]
          try simp only [List.set_cons_zero, List.set_cons_succ]
          refine anyH_take hF (by kernel_rfl) (i := 27) (v := .bool (!b)) (d := some 39) (by kernel_rfl) rfl rfl (by kernel_rfl) (by kernel_rfl) (by kernel_rfl) (fun _ _ _ h => h) hS1 (Or.inl ⟨by rfl, fun w hSw => ?_⟩) ?_
          · obtain ⟨s0, s1, s2, s3, s4, s5, s6⟩ := hSw
            go_simp
            all_goals (try (first | with_reducible rfl | omega))
          try simp only [Act.put]
          try simp only [List.setIfInBounds_toArray]
          try simp only [List.set_cons_zero, List.set_cons_succ]
          refine anyH_done (by kernel_rfl) ?_ _
          cases b
          · have hJx := hpost.elim (fun h => absurd h.1 (by simp)) (fun h => h.2)
            clear hpost
            gi_wp2
            refine bodyPost_ret (results_none rfl _ _ _) rfl ?_
            exact ⟨⟨_, rfl⟩, .inr ⟨_, tellN_pre N a (e - a) (m + 1) (by have := HK.out; omega) (by have := HE.out.le; have := HE.out.lt; omega), hJx⟩⟩
          · have hJ3 := hpost.elim (fun h => h.2) (fun h => absurd h.1 (by simp))
            clear hpost
            gi_wp2
            go_roundw
            case rel => exact ⟨m + 1, by have := HK.out; rw [show a + (m + 1) = k + 1 by omega]; simp, by have := HK.out; omega, hJ3, kpx_t HX.out (kpx_t (⟨(Below.refl _ _).drew, fun _ _ _ => rfl⟩ : Kpx n₀ lo hi wr wr.drew) hk3)⟩
            case measure => simp [RowKit.intOf]; omega
      · -- the first one that does not hang on it
        have hke : k = e := by omega
        have hle : (a : Int) < (k : Int) := by have := HE.out.lt; omega
        have hd : decide ((a : Int) < (k : Int)) = true := decide_eq_true hle
        have hpa : t.parent < (a : Int) := by
          have := HE.out.stop (by omega)
          have e1 : t = N[e]'(by omega) := by rw [HT.out]; simp only [hke]
          rw [← e1] at this; exact this
        have hpd : decide (t.parent < (a : Int)) = true := decide_eq_true hpa
        have hka : a < k := by omega
        have HJ2 : Hid (J (tellN N a (e - a)) wr.drew) := by
          have := hD _ _ HJ.out
          rw [show e - a = m by have := HK.out; omega]; exact this
        clear hke
        gi_wp2_with (gi_at_call 139; refine (size_in F (n - 1) hF hro _ _ _ _ hT1).mono ?_; rintro e w' ⟨rfl, hw'⟩; replace hw' := hw'.symm; subst hw')
        refine region_anyH (z := 99) (S := (SB ba bt tb g cap k a N.length t)) hmx ?_
        have hS0 : (SB ba bt tb g cap k a N.length t) wr.drew := ⟨hca, hct, hc, c0, c1, c2, c3⟩
        refine anyH_take hF (by kernel_rfl) (i := 0) (v := ?_) (d := some 12) (by kernel_rfl) rfl rfl (by kernel_rfl) (by kernel_rfl) (by kernel_rfl) (fun _ _ _ h => h) hS0 (Or.inl ⟨by rfl, fun w hSw => ?_⟩) ?_
        rotate_left
        · obtain ⟨s0, s1, s2, s3, s4, s5, s6⟩ := hSw
          go_simp
          all_goals (try (first | with_reducible rfl | omega))
        try simp only [Act.put]
        try simp only [List.setIfInBounds_toArray]
        try simp only [List.set_cons_zero, List.set_cons_succ]
        refine anyH_take hF (by kernel_rfl) (i := 1) (v := ?_) (d := some 13) (by kernel_rfl) rfl rfl (by kernel_rfl) (by kernel_rfl) (by kernel_rfl) (fun _ _ _ h => h) hS0 (Or.inl ⟨by rfl, fun w hSw => ?_⟩) ?_
        rotate_left
        · obtain ⟨s0, s1, s2, s3, s4, s5, s6⟩ := hSw
          go_simp
          all_goals (try (first | with_reducible rfl | omega))
        try simp only [Act.put]
        try simp only [List.setIfInBounds_toArray]
        try simp only [List.set_cons_zero, List.set_cons_succ]
        refine anyH_take hF (by kernel_rfl) (i := 2) (v := .bool true) (d := some 14) (by kernel_rfl) rfl rfl (by kernel_rfl) (by kernel_rfl) (by kernel_rfl) (fun _ _ _ h => h) hS0 (Or.inl ⟨by rfl, fun w hSw => ?_⟩) ?_
        · obtain ⟨s0, s1, s2, s3, s4, s5, s6⟩ := hSw
          go_simp
          all_goals (try (first | with_reducible rfl | omega))
        try simp only [Act.put]
        try simp only [List.setIfInBounds_toArray]
        try simp only [List.set_cons_zero, List.set_cons_succ]
        refine anyH_take hF (by kernel_rfl) (i := 3) (v := .bool true) (d := some 15) (by kernel_rfl) rfl rfl (by kernel_rfl) (by kernel_rfl) (by kernel_rfl) (fun _ _ _ h => h) hS0 (Or.inl ⟨by rfl, fun w hSw => ?_⟩) ?_
        · obtain ⟨s0, s1, s2, s3, s4, s5, s6⟩ := hSw
          go_simp
          all_goals (try (first | with_reducible rfl | omega))
        try simp only [Act.put]
        try simp only [List.setIfInBounds_toArray]
        try simp only [List.set_cons_zero, List.set_cons_succ]
        refine anyH_take hF (by kernel_rfl) (i := 4) (v := ?_) (d := some 16) (by kernel_rfl) rfl rfl (by kernel_rfl) (by kernel_rfl) (by kernel_rfl) (fun _ _ _ h => h) hS0 (Or.inl ⟨by rfl, fun w hSw => ?_⟩) ?_
        rotate_left
        · obtain ⟨s0, s1, s2, s3, s4, s5, s6⟩ := hSw
          go_simp
          all_goals (try (first | with_reducible rfl | omega))
        try simp only [Act.put]
        try simp only [List.setIfInBounds_toArray]
        try simp only [List.set_cons_zero, List.set_cons_succ]
        refine anyH_take hF (by kernel_rfl) (i := 5) (v := ?_) (d := some 17) (by kernel_rfl) rfl rfl (by kernel_rfl) (by kernel_rfl) (by kernel_rfl) (fun _ _ _ h => h) hS0 (Or.inl ⟨by rfl, fun w hSw => ?_⟩) ?_
        rotate_left
        · obtain ⟨s0, s1, s2, s3, s4, s5, s6⟩ := hSw
          go_simp
          all_goals (try (first | with_reducible rfl | omega))
        try simp only [Act.put]
        try simp only [List.setIfInBounds_toArray]
        try simp only [List.set_cons_zero, List.set_cons_succ]
        refine anyH_take hF (by kernel_rfl) (i := 6) (v := ?_) (d := some 18) (by kernel_rfl) rfl rfl (by kernel_rfl) (by kernel_rfl) (by kernel_rfl) (fun _ _ _ h => h) hS0 (Or.inl ⟨by rfl, fun w hSw => ?_⟩) ?_
        rotate_left
        · obtain ⟨s0, s1, s2, s3, s4, s5, s6⟩ := hSw
          go_simp
          all_goals (try (first | with_reducible rfl | omega))
        try simp only [Act.put]
        try simp only [List.setIfInBounds_toArray]
        try simp only [List.set_cons_zero, List.set_cons_succ]
        refine anyH_take hF (by kernel_rfl) (i := 7) (v := ?_) (d := some 19) (by kernel_rfl) rfl rfl (by kernel_rfl) (by kernel_rfl) (by kernel_rfl) (fun _ _ _ h => h) hS0 (Or.inl ⟨by rfl, fun w hSw => ?_⟩) ?_
        rotate_left
        · obtain ⟨s0, s1, s2, s3, s4, s5, s6⟩ := hSw
          go_simp
          all_goals (try (first | with_reducible rfl | omega))
        try simp only [Act.put]
        try simp only [List.setIfInBounds_toArray]
        try simp only [List.set_cons_zero, List.set_cons_succ]
        refine anyH_take hF (by kernel_rfl) (i := 8) (v := ?_) (d := some 20) (by kernel_rfl) rfl rfl (by kernel_rfl) (by kernel_rfl) (by kernel_rfl) (fun _ _ _ h => h) hS0 (Or.inl ⟨by rfl, fun w hSw => ?_⟩) ?_
        rotate_left
        · obtain ⟨s0, s1, s2, s3, s4, s5, s6⟩ := hSw
          go_simp
          all_goals (try (first | with_reducible rfl | omega))
        try simp only [Act.put]
        try simp only [List.setIfInBounds_toArray]
        try simp only [List.set_cons_zero, List.set_cons_succ]
        refine anyH_take hF (by kernel_rfl) (i := 9) (v := ?_) (d := some 21) (by kernel_rfl) rfl rfl (by kernel_rfl) (by kernel_rfl) (by kernel_rfl) (fun _ _ _ h => h) hS0 (Or.inl ⟨by rfl, fun w hSw => ?_⟩) ?_
        rotate_left
        · obtain ⟨s0, s1, s2, s3, s4, s5, s6⟩ := hSw
          go_simp
          all_goals (try (first | with_reducible rfl | omega))
        try simp only [Act.put]
        try simp only [List.setIfInBounds_toArray]
        try simp only [List.set_cons_zero, List.set_cons_succ]
        refine anyH_take hF (by kernel_rfl) (i := 10) (v := ?_) (d := some 22) (by kernel_rfl) rfl rfl (by kernel_rfl) (by kernel_rfl) (by kernel_rfl) (fun _ _ _ h => h) hS0 (Or.inl ⟨by rfl, fun w hSw => ?_⟩) ?_
        rotate_left
        · obtain ⟨s0, s1, s2, s3, s4, s5, s6⟩ := hSw
          go_simp
          all_goals (try (first | with_reducible rfl | omega))
        try simp only [Act.put]
        try simp only [List.setIfInBounds_toArray]
        try simp only [List.set_cons_zero, List.set_cons_succ]
        refine anyH_take hF (by kernel_rfl) (i := 11) (v := ?_) (d := some 23) (by kernel_rfl) rfl rfl (by kernel_rfl) (by kernel_rfl) (by kernel_rfl) (fun _ _ _ h => h) hS0 (Or.inl ⟨by rfl, fun w hSw => ?_⟩) ?_
        rotate_left
        · obtain ⟨s0, s1, s2, s3, s4, s5, s6⟩ := hSw
          go_simp
          all_goals (try (first | with_reducible rfl | omega))
        try simp only [Act.put]
        try simp only [List.setIfInBounds_toArray]
        try simp only [List.set_cons_zero, List.set_cons_succ]
        refine anyH_take hF (by kernel_rfl) (i := 12) (v := ?_) (d := some 24) (by kernel_rfl) rfl rfl (by kernel_rfl) (by kernel_rfl) (by kernel_rfl) (fun _ _ _ h => h) hS0 (Or.inl ⟨by rfl, fun w hSw => ?_⟩) ?_
        rotate_left
        · obtain ⟨s0, s1, s2, s3, s4, s5, s6⟩ := hSw
          go_simp
          all_goals (try (first | with_reducible rfl | omega))
        try simp only [Act.put]
        try simp only [List.setIfInBounds_toArray]
        try simp only [List.set_cons_zero, List.set_cons_succ]
        refine anyH_take hF (by kernel_rfl) (i := 13) (v := .bool true) (d := some 25) (by kernel_rfl) rfl rfl (by kernel_rfl) (by kernel_rfl) (by kernel_rfl) (fun _ _ _ h => h) hS0 (Or.inl ⟨by rfl, fun w hSw => ?_⟩) ?_
        · obtain ⟨s0, s1, s2, s3, s4, s5, s6⟩ := hSw
          go_simp
          all_goals (try (first | with_reducible rfl | omega))
        try simp only [Act.put]
        try simp only [List.setIfInBounds_toArray]
        try simp only [List.set_cons_zero, List.set_cons_succ]
        refine anyH_take hF (by kernel_rfl) (i := 14) (v := .bool true) (d := some 26) (by kernel_rfl) rfl rfl (by kernel_rfl) (by kernel_rfl) (by kernel_rfl) (fun _ _ _ h => h) hS0 (Or.inl ⟨by rfl, fun w hSw => ?_⟩) ?_
        · obtain ⟨s0, s1, s2, s3, s4, s5, s6⟩ := hSw
          go_simp
          all_goals (try (first | with_reducible rfl | omega))
        try simp only [Act.put]
        try simp only [List.setIfInBounds_toArray]
        try simp only [List.set_cons_zero, List.set_cons_succ]
        refine anyH_take hF (by kernel_rfl) (i := 15) (v := .bool true) (d := some 27) (by kernel_rfl) rfl rfl (by kernel_rfl) (by kernel_rfl) (by kernel_rfl) (fun _ _ _ h => h) hS0 (Or.inl ⟨by rfl, fun w hSw => ?_⟩) ?_
        · obtain ⟨s0, s1, s2, s3, s4, s5, s6⟩ := hSw
          go_simp
          all_goals (try (first | with_reducible rfl | omega))
        try simp only [Act.put]
        try simp only [List.setIfInBounds_toArray]
        try simp only [List.set_cons_zero, List.set_cons_succ]
        refine anyH_take hF (by kernel_rfl) (i := 16) (v := undef) (d := some 28) (by kernel_rfl) rfl rfl (by kernel_rfl) (by kernel_rfl) (by kernel_rfl) (fun _ _ _ h => h) hS0 (Or.inr ⟨by rfl, rfl⟩) ?_
        try simp only [Act.put]
        try simp only [List.setIfInBounds_toArray]
        try simp only [List.set_cons_zero, List.set_cons_succ]
        refine anyH_take hF (by kernel_rfl) (i := 17) (v := undef) (d := some 29) (by kernel_rfl) rfl rfl (by kernel_rfl) (by kernel_rfl) (by kernel_rfl) (fun _ _ _ h => h) hS0 (Or.inr ⟨by rfl, rfl⟩) ?_
        try simp only [Act.put]
        try simp only [List.setIfInBounds_toArray]
        try simp only [List.set_cons_zero, List.set_cons_succ]
        refine anyH_take hF (by kernel_rfl) (i := 18) (v := undef) (d := some 30) (by kernel_rfl) rfl rfl (by kernel_rfl) (by kernel_rfl) (by kernel_rfl) (fun _ _ _ h => h) hS0 (Or.inr ⟨by rfl, rfl⟩) ?_
        try simp only [Act.put]
        try simp only [List.setIfInBounds_toArray]
        try simp only [List.set_cons_zero, List.set_cons_succ]
        refine anyH_take hF (by kernel_rfl) (i := 19) (v := undef) (d := some 31) (by kernel_rfl) rfl rfl (by kernel_rfl) (by kernel_rfl) (by kernel_rfl) (fun _ _ _ h => h) hS0 (Or.inr ⟨by rfl, rfl⟩) ?_
        try simp only [Act.put]
        try simp only [List.setIfInBounds_toArray]
        try simp only [List.set_cons_zero, List.set_cons_succ]
        refine anyH_take hF (by kernel_rfl) (i := 20) (v := undef) (d := some 32) (by kernel_rfl) rfl rfl (by kernel_rfl) (by kernel_rfl) (by kernel_rfl) (fun _ _ _ h => h) hS0 (Or.inr ⟨by rfl, rfl⟩) ?_
        try simp only [Act.put]
        try simp only [List.setIfInBounds_toArray]
        try simp only [List.set_cons_zero, List.set_cons_succ]
        refine anyH_take hF (by kernel_rfl) (i := 21) (v := undef) (d := some 33) (by kernel_rfl) rfl rfl (by kernel_rfl) (by kernel_rfl) (by kernel_rfl) (fun _ _ _ h => h) hS0 (Or.inr ⟨by rfl, rfl⟩) ?_
        try simp only [Act.put]
        try simp only [List.setIfInBounds_toArray]
        try simp only [List.set_cons_zero, List.set_cons_succ]
        refine anyH_take hF (by kernel_rfl) (i := 22) (v := undef) (d := some 34) (by kernel_rfl) rfl rfl (by kernel_rfl) (by kernel_rfl) (by kernel_rfl) (fun _ _ _ h => h) hS0 (Or.inr ⟨by rfl, rfl⟩) ?_
        try simp only [Act.put]
        try simp only [List.setIfInBounds_toArray]
        try simp only [List.set_cons_zero, List.set_cons_succ]
        refine anyH_take hF (by kernel_rfl) (i := 23) (v := undef) (d := some 35) (by kernel_rfl) rfl rfl (by kernel_rfl) (by kernel_rfl) (by kernel_rfl) (fun _ _ _ h => h) hS0 (Or.inr ⟨by rfl, rfl⟩) ?_
        try simp only [Act.put]
        try simp only [List.setIfInBounds_toArray]
        try simp only [List.set_cons_zero, List.set_cons_succ]
        refine anyH_take hF (by kernel_rfl) (i := 24) (v := undef) (d := some 36) (by kernel_rfl) rfl rfl (by kernel_rfl) (by kernel_rfl) (by kernel_rfl) (fun _ _ _ h => h) hS0 (Or.inr ⟨by rfl, rfl⟩) ?_
        try simp only [Act.put]
        try simp only [List.setIfInBounds_toArray]
        try simp only [List.set_cons_zero, List.set_cons_succ]
        refine anyH_take hF (by kernel_rfl) (i := 25) (v := undef) (d := some 37) (by kernel_rfl) rfl rfl (by kernel_rfl) (by kernel_rfl) (by kernel_rfl) (fun _ _ _ h => h) hS0 (Or.inr ⟨by rfl, rfl⟩) ?_
        try simp only [Act.put]
        try simp only [List.setIfInBounds_toArray]
        try simp only [List.set_cons_zero, List.set_cons_succ]
        refine anyH_take hF (by kernel_rfl) (i := 26) (v := undef) (d := some 38) (by kernel_rfl) rfl rfl (by kernel_rfl) (by kernel_rfl) (by kernel_rfl) (fun _ _ _ h => h) hS0 (Or.inr ⟨by rfl, rfl⟩) ?_
        try simp only [Act.put]
        try simp only [List.setIfInBounds_toArray]
        try simp only [List.set_cons_zero, List.set_cons_succ]
        refine anyH_take hF (by kernel_rfl) (i := 27) (v := .bool true) (d := some 39) (by kernel_rfl) rfl rfl (by kernel_rfl) (by kernel_rfl) (by kernel_rfl) (fun _ _ _ h => h) hS0 (Or.inl ⟨by rfl, fun w hSw => ?_⟩) ?_
        · obtain ⟨s0, s1, s2, s3, s4, s5, s6⟩ := hSw
          go_simp
          all_goals (try (first | with_reducible rfl | omega))
        try simp only [Act.put]
        try simp only [List.setIfInBounds_toArray]
        try simp only [List.set_cons_zero, List.set_cons_succ]
        refine anyH_done (by kernel_rfl) ?_ _
        gi_wp2
        refine bodyPost_ret (results_none rfl _ _ _) rfl ?_
        exact ⟨⟨_, rfl⟩, .inl ⟨_, rfl, HJ2.out⟩⟩
    · have hlt : ¬ (((a + m : Nat) : Int) < (N.length : Int)) := by omega
      have HJ2 : Hid (J (tellN N a (e - a)) wr) := by
        rw [show e - a = m by have := hE.le; omega]; exact hJs
      clear hJs hY hD
      gi_wp2_with (gi_at_call 139; refine (size_in F (n - 1) hF hro _ _ _ _ hT1).mono ?_; rintro e w' ⟨rfl, hw'⟩; replace hw' := hw'.symm; subst hw')
      go_end0
      exact ⟨⟨_, rfl⟩, .inl ⟨_, rfl, HJ2.out⟩⟩
end Go.Proofs.YtkdhmijebkhmaaaGreatDoor
