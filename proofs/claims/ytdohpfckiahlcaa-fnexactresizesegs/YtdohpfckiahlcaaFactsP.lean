/-
  A region that draws its order, by facts, as in Facts; and what is counted: each operation may use up so much of a budget, whatever the order.
-/
import Derived.Test.YtdohpfckiahlcaaFacts
namespace Go.Proofs.Ytdohpfckiahlcaa
open Go

section
variable {P : Program} {ops : Array Oper} {Q : Exit → Act → World → Prop}

/-- What those that are listed use up. -/
def sumP (c : Nat → Nat) (L : Nat → Bool) : Nat → Nat
  | 0 => 0
  | k + 1 => sumP c L k + (if L k then c k else 0)
theorem sumP_same (c : Nat → Nat) (L L' : Nat → Bool) : ∀ k, (∀ j < k, L j = L' j) → sumP c L k = sumP c L' k
  | 0, _ => rfl
  | k + 1, h => by rw [sumP, sumP, sumP_same c L L' k (fun j hj => h j (by omega)), h k (by omega)]
theorem sumP_more (c : Nat → Nat) (L : Nat → Bool) (i : Nat) (hL : L i = false) : ∀ k, i < k → sumP c (moreF L i) k = sumP c L k + c i
  | 0, h => by omega
  | k + 1, h => by
    rw [sumP, sumP]
    by_cases hk : k = i
    · subst hk
      rw [sumP_same c (moreF L k) L k (fun j hj => by simp [moreF, Nat.ne_of_lt hj]), hL]
      simp [moreF]
    · have := sumP_more c L i hL k (by omega)
      simp only [moreF, hk, if_false] at this ⊢
      omega
theorem sumP_le (c : Nat → Nat) (L : Nat → Bool) : ∀ k, sumP c L k ≤ sumP c (fun _ => true) k
  | 0 => Nat.le_refl _
  | k + 1 => by rw [sumP, sumP]; have := sumP_le c L k; simp only [if_true]; split <;> omega
theorem sumP_none (c : Nat → Nat) : ∀ k, sumP c (fun _ => false) k = 0
  | 0 => rfl
  | k + 1 => by rw [sumP, sumP_none c k]; simp
/-- The law. -/
theorem any_factsP {z : Nat} (hok : FactsOk ops z) {a0 : Act} {c : Nat → Nat} {T : Nat} (hT : sumP c (fun _ => true) ops.size = T) {B : Nat → World → Prop} {G : World → World → Prop} {F : Nat → Value → World → Prop}
    (hF : ∀ i v w w', F i v w → G w w' → F i v w')
    (step : ∀ i o, ops[i]? = some o → i ≠ z → ∀ vs w p, p + c i ≤ T → B p w → (∀ j, depB ops i j = true → F j (vs j) w) → ∀ K : Act → World → Prop, (∀ v w', B (p + c i) w' → G w w' → F i v w' → K ((fillA a0 ops (depB ops i) vs ops.size).put o.dst v) w') → if Region.wanted o (yielded ops (fillA a0 ops (depB ops i) vs ops.size).tmps) = true then Oper.wp P o (fillA a0 ops (depB ops i) vs ops.size) w K NoQ else K ((fillA a0 ops (depB ops i) vs ops.size).put o.dst undef) w)
    (last : ∀ vs w p, p ≤ T → B p w → (∀ j, j < ops.size → j ≠ z → F j (vs j) w) → wpOp P ops Q z (fun b w' => Q .normal b w') (fillA a0 ops (fun j => j != z) vs ops.size) w) :
    ∀ (fuel : Nat) (listed : Array Bool) (vs : Nat → Value) (w : World), listed.size = ops.size → leftF (fun j => listed.getD j false) ops.size ≤ fuel → listed.getD z false = false → (∀ i j, listed.getD i false = true → depB ops i j = true → listed.getD j false = true) → B (sumP c (fun j => listed.getD j false) ops.size) w → (∀ j, j < ops.size → listed.getD j false = true → F j (vs j) w) → wpAny P .any ops Q fuel listed (fillA a0 ops (fun j => listed.getD j false) vs ops.size) w := by
  have leT : ∀ listed : Array Bool, sumP c (fun j => listed.getD j false) ops.size ≤ T := fun listed => by rw [← hT]; exact sumP_le c _ _
  have fin : ∀ (listed : Array Bool) (vs : Nat → Value) (w : World), listed.getD z false = false → B (sumP c (fun j => listed.getD j false) ops.size) w → (∀ j, j < ops.size → listed.getD j false = true → F j (vs j) w) → (∀ j, j < ops.size → j ≠ z → listed.getD j false = true) → wpOp P ops Q z (fun b w' => Q .normal b w') (fillA a0 ops (fun j => listed.getD j false) vs ops.size) w := fun listed vs w hz hb hf hall => by
    rw [fillA_ext a0 ops (fun j => listed.getD j false) (fun j => j != z) vs vs ops.size (fun j hj => ⟨by
      by_cases e : j = z
      · subst e; simp only [hz]; simp
      · simp [hall j hj e, e], fun _ => rfl⟩)]
    exact last vs w _ (leT listed) hb (fun j hj e => hf j hj (hall j hj e))
  have endz : ∀ (listed : Array Bool) (vs : Nat → Value) (w : World), listed.size = ops.size → listed.getD z false = false → B (sumP c (fun j => listed.getD j false) ops.size) w → (∀ j, j < ops.size → listed.getD j false = true → F j (vs j) w) → Region.ready .any ops listed = [] → Q .normal (fillA a0 ops (fun j => listed.getD j false) vs ops.size) w := fun listed vs w hs hz hb hf hr => by
    have hall := allF_listed hok hs hr
    have hzn : ¬ z < ops.size := fun h => by rw [hall z h] at hz; cases hz
    have := fin listed vs w hz hb hf (fun j hj _ => hall j hj)
    unfold wpOp at this
    rw [Array.getElem?_eq_none (Nat.le_of_not_lt hzn)] at this
    exact this
  intro fuel
  induction fuel with
  | zero =>
    intro listed vs w hs hl hz hdc hb hf
    have hall := leftF_zero _ _ (Nat.le_zero.1 hl)
    have hr : Region.ready .any ops listed = [] := List.eq_nil_iff_forall_not_mem.2 (fun j hj => by
      have h := (memF_ready hs).1 hj
      have := hall j h.1
      simp only [h.2.1] at this
      cases this)
    exact ⟨hr, endz listed vs w hs hz hb hf hr⟩
  | succ fuel ih =>
    intro listed vs w hs hl hz hdc hb hf
    refine ⟨endz listed vs w hs hz hb hf, fun i hi => ?_⟩
    obtain ⟨hin, hiu, hid⟩ := (memF_ready hs).1 hi
    obtain ⟨o, ho⟩ : ∃ o, ops[i]? = some o := ⟨_, Array.getElem?_eq_getElem hin⟩
    have hdo : dstAt ops i = o.dst := by unfold dstAt; rw [ho]; rfl
    by_cases hiz : i = z
    · subst hiz
      have hall : ∀ d j, ops.size - j ≤ d → j < ops.size → j ≠ i → listed.getD j false = true := by
        intro d
        induction d with
        | zero => intro j h1 h2; omega
        | succ d ihd =>
          intro j h1 h2 h3
          obtain ⟨k, hk, hd⟩ := hok.sink hin j h2 h3
          by_cases hki : k = i
          · subst hki; exact hid j hd
          · have := hok.dep k j hd
            exact hdc k j (ihd k (by omega) hk hki) hd
      refine wpOp_mono (fun a' w' h => ?_) (fin listed vs w hz hb hf (fun j hj e => hall _ j (Nat.le_refl _) hj e))
      have hr : Region.ready .any ops (listed.setIfInBounds i true) = [] := List.eq_nil_iff_forall_not_mem.2 (fun j hj => by
        have hj' := (memF_ready (by simp [hs])).1 hj
        have := hj'.2.1
        rw [getDF_more (by omega)] at this
        simp only [moreF] at this
        by_cases e : j = i
        · simp [e] at this
        · rw [if_neg e, hall _ j (Nat.le_refl _) hj'.1 e] at this; cases this)
      cases fuel with
      | zero => exact ⟨hr, h⟩
      | succ f => exact ⟨fun _ => h, fun j hj => by rw [hr] at hj; cases hj⟩
    · have e2 : (moreF (fun j => listed.getD j false) i) = fun j => (listed.setIfInBounds i true).getD j false := funext fun j => (getDF_more (by omega) j).symm
      have e3 : sumP c (fun j => (listed.setIfInBounds i true).getD j false) ops.size = sumP c (fun j => listed.getD j false) ops.size + c i := by rw [← e2]; exact sumP_more c _ i hiu ops.size hin
      refine op_fill hok ho (G := fun v w' => B (sumP c (fun j => listed.getD j false) ops.size + c i) w' ∧ G w w' ∧ F i v w') hiu hid (fun K' hK => step i o ho hiz vs w _ (by rw [← e3]; exact leT _) hb (fun j hj => hf j (by have := hok.dep i j hj; omega) (hid j hj)) K' (fun v w' b g f => hK v w' ⟨b, g, f⟩)) (fun v w' ⟨bb, g, f⟩ => ?_)
      have e1 := fillA_put a0 ops (fun j => listed.getD j false) vs i v hiu (fun j hj d hd => hok.dst i d hd j hj) ops.size hin
      rw [hdo] at e1
      rw [e1, e2]
      refine ih _ _ _ (by simp [hs]) ?_ ?_ ?_ (by rw [e3]; exact bb) ?_
      · have := leftF_more (fun j => listed.getD j false) i hiu ops.size hin
        rw [e2] at this
        omega
      · rw [getDF_more (by omega)]; simp only [moreF]; rw [if_neg (Ne.symm hiz)]; exact hz
      · intro x y hx hy
        rw [getDF_more (by omega)] at hx ⊢
        simp only [moreF] at hx ⊢
        by_cases ex : x = i
        · subst ex
          split
          · rfl
          · exact hid y hy
        · rw [if_neg ex] at hx
          split
          · rfl
          · exact hdc x y hx hy
      · intro j hj hjl
        rw [getDF_more (by omega)] at hjl
        simp only [moreF] at hjl
        simp only [updF]
        by_cases ej : j = i
        · subst ej; simp only [if_true]; exact f
        · rw [if_neg ej] at hjl
          rw [if_neg ej]
          exact hF j (vs j) w w' (hf j hj hjl) g
/-- One step of the law, for number i. -/
def StepP (P : Program) (ops : Array Oper) (a0 : Act) (c : Nat → Nat) (T : Nat) (B : Nat → World → Prop) (G : World → World → Prop) (F : Nat → Value → World → Prop) (i : Nat) : Prop :=
  ∀ o, ops[i]? = some o → ∀ vs w p, p + c i ≤ T → B p w → (∀ j, depB ops i j = true → F j (vs j) w) → ∀ K : Act → World → Prop, (∀ v w', B (p + c i) w' → G w w' → F i v w' → K ((fillA a0 ops (depB ops i) vs ops.size).put o.dst v) w') → if Region.wanted o (yielded ops (fillA a0 ops (depB ops i) vs ops.size).tmps) = true then Oper.wp P o (fillA a0 ops (depB ops i) vs ops.size) w K NoQ else K ((fillA a0 ops (depB ops i) vs ops.size).put o.dst undef) w
theorem StepP.of {a0 : Act} {c : Nat → Nat} {T : Nat} {B : Nat → World → Prop} {G : World → World → Prop} {F : Nat → Value → World → Prop} {i : Nat} {o : Oper} (ho : ops[i]? = some o) (js : List (Nat × Option Tmp)) (hjs : pickF ops (depB ops i) ops.size = js) (n : Nat) (hn : c i = n)
    (h : ∀ vs w p, p + n ≤ T → B p w → FactsOf F vs w js → ∀ K : Act → World → Prop, Shut (∀ v w', B (p + n) w' → G w w' → F i v w' → K ((putsA a0 vs js).put o.dst v) w') → if Region.wanted o (yielded ops (putsA a0 vs js).tmps) = true then Oper.wp P o (putsA a0 vs js) w K NoQ else K ((putsA a0 vs js).put o.dst undef) w) : StepP P ops a0 c T B G F i := by
  intro o' ho' vs w p hp hB hf K hK
  rw [ho] at ho'
  obtain rfl := Option.some.inj ho'
  subst hn
  rw [fillA_puts, hjs] at hK ⊢
  exact h vs w p hp hB (factsOf_all js (fun j hj => hf j.1 (by rw [← hjs] at hj; exact (mem_pick _ j hj).2))) K hK
/-- The law as it is used. -/
theorem wp_region_factsP {id : Nat} {a0 : Act} {w0 : World} (hm : P.follows .mixedOrders = true) (z : Nat) (c : Nat → Nat) (T : Nat) (B : Nat → World → Prop) (G : World → World → Prop) (F : Nat → Value → World → Prop) (hok : factsOk ops z = true) (hT : sumP c (fun _ => true) ops.size = T) (is : List Nat) (his : (List.range ops.size).filter (fun i => i != z) = is) (hB0 : B 0 w0.drew)
    (hF : ∀ i v w w', F i v w → G w w' → F i v w') (hS : AllF (StepP P ops a0 c T B G F) is)
    (oz : Oper) (hoz : ops[z]? = some oz) (js : List (Nat × Option Tmp)) (hjs : pickF ops (fun j => j != z) ops.size = js)
    (last : ∀ vs w p, p ≤ T → B p w → FactsOf F vs w js → ∀ K : Act → World → Prop, Shut (∀ a w', Q .normal a w' → K a w') → if Region.wanted oz (yielded ops (putsA a0 vs js).tmps) = true then Oper.wp P oz (putsA a0 vs js) w K Q else K ((putsA a0 vs js).put oz.dst undef) w) : (Code.region id ops true).wp P Q a0 w0 := by
  refine wp_region_any hm ?_
  have h0 : ∀ j, (Array.replicate ops.size false).getD j false = false := fun j => by
    simp only [Array.getD_eq_getD_getElem?, Array.getElem?_replicate]
    split <;> rfl
  have hL : (fun j => (Array.replicate ops.size false).getD j false) = fun _ => false := funext h0
  have := any_factsP (FactsOk.of hok) (P := P) (Q := Q) (a0 := a0) hT hF
    (fun i o ho hz vs w p hp hb hf K hK => by
      have hi : i ∈ is := by
        rw [← his, List.mem_filter, List.mem_range]
        refine ⟨?_, by simp [hz]⟩
        rcases Nat.lt_or_ge i ops.size with g | g
        · exact g
        · rw [Array.getElem?_eq_none g] at ho; cases ho
      exact allF_mem hS i hi o ho vs w p hp hb hf K hK)
    (fun vs w p hp hb hf => by
      rw [fillA_puts, hjs]
      exact wpOp_step hoz (fun K hK => last vs w p hp hb (factsOf_all js (fun j hj => by rw [← hjs] at hj; have := mem_pick _ j hj; exact hf j.1 this.1 (by simpa using this.2))) K hK))
    ops.size (Array.replicate ops.size false) (fun _ => undef) w0.drew (by simp) (leftF_le _ _) (h0 z) (fun i j h => by rw [h0 i] at h; cases h) (by rw [hL, sumP_none]; exact hB0) (fun j _ h => by rw [h0 j] at h; cases h)
  rw [hL, fillA_none] at this
  exact this
end
end Go.Proofs.Ytdohpfckiahlcaa
