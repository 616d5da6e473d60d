/-
  A region that draws its order, by facts: each operation has a fact of its own on the value that it leaves, kept by whatever the others do; each is run once, from the facts of those that it waits for; so a region of n operations wants n steps, in whatever order it is run.
-/
import Derived.Orders
import Derived.Deep.RegionHeld
import Derived.RegionTactic
namespace Go.Proofs.Ytdohpfckiahlcaa
open Go

section
variable {P : Program} {ops : Array Oper} {Q : Exit → Act → World → Prop}

/-- The slot that number i writes. -/
def dstAt (ops : Array Oper) (i : Nat) : Option Tmp := (ops[i]?).bind (·.dst)
/-- Number i waits for number j. -/
def depB (ops : Array Oper) (i j : Nat) : Bool := match ops[i]? with | some o => o.after.toList.any (fun e => Region.binds .any e && e.on == j) | none => false
/-- The slots of those that are listed, filled in the order of the text. -/
def fillA (a0 : Act) (ops : Array Oper) (L : Nat → Bool) (vs : Nat → Value) : Nat → Act
  | 0 => a0
  | k + 1 => if L k then (fillA a0 ops L vs k).put (dstAt ops k) (vs k) else fillA a0 ops L vs k
theorem fillA_size (a0 : Act) (ops : Array Oper) (L : Nat → Bool) (vs : Nat → Value) : ∀ k, (fillA a0 ops L vs k).tmps.size = a0.tmps.size
  | 0 => rfl
  | k + 1 => by
    rw [fillA]
    split
    · cases h : dstAt ops k with
      | none => exact fillA_size a0 ops L vs k
      | some d => simp [Act.put, fillA_size a0 ops L vs k]
    · exact fillA_size a0 ops L vs k
theorem putF_at (a : Act) (x : Option Tmp) (v : Value) (d : Tmp) : (a.put x v).tmps[d]? = if x = some d ∧ d < a.tmps.size then some v else a.tmps[d]? := by
  cases x with
  | none => simp [Act.put]
  | some e =>
    simp only [Act.put, Array.getElem?_setIfInBounds]
    by_cases h : e = d
    · subst h
      by_cases h2 : e < a.tmps.size
      · simp [h2]
      · simp [h2]
    · simp [h]
theorem fillA_congr (a0 : Act) (ops : Array Oper) (L L' : Nat → Bool) (vs : Nat → Value) (d : Tmp) : ∀ k, (∀ j < k, dstAt ops j = some d → L j = L' j) → (fillA a0 ops L vs k).tmps[d]? = (fillA a0 ops L' vs k).tmps[d]?
  | 0, _ => rfl
  | k + 1, h => by
    have ih := fillA_congr a0 ops L L' vs d k (fun j hj => h j (by omega))
    have s1 := fillA_size a0 ops L vs k
    have s2 := fillA_size a0 ops L' vs k
    rw [fillA, fillA]
    by_cases hd : dstAt ops k = some d
    · rw [h k (by omega) hd]
      split
      · rw [putF_at, putF_at, ih, s1, s2]
      · exact ih
    · have e : ∀ (a : Act), (a.put (dstAt ops k) (vs k)).tmps[d]? = a.tmps[d]? := fun a => by rw [putF_at, if_neg (fun h => hd h.1)]
      split <;> split <;> simp only [e, ih]
theorem fillA_defers (a0 : Act) (ops : Array Oper) (L : Nat → Bool) (vs : Nat → Value) : ∀ k, (fillA a0 ops L vs k).defers = a0.defers
  | 0 => rfl
  | k + 1 => by
    rw [fillA]
    split
    · cases h : dstAt ops k <;> exact fillA_defers a0 ops L vs k
    · exact fillA_defers a0 ops L vs k
/-- One more. -/
def moreF (L : Nat → Bool) (i : Nat) : Nat → Bool := fun j => if j = i then true else L j
def updF (vs : Nat → Value) (i : Nat) (v : Value) : Nat → Value := fun j => if j = i then v else vs j
theorem fillA_ext (a0 : Act) (ops : Array Oper) (L L' : Nat → Bool) (vs vs' : Nat → Value) : ∀ k, (∀ j < k, L j = L' j ∧ (L j = true → vs j = vs' j)) → fillA a0 ops L vs k = fillA a0 ops L' vs' k
  | 0, _ => rfl
  | k + 1, h => by
    rw [fillA, fillA, fillA_ext a0 ops L L' vs vs' k (fun j hj => h j (by omega)), ← (h k (by omega)).1]
    by_cases hL : L k = true
    · rw [(h k (by omega)).2 hL]
    · simp [hL]
theorem fillA_put (a0 : Act) (ops : Array Oper) (L : Nat → Bool) (vs : Nat → Value) (i : Nat) (v : Value) (hL : L i = false) (hd : ∀ j, j ≠ i → ∀ d, dstAt ops i = some d → dstAt ops j ≠ some d) : ∀ k, i < k → (fillA a0 ops L vs k).put (dstAt ops i) v = fillA a0 ops (moreF L i) (updF vs i v) k
  | 0, h => by omega
  | k + 1, h => by
    rw [fillA, fillA]
    by_cases hk : k = i
    · subst hk
      rw [hL, if_neg (by simp), if_pos (by simp [moreF])]
      rw [show updF vs k v k = v by simp [updF]]
      congr 1
      exact fillA_ext a0 ops _ _ _ _ k (fun j hj => ⟨by simp [moreF, Nat.ne_of_lt hj], fun _ => by simp [updF, Nat.ne_of_lt hj]⟩)
    · have ih := fillA_put a0 ops L vs i v hL hd k (by omega)
      rw [← ih]
      simp only [moreF, updF, hk, if_false]
      split
      · rw [Act.put_comm _ _ _ (fun d h e => hd k hk d e h)]
      · rfl
/-- How many are not yet listed. -/
def leftF (L : Nat → Bool) : Nat → Nat
  | 0 => 0
  | k + 1 => leftF L k + (if L k then 0 else 1)
theorem leftF_same (L L' : Nat → Bool) : ∀ k, (∀ j < k, L j = L' j) → leftF L k = leftF L' k
  | 0, _ => rfl
  | k + 1, h => by rw [leftF, leftF, leftF_same L L' k (fun j hj => h j (by omega)), h k (by omega)]
theorem leftF_more (L : Nat → Bool) (i : Nat) (hL : L i = false) : ∀ k, i < k → leftF (moreF L i) k + 1 = leftF L k
  | 0, h => by omega
  | k + 1, h => by
    rw [leftF, leftF]
    by_cases hk : k = i
    · subst hk
      rw [leftF_same (moreF L k) L k (fun j hj => by simp [moreF, Nat.ne_of_lt hj]), hL]
      simp [moreF]
    · have := leftF_more L i hL k (by omega)
      simp only [moreF, hk, if_false] at this ⊢
      omega
theorem leftF_zero (L : Nat → Bool) : ∀ k, leftF L k = 0 → ∀ j < k, L j = true
  | 0, _, _, h => by omega
  | k + 1, h, j, hj => by
    rw [leftF] at h
    by_cases hk : j = k
    · subst hk
      by_cases hL : L j = true
      · exact hL
      · simp [hL] at h
    · exact leftF_zero L k (by omega) j (by omega)
/-- What the law asks of a region: each waits only for what stands ahead of it; no two write one slot; nothing is deferred, nothing selected; whoever looks at a slot of the region waits for the one that writes it; all but z are waited for, if there is a number z. -/
def factsOk (ops : Array Oper) (z : Nat) : Bool :=
  (List.range ops.size).all fun i => match ops[i]? with
    | none => false
    | some o =>
      (o.after.toList.all fun e => !Region.binds .any e || decide (e.on < i)) &&
      (match o.dst with | none => true | some d => (List.range ops.size).all fun j => j == i || dstAt ops j != some d) &&
      (match o.op with | .defer _ => false | .select _ _ => false | _ => true) &&
      ((o.looksAt ops).all fun d => (List.range ops.size).all fun j => j == i || dstAt ops j != some d || depB ops i j) &&
      (decide (ops.size ≤ z) || i == z || (List.range ops.size).any fun k => depB ops k i)

structure FactsOk (ops : Array Oper) (z : Nat) : Prop where
  dep : ∀ i j, depB ops i j = true → j < i
  dst : ∀ i d, dstAt ops i = some d → ∀ j, j ≠ i → dstAt ops j ≠ some d
  plain : ∀ (i : Nat) (o : Oper), ops[i]? = some o → (∀ c, o.op ≠ .defer c) ∧ (∀ cs b, o.op ≠ .select cs b)
  looks : ∀ (i : Nat) (o : Oper), ops[i]? = some o → ∀ d ∈ o.looksAt ops, ∀ j, j ≠ i → dstAt ops j = some d → depB ops i j = true
  sink : z < ops.size → ∀ i < ops.size, i ≠ z → ∃ k, k < ops.size ∧ depB ops k i = true
theorem dstAt_lt {i : Nat} {d : Tmp} (h : dstAt ops i = some d) : i < ops.size := by
  unfold dstAt at h
  rcases Nat.lt_or_ge i ops.size with g | g
  · exact g
  · rw [Array.getElem?_eq_none g] at h; cases h
theorem FactsOk.of {z : Nat} (h : factsOk ops z = true) : FactsOk ops z := by
  have key : ∀ i o, ops[i]? = some o → ((o.after.toList.all fun e => !Region.binds .any e || decide (e.on < i)) = true ∧ (match o.dst with | none => true | some d => (List.range ops.size).all fun j => j == i || dstAt ops j != some d) = true ∧ (match o.op with | .defer _ => false | .select _ _ => false | _ => true) = true ∧ ((o.looksAt ops).all fun d => (List.range ops.size).all fun j => j == i || dstAt ops j != some d || depB ops i j) = true ∧ (decide (ops.size ≤ z) || i == z || (List.range ops.size).any fun k => depB ops k i) = true) := fun i o ho => by
    have hi : i < ops.size := by
      rcases Nat.lt_or_ge i ops.size with g | g
      · exact g
      · rw [Array.getElem?_eq_none g] at ho; cases ho
    have := List.all_eq_true.1 h i (List.mem_range.2 hi)
    simp only [ho, Bool.and_eq_true] at this
    obtain ⟨⟨⟨⟨h1, h2⟩, h3⟩, h4⟩, h5⟩ := this
    exact ⟨h1, h2, h3, h4, h5⟩
  refine ⟨fun i j hd => ?_, fun i d hd j hj he => ?_, fun i o ho => ⟨fun c e => ?_, fun cs b e => ?_⟩, fun i o ho d hd j hj he => ?_, fun hz i hi hiz => ?_⟩
  · unfold depB at hd
    cases ho : ops[i]? with
    | none => rw [ho] at hd; cases hd
    | some o =>
      rw [ho] at hd
      obtain ⟨e, he, hb⟩ := List.any_eq_true.1 hd
      have := List.all_eq_true.1 (key i o ho).1 e he
      simp at hb
      rw [hb.1] at this
      simp at this
      omega
  · have hlt := dstAt_lt he
    unfold dstAt at hd
    cases ho : ops[i]? with
    | none => rw [ho] at hd; cases hd
    | some o =>
      rw [ho] at hd
      have h2 := (key i o ho).2.1
      have hd' : o.dst = some d := hd
      rw [hd'] at h2
      have := List.all_eq_true.1 h2 j (List.mem_range.2 hlt)
      simp [hj, he] at this
  · have := (key i o ho).2.2.1; rw [e] at this; cases this
  · have := (key i o ho).2.2.1; rw [e] at this; cases this
  · have h4 := List.all_eq_true.1 (List.all_eq_true.1 (key i o ho).2.2.2.1 d hd) j (List.mem_range.2 (dstAt_lt he))
    simpa [hj, he] using h4
  · obtain ⟨o, ho⟩ : ∃ o, ops[i]? = some o := ⟨_, Array.getElem?_eq_getElem hi⟩
    have h5 := (key i o ho).2.2.2.2
    simp only [Bool.or_eq_true, decide_eq_true_eq, beq_iff_eq] at h5
    rcases h5 with (h5 | h5) | h5
    · omega
    · exact absurd h5 hiz
    · obtain ⟨k, hk, hd⟩ := List.any_eq_true.1 h5
      exact ⟨k, List.mem_range.1 hk, hd⟩

theorem putF_same {a b : Act} {x : Option Tmp} {v u : Value} (hs : a.tmps.size = b.tmps.size) (h : a.put x v = a.put x u) : b.put x v = b.put x u := by
  cases x with
  | none => rfl
  | some d =>
    by_cases hd : d < a.tmps.size
    · have := congrArg (fun c : Act => c.tmps[d]?) h
      simp only [putF_at, hd, and_self, if_true] at this
      rw [Option.some.inj this]
    · have e : ∀ y, b.put (some d) y = b := fun y => by
        have : b.tmps.setIfInBounds d y = b.tmps := Array.setIfInBounds_eq_of_size_le (by rw [← hs]; exact Nat.le_of_not_lt hd)
        simp [Act.put, this]
      rw [e, e]
/-- No way out but the end. -/
def NoQ : Exit → Act → World → Prop := fun _ _ _ => False
/-- An operation looks at what it waits for alone. -/
theorem op_fill {z : Nat} (hok : FactsOk ops z) {i : Nat} {o : Oper} (ho : ops[i]? = some o) {L : Nat → Bool} {vs : Nat → Value} {a0 : Act} {w : World} (hL : L i = false) (hdep : ∀ j, depB ops i j = true → L j = true) {K : Act → World → Prop} {G : Value → World → Prop}
    (h : ∀ K' : Act → World → Prop, (∀ v w', G v w' → K' ((fillA a0 ops (depB ops i) vs ops.size).put o.dst v) w') → if Region.wanted o (yielded ops (fillA a0 ops (depB ops i) vs ops.size).tmps) = true then Oper.wp P o (fillA a0 ops (depB ops i) vs ops.size) w K' NoQ else K' ((fillA a0 ops (depB ops i) vs ops.size).put o.dst undef) w)
    (hK : ∀ v w', G v w' → K ((fillA a0 ops L vs ops.size).put o.dst v) w') : wpOp P ops Q i K (fillA a0 ops L vs ops.size) w := by
  have same : ∀ d ∈ o.looksAt ops, (fillA a0 ops L vs ops.size).tmps[d]? = (fillA a0 ops (depB ops i) vs ops.size).tmps[d]? := fun d hd =>
    fillA_congr a0 ops L (depB ops i) vs d ops.size (fun j _ hj => by
      by_cases hji : j = i
      · subst hji
        rw [hL]
        cases hb : depB ops j j with
        | false => rfl
        | true => exact absurd (hok.dep j j hb) (Nat.lt_irrefl _)
      · have := hok.looks i o ho d hd j hji hj
        rw [hdep j this, this])
  have hsz : (fillA a0 ops (depB ops i) vs ops.size).tmps.size = (fillA a0 ops L vs ops.size).tmps.size := by rw [fillA_size, fillA_size]
  have hex : execOp (fillA a0 ops L vs ops.size).eval o = execOp (fillA a0 ops (depB ops i) vs ops.size).eval o :=
    execOp_congr o (hok.plain i o ho).2 (fun x hx => by
      cases x with
      | tmp d =>
        have := same d (List.mem_append_left _ (List.mem_filterMap.2 ⟨.tmp d, by simpa using hx, rfl⟩))
        simp only [Act.eval, Array.getD_eq_getD_getElem?, this]
      | _ => rfl)
  have hwt : Region.wanted o (yielded ops (fillA a0 ops L vs ops.size).tmps) = Region.wanted o (yielded ops (fillA a0 ops (depB ops i) vs ops.size).tmps) := by
    unfold Region.wanted
    cases hg : o.guard with
    | none => rfl
    | some gw =>
      obtain ⟨g, want⟩ := gw
      have hy : yielded ops (fillA a0 ops L vs ops.size).tmps g = yielded ops (fillA a0 ops (depB ops i) vs ops.size).tmps g := by
        unfold yielded
        cases ht : (ops[g]?).bind (·.dst) with
        | none => rfl
        | some t =>
          have := same t (by simp [Oper.looksAt, hg, ht])
          simp only [Option.bind_some, this]
      simp only [hy]
  have h1 := h (fun b w' => ∃ v, b = (fillA a0 ops (depB ops i) vs ops.size).put o.dst v ∧ G v w') (fun v w' g => ⟨v, rfl, g⟩)
  have back : ∀ u w', (∃ v, (fillA a0 ops (depB ops i) vs ops.size).put o.dst u = (fillA a0 ops (depB ops i) vs ops.size).put o.dst v ∧ G v w') → K ((fillA a0 ops L vs ops.size).put o.dst u) w' := fun u w' ⟨v, e, g⟩ => by
    rw [putF_same hsz e]; exact hK v w' g
  unfold wpOp
  simp only [ho]
  rw [hwt]
  split
  · rename_i hw
    rw [if_pos hw] at h1
    refine .inl ?_
    unfold Oper.wp at h1 ⊢
    rw [hex]
    generalize (execOp (fillA a0 ops (depB ops i) vs ops.size).eval o).run P w = r at h1 ⊢
    cases r with
    | ok n w' =>
      cases n <;> simp only [Oper.upon] at h1 ⊢
      case value u => exact back u w' h1
      case skip => exact back undef w' h1
      case defer d =>
        obtain ⟨v, e, g⟩ := h1
        exfalso
        have hd := congrArg Act.defers e
        cases hx : o.dst with
        | none => rw [hx] at hd; simp [Act.put] at hd
        | some t => rw [hx] at hd; simp [Act.put] at hd
      case enter f args =>
        refine Calls.mono h1 fun e w'' he => ?_
        cases e with
        | returned u => exact back u w'' he
        | panicked c => exact he.elim
        | outgrown => obtain ⟨_, _, hq⟩ := he; exact hq.elim
      case row row args => exact Rows.mono h1 fun u w'' he => back u w'' he
    | halt x w' => cases x <;> simp only [Oper.upon] at h1 <;> exact h1.elim
  · rename_i hw
    rw [if_neg hw] at h1
    exact back undef w h1
theorem getDF_more {listed : Array Bool} {i : Nat} (hi : i < listed.size) (j : Nat) : (listed.setIfInBounds i true).getD j false = moreF (fun j => listed.getD j false) i j := by
  simp only [moreF, Array.getD_eq_getD_getElem?, Array.getElem?_setIfInBounds]
  by_cases h : i = j
  · subst h; simp [hi]
  · rw [if_neg h, if_neg (Ne.symm h)]
theorem getDF_tf {listed : Array Bool} {j : Nat} (hj : j < listed.size) : listed.getD j true = listed.getD j false := by simp [Array.getD_eq_getD_getElem?, hj]
theorem memF_ready {j : Nat} {listed : Array Bool} (hs : listed.size = ops.size) : j ∈ Region.ready .any ops listed ↔ j < ops.size ∧ listed.getD j false = false ∧ ∀ k, depB ops j k = true → listed.getD k false = true := by
  rw [mem_ready]
  constructor
  · rintro ⟨h1, o, ho, h2⟩
    have hj : j < ops.size := by
      rcases Nat.lt_or_ge j ops.size with g | g
      · exact g
      · rw [Array.getElem?_eq_none g] at ho; cases ho
    refine ⟨hj, by rw [← getDF_tf (by omega)]; exact h1, fun k hk => ?_⟩
    unfold depB at hk
    rw [ho] at hk
    obtain ⟨e, he, hb⟩ := List.any_eq_true.1 hk
    simp at hb
    rw [← hb.2]
    exact h2 e (by simpa using he) hb.1
  · rintro ⟨hj, h1, h2⟩
    refine ⟨by rw [getDF_tf (by omega)]; exact h1, ops[j], Array.getElem?_eq_getElem hj, fun e he hb => h2 e.on ?_⟩
    unfold depB
    rw [Array.getElem?_eq_getElem hj]
    exact List.any_eq_true.2 ⟨e, by simpa using he, by simp [hb]⟩
theorem allF_listed {z : Nat} (hok : FactsOk ops z) {listed : Array Bool} (hs : listed.size = ops.size) (hr : Region.ready .any ops listed = []) : ∀ j, j < ops.size → listed.getD j false = true := by
  intro j
  induction j using Nat.strongRecOn with
  | _ j ih =>
    intro hj
    cases h : listed.getD j false with
    | true => rfl
    | false =>
      have : j ∈ Region.ready .any ops listed := (memF_ready hs).2 ⟨hj, h, fun k hk => by
        have hkj := hok.dep j k hk
        exact ih k hkj (by omega)⟩
      rw [hr] at this; cases this
/-- The law: facts of their own for all operations of a region, kept by what the others do. -/
theorem any_facts {z : Nat} (hok : FactsOk ops z) {a0 : Act} {B : World → Prop} {G : World → World → Prop} {F : Nat → Value → World → Prop}
    (hB : ∀ w w', B w → G w w' → B w') (hF : ∀ i v w w', F i v w → G w w' → F i v w')
    (step : ∀ i o, ops[i]? = some o → i ≠ z → ∀ vs w, B w → (∀ j, depB ops i j = true → F j (vs j) w) → ∀ K : Act → World → Prop, (∀ v w', G w w' → F i v w' → K ((fillA a0 ops (depB ops i) vs ops.size).put o.dst v) w') → if Region.wanted o (yielded ops (fillA a0 ops (depB ops i) vs ops.size).tmps) = true then Oper.wp P o (fillA a0 ops (depB ops i) vs ops.size) w K NoQ else K ((fillA a0 ops (depB ops i) vs ops.size).put o.dst undef) w)
    (last : ∀ vs w, B w → (∀ j, j < ops.size → j ≠ z → F j (vs j) w) → wpOp P ops Q z (fun b w' => Q .normal b w') (fillA a0 ops (fun j => j != z) vs ops.size) w) :
    ∀ (fuel : Nat) (listed : Array Bool) (vs : Nat → Value) (w : World), listed.size = ops.size → leftF (fun j => listed.getD j false) ops.size ≤ fuel → listed.getD z false = false → (∀ i j, listed.getD i false = true → depB ops i j = true → listed.getD j false = true) → B w → (∀ j, j < ops.size → listed.getD j false = true → F j (vs j) w) → wpAny P .any ops Q fuel listed (fillA a0 ops (fun j => listed.getD j false) vs ops.size) w := by
  have fin : ∀ (listed : Array Bool) (vs : Nat → Value) (w : World), listed.size = ops.size → listed.getD z false = false → B w → (∀ j, j < ops.size → listed.getD j false = true → F j (vs j) w) → (∀ j, j < ops.size → j ≠ z → listed.getD j false = true) → wpOp P ops Q z (fun b w' => Q .normal b w') (fillA a0 ops (fun j => listed.getD j false) vs ops.size) w := fun listed vs w hs hz hb hf hall => by
    rw [fillA_ext a0 ops (fun j => listed.getD j false) (fun j => j != z) vs vs ops.size (fun j hj => ⟨by
      by_cases e : j = z
      · subst e; simp only [hz]; simp
      · simp [hall j hj e, e], fun _ => rfl⟩)]
    exact last vs w hb (fun j hj e => hf j hj (hall j hj e))
  have endz : ∀ (listed : Array Bool) (vs : Nat → Value) (w : World), listed.size = ops.size → listed.getD z false = false → B w → (∀ j, j < ops.size → listed.getD j false = true → F j (vs j) w) → Region.ready .any ops listed = [] → Q .normal (fillA a0 ops (fun j => listed.getD j false) vs ops.size) w := fun listed vs w hs hz hb hf hr => by
    have hall := allF_listed hok hs hr
    have hzn : ¬ z < ops.size := fun h => by rw [hall z h] at hz; cases hz
    have := fin listed vs w hs hz hb hf (fun j hj _ => hall j hj)
    unfold wpOp at this
    rw [Array.getElem?_eq_none (Nat.le_of_not_lt hzn)] at this
    exact this
  intro fuel
  induction fuel with
  | zero =>
    intro listed vs w hs hl hz hdc hb hf
    have hall := leftF_zero _ _ (Nat.le_zero.1 hl)
    have hr : Region.ready .any ops listed = [] := List.eq_nil_iff_forall_not_mem.2 (fun j hj => by
      have h := (memF_ready hs).1 hj
      have := hall j h.1
      simp only [h.2.1] at this
      cases this)
    exact ⟨hr, endz listed vs w hs hz hb hf hr⟩
  | succ fuel ih =>
    intro listed vs w hs hl hz hdc hb hf
    refine ⟨endz listed vs w hs hz hb hf, fun i hi => ?_⟩
    obtain ⟨hin, hiu, hid⟩ := (memF_ready hs).1 hi
    obtain ⟨o, ho⟩ : ∃ o, ops[i]? = some o := ⟨_, Array.getElem?_eq_getElem hin⟩
    have hdo : dstAt ops i = o.dst := by unfold dstAt; rw [ho]; rfl
    by_cases hiz : i = z
    · subst hiz
      have hall : ∀ d j, ops.size - j ≤ d → j < ops.size → j ≠ i → listed.getD j false = true := by
        intro d
        induction d with
        | zero => intro j h1 h2; omega
        | succ d ihd =>
          intro j h1 h2 h3
          obtain ⟨k, hk, hd⟩ := hok.sink hin j h2 h3
          by_cases hki : k = i
          · subst hki; exact hid j hd
          · have := hok.dep k j hd
            exact hdc k j (ihd k (by omega) hk hki) hd
      refine wpOp_mono (fun a' w' h => ?_) (fin listed vs w hs hz hb hf (fun j hj e => hall _ j (Nat.le_refl _) hj e))
      have hr : Region.ready .any ops (listed.setIfInBounds i true) = [] := List.eq_nil_iff_forall_not_mem.2 (fun j hj => by
        have hj' := (memF_ready (by simp [hs])).1 hj
        have := hj'.2.1
        rw [getDF_more (by omega)] at this
        simp only [moreF] at this
        by_cases e : j = i
        · simp [e] at this
        · rw [if_neg e, hall _ j (Nat.le_refl _) hj'.1 e] at this; cases this)
      cases fuel with
      | zero => exact ⟨hr, h⟩
      | succ f => exact ⟨fun _ => h, fun j hj => by rw [hr] at hj; cases hj⟩
    · refine op_fill hok ho (G := fun v w' => G w w' ∧ F i v w') hiu hid (fun K' hK => step i o ho hiz vs w hb (fun j hj => hf j (by have := hok.dep i j hj; omega) (hid j hj)) K' (fun v w' g f => hK v w' ⟨g, f⟩)) (fun v w' ⟨g, f⟩ => ?_)
      have e1 := fillA_put a0 ops (fun j => listed.getD j false) vs i v hiu (fun j hj d hd => hok.dst i d hd j hj) ops.size hin
      rw [hdo] at e1
      rw [e1]
      have e2 : (moreF (fun j => listed.getD j false) i) = fun j => (listed.setIfInBounds i true).getD j false := funext fun j => (getDF_more (by omega) j).symm
      rw [e2]
      refine ih _ _ _ (by simp [hs]) ?_ ?_ ?_ (hB w w' hb g) ?_
      · have := leftF_more (fun j => listed.getD j false) i hiu ops.size hin
        rw [e2] at this
        omega
      · rw [getDF_more (by omega)]; simp only [moreF]; rw [if_neg (Ne.symm hiz)]; exact hz
      · intro x y hx hy
        rw [getDF_more (by omega)] at hx ⊢
        simp only [moreF] at hx ⊢
        by_cases ex : x = i
        · subst ex
          split
          · rfl
          · exact hid y hy
        · rw [if_neg ex] at hx
          split
          · rfl
          · exact hdc x y hx hy
      · intro j hj hjl
        rw [getDF_more (by omega)] at hjl
        simp only [moreF] at hjl
        simp only [updF]
        by_cases ej : j = i
        · subst ej; simp only [if_true]; exact f
        · rw [if_neg ej] at hjl
          rw [if_neg ej]
          exact hF j (vs j) w w' (hf j hj hjl) g
theorem fillA_none (a0 : Act) (ops : Array Oper) (vs : Nat → Value) : ∀ k, fillA a0 ops (fun _ => false) vs k = a0
  | 0 => rfl
  | k + 1 => by rw [fillA]; simp [fillA_none a0 ops vs k]
theorem leftF_le (L : Nat → Bool) : ∀ k, leftF L k ≤ k
  | 0 => Nat.le_refl _
  | k + 1 => by rw [leftF]; have := leftF_le L k; split <;> omega
/-- A region that draws its order, by facts of its operations: z is the last one (or no number of the region). -/
theorem wp_region_facts0 {id : Nat} {a0 : Act} {w0 : World} (hm : P.follows .mixedOrders = true) (z : Nat) (B : World → Prop) (G : World → World → Prop) (F : Nat → Value → World → Prop) (hok : factsOk ops z = true) (hB0 : B w0.drew)
    (hB : ∀ w w', B w → G w w' → B w') (hF : ∀ i v w w', F i v w → G w w' → F i v w')
    (step : ∀ i o, ops[i]? = some o → i ≠ z → ∀ vs w, B w → (∀ j, depB ops i j = true → F j (vs j) w) → ∀ K : Act → World → Prop, (∀ v w', G w w' → F i v w' → K ((fillA a0 ops (depB ops i) vs ops.size).put o.dst v) w') → if Region.wanted o (yielded ops (fillA a0 ops (depB ops i) vs ops.size).tmps) = true then Oper.wp P o (fillA a0 ops (depB ops i) vs ops.size) w K NoQ else K ((fillA a0 ops (depB ops i) vs ops.size).put o.dst undef) w)
    (last : ∀ vs w, B w → (∀ j, j < ops.size → j ≠ z → F j (vs j) w) → wpOp P ops Q z (fun b w' => Q .normal b w') (fillA a0 ops (fun j => j != z) vs ops.size) w) : (Code.region id ops true).wp P Q a0 w0 := by
  refine wp_region_any hm ?_
  have h0 : ∀ j, (Array.replicate ops.size false).getD j false = false := fun j => by
    simp only [Array.getD_eq_getD_getElem?, Array.getElem?_replicate]
    split <;> rfl
  have := any_facts (FactsOk.of hok) (P := P) (Q := Q) hB hF step last ops.size (Array.replicate ops.size false) (fun _ => undef) w0.drew (by simp) (leftF_le _ _) (h0 z) (fun i j h => by rw [h0 i] at h; cases h) hB0 (fun j _ h => by rw [h0 j] at h; cases h)
  rw [show (fun j => (Array.replicate ops.size false).getD j false) = fun _ => false from funext h0, fillA_none] at this
  exact this
/-- Those of the first k that are listed, with their slots. -/
def pickF (ops : Array Oper) (L : Nat → Bool) : Nat → List (Nat × Option Tmp)
  | 0 => []
  | k + 1 => if L k then pickF ops L k ++ [(k, dstAt ops k)] else pickF ops L k
def putsA (a0 : Act) (vs : Nat → Value) (js : List (Nat × Option Tmp)) : Act := js.foldl (fun a j => a.put j.2 (vs j.1)) a0
theorem fillA_puts (a0 : Act) (ops : Array Oper) (L : Nat → Bool) (vs : Nat → Value) : ∀ k, fillA a0 ops L vs k = putsA a0 vs (pickF ops L k)
  | 0 => rfl
  | k + 1 => by
    rw [fillA, pickF, fillA_puts a0 ops L vs k]
    split
    · simp [putsA]
    · rfl
/-- The facts of those that are listed. -/
def FactsOf (F : Nat → Value → World → Prop) (vs : Nat → Value) (w : World) : List (Nat × Option Tmp) → Prop
  | [] => True
  | j :: r => F j.1 (vs j.1) w ∧ FactsOf F vs w r
theorem factsOf_all {F : Nat → Value → World → Prop} {vs : Nat → Value} {w : World} : ∀ js : List (Nat × Option Tmp), (∀ j ∈ js, F j.1 (vs j.1) w) → FactsOf F vs w js
  | [], _ => trivial
  | j :: r, h => ⟨h j (List.mem_cons_self), factsOf_all r (fun x hx => h x (List.mem_cons_of_mem _ hx))⟩
theorem mem_pick {ops : Array Oper} {L : Nat → Bool} : ∀ (k : Nat) (j : Nat × Option Tmp), j ∈ pickF ops L k → j.1 < k ∧ L j.1 = true
  | 0, _, h => by cases h
  | k + 1, j, h => by
    rw [pickF] at h
    split at h
    · rename_i hL
      rcases List.mem_append.1 h with h | h
      · have := mem_pick k j h; exact ⟨by omega, this.2⟩
      · simp at h; subst h; exact ⟨by simp, hL⟩
    · have := mem_pick k j h; exact ⟨by omega, this.2⟩
/-- One step of the law, for number i. -/
def StepF (P : Program) (ops : Array Oper) (a0 : Act) (B : World → Prop) (G : World → World → Prop) (F : Nat → Value → World → Prop) (i : Nat) : Prop :=
  ∀ o, ops[i]? = some o → ∀ vs w, B w → (∀ j, depB ops i j = true → F j (vs j) w) → ∀ K : Act → World → Prop, (∀ v w', G w w' → F i v w' → K ((fillA a0 ops (depB ops i) vs ops.size).put o.dst v) w') → if Region.wanted o (yielded ops (fillA a0 ops (depB ops i) vs ops.size).tmps) = true then Oper.wp P o (fillA a0 ops (depB ops i) vs ops.size) w K NoQ else K ((fillA a0 ops (depB ops i) vs ops.size).put o.dst undef) w
theorem StepF.of {a0 : Act} {B : World → Prop} {G : World → World → Prop} {F : Nat → Value → World → Prop} {i : Nat} {o : Oper} (ho : ops[i]? = some o) (js : List (Nat × Option Tmp)) (hjs : pickF ops (depB ops i) ops.size = js)
    (h : ∀ vs w, B w → FactsOf F vs w js → ∀ K : Act → World → Prop, Shut (∀ v w', G w w' → F i v w' → K ((putsA a0 vs js).put o.dst v) w') → if Region.wanted o (yielded ops (putsA a0 vs js).tmps) = true then Oper.wp P o (putsA a0 vs js) w K NoQ else K ((putsA a0 vs js).put o.dst undef) w) : StepF P ops a0 B G F i := by
  intro o' ho' vs w hB hf K hK
  rw [ho] at ho'
  obtain rfl := Option.some.inj ho'
  rw [fillA_puts, hjs] at hK ⊢
  exact h vs w hB (factsOf_all js (fun j hj => hf j.1 (by rw [← hjs] at hj; exact (mem_pick _ j hj).2))) K hK
/-- All of them. -/
def AllF (p : Nat → Prop) : List Nat → Prop
  | [] => True
  | i :: r => p i ∧ AllF p r
theorem allF_mem {p : Nat → Prop} : ∀ {is : List Nat}, AllF p is → ∀ i ∈ is, p i
  | [], _, _, h => by cases h
  | x :: r, h, i, hi => by
    rcases List.mem_cons.1 hi with rfl | hi
    · exact h.1
    · exact allF_mem h.2 i hi
/-- The law as it is used: the steps one by one, then the last one (number z), from all facts. -/
theorem wp_region_facts {id : Nat} {a0 : Act} {w0 : World} (hm : P.follows .mixedOrders = true) (z : Nat) (B : World → Prop) (G : World → World → Prop) (F : Nat → Value → World → Prop) (hok : factsOk ops z = true) (is : List Nat) (his : (List.range ops.size).filter (fun i => i != z) = is) (hB0 : B w0.drew)
    (hB : ∀ w w', B w → G w w' → B w') (hF : ∀ i v w w', F i v w → G w w' → F i v w') (hS : AllF (StepF P ops a0 B G F) is)
    (oz : Oper) (hoz : ops[z]? = some oz) (js : List (Nat × Option Tmp)) (hjs : pickF ops (fun j => j != z) ops.size = js)
    (last : ∀ vs w, B w → FactsOf F vs w js → ∀ K : Act → World → Prop, Shut (∀ a w', Q .normal a w' → K a w') → if Region.wanted oz (yielded ops (putsA a0 vs js).tmps) = true then Oper.wp P oz (putsA a0 vs js) w K Q else K ((putsA a0 vs js).put oz.dst undef) w) : (Code.region id ops true).wp P Q a0 w0 := by
  refine wp_region_facts0 hm z B G F hok hB0 hB hF (fun i o ho hz vs w hb hf K hK => ?_) (fun vs w hb hf => ?_)
  · have hi : i ∈ is := by
      rw [← his, List.mem_filter, List.mem_range]
      refine ⟨?_, by simp [hz]⟩
      rcases Nat.lt_or_ge i ops.size with g | g
      · exact g
      · rw [Array.getElem?_eq_none g] at ho; cases ho
    exact allF_mem hS i hi o ho vs w hb hf K hK
  · rw [fillA_puts, hjs]
    exact wpOp_step hoz (fun K hK => last vs w hb (factsOf_all js (fun j hj => by rw [← hjs] at hj; have := mem_pick _ j hj; exact hf j.1 this.1 (by simpa using this.2))) K hK)
/-- The same where no operation is the last one. -/
theorem wp_region_facts_all {id : Nat} {a0 : Act} {w0 : World} (hm : P.follows .mixedOrders = true) (B : World → Prop) (G : World → World → Prop) (F : Nat → Value → World → Prop) (hok : factsOk ops ops.size = true) (is : List Nat) (his : List.range ops.size = is) (hB0 : B w0.drew)
    (hB : ∀ w w', B w → G w w' → B w') (hF : ∀ i v w w', F i v w → G w w' → F i v w') (hS : AllF (StepF P ops a0 B G F) is)
    (js : List (Nat × Option Tmp)) (hjs : pickF ops (fun _ => true) ops.size = js)
    (last : ∀ vs w, B w → FactsOf F vs w js → Q .normal (putsA a0 vs js) w) : (Code.region id ops true).wp P Q a0 w0 := by
  refine wp_region_facts0 hm ops.size B G F hok hB0 hB hF (fun i o ho hz vs w hb hf K hK => ?_) (fun vs w hb hf => ?_)
  · have hi : i ∈ is := by
      rw [← his, List.mem_range]
      rcases Nat.lt_or_ge i ops.size with g | g
      · exact g
      · rw [Array.getElem?_eq_none g] at ho; cases ho
    exact allF_mem hS i hi o ho vs w hb hf K hK
  · have e : fillA a0 ops (fun j => j != ops.size) vs ops.size = putsA a0 vs js := by
      rw [← hjs, ← fillA_puts]
      exact fillA_ext a0 ops _ _ vs vs ops.size (fun j hj => ⟨by simp [Nat.ne_of_lt hj], fun _ => rfl⟩)
    unfold wpOp
    rw [Array.getElem?_eq_none (Nat.le_refl _), e]
    exact last vs w hb (factsOf_all js (fun j hj => by rw [← hjs] at hj; have := mem_pick _ j hj; exact hf j.1 this.1 (Nat.ne_of_lt this.1)))
end
end Go.Proofs.Ytdohpfckiahlcaa
