/-
  Parts of the proof laid into one text, one behind the other; each says at its head what is proved in it.
-/
import Derived.Test.YtebnonpdaddniaaGreatDoorHtM
import Derived.Test.YtebnonpdaddniaaGreatDoorHgE
import Derived.Test.YtebnonpdaddniaaGreatDoorHtA
/-
  The text of cores: what is told of them where each one begins and ends, the text that is written along it, and how long it can be. No program in it.
-/
namespace Go.Proofs.YtebnonpdaddniaaGreatDoor
open Go.RowKit Go.Extern.Stop Go.Stop Go.Extern Num Go.Lib

theorem str_add (a b : List UInt8) (h : a.length + b.length ≤ 1000000) (w : World) : (Op.stringOp .add ⟨a.toArray⟩ ⟨b.toArray⟩).run Tryz.prog w = .ok (.string ⟨(a ++ b).toArray⟩) w :=
  run_string_add_lists w a b (by first | omega | simp) (by omega)
/-- Cores without fault, as nodes: whose kid each is, and how many it has. -/
structure FineC (N : List (Cor × Value)) (l : List Cor) : Prop where
  fst : N.map Prod.fst = l
  pars : ParsC N
  opn : Opn N
  pos : 0 < l.length
  len : l.length ≤ 160
  ok : okC l l.length
  many : ∀ j, j < l.length → manyK (kdC l j) (kidN l (j : Int)) = true
theorem FineC.nlen {N : List (Cor × Value)} {l : List Cor} (F : FineC N l) : N.length = l.length := by rw [← F.fst, List.length_map]
theorem FineC.at {N : List (Cor × Value)} {l : List Cor} (F : FineC N l) (k : Nat) (hk : k < l.length) : (N[k]'(by rw [F.nlen]; exact hk)).1 = l[k] := by simp [← F.fst]
theorem FineC.of {N : List (Cor × Value)} {l : List Cor} (hN : N.map Prod.fst = l) (h : coreF l = 0) : FineC N l := by
  unfold coreF at h
  by_cases h1 : l.length < 1 ∨ 160 < l.length
  · rw [if_pos h1] at h; exact absurd h (by decide)
  · rw [if_neg h1] at h
    by_cases h2 : onesC l l.length 0 ≠ 0
    · rw [if_pos h2] at h; exact absurd h h2
    · rw [if_neg h2] at h
      have hok : ∀ k, k ≤ l.length → okC l k := by
        intro k
        induction k with
        | zero => intro _ j _ hj; omega
        | succ k ih =>
          intro hk
          have hi := ih (by omega)
          refine okC_next hi (by omega) ?_
          apply Classical.byContradiction
          intro hc
          exact h2 (by rw [onesC_hit hi (by omega) hc]; exact hc)
      have hall : ∀ k, k ≤ l.length → ∀ j, j < k → manyK (kdC l j) (kidN l (j : Int)) = true := by
        intro k
        induction k with
        | zero => intro _ j hj; omega
        | succ k ih =>
          intro hk j hj
          have hi := ih (by omega)
          by_cases e : j = k
          · subst e
            apply Classical.byContradiction
            intro hc
            have := kidsAll_hit hi (by omega) (by simpa using hc)
            rw [this] at h
            exact absurd h (by decide)
          · exact hi j (by omega)
      have hN' : N.map Prod.fst = l.take l.length := by rw [List.take_length]; exact hN
      exact ⟨hN, parsC_of (Nat.le_refl _) hN' (hok _ (Nat.le_refl _)), opn_of (Nat.le_refl _) hN' (hok _ (Nat.le_refl _)), by omega, by omega, hok _ (Nat.le_refl _), hall _ (Nat.le_refl _)⟩
theorem kids_to_mem (l : List Cor) (a : Int) (k : Nat) (p : Int) : p ∈ kidsTo l a k ↔ ∃ j : Nat, p = (j : Int) ∧ j < k ∧ parZ l j = a := by
  induction k with
  | zero => simp [kidsTo]
  | succ k ih =>
    simp only [kidsTo]
    by_cases h : parZ l k = a
    · rw [if_pos h, List.mem_append, ih]
      constructor
      · rintro (⟨j, h1, h2, h3⟩ | h1)
        · exact ⟨j, h1, by omega, h3⟩
        · simp at h1; exact ⟨k, h1, by omega, h⟩
      · rintro ⟨j, h1, h2, h3⟩
        by_cases e : j = k
        · subst e; right; simp [h1]
        · left; exact ⟨j, h1, by omega, h3⟩
    · rw [if_neg h, ih]
      constructor
      · rintro ⟨j, h1, h2, h3⟩; exact ⟨j, h1, by omega, h3⟩
      · rintro ⟨j, h1, h2, h3⟩
        by_cases e : j = k
        · subst e; exact absurd h3 h
        · exact ⟨j, h1, by omega, h3⟩
theorem kids_mem (l : List Cor) (a : Int) (p : Int) : p ∈ kidsD l a ↔ ∃ j : Nat, p = (j : Int) ∧ j < l.length ∧ parZ l j = a := kids_to_mem l a l.length p
theorem FineC.parlt {N : List (Cor × Value)} {l : List Cor} (F : FineC N l) {j a : Nat} (hj : j < l.length) (hp : parZ l j = (a : Int)) : a < j := by
  have := F.pars j (by rw [F.nlen]; exact hj)
  rw [F.at j hj] at this
  rw [parZ_at l j hj] at hp
  omega
/-- The kids that are told are those that the model finds. -/
theorem kidsC_to {N : List (Cor × Value)} {l : List Cor} (F : FineC N l) (a : Nat) : ∀ m, a + m ≤ l.length → kidsTC (a : Int) (tellNC N a m) = kidsTo l (a : Int) (a + m)
  | 0, h => by
    have : ∀ k, k ≤ a → kidsTo l (a : Int) k = [] := by
      intro k
      induction k with
      | zero => intro _; rfl
      | succ k ih =>
        intro hk
        rw [kidsTo, if_neg, ih (by omega)]
        intro hp
        have := F.parlt (by omega) hp
        omega
    rw [Nat.add_zero, this a (Nat.le_refl _)]
    simp [tellNC, kidsTC]
  | m + 1, h => by
    have hN : a + m < N.length := by rw [F.nlen]; omega
    rw [tellN_nextC N a m hN, ← Nat.add_assoc]
    have e : N[a + m].1.parent = parZ l (a + m) := by rw [F.at _ (by omega), parZ_at l _ (by omega)]
    by_cases hp : parZ l (a + m) = (a : Int)
    · rw [kidsT_hitC _ _ _ (by simp [e, hp]), kidsC_to F a m (by omega), kidsTo, if_pos hp]
    · rw [kidsT_missC _ _ _ (by simp [e, hp]), kidsC_to F a m (by omega), kidsTo, if_neg hp]
theorem kidsC_all {N : List (Cor × Value)} {l : List Cor} (F : FineC N l) {a e : Nat} (hE : EndAtC N a e) : kidsTC (a : Int) (tellNC N a (e - a)) = kidsD l (a : Int) := by
  have h1 := hE.lt
  have h2 := hE.le
  have hn := F.nlen
  rw [kidsC_to F a (e - a) (by omega), show a + (e - a) = e by omega]
  have : ∀ k, e + k ≤ l.length → kidsTo l (a : Int) (e + k) = kidsTo l (a : Int) e := by
    intro k
    induction k with
    | zero => intro _; rfl
    | succ k ih =>
      intro hk
      rw [← Nat.add_assoc, kidsTo, if_neg, ih (by omega)]
      have := par_past F.pars F.opn hE (e + k) (by omega) (by omega)
      rw [F.at _ (by omega)] at this
      rw [parZ_at l _ (by omega)]
      exact this
  have h3 := this (l.length - e) (by omega)
  rw [show e + (l.length - e) = l.length by omega] at h3
  exact h3.symm
/-- What a core's text begins with. -/
def wordC (t : Cor) : List UInt8 :=
  if t.kind = 1 then 39 :: writeF t.data t.data.length 0
  else if t.kind = 2 then 37 :: (itoa t.a ++ 46 :: itoa t.b)
  else if t.kind = 4 then [40, 105, 102]
  else if t.kind = 5 then [40, 102, 110, 32] ++ itoa t.a
  else if t.kind = 6 then [40, 115, 101, 113]
  else if t.kind = 7 then [40, 115, 101, 116, 32] ++ t.name.data.toList
  else if t.kind = 8 then [40, 100, 101, 102, 32] ++ t.name.data.toList
  else if t.kind = 9 then [40, 97, 112, 112]
  else t.name.data.toList
def wordAt (l : List Cor) (k : Nat) : List UInt8 := ((l[k]?).map wordC).getD []
def tailAt (l : List Cor) (k : Nat) : List UInt8 := if mostK (kdC l k) > 0 then [41] else []
/-- The text of a core and of what hangs on it; fuel as many as stand from there on. -/
def writeC (l : List Cor) : Nat → Nat → List UInt8
  | 0, _ => []
  | f + 1, a => wordAt l a ++ ((kidsD l (a : Int)).flatMap fun p => 32 :: writeC l f p.toNat) ++ tailAt l a
def evC (l : List Cor) : Nat → Nat → List (Int × Bool)
  | 0, _ => []
  | f + 1, a => [((a : Int), true)] ++ (kidsD l (a : Int)).flatMap (fun p => evC l f p.toNat) ++ [((a : Int), false)]
def blankC (k : Int) : List UInt8 := if k > 0 then [32] else []
def stepC (l : List Cor) (x : Int × Bool) : List UInt8 := if x.2 then blankC x.1 ++ wordAt l x.1.toNat else tailAt l x.1.toNat
def evTC (l : List Cor) (e : List (Int × Bool)) : List UInt8 := e.flatMap (stepC l)
theorem evTC_append (l : List Cor) (a b : List (Int × Bool)) : evTC l (a ++ b) = evTC l a ++ evTC l b := by simp [evTC]
theorem evTC_one (l : List Cor) (x : Int × Bool) : evTC l [x] = stepC l x := by simp [evTC]
theorem evTC_flat (l : List Cor) (f : Nat) (L : List Int) : evTC l (L.flatMap fun p => evC l f p.toNat) = L.flatMap fun p => evTC l (evC l f p.toNat) := by
  induction L with
  | nil => rfl
  | cons p r ih => simp only [List.flatMap_cons, evTC_append, ih]
theorem evTC_all {N : List (Cor × Value)} {l : List Cor} (F : FineC N l) : ∀ (f a : Nat), a < l.length → l.length ≤ a + f → evTC l (evC l f a) = blankC (a : Int) ++ writeC l f a
  | 0, a, ha, hf => by omega
  | f + 1, a, ha, hf => by
    simp only [evC, evTC_append, evTC_one, evTC_flat]
    have e : ((kidsD l (a : Int)).flatMap fun p => evTC l (evC l f p.toNat)) = (kidsD l (a : Int)).flatMap fun p => 32 :: writeC l f p.toNat := by
      rw [List.flatMap_def, List.flatMap_def]
      congr 1
      refine List.map_congr_left fun p hp => ?_
      obtain ⟨j, rfl, hj, hpar⟩ := (kids_mem l _ _).1 hp
      have := F.parlt hj hpar
      rw [Int.toNat_natCast, evTC_all F f j hj (by omega)]
      unfold blankC
      rw [if_pos (by omega)]
      rfl
    rw [e]
    simp [stepC, writeC]
theorem evTC_whole {N : List (Cor × Value)} {l : List Cor} (F : FineC N l) : evTC l (evC l l.length 0) = writeC l l.length 0 := by
  rw [evTC_all F l.length 0 F.pos (by omega)]
  rfl
/-- Each word is short. -/
theorem word_len {l : List Cor} {k : Nat} (hk : k < l.length) (h : oneC l k l[k] = 0) (hn : l[k].kind ≠ 2 ∨ (itoa l[k].a).length ≤ 11 ∧ (itoa l[k].b).length ≤ 11) (hn5 : l[k].kind ≠ 5 ∨ (itoa l[k].a).length ≤ 11) : (wordC l[k]).length ≤ 1650 := by
  obtain ⟨hb, -, hc⟩ := oneC_parts h
  unfold contC at hc
  unfold wordC
  by_cases h1 : l[k].kind = 1
  · rw [if_pos h1] at hc ⊢
    have F := fine_of hc
    have := write_small F l[k].data.length 0 F.pos
    simp; omega
  · rw [if_neg h1] at hc ⊢
    by_cases h2 : l[k].kind = 2
    · rw [if_pos h2]
      rcases hn with hn | hn
      · exact absurd h2 hn
      · simp; omega
    · rw [if_neg h2] at hc ⊢
      by_cases h4 : l[k].kind = 4
      · rw [if_pos h4]; simp
      · rw [if_neg h4]
        by_cases h5 : l[k].kind = 5
        · rw [if_pos h5]
          rcases hn5 with hn | hn
          · exact absurd h5 hn
          · simp; omega
        · rw [if_neg h5] at hc ⊢
          have nm : (l[k].kind = 3 ∨ l[k].kind = 7 ∨ l[k].kind = 8) → l[k].name.data.toList.length ≤ 12 := fun h => by
            rw [if_pos h] at hc
            have hnm : namC l[k].name = true := by
              cases e : namC l[k].name with
              | true => rfl
              | false => rw [e] at hc; simp at hc
            unfold namC at hnm
            simp only [symL, Bool.and_eq_true, decide_eq_true_eq] at hnm
            exact hnm.1.2.2
          by_cases h6 : l[k].kind = 6
          · rw [if_pos h6]; simp
          · rw [if_neg h6]
            by_cases h7 : l[k].kind = 7
            · rw [if_pos h7]; have := nm (by omega); simp at this ⊢; omega
            · rw [if_neg h7]
              by_cases h8 : l[k].kind = 8
              · rw [if_pos h8]; have := nm (by omega); simp at this ⊢; omega
              · rw [if_neg h8]
                by_cases h9 : l[k].kind = 9
                · rw [if_pos h9]; simp
                · rw [if_neg h9]
                  have h3 : l[k].kind = 3 := by
                    unfold bareC at hb
                    simp only [Bool.and_eq_true, decide_eq_true_eq] at hb
                    omega
                  have := nm (by omega); simp at this ⊢; omega
theorem kid_apart {N : List (Cor × Value)} {l : List Cor} (F : FineC N l) {a p q e : Nat} (hE : EndAtC N p e) (hp : parZ l p = (a : Int)) (hq : parZ l q = (a : Int)) (hpq : p < q) (hql : q < l.length) : e ≤ q := by
  have hn := F.nlen
  have ha := F.parlt (by omega) hp
  apply Classical.byContradiction
  intro hc
  have := hE.inside q (by omega) hpq (by omega)
  rw [F.at q hql] at this
  rw [parZ_at l q hql] at hq
  omega
theorem kid_in {N : List (Cor × Value)} {l : List Cor} (F : FineC N l) {a p e e' : Nat} (hE : EndAtC N p e) (hE' : EndAtC N a e') (hp : parZ l p = (a : Int)) (hpl : p < l.length) : a < p ∧ p < e' ∧ e ≤ e' := by
  have hn := F.nlen
  have ha := F.parlt hpl hp
  have h1 : p < e' := by
    apply Classical.byContradiction
    intro hc
    have := par_past F.pars F.opn hE' p (by omega) (by omega)
    rw [F.at p hpl] at this
    rw [parZ_at l p hpl] at hp
    exact this hp
  refine ⟨ha, h1, ?_⟩
  apply Classical.byContradiction
  intro hc
  have hle := hE.le
  have h2 := hE.inside e' (by omega) h1 (by omega)
  have h3 := hE'.stop (by omega)
  omega
theorem kids_len {N : List (Cor × Value)} {l : List Cor} (F : FineC N l) (W : Nat → List UInt8) (hW : ∀ p e, p < l.length → EndAtC N p e → (W p).length + 1 ≤ 1700 * (e - p)) (a : Nat) : ∀ k, k ≤ l.length →
    kidsTo l (a : Int) k = [] ∨ (∃ p e : Nat, p < k ∧ parZ l p = (a : Int) ∧ EndAtC N p e ∧ ((kidsTo l (a : Int) k).flatMap fun p => 32 :: W p.toNat).length ≤ 1700 * (e - (a + 1))) := by
  intro k
  have hn := F.nlen
  induction k with
  | zero => intro _; exact Or.inl rfl
  | succ k ih =>
    intro hk
    have hkl : k < l.length := by omega
    simp only [kidsTo]
    by_cases hp : parZ l k = (a : Int)
    · rw [if_pos hp]
      right
      have hlt := F.parlt hkl hp
      obtain ⟨e, hE⟩ := endC N k (by omega)
      have hek := hE.lt
      have hw := hW k e hkl hE
      refine ⟨k, e, by omega, hp, hE, ?_⟩
      rcases ih (by omega) with h | ⟨p, e', hpk, hpa, hE', hlen⟩
      · rw [h]
        simp only [List.nil_append, List.flatMap_cons, List.flatMap_nil, List.append_nil, Int.toNat_natCast, List.length_cons]
        omega
      · have := kid_apart F hE' hpa hp hpk hkl
        have hpl := F.parlt (by omega) hpa
        have hpe := hE'.lt
        simp only [List.flatMap_append, List.flatMap_cons, List.flatMap_nil, List.append_nil, Int.toNat_natCast, List.length_append, List.length_cons]
        omega
    · rw [if_neg hp]
      rcases ih (by omega) with h | ⟨p, e, hpk, hpa, hE, hlen⟩
      · exact Or.inl h
      · exact Or.inr ⟨p, e, by omega, hpa, hE, hlen⟩
theorem writeC_len {N : List (Cor × Value)} {l : List Cor} (F : FineC N l) (hw : ∀ k (h : k < l.length), (wordC l[k]).length ≤ 1650) : ∀ (f a e : Nat), a < l.length → EndAtC N a e → (writeC l f a).length + 1 ≤ 1700 * (e - a) := by
  intro f
  induction f with
  | zero => intro a e ha hE; have := hE.lt; simp [writeC]; omega
  | succ f ih =>
    intro a e ha hE
    have he := hE.lt
    have h1 := hw a ha
    have e1 : wordAt l a = wordC l[a] := by simp [wordAt, ha]
    have e2 : (tailAt l a).length ≤ 1 := by unfold tailAt; split <;> simp
    simp only [writeC, List.length_append, e1]
    rcases kids_len F (writeC l f) (fun p e hp hE => ih p e hp hE) a l.length (Nat.le_refl _) with h | ⟨p, e', hpk, hpa, hE', hlen⟩
    · have : kidsD l (a : Int) = [] := h
      rw [this]
      simp; omega
    · have hi := kid_in F hE' hE hpa hpk
      have : ((kidsD l (a : Int)).flatMap fun p => 32 :: writeC l f p.toNat).length ≤ 1700 * (e' - (a + 1)) := hlen
      omega
theorem writeC_small {N : List (Cor × Value)} {l : List Cor} (F : FineC N l) (hw : ∀ k (h : k < l.length), (wordC l[k]).length ≤ 1650) (f a : Nat) (ha : a < l.length) : (writeC l f a).length ≤ 272000 := by
  have hn := F.nlen
  obtain ⟨e, hE⟩ := endC N a (by omega)
  have h1 := writeC_len F hw f a e ha hE
  have h2 := hE.le
  have h3 := F.len
  omega
/-- The numbers of a local or a lambda without fault are small. -/
theorem numC_in {N : List (Cor × Value)} {l : List Cor} (F : FineC N l) (k : Nat) (hk : k < l.length) (h25 : l[k].kind = 2 ∨ l[k].kind = 5) : inB l[k].a = true ∧ (l[k].kind = 2 → inB l[k].b = true) := by
  have h := F.ok k hk hk
  by_cases h2 : l[k].kind = 2
  · obtain ⟨-, -, hc⟩ := oneC_parts h
    unfold contC at hc
    rw [if_neg (by omega), if_pos h2] at hc
    have hb : 0 ≤ l[k].b ∧ l[k].b < poF l l[k].a (upLC (zC (l.take k)) l[k].parent) 0 := by
      by_cases hb : 0 ≤ l[k].b ∧ l[k].b < poF l l[k].a (upLC (zC (l.take k)) l[k].parent) 0
      · exact hb
      · rw [if_neg hb] at hc; exact absurd hc (by decide)
    have hz : (zC (l.take k)).length = k := by rw [zC_len, List.length_take]; omega
    have hok : okC l k := fun j hj hjk => F.ok j hj hj
    have hpk : ParsC (zC (l.take k)) := parsC_of (l := l) (k := k) (by omega) (by simp [zC, Function.comp_def]) hok
    have hpar := okC_par F.ok k hk hk
    have hup : ∀ x ∈ upLC (zC (l.take k)) l[k].parent, 0 ≤ x ∧ x ≤ l[k].parent := fun x hm => upL_mem hpk (k + 1) l[k].parent (by omega) (by omega) x hm
    have hlen := upL_lenC hpk (k + 1) l[k].parent (by omega) (by omega) hpar.2
    have hA : 0 ≤ l[k].a ∧ l[k].a < 200 := by
      apply Classical.byContradiction
      intro hc2
      have := poF_far l l[k].a (upLC (zC (l.take k)) l[k].parent) 0 (by have := F.len; omega)
      omega
    have hB : l[k].b < 3 := by
      rcases po_aro l l[k].a (upLC (zC (l.take k)) l[k].parent) 0 (fun x hm => (hup x hm).1) with ⟨-, h0⟩ | ⟨h0, h1⟩
      · omega
      · rcases aroF_kind l (upLC (zC (l.take k)) l[k].parent) (l[k].a - 0) with h2 | ⟨h2, h3⟩
        · omega
        · obtain ⟨j, hj⟩ : ∃ j : Nat, aroF l (upLC (zC (l.take k)) l[k].parent) (l[k].a - 0) = (j : Int) := ⟨_, (Int.toNat_of_nonneg h0).symm⟩
          rw [hj] at h1 h2 h3
          have hjk := hup _ h2
          rw [Int.toNat_natCast] at h1 h3
          have hjl : j < l.length := by omega
          rw [naC_at l j hjl] at h1
          rw [kdC_at l j hjl] at h3
          have := okC_lam F.ok j hjl hjl h3
          omega
    exact ⟨by simp [inB]; omega, fun _ => by simp [inB]; omega⟩
  · have h5 : l[k].kind = 5 := by omega
    obtain ⟨-, -, hc⟩ := oneC_parts h
    unfold contC at hc
    rw [if_neg (by omega), if_neg (by omega), if_pos h5] at hc
    have hb : 0 ≤ l[k].a ∧ l[k].a ≤ 3 := by
      by_cases hb : 0 ≤ l[k].a ∧ l[k].a ≤ 3
      · exact hb
      · rw [if_neg hb] at hc; exact absurd hc (by decide)
    exact ⟨by simp [inB]; omega, fun h => absurd h h2⟩
theorem word_all {N : List (Cor × Value)} {l : List Cor} (F : FineC N l) (k : Nat) (hk : k < l.length) : (wordC l[k]).length ≤ 1650 := by
  have h := F.ok k hk hk
  refine word_len hk h ?_ ?_
  · by_cases h2 : l[k].kind = 2
    · have := numC_in F k hk (.inl h2)
      exact .inr ⟨itoa_len _ this.1, itoa_len _ (this.2 h2)⟩
    · exact .inl h2
  · by_cases h5 : l[k].kind = 5
    · exact .inr (itoa_len _ (numC_in F k hk (.inr h5)).1)
    · exact .inl h5
/-- The kinds of cores without fault. -/
theorem core_kind {l : List Cor} {i : Nat} {t : Cor} (h : oneC l i t = 0) : 1 ≤ t.kind ∧ t.kind ≤ 9 := by
  obtain ⟨hb, -, -⟩ := oneC_parts h
  unfold bareC at hb
  simp only [Bool.and_eq_true, decide_eq_true_eq] at hb
  omega
theorem core_nm {l : List Cor} {i : Nat} {t : Cor} (h : oneC l i t = 0) (hk : t.kind = 3 ∨ t.kind = 7 ∨ t.kind = 8) : t.name.size ≤ 12 ∧ 1 ≤ t.name.size := by
  obtain ⟨-, -, hc⟩ := oneC_parts h
  unfold contC at hc
  rw [if_neg (by omega), if_neg (by omega), if_neg (by omega), if_pos hk] at hc
  have hnm : namC t.name = true := by
    cases e : namC t.name with
    | true => rfl
    | false => rw [e] at hc; simp at hc
  unfold namC at hnm
  simp only [symL, Bool.and_eq_true, decide_eq_true_eq] at hnm
  have hl : t.name.data.toList.length = t.name.size := by rw [Array.length_toList]; rfl
  omega
end Go.Proofs.YtebnonpdaddniaaGreatDoor
