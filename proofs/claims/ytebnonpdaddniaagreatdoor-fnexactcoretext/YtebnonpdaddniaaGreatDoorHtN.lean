/-
  Parts of the proof laid into one text, one behind the other; each says at its head what is proved in it.
-/
import Derived.Test.YtebnonpdaddniaaGreatDoorHtM
import Derived.Test.YtebnonpdaddniaaGreatDoorHtE
import Derived.Test.YtebnonpdaddniaaGreatDoorHtA
import Derived.Test.YtebnonpdaddniaaGreatDoorTellMHt
/-
  The text of cores: what is told of them where each one begins and ends, the text that is written along it, and how long it can be. No program in it.
-/
namespace Go.Proofs.YtebnonpdaddniaaGreatDoor
open Go.RowKit Go.Extern.Stop Go.Stop Go.Extern Num Go.Lib

theorem str_add (a b : List UInt8) (h : a.length + b.length ≤ 1000000) (w : World) : (Op.stringOp .add ⟨a.toArray⟩ ⟨b.toArray⟩).run Tryz.prog w = .ok (.string ⟨(a ++ b).toArray⟩) w :=
  run_string_add_lists w a b (by first | omega | simp) (by omega)
/-- Cores without fault, as nodes: whose kid each is, and how many it has. -/
structure FineC (N : List (Cor × Value)) (l : List Cor) : Prop where
  fst : N.map Prod.fst = l
  pars : ParsC N
  opn : Opn N
  pos : 0 < l.length
  len : l.length ≤ 160
  ok : okC l l.length
  many : ∀ j, j < l.length → manyK (kdC l j) (kidN l (j : Int)) = true
theorem FineC.nlen {N : List (Cor × Value)} {l : List Cor} (F : FineC N l) : N.length = l.length := by rw [← F.fst, List.length_map]
theorem FineC.at {N : List (Cor × Value)} {l : List Cor} (F : FineC N l) (k : Nat) (hk : k < l.length) : (N[k]'(by rw [F.nlen]; exact hk)).1 = l[k] := by simp [← F.fst]
theorem FineC.of {N : List (Cor × Value)} {l : List Cor} (hN : N.map Prod.fst = l) (h : coreF l = 0) : FineC N l := by
  unfold coreF at h
  by_cases h1 : l.length < 1 ∨ 160 < l.length
  · rw [if_pos h1] at h; exact absurd h (by decide)
  · rw [if_neg h1] at h
    by_cases h2 : onesC l l.length 0 ≠ 0
    · rw [if_pos h2] at h; exact absurd h h2
    · rw [if_neg h2] at h
      have hok : ∀ k, k ≤ l.length → okC l k := by
        intro k
        induction k with
        | zero => intro _ j _ hj; omega
        | succ k ih =>
          intro hk
          have hi := ih (by omega)
          refine okC_next hi (by omega) ?_
          apply Classical.byContradiction
          intro hc
          exact h2 (by rw [onesC_hit hi (by omega) hc]; exact hc)
      have hall : ∀ k, k ≤ l.length → ∀ j, j < k → manyK (kdC l j) (kidN l (j : Int)) = true := by
        intro k
        induction k with
        | zero => intro _ j hj; omega
        | succ k ih =>
          intro hk j hj
          have hi := ih (by omega)
          by_cases e : j = k
          · subst e
            apply Classical.byContradiction
            intro hc
            have := kidsAll_hit hi (by omega) (by simpa using hc)
            rw [this] at h
            exact absurd h (by decide)
          · exact hi j (by omega)
      have hN' : N.map Prod.fst = l.take l.length := by rw [List.take_length]; exact hN
      exact ⟨hN, parsC_of (Nat.le_refl _) hN' (hok _ (Nat.le_refl _)), opn_of (Nat.le_refl _) hN' (hok _ (Nat.le_refl _)), by omega, by omega, hok _ (Nat.le_refl _), hall _ (Nat.le_refl _)⟩
theorem kids_to_mem (l : List Cor) (a : Int) (k : Nat) (p : Int) : p ∈ kidsTo l a k ↔ ∃ j : Nat, p = (j : Int) ∧ j < k ∧ parZ l j = a := by
  induction k with
  | zero => simp [kidsTo]
  | succ k ih =>
    simp only [kidsTo]
    by_cases h : parZ l k = a
    · rw [if_pos h, List.mem_append, ih]
      constructor
      · rintro (⟨j, h1, h2, h3⟩ | h1)
        · exact ⟨j, h1, by omega, h3⟩
        · simp at h1; exact ⟨k, h1, by omega, h⟩
      · rintro ⟨j, h1, h2, h3⟩
        by_cases e : j = k
        · subst e; right; simp [h1]
        · left; exact ⟨j, h1, by omega, h3⟩
    · rw [if_neg h, ih]
      constructor
      · rintro ⟨j, h1, h2, h3⟩; exact ⟨j, h1, by omega, h3⟩
      · rintro ⟨j, h1, h2, h3⟩
        by_cases e : j = k
        · subst e; exact absurd h3 h
        · exact ⟨j, h1, by omega, h3⟩
theorem kids_mem (l : List Cor) (a : Int) (p : Int) : p ∈ kidsD l a ↔ ∃ j : Nat, p = (j : Int) ∧ j < l.length ∧ parZ l j = a := kids_to_mem l a l.length p
theorem FineC.parlt {N : List (Cor × Value)} {l : List Cor} (F : FineC N l) {j a : Nat} (hj : j < l.length) (hp : parZ l j = (a : Int)) : a < j := by
  have := F.pars j (by rw [F.nlen]; exact hj)
  rw [F.at j hj] at this
  rw [parZ_at l j hj] at hp
  omega
/-- The kids that are told are those that the model finds. -/
theorem kidsC_to {N : List (Cor × Value)} {l : List Cor} (F : FineC N l) (a : Nat) : ∀ m, a + m ≤ l.length → kidsTC (a : Int) (tellNC N a m) = kidsTo l (a : Int) (a + m)
  | 0, h => by
    have : ∀ k, k ≤ a → kidsTo l (a : Int) k = [] := by
      intro k
      induction k with
      | zero => intro _; rfl
      | succ k ih =>
        intro hk
        rw [kidsTo, if_neg, ih (by omega)]
        intro hp
        have := F.parlt (by omega) hp
        omega
    rw [Nat.add_zero, this a (Nat.le_refl _)]
    simp [tellNC, kidsTC]
  | m + 1, h => by
    have hN : a + m < N.length := by rw [F.nlen]; omega
    rw [tellN_nextC N a m hN, ← Nat.add_assoc]
    have e : N[a + m].1.parent = parZ l (a + m) := by rw [F.at _ (by omega), parZ_at l _ (by omega)]
    by_cases hp : parZ l (a + m) = (a : Int)
    · rw [kidsT_hitC _ _ _ (by simp [e, hp]), kidsC_to F a m (by omega), kidsTo, if_pos hp]
    · rw [kidsT_missC _ _ _ (by simp [e, hp]), kidsC_to F a m (by omega), kidsTo, if_neg hp]
theorem kidsC_all {N : List (Cor × Value)} {l : List Cor} (F : FineC N l) {a e : Nat} (hE : EndAtC N a e) : kidsTC (a : Int) (tellNC N a (e - a)) = kidsD l (a : Int) := by
  have h1 := hE.lt
  have h2 := hE.le
  have hn := F.nlen
  rw [kidsC_to F a (e - a) (by omega), show a + (e - a) = e by omega]
  have : ∀ k, e + k ≤ l.length → kidsTo l (a : Int) (e + k) = kidsTo l (a : Int) e := by
    intro k
    induction k with
    | zero => intro _; rfl
    | succ k ih =>
      intro hk
      rw [← Nat.add_assoc, kidsTo, if_neg, ih (by omega)]
      have := par_past F.pars F.opn hE (e + k) (by omega) (by omega)
      rw [F.at _ (by omega)] at this
      rw [parZ_at l _ (by omega)]
      exact this
  have h3 := this (l.length - e) (by omega)
  rw [show e + (l.length - e) = l.length by omega] at h3
  exact h3.symm
/-- What a core's text begins with. -/
def wordC (t : Cor) : List UInt8 :=
  if t.kind = 1 then 39 :: writeF t.data t.data.length 0
  else if t.kind = 2 then 37 :: (itoa t.a ++ 46 :: itoa t.b)
  else if t.kind = 4 then [40, 105, 102]
  else if t.kind = 5 then [40, 102, 110, 32] ++ itoa t.a
  else if t.kind = 6 then [40, 115, 101, 113]
  else if t.kind = 7 then [40, 115, 101, 116, 32] ++ t.name.data.toList
  else if t.kind = 8 then [40, 100, 101, 102, 32] ++ t.name.data.toList
  else if t.kind = 9 then [40, 97, 112, 112]
  else t.name.data.toList
def wordAt (l : List Cor) (k : Nat) : List UInt8 := ((l[k]?).map wordC).getD []
def tailAt (l : List Cor) (k : Nat) : List UInt8 := if mostK (kdC l k) > 0 then [41] else []
/-- The text of a core and of what hangs on it; fuel as many as stand from there on. -/
def writeC (l : List Cor) : Nat → Nat → List UInt8
  | 0, _ => []
  | f + 1, a => wordAt l a ++ ((kidsD l (a : Int)).flatMap fun p => 32 :: writeC l f p.toNat) ++ tailAt l a
def evC (l : List Cor) : Nat → Nat → List (Int × Bool)
  | 0, _ => []
  | f + 1, a => [((a : Int), true)] ++ (kidsD l (a : Int)).flatMap (fun p => evC l f p.toNat) ++ [((a : Int), false)]
def blankC (k : Int) : List UInt8 := if k > 0 then [32] else []
def stepC (l : List Cor) (x : Int × Bool) : List UInt8 := if x.2 then blankC x.1 ++ wordAt l x.1.toNat else tailAt l x.1.toNat
def evTC (l : List Cor) (e : List (Int × Bool)) : List UInt8 := e.flatMap (stepC l)
theorem evTC_append (l : List Cor) (a b : List (Int × Bool)) : evTC l (a ++ b) = evTC l a ++ evTC l b := by simp [evTC]
theorem evTC_one (l : List Cor) (x : Int × Bool) : evTC l [x] = stepC l x := by simp [evTC]
theorem evTC_flat (l : List Cor) (f : Nat) (L : List Int) : evTC l (L.flatMap fun p => evC l f p.toNat) = L.flatMap fun p => evTC l (evC l f p.toNat) := by
  induction L with
  | nil => rfl
  | cons p r ih => simp only [List.flatMap_cons, evTC_append, ih]
theorem evTC_all {N : List (Cor × Value)} {l : List Cor} (F : FineC N l) : ∀ (f a : Nat), a < l.length → l.length ≤ a + f → evTC l (evC l f a) = blankC (a : Int) ++ writeC l f a
  | 0, a, ha, hf => by omega
  | f + 1, a, ha, hf => by
    simp only [evC, evTC_append, evTC_one, evTC_flat]
    have e : ((kidsD l (a : Int)).flatMap fun p => evTC l (evC l f p.toNat)) = (kidsD l (a : Int)).flatMap fun p => 32 :: writeC l f p.toNat := by
      rw [List.flatMap_def, List.flatMap_def]
      congr 1
      refine List.map_congr_left fun p hp => ?_
      obtain ⟨j, rfl, hj, hpar⟩ := (kids_mem l _ _).1 hp
      have := F.parlt hj hpar
      rw [Int.toNat_natCast, evTC_all F f j hj (by omega)]
      unfold blankC
      rw [if_pos (by omega)]
      rfl
    rw [e]
    simp [stepC, writeC]
theorem evTC_whole {N : List (Cor × Value)} {l : List Cor} (F : FineC N l) : evTC l (evC l l.length 0) = writeC l l.length 0 := by
  rw [evTC_all F l.length 0 F.pos (by omega)]
  rfl
/-- Each word is short. -/
theorem word_len {l : List Cor} {k : Nat} (hk : k < l.length) (h : oneC l k l[k] = 0) (hn : l[k].kind ≠ 2 ∨ (itoa l[k].a).length ≤ 11 ∧ (itoa l[k].b).length ≤ 11) (hn5 : l[k].kind ≠ 5 ∨ (itoa l[k].a).length ≤ 11) : (wordC l[k]).length ≤ 1650 := by
  obtain ⟨hb, -, hc⟩ := oneC_parts h
  unfold contC at hc
  unfold wordC
  by_cases h1 : l[k].kind = 1
  · rw [if_pos h1] at hc ⊢
    have F := fine_of hc
    have := write_small F l[k].data.length 0 F.pos
    simp; omega
  · rw [if_neg h1] at hc ⊢
    by_cases h2 : l[k].kind = 2
    · rw [if_pos h2]
      rcases hn with hn | hn
      · exact absurd h2 hn
      · simp; omega
    · rw [if_neg h2] at hc ⊢
      by_cases h4 : l[k].kind = 4
      · rw [if_pos h4]; simp
      · rw [if_neg h4]
        by_cases h5 : l[k].kind = 5
        · rw [if_pos h5]
          rcases hn5 with hn | hn
          · exact absurd h5 hn
          · simp; omega
        · rw [if_neg h5] at hc ⊢
          have nm : (l[k].kind = 3 ∨ l[k].kind = 7 ∨ l[k].kind = 8) → l[k].name.data.toList.length ≤ 12 := fun h => by
            rw [if_pos h] at hc
            have hnm : namC l[k].name = true := by
              cases e : namC l[k].name with
              | true => rfl
              | false => rw [e] at hc; simp at hc
            unfold namC at hnm
            simp only [symL, Bool.and_eq_true, decide_eq_true_eq] at hnm
            exact hnm.1.2.2
          by_cases h6 : l[k].kind = 6
          · rw [if_pos h6]; simp
          · rw [if_neg h6]
            by_cases h7 : l[k].kind = 7
            · rw [if_pos h7]; have := nm (by omega); simp at this ⊢; omega
            · rw [if_neg h7]
              by_cases h8 : l[k].kind = 8
              · rw [if_pos h8]; have := nm (by omega); simp at this ⊢; omega
              · rw [if_neg h8]
                by_cases h9 : l[k].kind = 9
                · rw [if_pos h9]; simp
                · rw [if_neg h9]
                  have h3 : l[k].kind = 3 := by
                    unfold bareC at hb
                    simp only [Bool.and_eq_true, decide_eq_true_eq] at hb
                    omega
                  have := nm (by omega); simp at this ⊢; omega
theorem kid_apart {N : List (Cor × Value)} {l : List Cor} (F : FineC N l) {a p q e : Nat} (hE : EndAtC N p e) (hp : parZ l p = (a : Int)) (hq : parZ l q = (a : Int)) (hpq : p < q) (hql : q < l.length) : e ≤ q := by
  have hn := F.nlen
  have ha := F.parlt (by omega) hp
  apply Classical.byContradiction
  intro hc
  have := hE.inside q (by omega) hpq (by omega)
  rw [F.at q hql] at this
  rw [parZ_at l q hql] at hq
  omega
theorem kid_in {N : List (Cor × Value)} {l : List Cor} (F : FineC N l) {a p e e' : Nat} (hE : EndAtC N p e) (hE' : EndAtC N a e') (hp : parZ l p = (a : Int)) (hpl : p < l.length) : a < p ∧ p < e' ∧ e ≤ e' := by
  have hn := F.nlen
  have ha := F.parlt hpl hp
  have h1 : p < e' := by
    apply Classical.byContradiction
    intro hc
    have := par_past F.pars F.opn hE' p (by omega) (by omega)
    rw [F.at p hpl] at this
    rw [parZ_at l p hpl] at hp
    exact this hp
  refine ⟨ha, h1, ?_⟩
  apply Classical.byContradiction
  intro hc
  have hle := hE.le
  have h2 := hE.inside e' (by omega) h1 (by omega)
  have h3 := hE'.stop (by omega)
  omega
theorem kids_len {N : List (Cor × Value)} {l : List Cor} (F : FineC N l) (W : Nat → List UInt8) (hW : ∀ p e, p < l.length → EndAtC N p e → (W p).length + 1 ≤ 1700 * (e - p)) (a : Nat) : ∀ k, k ≤ l.length →
    kidsTo l (a : Int) k = [] ∨ (∃ p e : Nat, p < k ∧ parZ l p = (a : Int) ∧ EndAtC N p e ∧ ((kidsTo l (a : Int) k).flatMap fun p => 32 :: W p.toNat).length ≤ 1700 * (e - (a + 1))) := by
  intro k
  have hn := F.nlen
  induction k with
  | zero => intro _; exact Or.inl rfl
  | succ k ih =>
    intro hk
    have hkl : k < l.length := by omega
    simp only [kidsTo]
    by_cases hp : parZ l k = (a : Int)
    · rw [if_pos hp]
      right
      have hlt := F.parlt hkl hp
      obtain ⟨e, hE⟩ := endC N k (by omega)
      have hek := hE.lt
      have hw := hW k e hkl hE
      refine ⟨k, e, by omega, hp, hE, ?_⟩
      rcases ih (by omega) with h | ⟨p, e', hpk, hpa, hE', hlen⟩
      · rw [h]
        simp only [List.nil_append, List.flatMap_cons, List.flatMap_nil, List.append_nil, Int.toNat_natCast, List.length_cons]
        omega
      · have := kid_apart F hE' hpa hp hpk hkl
        have hpl := F.parlt (by omega) hpa
        have hpe := hE'.lt
        simp only [List.flatMap_append, List.flatMap_cons, List.flatMap_nil, List.append_nil, Int.toNat_natCast, List.length_append, List.length_cons]
        omega
    · rw [if_neg hp]
      rcases ih (by omega) with h | ⟨p, e, hpk, hpa, hE, hlen⟩
      · exact Or.inl h
      · exact Or.inr ⟨p, e, by omega, hpa, hE, hlen⟩
theorem writeC_len {N : List (Cor × Value)} {l : List Cor} (F : FineC N l) (hw : ∀ k (h : k < l.length), (wordC l[k]).length ≤ 1650) : ∀ (f a e : Nat), a < l.length → EndAtC N a e → (writeC l f a).length + 1 ≤ 1700 * (e - a) := by
  intro f
  induction f with
  | zero => intro a e ha hE; have := hE.lt; simp [writeC]; omega
  | succ f ih =>
    intro a e ha hE
    have he := hE.lt
    have h1 := hw a ha
    have e1 : wordAt l a = wordC l[a] := by simp [wordAt, ha]
    have e2 : (tailAt l a).length ≤ 1 := by unfold tailAt; split <;> simp
    simp only [writeC, List.length_append, e1]
    rcases kids_len F (writeC l f) (fun p e hp hE => ih p e hp hE) a l.length (Nat.le_refl _) with h | ⟨p, e', hpk, hpa, hE', hlen⟩
    · have : kidsD l (a : Int) = [] := h
      rw [this]
      simp; omega
    · have hi := kid_in F hE' hE hpa hpk
      have : ((kidsD l (a : Int)).flatMap fun p => 32 :: writeC l f p.toNat).length ≤ 1700 * (e' - (a + 1)) := hlen
      omega
theorem writeC_small {N : List (Cor × Value)} {l : List Cor} (F : FineC N l) (hw : ∀ k (h : k < l.length), (wordC l[k]).length ≤ 1650) (f a : Nat) (ha : a < l.length) : (writeC l f a).length ≤ 272000 := by
  have hn := F.nlen
  obtain ⟨e, hE⟩ := endC N a (by omega)
  have h1 := writeC_len F hw f a e ha hE
  have h2 := hE.le
  have h3 := F.len
  omega
/-- The numbers of a local or a lambda without fault are small. -/
theorem numC_in {N : List (Cor × Value)} {l : List Cor} (F : FineC N l) (k : Nat) (hk : k < l.length) (h25 : l[k].kind = 2 ∨ l[k].kind = 5) : inB l[k].a = true ∧ (l[k].kind = 2 → inB l[k].b = true) := by
  have h := F.ok k hk hk
  by_cases h2 : l[k].kind = 2
  · obtain ⟨-, -, hc⟩ := oneC_parts h
    unfold contC at hc
    rw [if_neg (by omega), if_pos h2] at hc
    have hb : 0 ≤ l[k].b ∧ l[k].b < poF l l[k].a (upLC (zC (l.take k)) l[k].parent) 0 := by
      by_cases hb : 0 ≤ l[k].b ∧ l[k].b < poF l l[k].a (upLC (zC (l.take k)) l[k].parent) 0
      · exact hb
      · rw [if_neg hb] at hc; exact absurd hc (by decide)
    have hz : (zC (l.take k)).length = k := by rw [zC_len, List.length_take]; omega
    have hok : okC l k := fun j hj hjk => F.ok j hj hj
    have hpk : ParsC (zC (l.take k)) := parsC_of (l := l) (k := k) (by omega) (by simp [zC, Function.comp_def]) hok
    have hpar := okC_par F.ok k hk hk
    have hup : ∀ x ∈ upLC (zC (l.take k)) l[k].parent, 0 ≤ x ∧ x ≤ l[k].parent := fun x hm => upL_mem hpk (k + 1) l[k].parent (by omega) (by omega) x hm
    have hlen := upL_lenC hpk (k + 1) l[k].parent (by omega) (by omega) hpar.2
    have hA : 0 ≤ l[k].a ∧ l[k].a < 200 := by
      apply Classical.byContradiction
      intro hc2
      have := poF_far l l[k].a (upLC (zC (l.take k)) l[k].parent) 0 (by have := F.len; omega)
      omega
    have hB : l[k].b < 3 := by
      rcases po_aro l l[k].a (upLC (zC (l.take k)) l[k].parent) 0 (fun x hm => (hup x hm).1) with ⟨-, h0⟩ | ⟨h0, h1⟩
      · omega
      · rcases aroF_kind l (upLC (zC (l.take k)) l[k].parent) (l[k].a - 0) with h2 | ⟨h2, h3⟩
        · omega
        · obtain ⟨j, hj⟩ : ∃ j : Nat, aroF l (upLC (zC (l.take k)) l[k].parent) (l[k].a - 0) = (j : Int) := ⟨_, (Int.toNat_of_nonneg h0).symm⟩
          rw [hj] at h1 h2 h3
          have hjk := hup _ h2
          rw [Int.toNat_natCast] at h1 h3
          have hjl : j < l.length := by omega
          rw [naC_at l j hjl] at h1
          rw [kdC_at l j hjl] at h3
          have := okC_lam F.ok j hjl hjl h3
          omega
    exact ⟨by simp [inB]; omega, fun _ => by simp [inB]; omega⟩
  · have h5 : l[k].kind = 5 := by omega
    obtain ⟨-, -, hc⟩ := oneC_parts h
    unfold contC at hc
    rw [if_neg (by omega), if_neg (by omega), if_pos h5] at hc
    have hb : 0 ≤ l[k].a ∧ l[k].a ≤ 3 := by
      by_cases hb : 0 ≤ l[k].a ∧ l[k].a ≤ 3
      · exact hb
      · rw [if_neg hb] at hc; exact absurd hc (by decide)
    exact ⟨by simp [inB]; omega, fun h => absurd h h2⟩
theorem word_all {N : List (Cor × Value)} {l : List Cor} (F : FineC N l) (k : Nat) (hk : k < l.length) : (wordC l[k]).length ≤ 1650 := by
  have h := F.ok k hk hk
  refine word_len hk h ?_ ?_
  · by_cases h2 : l[k].kind = 2
    · have := numC_in F k hk (.inl h2)
      exact .inr ⟨itoa_len _ this.1, itoa_len _ (this.2 h2)⟩
    · exact .inl h2
  · by_cases h5 : l[k].kind = 5
    · exact .inr (itoa_len _ (numC_in F k hk (.inr h5)).1)
    · exact .inl h5
/-- The kinds of cores without fault. -/
theorem core_kind {l : List Cor} {i : Nat} {t : Cor} (h : oneC l i t = 0) : 1 ≤ t.kind ∧ t.kind ≤ 9 := by
  obtain ⟨hb, -, -⟩ := oneC_parts h
  unfold bareC at hb
  simp only [Bool.and_eq_true, decide_eq_true_eq] at hb
  omega
theorem core_nm {l : List Cor} {i : Nat} {t : Cor} (h : oneC l i t = 0) (hk : t.kind = 3 ∨ t.kind = 7 ∨ t.kind = 8) : t.name.size ≤ 12 ∧ 1 ≤ t.name.size := by
  obtain ⟨-, -, hc⟩ := oneC_parts h
  unfold contC at hc
  rw [if_neg (by omega), if_neg (by omega), if_neg (by omega), if_pos hk] at hc
  have hnm : namC t.name = true := by
    cases e : namC t.name with
    | true => rfl
    | false => rw [e] at hc; simp at hc
  unfold namC at hnm
  simp only [symL, Bool.and_eq_true, decide_eq_true_eq] at hnm
  have hl : t.name.data.toList.length = t.name.size := by rw [Array.length_toList]; rfl
  omega
end Go.Proofs.YtebnonpdaddniaaGreatDoor
/-
  The program's tell over a tree of cores, which calls itself in the rounds of a range over the kids of a place: each place below is told where it begins and where it ends; nothing that was there is turned but what the rounds own.
-/
namespace Go.Proofs.YtebnonpdaddniaaGreatDoor
open Go.RowKit Go.Extern.Stop Go.Stop Go.Extern Num Go.Lib Go.Shelf
attribute [local go_sem] Oper.semAt_some

/-- The temporaries of a round of tell. -/
abbrev actTC (A tb K y : Nat) (a x : Int) : Act := { tmps := #[.pointer (some ⟨tb, 0, none⟩), .int .i64 a, .func (.yield y) #[] #[], .pointer (some ⟨A, 0, none⟩), undef, .pointer (some ⟨A + 1, 0, none⟩), .pointer (some ⟨A + 1 + 1, 0, none⟩), .int .i64 x, .func (.yield y) #[] #[], .int .i64 a, .bool true, .bool false, .pointer (some ⟨tb, 0, none⟩), .int .i64 a, .func (.func 212) #[] #[.pointer (some ⟨K, 0, none⟩), .pointer (some ⟨K + 1, 0, none⟩)], .int .i64 x, undef, undef, undef, undef, undef, undef, undef, undef], defers := [] }
set_option maxRecDepth 100000 in
set_option maxHeartbeats 4000000 in
theorem tell_anyC {N : List (Cor × Value)} {d : List Cor} (Fi : FineC N d) (hPd : ∀ (k : Nat) (h : k < N.length), PdNC ((k : Int), N[k])) (n₀ B tb y : Nat) (M : World → Nat → Prop) (J : List (Int × Bool) → World → Prop) (hO : OwnM n₀ B M J) (hn : n₀ ≤ B) (L : List (Int × Bool))
    (hY : ∀ pre x W1, J pre W1 → pre ++ [x] <+: L → B ≤ W1.heap.size → ∃ k, YieldAt Fence.wide k Tryz.prog y #[.int .i64 x.1, .bool x.2] W1 fun e W' => e = .returned (.bool true) ∧ J (pre ++ [x]) W' ∧ Kq n₀ M W1 W') :
    ∀ (f a : Nat) (pre : List (Int × Bool)) (W : World), a < d.length → d.length ≤ a + f → pre ++ evC d f a <+: L → J pre W → B ≤ W.heap.size → IsTreeC n₀ W tb N →
      Calls Tryz.prog 164 #[.pointer (some ⟨tb, 0, none⟩), .int .i64 (a : Int), .func (.yield y) #[] #[]] W fun e W' => e = .returned (.bool true) ∧ J (pre ++ evC d f a) W' ∧ Kq n₀ M W W'
  | 0, a, _, _, ha, hf, _, _, _, _ => absurd hf (by omega)
  | f + 1, a, pre, W, ha, hf, hL, hJ, hB, hT => by
    have ih : ∀ (p : Nat) (pre : List (Int × Bool)) (W : World), a < p → p < d.length → pre ++ evC d f p <+: L → J pre W → B ≤ W.heap.size → IsTreeC n₀ W tb N →
      Calls Tryz.prog 164 #[.pointer (some ⟨tb, 0, none⟩), .int .i64 (p : Int), .func (.yield y) #[] #[]] W fun e W' => e = .returned (.bool true) ∧ J (pre ++ evC d f p) W' ∧ Kq n₀ M W W' :=
      fun p pre W h1 h2 h3 h4 h5 h6 => tell_anyC Fi hPd n₀ B tb y M J hO hn L hY f p pre W h2 (by omega) h3 h4 h5 h6
    have IH : Hid (∀ (p : Nat) (pre : List (Int × Bool)) (W : World), a < p → p < d.length → pre ++ evC d f p <+: L → J pre W → B ≤ W.heap.size → IsTreeC n₀ W tb N →
      Calls Tryz.prog 164 #[.pointer (some ⟨tb, 0, none⟩), .int .i64 (p : Int), .func (.yield y) #[] #[]] W fun e W' => e = .returned (.bool true) ∧ J (pre ++ evC d f p) W' ∧ Kq n₀ M W W') := ih
    clear ih
    have hev : evC d (f + 1) a = [((a : Int), true)] ++ ((kidsD d (a : Int)).flatMap (fun p => evC d f p.toNat) ++ [((a : Int), false)]) := by simp [evC]
    have HEV : Hid (evC d (f + 1) a = [((a : Int), true)] ++ ((kidsD d (a : Int)).flatMap (fun p => evC d f p.toNat) ++ [((a : Int), false)])) := hev
    have HL : Hid (pre ++ ([((a : Int), true)] ++ ((kidsD d (a : Int)).flatMap (fun p => evC d f p.toNat) ++ [((a : Int), false)])) <+: L) := by show _; rw [← hev]; exact hL
    clear hev hL
    have hN : N.length ≤ 1000 := by rw [Fi.nlen]; have := Fi.len; omega
    obtain ⟨en, hE⟩ := endC N a (by rw [Fi.nlen]; exact ha)
    have hka := kidsC_all Fi hE
    have HKA : Hid (kidsTC a (tellNC N a (en - a)) = kidsD d (a : Int)) := hka
    clear hka
    -- the boxes
    obtain ⟨W1, hW1⟩ : ∃ W1, W1 = (((W.alloc (.cells #[.pointer (some ⟨tb, 0, none⟩)] 87)).alloc (.cells #[.func (.yield y) #[] #[]] 233)).alloc (.cells #[.bool false] 4)) := ⟨_, rfl⟩
    have hs1 : W1.heap.size = W.heap.size + 3 := by rw [hW1]; simp
    have j1 : J pre W1 := by rw [hW1]; exact hO.alloc (hO.alloc (hO.alloc hJ (by omega) (by omega) _) (by simp; omega) (by simp; omega) _) (by simp; omega) (by simp; omega) _
    have k1 : Kq n₀ M W W1 := by rw [hW1]; exact ((kq_alloc hO hJ (by omega) _).trans (kq_alloc hO (hO.alloc hJ (by omega) (by omega) _) (by simp; omega) _)).trans (kq_alloc hO (hO.alloc (hO.alloc hJ (by omega) (by omega) _) (by simp; omega) (by simp; omega) _) (by simp; omega) _)
    have x0 : Boxed W1 W.heap.size 87 (.pointer (some ⟨tb, 0, none⟩)) := by rw [hW1]; exact ((Boxed.new W _ _).alloc _).alloc _
    have x1 : Boxed W1 (W.heap.size + 1) 233 (.func (.yield y) #[] #[]) := by
      have := Boxed.new (W.alloc (.cells #[.pointer (some ⟨tb, 0, none⟩)] 87)) 233 (.func (.yield y) #[] #[])
      rw [World.size_alloc] at this
      rw [hW1]; exact this.alloc _
    have x2 : Boxed W1 (W.heap.size + 1 + 1) 4 (.bool false) := by
      have := Boxed.new ((W.alloc (.cells #[.pointer (some ⟨tb, 0, none⟩)] 87)).alloc (.cells #[.func (.yield y) #[] #[]] 233)) 4 (.bool false)
      rw [World.size_alloc, World.size_alloc] at this
      rw [hW1]; exact this
    have n1 : ∀ b, W.heap.size ≤ b → ¬ M W1 b := fun b hb hm => by
      rw [hW1] at hm
      have h3 := hO.allocM (hO.alloc (hO.alloc hJ (by omega) (by omega) _) (by simp; omega) (by simp; omega) _) _ hm
      have h2 := hO.allocM (hO.alloc hJ (by omega) (by omega) _) _ h3
      have := hO.lt hJ (hO.allocM hJ _ h2)
      omega
    obtain ⟨k, fn, tmps, assign, body, hy, hR⟩ := hY pre ((a : Int), true) W1 j1 (pre_trans HL.out) (by omega)
    have hy' : (Instr.yield y #[.int .i64 (a : Int), .bool true]).run Tryz.prog (((W.alloc (.cells #[.pointer (some ⟨tb, 0, none⟩)] 87)).alloc (.cells #[.func (.yield y) #[] #[]] 233)).alloc (.cells #[.bool false] 4)) = .ok (.round y fn tmps assign body) (((W.alloc (.cells #[.pointer (some ⟨tb, 0, none⟩)] 87)).alloc (.cells #[.func (.yield y) #[] #[]] 233)).alloc (.cells #[.bool false] 4)) := by rw [← hW1]; exact hy
    have hR' : RoundIn Fence.wide (10 - 1) Tryz.prog y fn tmps assign body (((W.alloc (.cells #[.pointer (some ⟨tb, 0, none⟩)] 87)).alloc (.cells #[.func (.yield y) #[] #[]] 233)).alloc (.cells #[.bool false] 4)) (fun e W' => e = .returned (.bool true) ∧ J (pre ++ [((a : Int), true)]) W' ∧ Kq n₀ M W1 W') := by rw [← hW1]; exact roundIn_more hR
    clear hy hR
    refine (callsIn_wide (n := 10)).1 ?_
    refine callsIn_of_wp_marks Tryz.func164 rfl trivial ?_ rfl
    simp only [Tryz.ntmps164, List.size_toArray, List.length_cons, List.length_nil, Nat.reduceAdd, Nat.reduceSub, Array.replicate_succ, Array.replicate_zero, List.push_toArray, List.append_toArray, List.nil_append, List.cons_append]
    have hF : ∀ f, Fence.wide.fn f := fun _ => trivial
    have hlt0 : W.heap.size < W1.heap.size := by omega
    have hlt1 : W.heap.size + 1 < W1.heap.size := by omega
    have hlt2 : W.heap.size + 1 + 1 < W1.heap.size := by omega
    gi_wp2_with (first | (gi_at_call 186; refine (kids_inC Fence.wide (10 - 1) hF rfl _ _ _).mono ?_; rintro e w' ⟨rfl, rfl⟩) | (refine hR'.mono ?_; rintro r W2 ⟨rfl, j2, k2⟩; have c0 : W2.cell? ⟨W.heap.size, 0, none⟩ = some (.pointer (some ⟨tb, 0, none⟩)) := (k2.cell hlt0 (n1 _ (Nat.le_refl _))).trans x0.cell))
    clear hy' hR' hW1
    have hs2 := k2.size
    obtain ⟨w3, hw3⟩ : ∃ w3, w3 = ((W2.alloc (.cells #[.pointer (some ⟨tb, 0, none⟩)] 87)).alloc (.cells #[.int .i64 (a : Int)] 2)) := ⟨_, rfl⟩
    have hs3 : w3.heap.size = W2.heap.size + 2 := by rw [hw3]; simp
    have j3 : J (pre ++ [((a : Int), true)]) w3 := by rw [hw3]; exact hO.alloc (hO.alloc j2 (by omega) (by omega) _) (by simp; omega) (by simp; omega) _
    have k3 : Kq n₀ M W2 w3 := by rw [hw3]; exact (kq_alloc hO j2 (by omega) _).trans (kq_alloc hO (hO.alloc j2 (by omega) (by omega) _) (by simp; omega) _)
    have y0 : Boxed w3 W2.heap.size 87 (.pointer (some ⟨tb, 0, none⟩)) := by rw [hw3]; exact (Boxed.new W2 _ _).alloc _
    have y1 : Boxed w3 (W2.heap.size + 1) 2 (.int .i64 (a : Int)) := by
      have := Boxed.new (W2.alloc (.cells #[.pointer (some ⟨tb, 0, none⟩)] 87)) 2 (.int .i64 (a : Int))
      rw [World.size_alloc] at this
      rw [hw3]; exact this
    have m3 : ∀ b, M w3 b → M W2 b := fun b hm => by
      rw [hw3] at hm
      exact hO.allocM j2 _ (hO.allocM (hO.alloc j2 (by omega) (by omega) _) _ hm)
    have n3 : ∀ b, W.heap.size ≤ b → b < W1.heap.size → ¬ M w3 b := fun b h1 h2 hm => n1 b h1 (k2.2.2 b h2 (m3 b hm))
    have n4 : ∀ b, W2.heap.size ≤ b → ¬ M w3 b := fun b h1 hm => by have := hO.lt j2 (m3 b hm); omega
    have kW3 : Kq n₀ M W w3 := (k1.trans k2).trans k3
    have k13 : Kq n₀ M W1 w3 := k2.trans k3
    have hT3 : IsTreeC n₀ w3 tb N := hT.below kW3.1
    rw [← hw3]
    refine range_own rfl (by omega : 1 ≤ 10) (gf := 212) (lb := #[.pointer (some ⟨W2.heap.size, 0, none⟩), .pointer (some ⟨W2.heap.size + 1, 0, none⟩)]) rfl (hF _) (enters_of Tryz.func212 (by kernel_rfl) rfl)
      (kids_seqC (10 - 1) (by omega) (W2.heap.size + 1) W2.heap.size n₀ W2.heap.size (W2.heap.size + 2) tb _ N a (en) hE hN hPd w3 (by omega) y1.cell y0.cell (by omega) (by omega) (by omega) (by omega) hT3)
      (fun h k => ⟨kpx_t h.1 k.1, fun b l1 l2 => (k.2 b l1 l2).trans (h.2 b l1 l2)⟩)
      (fun X o o' g1 g2 g3 => ⟨kpx_b (w := w3) (by omega) (by omega) X _ o o' (by omega) g1 g2 g3, fun b l1 l2 => World.putObj_heap_other (by omega)⟩) (Below.refl _ _) (fun _ => rfl)
      (fun P X => J (pre ++ ([((a : Int), true)] ++ P.flatMap (fun p => evC d f p.toNat))) X ∧ Kq n₀ M w3 X ∧ ∀ b, w3.heap.size ≤ b → b < w3.heap.size + 7 → ¬ M X b)
      (fun _ _ _ => False)
      (own_kq hO w3 (by omega) hn (fun P : List Int => pre ++ ([((a : Int), true)] ++ P.flatMap (fun p => evC d f p.toNat))) 7)
      (fun _ _ _ _ _ hs _ _ => hs)
      ⟨by simpa using j3, Kq.refl _ _ _, fun b h1 _ => n4 b (by omega)⟩
      (fun x a' _ => a' = actTC W.heap.size tb W2.heap.size y (a : Int) x) (fun x a' s X X' row hs _ _ => hs) ?assign ?body ?done ?stop
    case assign =>
      rintro l' P x X K hI hK
      gi_wp2
      exact hK _ _ (KeepsFrom.refl _ _) ⟨kpx_refl _ _ _ _, fun _ _ _ => rfl⟩ hI rfl
    case body =>
      rintro l' P x a' X ⟨jX, kX, cX⟩ rfl hpx hmm
      rw [HKA.out] at hpx
      have hxm : x ∈ kidsD d (a : Int) := hpx.subset (by simp)
      obtain ⟨j, rfl, hj, hpar⟩ := (kids_mem d _ _).1 hxm
      have haj := Fi.parlt hj hpar
      have hsX := kX.size
      have d0 : X.cell? ⟨W.heap.size, 0, none⟩ = some (.pointer (some ⟨tb, 0, none⟩)) := ((k13.trans kX).cell hlt0 (n1 _ (Nat.le_refl _))).trans x0.cell
      have d1 : X.cell? ⟨W.heap.size + 1, 0, none⟩ = some (.func (.yield y) #[] #[]) := ((k13.trans kX).cell hlt1 (n1 _ (by omega))).trans x1.cell
      have hpre : (pre ++ ([((a : Int), true)] ++ P.flatMap (fun p => evC d f p.toNat))) ++ evC d f j <+: L := by
        refine List.IsPrefix.trans ?_ HL.out
        obtain ⟨t, ht⟩ := flat_pre (fun p : Int => evC d f p.toNat) hpx
        rw [← ht]
        refine ⟨t ++ [((a : Int), false)], ?_⟩
        simp
      have HC : Hid (Calls Tryz.prog 164 #[.pointer (some ⟨tb, 0, none⟩), .int .i64 (j : Int), .func (.yield y) #[] #[]] X fun e W' => e = .returned (.bool true) ∧ J ((pre ++ ([((a : Int), true)] ++ P.flatMap (fun p => evC d f p.toNat))) ++ evC d f j) W' ∧ Kq n₀ M X W') := IH.out j _ X haj hj hpre jX (by omega) (hT3.below kX.1)
      clear hpre hpx hxm hpar
      have hFr : ∀ f, (Fence.wide.inRound l').fn f := fun _ => trivial
      gi_wp2_with (gi_at_call 164; refine (((callsIn_wide (n := 10 - 1 - 1 - 1)).2 HC.out).inRound l').mono ?_; rintro r X' ⟨rfl, jX', kX'⟩)
      refine ⟨Kq.others hO jX kX' _, ⟨⟨kX'.1, fun b h1 h2 => kX'.2.1 b (by omega) (fun hm => n4 b h1 (kX.2.2 b (by omega) hm))⟩, fun b h1 h2 => kX'.2.1 b (by omega) (cX b (by omega) (by omega))⟩, by simpa using jX', kX.trans kX', fun b h1 h2 hm => cX b h1 h2 (kX'.2.2 b (by omega) hm)⟩
    case done =>
      rintro D P X hD hP ⟨jX, kX, cX⟩ hK
      have hP' : P = kidsD d (a : Int) := by rw [← HKA.out]; exact hP
      subst hP'
      have hsX := kX.size
      have d1 : X.cell? ⟨W.heap.size + 1, 0, none⟩ = some (.func (.yield y) #[] #[]) := ((k13.trans kX).cell hlt1 (n1 _ (by omega))).trans x1.cell
      obtain ⟨kk, fn, tmps, assign, body, hy, hR⟩ := hY _ ((a : Int), false) X jX (by have := HL.out; simpa using this) (by omega)
      have hR' := roundIn_more (m := 10 - 1) hR
      clear hR hP
      have kX1 : Kq n₀ M W1 X := k13.trans kX
      have nD : ¬ M X D := hO.notOther jX hK rfl
      have hDl : D < X.heap.size := (Array.getElem?_eq_some_iff.1 hK).1
      gi_wp2_with (refine hR'.mono ?_; rintro r X2 ⟨rfl, jX2, kX2⟩; have x3 : Boxed X2 (W.heap.size + 1 + 1) 4 (.bool false) := ((kX1.trans kX2).2.1 _ hlt2 (n1 _ (by omega))).trans x2; have hc2 := x3.cell; have hf2 := x3.frozen)
      have hK2 : X2.heap[D]? = some (.deferred (some [])) := (kX2.2.1 D hDl nD).trans hK
      have hK' := (KeepsOthers.setCell X2 ⟨W.heap.size + 1 + 1, 0, none⟩ (.bool true)).same D _ hK2 rfl
      refine ⟨by simp, .inl ⟨_, _, rfl, run_takeDeferred hK', ?_⟩⟩
      have hc5 := cell_kept (x3.set (.bool true)).cell (grownBy_putObj' _ D (.deferred none)) (fun r e => by cases e; exact ⟨_, hK', rfl⟩)
      have nb : ¬ M X2 (W.heap.size + 1 + 1) := fun hm => n1 _ (by omega) ((kX1.trans kX2).2.2 _ hlt2 hm)
      have b5 : Below n₀ X2 (X2.setCell ⟨W.heap.size + 1 + 1, 0, none⟩ (.bool true)) := (Below.refl _ _).setCell (p := ⟨W.heap.size + 1 + 1, 0, none⟩) (by show n₀ ≤ W.heap.size + 1 + 1; omega) _
      have s5 : ∀ b, b ≠ W.heap.size + 1 + 1 → (X2.setCell ⟨W.heap.size + 1 + 1, 0, none⟩ (.bool true)).heap[b]? = X2.heap[b]? := fun b hb => Below.heap_setCell X2 ⟨W.heap.size + 1 + 1, 0, none⟩ _ b hb
      have j5 := hO.keep _ X2 _ jX2 b5 (fun b hb => s5 b (by omega)) (fun b hb => s5 b (fun e => nb (e ▸ hb)))
      have kk5 : Kq n₀ M W (X2.setCell ⟨W.heap.size + 1 + 1, 0, none⟩ (.bool true)) := kq_turn hO jX2 ((k1.trans kX1).trans kX2) (by omega) nb b5 s5
      have nD5 := hO.notOther j5 hK' rfl
      refine ⟨.bool true, ?_, rfl, ?_, kq_turn hO j5 kk5 (by omega) nD5 (below_put n₀ _ D _ (by omega)) (fun b hb => World.putObj_heap_other hb)⟩
      · simp [results, Tryz.f164, go_sem, hc5]
      · rw [HEV.out]
        have := hO.put j5 (.deferred none) (by omega : n₀ ≤ D) (by omega) hK' rfl
        simpa using this
    case stop =>
      rintro D c P X _ _ h _
      exact h.elim
end Go.Proofs.YtebnonpdaddniaaGreatDoor
