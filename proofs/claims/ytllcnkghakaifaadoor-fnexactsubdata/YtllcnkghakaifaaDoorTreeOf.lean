/-
  The program's treeOf: the tree that data make, or what is wrong with them; nothing that was there is turned.
-/
import Derived.Test.YtllcnkghakaifaaDoorAddM
import Derived.Test.YtllcnkghakaifaaDoorTText
namespace Go.Proofs.YtllcnkghakaifaaDoor
open Go.RowKit Go.Extern.Stop Go.Stop Go.Extern Num Go.Lib Go.Shelf

/-- A datum as a node: its token. -/
def nodD (t : Dat) : Dat := ⟨tkD t.kind, t.parent, t.num, t.name⟩
def nodes (l : List Dat) : List Dat := l.map nodD
theorem nodes_len (l : List Dat) : (nodes l).length = l.length := by simp [nodes]
theorem nodes_at (l : List Dat) (k : Nat) (h : k < l.length) : (nodes l)[k]'(by rw [nodes_len]; exact h) = nodD l[k] := by simp [nodes]
theorem par_nodes (l : List Dat) (k : Nat) : par (nodes l) k = par l k := by
  unfold par nodes
  rw [List.getElem?_map]
  cases l[k]? <;> rfl
theorem par_take (l : List Dat) (m k : Nat) (h : k < m) : par (l.take m) k = par l k := by
  unfold par
  rw [List.getElem?_take, if_pos h]
/-- What is wrong with a datum's token. -/
def dkF (t : Dat) : Int := tokFault ⟨tkD t.kind, t.num, t.name⟩
theorem tk_lt (k : Int) : (1 ≤ tkD k ∧ tkD k ≤ 6) ↔ (1 ≤ k ∧ k ≤ 4) := by
  unfold tkD
  by_cases h1 : k = 1
  · subst h1; decide
  by_cases h2 : k = 2
  · subst h2; decide
  by_cases h3 : k = 3
  · subst h3; decide
  by_cases h4 : k = 4
  · subst h4; decide
  simp only [h1, h2, h3, h4, if_false]
  omega
theorem dk_eq (t : Dat) : dkF t = if bareB t = false then 1 else if rangeBad t = true then 3 else if symBad t = true then 5 else 0 := by
  obtain ⟨k, p, n, z⟩ := t
  by_cases hk : 1 ≤ k ∧ k ≤ 4
  · have : k = 1 ∨ k = 2 ∨ k = 3 ∨ k = 4 := by omega
    rcases this with rfl | rfl | rfl | rfl
    · cases hz : z.data.toList with
      | nil => by_cases hn : inB n = true <;> simp [dkF, tokFault, tkD, bareB, rangeBad, symBad, hz, hn]
      | cons a b => simp [dkF, tokFault, tkD, bareB, hz]
    · cases hz : z.data.toList with
      | nil => by_cases h0 : 0 ≤ n <;> by_cases h1 : n ≤ 1 <;> simp [dkF, tokFault, tkD, bareB, rangeBad, symBad, hz, h0, h1]
      | cons a b => simp [dkF, tokFault, tkD, bareB, hz]
    · by_cases hn : n = 0 <;> by_cases hs : symL z.data.toList = true <;> simp [dkF, tokFault, tkD, bareB, rangeBad, symBad, hn, hs]
    · cases hz : z.data.toList with
      | nil => by_cases hn : n = 0 <;> simp [dkF, tokFault, tkD, bareB, rangeBad, symBad, hz, hn]
      | cons a b => by_cases hn : n = 0 <;> simp [dkF, tokFault, tkD, bareB, hz, hn]
  · have h1 : ¬ (1 ≤ tkD k ∧ tkD k ≤ 6) := fun h => hk ((tk_lt k).1 h)
    have e : dkF ⟨k, p, n, z⟩ = 1 := by
      show tokFault ⟨tkD k, n, z⟩ = 1
      unfold tokFault
      exact if_pos h1
    have e2 : bareB ⟨k, p, n, z⟩ = false := by
      unfold bareB
      have : decide (1 ≤ k ∧ k ≤ 4) = false := decide_eq_false hk
      show (decide (1 ≤ k ∧ k ≤ 4) && _ && _) = false
      rw [this]; rfl
    rw [e, e2]; rfl
theorem tk_list (k : Int) : (tkD k = 1) ↔ k = 4 := by
  unfold tkD
  by_cases h1 : k = 1
  · subst h1; decide
  by_cases h2 : k = 2
  · subst h2; decide
  by_cases h3 : k = 3
  · subst h3; decide
  by_cases h4 : k = 4
  · subst h4; decide
  simp [h1, h2, h3, h4]
theorem pars_take {l : List Dat} {k : Nat} (hk : k ≤ l.length) (hok : okUpto l k) : Pars (nodes (l.take k)) := by
  intro j hj
  have hj' : j < k := by rw [nodes_len, List.length_take] at hj; omega
  rw [nodes_at _ j (by rw [List.length_take]; omega)]
  show ((l.take k)[j]'_).parent < _ ∧ _
  rw [List.getElem_take]
  exact chk_par (hok j (by omega) hj')
theorem upF_same {N M : List Dat} (m : Nat) (h : ∀ j, j < m → par N j = par M j) (hp : ∀ j, j < m → par N j < (j : Int)) : ∀ (f : Nat) (a : Int), a < m → upF N f a = upF M f a
  | 0, _, _ => rfl
  | f + 1, a, ha => by
    by_cases h0 : a < 0
    · rw [upF_neg _ _ _ h0, upF_neg _ _ _ h0]
    · have h1 := h a.toNat (by omega)
      have h2 := hp a.toNat (by omega)
      simp only [upF, if_neg h0]
      rw [upF_same m h hp f _ (by omega), h1]
theorem deepF_same {N M : List Dat} (m : Nat) (h : ∀ j, j < m → par N j = par M j) (hp : ∀ j, j < m → par N j < (j : Int)) : ∀ (f : Nat) (a : Int), a < m → deepF N f a = deepF M f a
  | 0, _, _ => rfl
  | f + 1, a, ha => by
    by_cases h0 : a < 0
    · rw [deepF_neg _ _ _ h0, deepF_neg _ _ _ h0]
    · have h1 := h a.toNat (by omega)
      have h2 := hp a.toNat (by omega)
      simp only [deepF, if_neg h0]
      rw [deepF_same m h hp f _ (by omega), h1]
theorem lineF_same {N M : List Dat} (p : Int) (m : Nat) (h : ∀ j, j < m → par N j = par M j) (hp : ∀ j, j < m → par N j < (j : Int)) (hk : ∀ j, j < m → ((N[j]?.map (·.kind)).getD 0 == 4) = ((M[j]?.map (·.kind)).getD 0 == 4)) : ∀ (f : Nat) (a : Int), a < m → lineF N p f a = lineF M p f a
  | 0, _, _ => rfl
  | f + 1, a, ha => by
    by_cases h0 : a < 0
    · rw [lineF_neg _ _ _ _ h0, lineF_neg _ _ _ _ h0]
    · have h1 := h a.toNat (by omega)
      have h2 := hp a.toNat (by omega)
      have h3 := hk a.toNat (by omega)
      simp only [lineF, if_neg h0]
      rw [lineF_same p m h hp hk f _ (by omega), h1, h3]
/-- What is wrong with a datum: with its token, then with its place. -/
theorem chk_split {l : List Dat} {k : Nat} (hk : k < l.length) (hok : okUpto l k) (hl : l.length ≤ 80) : chkD l k l[k] = if dkF l[k] ≠ 0 then dkF l[k] else pfD (nodes (l.take k)) l[k].parent := by
  have hP := pars_take (Nat.le_of_lt hk) hok
  have hlen : (nodes (l.take k)).length = k := by rw [nodes_len, List.length_take]; omega
  have hpar : ∀ j, j < k → par (nodes (l.take k)) j = par l j := fun j hj => by rw [par_nodes, par_take l k j hj]
  have hlt : ∀ j, j < k → par (nodes (l.take k)) j < (j : Int) := fun j hj => by rw [hpar j hj, par_at l j (by omega)]; exact (chk_par (hok j (by omega) hj)).1
  have e := dk_eq l[k]
  cases hb : bareB l[k] with
  | false => rw [hb] at e; rw [chk_bare hb, e]; rfl
  | true =>
    cases hr : rangeBad l[k] with
    | true => rw [hb, hr] at e; rw [chk_range hb hr, e]; rfl
    | false =>
      cases hs : symBad l[k] with
      | true => rw [hb, hr, hs] at e; rw [chk_sym hb hr hs, e]; rfl
      | false =>
        rw [hb, hr, hs] at e
        have e0 : dkF l[k] = 0 := e
        rw [if_neg (by rw [e0]; simp)]
        obtain ⟨p, hp⟩ : ∃ p, p = l[k].parent := ⟨_, rfl⟩
        cases hpb : parBad k l[k].parent with
        | true =>
          rw [chk_parent hb hr hs hpb, ← hp]
          rw [← hp] at hpb
          unfold pfD
          rw [hlen]
          unfold parBad at hpb
          by_cases hk0 : k = 0
          · subst hk0
            have : p ≠ -1 := by simpa using hpb
            rw [if_neg (fun h => this h.2), if_pos (by omega)]
          · have h1 : 0 < k := by omega
            rw [if_neg (fun h => hk0 h.1)]
            have : ¬ (0 ≤ p ∧ p ≤ (k : Int) - 1) := by
              intro h
              simp [hk0, h.1, h.2] at hpb
            rw [if_pos (by omega)]
        | false =>
          have hpl := parBad_lt hpb
          by_cases hk0 : k = 0
          · subst hk0
            have h1 : l[0].parent = -1 := by omega
            rw [chk_deep hb hr hs hpb (by simp), h1]
            have : deepF l 100 ((0 : Nat) : Int) = 1 := by rw [deepF_at l 99 0 hk, h1, deepF_neg l 99 _ (by decide)]
            rw [this]; rfl
          · have hq : 0 ≤ l[k].parent := by
              unfold parBad at hpb
              rw [← hp] at hpb ⊢
              have h1 : 0 < k := by omega
              simp [hk0, h1] at hpb
              omega
            obtain ⟨q, hq'⟩ : ∃ q : Nat, l[k].parent = (q : Int) := ⟨l[k].parent.toNat, by omega⟩
            have hqk : q < k := by omega
            have hkind : ∀ j, j < k → ((l[j]?.map (·.kind)).getD 0 == 4) = decide (((nodes (l.take k))[j]?.map (·.kind)).getD 0 = 1) := fun j hj => by
              have h1 : j < (nodes (l.take k)).length := by omega
              rw [List.getElem?_eq_getElem h1, nodes_at _ j (by rw [List.length_take]; omega), List.getElem_take, List.getElem?_eq_getElem (by omega)]
              show (l[j].kind == 4) = decide (tkD l[j].kind = 1)
              rw [decide_eq_decide.2 (tk_list l[j].kind)]; rfl
            have hP' : Pars (l.take k) := fun j hj => by
              have hj' : j < k := by rw [List.length_take] at hj; omega
              rw [List.getElem_take]
              exact chk_par (hok j (by omega) hj')
            have hlk : (l.take k).length = k := by rw [List.length_take]; omega
            have hup : ∀ a : Int, a < k → upL (nodes (l.take k)) a = upL (l.take k) a := fun a ha => upF_same k (fun j hj => by rw [par_nodes]) hlt _ a ha
            have hpt : ∀ j, j < k → par (l.take k) j = par l j := fun j hj => par_take l k j hj
            have hlt' : ∀ j, j < k → par (l.take k) j < (j : Int) := fun j hj => by rw [← par_nodes]; exact hlt j hj
            have hline : lineB l k = (decide ((q : Int) ∈ upL (nodes (l.take k)) ((k : Int) - 1)) && (l[q].kind == 4)) := by
              unfold lineB
              rw [par_at l k hk, hq', ← lineF_same (N := l.take k) (q : Int) k hpt hlt' (fun j hj => by rw [List.getElem?_take, if_pos hj]) k _ (by omega),
                line_up hP' q (by omega) k _ k (by omega) (by omega) (by omega) (by omega), hup _ (by omega), List.getElem_take]
            have hdeep : deepF l 100 (k : Int) = (upL (nodes (l.take k)) (q : Int)).length + 1 := by
              rw [deepF_at l 99 k hk, hq', ← deepF_same (N := l.take k) k hpt hlt' 99 _ (by omega), deep_up hP' k _ 99 (by omega) (by omega) (by omega) (by omega), hup _ (by omega)]
            have hkq := hkind q hqk
            rw [List.getElem?_eq_getElem (by omega)] at hkq
            have hpf : pfD (nodes (l.take k)) (q : Int) = if ¬ (((nodes (l.take k))[q]?.map (·.kind)).getD 0 = 1) ∨ ¬ (q : Int) ∈ upL (nodes (l.take k)) ((k : Int) - 1) then 1 else if 12 ≤ (upL (nodes (l.take k)) (q : Int)).length then 2 else 0 := by
              unfold pfD
              rw [hlen, if_neg (fun h => hk0 h.1), if_neg (by omega)]
              rfl
            rw [hq', hpf]
            have hkq' : (l[q].kind == 4) = decide (((nodes (l.take k))[q]?.map (·.kind)).getD 0 = 1) := hkq
            by_cases hA : ((nodes (l.take k))[q]?.map (·.kind)).getD 0 = 1
            · by_cases hO : (q : Int) ∈ upL (nodes (l.take k)) ((k : Int) - 1)
              · rw [if_neg (by simp [hA, hO])]
                have hL : lineB l k = true := by rw [hline, hkq']; simp [hA, hO]
                rw [chk_deep hb hr hs hpb (by simp [hL]), hdeep]
                by_cases hD : 12 ≤ (upL (nodes (l.take k)) (q : Int)).length
                · rw [if_pos hD, if_pos (by omega)]
                · rw [if_neg hD, if_neg (by omega)]
              · rw [if_pos (.inr hO)]
                have hL : lineB l k = false := by rw [hline]; simp [hO]
                rw [chk_line hb hr hs hpb (by simp [hL]; omega)]
            · rw [if_pos (.inl hA)]
              have hL : lineB l k = false := by rw [hline, hkq']; simp [hA]
              rw [chk_line hb hr hs hpb (by simp [hL]; omega)]
end Go.Proofs.YtllcnkghakaifaaDoor
