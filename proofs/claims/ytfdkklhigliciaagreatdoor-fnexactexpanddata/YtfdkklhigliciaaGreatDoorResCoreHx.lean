/-
  Parts of the proof laid into one text, one behind the other; each says at its head what is proved in it.
-/
import Derived.Test.YtfdkklhigliciaaGreatDoorXaD
import Derived.Test.YtfdkklhigliciaaGreatDoorXaO
import Derived.Test.YtfdkklhigliciaaGreatDoorXaK
/-
  Cores in an answer: rows of their own, apart from one another; the laws' markCoreS writes a mark into each place, and heldCoreS finds them there; nothing else is turned.
-/
namespace Go.Proofs.YtfdkklhigliciaaGreatDoor
open Go.RowKit Go.Extern.Stop Go.Stop Go.Extern Num Go.Lib

/-- Cores in a row, and the data of each in a row. -/
structure CV (w : World) (B : Nat) (v : Value) (P : List (Cor × Value)) : Prop where
  row : w.ownsRow B 78 6 v P.length (cellsC P)
  data : ∀ (i : Nat) (h : i < P.length), w.ownsRow B 49 4 P[i].2 P[i].1.data.length (cellsD P[i].1.data)
def apartCr (P : List (Cor × Value)) : Prop := ∀ (i j : Nat) (hi : i < P.length) (hj : j < P.length), i ≠ j → farV P[i].2 P[j].2
def footCr (v : Value) (P : List (Cor × Value)) (b : Nat) : Prop := v.ownBlock = some b ∨ ∃ (i : Nat) (h : i < P.length), P[i].2.ownBlock = some b
theorem CV.below {w w' : World} {B : Nat} {v : Value} {P : List (Cor × Value)} (h : CV w B v P) (hb : Below w.heap.size w w') : CV w' B v P := ⟨own_below h.row hb, fun i hi => own_below (h.data i hi) hb⟩
theorem CV.base {w : World} {B B' : Nat} {v : Value} {P : List (Cor × Value)} (h : CV w B v P) (hb : B' ≤ B) : CV w B' v P := ⟨own_base h.row hb, fun i hi => own_base (h.data i hi) hb⟩
theorem CV.keeps {F : Nat → Prop} {w w' : World} {B : Nat} {v : Value} {P : List (Cor × Value)} (h : CV w B v P) (hk : Keeps F w w') (hf : ∀ b, footCr v P b → ¬ F b) : CV w' B v P :=
  ⟨hk.own h.row (fun g hg => hf g (.inl hg)), fun i hi => hk.own (h.data i hi) (fun g hg => hf g (.inr ⟨i, hi, hg⟩))⟩
theorem CV.foot {w : World} {B : Nat} {v : Value} {P : List (Cor × Value)} (h : CV w B v P) {b : Nat} (hb : footCr v P b) : B ≤ b ∧ b < w.heap.size := by
  rcases hb with e | ⟨i, hi, e⟩
  · exact h.row.lt b e
  · exact (h.data i hi).lt b e
theorem cellsC_set : ∀ (P : List (Cor × Value)) (k : Nat) (hk : k < P.length) (t : Cor), (((((cellsC P).set (k * 6) (.int .i64 t.kind)).set (k * 6 + 1) (.int .i64 t.parent)).set (k * 6 + 2) (.int .i64 t.a)).set (k * 6 + 3) (.int .i64 t.b)).set (k * 6 + 4) (.string t.name) = cellsC (P.set k (t, P[k].2))
  | [], k, hk, _ => absurd hk (Nat.not_lt_zero k)
  | x :: r, 0, _, t => rfl
  | x :: r, k + 1, hk, t => by
    have ih := cellsC_set r k (by simpa using hk) t
    have e : ∀ (ys : List Value) (j : Nat) (u : Value), (x.1.cells x.2 ++ ys).set (j + 6) u = x.1.cells x.2 ++ ys.set j u := fun ys j u => by
      rw [List.set_append_right _ _ (by simp [Cor.cells])]; simp [Cor.cells]
    show (((((x.1.cells x.2 ++ cellsC r).set ((k + 1) * 6) _).set ((k + 1) * 6 + 1) _).set ((k + 1) * 6 + 2) _).set ((k + 1) * 6 + 3) _).set ((k + 1) * 6 + 4) _ = _
    rw [show (k + 1) * 6 = k * 6 + 6 by omega, show k * 6 + 6 + 1 = k * 6 + 1 + 6 by omega, show k * 6 + 6 + 2 = k * 6 + 2 + 6 by omega, show k * 6 + 6 + 3 = k * 6 + 3 + 6 by omega, show k * 6 + 6 + 4 = k * 6 + 4 + 6 by omega, e, e, e, e, e, ih]
    rfl
/-- The marks of one core, and of all. -/
def markCr (q n : Nat) : Cor := ⟨(q : Int), (q : Int) + 1, (q : Int) + 1 + 1, (q : Int) + 1 + 1 + 1, ⟨(109 :: decDigits (q + 4)).toArray⟩, marksD (q + 5) n⟩
def marksCr : Nat → List (Cor × Value) → List (Cor × Value)
  | _, [] => []
  | q, x :: r => (markCr q x.1.data.length, x.2) :: marksCr (q + 5 + 4 * x.1.data.length) r
def endCr : Nat → List (Cor × Value) → Nat
  | q, [] => q
  | q, x :: r => endCr (q + 5 + 4 * x.1.data.length) r
theorem marksCr_len : ∀ (P : List (Cor × Value)) (q : Nat), (marksCr q P).length = P.length
  | [], _ => rfl
  | x :: r, q => by simp [marksCr, marksCr_len r]
theorem marksCr_snoc : ∀ (P : List (Cor × Value)) (x : Cor × Value) (q : Nat), marksCr q (P ++ [x]) = marksCr q P ++ [(markCr (endCr q P) x.1.data.length, x.2)] ∧ endCr q (P ++ [x]) = endCr q P + 5 + 4 * x.1.data.length
  | [], x, q => ⟨rfl, rfl⟩
  | y :: r, x, q => by
    obtain ⟨h1, h2⟩ := marksCr_snoc r x (q + 5 + 4 * y.1.data.length)
    exact ⟨by simp [marksCr, endCr, h1], by simpa [endCr] using h2⟩
theorem marksCr_snd : ∀ (P : List (Cor × Value)) (q : Nat), (marksCr q P).map Prod.snd = P.map Prod.snd
  | [], _ => rfl
  | x :: r, q => by simp [marksCr, marksCr_snd r]
theorem endCr_le (P : List (Cor × Value)) : ∀ q, (∀ x ∈ P, x.1.data.length ≤ 1048576) → q ≤ endCr q P ∧ endCr q P ≤ q + P.length * 4194309 := by
  induction P with
  | nil => intro q _; simp [endCr]
  | cons x r ih =>
    intro q h
    have h1 := ih (q + 5 + 4 * x.1.data.length) (fun y hy => h y (by simp [hy]))
    have h2 := h x (by simp)
    simp only [endCr, List.length_cons, Nat.add_mul]
    omega
/-- As far as they are marked. -/
def midCr (q : Nat) (P : List (Cor × Value)) (j : Nat) : List (Cor × Value) := marksCr q (P.take j) ++ P.drop j
theorem midCr_len (q : Nat) (P : List (Cor × Value)) (j : Nat) : (midCr q P j).length = P.length := by
  unfold midCr; rw [List.length_append, marksCr_len, ← List.length_append, List.take_append_drop]
theorem midCr_snd (q : Nat) (P : List (Cor × Value)) (j : Nat) : (midCr q P j).map Prod.snd = P.map Prod.snd := by
  unfold midCr; rw [List.map_append, marksCr_snd, ← List.map_append, List.take_append_drop]
theorem midCr_snd_at (q : Nat) (P : List (Cor × Value)) (j i : Nat) (hi : i < P.length) : ((midCr q P j)[i]'(by rw [midCr_len]; exact hi)).2 = P[i].2 := by
  have h := congrArg (fun L => L[i]?) (midCr_snd q P j)
  simp only [List.getElem?_map] at h
  rw [List.getElem?_eq_getElem (by rw [midCr_len]; exact hi), List.getElem?_eq_getElem hi] at h
  simpa using h
theorem midCr_at (q : Nat) (P : List (Cor × Value)) (j : Nat) (hj : j < P.length) : (midCr q P j)[j]'(by rw [midCr_len]; exact hj) = P[j] := by
  have hl : (marksCr q (P.take j)).length = j := by rw [marksCr_len, List.length_take]; omega
  unfold midCr
  rw [List.getElem_append_right (by omega)]
  simp [hl]
theorem midCr_next (q : Nat) (P : List (Cor × Value)) (j : Nat) (hj : j < P.length) : (midCr q P j).set j (markCr (endCr q (P.take j)) P[j].1.data.length, P[j].2) = midCr q P (j + 1) ∧ endCr q (P.take (j + 1)) = endCr q (P.take j) + 5 + 4 * P[j].1.data.length := by
  have hl : (marksCr q (P.take j)).length = j := by rw [marksCr_len, List.length_take]; omega
  have ht : P.take (j + 1) = P.take j ++ [P[j]] := by rw [List.take_add_one, List.getElem?_eq_getElem hj]; rfl
  obtain ⟨h1, h2⟩ := marksCr_snoc (P.take j) P[j] q
  refine ⟨?_, by rw [ht, h2]⟩
  unfold midCr
  have hd : P.drop j = P[j] :: P.drop (j + 1) := List.drop_eq_getElem_cons hj
  rw [ht, h1, List.set_append_right _ _ (by omega), hl, Nat.sub_self, hd, List.append_assoc]
  rfl
set_option maxRecDepth 100000 in
set_option maxHeartbeats 4000000 in
theorem markCrs_some (P : List (Cor × Value)) (B g cap k0 : Nat) (w : World) (hk : 1 ≤ k0) (hk2 : k0 ≤ 4620000000000000000) (hl : P.length ≤ 1048576) (hd : ∀ x ∈ P, x.1.data.length ≤ 1048576) (ho : CV w B (.slice (some ⟨g, 0, none⟩) P.length cap) P) (ha : apartCr P) :
    Calls Tryz.prog 28 #[.slice (some ⟨g, 0, none⟩) P.length cap, .int .i64 (k0 : Int)] w fun e w' => e = .returned (.int .i64 ((endCr k0 P : Nat) : Int)) ∧ CV w' B (.slice (some ⟨g, 0, none⟩) P.length cap) (marksCr k0 P) ∧ Keeps (footCr (.slice (some ⟨g, 0, none⟩) P.length cap) P) w w' := by
  have HD : Hid (∀ x ∈ P, x.1.data.length ≤ 1048576) := hd
  have HA : Hid (apartCr P) := ha
  have H0 : Hid (CV w B (.slice (some ⟨g, 0, none⟩) P.length cap) (midCr k0 P 0) ∧ Keeps (footCr (.slice (some ⟨g, 0, none⟩) P.length cap) P) w w) := ⟨by unfold midCr; exact ho, Keeps.refl _ _⟩
  have HFg : Hid (footCr (.slice (some ⟨g, 0, none⟩) P.length cap) P g) := .inl rfl
  clear ho hd ha
  go_enter Tryz.func28, Tryz.ntmps28
  go_wp2_with fail
  go_loopw [1, 5] (fun v i wr => ∃ j q : Nat, j ≤ P.length ∧ i = .int .i64 (j : Int) ∧ v = .int .i64 (q : Int) ∧ Hid (q = endCr k0 (P.take j)) ∧ Hid (CV wr B (.slice (some ⟨g, 0, none⟩) P.length cap) (midCr k0 P j) ∧ Keeps (footCr (.slice (some ⟨g, 0, none⟩) P.length cap) P) w wr)) (fun _ i _ => P.length - (RowKit.intOf i).toNat)
  case atStart => exact ⟨0, k0, Nat.zero_le _, rfl, rfl, rfl, H0.out⟩
  case round =>
    obtain ⟨j, q, hj, rfl, rfl, HQ, HX⟩ := hrel
    have hqb : 1 ≤ q ∧ q ≤ 4630000000000000000 := by
      have h1 := endCr_le (P.take j) k0 (fun x hx => HD.out x (List.mem_of_mem_take hx))
      have h2 : (P.take j).length ≤ 1048576 := by rw [List.length_take]; omega
      have h3 := HQ.out
      have h4 : (P.take j).length * 4194309 ≤ 1048576 * 4194309 := Nat.mul_le_mul_right _ h2
      omega
    obtain ⟨hq1, hq2⟩ := hqb
    by_cases hlt : j < P.length
    · have hMl : (midCr k0 P j).length = P.length := midCr_len _ _ _
      have hMj := midCr_at k0 P j hlt
      have hjM : j < (midCr k0 P j).length := by rw [hMl]; exact hlt
      obtain ⟨hov, hke⟩ := HX.out
      have hrow := hov.row
      have hdat := hov.data
      rw [hMl] at hrow
      obtain ⟨M, hM⟩ : ∃ M, M = midCr k0 P j := ⟨_, rfl⟩
      have HMn : Hid (M.set j (markCr q P[j].1.data.length, P[j].2) = midCr k0 P (j + 1) ∧ endCr k0 (P.take (j + 1)) = q + 5 + 4 * P[j].1.data.length) := by
        show _ ∧ _
        rw [hM, HQ.out]; exact midCr_next k0 P j hlt
      have HMs : Hid (∀ (i : Nat) (hi : i < M.length) (hiP : i < P.length), (M[i]).2 = P[i].2) := fun i hi hiP => by subst hM; exact midCr_snd_at k0 P j i hiP
      have hc6 := (cellsC_at M j (by rw [hM]; exact hjM)).2.2.2.2.2
      rw [← hM] at hrow hMl hjM
      have hMj' : M[j] = P[j] := by subst hM; exact hMj
      have HRow : Hid (wr.ownsRow B 78 6 (.slice (some ⟨g, 0, none⟩) P.length cap) P.length (cellsC M)) := hrow
      have HDat : Hid (∀ (i : Nat) (h : i < M.length), wr.ownsRow B 49 4 M[i].2 M[i].1.data.length (cellsD M[i].1.data)) := fun i h => by subst hM; exact hdat i h
      have HKe : Hid (Keeps (footCr (.slice (some ⟨g, 0, none⟩) P.length cap) P) w wr) := hke
      have HML : Hid (M.length = P.length) := hMl
      rw [hMj'] at hc6
      have HC6 : Hid ((cellsC M)[j * 6 + 5]? = some P[j].2) := hc6
      have HMj : Hid (∀ h : j < M.length, M[j] = P[j]) := fun _ => hMj'
      have hcl : (cellsC M).length = P.length * 6 := by rw [cellsC_length, hMl]
      obtain ⟨x0, e0⟩ := own_cell hrow (j * 6) (by omega)
      obtain ⟨x1, e1⟩ := own_cell hrow (j * 6 + 1) (by omega)
      obtain ⟨x2, e2⟩ := own_cell hrow (j * 6 + 2) (by omega)
      obtain ⟨x3, e3⟩ := own_cell hrow (j * 6 + 3) (by omega)
      have ff : ∀ i, wr.frozen? ⟨g, i, none⟩ = false := own_frozen hrow
      have hgl : g < wr.heap.size := (hrow.lt g rfl).2
      have HFa : Hid (∀ (i : Nat) (h : i < M.length), farV M[i].2 (.slice (some ⟨g, 0, none⟩) P.length cap)) := fun i h => typ_ne (HDat.out i h) hrow (by decide)
      have HT : Hid (∀ u, Calls Tryz.prog 27 #[.int .i64 ((q : Int) + 1 + 1 + 1 + 1)] u fun e w' => e = .returned (S (109 :: decDigits (q + 4))) ∧ Below u.heap.size u w') := fun u => markText_any (q + 4) u (by omega) (by omega)
      clear hrow hdat hov hke hM hMj hjM hMj' HX hcl hc6 hMl
      go_wp2_with fail
      have HU : Hid (World.ownsRow ((((wr.setCell ⟨g, j * 6, none⟩ (.int .i64 (q : Int))).setCell ⟨g, j * 6 + 1, none⟩ (.int .i64 ((q : Int) + 1))).setCell ⟨g, j * 6 + 2, none⟩ (.int .i64 ((q : Int) + 1 + 1))).setCell ⟨g, j * 6 + 3, none⟩ (.int .i64 ((q : Int) + 1 + 1 + 1))) B 78 6 (.slice (some ⟨g, 0, none⟩) P.length cap) P.length (((((cellsC M).set (j * 6) (.int .i64 (q : Int))).set (j * 6 + 1) (.int .i64 ((q : Int) + 1))).set (j * 6 + 2) (.int .i64 ((q : Int) + 1 + 1))).set (j * 6 + 3) (.int .i64 ((q : Int) + 1 + 1 + 1))) ∧ (∀ (i : Nat) (h : i < M.length), World.ownsRow ((((wr.setCell ⟨g, j * 6, none⟩ (.int .i64 (q : Int))).setCell ⟨g, j * 6 + 1, none⟩ (.int .i64 ((q : Int) + 1))).setCell ⟨g, j * 6 + 2, none⟩ (.int .i64 ((q : Int) + 1 + 1))).setCell ⟨g, j * 6 + 3, none⟩ (.int .i64 ((q : Int) + 1 + 1 + 1))) B 49 4 M[i].2 M[i].1.data.length (cellsD M[i].1.data)) ∧ Keeps (footCr (.slice (some ⟨g, 0, none⟩) P.length cap) P) w ((((wr.setCell ⟨g, j * 6, none⟩ (.int .i64 (q : Int))).setCell ⟨g, j * 6 + 1, none⟩ (.int .i64 ((q : Int) + 1))).setCell ⟨g, j * 6 + 2, none⟩ (.int .i64 ((q : Int) + 1 + 1))).setCell ⟨g, j * 6 + 3, none⟩ (.int .i64 ((q : Int) + 1 + 1 + 1)))) := by
        have hne : ∀ (i : Nat) (h : i < M.length) (b : Nat), M[i].2.ownBlock = some b → b ≠ g := fun i h b hb e => by subst e; exact HFa.out i h b hb rfl
        exact ⟨own_put (own_put (own_put (own_put HRow.out _ _) _ _) _ _) _ _, fun i h => own_set' (own_set' (own_set' (own_set' (HDat.out i h) (hne i h) _) (hne i h) _) (hne i h) _) (hne i h) _, (((HKe.out.set HFg.out _ _).set HFg.out _ _).set HFg.out _ _).set HFg.out _ _⟩
      generalize ((((wr.setCell ⟨g, j * 6, none⟩ (.int .i64 (q : Int))).setCell ⟨g, j * 6 + 1, none⟩ (.int .i64 ((q : Int) + 1))).setCell ⟨g, j * 6 + 2, none⟩ (.int .i64 ((q : Int) + 1 + 1))).setCell ⟨g, j * 6 + 3, none⟩ (.int .i64 ((q : Int) + 1 + 1 + 1))) = U at HU ⊢
      clear e0 e1 e2 e3 ff hgl HRow HDat HKe
      refine (HT.out _).mono ?_
      rintro e w1 ⟨rfl, b1⟩
      obtain ⟨u1, u2, u3⟩ := HU.out
      have o1 := own_below u1 b1
      have d1 : ∀ (i : Nat) (h : i < M.length), w1.ownsRow B 49 4 M[i].2 M[i].1.data.length (cellsD M[i].1.data) := fun i h => own_below (u2 i h) b1
      have k1 := u3.below b1
      have hjM : j < M.length := by rw [HML.out]; exact hlt
      have hdj := d1 j hjM
      rw [HMj.out hjM] at hdj
      obtain ⟨ao, cj, hvj⟩ := own_form hdj
      have hll : P[j].1.data.length ≤ 1048576 := HD.out _ (List.getElem_mem hlt)
      have ha : ∀ i, (⟨g, 0, none⟩ : Addr).add i = ⟨g, i, none⟩ := fun i => by unfold Addr.add; split <;> simp_all
      have hcl : (cellsC M).length = P.length * 6 := by rw [cellsC_length, HML.out]
      obtain ⟨x5, e5⟩ := own_cell o1 (j * 6 + 4) (by simp only [List.length_set]; omega)
      have e6 : w1.cell? ⟨g, j * 6 + 5, none⟩ = some (.slice ao P[j].1.data.length cj) := by
        rw [← ha, ← hvj]
        refine o1.cells (g := g) rfl _ _ ?_
        rw [List.getElem?_set_ne (by omega), List.getElem?_set_ne (by omega), List.getElem?_set_ne (by omega), List.getElem?_set_ne (by omega)]
        exact HC6.out
      have ff : ∀ i, w1.frozen? ⟨g, i, none⟩ = false := own_frozen o1
      have hne : ∀ (i : Nat) (h : i < M.length) (b : Nat), M[i].2.ownBlock = some b → b ≠ g := fun i h b hb e => by subst e; exact HFa.out i h b hb rfl
      have hnj : ∀ b, P[j].2.ownBlock = some b → b ≠ g := fun b hb => hne j hjM b (by rw [HMj.out hjM]; exact hb)
      have HM : Hid (∀ s : Value, Calls Tryz.prog 11 #[.slice ao P[j].1.data.length cj, .int .i64 ((q : Int) + 1 + 1 + 1 + 1 + 1)] (w1.setCell ⟨g, j * 6 + 4, none⟩ s) fun e w' => e = .returned (.int .i64 ((q + 5 + 4 * P[j].1.data.length : Nat) : Int)) ∧ w'.ownsRow B 49 4 P[j].2 P[j].1.data.length (cellsD (marksD (q + 5) P[j].1.data.length)) ∧ (w1.setCell ⟨g, j * 6 + 4, none⟩ s).grownBy w' P[j].2.ownBlock) := fun s => by
        have h5 := own_set' hdj (p := ⟨g, j * 6 + 4, none⟩) (fun b hb => hnj b hb) s
        rw [hvj] at h5 ⊢
        have := markDS_any ao cj B (q + 5) P[j].1.data (w1.setCell ⟨g, j * 6 + 4, none⟩ s) hll (by omega) (by omega) h5
        have e : ((q + 5 : Nat) : Int) = (q : Int) + 1 + 1 + 1 + 1 + 1 := by omega
        rw [e] at this
        exact this
      have HZ : Hid (∀ w' : World, w'.ownsRow B 49 4 P[j].2 P[j].1.data.length (cellsD (marksD (q + 5) P[j].1.data.length)) → (w1.setCell ⟨g, j * 6 + 4, none⟩ (S (109 :: decDigits (q + 4)))).grownBy w' P[j].2.ownBlock → CV w' B (.slice (some ⟨g, 0, none⟩) P.length cap) (midCr k0 P (j + 1)) ∧ Keeps (footCr (.slice (some ⟨g, 0, none⟩) P.length cap) P) w w') := fun w' hn hg => by
        have hrow2 := own_apart (own_put o1 (j * 6 + 4) (S (109 :: decDigits (q + 4)))) hg (fun g' hg' e => by
          have h7 : g = g' := (by simpa [Value.ownBlock] using hg')
          exact hnj g' e h7.symm)
        have hset := cellsC_set M j hjM (markCr q P[j].1.data.length)
        rw [HMj.out hjM] at hset
        have hrow3 : w'.ownsRow B 78 6 (.slice (some ⟨g, 0, none⟩) P.length cap) P.length (cellsC (M.set j (markCr q P[j].1.data.length, P[j].2))) := by rw [← hset]; exact hrow2
        refine ⟨?_, (k1.set HFg.out (j * 6 + 4) _).grown hg (fun b hb => .inr ⟨j, hlt, hb⟩)⟩
        rw [← HMn.out.1]
        refine ⟨by rw [List.length_set, HML.out]; exact hrow3, fun i hi => ?_⟩
        rw [List.length_set] at hi
        by_cases e : j = i
        · subst e
          rw [List.getElem_set_self]
          have hml : (markCr q P[j].1.data.length).data.length = P[j].1.data.length := marksD_len _ _
          show w'.ownsRow B _ 4 P[j].2 (markCr q P[j].1.data.length).data.length (cellsD (marksD (q + 5) P[j].1.data.length))
          rw [hml]; exact hn
        · rw [List.getElem_set_ne e]
          have hiP : i < P.length := by rw [← HML.out]; exact hi
          refine own_apart (own_set' (d1 i hi) (p := ⟨g, j * 6 + 4, none⟩) (fun b hb => hne i hi b hb) _) hg (fun b hb e2 => ?_)
          have h1 := HA.out i j hiP hlt (fun e3 => e e3.symm) b (by rw [← HMs.out i hi hiP]; exact hb)
          exact h1 e2
      clear o1 d1 k1 hdj b1 ha HU HT u1 u2 u3 hcl hne hnj hvj
      go_wp2_with fail
      refine (HM.out _).mono ?_
      rintro e w2 ⟨rfl, hn, hg⟩
      have HZ2 : Hid (CV w2 B (.slice (some ⟨g, 0, none⟩) P.length cap) (midCr k0 P (j + 1)) ∧ Keeps (footCr (.slice (some ⟨g, 0, none⟩) P.length cap) P) w w2) := HZ.out w2 hn hg
      clear hn hg HZ HM e5 e6 ff
      go_wp2
      exact ⟨⟨j + 1, q + 5 + 4 * P[j].1.data.length, by omega, by go_num, rfl, HMn.out.2.symm, HZ2.out⟩, by simp [RowKit.intOf]; omega⟩
    · have hjl : j = P.length := by omega
      have HE : Hid (q = endCr k0 P) := by have := HQ.out; rw [hjl, List.take_length] at this; exact this
      have HY : Hid (CV wr B (.slice (some ⟨g, 0, none⟩) P.length cap) (marksCr k0 P) ∧ Keeps (footCr (.slice (some ⟨g, 0, none⟩) P.length cap) P) w wr) := by
        have := HX.out
        rw [hjl] at this
        unfold midCr at this
        rw [List.take_length, List.drop_length, List.append_nil] at this
        exact this
      clear HX HQ hjl
      go_wp2
      go_ret
      exact ⟨by rw [HE.out]; rfl, HY.out⟩
theorem CV.at {w : World} {B g cap : Nat} {P : List (Cor × Value)} (h : CV w B (.slice (some ⟨g, 0, none⟩) P.length cap) P) (k : Nat) (hk : k < P.length) : w.cell? ⟨g, k * 6, none⟩ = some (.int .i64 P[k].1.kind) ∧ w.cell? ⟨g, k * 6 + 1, none⟩ = some (.int .i64 P[k].1.parent) ∧ w.cell? ⟨g, k * 6 + 2, none⟩ = some (.int .i64 P[k].1.a) ∧ w.cell? ⟨g, k * 6 + 3, none⟩ = some (.int .i64 P[k].1.b) ∧ w.cell? ⟨g, k * 6 + 4, none⟩ = some (.string P[k].1.name) ∧
    ∃ ao cj, w.cell? ⟨g, k * 6 + 5, none⟩ = some (.slice ao P[k].1.data.length cj) ∧ P[k].2 = .slice ao P[k].1.data.length cj ∧ w.ownsRow B 49 4 (.slice ao P[k].1.data.length cj) P[k].1.data.length (cellsD P[k].1.data) := by
  have ha : ∀ j, (⟨g, 0, none⟩ : Addr).add j = ⟨g, j, none⟩ := fun j => by unfold Addr.add; split <;> simp_all
  have hc := h.row.cells (g := g) rfl
  obtain ⟨c0, c1, c2, c3, c4, cz⟩ := cellsC_at P k hk
  have hd := h.data k hk
  obtain ⟨ao, cj, hv⟩ := own_form hd
  rw [hv] at cz hd
  exact ⟨by rw [← ha]; exact hc _ _ c0, by rw [← ha]; exact hc _ _ c1, by rw [← ha]; exact hc _ _ c2, by rw [← ha]; exact hc _ _ c3, by rw [← ha]; exact hc _ _ c4, ao, cj, by rw [← ha]; exact hc _ _ cz, hv, hd⟩
theorem marksCr_at (P : List (Cor × Value)) (q j : Nat) (hj : j < P.length) : (marksCr q P)[j]'(by rw [marksCr_len]; exact hj) = (markCr (endCr q (P.take j)) P[j].1.data.length, P[j].2) := by
  induction P generalizing q j with
  | nil => cases hj
  | cons x r ih =>
    cases j with
    | zero => rfl
    | succ j => exact ih _ j (by simpa using hj)
set_option maxRecDepth 100000 in
set_option maxHeartbeats 4000000 in
theorem heldCrs_some (P : List (Cor × Value)) (B g cap k0 : Nat) (w : World) (hk : 1 ≤ k0) (hk2 : k0 ≤ 4620000000000000000) (hl : P.length ≤ 1048576) (hd : ∀ x ∈ P, x.1.data.length ≤ 1048576) (ho : CV w B (.slice (some ⟨g, 0, none⟩) P.length cap) (marksCr k0 P)) :
    Calls Tryz.prog 29 #[.slice (some ⟨g, 0, none⟩) P.length cap, .int .i64 (k0 : Int)] w fun e w' => e = .returned (.int .i64 ((endCr k0 P : Nat) : Int)) ∧ Below w.heap.size w w' := by
  have HD : Hid (∀ x ∈ P, x.1.data.length ≤ 1048576) := hd
  have HO : Hid (CV w B (.slice (some ⟨g, 0, none⟩) (marksCr k0 P).length cap) (marksCr k0 P)) := by rw [marksCr_len]; exact ho
  clear ho hd
  go_enter Tryz.func29, Tryz.ntmps29
  go_wp2_with fail
  go_loopw [1, 5] (fun v i wr => ∃ j q : Nat, j ≤ P.length ∧ i = .int .i64 (j : Int) ∧ v = .int .i64 (q : Int) ∧ Hid (q = endCr k0 (P.take j)) ∧ Below w.heap.size w wr) (fun _ i _ => P.length - (RowKit.intOf i).toNat)
  case atStart => exact ⟨0, k0, Nat.zero_le _, rfl, rfl, rfl, Below.refl _ _⟩
  case round =>
    obtain ⟨j, q, hj, rfl, rfl, HQ, hb⟩ := hrel
    have HB : Hid (Below w.heap.size w wr) := hb
    clear hb
    have hqb : 1 ≤ q ∧ q ≤ 4630000000000000000 := by
      have h1 := endCr_le (P.take j) k0 (fun x hx => HD.out x (List.mem_of_mem_take hx))
      have h2 : (P.take j).length ≤ 1048576 := by rw [List.length_take]; omega
      have h3 := HQ.out
      have h4 : (P.take j).length * 4194309 ≤ 1048576 * 4194309 := Nat.mul_le_mul_right _ h2
      omega
    obtain ⟨hq1, hq2⟩ := hqb
    by_cases hlt : j < P.length
    · have hA := (HO.out.below HB.out).at j (by rw [marksCr_len]; exact hlt)
      rw [marksCr_at P k0 j hlt, ← HQ.out] at hA
      have hll : P[j].1.data.length ≤ 1048576 := HD.out _ (List.getElem_mem hlt)
      obtain ⟨n, hn⟩ : ∃ n, n = P[j].1.data.length := ⟨_, rfl⟩
      rw [← hn] at hA hll
      have hmn : (marksD (q + 5) n).length = n := marksD_len _ _
      have HA : Hid (wr.cell? ⟨g, j * 6, none⟩ = some (.int .i64 (q : Int)) ∧ wr.cell? ⟨g, j * 6 + 1, none⟩ = some (.int .i64 ((q : Int) + 1)) ∧ wr.cell? ⟨g, j * 6 + 2, none⟩ = some (.int .i64 ((q : Int) + 1 + 1)) ∧ wr.cell? ⟨g, j * 6 + 3, none⟩ = some (.int .i64 ((q : Int) + 1 + 1 + 1)) ∧ wr.cell? ⟨g, j * 6 + 4, none⟩ = some (S (109 :: decDigits (q + 4))) ∧ ∃ ao cj, wr.cell? ⟨g, j * 6 + 5, none⟩ = some (.slice ao n cj) ∧ wr.ownsRow B 49 4 (.slice ao n cj) n (cellsD (marksD (q + 5) n))) := by
        obtain ⟨c0, c1, c2, c3, c5, ao, cj, c6, -, ho⟩ := hA
        have e : (markCr q n).data.length = n := hmn
        rw [e] at c6 ho
        exact ⟨c0, c1, c2, c3, c5, ao, cj, c6, ho⟩
      have HN : Hid (endCr k0 (P.take (j + 1)) = q + 5 + 4 * n) := by
        have := (midCr_next k0 P j hlt).2
        rw [← HQ.out, ← hn] at this; exact this
      clear hA hn hmn
      have a0 := HA.out.1
      have a1 := HA.out.2.1
      have a2 := HA.out.2.2.1
      have a3 := HA.out.2.2.2.1
      have a5 : ∀ p : BW wr, p.x.cell? ⟨g, j * 6 + 4, none⟩ = some (S (109 :: decDigits (q + 4))) := fun p => p.cell HA.out.2.2.2.2.1
      obtain ⟨ao, cj, c6, ho⟩ := HA.out.2.2.2.2.2
      have HC6 : Hid (wr.cell? ⟨g, j * 6 + 5, none⟩ = some (.slice ao n cj)) := c6
      have HH : Hid (∀ u, Below wr.heap.size wr u → Calls Tryz.prog 56 #[.slice ao n cj, .int .i64 ((q : Int) + 1 + 1 + 1 + 1 + 1)] u fun e w' => e = .returned (.int .i64 ((q + 5 + 4 * n : Nat) : Int)) ∧ Below u.heap.size u w') := fun u hu => by
        have := heldDS_any ao cj B (q + 5) n u hll (by omega) (by omega) (own_below ho hu)
        have e : ((q + 5 : Nat) : Int) = (q : Int) + 1 + 1 + 1 + 1 + 1 := by omega
        rw [e] at this
        exact this
      have hne := bw_some wr
      have HT : Hid (∀ w, Calls Tryz.prog 27 #[.int .i64 ((q : Int) + 1 + 1 + 1 + 1)] w fun e w' => e = .returned (S (109 :: decDigits (q + 4))) ∧ Below w.heap.size w w') := fun w => markText_any (q + 4) w (by omega) (by omega)
      clear c6 ho HA
      go_wp2_with fail
      refine wp_region_below (by kernel_rfl) (by kernel_rfl) ?_
      repeat (go_big_quiet_step ((go_at_call 27; exact calls_bw (HT.out _))))
      refine wpQuiet_nil ?_
      intro wq hw'
      obtain ⟨⟨_, bq⟩, rfl⟩ := hw'
      have HBq : Hid (Below wr.heap.size wr wq) := bq
      have b6 : wq.cell? ⟨g, j * 6 + 5, none⟩ = some (.slice ao n cj) := cell_keep bq HC6.out
      clear bq a0 a1 a2 a3 a5 hne HC6
      go_wp2_with fail
      refine (HH.out _ HBq.out).mono ?_
      rintro e w2 ⟨rfl, b2⟩
      have HB2 : Hid (Below w.heap.size w w2) := HB.out.trans ((HBq.out.trans (b2.mono HBq.out.size)).mono HB.out.size)
      clear b2 b6
      go_wp2
      exact ⟨⟨j + 1, q + 5 + 4 * n, by omega, by go_num, rfl, HN.out.symm, HB2.out⟩, by simp [RowKit.intOf]; omega⟩
    · have hjl : j = P.length := by omega
      have HE : Hid (q = endCr k0 P) := by have := HQ.out; rw [hjl, List.take_length] at this; exact this
      clear HQ hjl
      go_wp2
      go_ret
      exact ⟨by rw [HE.out]; rfl, HB.out⟩
theorem CV.none0 {w : World} {B : Nat} {v : Value} {P : List (Cor × Value)} (h : CV w B v P) : (v = .slice none 0 0 ∧ P = []) ∨ ∃ g cap, v = .slice (some ⟨g, 0, none⟩) P.length cap := by
  rcases h.row.2 with ⟨e, hn⟩ | ⟨g, cap, cur, e, _⟩
  · exact .inl ⟨e, List.length_eq_zero_iff.1 hn⟩
  · exact .inr ⟨g, cap, e⟩
theorem markCrs_any (P : List (Cor × Value)) (B k0 : Nat) (v : Value) (w : World) (hk : 1 ≤ k0) (hk2 : k0 ≤ 4620000000000000000) (hl : P.length ≤ 1048576) (hd : ∀ x ∈ P, x.1.data.length ≤ 1048576) (ho : CV w B v P) (ha : apartCr P) :
    Calls Tryz.prog 28 #[v, .int .i64 (k0 : Int)] w fun e w' => e = .returned (.int .i64 ((endCr k0 P : Nat) : Int)) ∧ CV w' B v (marksCr k0 P) ∧ Keeps (footCr v P) w w' := by
  rcases ho.none0 with ⟨rfl, rfl⟩ | ⟨g, cap, rfl⟩
  · have HO : Hid (CV w B (.slice none 0 0) []) := ho
    clear ho
    go_enter Tryz.func28, Tryz.ntmps28
    go_wp2_with fail
    go_loop [1, 5] (fun v i => v = .int .i64 (k0 : Int) ∧ i = .int .i64 0) (fun _ _ => 0)
    case atStart => exact ⟨rfl, rfl⟩
    case round =>
      obtain ⟨rfl, rfl⟩ := hrel
      go_wp2
      go_ret
      exact ⟨rfl, HO.out, Keeps.refl _ _⟩
  · exact markCrs_some P B g cap k0 w hk hk2 hl hd ho ha
theorem heldCrs_any (P : List (Cor × Value)) (B k0 : Nat) (v : Value) (w : World) (hk : 1 ≤ k0) (hk2 : k0 ≤ 4620000000000000000) (hl : P.length ≤ 1048576) (hd : ∀ x ∈ P, x.1.data.length ≤ 1048576) (ho : CV w B v (marksCr k0 P)) :
    Calls Tryz.prog 29 #[v, .int .i64 (k0 : Int)] w fun e w' => e = .returned (.int .i64 ((endCr k0 P : Nat) : Int)) ∧ Below w.heap.size w w' := by
  rcases ho.none0 with ⟨rfl, e⟩ | ⟨g, cap, rfl⟩
  · have hP : P = [] := List.length_eq_zero_iff.1 (by rw [← marksCr_len P k0, e]; rfl)
    subst hP
    clear ho e
    go_enter Tryz.func29, Tryz.ntmps29
    go_wp2_with fail
    go_loop [1, 5] (fun v i => v = .int .i64 (k0 : Int) ∧ i = .int .i64 0) (fun _ _ => 0)
    case atStart => exact ⟨rfl, rfl⟩
    case round =>
      obtain ⟨rfl, rfl⟩ := hrel
      go_wp2
      go_ret
      exact ⟨rfl, Below.refl _ _⟩
  · rw [marksCr_len] at ho ⊢
    exact heldCrs_some P B g cap k0 w hk hk2 hl hd ho
end Go.Proofs.YtfdkklhigliciaaGreatDoor
