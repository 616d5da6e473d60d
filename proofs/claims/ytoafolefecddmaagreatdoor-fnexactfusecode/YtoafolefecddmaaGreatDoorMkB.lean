/-
  Parts of the proof laid into one text, one behind the other: ResOp, ResBl, EqG. Contracts of the program's and the model's functions, and what they are proved of, as their theorems say.
-/
import Derived.Test.YtoafolefecddmaaGreatDoorMkA
import Derived.Test.YtoafolefecddmaaGreatDoorHjE
import Derived.Test.YtoafolefecddmaaGreatDoorKeepKitHv
namespace Go.Proofs.YtoafolefecddmaaGreatDoor
open Go.RowKit Go.Extern.Stop Go.Stop Go.Extern Num Go.Lib
structure OV (w : World) (B : Nat) (v : Value) (P : List (Opr × Value)) : Prop where
  row : w.ownsRow B 100 7 v P.length (cellsOp P)
  data : ∀ (i : Nat) (h : i < P.length), w.ownsRow B 196 4 P[i].2 P[i].1.data.length (cellsD P[i].1.data)
def apartO (P : List (Opr × Value)) : Prop := ∀ (i j : Nat) (hi : i < P.length) (hj : j < P.length), i ≠ j → farV P[i].2 P[j].2
def footO (v : Value) (P : List (Opr × Value)) (b : Nat) : Prop := v.ownBlock = some b ∨ ∃ (i : Nat) (h : i < P.length), P[i].2.ownBlock = some b
theorem OV.below {w w' : World} {B : Nat} {v : Value} {P : List (Opr × Value)} (h : OV w B v P) (hb : Below w.heap.size w w') : OV w' B v P := ⟨own_below h.row hb, fun i hi => own_below (h.data i hi) hb⟩
theorem OV.base {w : World} {B B' : Nat} {v : Value} {P : List (Opr × Value)} (h : OV w B v P) (hb : B' ≤ B) : OV w B' v P := ⟨own_base h.row hb, fun i hi => own_base (h.data i hi) hb⟩
theorem OV.keeps {F : Nat → Prop} {w w' : World} {B : Nat} {v : Value} {P : List (Opr × Value)} (h : OV w B v P) (hk : Keeps F w w') (hf : ∀ b, footO v P b → ¬ F b) : OV w' B v P :=
  ⟨hk.own h.row (fun g hg => hf g (.inl hg)), fun i hi => hk.own (h.data i hi) (fun g hg => hf g (.inr ⟨i, hi, hg⟩))⟩
theorem OV.foot {w : World} {B : Nat} {v : Value} {P : List (Opr × Value)} (h : OV w B v P) {b : Nat} (hb : footO v P b) : B ≤ b ∧ b < w.heap.size := by
  rcases hb with e | ⟨i, hi, e⟩
  · exact h.row.lt b e
  · exact (h.data i hi).lt b e
theorem cellsOp_set : ∀ (P : List (Opr × Value)) (k : Nat) (hk : k < P.length) (t : Opr), ((((((cellsOp P).set (k * 7) (.int .i64 t.kind)).set (k * 7 + 1) (.int .i64 t.a)).set (k * 7 + 2) (.int .i64 t.b)).set (k * 7 + 3) (.int .i64 t.c)).set (k * 7 + 4) (.int .i64 t.d)).set (k * 7 + 5) (.string t.name) = cellsOp (P.set k (t, P[k].2))
  | [], k, hk, _ => absurd hk (Nat.not_lt_zero k)
  | x :: r, 0, _, t => rfl
  | x :: r, k + 1, hk, t => by
    have ih := cellsOp_set r k (by simpa using hk) t
    have e : ∀ (ys : List Value) (j : Nat) (u : Value), (x.1.cells x.2 ++ ys).set (j + 7) u = x.1.cells x.2 ++ ys.set j u := fun ys j u => by
      rw [List.set_append_right _ _ (by simp [Opr.cells])]; simp [Opr.cells]
    show ((((((x.1.cells x.2 ++ cellsOp r).set ((k + 1) * 7) _).set ((k + 1) * 7 + 1) _).set ((k + 1) * 7 + 2) _).set ((k + 1) * 7 + 3) _).set ((k + 1) * 7 + 4) _).set ((k + 1) * 7 + 5) _ = _
    rw [show (k + 1) * 7 = k * 7 + 7 by omega, show k * 7 + 7 + 1 = k * 7 + 1 + 7 by omega, show k * 7 + 7 + 2 = k * 7 + 2 + 7 by omega, show k * 7 + 7 + 3 = k * 7 + 3 + 7 by omega, show k * 7 + 7 + 4 = k * 7 + 4 + 7 by omega, show k * 7 + 7 + 5 = k * 7 + 5 + 7 by omega, e, e, e, e, e, e, ih]
    rfl
def markO (q n : Nat) : Opr := ⟨(q : Int), (q : Int) + 1, (q : Int) + 1 + 1, (q : Int) + 1 + 1 + 1, (q : Int) + 1 + 1 + 1 + 1, ⟨(109 :: decDigits (q + 5)).toArray⟩, marksD (q + 6) n⟩
def marksO : Nat → List (Opr × Value) → List (Opr × Value)
  | _, [] => []
  | q, x :: r => (markO q x.1.data.length, x.2) :: marksO (q + 6 + 4 * x.1.data.length) r
def endO : Nat → List (Opr × Value) → Nat
  | q, [] => q
  | q, x :: r => endO (q + 6 + 4 * x.1.data.length) r
theorem marksO_len : ∀ (P : List (Opr × Value)) (q : Nat), (marksO q P).length = P.length
  | [], _ => rfl
  | x :: r, q => by simp [marksO, marksO_len r]
theorem marksO_snoc : ∀ (P : List (Opr × Value)) (x : Opr × Value) (q : Nat), marksO q (P ++ [x]) = marksO q P ++ [(markO (endO q P) x.1.data.length, x.2)] ∧ endO q (P ++ [x]) = endO q P + 6 + 4 * x.1.data.length
  | [], x, q => ⟨rfl, rfl⟩
  | y :: r, x, q => by
    obtain ⟨h1, h2⟩ := marksO_snoc r x (q + 6 + 4 * y.1.data.length)
    exact ⟨by simp [marksO, endO, h1], by simpa [endO] using h2⟩
theorem marksO_snd : ∀ (P : List (Opr × Value)) (q : Nat), (marksO q P).map Prod.snd = P.map Prod.snd
  | [], _ => rfl
  | x :: r, q => by simp [marksO, marksO_snd r]
theorem endO_le (P : List (Opr × Value)) : ∀ q, (∀ x ∈ P, x.1.data.length ≤ 1048576) → q ≤ endO q P ∧ endO q P ≤ q + P.length * 4194310 := by
  induction P with
  | nil => intro q _; simp [endO]
  | cons x r ih =>
    intro q h
    have h1 := ih (q + 6 + 4 * x.1.data.length) (fun y hy => h y (by simp [hy]))
    have h2 := h x (by simp)
    simp only [endO, List.length_cons, Nat.add_mul]
    omega
def midO (q : Nat) (P : List (Opr × Value)) (j : Nat) : List (Opr × Value) := marksO q (P.take j) ++ P.drop j
theorem midO_len (q : Nat) (P : List (Opr × Value)) (j : Nat) : (midO q P j).length = P.length := by
  unfold midO; rw [List.length_append, marksO_len, ← List.length_append, List.take_append_drop]
theorem midO_snd (q : Nat) (P : List (Opr × Value)) (j : Nat) : (midO q P j).map Prod.snd = P.map Prod.snd := by
  unfold midO; rw [List.map_append, marksO_snd, ← List.map_append, List.take_append_drop]
theorem midO_snd_at (q : Nat) (P : List (Opr × Value)) (j i : Nat) (hi : i < P.length) : ((midO q P j)[i]'(by rw [midO_len]; exact hi)).2 = P[i].2 := by
  have h := congrArg (fun L => L[i]?) (midO_snd q P j)
  simp only [List.getElem?_map] at h
  rw [List.getElem?_eq_getElem (by rw [midO_len]; exact hi), List.getElem?_eq_getElem hi] at h
  simpa using h
theorem midO_at (q : Nat) (P : List (Opr × Value)) (j : Nat) (hj : j < P.length) : (midO q P j)[j]'(by rw [midO_len]; exact hj) = P[j] := by
  have hl : (marksO q (P.take j)).length = j := by rw [marksO_len, List.length_take]; omega
  unfold midO
  rw [List.getElem_append_right (by omega)]
  simp [hl]
theorem midO_next (q : Nat) (P : List (Opr × Value)) (j : Nat) (hj : j < P.length) : (midO q P j).set j (markO (endO q (P.take j)) P[j].1.data.length, P[j].2) = midO q P (j + 1) ∧ endO q (P.take (j + 1)) = endO q (P.take j) + 6 + 4 * P[j].1.data.length := by
  have hl : (marksO q (P.take j)).length = j := by rw [marksO_len, List.length_take]; omega
  have ht : P.take (j + 1) = P.take j ++ [P[j]] := by rw [List.take_add_one, List.getElem?_eq_getElem hj]; rfl
  obtain ⟨h1, h2⟩ := marksO_snoc (P.take j) P[j] q
  refine ⟨?_, by rw [ht, h2]⟩
  unfold midO
  have hd : P.drop j = P[j] :: P.drop (j + 1) := List.drop_eq_getElem_cons hj
  rw [ht, h1, List.set_append_right _ _ (by omega), hl, Nat.sub_self, hd, List.append_assoc]
  rfl
set_option maxRecDepth 100000 in
set_option maxHeartbeats 4000000 in
theorem markOps_some (P : List (Opr × Value)) (B g cap k0 : Nat) (w : World) (hk : 1 ≤ k0) (hk2 : k0 ≤ 4620000000000000000) (hl : P.length ≤ 1048576) (hd : ∀ x ∈ P, x.1.data.length ≤ 1048576) (ho : OV w B (.slice (some ⟨g, 0, none⟩) P.length cap) P) (ha : apartO P) :
    Calls Tryz.prog 58 #[.slice (some ⟨g, 0, none⟩) P.length cap, .int .i64 (k0 : Int)] w fun e w' => e = .returned (.int .i64 ((endO k0 P : Nat) : Int)) ∧ OV w' B (.slice (some ⟨g, 0, none⟩) P.length cap) (marksO k0 P) ∧ Keeps (footO (.slice (some ⟨g, 0, none⟩) P.length cap) P) w w' := by
  have HD : Hid (∀ x ∈ P, x.1.data.length ≤ 1048576) := hd
  have HA : Hid (apartO P) := ha
  have H0 : Hid (OV w B (.slice (some ⟨g, 0, none⟩) P.length cap) (midO k0 P 0) ∧ Keeps (footO (.slice (some ⟨g, 0, none⟩) P.length cap) P) w w) := ⟨by unfold midO; exact ho, Keeps.refl _ _⟩
  have HFg : Hid (footO (.slice (some ⟨g, 0, none⟩) P.length cap) P g) := .inl rfl
  clear ho hd ha
  go_enter Tryz.func58, Tryz.ntmps58
  go_wp2_with fail
  go_loopw [1, 5] (fun v i wr => ∃ j q : Nat, j ≤ P.length ∧ i = .int .i64 (j : Int) ∧ v = .int .i64 (q : Int) ∧ Hid (q = endO k0 (P.take j)) ∧ Hid (OV wr B (.slice (some ⟨g, 0, none⟩) P.length cap) (midO k0 P j) ∧ Keeps (footO (.slice (some ⟨g, 0, none⟩) P.length cap) P) w wr)) (fun _ i _ => P.length - (RowKit.intOf i).toNat)
  case atStart => exact ⟨0, k0, Nat.zero_le _, rfl, rfl, rfl, H0.out⟩
  case round =>
    obtain ⟨j, q, hj, rfl, rfl, HQ, HX⟩ := hrel
    have hqb : 1 ≤ q ∧ q ≤ 4630000000000000000 := by
      have h1 := endO_le (P.take j) k0 (fun x hx => HD.out x (List.mem_of_mem_take hx))
      have h2 : (P.take j).length ≤ 1048576 := by rw [List.length_take]; omega
      have h3 := HQ.out
      have h4 : (P.take j).length * 4194310 ≤ 1048576 * 4194310 := Nat.mul_le_mul_right _ h2
      omega
    obtain ⟨hq1, hq2⟩ := hqb
    by_cases hlt : j < P.length
    · have hMl : (midO k0 P j).length = P.length := midO_len _ _ _
      have hMj := midO_at k0 P j hlt
      have hjM : j < (midO k0 P j).length := by rw [hMl]; exact hlt
      obtain ⟨hov, hke⟩ := HX.out
      have hrow := hov.row
      have hdat := hov.data
      rw [hMl] at hrow
      obtain ⟨M, hM⟩ : ∃ M, M = midO k0 P j := ⟨_, rfl⟩
      have HMn : Hid (M.set j (markO q P[j].1.data.length, P[j].2) = midO k0 P (j + 1) ∧ endO k0 (P.take (j + 1)) = q + 6 + 4 * P[j].1.data.length) := by
        show _ ∧ _
        rw [hM, HQ.out]; exact midO_next k0 P j hlt
      have HMs : Hid (∀ (i : Nat) (hi : i < M.length) (hiP : i < P.length), (M[i]).2 = P[i].2) := fun i hi hiP => by subst hM; exact midO_snd_at k0 P j i hiP
      have hc6 := (cellsOp_at M j (by rw [hM]; exact hjM)).2.2.2.2.2.2
      rw [← hM] at hrow hMl hjM
      have hMj' : M[j] = P[j] := by subst hM; exact hMj
      have HRow : Hid (wr.ownsRow B 100 7 (.slice (some ⟨g, 0, none⟩) P.length cap) P.length (cellsOp M)) := hrow
      have HDat : Hid (∀ (i : Nat) (h : i < M.length), wr.ownsRow B 196 4 M[i].2 M[i].1.data.length (cellsD M[i].1.data)) := fun i h => by subst hM; exact hdat i h
      have HKe : Hid (Keeps (footO (.slice (some ⟨g, 0, none⟩) P.length cap) P) w wr) := hke
      have HML : Hid (M.length = P.length) := hMl
      rw [hMj'] at hc6
      have HC6 : Hid ((cellsOp M)[j * 7 + 6]? = some P[j].2) := hc6
      have HMj : Hid (∀ h : j < M.length, M[j] = P[j]) := fun _ => hMj'
      have hcl : (cellsOp M).length = P.length * 7 := by rw [cellsOp_length, hMl]
      obtain ⟨x0, e0⟩ := own_cell hrow (j * 7) (by omega)
      obtain ⟨x1, e1⟩ := own_cell hrow (j * 7 + 1) (by omega)
      obtain ⟨x2, e2⟩ := own_cell hrow (j * 7 + 2) (by omega)
      obtain ⟨x3, e3⟩ := own_cell hrow (j * 7 + 3) (by omega)
      obtain ⟨x4, e4⟩ := own_cell hrow (j * 7 + 4) (by omega)
      have ff : ∀ i, wr.frozen? ⟨g, i, none⟩ = false := own_frozen hrow
      have hgl : g < wr.heap.size := (hrow.lt g rfl).2
      have HFa : Hid (∀ (i : Nat) (h : i < M.length), farV M[i].2 (.slice (some ⟨g, 0, none⟩) P.length cap)) := fun i h => typ_ne (HDat.out i h) hrow (by decide)
      have HT : Hid (∀ u, Calls Tryz.prog 92 #[.int .i64 ((q : Int) + 1 + 1 + 1 + 1 + 1)] u fun e w' => e = .returned (S (109 :: decDigits (q + 5))) ∧ Below u.heap.size u w') := fun u => markText_any (q + 5) u (by omega) (by omega)
      clear hrow hdat hov hke hM hMj hjM hMj' HX hcl hc6 hMl
      go_wp2_with fail
      have HU : Hid (World.ownsRow (((((wr.setCell ⟨g, j * 7, none⟩ (.int .i64 (q : Int))).setCell ⟨g, j * 7 + 1, none⟩ (.int .i64 ((q : Int) + 1))).setCell ⟨g, j * 7 + 2, none⟩ (.int .i64 ((q : Int) + 1 + 1))).setCell ⟨g, j * 7 + 3, none⟩ (.int .i64 ((q : Int) + 1 + 1 + 1))).setCell ⟨g, j * 7 + 4, none⟩ (.int .i64 ((q : Int) + 1 + 1 + 1 + 1))) B 100 7 (.slice (some ⟨g, 0, none⟩) P.length cap) P.length ((((((cellsOp M).set (j * 7) (.int .i64 (q : Int))).set (j * 7 + 1) (.int .i64 ((q : Int) + 1))).set (j * 7 + 2) (.int .i64 ((q : Int) + 1 + 1))).set (j * 7 + 3) (.int .i64 ((q : Int) + 1 + 1 + 1))).set (j * 7 + 4) (.int .i64 ((q : Int) + 1 + 1 + 1 + 1))) ∧ (∀ (i : Nat) (h : i < M.length), World.ownsRow (((((wr.setCell ⟨g, j * 7, none⟩ (.int .i64 (q : Int))).setCell ⟨g, j * 7 + 1, none⟩ (.int .i64 ((q : Int) + 1))).setCell ⟨g, j * 7 + 2, none⟩ (.int .i64 ((q : Int) + 1 + 1))).setCell ⟨g, j * 7 + 3, none⟩ (.int .i64 ((q : Int) + 1 + 1 + 1))).setCell ⟨g, j * 7 + 4, none⟩ (.int .i64 ((q : Int) + 1 + 1 + 1 + 1))) B 196 4 M[i].2 M[i].1.data.length (cellsD M[i].1.data)) ∧ Keeps (footO (.slice (some ⟨g, 0, none⟩) P.length cap) P) w (((((wr.setCell ⟨g, j * 7, none⟩ (.int .i64 (q : Int))).setCell ⟨g, j * 7 + 1, none⟩ (.int .i64 ((q : Int) + 1))).setCell ⟨g, j * 7 + 2, none⟩ (.int .i64 ((q : Int) + 1 + 1))).setCell ⟨g, j * 7 + 3, none⟩ (.int .i64 ((q : Int) + 1 + 1 + 1))).setCell ⟨g, j * 7 + 4, none⟩ (.int .i64 ((q : Int) + 1 + 1 + 1 + 1)))) := by
        have hne : ∀ (i : Nat) (h : i < M.length) (b : Nat), M[i].2.ownBlock = some b → b ≠ g := fun i h b hb e => by subst e; exact HFa.out i h b hb rfl
        exact ⟨own_put (own_put (own_put (own_put (own_put HRow.out _ _) _ _) _ _) _ _) _ _, fun i h => own_set' (own_set' (own_set' (own_set' (own_set' (HDat.out i h) (hne i h) _) (hne i h) _) (hne i h) _) (hne i h) _) (hne i h) _, ((((HKe.out.set HFg.out _ _).set HFg.out _ _).set HFg.out _ _).set HFg.out _ _).set HFg.out _ _⟩
      generalize (((((wr.setCell ⟨g, j * 7, none⟩ (.int .i64 (q : Int))).setCell ⟨g, j * 7 + 1, none⟩ (.int .i64 ((q : Int) + 1))).setCell ⟨g, j * 7 + 2, none⟩ (.int .i64 ((q : Int) + 1 + 1))).setCell ⟨g, j * 7 + 3, none⟩ (.int .i64 ((q : Int) + 1 + 1 + 1))).setCell ⟨g, j * 7 + 4, none⟩ (.int .i64 ((q : Int) + 1 + 1 + 1 + 1))) = U at HU ⊢
      clear e0 e1 e2 e3 e4 ff hgl HRow HDat HKe
      refine (HT.out _).mono ?_
      rintro e w1 ⟨rfl, b1⟩
      obtain ⟨u1, u2, u3⟩ := HU.out
      have o1 := own_below u1 b1
      have d1 : ∀ (i : Nat) (h : i < M.length), w1.ownsRow B 196 4 M[i].2 M[i].1.data.length (cellsD M[i].1.data) := fun i h => own_below (u2 i h) b1
      have k1 := u3.below b1
      have hjM : j < M.length := by rw [HML.out]; exact hlt
      have hdj := d1 j hjM
      rw [HMj.out hjM] at hdj
      obtain ⟨ao, cj, hvj⟩ := own_form hdj
      have hll : P[j].1.data.length ≤ 1048576 := HD.out _ (List.getElem_mem hlt)
      have ha : ∀ i, (⟨g, 0, none⟩ : Addr).add i = ⟨g, i, none⟩ := fun i => by unfold Addr.add; split <;> simp_all
      have hcl : (cellsOp M).length = P.length * 7 := by rw [cellsOp_length, HML.out]
      obtain ⟨x5, e5⟩ := own_cell o1 (j * 7 + 5) (by simp only [List.length_set]; omega)
      have e6 : w1.cell? ⟨g, j * 7 + 6, none⟩ = some (.slice ao P[j].1.data.length cj) := by
        rw [← ha, ← hvj]
        refine o1.cells (g := g) rfl _ _ ?_
        rw [List.getElem?_set_ne (by omega), List.getElem?_set_ne (by omega), List.getElem?_set_ne (by omega), List.getElem?_set_ne (by omega), List.getElem?_set_ne (by omega)]
        exact HC6.out
      have ff : ∀ i, w1.frozen? ⟨g, i, none⟩ = false := own_frozen o1
      have hne : ∀ (i : Nat) (h : i < M.length) (b : Nat), M[i].2.ownBlock = some b → b ≠ g := fun i h b hb e => by subst e; exact HFa.out i h b hb rfl
      have hnj : ∀ b, P[j].2.ownBlock = some b → b ≠ g := fun b hb => hne j hjM b (by rw [HMj.out hjM]; exact hb)
      have HM : Hid (∀ s : Value, Calls Tryz.prog 93 #[.slice ao P[j].1.data.length cj, .int .i64 ((q : Int) + 1 + 1 + 1 + 1 + 1 + 1)] (w1.setCell ⟨g, j * 7 + 5, none⟩ s) fun e w' => e = .returned (.int .i64 ((q + 6 + 4 * P[j].1.data.length : Nat) : Int)) ∧ w'.ownsRow B 196 4 P[j].2 P[j].1.data.length (cellsD (marksD (q + 6) P[j].1.data.length)) ∧ (w1.setCell ⟨g, j * 7 + 5, none⟩ s).grownBy w' P[j].2.ownBlock) := fun s => by
        have h5 := own_set' hdj (p := ⟨g, j * 7 + 5, none⟩) (fun b hb => hnj b hb) s
        rw [hvj] at h5 ⊢
        have := markDS_any ao cj B (q + 6) P[j].1.data (w1.setCell ⟨g, j * 7 + 5, none⟩ s) hll (by omega) (by omega) h5
        have e : ((q + 6 : Nat) : Int) = (q : Int) + 1 + 1 + 1 + 1 + 1 + 1 := by omega
        rw [e] at this
        exact this
      have HZ : Hid (∀ w' : World, w'.ownsRow B 196 4 P[j].2 P[j].1.data.length (cellsD (marksD (q + 6) P[j].1.data.length)) → (w1.setCell ⟨g, j * 7 + 5, none⟩ (S (109 :: decDigits (q + 5)))).grownBy w' P[j].2.ownBlock → OV w' B (.slice (some ⟨g, 0, none⟩) P.length cap) (midO k0 P (j + 1)) ∧ Keeps (footO (.slice (some ⟨g, 0, none⟩) P.length cap) P) w w') := fun w' hn hg => by
        have hrow2 := own_apart (own_put o1 (j * 7 + 5) (S (109 :: decDigits (q + 5)))) hg (fun g' hg' e => by
          have h7 : g = g' := (by simpa [Value.ownBlock] using hg')
          exact hnj g' e h7.symm)
        have hset := cellsOp_set M j hjM (markO q P[j].1.data.length)
        rw [HMj.out hjM] at hset
        have hrow3 : w'.ownsRow B 100 7 (.slice (some ⟨g, 0, none⟩) P.length cap) P.length (cellsOp (M.set j (markO q P[j].1.data.length, P[j].2))) := by rw [← hset]; exact hrow2
        refine ⟨?_, (k1.set HFg.out (j * 7 + 5) _).grown hg (fun b hb => .inr ⟨j, hlt, hb⟩)⟩
        rw [← HMn.out.1]
        refine ⟨by rw [List.length_set, HML.out]; exact hrow3, fun i hi => ?_⟩
        rw [List.length_set] at hi
        by_cases e : j = i
        · subst e
          rw [List.getElem_set_self]
          have hml : (markO q P[j].1.data.length).data.length = P[j].1.data.length := marksD_len _ _
          show w'.ownsRow B _ 4 P[j].2 (markO q P[j].1.data.length).data.length (cellsD (marksD (q + 6) P[j].1.data.length))
          rw [hml]; exact hn
        · rw [List.getElem_set_ne e]
          have hiP : i < P.length := by rw [← HML.out]; exact hi
          refine own_apart (own_set' (d1 i hi) (p := ⟨g, j * 7 + 5, none⟩) (fun b hb => hne i hi b hb) _) hg (fun b hb e2 => ?_)
          have h1 := HA.out i j hiP hlt (fun e3 => e e3.symm) b (by rw [← HMs.out i hi hiP]; exact hb)
          exact h1 e2
      clear o1 d1 k1 hdj b1 ha HU HT u1 u2 u3 hcl hne hnj hvj
      go_wp2_with fail
      refine (HM.out _).mono ?_
      rintro e w2 ⟨rfl, hn, hg⟩
      have HZ2 : Hid (OV w2 B (.slice (some ⟨g, 0, none⟩) P.length cap) (midO k0 P (j + 1)) ∧ Keeps (footO (.slice (some ⟨g, 0, none⟩) P.length cap) P) w w2) := HZ.out w2 hn hg
      clear hn hg HZ HM e5 e6 ff
      go_wp2
      exact ⟨⟨j + 1, q + 6 + 4 * P[j].1.data.length, by omega, by go_num, rfl, HMn.out.2.symm, HZ2.out⟩, by simp [RowKit.intOf]; omega⟩
    · have hjl : j = P.length := by omega
      have HE : Hid (q = endO k0 P) := by have := HQ.out; rw [hjl, List.take_length] at this; exact this
      have HY : Hid (OV wr B (.slice (some ⟨g, 0, none⟩) P.length cap) (marksO k0 P) ∧ Keeps (footO (.slice (some ⟨g, 0, none⟩) P.length cap) P) w wr) := by
        have := HX.out
        rw [hjl] at this
        unfold midO at this
        rw [List.take_length, List.drop_length, List.append_nil] at this
        exact this
      clear HX HQ hjl
      go_wp2
      go_ret
      exact ⟨by rw [HE.out]; rfl, HY.out⟩
theorem OV.at {w : World} {B g cap : Nat} {P : List (Opr × Value)} (h : OV w B (.slice (some ⟨g, 0, none⟩) P.length cap) P) (k : Nat) (hk : k < P.length) : w.cell? ⟨g, k * 7, none⟩ = some (.int .i64 P[k].1.kind) ∧ w.cell? ⟨g, k * 7 + 1, none⟩ = some (.int .i64 P[k].1.a) ∧ w.cell? ⟨g, k * 7 + 2, none⟩ = some (.int .i64 P[k].1.b) ∧ w.cell? ⟨g, k * 7 + 3, none⟩ = some (.int .i64 P[k].1.c) ∧ w.cell? ⟨g, k * 7 + 4, none⟩ = some (.int .i64 P[k].1.d) ∧ w.cell? ⟨g, k * 7 + 5, none⟩ = some (.string P[k].1.name) ∧
    ∃ ao cj, w.cell? ⟨g, k * 7 + 6, none⟩ = some (.slice ao P[k].1.data.length cj) ∧ P[k].2 = .slice ao P[k].1.data.length cj ∧ w.ownsRow B 196 4 (.slice ao P[k].1.data.length cj) P[k].1.data.length (cellsD P[k].1.data) := by
  have ha : ∀ j, (⟨g, 0, none⟩ : Addr).add j = ⟨g, j, none⟩ := fun j => by unfold Addr.add; split <;> simp_all
  have hc := h.row.cells (g := g) rfl
  obtain ⟨c0, c1, c2, c3, c4, c5, cz⟩ := cellsOp_at P k hk
  have hd := h.data k hk
  obtain ⟨ao, cj, hv⟩ := own_form hd
  rw [hv] at cz hd
  exact ⟨by rw [← ha]; exact hc _ _ c0, by rw [← ha]; exact hc _ _ c1, by rw [← ha]; exact hc _ _ c2, by rw [← ha]; exact hc _ _ c3, by rw [← ha]; exact hc _ _ c4, by rw [← ha]; exact hc _ _ c5, ao, cj, by rw [← ha]; exact hc _ _ cz, hv, hd⟩
theorem marksO_at (P : List (Opr × Value)) (q j : Nat) (hj : j < P.length) : (marksO q P)[j]'(by rw [marksO_len]; exact hj) = (markO (endO q (P.take j)) P[j].1.data.length, P[j].2) := by
  induction P generalizing q j with
  | nil => cases hj
  | cons x r ih =>
    cases j with
    | zero => rfl
    | succ j => exact ih _ j (by simpa using hj)
set_option maxRecDepth 100000 in
set_option maxHeartbeats 4000000 in
theorem heldOps_some (P : List (Opr × Value)) (B g cap k0 : Nat) (w : World) (hk : 1 ≤ k0) (hk2 : k0 ≤ 4620000000000000000) (hl : P.length ≤ 1048576) (hd : ∀ x ∈ P, x.1.data.length ≤ 1048576) (ho : OV w B (.slice (some ⟨g, 0, none⟩) P.length cap) (marksO k0 P)) :
    Calls Tryz.prog 94 #[.slice (some ⟨g, 0, none⟩) P.length cap, .int .i64 (k0 : Int)] w fun e w' => e = .returned (.int .i64 ((endO k0 P : Nat) : Int)) ∧ Below w.heap.size w w' := by
  have HD : Hid (∀ x ∈ P, x.1.data.length ≤ 1048576) := hd
  have HO : Hid (OV w B (.slice (some ⟨g, 0, none⟩) (marksO k0 P).length cap) (marksO k0 P)) := by rw [marksO_len]; exact ho
  clear ho hd
  go_enter Tryz.func94, Tryz.ntmps94
  go_wp2_with fail
  go_loopw [1, 5] (fun v i wr => ∃ j q : Nat, j ≤ P.length ∧ i = .int .i64 (j : Int) ∧ v = .int .i64 (q : Int) ∧ Hid (q = endO k0 (P.take j)) ∧ Below w.heap.size w wr) (fun _ i _ => P.length - (RowKit.intOf i).toNat)
  case atStart => exact ⟨0, k0, Nat.zero_le _, rfl, rfl, rfl, Below.refl _ _⟩
  case round =>
    obtain ⟨j, q, hj, rfl, rfl, HQ, hb⟩ := hrel
    have HB : Hid (Below w.heap.size w wr) := hb
    clear hb
    have hqb : 1 ≤ q ∧ q ≤ 4630000000000000000 := by
      have h1 := endO_le (P.take j) k0 (fun x hx => HD.out x (List.mem_of_mem_take hx))
      have h2 : (P.take j).length ≤ 1048576 := by rw [List.length_take]; omega
      have h3 := HQ.out
      have h4 : (P.take j).length * 4194310 ≤ 1048576 * 4194310 := Nat.mul_le_mul_right _ h2
      omega
    obtain ⟨hq1, hq2⟩ := hqb
    by_cases hlt : j < P.length
    · have hA := (HO.out.below HB.out).at j (by rw [marksO_len]; exact hlt)
      rw [marksO_at P k0 j hlt, ← HQ.out] at hA
      have hll : P[j].1.data.length ≤ 1048576 := HD.out _ (List.getElem_mem hlt)
      obtain ⟨n, hn⟩ : ∃ n, n = P[j].1.data.length := ⟨_, rfl⟩
      rw [← hn] at hA hll
      have hmn : (marksD (q + 6) n).length = n := marksD_len _ _
      have HA : Hid (wr.cell? ⟨g, j * 7, none⟩ = some (.int .i64 (q : Int)) ∧ wr.cell? ⟨g, j * 7 + 1, none⟩ = some (.int .i64 ((q : Int) + 1)) ∧ wr.cell? ⟨g, j * 7 + 2, none⟩ = some (.int .i64 ((q : Int) + 1 + 1)) ∧ wr.cell? ⟨g, j * 7 + 3, none⟩ = some (.int .i64 ((q : Int) + 1 + 1 + 1)) ∧ wr.cell? ⟨g, j * 7 + 4, none⟩ = some (.int .i64 ((q : Int) + 1 + 1 + 1 + 1)) ∧ wr.cell? ⟨g, j * 7 + 5, none⟩ = some (S (109 :: decDigits (q + 5))) ∧ ∃ ao cj, wr.cell? ⟨g, j * 7 + 6, none⟩ = some (.slice ao n cj) ∧ wr.ownsRow B 196 4 (.slice ao n cj) n (cellsD (marksD (q + 6) n))) := by
        obtain ⟨c0, c1, c2, c3, c4, c5, ao, cj, c6, -, ho⟩ := hA
        have e : (markO q n).data.length = n := hmn
        rw [e] at c6 ho
        exact ⟨c0, c1, c2, c3, c4, c5, ao, cj, c6, ho⟩
      have HN : Hid (endO k0 (P.take (j + 1)) = q + 6 + 4 * n) := by
        have := (midO_next k0 P j hlt).2
        rw [← HQ.out, ← hn] at this; exact this
      clear hA hn hmn
      have a0 := HA.out.1
      have a1 := HA.out.2.1
      have a2 := HA.out.2.2.1
      have a3 := HA.out.2.2.2.1
      have a4 := HA.out.2.2.2.2.1
      have a5 : ∀ p : BW wr, p.x.cell? ⟨g, j * 7 + 5, none⟩ = some (S (109 :: decDigits (q + 5))) := fun p => p.cell HA.out.2.2.2.2.2.1
      obtain ⟨ao, cj, c6, ho⟩ := HA.out.2.2.2.2.2.2
      have HC6 : Hid (wr.cell? ⟨g, j * 7 + 6, none⟩ = some (.slice ao n cj)) := c6
      have HH : Hid (∀ u, Below wr.heap.size wr u → Calls Tryz.prog 134 #[.slice ao n cj, .int .i64 ((q : Int) + 1 + 1 + 1 + 1 + 1 + 1)] u fun e w' => e = .returned (.int .i64 ((q + 6 + 4 * n : Nat) : Int)) ∧ Below u.heap.size u w') := fun u hu => by
        have := heldDS_any ao cj B (q + 6) n u hll (by omega) (by omega) (own_below ho hu)
        have e : ((q + 6 : Nat) : Int) = (q : Int) + 1 + 1 + 1 + 1 + 1 + 1 := by omega
        rw [e] at this
        exact this
      have hne := bw_some wr
      have HT : Hid (∀ w, Calls Tryz.prog 92 #[.int .i64 ((q : Int) + 1 + 1 + 1 + 1 + 1)] w fun e w' => e = .returned (S (109 :: decDigits (q + 5))) ∧ Below w.heap.size w w') := fun w => markText_any (q + 5) w (by omega) (by omega)
      clear c6 ho HA
      go_wp2_with fail
      refine wp_region_below (by kernel_rfl) (by kernel_rfl) ?_
      repeat (go_big_quiet_step ((go_at_call 92; exact calls_bw (HT.out _))))
      refine wpQuiet_nil ?_
      intro wq hw'
      obtain ⟨⟨_, bq⟩, rfl⟩ := hw'
      have HBq : Hid (Below wr.heap.size wr wq) := bq
      have b6 : wq.cell? ⟨g, j * 7 + 6, none⟩ = some (.slice ao n cj) := cell_keep bq HC6.out
      clear bq a0 a1 a2 a3 a4 a5 hne HC6
      go_wp2_with fail
      refine (HH.out _ HBq.out).mono ?_
      rintro e w2 ⟨rfl, b2⟩
      have HB2 : Hid (Below w.heap.size w w2) := HB.out.trans ((HBq.out.trans (b2.mono HBq.out.size)).mono HB.out.size)
      clear b2 b6
      go_wp2
      exact ⟨⟨j + 1, q + 6 + 4 * n, by omega, by go_num, rfl, HN.out.symm, HB2.out⟩, by simp [RowKit.intOf]; omega⟩
    · have hjl : j = P.length := by omega
      have HE : Hid (q = endO k0 P) := by have := HQ.out; rw [hjl, List.take_length] at this; exact this
      clear HQ hjl
      go_wp2
      go_ret
      exact ⟨by rw [HE.out]; rfl, HB.out⟩
theorem OV.none0 {w : World} {B : Nat} {v : Value} {P : List (Opr × Value)} (h : OV w B v P) : (v = .slice none 0 0 ∧ P = []) ∨ ∃ g cap, v = .slice (some ⟨g, 0, none⟩) P.length cap := by
  rcases h.row.2 with ⟨e, hn⟩ | ⟨g, cap, cur, e, _⟩
  · exact .inl ⟨e, List.length_eq_zero_iff.1 hn⟩
  · exact .inr ⟨g, cap, e⟩
theorem markOps_any (P : List (Opr × Value)) (B k0 : Nat) (v : Value) (w : World) (hk : 1 ≤ k0) (hk2 : k0 ≤ 4620000000000000000) (hl : P.length ≤ 1048576) (hd : ∀ x ∈ P, x.1.data.length ≤ 1048576) (ho : OV w B v P) (ha : apartO P) :
    Calls Tryz.prog 58 #[v, .int .i64 (k0 : Int)] w fun e w' => e = .returned (.int .i64 ((endO k0 P : Nat) : Int)) ∧ OV w' B v (marksO k0 P) ∧ Keeps (footO v P) w w' := by
  rcases ho.none0 with ⟨rfl, rfl⟩ | ⟨g, cap, rfl⟩
  · have HO : Hid (OV w B (.slice none 0 0) []) := ho
    clear ho
    go_enter Tryz.func58, Tryz.ntmps58
    go_wp2_with fail
    go_loop [1, 5] (fun v i => v = .int .i64 (k0 : Int) ∧ i = .int .i64 0) (fun _ _ => 0)
    case atStart => exact ⟨rfl, rfl⟩
    case round =>
      obtain ⟨rfl, rfl⟩ := hrel
      go_wp2
      go_ret
      exact ⟨rfl, HO.out, Keeps.refl _ _⟩
  · exact markOps_some P B g cap k0 w hk hk2 hl hd ho ha
theorem heldOps_any (P : List (Opr × Value)) (B k0 : Nat) (v : Value) (w : World) (hk : 1 ≤ k0) (hk2 : k0 ≤ 4620000000000000000) (hl : P.length ≤ 1048576) (hd : ∀ x ∈ P, x.1.data.length ≤ 1048576) (ho : OV w B v (marksO k0 P)) :
    Calls Tryz.prog 94 #[v, .int .i64 (k0 : Int)] w fun e w' => e = .returned (.int .i64 ((endO k0 P : Nat) : Int)) ∧ Below w.heap.size w w' := by
  rcases ho.none0 with ⟨rfl, e⟩ | ⟨g, cap, rfl⟩
  · have hP : P = [] := List.length_eq_zero_iff.1 (by rw [← marksO_len P k0, e]; rfl)
    subst hP
    clear ho e
    go_enter Tryz.func94, Tryz.ntmps94
    go_wp2_with fail
    go_loop [1, 5] (fun v i => v = .int .i64 (k0 : Int) ∧ i = .int .i64 0) (fun _ _ => 0)
    case atStart => exact ⟨rfl, rfl⟩
    case round =>
      obtain ⟨rfl, rfl⟩ := hrel
      go_wp2
      go_ret
      exact ⟨rfl, Below.refl _ _⟩
  · rw [marksO_len] at ho ⊢
    exact heldOps_some P B g cap k0 w hk hk2 hl hd ho
structure RB where
  args : Int
  v : Value
  P : List (Opr × Value)
def RB.blk (r : RB) : Blk := ⟨r.args, r.P.map Prod.fst⟩
def cellsR : List RB → List Value
  | [] => []
  | r :: s => .int .i64 r.args :: r.v :: cellsR s
theorem cellsR_length : ∀ R : List RB, (cellsR R).length = R.length * 2
  | [] => rfl
  | r :: s => by simp [cellsR, cellsR_length s]; omega
theorem cellsR_append : ∀ a b : List RB, cellsR (a ++ b) = cellsR a ++ cellsR b
  | [], _ => rfl
  | r :: s, b => by simp [cellsR, cellsR_append s b]
theorem cellsR_at : ∀ (R : List RB) (k : Nat) (h : k < R.length), (cellsR R)[k * 2]? = some (.int .i64 R[k].args) ∧ (cellsR R)[k * 2 + 1]? = some R[k].v
  | [], k, h => absurd h (Nat.not_lt_zero k)
  | r :: s, 0, _ => ⟨rfl, rfl⟩
  | r :: s, k + 1, h => by
    have := cellsR_at s k (by simpa using h)
    rw [show (k + 1) * 2 = k * 2 + 1 + 1 by omega]
    exact this
theorem cellsR_set : ∀ (R : List RB) (k : Nat) (h : k < R.length) (x : Int) (P : List (Opr × Value)), (cellsR R).set (k * 2) (.int .i64 x) = cellsR (R.set k ⟨x, R[k].v, P⟩)
  | [], k, h, _, _ => absurd h (Nat.not_lt_zero k)
  | r :: s, 0, _, _, _ => rfl
  | r :: s, k + 1, h, x, P => by
    have := cellsR_set s k (by simpa using h) x P
    rw [show (k + 1) * 2 = k * 2 + 1 + 1 by omega]
    show .int .i64 r.args :: r.v :: (cellsR s).set (k * 2) _ = _
    rw [this]; rfl
structure BV (w : World) (B : Nat) (v : Value) (R : List RB) : Prop where
  row : w.ownsRow B 85 2 v R.length (cellsR R)
  ops : ∀ (i : Nat) (h : i < R.length), OV w B R[i].v R[i].P
structure apartR (R : List RB) : Prop where
  rows : ∀ (i j : Nat) (hi : i < R.length) (hj : j < R.length), i ≠ j → farV R[i].v R[j].v
  data : ∀ (i j : Nat) (hi : i < R.length) (hj : j < R.length), i ≠ j → ∀ (m n : Nat) (hm : m < R[i].P.length) (hn : n < R[j].P.length), farV (R[i].P[m]).2 (R[j].P[n]).2
  each : ∀ (i : Nat) (h : i < R.length), apartO R[i].P
def footR (v : Value) (R : List RB) (b : Nat) : Prop := v.ownBlock = some b ∨ ∃ (i : Nat) (h : i < R.length), footO R[i].v R[i].P b
theorem BV.below {w w' : World} {B : Nat} {v : Value} {R : List RB} (h : BV w B v R) (hb : Below w.heap.size w w') : BV w' B v R := ⟨own_below h.row hb, fun i hi => (h.ops i hi).below hb⟩
theorem BV.base {w : World} {B B' : Nat} {v : Value} {R : List RB} (h : BV w B v R) (hb : B' ≤ B) : BV w B' v R := ⟨own_base h.row hb, fun i hi => (h.ops i hi).base hb⟩
theorem BV.foot {w : World} {B : Nat} {v : Value} {R : List RB} (h : BV w B v R) {b : Nat} (hb : footR v R b) : B ≤ b ∧ b < w.heap.size := by
  rcases hb with e | ⟨i, hi, e⟩
  · exact h.row.lt b e
  · exact (h.ops i hi).foot e
theorem BV.keeps {F : Nat → Prop} {w w' : World} {B : Nat} {v : Value} {R : List RB} (h : BV w B v R) (hk : Keeps F w w') (hf : ∀ b, footR v R b → ¬ F b) : BV w' B v R :=
  ⟨hk.own h.row (fun g hg => hf g (.inl hg)), fun i hi => (h.ops i hi).keeps hk (fun b hb => hf b (.inr ⟨i, hi, hb⟩))⟩
theorem BV.ops_far {w : World} {B : Nat} {v : Value} {R : List RB} (h : BV w B v R) (i : Nat) (hi : i < R.length) : ∀ b, footO R[i].v R[i].P b → v.ownBlock ≠ some b := fun b hb => by
  rcases hb with e | ⟨m, hm, e⟩
  · exact typ_ne (h.ops i hi).row h.row (by decide) b e
  · exact typ_ne ((h.ops i hi).data m hm) h.row (by decide) b e
theorem apartR.foot {w : World} {B : Nat} {v : Value} {R : List RB} (ha : apartR R) (h : BV w B v R) (i j : Nat) (hi : i < R.length) (hj : j < R.length) (hn : i ≠ j) : ∀ b, footO R[i].v R[i].P b → ¬ footO R[j].v R[j].P b := fun b hb hb' => by
  rcases hb with e | ⟨m, hm, e⟩ <;> rcases hb' with e' | ⟨n, hn', e'⟩
  · exact ha.rows i j hi hj hn b e e'
  · exact typ_ne ((h.ops j hj).data n hn') (h.ops i hi).row (by decide) b e' e
  · exact typ_ne ((h.ops i hi).data m hm) (h.ops j hj).row (by decide) b e e'
  · exact ha.data i j hi hj hn m n hm hn' b e e'
def marksR : Nat → List RB → List RB
  | _, [] => []
  | q, r :: s => ⟨(q : Int), r.v, marksO (q + 1) r.P⟩ :: marksR (endO (q + 1) r.P) s
def endR : Nat → List RB → Nat
  | q, [] => q
  | q, r :: s => endR (endO (q + 1) r.P) s
theorem marksR_len : ∀ (R : List RB) (q : Nat), (marksR q R).length = R.length
  | [], _ => rfl
  | r :: s, q => by simp [marksR, marksR_len s]
theorem marksR_snoc : ∀ (R : List RB) (x : RB) (q : Nat), marksR q (R ++ [x]) = marksR q R ++ [⟨(endR q R : Nat), x.v, marksO (endR q R + 1) x.P⟩] ∧ endR q (R ++ [x]) = endO (endR q R + 1) x.P
  | [], x, q => ⟨rfl, rfl⟩
  | y :: r, x, q => by
    obtain ⟨h1, h2⟩ := marksR_snoc r x (endO (q + 1) y.P)
    exact ⟨by simp [marksR, endR, h1], by simpa [endR] using h2⟩
theorem marksR_v : ∀ (R : List RB) (q i : Nat) (h : i < R.length), ((marksR q R)[i]'(by rw [marksR_len]; exact h)).v = R[i].v ∧ ((marksR q R)[i]'(by rw [marksR_len]; exact h)).P.map Prod.snd = R[i].P.map Prod.snd
  | [], _, i, h => absurd h (Nat.not_lt_zero i)
  | r :: s, q, 0, _ => ⟨rfl, marksO_snd _ _⟩
  | r :: s, q, i + 1, h => marksR_v s (endO (q + 1) r.P) i (by simpa using h)
def smallR (R : List RB) : Prop := R.length ≤ 1048576 ∧ ∀ r ∈ R, r.P.length ≤ 1048576 ∧ ∀ x ∈ r.P, x.1.data.length ≤ 1048576
theorem endR_le : ∀ (R : List RB) (q : Nat), (∀ r ∈ R, r.P.length ≤ 1048576 ∧ ∀ x ∈ r.P, x.1.data.length ≤ 1048576) → q ≤ endR q R ∧ endR q R ≤ q + R.length * 4398052802561
  | [], q, _ => by simp [endR]
  | r :: s, q, h => by
    obtain ⟨h1, h2⟩ := h r (by simp)
    have h3 := endO_le r.P (q + 1) h2
    have h4 := endR_le s (endO (q + 1) r.P) (fun x hx => h x (by simp [hx]))
    have h5 : r.P.length * 4194310 ≤ 1048576 * 4194310 := Nat.mul_le_mul_right _ h1
    simp only [endR, List.length_cons, Nat.add_mul]
    omega
def midR (q : Nat) (R : List RB) (j : Nat) : List RB := marksR q (R.take j) ++ R.drop j
theorem midR_len (q : Nat) (R : List RB) (j : Nat) : (midR q R j).length = R.length := by
  unfold midR; rw [List.length_append, marksR_len, ← List.length_append, List.take_append_drop]
theorem midR_at (q : Nat) (R : List RB) (j : Nat) (hj : j < R.length) : (midR q R j)[j]'(by rw [midR_len]; exact hj) = R[j] := by
  have hl : (marksR q (R.take j)).length = j := by rw [marksR_len, List.length_take]; omega
  unfold midR
  rw [List.getElem_append_right (by omega)]
  simp [hl]
theorem midR_v (q : Nat) (R : List RB) (j i : Nat) (hi : i < R.length) : ((midR q R j)[i]'(by rw [midR_len]; exact hi)).v = R[i].v ∧ ((midR q R j)[i]'(by rw [midR_len]; exact hi)).P.map Prod.snd = R[i].P.map Prod.snd := by
  have hl : (marksR q (R.take j)).length = (R.take j).length := marksR_len _ _
  unfold midR
  by_cases h : i < (R.take j).length
  · have := marksR_v (R.take j) q i h
    rw [List.getElem_append_left (by rw [hl]; exact h)]
    rw [List.getElem_take] at this
    exact this
  · rw [List.getElem_append_right (by rw [hl]; omega)]
    rw [List.length_take] at h hl
    have e : j + (i - (marksR q (R.take j)).length) = i := by rw [hl]; omega
    rw [List.getElem_drop]
    simp only [e]
    exact ⟨trivial, trivial⟩
theorem midR_next (q : Nat) (R : List RB) (j : Nat) (hj : j < R.length) : (midR q R j).set j ⟨((endR q (R.take j) : Nat) : Int), R[j].v, marksO (endR q (R.take j) + 1) R[j].P⟩ = midR q R (j + 1) ∧ endR q (R.take (j + 1)) = endO (endR q (R.take j) + 1) R[j].P := by
  have hl : (marksR q (R.take j)).length = j := by rw [marksR_len, List.length_take]; omega
  have ht : R.take (j + 1) = R.take j ++ [R[j]] := by rw [List.take_add_one, List.getElem?_eq_getElem hj]; rfl
  obtain ⟨h1, h2⟩ := marksR_snoc (R.take j) R[j] q
  refine ⟨?_, by rw [ht, h2]⟩
  unfold midR
  have hd : R.drop j = R[j] :: R.drop (j + 1) := List.drop_eq_getElem_cons hj
  rw [ht, h1, List.set_append_right _ _ (by omega), hl, Nat.sub_self, hd, List.append_assoc]
  rfl
theorem foot_same {v : Value} {P P' : List (Opr × Value)} (h : P'.map Prod.snd = P.map Prod.snd) {b : Nat} (hb : footO v P' b) : footO v P b := by
  rcases hb with e | ⟨i, hi, e⟩
  · exact .inl e
  · have hl : P'.length = P.length := by have := congrArg List.length h; simpa using this
    have hi' : i < P.length := by omega
    have h1 := congrArg (fun L => L[i]?) h
    simp only [List.getElem?_map] at h1
    rw [List.getElem?_eq_getElem hi, List.getElem?_eq_getElem hi'] at h1
    simp only [Option.map_some, Option.some.injEq] at h1
    exact .inr ⟨i, hi', by rw [← h1]; exact e⟩
set_option maxRecDepth 100000 in
set_option maxHeartbeats 4000000 in
theorem markBls_some (R : List RB) (B g cap : Nat) (w : World) (hz : smallR R) (ho : BV w B (.slice (some ⟨g, 0, none⟩) R.length cap) R) (ha : apartR R) :
    Calls Tryz.prog 22 #[.slice (some ⟨g, 0, none⟩) R.length cap, .int .i64 1] w fun e w' => e = .returned (.int .i64 ((endR 1 R : Nat) : Int)) ∧ BV w' B (.slice (some ⟨g, 0, none⟩) R.length cap) (marksR 1 R) ∧ Keeps (footR (.slice (some ⟨g, 0, none⟩) R.length cap) R) w w' := by
  have hl := hz.1
  have HD : Hid (∀ r ∈ R, r.P.length ≤ 1048576 ∧ ∀ x ∈ r.P, x.1.data.length ≤ 1048576) := hz.2
  have HA : Hid (apartR R) := ha
  have H0 : Hid (BV w B (.slice (some ⟨g, 0, none⟩) R.length cap) (midR 1 R 0) ∧ Keeps (footR (.slice (some ⟨g, 0, none⟩) R.length cap) R) w w) := ⟨by unfold midR; exact ho, Keeps.refl _ _⟩
  have HFg : Hid (footR (.slice (some ⟨g, 0, none⟩) R.length cap) R g) := .inl rfl
  have HOv : Hid (BV w B (.slice (some ⟨g, 0, none⟩) R.length cap) R) := ho
  clear ho hz ha
  go_enter Tryz.func22, Tryz.ntmps22
  go_wp2_with fail
  go_loopw [1, 5] (fun v i wr => ∃ j q : Nat, j ≤ R.length ∧ i = .int .i64 (j : Int) ∧ v = .int .i64 (q : Int) ∧ Hid (q = endR 1 (R.take j)) ∧ Hid (BV wr B (.slice (some ⟨g, 0, none⟩) R.length cap) (midR 1 R j) ∧ Keeps (footR (.slice (some ⟨g, 0, none⟩) R.length cap) R) w wr)) (fun _ i _ => R.length - (RowKit.intOf i).toNat)
  case atStart => exact ⟨0, 1, Nat.zero_le _, rfl, rfl, rfl, H0.out⟩
  case round =>
    obtain ⟨j, q, hj, rfl, rfl, HQ, HX⟩ := hrel
    have hqb : 1 ≤ q ∧ q ≤ 4615000000000000000 := by
      have h1 := endR_le (R.take j) 1 (fun x hx => HD.out x (List.mem_of_mem_take hx))
      have h2 : (R.take j).length ≤ 1048576 := by rw [List.length_take]; omega
      have h3 := HQ.out
      have h4 : (R.take j).length * 4398052802561 ≤ 1048576 * 4398052802561 := Nat.mul_le_mul_right _ h2
      omega
    obtain ⟨hq1, hq2⟩ := hqb
    by_cases hlt : j < R.length
    · have hMl : (midR 1 R j).length = R.length := midR_len _ _ _
      have hMj := midR_at 1 R j hlt
      obtain ⟨hov, hke⟩ := HX.out
      obtain ⟨M, hM⟩ : ∃ M, M = midR 1 R j := ⟨_, rfl⟩
      have hjM : j < M.length := by rw [hM, hMl]; exact hlt
      have hMj' : M[j] = R[j] := by subst hM; exact hMj
      have HML : Hid (M.length = R.length) := by subst hM; exact hMl
      have HMn : Hid (M.set j ⟨(q : Int), R[j].v, marksO (q + 1) R[j].P⟩ = midR 1 R (j + 1) ∧ endR 1 (R.take (j + 1)) = endO (q + 1) R[j].P) := by
        show _ ∧ _
        rw [hM, HQ.out]; exact midR_next 1 R j hlt
      have HMv : Hid (∀ (i : Nat) (hi : i < M.length) (hiR : i < R.length), M[i].v = R[i].v ∧ M[i].P.map Prod.snd = R[i].P.map Prod.snd) := fun i hi hiR => by subst hM; exact midR_v 1 R j i hiR
      have hrow : wr.ownsRow B 85 2 (.slice (some ⟨g, 0, none⟩) R.length cap) R.length (cellsR M) := by have := hov.row; rw [← hM, HML.out] at this; exact this
      have HOps : Hid (∀ (i : Nat) (h : i < M.length), OV wr B M[i].v M[i].P) := fun i h => by subst hM; exact hov.ops i h
      have HKe : Hid (Keeps (footR (.slice (some ⟨g, 0, none⟩) R.length cap) R) w wr) := hke
      have HRow : Hid (wr.ownsRow B 85 2 (.slice (some ⟨g, 0, none⟩) R.length cap) R.length (cellsR M)) := hrow
      have hcl : (cellsR M).length = R.length * 2 := by rw [cellsR_length, HML.out]
      obtain ⟨x0, e0⟩ := own_cell hrow (j * 2) (by omega)
      have ha : ∀ i, (⟨g, 0, none⟩ : Addr).add i = ⟨g, i, none⟩ := fun i => by unfold Addr.add; split <;> simp_all
      have hc1 := (cellsR_at M j hjM).2
      rw [hMj'] at hc1
      have e1 : wr.cell? ⟨g, j * 2 + 1, none⟩ = some R[j].v := by rw [← ha]; exact hrow.cells (g := g) rfl _ _ hc1
      have ff : ∀ i, wr.frozen? ⟨g, i, none⟩ = false := own_frozen hrow
      have hopj := HOps.out j hjM
      rw [hMj'] at hopj
      obtain ⟨ao, cj, hvj⟩ := own_form hopj.row
      rw [hvj] at e1
      have hfar : ∀ (i : Nat) (h : i < M.length) (b : Nat), footO M[i].v M[i].P b → b ≠ g := fun i h b hb e => by
        subst e
        have hbv : BV wr B (.slice (some ⟨b, 0, none⟩) R.length cap) M := by rw [hM]; exact hov
        exact hbv.ops_far i h b hb rfl
      have hset0 : ∀ (i : Nat) (h : i < M.length) (u : Value), OV (wr.setCell ⟨g, j * 2, none⟩ u) B M[i].v M[i].P := fun i h u =>
        ⟨own_set' (HOps.out i h).row (fun b hb => hfar i h b (.inl hb)) u, fun m hm => own_set' ((HOps.out i h).data m hm) (fun b hb => hfar i h b (.inr ⟨m, hm, hb⟩)) u⟩
      have HM1 : Hid (Calls Tryz.prog 58 #[.slice ao R[j].P.length cj, .int .i64 ((q : Int) + 1)] (wr.setCell ⟨g, j * 2, none⟩ (.int .i64 (q : Int))) fun e w' => e = .returned (.int .i64 ((endO (q + 1) R[j].P : Nat) : Int)) ∧ OV w' B R[j].v (marksO (q + 1) R[j].P) ∧ Keeps (footO R[j].v R[j].P) (wr.setCell ⟨g, j * 2, none⟩ (.int .i64 (q : Int))) w') := by
        have h5 := hset0 j hjM (.int .i64 (q : Int))
        rw [hMj'] at h5
        have h6 := HD.out R[j] (List.getElem_mem hlt)
        have := markOps_any R[j].P B (q + 1) R[j].v (wr.setCell ⟨g, j * 2, none⟩ (.int .i64 (q : Int))) (by omega) (by omega) h6.1 h6.2 h5 (HA.out.each j hlt)
        have e : ((q + 1 : Nat) : Int) = (q : Int) + 1 := by omega
        rw [e] at this
        rw [← hvj]
        exact this
      have HZ : Hid (∀ w' : World, OV w' B R[j].v (marksO (q + 1) R[j].P) → Keeps (footO R[j].v R[j].P) (wr.setCell ⟨g, j * 2, none⟩ (.int .i64 (q : Int))) w' → BV w' B (.slice (some ⟨g, 0, none⟩) R.length cap) (midR 1 R (j + 1)) ∧ Keeps (footR (.slice (some ⟨g, 0, none⟩) R.length cap) R) w w') := fun w' hn hk => by
        have hgf : ¬ footO R[j].v R[j].P g := fun hb => hfar j hjM g (by rw [hMj']; exact hb) rfl
        have hrow2 := hk.own (own_put HRow.out (j * 2) (.int .i64 (q : Int))) (fun g' hg' => by
          have h7 : g = g' := (by simpa [Value.ownBlock] using hg')
          rw [← h7]; exact hgf)
        have hset := cellsR_set M j hjM (q : Int) (marksO (q + 1) R[j].P)
        rw [hMj'] at hset
        rw [hset] at hrow2
        refine ⟨?_, (HKe.out.set HFg.out (j * 2) _).trans (hk.mono (fun b hb => .inr ⟨j, hlt, hb⟩))⟩
        rw [← HMn.out.1]
        refine ⟨by rw [List.length_set, HML.out]; exact hrow2, fun i hi => ?_⟩
        rw [List.length_set] at hi
        by_cases e : j = i
        · subst e
          rw [List.getElem_set_self]; exact hn
        · rw [List.getElem_set_ne e]
          have hiR : i < R.length := by rw [← HML.out]; exact hi
          refine (hset0 i hi _).keeps hk (fun b hb hb' => ?_)
          have h1 := HMv.out i hi hiR
          have hb2 : footO R[i].v R[i].P b := by rw [← h1.1]; exact foot_same h1.2 hb
          exact HA.out.foot HOv.out i j hiR hlt (fun e3 => e e3.symm) b hb2 hb'
      clear hov hke hM hMj hMj' hrow HX hcl hc1 hopj ha hset0 hfar hMl hjM hvj
      go_wp2_with fail
      refine HM1.out.mono ?_
      rintro e w2 ⟨rfl, hn, hk⟩
      have HZ2 : Hid (BV w2 B (.slice (some ⟨g, 0, none⟩) R.length cap) (midR 1 R (j + 1)) ∧ Keeps (footR (.slice (some ⟨g, 0, none⟩) R.length cap) R) w w2) := HZ.out w2 hn hk
      clear hn hk HZ HM1 e0 e1 ff
      go_wp2
      exact ⟨⟨j + 1, endO (q + 1) R[j].P, by omega, by go_num, rfl, HMn.out.2.symm, HZ2.out⟩, by simp [RowKit.intOf]; omega⟩
    · have hjl : j = R.length := by omega
      have HE : Hid (q = endR 1 R) := by have := HQ.out; rw [hjl, List.take_length] at this; exact this
      have HY : Hid (BV wr B (.slice (some ⟨g, 0, none⟩) R.length cap) (marksR 1 R) ∧ Keeps (footR (.slice (some ⟨g, 0, none⟩) R.length cap) R) w wr) := by
        have := HX.out
        rw [hjl] at this
        unfold midR at this
        rw [List.take_length, List.drop_length, List.append_nil] at this
        exact this
      clear HX HQ hjl
      go_wp2
      go_ret
      exact ⟨by rw [HE.out]; rfl, HY.out⟩
theorem BV.at {w : World} {B g cap : Nat} {R : List RB} (h : BV w B (.slice (some ⟨g, 0, none⟩) R.length cap) R) (k : Nat) (hk : k < R.length) : w.cell? ⟨g, k * 2, none⟩ = some (.int .i64 R[k].args) ∧ ∃ ao cj, w.cell? ⟨g, k * 2 + 1, none⟩ = some (.slice ao R[k].P.length cj) ∧ R[k].v = .slice ao R[k].P.length cj := by
  have ha : ∀ j, (⟨g, 0, none⟩ : Addr).add j = ⟨g, j, none⟩ := fun j => by unfold Addr.add; split <;> simp_all
  have hc := h.row.cells (g := g) rfl
  obtain ⟨c0, c1⟩ := cellsR_at R k hk
  obtain ⟨ao, cj, hv⟩ := own_form (h.ops k hk).row
  rw [hv] at c1
  exact ⟨by rw [← ha]; exact hc _ _ c0, ao, cj, by rw [← ha]; exact hc _ _ c1, hv⟩
theorem marksR_at : ∀ (R : List RB) (q j : Nat) (hj : j < R.length), (marksR q R)[j]'(by rw [marksR_len]; exact hj) = ⟨((endR q (R.take j) : Nat) : Int), R[j].v, marksO (endR q (R.take j) + 1) R[j].P⟩
  | [], _, j, h => absurd h (Nat.not_lt_zero j)
  | r :: s, q, 0, _ => rfl
  | r :: s, q, j + 1, h => marksR_at s (endO (q + 1) r.P) j (by simpa using h)
set_option maxRecDepth 100000 in
set_option maxHeartbeats 4000000 in
theorem heldBls_some (R : List RB) (B g cap : Nat) (w : World) (hz : smallR R) (ho : BV w B (.slice (some ⟨g, 0, none⟩) R.length cap) (marksR 1 R)) :
    Calls Tryz.prog 59 #[.slice (some ⟨g, 0, none⟩) R.length cap, .int .i64 1] w fun e w' => e = .returned (.int .i64 ((endR 1 R : Nat) : Int)) ∧ Below w.heap.size w w' := by
  have hl := hz.1
  have HD : Hid (∀ r ∈ R, r.P.length ≤ 1048576 ∧ ∀ x ∈ r.P, x.1.data.length ≤ 1048576) := hz.2
  have HO : Hid (BV w B (.slice (some ⟨g, 0, none⟩) (marksR 1 R).length cap) (marksR 1 R)) := by rw [marksR_len]; exact ho
  clear ho hz
  go_enter Tryz.func59, Tryz.ntmps59
  go_wp2_with fail
  go_loopw [1, 5] (fun v i wr => ∃ j q : Nat, j ≤ R.length ∧ i = .int .i64 (j : Int) ∧ v = .int .i64 (q : Int) ∧ Hid (q = endR 1 (R.take j)) ∧ Below w.heap.size w wr) (fun _ i _ => R.length - (RowKit.intOf i).toNat)
  case atStart => exact ⟨0, 1, Nat.zero_le _, rfl, rfl, rfl, Below.refl _ _⟩
  case round =>
    obtain ⟨j, q, hj, rfl, rfl, HQ, hb⟩ := hrel
    have HB : Hid (Below w.heap.size w wr) := hb
    clear hb
    have hqb : 1 ≤ q ∧ q ≤ 4615000000000000000 := by
      have h1 := endR_le (R.take j) 1 (fun x hx => HD.out x (List.mem_of_mem_take hx))
      have h2 : (R.take j).length ≤ 1048576 := by rw [List.length_take]; omega
      have h3 := HQ.out
      have h4 : (R.take j).length * 4398052802561 ≤ 1048576 * 4398052802561 := Nat.mul_le_mul_right _ h2
      omega
    obtain ⟨hq1, hq2⟩ := hqb
    by_cases hlt : j < R.length
    · have hjM : j < (marksR 1 R).length := by rw [marksR_len]; exact hlt
      have hbv := HO.out.below HB.out
      obtain ⟨c0, ao, cj, c1, hvj⟩ := hbv.at j hjM
      have hop := hbv.ops j hjM
      rw [marksR_at R 1 j hlt, ← HQ.out] at c0 c1 hvj hop
      have hml : (marksO (q + 1) R[j].P).length = R[j].P.length := marksO_len _ _
      simp only [hml] at c0 c1 hvj hop
      have h6 := HD.out R[j] (List.getElem_mem hlt)
      have hee := endO_le R[j].P (q + 1) h6.2
      have h7 : R[j].P.length * 4194310 ≤ 1048576 * 4194310 := Nat.mul_le_mul_right _ h6.1
      obtain ⟨E, hE⟩ : ∃ E, E = endO (q + 1) R[j].P := ⟨_, rfl⟩
      rw [← hE] at hee
      have HN : Hid (endR 1 (R.take (j + 1)) = E) := by
        have := (midR_next 1 R j hlt).2
        rw [← HQ.out, ← hE] at this; exact this
      have HH : Hid (Calls Tryz.prog 94 #[.slice ao R[j].P.length cj, .int .i64 ((q : Int) + 1)] wr fun e w' => e = .returned (.int .i64 (E : Int)) ∧ Below wr.heap.size wr w') := by
        have := heldOps_any R[j].P B (q + 1) R[j].v wr (by omega) (by omega) h6.1 h6.2 hop
        have e : ((q + 1 : Nat) : Int) = (q : Int) + 1 := by omega
        rw [e, hvj] at this
        rw [hE]
        exact this
      have hE2 : 1 ≤ E ∧ E ≤ 4620000000000000000 := by omega
      obtain ⟨hE3, hE4⟩ := hE2
      clear hbv hop hvj h6 hml hjM hE hee h7
      go_wp2_with fail
      refine HH.out.mono ?_
      rintro e w2 ⟨rfl, b2⟩
      have HB2 : Hid (Below w.heap.size w w2) := HB.out.trans (b2.mono HB.out.size)
      clear b2 c0 c1
      go_wp2
      exact ⟨⟨j + 1, E, by omega, by go_num, rfl, HN.out.symm, HB2.out⟩, by simp [RowKit.intOf]; omega⟩
    · have hjl : j = R.length := by omega
      have HE : Hid (q = endR 1 R) := by have := HQ.out; rw [hjl, List.take_length] at this; exact this
      clear HQ hjl
      go_wp2
      go_ret
      exact ⟨by rw [HE.out]; rfl, HB.out⟩
theorem BV.none0 {w : World} {B : Nat} {v : Value} {R : List RB} (h : BV w B v R) : (v = .slice none 0 0 ∧ R = []) ∨ ∃ g cap, v = .slice (some ⟨g, 0, none⟩) R.length cap := by
  rcases h.row.2 with ⟨e, hn⟩ | ⟨g, cap, cur, e, _⟩
  · exact .inl ⟨e, List.length_eq_zero_iff.1 hn⟩
  · exact .inr ⟨g, cap, e⟩
theorem markBls_any (R : List RB) (B : Nat) (v : Value) (w : World) (hz : smallR R) (ho : BV w B v R) (ha : apartR R) :
    Calls Tryz.prog 22 #[v, .int .i64 1] w fun e w' => e = .returned (.int .i64 ((endR 1 R : Nat) : Int)) ∧ BV w' B v (marksR 1 R) ∧ Keeps (footR v R) w w' := by
  rcases ho.none0 with ⟨rfl, rfl⟩ | ⟨g, cap, rfl⟩
  · have HO : Hid (BV w B (.slice none 0 0) []) := ho
    clear ho
    go_enter Tryz.func22, Tryz.ntmps22
    go_wp2_with fail
    go_loop [1, 5] (fun v i => v = .int .i64 1 ∧ i = .int .i64 0) (fun _ _ => 0)
    case atStart => exact ⟨rfl, rfl⟩
    case round =>
      obtain ⟨rfl, rfl⟩ := hrel
      go_wp2
      go_ret
      exact ⟨rfl, HO.out, Keeps.refl _ _⟩
  · exact markBls_some R B g cap w hz ho ha
theorem heldBls_any (R : List RB) (B : Nat) (v : Value) (w : World) (hz : smallR R) (ho : BV w B v (marksR 1 R)) :
    Calls Tryz.prog 59 #[v, .int .i64 1] w fun e w' => e = .returned (.int .i64 ((endR 1 R : Nat) : Int)) ∧ Below w.heap.size w w' := by
  rcases ho.none0 with ⟨rfl, e⟩ | ⟨g, cap, rfl⟩
  · have hP : R = [] := List.length_eq_zero_iff.1 (by rw [← marksR_len R 1, e]; rfl)
    subst hP
    clear ho e
    go_enter Tryz.func59, Tryz.ntmps59
    go_wp2_with fail
    go_loop [1, 5] (fun v i => v = .int .i64 1 ∧ i = .int .i64 0) (fun _ _ => 0)
    case atStart => exact ⟨rfl, rfl⟩
    case round =>
      obtain ⟨rfl, rfl⟩ := hrel
      go_wp2
      go_ret
      exact ⟨rfl, Below.refl _ _⟩
  · rw [marksR_len] at ho ⊢
    exact heldBls_some R B g cap w hz ho
def RowOg (w : World) (B g : Nat) (l : List Opr) : Prop := ∀ (k : Nat) (h : k < l.length), w.cell? ⟨g, k * 7, none⟩ = some (.int .i64 l[k].kind) ∧ w.cell? ⟨g, k * 7 + 1, none⟩ = some (.int .i64 l[k].a) ∧ w.cell? ⟨g, k * 7 + 2, none⟩ = some (.int .i64 l[k].b) ∧ w.cell? ⟨g, k * 7 + 3, none⟩ = some (.int .i64 l[k].c) ∧ w.cell? ⟨g, k * 7 + 4, none⟩ = some (.int .i64 l[k].d) ∧ w.cell? ⟨g, k * 7 + 5, none⟩ = some (.string l[k].name) ∧
  ∃ ao cj, w.cell? ⟨g, k * 7 + 6, none⟩ = some (.slice ao l[k].data.length cj) ∧ w.ownsRow B 196 4 (.slice ao l[k].data.length cj) l[k].data.length (cellsD l[k].data)
theorem RowOg.below {w w' : World} {B g : Nat} {l : List Opr} (h : RowOg w B g l) (hb : Below w.heap.size w w') : RowOg w' B g l := fun k hk => by
  obtain ⟨c0, c1, c2, c3, c4, c5, ao, cj, c6, ho⟩ := h k hk
  exact ⟨cell_keep hb c0, cell_keep hb c1, cell_keep hb c2, cell_keep hb c3, cell_keep hb c4, cell_keep hb c5, ao, cj, cell_keep hb c6, own_below ho hb⟩
def SeeO (w : World) (v : Value) (l : List Opr) : Prop := ∃ ao c, v = .slice ao l.length c ∧ (0 < l.length → ∃ B g, ao = some ⟨g, 0, none⟩ ∧ RowOg w B g l)
theorem SeeO.below {w w' : World} {v : Value} {l : List Opr} (h : SeeO w v l) (hb : Below w.heap.size w w') : SeeO w' v l := by
  obtain ⟨ao, c, h1, h2⟩ := h
  exact ⟨ao, c, h1, fun hl => by obtain ⟨B, g, e, hr⟩ := h2 hl; exact ⟨B, g, e, hr.below hb⟩⟩
def RowBg (w : World) (g : Nat) (l : List Blk) : Prop := ∀ (k : Nat) (h : k < l.length), w.cell? ⟨g, k * 2, none⟩ = some (.int .i64 l[k].args) ∧ ∃ v, w.cell? ⟨g, k * 2 + 1, none⟩ = some v ∧ SeeO w v l[k].ops
theorem RowBg.below {w w' : World} {g : Nat} {l : List Blk} (h : RowBg w g l) (hb : Below w.heap.size w w') : RowBg w' g l := fun k hk => by
  obtain ⟨c0, v, c1, hs⟩ := h k hk
  exact ⟨cell_keep hb c0, v, cell_keep hb c1, hs.below hb⟩
def SeeB (w : World) (v : Value) (l : List Blk) : Prop := ∃ ao c, v = .slice ao l.length c ∧ (0 < l.length → ∃ g, ao = some ⟨g, 0, none⟩ ∧ RowBg w g l)
theorem SeeB.below {w w' : World} {v : Value} {l : List Blk} (h : SeeB w v l) (hb : Below w.heap.size w w') : SeeB w' v l := by
  obtain ⟨ao, c, h1, h2⟩ := h
  exact ⟨ao, c, h1, fun hl => by obtain ⟨g, e, hr⟩ := h2 hl; exact ⟨g, e, hr.below hb⟩⟩
theorem OV.see {w : World} {B : Nat} {v : Value} {P : List (Opr × Value)} (h : OV w B v P) : SeeO w v (P.map Prod.fst) := by
  rcases h.none0 with ⟨rfl, rfl⟩ | ⟨g, cap, rfl⟩
  · exact ⟨none, 0, rfl, fun hl => absurd hl (Nat.lt_irrefl 0)⟩
  · refine ⟨some ⟨g, 0, none⟩, cap, by rw [List.length_map], fun _ => ⟨B, g, rfl, fun k hk => ?_⟩⟩
    rw [List.length_map] at hk
    obtain ⟨c0, c1, c2, c3, c4, c5, ao, cj, c6, -, ho⟩ := h.at k hk
    rw [List.getElem_map]
    exact ⟨c0, c1, c2, c3, c4, c5, ao, cj, c6, ho⟩
theorem BV.see {w : World} {B : Nat} {v : Value} {R : List RB} (h : BV w B v R) : SeeB w v (R.map RB.blk) := by
  rcases h.none0 with ⟨rfl, rfl⟩ | ⟨g, cap, rfl⟩
  · exact ⟨none, 0, rfl, fun hl => absurd hl (Nat.lt_irrefl 0)⟩
  · refine ⟨some ⟨g, 0, none⟩, cap, by rw [List.length_map], fun _ => ⟨g, rfl, fun k hk => ?_⟩⟩
    rw [List.length_map] at hk
    obtain ⟨c0, ao, cj, c1, hv⟩ := h.at k hk
    rw [List.getElem_map]
    refine ⟨c0, .slice ao R[k].P.length cj, c1, ?_⟩
    rw [← hv]; exact (h.ops k hk).see
theorem eqOpG (t : Opr) (a1 a2 : Option Addr) (c1 c2 b1 b2 : Nat) (w : World) (hl : t.data.length ≤ 1048576) (h1 : w.ownsRow b1 196 4 (.slice a1 t.data.length c1) t.data.length (cellsD t.data)) (h2 : w.ownsRow b2 196 4 (.slice a2 t.data.length c2) t.data.length (cellsD t.data)) :
    Calls Tryz.prog 133 #[t.val (.slice a1 t.data.length c1), t.val (.slice a2 t.data.length c2)] w fun e w' => e = .returned (.bool true) ∧ Below w.heap.size w w' := by
  have HS : Hid (∀ u, Below w.heap.size w u → Calls Tryz.prog 170 #[.slice a1 t.data.length c1, .slice a2 t.data.length c2] u fun e w' => e = .returned (.bool true) ∧ Below u.heap.size u w') := fun u hu => eqDS_same _ _ b1 b2 t.data u hl (own_below h1 hu) (own_below h2 hu)
  clear h1 h2 hl
  go_enter Tryz.func133, Tryz.ntmps133
  go_wp2_with fail
  refine (HS.out _ (by repeat (first | exact Below.refl _ _ | refine Below.alloc ?_ (by simp <;> omega) _ | refine Below.drew ?_))).mono ?_
  rintro e w1 ⟨rfl, b1⟩
  have HB : Hid (Below w.heap.size w w1) := Below.trans (by repeat (first | exact Below.refl _ _ | refine Below.alloc ?_ (by simp <;> omega) _ | refine Below.drew ?_)) (b1.mono (by simp <;> omega))
  clear b1
  go_wp2
  go_ret
  exact ⟨rfl, HB.out⟩
set_option maxRecDepth 100000 in
set_option maxHeartbeats 2000000 in
theorem eqOpsG_some (g1 g2 c1 c2 B1 B2 : Nat) (l : List Opr) (w : World) (hl : l.length ≤ 1048576) (hz : ∀ (k : Nat) (h : k < l.length), l[k].data.length ≤ 1048576) (h1 : RowOg w B1 g1 l) (h2 : RowOg w B2 g2 l) :
    Calls Tryz.prog 91 #[.slice (some ⟨g1, 0, none⟩) l.length c1, .slice (some ⟨g2, 0, none⟩) l.length c2] w fun e w' => e = .returned (.bool true) ∧ Below w.heap.size w w' := by
  have H1 : Hid (RowOg w B1 g1 l) := h1
  have H2 : Hid (RowOg w B2 g2 l) := h2
  have HZ : Hid (∀ (k : Nat) (h : k < l.length), l[k].data.length ≤ 1048576) := hz
  clear h1 h2 hz
  go_enter Tryz.func91, Tryz.ntmps91
  go_wp2_with fail
  go_loopw [5] (fun i wr => ∃ k : Nat, k ≤ l.length ∧ i = .int .i64 (k : Int) ∧ Below w.heap.size w wr) (fun i _ => l.length - (RowKit.intOf i).toNat)
  case atStart => exact ⟨0, Nat.zero_le _, rfl, Below.refl _ _⟩
  case round =>
    obtain ⟨k, hk, rfl, hb⟩ := hrel
    have HB : Hid (Below w.heap.size w wr) := hb
    clear hb
    by_cases hlt : k < l.length
    · obtain ⟨p0, p1, p2, p3, p4, p5, aa, ca, pz, oa⟩ := H1.out.below HB.out k hlt
      obtain ⟨q0, q1, q2, q3, q4, q5, ab, cb, qz, ob⟩ := H2.out.below HB.out k hlt
      have HT : Hid (∀ p : BW wr, Calls Tryz.prog 133 #[(l[k]'hlt).val (.slice aa (l[k]'hlt).data.length ca), (l[k]'hlt).val (.slice ab (l[k]'hlt).data.length cb)] p.x fun e w' => e = .returned (.bool true) ∧ Below p.x.heap.size p.x w') := fun p => eqOpG _ _ _ _ _ B1 B2 p.x (HZ.out k hlt) (own_below oa p.h) (own_below ob p.h)
      have a0 : ∀ p : BW wr, p.x.cell? ⟨g1, k * 7, none⟩ = some (.int .i64 (l[k]'hlt).kind) := fun p => p.cell p0
      have a1 : ∀ p : BW wr, p.x.cell? ⟨g1, k * 7 + 1, none⟩ = some (.int .i64 (l[k]'hlt).a) := fun p => p.cell p1
      have a2 : ∀ p : BW wr, p.x.cell? ⟨g1, k * 7 + 2, none⟩ = some (.int .i64 (l[k]'hlt).b) := fun p => p.cell p2
      have a3 : ∀ p : BW wr, p.x.cell? ⟨g1, k * 7 + 3, none⟩ = some (.int .i64 (l[k]'hlt).c) := fun p => p.cell p3
      have a4 : ∀ p : BW wr, p.x.cell? ⟨g1, k * 7 + 4, none⟩ = some (.int .i64 (l[k]'hlt).d) := fun p => p.cell p4
      have a5 : ∀ p : BW wr, p.x.cell? ⟨g1, k * 7 + 5, none⟩ = some (.string (l[k]'hlt).name) := fun p => p.cell p5
      have az : ∀ p : BW wr, p.x.cell? ⟨g1, k * 7 + 6, none⟩ = some (.slice aa (l[k]'hlt).data.length ca) := fun p => p.cell pz
      have d0 : ∀ p : BW wr, p.x.cell? ⟨g2, k * 7, none⟩ = some (.int .i64 (l[k]'hlt).kind) := fun p => p.cell q0
      have d1 : ∀ p : BW wr, p.x.cell? ⟨g2, k * 7 + 1, none⟩ = some (.int .i64 (l[k]'hlt).a) := fun p => p.cell q1
      have d2 : ∀ p : BW wr, p.x.cell? ⟨g2, k * 7 + 2, none⟩ = some (.int .i64 (l[k]'hlt).b) := fun p => p.cell q2
      have d3 : ∀ p : BW wr, p.x.cell? ⟨g2, k * 7 + 3, none⟩ = some (.int .i64 (l[k]'hlt).c) := fun p => p.cell q3
      have d4 : ∀ p : BW wr, p.x.cell? ⟨g2, k * 7 + 4, none⟩ = some (.int .i64 (l[k]'hlt).d) := fun p => p.cell q4
      have d5 : ∀ p : BW wr, p.x.cell? ⟨g2, k * 7 + 5, none⟩ = some (.string (l[k]'hlt).name) := fun p => p.cell q5
      have dz : ∀ p : BW wr, p.x.cell? ⟨g2, k * 7 + 6, none⟩ = some (.slice ab (l[k]'hlt).data.length cb) := fun p => p.cell qz
      have hne := bw_some wr
      clear p0 p1 p2 p3 p4 p5 pz q0 q1 q2 q3 q4 q5 qz oa ob
      go_wp2_with fail
      refine wp_region_below (by kernel_rfl) (by kernel_rfl) ?_
      repeat (go_big_quiet_step ((go_at_call 133; exact calls_bw (HT.out _))))
      refine wpQuiet_nil ?_
      intro wq hw'
      obtain ⟨⟨_, bq⟩, rfl⟩ := hw'
      have HB2 : Hid _ := HB.out.trans (bq.mono HB.out.size)
      clear bq hne
      go_wp2
      exact ⟨⟨k + 1, by omega, by go_num, HB2.out⟩, by simp [RowKit.intOf]; omega⟩
    · go_wp2
      go_ret
      exact ⟨rfl, HB.out⟩
theorem eqOpsG_nil (a b : Option Addr) (c d : Nat) (w : World) : Calls Tryz.prog 91 #[.slice a 0 c, .slice b 0 d] w fun e w' => e = .returned (.bool true) ∧ Below w.heap.size w w' := by
  go_enter Tryz.func91, Tryz.ntmps91
  go_wp2_with fail
  go_loop [5] (fun i => i = .int .i64 0) (fun _ => 0)
  case atStart => exact rfl
  case round =>
    obtain rfl := hrel
    go_wp2
    go_ret
    exact ⟨rfl, Below.refl _ _⟩
theorem eqOpsG (v1 v2 : Value) (l : List Opr) (w : World) (hl : l.length ≤ 1048576) (hz : ∀ (k : Nat) (h : k < l.length), l[k].data.length ≤ 1048576) (h1 : SeeO w v1 l) (h2 : SeeO w v2 l) :
    Calls Tryz.prog 91 #[v1, v2] w fun e w' => e = .returned (.bool true) ∧ Below w.heap.size w w' := by
  obtain ⟨a1, c1, rfl, q1⟩ := h1
  obtain ⟨a2, c2, rfl, q2⟩ := h2
  rcases Nat.eq_zero_or_pos l.length with e | e
  · rw [e]; exact eqOpsG_nil a1 a2 c1 c2 w
  · obtain ⟨B1, g1, rfl, r1⟩ := q1 e
    obtain ⟨B2, g2, rfl, r2⟩ := q2 e
    exact eqOpsG_some g1 g2 c1 c2 B1 B2 l w hl hz r1 r2
theorem eqBlG (t : Blk) (a1 a2 : Option Addr) (c1 c2 : Nat) (w : World) (hl : t.ops.length ≤ 1048576) (hs : ∀ (k : Nat) (h : k < t.ops.length), t.ops[k].data.length ≤ 1048576) (h1 : SeeO w (.slice a1 t.ops.length c1) t.ops) (h2 : SeeO w (.slice a2 t.ops.length c2) t.ops) :
    Calls Tryz.prog 57 #[t.val (.slice a1 t.ops.length c1), t.val (.slice a2 t.ops.length c2)] w fun e w' => e = .returned (.bool true) ∧ Below w.heap.size w w' := by
  have HS : Hid (∀ u, Below w.heap.size w u → Calls Tryz.prog 91 #[.slice a1 t.ops.length c1, .slice a2 t.ops.length c2] u fun e w' => e = .returned (.bool true) ∧ Below u.heap.size u w') := fun u hu => eqOpsG _ _ t.ops u hl hs (h1.below hu) (h2.below hu)
  clear h1 h2 hl hs
  go_enter Tryz.func57, Tryz.ntmps57
  go_wp2_with fail
  refine (HS.out _ (by repeat (first | exact Below.refl _ _ | refine Below.alloc ?_ (by simp <;> omega) _ | refine Below.drew ?_))).mono ?_
  rintro e w1 ⟨rfl, b1⟩
  have HB : Hid (Below w.heap.size w w1) := Below.trans (by repeat (first | exact Below.refl _ _ | refine Below.alloc ?_ (by simp <;> omega) _ | refine Below.drew ?_)) (b1.mono (by simp <;> omega))
  clear b1
  go_wp2
  go_ret
  exact ⟨rfl, HB.out⟩
set_option maxRecDepth 100000 in
set_option maxHeartbeats 2000000 in
theorem eqBlsG_some (g1 g2 c1 c2 : Nat) (l : List Blk) (w : World) (hl : l.length ≤ 1048576) (hz : ∀ (k : Nat) (h : k < l.length), l[k].small) (h1 : RowBg w g1 l) (h2 : RowBg w g2 l) :
    Calls Tryz.prog 21 #[.slice (some ⟨g1, 0, none⟩) l.length c1, .slice (some ⟨g2, 0, none⟩) l.length c2] w fun e w' => e = .returned (.bool true) ∧ Below w.heap.size w w' := by
  have H1 : Hid (RowBg w g1 l) := h1
  have H2 : Hid (RowBg w g2 l) := h2
  have HZ : Hid (∀ (k : Nat) (h : k < l.length), l[k].small) := hz
  clear h1 h2 hz
  go_enter Tryz.func21, Tryz.ntmps21
  go_wp2_with fail
  go_loopw [5] (fun i wr => ∃ k : Nat, k ≤ l.length ∧ i = .int .i64 (k : Int) ∧ Below w.heap.size w wr) (fun i _ => l.length - (RowKit.intOf i).toNat)
  case atStart => exact ⟨0, Nat.zero_le _, rfl, Below.refl _ _⟩
  case round =>
    obtain ⟨k, hk, rfl, hb⟩ := hrel
    have HB : Hid (Below w.heap.size w wr) := hb
    clear hb
    by_cases hlt : k < l.length
    · obtain ⟨p0, va, pz, oa⟩ := H1.out.below HB.out k hlt
      obtain ⟨q0, vb, qz, ob⟩ := H2.out.below HB.out k hlt
      obtain ⟨aa, ca, rfl, -⟩ := id oa
      obtain ⟨ab, cb, rfl, -⟩ := id ob
      have HT : Hid (∀ p : BW wr, Calls Tryz.prog 57 #[(l[k]'hlt).val (.slice aa (l[k]'hlt).ops.length ca), (l[k]'hlt).val (.slice ab (l[k]'hlt).ops.length cb)] p.x fun e w' => e = .returned (.bool true) ∧ Below p.x.heap.size p.x w') := fun p => eqBlG _ _ _ _ _ p.x (HZ.out k hlt).len (fun i hi => ((HZ.out k hlt).names i hi).len) (oa.below p.h) (ob.below p.h)
      have a0 : ∀ p : BW wr, p.x.cell? ⟨g1, k * 2, none⟩ = some (.int .i64 (l[k]'hlt).args) := fun p => p.cell p0
      have az : ∀ p : BW wr, p.x.cell? ⟨g1, k * 2 + 1, none⟩ = some (.slice aa (l[k]'hlt).ops.length ca) := fun p => p.cell pz
      have d0 : ∀ p : BW wr, p.x.cell? ⟨g2, k * 2, none⟩ = some (.int .i64 (l[k]'hlt).args) := fun p => p.cell q0
      have dz : ∀ p : BW wr, p.x.cell? ⟨g2, k * 2 + 1, none⟩ = some (.slice ab (l[k]'hlt).ops.length cb) := fun p => p.cell qz
      have hne := bw_some wr
      clear p0 pz q0 qz oa ob
      go_wp2_with fail
      refine wp_region_below (by kernel_rfl) (by kernel_rfl) ?_
      repeat (go_big_quiet_step ((go_at_call 57; exact calls_bw (HT.out _))))
      refine wpQuiet_nil ?_
      intro wq hw'
      obtain ⟨⟨_, bq⟩, rfl⟩ := hw'
      have HB2 : Hid _ := HB.out.trans (bq.mono HB.out.size)
      clear bq hne
      go_wp2
      exact ⟨⟨k + 1, by omega, by go_num, HB2.out⟩, by simp [RowKit.intOf]; omega⟩
    · go_wp2
      go_ret
      exact ⟨rfl, HB.out⟩
theorem eqBlsG_nil (a b : Option Addr) (c d : Nat) (w : World) : Calls Tryz.prog 21 #[.slice a 0 c, .slice b 0 d] w fun e w' => e = .returned (.bool true) ∧ Below w.heap.size w w' := by
  go_enter Tryz.func21, Tryz.ntmps21
  go_wp2_with fail
  go_loop [5] (fun i => i = .int .i64 0) (fun _ => 0)
  case atStart => exact rfl
  case round =>
    obtain rfl := hrel
    go_wp2
    go_ret
    exact ⟨rfl, Below.refl _ _⟩
theorem eqBlsG (v1 v2 : Value) (l : List Blk) (w : World) (hl : l.length ≤ 1048576) (hz : ∀ (k : Nat) (h : k < l.length), l[k].small) (h1 : SeeB w v1 l) (h2 : SeeB w v2 l) :
    Calls Tryz.prog 21 #[v1, v2] w fun e w' => e = .returned (.bool true) ∧ Below w.heap.size w w' := by
  obtain ⟨a1, c1, rfl, q1⟩ := h1
  obtain ⟨a2, c2, rfl, q2⟩ := h2
  rcases Nat.eq_zero_or_pos l.length with e | e
  · rw [e]; exact eqBlsG_nil a1 a2 c1 c2 w
  · obtain ⟨g1, rfl, r1⟩ := q1 e
    obtain ⟨g2, rfl, r2⟩ := q2 e
    exact eqBlsG_some g1 g2 c1 c2 l w hl hz r1 r2
theorem eqCodeR_same (c : Int) (v1 v2 : Value) (l : List Blk) (w : World) (hl : l.length ≤ 1048576) (hz : ∀ (k : Nat) (h : k < l.length), l[k].small) (h1 : SeeB w v1 l) (h2 : SeeB w v2 l) :
    Calls Tryz.prog 20 #[.agg #[.int .i64 c, v1], .agg #[.int .i64 c, v2]] w fun e w' => e = .returned (.bool true) ∧ Below w.heap.size w w' := by
  have HS : Hid (∀ u, Below w.heap.size w u → Calls Tryz.prog 21 #[v1, v2] u fun e w' => e = .returned (.bool true) ∧ Below u.heap.size u w') := fun u hu => eqBlsG v1 v2 l u hl hz (h1.below hu) (h2.below hu)
  obtain ⟨a1, c1, rfl, -⟩ := h1
  obtain ⟨a2, c2, rfl, -⟩ := h2
  clear hl hz
  go_enter Tryz.func20, Tryz.ntmps20
  go_wp2_with fail
  refine (HS.out _ (by repeat (first | exact Below.refl _ _ | refine Below.alloc ?_ (by simp <;> omega) _ | refine Below.drew ?_))).mono ?_
  rintro e w1 ⟨rfl, b1⟩
  have HB : Hid (Below w.heap.size w w1) := Below.trans (by repeat (first | exact Below.refl _ _ | refine Below.alloc ?_ (by simp <;> omega) _ | refine Below.drew ?_)) (b1.mono (by simp <;> omega))
  clear b1
  go_wp2
  go_ret
  exact ⟨rfl, HB.out⟩
theorem keeps_new {F : Nat → Prop} {w w' : World} {o : Obj} (h : Keeps F (w.alloc o) w') : Keeps F w w' := ⟨h.os, h.tape, h.output, Nat.le_trans (by simp) h.size, fun k hk hn => (h.block k (by simp; omega) hn).trans (Below.heap_alloc _ _ _ hk)⟩
theorem markCodeR_any (c : Int) (R : List RB) (B : Nat) (v : Value) (w : World) (hz : smallR R) (ho : BV w B v R) (ha : apartR R) :
    Calls Tryz.prog 23 #[.agg #[.int .i64 c, v], .int .i64 1] w fun e w' => e = .returned (.int .i64 ((endR 1 R : Nat) : Int)) ∧ BV w' B v (marksR 1 R) ∧ Keeps (footR v R) w w' := by
  have HM : Hid (∀ o : Obj, Calls Tryz.prog 22 #[v, .int .i64 1] (w.alloc o) fun e w' => e = .returned (.int .i64 ((endR 1 R : Nat) : Int)) ∧ BV w' B v (marksR 1 R) ∧ Keeps (footR v R) w w') := fun o => (markBls_any R B v (w.alloc o) hz (ho.below ((Below.refl _ _).alloc (Nat.le_refl _) _)) ha).mono fun e w' ⟨h1, h2, h3⟩ => ⟨h1, h2, keeps_new h3⟩
  obtain ⟨a1, c1, rfl⟩ := own_form ho.row
  obtain ⟨E, hE⟩ : ∃ E, E = endR 1 R := ⟨_, rfl⟩
  rw [← hE] at HM ⊢
  clear ho ha hz hE
  go_enter Tryz.func23, Tryz.ntmps23
  go_wp2_with fail
  refine (HM.out _).mono ?_
  rintro e w1 ⟨rfl, h2, h3⟩
  have HW : Hid (BV w1 B (.slice a1 R.length c1) (marksR 1 R) ∧ Keeps (footR (.slice a1 R.length c1) R) w w1) := ⟨h2, h3⟩
  clear h2 h3
  go_wp2
  go_ret
  exact ⟨rfl, HW.out⟩
theorem heldCodeR_any (c : Int) (R : List RB) (B : Nat) (v : Value) (w : World) (hz : smallR R) (ho : BV w B v (marksR 1 R)) :
    Calls Tryz.prog 24 #[.agg #[.int .i64 c, v], .int .i64 1] w fun e w' => e = .returned (.int .i64 ((endR 1 R : Nat) : Int)) ∧ Below w.heap.size w w' := by
  have HM : Hid (∀ u, Below w.heap.size w u → Calls Tryz.prog 59 #[v, .int .i64 1] u fun e w' => e = .returned (.int .i64 ((endR 1 R : Nat) : Int)) ∧ Below u.heap.size u w') := fun u hu => heldBls_any R B v u hz (ho.below hu)
  obtain ⟨a1, c1, rfl⟩ := own_form ho.row
  have hee : 1 ≤ endR 1 R ∧ endR 1 R ≤ 4620000000000000000 := by
    have h1 := endR_le R 1 hz.2
    have h4 : R.length * 4398052802561 ≤ 1048576 * 4398052802561 := Nat.mul_le_mul_right _ hz.1
    omega
  obtain ⟨E, hE⟩ : ∃ E, E = endR 1 R := ⟨_, rfl⟩
  rw [← hE] at HM hee ⊢
  obtain ⟨hE1, hE2⟩ := hee
  clear ho hz hE
  go_enter Tryz.func24, Tryz.ntmps24
  go_wp2_with fail
  refine (HM.out _ ((Below.refl _ _).alloc (Nat.le_refl _) _)).mono ?_
  rintro e w1 ⟨rfl, b1⟩
  have HB : Hid (Below w.heap.size w w1) := ((Below.refl _ w).alloc (Nat.le_refl _) _).trans (b1.mono (by simp))
  clear b1
  go_wp2
  go_ret
  exact ⟨rfl, HB.out⟩
end Go.Proofs.YtoafolefecddmaaGreatDoor
