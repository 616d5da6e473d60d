/-
  The laws' mark and held at stacks in pieces: a mark is written into each item, and found there; nothing else is turned.
-/
import Derived.Test.YtdohpfckiahlcaaSgEq
namespace Go.Proofs.Ytdohpfckiahlcaa
open Go.RowKit Go.Extern.Stop Go.Stop Go.Extern Num Go.Lib

def totP (P : List (List Int × Value)) : Nat := (P.map Prod.fst).flatten.length
theorem totP_snoc (P : List (List Int × Value)) (x : List Int × Value) : totP (P ++ [x]) = totP P + x.1.length := by unfold totP; simp
def marksP : Nat → List (List Int × Value) → List (List Int × Value)
  | _, [] => []
  | q, x :: r => (marksI q x.1.length, x.2) :: marksP (q + x.1.length) r
theorem totP_cons (P : List (List Int × Value)) (x : List Int × Value) : totP (x :: P) = x.1.length + totP P := by unfold totP; simp
theorem marksP_len : ∀ (P : List (List Int × Value)) (q : Nat), (marksP q P).length = P.length
  | [], _ => rfl
  | x :: r, q => by simp [marksP, marksP_len r]
theorem marksP_snoc : ∀ (P : List (List Int × Value)) (x : List Int × Value) (q : Nat), marksP q (P ++ [x]) = marksP q P ++ [(marksI (q + totP P) x.1.length, x.2)]
  | [], x, q => by simp [marksP, totP]
  | y :: r, x, q => by
    rw [List.cons_append, marksP, marksP_snoc r x, totP_cons, marksP, List.cons_append, Nat.add_assoc]
theorem marksP_at : ∀ (P : List (List Int × Value)) (q k : Nat) (h : k < P.length), (marksP q P)[k]'(by rw [marksP_len]; exact h) = (marksI (q + totP (P.take k)) P[k].1.length, P[k].2)
  | [], _, k, h => absurd h (Nat.not_lt_zero k)
  | x :: r, q, 0, _ => by simp [marksP, totP]
  | x :: r, q, k + 1, h => by
    have := marksP_at r (q + x.1.length) k (by simpa using h)
    simp only [marksP, List.getElem_cons_succ, List.take_succ_cons, totP_cons]
    rw [this, Nat.add_assoc]
def midP (q : Nat) (P : List (List Int × Value)) (j : Nat) : List (List Int × Value) := marksP q (P.take j) ++ P.drop j
theorem midP_len (q : Nat) (P : List (List Int × Value)) (j : Nat) : (midP q P j).length = P.length := by
  unfold midP; rw [List.length_append, marksP_len, ← List.length_append, List.take_append_drop]
theorem midP_at (q : Nat) (P : List (List Int × Value)) (j : Nat) (hj : j < P.length) : (midP q P j)[j]'(by rw [midP_len]; exact hj) = P[j] := by
  have hl : (marksP q (P.take j)).length = j := by rw [marksP_len, List.length_take]; omega
  unfold midP
  rw [List.getElem_append_right (by omega)]
  simp [hl]
theorem midP_next (q : Nat) (P : List (List Int × Value)) (j : Nat) (hj : j < P.length) : (midP q P j).set j (marksI (q + totP (P.take j)) P[j].1.length, P[j].2) = midP q P (j + 1) ∧ totP (P.take (j + 1)) = totP (P.take j) + P[j].1.length := by
  have hl : (marksP q (P.take j)).length = j := by rw [marksP_len, List.length_take]; omega
  have ht : P.take (j + 1) = P.take j ++ [P[j]] := by rw [List.take_add_one, List.getElem?_eq_getElem hj]; rfl
  refine ⟨?_, by rw [ht, totP_snoc]⟩
  unfold midP
  have hd : P.drop j = P[j] :: P.drop (j + 1) := List.drop_eq_getElem_cons hj
  rw [ht, marksP_snoc, List.set_append_right _ _ (by omega), hl, Nat.sub_self, hd, List.append_assoc]
  rfl
theorem totP_take_le (P : List (List Int × Value)) (j : Nat) : totP (P.take j) ≤ totP P := by unfold totP; rw [List.map_take]; exact flat_le _ _
/-- A part's items turned where they lie. -/
theorem PV.mark {T : TypeId} {w w' : World} {B : Nat} {v : Value} {P : List (List Int × Value)} {k : Nat} {l : List Int} (h : PV T w B v P) (hT : 2 ≠ T) (hk : k < P.length) (hg : w.grownBy w' P[k].2.ownBlock) (ho : w'.ownsRow B 2 1 P[k].2 l.length (cellsI l)) : PV T w' B v (P.set k (l, P[k].2)) := by
  refine ⟨?_, h.iv.turn hk hg ho (fun b hb => .inl hb)⟩
  have hs : (P.set k (l, P[k].2)).map Prod.snd = P.map Prod.snd := by
    rw [List.map_set]
    refine List.ext_getElem (by simp) fun i h1 h2 => ?_
    rw [List.getElem_set]
    split
    · rename_i e; subst e; simp
    · rfl
  rw [List.length_set, hs]
  exact own_apart h.row hg (fun b hb e => typ_ne (h.iv.items k hk) h.row hT b e hb)
set_option maxRecDepth 100000 in
set_option maxHeartbeats 2000000 in
theorem markSps_any (v : Value) (P : List (List Int × Value)) (B k0 : Nat) (w : World) (hk : k0 ≤ 10) (hs : SmallS (P.map Prod.fst)) (ho : PV 54 w B v P) :
    Calls Try.prog 21 #[v, .int .i64 (k0 : Int)] w fun e w' => e = .returned (.int .i64 ((k0 + totP P : Nat) : Int)) ∧ PV 54 w' B v (marksP k0 P) ∧ Keeps (footP v P) w w' := by
  have hl : P.length ≤ 1048576 := by have := hs.len; simpa using this
  have HZ : Hid (∀ j, totP (P.take j) ≤ 1048576) := fun j => Nat.le_trans (totP_take_le P j) hs.all
  have HZk : Hid (∀ (j : Nat) (h : j < P.length), P[j].1.length ≤ 1048576) := fun j h => by have := hs.part j (by simpa using h); rw [List.getElem_map] at this; exact this
  have H0 : Hid (PV 54 w B v (midP k0 P 0) ∧ Keeps (footP v P) w w) := ⟨by unfold midP; exact ho, Keeps.refl _ _⟩
  obtain ⟨ao, cap, rfl⟩ := ho.form
  obtain ⟨R, hR⟩ : ∃ R : Nat, R = k0 + totP P := ⟨_, rfl⟩
  have HR : Hid (R = k0 + totP P) := hR
  rw [← hR]
  clear ho hs hR
  go_enter Try.func21, Try.ntmps21
  go_wp2_with fail
  go_loopw [1, 5] (fun x i wr => ∃ j q : Nat, j ≤ P.length ∧ q ≤ 2000000 ∧ i = .int .i64 (j : Int) ∧ x = .int .i64 (q : Int) ∧ Hid (q = k0 + totP (P.take j)) ∧ Hid (PV 54 wr B (.slice ao P.length cap) (midP k0 P j) ∧ Keeps (footP (.slice ao P.length cap) P) w wr)) (fun _ i _ => P.length - (RowKit.intOf i).toNat)
  case atStart => exact ⟨0, k0, Nat.zero_le _, by omega, rfl, rfl, by show _ = _; simp [totP], H0.out⟩
  case round =>
    obtain ⟨j, q, hj, hq, rfl, rfl, HQ, HX⟩ := hrel
    by_cases hlt : j < P.length
    · obtain ⟨hpv, hke⟩ := HX.out
      have hMl : (midP k0 P j).length = P.length := midP_len _ _ _
      have hMj := midP_at k0 P j hlt
      have hjM : j < (midP k0 P j).length := by rw [hMl]; exact hlt
      obtain ⟨M, hM⟩ : ∃ M, M = midP k0 P j := ⟨_, rfl⟩
      rw [← hM] at hpv hMl hjM
      have hMj' : M[j] = P[j] := by subst hM; exact hMj
      have HMn : Hid (M.set j (marksI q P[j].1.length, P[j].2) = midP k0 P (j + 1) ∧ totP (P.take (j + 1)) = totP (P.take j) + P[j].1.length) := by
        show _ ∧ _
        rw [hM, HQ.out]; exact midP_next k0 P j hlt
      obtain ⟨g, c', hv, _, _⟩ := hpv.row.form (by omega)
      obtain ⟨rfl, rfl⟩ : ao = some ⟨g, 0, none⟩ ∧ cap = c' := by simp at hv; exact ⟨hv.1, hv.2.2⟩
      have cz := rowP_at hpv.row j hjM
      rw [hMj'] at cz
      have hit := hpv.iv.items j hjM
      rw [hMj'] at hit
      obtain ⟨ai, ci, hvi⟩ := own_form hit
      have hml := HZk.out j hlt
      have hb1 := HZ.out (j + 1)
      have HM1 : Hid (Calls Try.prog 35 #[P[j].2, .int .i64 (q : Int)] wr fun e w' => e = .returned (.int .i64 ((q + P[j].1.length : Nat) : Int)) ∧ w'.ownsRow B 2 1 P[j].2 P[j].1.length (cellsI (marksI q P[j].1.length)) ∧ wr.grownBy w' P[j].2.ownBlock) := by
        rw [hvi]
        rw [hvi] at hit
        exact markIS_any ai ci B q P[j].1 wr hml (by omega) hit
      have HZ2 : Hid (∀ w', w'.ownsRow B 2 1 P[j].2 P[j].1.length (cellsI (marksI q P[j].1.length)) → wr.grownBy w' P[j].2.ownBlock → PV 54 w' B (.slice (some ⟨g, 0, none⟩) P.length cap) (midP k0 P (j + 1)) ∧ Keeps (footP (.slice (some ⟨g, 0, none⟩) P.length cap) P) w w') := fun w' h1 h2 => by
        have h3 := hpv.mark (k := j) (l := marksI q P[j].1.length) (by decide) hjM (by rw [hMj']; exact h2) (by rw [hMj', marksI_len]; exact h1)
        simp only [hMj'] at h3
        rw [HMn.out.1] at h3
        exact ⟨h3, hke.grown h2 (fun b hb => .inr ⟨j, hlt, hb⟩)⟩
      have HQ1 : Hid (q + P[j].1.length = k0 + totP (P.take (j + 1))) := by show _ = _; rw [HMn.out.2, HQ.out]; omega
      have hqb : q + P[j].1.length ≤ 2000000 := by rw [HQ1.out]; omega
      rw [hvi] at cz HM1
      obtain ⟨m, hm⟩ : ∃ m, m = P[j].1.length := ⟨_, rfl⟩
      rw [← hm] at HM1 hml hqb HQ1 HZ2 cz hvi
      clear hpv hke hMl hMj hjM hM hMj' hv hit HX hb1 hm
      go_wp2_with fail
      refine HM1.out.mono ?_
      rintro e w1 ⟨rfl, h1, h2⟩
      have HW : Hid (PV 54 w1 B (.slice (some ⟨g, 0, none⟩) P.length cap) (midP k0 P (j + 1)) ∧ Keeps (footP (.slice (some ⟨g, 0, none⟩) P.length cap) P) w w1) := HZ2.out w1 (by rw [hvi]; exact h1) (by rw [hvi]; exact h2)
      clear h1 h2 cz hvi
      go_wp2
      exact ⟨⟨j + 1, q + m, by omega, hqb, by go_num, rfl, HQ1.out, HW.out⟩, by simp [RowKit.intOf]; omega⟩
    · have hjl : j = P.length := by omega
      have HE : Hid (q = R) := by show q = R; rw [HQ.out, HR.out, hjl, List.take_length]
      have HW : Hid (PV 54 wr B (.slice ao P.length cap) (marksP k0 P) ∧ Keeps (footP (.slice ao P.length cap) P) w wr) := by
        have h1 := HX.out
        rw [hjl] at h1
        unfold midP at h1
        rw [List.take_length, List.drop_length, List.append_nil] at h1
        exact h1
      clear HX HQ hjl
      go_wp2
      go_ret
      exact ⟨by rw [HE.out]; rfl, HW.out.1, HW.out.2⟩
set_option maxRecDepth 100000 in
set_option maxHeartbeats 2000000 in
theorem heldSps_any (v : Value) (P : List (List Int × Value)) (B k0 : Nat) (w : World) (hk : k0 ≤ 10) (hs : SmallS (P.map Prod.fst)) (ho : PV 54 w B v (marksP k0 P)) :
    Calls Try.prog 36 #[v, .int .i64 (k0 : Int)] w fun e w' => e = .returned (.int .i64 ((k0 + totP P : Nat) : Int)) ∧ Below w.heap.size w w' := by
  have hl : P.length ≤ 1048576 := by have := hs.len; simpa using this
  have HZ : Hid (∀ j, totP (P.take j) ≤ 1048576) := fun j => Nat.le_trans (totP_take_le P j) hs.all
  have HZk : Hid (∀ (j : Nat) (h : j < P.length), P[j].1.length ≤ 1048576) := fun j h => by have := hs.part j (by simpa using h); rw [List.getElem_map] at this; exact this
  have HP : Hid (PV 54 w B v (marksP k0 P)) := ho
  obtain ⟨ao, cap, hv0⟩ := ho.form
  rw [marksP_len] at hv0
  subst hv0
  obtain ⟨R, hR⟩ : ∃ R : Nat, R = k0 + totP P := ⟨_, rfl⟩
  have HR : Hid (R = k0 + totP P) := hR
  rw [← hR]
  clear ho hs hR
  go_enter Try.func36, Try.ntmps36
  go_wp2_with fail
  go_loopw [1, 5] (fun x i wr => ∃ j q : Nat, j ≤ P.length ∧ q ≤ 2000000 ∧ i = .int .i64 (j : Int) ∧ x = .int .i64 (q : Int) ∧ Hid (q = k0 + totP (P.take j)) ∧ Hid (Below w.heap.size w wr)) (fun _ i _ => P.length - (RowKit.intOf i).toNat)
  case atStart => exact ⟨0, k0, Nat.zero_le _, by omega, rfl, rfl, by show _ = _; simp [totP], Below.refl _ _⟩
  case round =>
    obtain ⟨j, q, hj, hq, rfl, rfl, HQ, HB⟩ := hrel
    by_cases hlt : j < P.length
    · have hpv := HP.out.below HB.out
      have hjM : j < (marksP k0 P).length := by rw [marksP_len]; exact hlt
      have hMj := marksP_at P k0 j hlt
      obtain ⟨g, c', hv, _, _⟩ := hpv.row.form (by omega)
      obtain ⟨rfl, rfl⟩ : ao = some ⟨g, 0, none⟩ ∧ cap = c' := by simp at hv; exact ⟨hv.1, hv.2.2⟩
      have cz := rowP_at hpv.row j hjM
      rw [hMj] at cz
      have hit := hpv.iv.items j hjM
      rw [hMj, ← HQ.out, marksI_len] at hit
      obtain ⟨ai, ci, hvi⟩ := own_form hit
      have hml := HZk.out j hlt
      have hb1 := HZ.out (j + 1)
      have hnx := (midP_next k0 P j hlt).2
      simp only at hvi hit cz
      have HM1 : Hid (Calls Try.prog 48 #[P[j].2, .int .i64 (q : Int)] wr fun e w' => e = .returned (.int .i64 ((q + P[j].1.length : Nat) : Int)) ∧ Below wr.heap.size wr w') := by
        rw [hvi]
        rw [hvi] at hit
        exact heldIS_any ai ci B q P[j].1.length wr hml (by omega) hit
      have HQ1 : Hid (q + P[j].1.length = k0 + totP (P.take (j + 1))) := by show _ = _; rw [hnx, HQ.out]; omega
      have hqb : q + P[j].1.length ≤ 2000000 := by rw [HQ1.out]; omega
      rw [hvi] at cz HM1
      obtain ⟨m, hm⟩ : ∃ m, m = P[j].1.length := ⟨_, rfl⟩
      rw [← hm] at HM1 hml hqb HQ1 cz
      clear hpv hMj hjM hv hit hb1 hm hvi hnx
      go_wp2_with fail
      refine HM1.out.mono ?_
      rintro e w1 ⟨rfl, b1⟩
      have HB1 : Hid (Below w.heap.size w w1) := HB.out.trans (b1.mono HB.out.size)
      have hnn : ¬ ((q + m : Nat) : Int) < 0 := by omega
      clear b1 cz
      go_wp2
      exact ⟨⟨j + 1, q + m, by omega, hqb, by go_num, rfl, HQ1.out, HB1.out⟩, by simp [RowKit.intOf]; omega⟩
    · have hjl : j = P.length := by omega
      have HE : Hid (q = R) := by show q = R; rw [HQ.out, HR.out, hjl, List.take_length]
      clear HQ hjl
      go_wp2
      go_ret
      exact ⟨by rw [HE.out]; rfl, HB.out⟩
theorem keeps_alloc {F : Nat → Prop} {w w' : World} {o : Obj} (h : Keeps F (w.alloc o) w') : Keeps F w w' :=
  ⟨h.os, h.tape, h.output, Nat.le_trans (by simp) h.size, fun k hk hn => (h.block k (by simp; omega) hn).trans (Below.heap_alloc _ _ _ hk)⟩
theorem markSegs_any (size : Int) (v : Value) (P : List (List Int × Value)) (B : Nat) (w : World) (hs : SmallS (P.map Prod.fst)) (ho : PV 54 w B v P) :
    Calls Try.prog 10 #[segV size v, .int .i64 1] w fun e w' => e = .returned (.int .i64 ((1 + totP P : Nat) : Int)) ∧ PV 54 w' B v (marksP 1 P) ∧ Keeps (footP v P) w w' := by
  have HS : Hid (∀ o, Calls Try.prog 21 #[v, .int .i64 1] (w.alloc o) fun e w' => e = .returned (.int .i64 ((1 + totP P : Nat) : Int)) ∧ PV 54 w' B v (marksP 1 P) ∧ Keeps (footP v P) (w.alloc o) w') := fun o => markSps_any v P B 1 (w.alloc o) (by omega) hs (ho.below ((Below.refl _ _).alloc (Nat.le_refl _) _))
  obtain ⟨ao, cap, rfl⟩ := ho.form
  generalize 1 + totP P = R at HS ⊢
  clear ho hs
  go_enter Try.func10, Try.ntmps10
  go_wp2_with (go_at_call 21; refine (HS.out _).mono ?_; rintro e w1 ⟨rfl, hq⟩; have HQ : Hid _ := hq; clear hq)
  go_ret
  exact ⟨rfl, HQ.out.1, keeps_alloc HQ.out.2⟩
theorem markSr_any (c n size : Int) (v : Value) (P : List (List Int × Value)) (B : Nat) (w : World) (hs : SmallS (P.map Prod.fst)) (ho : PV 54 w B v P) :
    Calls Try.prog 11 #[srV c n size v, .int .i64 1] w fun e w' => e = .returned (.int .i64 ((1 + totP P : Nat) : Int)) ∧ PV 54 w' B v (marksP 1 P) ∧ Keeps (footP v P) w w' := by
  have HS : Hid (∀ o, Calls Try.prog 10 #[segV size v, .int .i64 1] (w.alloc o) fun e w' => e = .returned (.int .i64 ((1 + totP P : Nat) : Int)) ∧ PV 54 w' B v (marksP 1 P) ∧ Keeps (footP v P) (w.alloc o) w') := fun o => markSegs_any size v P B (w.alloc o) hs (ho.below ((Below.refl _ _).alloc (Nat.le_refl _) _))
  obtain ⟨ao, cap, rfl⟩ := ho.form
  generalize 1 + totP P = R at HS ⊢
  clear ho hs
  go_enter Try.func11, Try.ntmps11
  go_wp2_with (go_at_call 10; refine (HS.out _).mono ?_; rintro e w1 ⟨rfl, hq⟩; have HQ : Hid _ := hq; clear hq)
  go_ret
  exact ⟨rfl, HQ.out.1, keeps_alloc HQ.out.2⟩
theorem heldSegs_any (size : Int) (v : Value) (P : List (List Int × Value)) (B : Nat) (w : World) (hs : SmallS (P.map Prod.fst)) (ho : PV 54 w B v (marksP 1 P)) :
    Calls Try.prog 22 #[segV size v, .int .i64 1] w fun e w' => e = .returned (.int .i64 ((1 + totP P : Nat) : Int)) ∧ Below w.heap.size w w' := by
  have HS : Hid (∀ o, Calls Try.prog 36 #[v, .int .i64 1] (w.alloc o) fun e w' => e = .returned (.int .i64 ((1 + totP P : Nat) : Int)) ∧ Below w.heap.size w w') := fun o => (heldSps_any v P B 1 (w.alloc o) (by omega) hs (ho.below ((Below.refl _ _).alloc (Nat.le_refl _) _))).mono fun e w' ⟨h1, h2⟩ => ⟨h1, ((Below.refl _ _).alloc (Nat.le_refl _) _).trans (h2.mono (by simp))⟩
  obtain ⟨ao, cap, e0⟩ := ho.form
  subst e0
  have hb : (1 + totP P : Nat) ≤ 2000000 := by have := hs.all; unfold totP; omega
  generalize 1 + totP P = R at HS hb ⊢
  clear ho hs
  go_enter Try.func22, Try.ntmps22
  go_wp2_with (go_at_call 36; refine (HS.out _).mono ?_; rintro e w1 ⟨rfl, hq⟩; have HQ : Hid _ := hq; clear hq)
  go_ret
  exact ⟨rfl, HQ.out⟩
theorem heldSr_any (c n size : Int) (v : Value) (P : List (List Int × Value)) (B : Nat) (w : World) (hs : SmallS (P.map Prod.fst)) (ho : PV 54 w B v (marksP 1 P)) :
    Calls Try.prog 12 #[srV c n size v, .int .i64 1] w fun e w' => e = .returned (.int .i64 ((1 + totP P : Nat) : Int)) ∧ Below w.heap.size w w' := by
  have HS : Hid (∀ o, Calls Try.prog 22 #[segV size v, .int .i64 1] (w.alloc o) fun e w' => e = .returned (.int .i64 ((1 + totP P : Nat) : Int)) ∧ Below w.heap.size w w') := fun o => (heldSegs_any size v P B (w.alloc o) hs (ho.below ((Below.refl _ _).alloc (Nat.le_refl _) _))).mono fun e w' ⟨h1, h2⟩ => ⟨h1, ((Below.refl _ _).alloc (Nat.le_refl _) _).trans (h2.mono (by simp))⟩
  obtain ⟨ao, cap, e0⟩ := ho.form
  subst e0
  have hb : (1 + totP P : Nat) ≤ 2000000 := by have := hs.all; unfold totP; omega
  generalize 1 + totP P = R at HS hb ⊢
  clear ho hs
  go_enter Try.func12, Try.ntmps12
  go_wp2_with (go_at_call 22; refine (HS.out _).mono ?_; rintro e w1 ⟨rfl, hq⟩; have HQ : Hid _ := hq; clear hq)
  go_ret
  exact ⟨rfl, HQ.out⟩
end Go.Proofs.Ytdohpfckiahlcaa
