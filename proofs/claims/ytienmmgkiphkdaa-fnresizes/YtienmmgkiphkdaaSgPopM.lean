/-
  The model's l12Pop takes the highest item from a stack that has one: the last part has one item less, or is gone; nothing else is turned but the stack's box.
-/
import Derived.Test.YtienmmgkiphkdaaSgPushM
namespace Go.Proofs.Ytienmmgkiphkdaa
open Go.RowKit Go.Extern.Stop Go.Stop Go.Extern Num Go.Lib

theorem grown_cell (w : World) (b j : Nat) (u : Value) : w.grownBy (w.setCell ⟨b, j, none⟩ u) (some b) := gb_set (gb_refl _ _) _
/-- The first items of a row. -/
theorem own_cut {w : World} {B g n cap : Nat} {T : TypeId} {xs : List Value} (h : w.ownsRow B T 1 (.slice (some ⟨g, 0, none⟩) n cap) n xs) (m : Nat) (hm : m ≤ n) : w.ownsRow B T 1 (.slice (some ⟨g, 0, none⟩) m cap) m (xs.take m) := by
  obtain ⟨h1, h2⟩ := h
  refine ⟨by simp at h1 ⊢; omega, ?_⟩
  rcases h2 with ⟨hv, _⟩ | ⟨g', cap', cur, hv, q1, q2, q3, q4, q5, q6⟩
  · simp at hv
  · obtain ⟨rfl, rfl⟩ : g = g' ∧ cap = cap' := by simp at hv; exact hv
    refine .inr ⟨g, cap, cur, rfl, q1, q2, by omega, q4, q5, ?_⟩
    have e : cur.toList.take (m * 1) = (cur.toList.take (n * 1)).take (m * 1) := by rw [List.take_take]; congr 1; omega
    rw [e, q6, Nat.mul_one]
theorem own_cap {w : World} {B g n cap : Nat} {T : TypeId} {xs : List Value} (h : w.ownsRow B T 1 (.slice (some ⟨g, 0, none⟩) n cap) n xs) : n ≤ cap := by
  rcases h.2 with ⟨hv, _⟩ | ⟨g', cap', cur, hv, q1, q2, q3, q4, q5, q6⟩
  · simp at hv
  · obtain ⟨rfl, rfl⟩ : g = g' ∧ cap = cap' := by simp at hv; exact hv
    exact q3
theorem cellsI_take (l : List Int) (m : Nat) : (cellsI l).take m = cellsI (l.take m) := by unfold cellsI; rw [List.map_take]
theorem pop_top {P : List (List Int × Value)} {r m : Nat} {l : List Int} (hr : P.length = r + 1) (h : r < P.length) (hl : P[r].1 = l) (hm : l.length = m + 1) : topL (P.map Prod.fst) = l[m]'(by omega) := by
  unfold topL
  have e : l.length - 1 = m := by omega
  rw [lastP hr h, hl, e, List.getD_eq_getElem?_getD, List.getElem?_eq_getElem (by omega)]
  rfl
theorem pop_some {P : List (List Int × Value)} {r m : Nat} {l : List Int} (hr : P.length = r + 1) (h : r < P.length) (hl : P[r].1 = l) (hm : l.length = m + 1) (h0 : m ≠ 0) (v : Value) : (P.set r (l.take m, v)).map Prod.fst = popL (P.map Prod.fst) := by
  unfold popL
  rw [lastP hr h, hl, hm, if_neg (by omega), set_map]
  simp [hr]
theorem pop_none {P : List (List Int × Value)} {r m : Nat} {l : List Int} (hr : P.length = r + 1) (h : r < P.length) (hl : P[r].1 = l) (hm : l.length = m + 1) (h0 : m = 0) (x : List Int × Value) : ((P.set r x).take r).map Prod.fst = popL (P.map Prod.fst) := by
  unfold popL
  rw [lastP hr h, hl, hm, if_pos (by omega), List.map_take, List.map_set, List.take_set_of_le (Nat.le_refl _)]
  simp [hr]

set_option maxRecDepth 100000 in
set_option maxHeartbeats 1500000 in
theorem l12Pop_any (b B : Nat) (size : Int) (v : Value) (P : List (List Int × Value)) (w : World) (_hB : B ≤ w.heap.size) (hne : P ≠ []) (hl : P.length ≤ 1048576) (hm : ∀ (i : Nat) (h : i < P.length), P[i].1.length ≤ 1048576) (hp : ∀ (i : Nat) (h : i < P.length), 0 < P[i].1.length) (h : SgB 78 26 w b B size v P) :
    Calls Try.prog 69 #[.pointer (some ⟨b, 0, none⟩)] w fun e w' => e = .returned (.int .i64 (topL (P.map Prod.fst))) ∧ ∃ v' P', SgB 78 26 w' b B size v' P' ∧ P'.map Prod.fst = popL (P.map Prod.fst) ∧ KB b B w w' := by
  have H : Hid (SgB 78 26 w b B size v P) := h
  have hmix : Try.prog.follows .mixedOrders = true := by kernel_rfl
  obtain ⟨ao, cap, rfl⟩ := h.pv.form
  obtain ⟨r, hr⟩ : ∃ r, P.length = r + 1 := ⟨P.length - 1, by have := List.length_pos_iff.2 hne; omega⟩
  have hrl : r < P.length := by omega
  obtain ⟨g, c, hv, _, _⟩ := h.pv.row.form (by omega)
  obtain ⟨rfl, rfl⟩ : ao = some ⟨g, 0, none⟩ ∧ cap = c := by simp at hv; exact hv
  obtain ⟨l, hlE⟩ : ∃ l, P[r].1 = l := ⟨_, rfl⟩
  have hit := h.pv.iv.items r hrl
  have hp0 := hp r hrl
  have hm0 := hm r hrl
  rw [hlE] at hit hp0 hm0
  obtain ⟨m, hlm⟩ : ∃ m, l.length = m + 1 := ⟨l.length - 1, by omega⟩
  obtain ⟨gi, ci, hvi, _, _⟩ := hit.form (by omega)
  rw [hlm] at hvi
  have HIt : Hid (w.ownsRow B 2 1 (.slice (some ⟨gi, 0, none⟩) (m + 1) ci) (m + 1) (cellsI l)) := by have := hit; rw [hvi, hlm] at this; exact this
  have HPr : Hid (P[r] = (l, (.slice (some ⟨gi, 0, none⟩) (m + 1) ci))) := by show _ = _; rw [← hlE, ← hvi]
  have hci : m + 1 ≤ ci := own_cap HIt.out
  have hmc : m ≤ ci := by omega
  have hcap : r + 1 ≤ cap := by have := own_cap h.pv.row; omega
  have hrc : r ≤ cap := by omega
  have hrb : r ≤ 1048576 := by omega
  have hmb : m ≤ 1048576 := by omega
  have cz := rowP_at h.pv.row r hrl
  rw [hvi] at cz
  obtain ⟨x, hx⟩ : ∃ x, x = topL (P.map Prod.fst) := ⟨_, rfl⟩
  have ck : w.cell? ⟨gi, m, none⟩ = some (.int .i64 x) := by
    have h0 : w.ownsRow B 2 1 (.slice (some ⟨gi, 0, none⟩) l.length ci) l.length (cellsI l) := by rw [hlm]; exact HIt.out
    have := rowI_at h0 m (by omega)
    rw [hx, pop_top hr hrl hlE hlm]; exact this
  obtain ⟨c0, c1⟩ := h.at
  rw [hr] at c1 H
  have ff : ∀ j, w.frozen? ⟨g, j, none⟩ = false := own_frozen h.pv.row
  have HQ : Hid (P.length = r + 1) := hr
  have HSo : Hid (m ≠ 0 → ∀ v, (P.set r (l.take m, v)).map Prod.fst = popL (P.map Prod.fst)) := fun h0 v => pop_some hr hrl hlE hlm h0 v
  have HNo : Hid (m = 0 → ∀ x, ((P.set r x).take r).map Prod.fst = popL (P.map Prod.fst)) := fun h0 x => pop_none hr hrl hlE hlm h0 x
  have hgb : g ≠ b := h.far (by decide) (by decide) g (.inl rfl)
  have hib : gi ≠ b := h.far (by decide) (by decide) gi (.inr ⟨r, hrl, by rw [hvi]; rfl⟩)
  have hig : gi ≠ g := fun e => typ_ne HIt.out h.pv.row (by decide) g (by rw [e]; rfl) rfl
  have hBg : B ≤ g := (h.pv.foot (.inl rfl)).1
  have hBi : B ≤ gi := (h.pv.foot (.inr ⟨r, hrl, by rw [hvi]; rfl⟩)).1
  rw [← hx]
  have HLm : Hid (l.length = m + 1) := hlm
  -- what is behind the store
  obtain ⟨Y, hY⟩ : ∃ Y, Y = w.drew := ⟨_, rfl⟩
  have HBY : Hid (Below w.heap.size w Y) := by rw [hY]; exact (Below.refl _ _).drew
  obtain ⟨Z, hZ⟩ : ∃ Z, Z = Y.setCell ⟨g, r, none⟩ (.slice (some ⟨gi, 0, none⟩) m ci) := ⟨_, rfl⟩
  have HZe : Hid (Z = Y.setCell ⟨g, r, none⟩ (.slice (some ⟨gi, 0, none⟩) m ci)) := hZ
  have HGZ : Hid (SgB 78 26 Z b B size (.slice (some ⟨g, 0, none⟩) (r + 1) cap) (P.set r (l.take m, (.slice (some ⟨gi, 0, none⟩) m ci)))) := by
    have hY2 := H.out.below HBY.out
    have hcut : Y.ownsRow B 2 1 (.slice (some ⟨gi, 0, none⟩) m ci) (l.take m).length (cellsI (l.take m)) := by
      have := own_cut (own_below HIt.out HBY.out) m (by omega)
      rw [cellsI_take] at this
      rw [List.length_take, HLm.out, Nat.min_eq_left (by omega)]; exact this
    have e2 : P[r].2 = (.slice (some ⟨gi, 0, none⟩) (m + 1) ci) := by rw [HPr.out]
    refine ⟨?_, ?_⟩
    · rw [hZ, Below.heap_setCell _ _ _ _ (fun e => hgb e.symm)]; exact hY2.blk
    · rw [hZ]; exact hY2.pv.turn (k := r) (by decide) hrl (gb_refl _ _) hcut (fun q hq => .inl (by rw [e2]; exact hq))
  have HKZ : Hid (KB b B w Z) := by rw [hZ]; exact ((KB.refl _ _ _).below HBY.out).high hBg _ _
  have ckZ : Z.cell? ⟨gi, m, none⟩ = some (.int .i64 x) := by
    rw [hZ, World.cell?_of_block (Below.heap_setCell _ _ _ _ (by simpa using hig))]; exact cell_keep HBY.out ck
  have HS0 : Hid (SPu Y b g r (.slice (some ⟨g, 0, none⟩) (r + 1) cap) (.slice (some ⟨gi, 0, none⟩) (m + 1) ci)) := ⟨cell_keep HBY.out c1, cell_keep HBY.out cz⟩
  have hFr : ∀ f, Fence.wide.fn f := fun _ => trivial
  have hwq : IntKind.i64.wrap (r : Int) = (r : Int) := wrap_id _ (by omega) (by omega)
  have hwm : IntKind.i64.wrap (m : Int) = (m : Int) := wrap_id _ (by omega) (by omega)
  have hwl : (r : Int) < (r : Int) + 1 := by omega
  have hml : (m : Int) ≤ (m : Int) + 1 := by omega
  have hr0 : 0 ≤ (r : Int) := by omega
  have hm00 : 0 ≤ (m : Int) := by omega
  have kf : ∀ j, Y.frozen? ⟨g, j, none⟩ = false := fun j => by rw [(bcell HBY.out).2 _ _ (lt_of_cell cz)]; exact ff j
  have kz : Y.cell? ⟨g, r, none⟩ = some (.slice (some ⟨gi, 0, none⟩) (m + 1) ci) := HS0.out.z
  clear HPr h hit hp hm hvi hlE hv hp0 hm0 hx hr hrl hne hl hZ hlm
  go_enter Try.func69, Try.ntmps69
  go_upto_region 4 with fail
  go_upto_region 4 with fail
  refine (wpIn_wide (n := 0)).1 ?_
  refine region_anyH (z := 10) (S := fun u : World => SPu u b g r (.slice (some ⟨g, 0, none⟩) (r + 1) cap) (.slice (some ⟨gi, 0, none⟩) (m + 1) ci)) (by kernel_rfl) ?_
  rw [← hY]
  clear hY
  refine anyH_take hFr (by kernel_rfl) (i := 0) (v := ?_) (d := some 23) (by kernel_rfl) rfl rfl (by kernel_rfl) (by kernel_rfl) (by kernel_rfl) (fun _ _ _ h => h) HS0.out (Or.inl ⟨by rfl, fun w hSw => ?_⟩) ?_
  rotate_left
  · obtain ⟨s0, s1⟩ := hSw
    go_simp
    all_goals (try (first | with_reducible rfl | omega))
  try simp only [Act.put]
  try simp only [List.setIfInBounds_toArray]
  try simp only [List.set_cons_zero, List.set_cons_succ]
  refine anyH_take hFr (by kernel_rfl) (i := 1) (v := ?_) (d := some 24) (by kernel_rfl) rfl rfl (by kernel_rfl) (by kernel_rfl) (by kernel_rfl) (fun _ _ _ h => h) HS0.out (Or.inl ⟨by rfl, fun w hSw => ?_⟩) ?_
  rotate_left
  · obtain ⟨s0, s1⟩ := hSw
    go_simp
    all_goals (try (first | with_reducible rfl | omega))
  try simp only [Act.put]
  try simp only [List.setIfInBounds_toArray]
  try simp only [List.set_cons_zero, List.set_cons_succ]
  refine anyH_take hFr (by kernel_rfl) (i := 2) (v := ?_) (d := some 25) (by kernel_rfl) rfl rfl (by kernel_rfl) (by kernel_rfl) (by kernel_rfl) (fun _ _ _ h => h) HS0.out (Or.inl ⟨by rfl, fun w hSw => ?_⟩) ?_
  rotate_left
  · obtain ⟨s0, s1⟩ := hSw
    go_simp
    all_goals (try (first | with_reducible rfl | omega))
  try simp only [Act.put]
  try simp only [List.setIfInBounds_toArray]
  try simp only [List.set_cons_zero, List.set_cons_succ]
  refine anyH_take hFr (by kernel_rfl) (i := 3) (v := ?_) (d := some 26) (by kernel_rfl) rfl rfl (by kernel_rfl) (by kernel_rfl) (by kernel_rfl) (fun _ _ _ h => h) HS0.out (Or.inl ⟨by rfl, fun w hSw => ?_⟩) ?_
  rotate_left
  · obtain ⟨s0, s1⟩ := hSw
    go_simp
    all_goals (try (first | with_reducible rfl | omega))
  try simp only [Act.put]
  try simp only [List.setIfInBounds_toArray]
  try simp only [List.set_cons_zero, List.set_cons_succ]
  refine anyH_take hFr (by kernel_rfl) (i := 4) (v := ?_) (d := some 27) (by kernel_rfl) rfl rfl (by kernel_rfl) (by kernel_rfl) (by kernel_rfl) (fun _ _ _ h => h) HS0.out (Or.inl ⟨by rfl, fun w hSw => ?_⟩) ?_
  rotate_left
  · obtain ⟨s0, s1⟩ := hSw
    go_simp
    all_goals (try (first | with_reducible rfl | omega))
  try simp only [Act.put]
  try simp only [List.setIfInBounds_toArray]
  try simp only [List.set_cons_zero, List.set_cons_succ]
  refine anyH_take hFr (by kernel_rfl) (i := 5) (v := ?_) (d := some 28) (by kernel_rfl) rfl rfl (by kernel_rfl) (by kernel_rfl) (by kernel_rfl) (fun _ _ _ h => h) HS0.out (Or.inl ⟨by rfl, fun w hSw => ?_⟩) ?_
  rotate_left
  · obtain ⟨s0, s1⟩ := hSw
    go_simp
    all_goals (try (first | with_reducible rfl | omega))
  try simp only [Act.put]
  try simp only [List.setIfInBounds_toArray]
  try simp only [List.set_cons_zero, List.set_cons_succ]
  refine anyH_take hFr (by kernel_rfl) (i := 6) (v := ?_) (d := some 29) (by kernel_rfl) rfl rfl (by kernel_rfl) (by kernel_rfl) (by kernel_rfl) (fun _ _ _ h => h) HS0.out (Or.inl ⟨by rfl, fun w hSw => ?_⟩) ?_
  rotate_left
  · obtain ⟨s0, s1⟩ := hSw
    go_simp
    all_goals (try (first | with_reducible rfl | omega))
  try simp only [Act.put]
  try simp only [List.setIfInBounds_toArray]
  try simp only [List.set_cons_zero, List.set_cons_succ]
  refine anyH_take hFr (by kernel_rfl) (i := 7) (v := ?_) (d := some 30) (by kernel_rfl) rfl rfl (by kernel_rfl) (by kernel_rfl) (by kernel_rfl) (fun _ _ _ h => h) HS0.out (Or.inl ⟨by rfl, fun w hSw => ?_⟩) ?_
  rotate_left
  · obtain ⟨s0, s1⟩ := hSw
    go_simp
    all_goals (try (first | with_reducible rfl | omega))
  try simp only [Act.put]
  try simp only [List.setIfInBounds_toArray]
  try simp only [List.set_cons_zero, List.set_cons_succ]
  refine anyH_one (i := 8) (by kernel_rfl) (op_plainW rfl (by rfl) (by simp) ?_)
  go_simp
  (first | refine ⟨fun _ => HS0.out, ?_⟩ | refine ⟨HS0.out, ?_⟩ | skip)
  try simp only [Act.put]
  try simp only [List.setIfInBounds_toArray]
  try simp only [List.set_cons_zero, List.set_cons_succ]
  refine anyH_one (i := 9) (by kernel_rfl) (op_plainW rfl (by rfl) (by simp) ?_)
  go_simp
  (first | refine ⟨fun _ => HS0.out, ?_⟩ | refine ⟨HS0.out, ?_⟩ | skip)
  try simp only [Act.put]
  try simp only [List.setIfInBounds_toArray]
  try simp only [List.set_cons_zero, List.set_cons_succ]
  refine anyH_one (i := 10) (by kernel_rfl) (op_plainW rfl (by rfl) (by simp) ?_)
  go_simp
  (first | refine ⟨by kernel_rfl, ?_⟩ | skip)
  try simp only [Act.put]
  try simp only [List.setIfInBounds_toArray]
  try simp only [List.set_cons_zero, List.set_cons_succ]
  (first | refine anyH_done (by kernel_rfl) ?_ _ | skip)
  rename_i Q' K hK
  refine hK _ _ ?_
  clear hK
  rw [← HZe.out]
  clear HZe kf kz HS0 HBY c0 c1 cz ck ff H hwq hwm
  have HPs : Hid ((P.set r (l.take m, (.slice (some ⟨gi, 0, none⟩) m ci))).length = r + 1) := by show _ = _; rw [List.length_set]; exact HQ.out
  have hgz := HGZ.out.lt
  by_cases h0 : m = 0
  · have hz0 : ((m : Int) == 0) = true := by rw [h0]; rfl
    have c1 := HGZ.out.at.c1
    have ff : ∀ j, Z.frozen? ⟨b, j, none⟩ = false := HGZ.out.fz
    have HG2 : Hid (SgB 78 26 (Z.setCell ⟨b, 1, none⟩ (.slice (some ⟨g, 0, none⟩) r cap)) b B size (.slice (some ⟨g, 0, none⟩) r cap) ((P.set r (l.take m, (.slice (some ⟨gi, 0, none⟩) m ci))).take r)) := by
      have h1 := HGZ.out.pv
      rw [← HPs.out] at h1
      exact SgB.store HGZ.out.blk (h1.take r (by rw [HPs.out]; omega)) (by decide) (by decide)
    have HK2 : Hid (KB b B w (Z.setCell ⟨b, 1, none⟩ (.slice (some ⟨g, 0, none⟩) r cap))) := HKZ.out.box _ _
    have HN : Hid (((P.set r (l.take m, (.slice (some ⟨gi, 0, none⟩) m ci))).take r).map Prod.fst = popL (P.map Prod.fst)) := HNo.out h0 _
    clear HNo HSo h0
    go_wp2
    exact bodyPost_ret (v := .int .i64 x) (by simp [results, Try.results69, go_sem]) rfl ⟨rfl, _, _, HG2.out, HN.out, HK2.out⟩
  · have hz0 : ((m : Int) == 0) = false := by rw [beq_eq_false_iff_ne]; omega
    have HN : Hid ((P.set r (l.take m, (.slice (some ⟨gi, 0, none⟩) m ci))).map Prod.fst = popL (P.map Prod.fst)) := HSo.out h0 _
    clear HNo HSo h0
    go_wp2
    exact bodyPost_ret (v := .int .i64 x) (by simp [results, Try.results69, go_sem]) rfl ⟨rfl, _, _, HGZ.out, HN.out, HKZ.out⟩
end Go.Proofs.Ytienmmgkiphkdaa
