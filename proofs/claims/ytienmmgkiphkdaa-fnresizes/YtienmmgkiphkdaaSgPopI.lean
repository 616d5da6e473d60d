/-
  The program's pop takes the highest item from a stack that has one: the last part has one item less, or is gone; nothing else is turned but the stack's box.
-/
import Derived.Test.YtienmmgkiphkdaaSgPopM
import Derived.Test.YtienmmgkiphkdaaSgPushI
import Derived.Lib.SliceRun
namespace Go.Proofs.Ytienmmgkiphkdaa
open Go.RowKit Go.Extern.Stop Go.Stop Go.Extern Num Go.Lib

set_option maxRecDepth 100000 in
set_option maxHeartbeats 1500000 in
theorem pop_any (b B : Nat) (size : Int) (v : Value) (P : List (List Int × Value)) (w : World) (_hB : B ≤ w.heap.size) (hne : P ≠ []) (hl : P.length ≤ 1048576) (hm : ∀ (i : Nat) (h : i < P.length), P[i].1.length ≤ 1048576) (hp : ∀ (i : Nat) (h : i < P.length), 0 < P[i].1.length) (h : SgB 33 67 w b B size v P) :
    Calls Try.prog 56 #[.pointer (some ⟨b, 0, none⟩)] w fun e w' => e = .returned (.int .i64 (topL (P.map Prod.fst))) ∧ ∃ v' P', SgB 33 67 w' b B size v' P' ∧ P'.map Prod.fst = popL (P.map Prod.fst) ∧ KB b B w w' := by
  have H : Hid (SgB 33 67 w b B size v P) := h
  have hmix : Try.prog.follows .mixedOrders = true := by kernel_rfl
  obtain ⟨ao, cap, rfl⟩ := h.pv.form
  obtain ⟨r, hr⟩ : ∃ r, P.length = r + 1 := ⟨P.length - 1, by have := List.length_pos_iff.2 hne; omega⟩
  have hrl : r < P.length := by omega
  obtain ⟨g, c, hv, _, _⟩ := h.pv.row.form (by omega)
  obtain ⟨rfl, rfl⟩ : ao = some ⟨g, 0, none⟩ ∧ cap = c := by simp at hv; exact hv
  obtain ⟨l, hlE⟩ : ∃ l, P[r].1 = l := ⟨_, rfl⟩
  have hit := h.pv.iv.items r hrl
  have hp0 := hp r hrl
  have hm0 := hm r hrl
  rw [hlE] at hit hp0 hm0
  obtain ⟨m, hlm⟩ : ∃ m, l.length = m + 1 := ⟨l.length - 1, by omega⟩
  obtain ⟨gi, ci, hvi, _, _⟩ := hit.form (by omega)
  rw [hlm] at hvi
  have HIt : Hid (w.ownsRow B 2 1 (.slice (some ⟨gi, 0, none⟩) (m + 1) ci) (m + 1) (cellsI l)) := by have := hit; rw [hvi, hlm] at this; exact this
  have HPr : Hid (P[r] = (l, (.slice (some ⟨gi, 0, none⟩) (m + 1) ci))) := by show _ = _; rw [← hlE, ← hvi]
  have hci : m + 1 ≤ ci := own_cap HIt.out
  have hmc : m ≤ ci := by omega
  have hcap : r + 1 ≤ cap := by have := own_cap h.pv.row; omega
  have hrc : r ≤ cap := by omega
  have hrb : r ≤ 1048576 := by omega
  have hmb : m ≤ 1048576 := by omega
  have cz := rowP_at h.pv.row r hrl
  rw [hvi] at cz
  obtain ⟨x, hx⟩ : ∃ x, x = topL (P.map Prod.fst) := ⟨_, rfl⟩
  have ck : w.cell? ⟨gi, m, none⟩ = some (.int .i64 x) := by
    have h0 : w.ownsRow B 2 1 (.slice (some ⟨gi, 0, none⟩) l.length ci) l.length (cellsI l) := by rw [hlm]; exact HIt.out
    have := rowI_at h0 m (by omega)
    rw [hx, pop_top hr hrl hlE hlm]; exact this
  obtain ⟨c0, c1⟩ := h.at
  rw [hr] at c1 H
  have ff : ∀ j, w.frozen? ⟨g, j, none⟩ = false := own_frozen h.pv.row
  have HQ : Hid (P.length = r + 1) := hr
  have HSo : Hid (m ≠ 0 → ∀ v, (P.set r (l.take m, v)).map Prod.fst = popL (P.map Prod.fst)) := fun h0 v => pop_some hr hrl hlE hlm h0 v
  have HNo : Hid (m = 0 → ∀ x, ((P.set r x).take r).map Prod.fst = popL (P.map Prod.fst)) := fun h0 x => pop_none hr hrl hlE hlm h0 x
  have hgb : g ≠ b := h.far (by decide) (by decide) g (.inl rfl)
  have hib : gi ≠ b := h.far (by decide) (by decide) gi (.inr ⟨r, hrl, by rw [hvi]; rfl⟩)
  have hig : gi ≠ g := fun e => typ_ne HIt.out h.pv.row (by decide) g (by rw [e]; rfl) rfl
  have hBg : B ≤ g := (h.pv.foot (.inl rfl)).1
  have hBi : B ≤ gi := (h.pv.foot (.inr ⟨r, hrl, by rw [hvi]; rfl⟩)).1
  rw [← hx]
  have HLm : Hid (l.length = m + 1) := hlm
  have hzi : ∀ u, (zeroValue 2).run Try.prog u = .ok (.int .i64 0) u := fun u => by simp [go_sem]
  have hzs : ∀ u, (zeroValue 33).run Try.prog u = .ok (.slice none 0 0) u := fun u => by simp [go_sem]
  -- the item is cleared
  obtain ⟨wa, hwa⟩ : ∃ wa, wa = w.setCell ⟨gi, m, none⟩ (.int .i64 0) := ⟨_, rfl⟩
  have hcl1 : (Builtin.clear_ #[33] 0 #[.slice (some ⟨gi, m, none⟩) 1 (ci - m)]).run Try.prog w = .ok (.tuple #[]) wa := by
    rw [Lib.run_clear_slice w 33 2 0 (.int .i64 0) Try.underlying33 hzi rfl rfl gi m 1 (ci - m) (by omega) (fun j hj => ?_) (fun j hj => ?_), hwa]
    · rfl
    · obtain rfl : j = 0 := by omega
      rw [Nat.add_zero, ck]; rfl
    · obtain rfl : j = 0 := by omega
      rw [Nat.add_zero]; exact own_frozen HIt.out m
  have c1a : wa.cell? ⟨b, 1, none⟩ = some (.slice (some ⟨g, 0, none⟩) (r + 1) cap) := by rw [hwa, World.cell?_of_block (Below.heap_setCell _ _ _ _ (by simpa using fun e => hib e.symm))]; exact c1
  have cza : wa.cell? ⟨g, r, none⟩ = some (.slice (some ⟨gi, 0, none⟩) (m + 1) ci) := by rw [hwa, World.cell?_of_block (Below.heap_setCell _ _ _ _ (by simpa using fun e => hig e.symm))]; exact cz
  have ffa : ∀ j, wa.frozen? ⟨g, j, none⟩ = false := fun j => by rw [hwa]; simp [go_sem]; exact ff j
  obtain ⟨Y, hY⟩ : ∃ Y, Y = wa.drew := ⟨_, rfl⟩
  have HBY : Hid (Below wa.heap.size wa Y) := by rw [hY]; exact (Below.refl _ _).drew
  have HgY : Hid (w.grownBy Y (some gi)) := gb_below (by rw [hwa]; exact grown_cell _ _ _ _) HBY.out
  obtain ⟨Z, hZ⟩ : ∃ Z, Z = Y.setCell ⟨g, r, none⟩ (.slice (some ⟨gi, 0, none⟩) m ci) := ⟨_, rfl⟩
  have HZe : Hid (Z = Y.setCell ⟨g, r, none⟩ (.slice (some ⟨gi, 0, none⟩) m ci)) := hZ
  have HGZ : Hid (SgB 33 67 Z b B size (.slice (some ⟨g, 0, none⟩) (r + 1) cap) (P.set r (l.take m, (.slice (some ⟨gi, 0, none⟩) m ci)))) := by
    have hcut : Y.ownsRow B 2 1 (.slice (some ⟨gi, 0, none⟩) m ci) (l.take m).length (cellsI (l.take m)) := by
      have h1 := own_put HIt.out m (.int .i64 0)
      rw [← hwa] at h1
      have h2 := own_cut (own_below h1 HBY.out) m (by omega)
      rw [List.take_set_of_le (Nat.le_refl _), cellsI_take] at h2
      rw [List.length_take, HLm.out, Nat.min_eq_left (by omega)]; exact h2
    have e2 : P[r].2 = (.slice (some ⟨gi, 0, none⟩) (m + 1) ci) := by rw [HPr.out]
    refine ⟨?_, ?_⟩
    · rw [hZ, Below.heap_setCell _ _ _ _ (fun e => hgb e.symm)]; exact blk_grown H.out.blk HgY.out (fun e => hib (by injection e with e; exact e.symm))
    · rw [hZ]; exact H.out.pv.turn (k := r) (by decide) hrl (by rw [e2]; exact HgY.out) hcut (fun q hq => .inl (by rw [e2]; exact hq))
  have HKZ : Hid (KB b B w Z) := by rw [hZ]; exact ((KB.refl _ _ _).grown HgY.out (fun q hq => by injection hq with hq; rw [← hq]; exact hBi)).high hBg _ _
  have HS0 : Hid (SPu Y b g r (.slice (some ⟨g, 0, none⟩) (r + 1) cap) (.slice (some ⟨gi, 0, none⟩) (m + 1) ci)) := ⟨cell_keep HBY.out c1a, cell_keep HBY.out cza⟩
  have hFr : ∀ f, Fence.wide.fn f := fun _ => trivial
  have hwq : IntKind.i64.wrap (r : Int) = (r : Int) := wrap_id _ (by omega) (by omega)
  have hwm : IntKind.i64.wrap (m : Int) = (m : Int) := wrap_id _ (by omega) (by omega)
  have hwl : (r : Int) < (r : Int) + 1 := by omega
  have hml : (m : Int) ≤ (m : Int) + 1 := by omega
  have hr0 : 0 ≤ (r : Int) := by omega
  have hm00 : 0 ≤ (m : Int) := by omega
  have hcm : ¬ ci = m := by omega
  have hcr : ¬ cap = r := by omega
  have kf : ∀ j, Y.frozen? ⟨g, j, none⟩ = false := fun j => by rw [(bcell HBY.out).2 _ _ (lt_of_cell cza)]; exact ffa j
  have kz : Y.cell? ⟨g, r, none⟩ = some (.slice (some ⟨gi, 0, none⟩) (m + 1) ci) := HS0.out.z
  have HPs : Hid ((P.set r (l.take m, (.slice (some ⟨gi, 0, none⟩) m ci))).length = r + 1) := by show _ = _; rw [List.length_set]; exact HQ.out
  -- the part is cleared, where it is gone
  obtain ⟨Zc, hZc⟩ : ∃ Zc, Zc = Z.setCell ⟨g, r, none⟩ (.slice none 0 0) := ⟨_, rfl⟩
  have czZ : Z.cell? ⟨g, r, none⟩ = some (.slice (some ⟨gi, 0, none⟩) m ci) := by rw [hZ]; exact World.cell?_setCell_same' _ _ _ (by rw [kz]; rfl)
  have hcl2 : (Builtin.clear_ #[65] 0 #[.slice (some ⟨g, r, none⟩) 1 (cap - r)]).run Try.prog Z = .ok (.tuple #[]) Zc := by
    rw [Lib.run_clear_slice Z 65 33 0 (.slice none 0 0) Try.underlying65 hzs rfl rfl g r 1 (cap - r) (by omega) (fun j hj => ?_) (fun j hj => ?_), hZc]
    · rfl
    · obtain rfl : j = 0 := by omega
      rw [Nat.add_zero, czZ]; rfl
    · obtain rfl : j = 0 := by omega
      rw [Nat.add_zero, hZ]; simp [go_sem]; exact kf r
  have HGc : Hid (SgB 33 67 Zc b B size (.slice (some ⟨g, 0, none⟩) (r + 1) cap) ((P.set r (l.take m, (.slice (some ⟨gi, 0, none⟩) m ci))).set r ([], .slice none 0 0))) := by
    refine ⟨?_, ?_⟩
    · rw [hZc, Below.heap_setCell _ _ _ _ (fun e => hgb e.symm)]; exact HGZ.out.blk
    · rw [hZc]; exact HGZ.out.pv.turn (k := r) (by decide) (by rw [HPs.out]; omega) (gb_refl _ _) (own_nil _ _ _ _) (fun q hq => by cases hq)
  have HKc : Hid (KB b B w Zc) := by rw [hZc]; exact HKZ.out.high hBg _ _
  clear h hit hp hm hvi hlE hv hp0 hm0 hx hr hrl hne hl hZ hlm HPr hwa hzi hzs hZc czZ HgY
  go_enter Try.func56, Try.ntmps56
  go_upto_region 5 with fail
  go_upto_region 5 with fail
  refine (wpIn_wide (n := 0)).1 ?_
  refine region_anyH (z := 15) (S := fun u : World => SPu u b g r (.slice (some ⟨g, 0, none⟩) (r + 1) cap) (.slice (some ⟨gi, 0, none⟩) (m + 1) ci)) (by kernel_rfl) ?_
  rw [← hY]
  clear hY
  refine anyH_take hFr (by kernel_rfl) (i := 0) (v := ?_) (d := some 40) (by kernel_rfl) rfl rfl (by kernel_rfl) (by kernel_rfl) (by kernel_rfl) (fun _ _ _ h => h) HS0.out (Or.inl ⟨by rfl, fun w hSw => ?_⟩) ?_
  rotate_left
  · obtain ⟨s0, s1⟩ := hSw
    go_simp
    all_goals (try (first | with_reducible rfl | omega))
  try simp only [Act.put]
  try simp only [List.setIfInBounds_toArray]
  try simp only [List.set_cons_zero, List.set_cons_succ]
  refine anyH_take hFr (by kernel_rfl) (i := 1) (v := ?_) (d := some 41) (by kernel_rfl) rfl rfl (by kernel_rfl) (by kernel_rfl) (by kernel_rfl) (fun _ _ _ h => h) HS0.out (Or.inl ⟨by rfl, fun w hSw => ?_⟩) ?_
  rotate_left
  · obtain ⟨s0, s1⟩ := hSw
    go_simp
    all_goals (try (first | with_reducible rfl | omega))
  try simp only [Act.put]
  try simp only [List.setIfInBounds_toArray]
  try simp only [List.set_cons_zero, List.set_cons_succ]
  refine anyH_take hFr (by kernel_rfl) (i := 2) (v := ?_) (d := some 42) (by kernel_rfl) rfl rfl (by kernel_rfl) (by kernel_rfl) (by kernel_rfl) (fun _ _ _ h => h) HS0.out (Or.inl ⟨by rfl, fun w hSw => ?_⟩) ?_
  rotate_left
  · obtain ⟨s0, s1⟩ := hSw
    go_simp
    all_goals (try (first | with_reducible rfl | omega))
  try simp only [Act.put]
  try simp only [List.setIfInBounds_toArray]
  try simp only [List.set_cons_zero, List.set_cons_succ]
  refine anyH_take hFr (by kernel_rfl) (i := 3) (v := ?_) (d := some 43) (by kernel_rfl) rfl rfl (by kernel_rfl) (by kernel_rfl) (by kernel_rfl) (fun _ _ _ h => h) HS0.out (Or.inl ⟨by rfl, fun w hSw => ?_⟩) ?_
  rotate_left
  · obtain ⟨s0, s1⟩ := hSw
    go_simp
    all_goals (try (first | with_reducible rfl | omega))
  try simp only [Act.put]
  try simp only [List.setIfInBounds_toArray]
  try simp only [List.set_cons_zero, List.set_cons_succ]
  refine anyH_take hFr (by kernel_rfl) (i := 4) (v := ?_) (d := some 44) (by kernel_rfl) rfl rfl (by kernel_rfl) (by kernel_rfl) (by kernel_rfl) (fun _ _ _ h => h) HS0.out (Or.inl ⟨by rfl, fun w hSw => ?_⟩) ?_
  rotate_left
  · obtain ⟨s0, s1⟩ := hSw
    go_simp
    all_goals (try (first | with_reducible rfl | omega))
  try simp only [Act.put]
  try simp only [List.setIfInBounds_toArray]
  try simp only [List.set_cons_zero, List.set_cons_succ]
  refine anyH_take hFr (by kernel_rfl) (i := 5) (v := ?_) (d := some 45) (by kernel_rfl) rfl rfl (by kernel_rfl) (by kernel_rfl) (by kernel_rfl) (fun _ _ _ h => h) HS0.out (Or.inl ⟨by rfl, fun w hSw => ?_⟩) ?_
  rotate_left
  · obtain ⟨s0, s1⟩ := hSw
    go_simp
    all_goals (try (first | with_reducible rfl | omega))
  try simp only [Act.put]
  try simp only [List.setIfInBounds_toArray]
  try simp only [List.set_cons_zero, List.set_cons_succ]
  refine anyH_take hFr (by kernel_rfl) (i := 6) (v := ?_) (d := some 46) (by kernel_rfl) rfl rfl (by kernel_rfl) (by kernel_rfl) (by kernel_rfl) (fun _ _ _ h => h) HS0.out (Or.inl ⟨by rfl, fun w hSw => ?_⟩) ?_
  rotate_left
  · obtain ⟨s0, s1⟩ := hSw
    go_simp
    all_goals (try (first | with_reducible rfl | omega))
  try simp only [Act.put]
  try simp only [List.setIfInBounds_toArray]
  try simp only [List.set_cons_zero, List.set_cons_succ]
  refine anyH_take hFr (by kernel_rfl) (i := 7) (v := ?_) (d := some 47) (by kernel_rfl) rfl rfl (by kernel_rfl) (by kernel_rfl) (by kernel_rfl) (fun _ _ _ h => h) HS0.out (Or.inl ⟨by rfl, fun w hSw => ?_⟩) ?_
  rotate_left
  · obtain ⟨s0, s1⟩ := hSw
    go_simp
    all_goals (try (first | with_reducible rfl | omega))
  try simp only [Act.put]
  try simp only [List.setIfInBounds_toArray]
  try simp only [List.set_cons_zero, List.set_cons_succ]
  refine anyH_take hFr (by kernel_rfl) (i := 8) (v := ?_) (d := some 48) (by kernel_rfl) rfl rfl (by kernel_rfl) (by kernel_rfl) (by kernel_rfl) (fun _ _ _ h => h) HS0.out (Or.inl ⟨by rfl, fun w hSw => ?_⟩) ?_
  rotate_left
  · obtain ⟨s0, s1⟩ := hSw
    go_simp
    all_goals (try (first | with_reducible rfl | omega))
  try simp only [Act.put]
  try simp only [List.setIfInBounds_toArray]
  try simp only [List.set_cons_zero, List.set_cons_succ]
  refine anyH_take hFr (by kernel_rfl) (i := 9) (v := ?_) (d := some 49) (by kernel_rfl) rfl rfl (by kernel_rfl) (by kernel_rfl) (by kernel_rfl) (fun _ _ _ h => h) HS0.out (Or.inl ⟨by rfl, fun w hSw => ?_⟩) ?_
  rotate_left
  · obtain ⟨s0, s1⟩ := hSw
    go_simp
    all_goals (try (first | with_reducible rfl | omega))
  try simp only [Act.put]
  try simp only [List.setIfInBounds_toArray]
  try simp only [List.set_cons_zero, List.set_cons_succ]
  refine anyH_take hFr (by kernel_rfl) (i := 10) (v := ?_) (d := some 50) (by kernel_rfl) rfl rfl (by kernel_rfl) (by kernel_rfl) (by kernel_rfl) (fun _ _ _ h => h) HS0.out (Or.inl ⟨by rfl, fun w hSw => ?_⟩) ?_
  rotate_left
  · obtain ⟨s0, s1⟩ := hSw
    go_simp
    all_goals (try (first | with_reducible rfl | omega))
  try simp only [Act.put]
  try simp only [List.setIfInBounds_toArray]
  try simp only [List.set_cons_zero, List.set_cons_succ]
  refine anyH_take hFr (by kernel_rfl) (i := 11) (v := ?_) (d := some 51) (by kernel_rfl) rfl rfl (by kernel_rfl) (by kernel_rfl) (by kernel_rfl) (fun _ _ _ h => h) HS0.out (Or.inl ⟨by rfl, fun w hSw => ?_⟩) ?_
  rotate_left
  · obtain ⟨s0, s1⟩ := hSw
    go_simp
    all_goals (try (first | with_reducible rfl | omega))
  try simp only [Act.put]
  try simp only [List.setIfInBounds_toArray]
  try simp only [List.set_cons_zero, List.set_cons_succ]
  refine anyH_take hFr (by kernel_rfl) (i := 12) (v := ?_) (d := some 52) (by kernel_rfl) rfl rfl (by kernel_rfl) (by kernel_rfl) (by kernel_rfl) (fun _ _ _ h => h) HS0.out (Or.inl ⟨by rfl, fun w hSw => ?_⟩) ?_
  rotate_left
  · obtain ⟨s0, s1⟩ := hSw
    go_simp
    all_goals (try (first | with_reducible rfl | omega))
  try simp only [Act.put]
  try simp only [List.setIfInBounds_toArray]
  try simp only [List.set_cons_zero, List.set_cons_succ]
  refine anyH_take hFr (by kernel_rfl) (i := 13) (v := ?_) (d := some 53) (by kernel_rfl) rfl rfl (by kernel_rfl) (by kernel_rfl) (by kernel_rfl) (fun _ _ _ h => h) HS0.out (Or.inl ⟨by rfl, fun w hSw => ?_⟩) ?_
  rotate_left
  · obtain ⟨s0, s1⟩ := hSw
    go_simp
    all_goals (try (first | with_reducible rfl | omega))
  try simp only [Act.put]
  try simp only [List.setIfInBounds_toArray]
  try simp only [List.set_cons_zero, List.set_cons_succ]
  refine anyH_one (i := 14) (by kernel_rfl) (op_plainW rfl (by rfl) (by simp) ?_)
  go_simp
  (first | refine ⟨fun _ => HS0.out, ?_⟩ | refine ⟨HS0.out, ?_⟩ | skip)
  try simp only [Act.put]
  try simp only [List.setIfInBounds_toArray]
  try simp only [List.set_cons_zero, List.set_cons_succ]
  refine anyH_one (i := 15) (by kernel_rfl) (op_plainW rfl (by rfl) (by simp) ?_)
  go_simp
  (first | refine ⟨by kernel_rfl, ?_⟩ | skip)
  try simp only [Act.put]
  try simp only [List.setIfInBounds_toArray]
  try simp only [List.set_cons_zero, List.set_cons_succ]
  (first | refine anyH_done (by kernel_rfl) ?_ _ | skip)
  rename_i Q' K hK
  refine hK _ _ ?_
  clear hK
  rw [← HZe.out]
  clear HZe kf kz HS0 HBY c0 c1 cz ck ff H hwq hwm c1a cza ffa hcl1 HIt
  have c1 := HGZ.out.at.c1
  by_cases h0 : m = 0
  · have hz0 : ((m : Int) == 0) = true := by rw [h0]; rfl
    have c1c := HGc.out.at.c1
    have ffc : ∀ j, Zc.frozen? ⟨b, j, none⟩ = false := HGc.out.fz
    have HG2 : Hid (SgB 33 67 (Zc.setCell ⟨b, 1, none⟩ (.slice (some ⟨g, 0, none⟩) r cap)) b B size (.slice (some ⟨g, 0, none⟩) r cap) (((P.set r (l.take m, (.slice (some ⟨gi, 0, none⟩) m ci))).set r ([], .slice none 0 0)).take r)) := by
      have h1 := HGc.out.pv
      have h2 : ((P.set r (l.take m, (.slice (some ⟨gi, 0, none⟩) m ci))).set r ([], .slice none 0 0)).length = r + 1 := by rw [List.length_set]; exact HPs.out
      rw [← h2] at h1
      exact SgB.store HGc.out.blk (h1.take r (by rw [h2]; omega)) (by decide) (by decide)
    have HK2 : Hid (KB b B w (Zc.setCell ⟨b, 1, none⟩ (.slice (some ⟨g, 0, none⟩) r cap))) := HKc.out.box _ _
    have HN : Hid ((((P.set r (l.take m, (.slice (some ⟨gi, 0, none⟩) m ci))).set r ([], .slice none 0 0)).take r).map Prod.fst = popL (P.map Prod.fst)) := by show _ = _; rw [List.set_set]; exact HNo.out h0 _
    clear HNo HSo h0
    go_wp2
    exact bodyPost_ret (v := .int .i64 x) (by simp [results, Try.results56, go_sem]) rfl ⟨rfl, _, _, HG2.out, HN.out, HK2.out⟩
  · have hz0 : ((m : Int) == 0) = false := by rw [beq_eq_false_iff_ne]; omega
    have HN : Hid ((P.set r (l.take m, (.slice (some ⟨gi, 0, none⟩) m ci))).map Prod.fst = popL (P.map Prod.fst)) := HSo.out h0 _
    clear HNo HSo h0
    go_wp2
    exact bodyPost_ret (v := .int .i64 x) (by simp [results, Try.results56, go_sem]) rfl ⟨rfl, _, _, HGZ.out, HN.out, HKZ.out⟩
end Go.Proofs.Ytienmmgkiphkdaa
