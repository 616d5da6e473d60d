/-
  The program's push puts an item on a stack: the last part, or a new one, has one item more; nothing else is turned but the stack's box.
-/
import Derived.Test.YtienmmgkiphkdaaSgBox
import Derived.Test.YtienmmgkiphkdaaSgPushM
namespace Go.Proofs.Ytienmmgkiphkdaa
open Go.RowKit Go.Extern.Stop Go.Stop Go.Extern Num Go.Lib

theorem infoIS : (Try.prog.info? 33).map (fun i => (i.zero, i.size, i.bytes)) = some (some (.slice none 0 0), 1, 24) := by kernel_rfl
set_option maxHeartbeats 2000000 in
theorem lacks_any (b B : Nat) (size : Int) (v : Value) (P : List (List Int × Value)) (w : World) (h1 : 1 ≤ size) (hl : P.length ≤ 1048576) (hm : ∀ (i : Nat) (h : i < P.length), P[i].1.length ≤ 1048576) (h : SgB 33 67 w b B size v P) :
    Calls Try.prog 74 #[.pointer (some ⟨b, 0, none⟩)] w fun e w' => e = .returned (.bool (fullL size.toNat (P.map Prod.fst))) ∧ Below w.heap.size w w' := by
  obtain ⟨R, hR⟩ : ∃ R, R = fullL size.toNat (P.map Prod.fst) := ⟨_, rfl⟩
  rw [← hR]
  obtain ⟨ao, cap, rfl⟩ := h.pv.form
  obtain ⟨c0, c1⟩ := h.at
  by_cases hP : P = []
  · obtain ⟨q, hq⟩ : ∃ q, q = P.length := ⟨_, rfl⟩
    have hz : ((q : Int) == 0) = true := by rw [hq, hP]; rfl
    have hql : q ≤ 1048576 := by omega
    have HR : Hid (R = true) := by show _ = _; rw [hR, hP]; simp [fullL]
    rw [← hq] at c1
    have a0 : ∀ p : BW w, p.x.cell? ⟨b, 0, none⟩ = some (.int .i64 size) := fun p => p.cell c0
    have a1 : ∀ p : BW w, p.x.cell? ⟨b, 1, none⟩ = some (.slice ao q cap) := fun p => p.cell c1
    have hne := bw_some w
    clear hP hq hR h hm
    go_enter Try.func74, Try.ntmps74
    go_wp2_with fail
    refine wp_region_below (by kernel_rfl) (by kernel_rfl) ?_
    repeat (go_big_quiet_step (fail))
    refine wpQuiet_nil ?_
    intro w0 hw'
    obtain ⟨⟨_, bq⟩, rfl⟩ := hw'
    have HB : Hid _ := bq
    clear bq hne a0 a1 c0 c1
    go_wp2
    go_ret
    exact ⟨by rw [HR.out]; rfl, HB.out⟩
  · obtain ⟨r, hr⟩ : ∃ r, P.length = r + 1 := ⟨P.length - 1, by have := List.length_pos_iff.2 hP; omega⟩
    have hrl : r < P.length := by omega
    have hfe := full_eq h1 hr hrl
    obtain ⟨l, hlE⟩ : ∃ l, l = P[r].1 := ⟨_, rfl⟩
    have hll : l.length ≤ 1048576 := by rw [hlE]; exact hm r hrl
    have hit := h.pv.iv.items r hrl
    obtain ⟨ai, ci, hxi⟩ := own_form hit
    rw [← hlE] at hxi hfe
    have HR : Hid (R = ((l.length : Int) == size)) := by show _ = _; rw [hR, hfe]
    obtain ⟨g, c, hv, _, _⟩ := h.pv.row.form (by omega)
    obtain ⟨rfl, rfl⟩ : ao = some ⟨g, 0, none⟩ ∧ cap = c := by simp at hv; exact hv
    have cz := rowP_at h.pv.row r hrl
    rw [hxi] at cz
    rw [hr] at c1
    have hrb : r ≤ 1048576 := by omega
    have a0 : ∀ p : BW w, p.x.cell? ⟨b, 0, none⟩ = some (.int .i64 size) := fun p => p.cell c0
    have a1 : ∀ p : BW w, p.x.cell? ⟨b, 1, none⟩ = some (.slice (some ⟨g, 0, none⟩) (r + 1) cap) := fun p => p.cell c1
    have a2 : ∀ p : BW w, p.x.cell? ⟨g, r, none⟩ = some (.slice ai l.length ci) := fun p => p.cell cz
    have hne := bw_some w
    have hr0 : ((r : Int) + 1 == 0) = false := by rw [beq_eq_false_iff_ne]; omega
    clear hfe hr hrl cz hit hxi hlE hv hP hR h hm hl
    obtain ⟨m, hm⟩ : ∃ m, m = l.length := ⟨_, rfl⟩
    rw [← hm] at hll HR a2
    clear hm
    go_enter Try.func74, Try.ntmps74
    go_wp2_with fail
    refine wp_region_below (by kernel_rfl) (by kernel_rfl) ?_
    repeat (go_big_quiet_step (fail))
    refine wpQuiet_nil ?_
    intro w0 hw'
    obtain ⟨⟨_, bq⟩, rfl⟩ := hw'
    have HB : Hid _ := bq
    clear bq hne a0 a1 a2 c0 c1
    go_wp2
    go_ret
    exact ⟨by rw [HR.out]; rfl, HB.out⟩
set_option maxRecDepth 100000 in
set_option maxHeartbeats 4000000 in
theorem push_any (b B : Nat) (size item : Int) (v : Value) (P : List (List Int × Value)) (w : World) (hB : B ≤ w.heap.size) (h1 : 1 ≤ size) (hl : P.length ≤ 1048576) (hm : ∀ (i : Nat) (h : i < P.length), P[i].1.length ≤ 1048576) (h : SgB 33 67 w b B size v P) :
    Calls Try.prog 49 #[.pointer (some ⟨b, 0, none⟩), .int .i64 item] w fun e w' => e = .returned (.tuple #[]) ∧ ∃ v' P', SgB 33 67 w' b B size v' P' ∧ P'.map Prod.fst = pushL size.toNat (P.map Prod.fst) item ∧ KB b B w w' := by
  obtain ⟨i0, hi, hz0, hz1, hz2⟩ := info_parts infoI
  obtain ⟨j0, hj, hy0, hy1, hy2⟩ := info_parts infoIS
  have H : Hid (SgB 33 67 w b B size v P) := h
  have hmix : Try.prog.follows .mixedOrders = true := by kernel_rfl
  obtain ⟨ao, cap, rfl⟩ := h.pv.form
  obtain ⟨c0, c1⟩ := h.at
  have ff : ∀ j, w.frozen? ⟨b, j, none⟩ = false := h.fz
  clear h
  have HL : Hid (∀ u, Below w.heap.size w u → Calls Try.prog 74 #[.pointer (some ⟨b, 0, none⟩)] u fun e w' => e = .returned (.bool (fullL size.toNat (P.map Prod.fst))) ∧ Below u.heap.size u w') := fun u hu => lacks_any b B size _ P u h1 hl hm (H.out.below hu)
  cases hfl : fullL size.toNat (P.map Prod.fst) with
  | true =>
    rw [hfl] at HL
    obtain ⟨q, hq⟩ : ∃ q, q = P.length := ⟨_, rfl⟩
    have HQ : Hid (P.length = q) := hq.symm
    have hql : q ≤ 1048576 := by omega
    have HFl : Hid (fullL size.toNat (P.map Prod.fst) = true) := hfl
    rw [← hq] at H c1
    clear hfl hq hm hl
    go_enter Try.func49, Try.ntmps49
    go_wp2_with fail
    refine (HL.out _ (Below.refl _ _)).mono ?_
    rintro e w0 ⟨rfl, bq⟩
    have H0 : Hid (SgB 33 67 w0 b B size (.slice ao q cap) P) := H.out.below bq
    have HK0 : Hid (KB b B w w0) := (KB.refl _ _ _).below bq
    clear bq c0 c1 ff H HL
    have HA1 : Hid (∀ o, SgB 33 67 (w0.alloc o) b B size (.slice ao q cap) P) := fun o => H0.out.below ((Below.refl _ _).alloc (Nat.le_refl _) _)
    have HR1 : Hid (∀ o, (w0.alloc o).ownsRow B 33 1 (.slice ao q cap) q (P.map Prod.snd)) := fun o => by have := (HA1.out o).pv.row; rw [HQ.out] at this; exact this
    have hzB : B ≤ w0.heap.size := Nat.le_trans hB HK0.out.size
    obtain ⟨c0, c1⟩ := H0.out.at
    have ff : ∀ j, w0.frozen? ⟨b, j, none⟩ = false := H0.out.fz
    go_wp2_with (at_builtin; refine wpList_append_lies _ rfl (.tmp 11) (.tmp 12) 65 rfl B 33 j0 _ 1 24 Try.underlying65 hj hy0 hy1 hy2 rfl (by decide) _ q (P.map Prod.snd) rfl (HR1.out _) ⟨_, 0, none⟩ 1 1 [.slice none 0 0] rfl rfl ?c1 ?c2 (by decide) ?c3 ?c4 ?c5 _ rfl ?_)
    case c1 => exact World.news_of_block (cs := #[.slice none 0 0]) (t := 33) (fr := (0, 0)) (heap_new' _ _ _ (by simp))
    case c2 => intro u hu; simp at hu; subst hu; rfl
    case c3 => unfold maxLen; omega
    case c4 => omega
    case c5 => simp; omega
    intro g c w4 hown4 hgrow4 _ _
    have hbn := (HA1.out (.cells #[.slice none 0 0] 33)).far (by decide) (by decide)
    have HPn : PV 33 w4 B (.slice (some ⟨g, 0, none⟩) (q + 1) c) (P ++ [([], Value.slice none 0 0)]) := (HA1.out _).pv.snoc (by decide) HQ.out.symm (iv_none (HA1.out _).pv.iv) hown4 hgrow4
    have hbk : w4.heap[b]? = some (.cells #[.int .i64 size, .slice ao q cap] 67) := blk_grown (HA1.out _).blk hgrow4 (fun e => hbn b (.inl e.symm) rfl)
    have d1 : w4.cell? ⟨b, 1, none⟩ = some (.slice ao q cap) := by rw [cell_of_row w4 b 1 _ _ _ hbk]; rfl
    have df : ∀ j, w4.frozen? ⟨b, j, none⟩ = false := fun j => by simp [World.frozen?, hbk]
    obtain ⟨X, hX⟩ : ∃ X, X = w4.setCell ⟨b, 1, none⟩ (.slice (some ⟨g, 0, none⟩) (q + 1) c) := ⟨_, rfl⟩
    have HXe : Hid (X = w4.setCell ⟨b, 1, none⟩ (.slice (some ⟨g, 0, none⟩) (q + 1) c)) := hX
    have HG : Hid (SgB 33 67 X b B size (.slice (some ⟨g, 0, none⟩) (q + 1) c) (P ++ [([], Value.slice none 0 0)])) := by rw [hX]; exact SgB.store hbk HPn (by decide) (by decide)
    have HK : Hid (KB b B w X) := by rw [hX]; exact ((HK0.out.below ((Below.refl _ _).alloc (Nat.le_refl _) _)).grown hgrow4 (fun x hx => ((HA1.out (.cells #[.slice none 0 0] 33)).pv.foot (.inl hx)).1)).box _ _
    obtain ⟨P2, hP2⟩ : ∃ P2, P2 = P ++ [([], Value.slice none 0 0)] := ⟨_, rfl⟩
    have HP2 : Hid (P2.length = q + 1 ∧ ∀ h : q < P2.length, P2[q] = ([], .slice none 0 0)) := ⟨by rw [hP2, List.length_append, HQ.out]; rfl, fun h => by
      have hq := HQ.out
      subst hP2
      rw [List.getElem_append_right (by omega)]
      simp [hq]⟩
    rw [← hP2] at HG
    have hzX : B ≤ X.heap.size := Nat.le_trans hB HK.out.size
    obtain ⟨l, hlE⟩ : ∃ l : List Int, l = [] := ⟨_, rfl⟩
    obtain ⟨ai, hai⟩ : ∃ ai : Option Addr, ai = none := ⟨_, rfl⟩
    obtain ⟨ci, hci⟩ : ∃ ci : Nat, ci = 0 := ⟨_, rfl⟩
    have hx0 : Value.slice none 0 0 = .slice ai l.length ci := by rw [hlE, hai, hci]; rfl
    rw [hx0, ← hlE] at HP2
    have HRes : Hid (∀ v, (P2.set q (l ++ [item], v)).map Prod.fst = pushL size.toNat (P.map Prod.fst) item) := fun v => by rw [hP2, hlE, ← HQ.out]; exact push_new HFl.out item v _
    have cz : X.cell? ⟨g, q, none⟩ = some (.slice ai l.length ci) := by
      have hq2 : q < P2.length := by rw [HP2.out.1]; omega
      have := rowP_at HG.out.pv.row _ hq2
      rw [HP2.out.2 hq2] at this
      exact this
    have hll : l.length ≤ 1048576 := by rw [hlE]; simp
    clear hown4 hgrow4 hbn HPn hbk HA1 HR1 c0 c1 ff hX hP2 hlE hai hci hx0 H0 HK0
    go_upto_region 3 with fail
    rw [← HXe.out]
    clear HXe d1 df
    have c1 := HG.out.at.c1
    obtain ⟨Y, hY⟩ : ∃ Y, Y = X.drew := ⟨_, rfl⟩
    have HBY : Hid (Below X.heap.size X Y) := by rw [hY]; exact (Below.refl _ _).drew
    have HGY : Hid (SgB 33 67 Y b B size (.slice (some ⟨g, 0, none⟩) (q + 1) c) P2) := HG.out.below HBY.out
    have HS0 : Hid (SPu Y b g q (.slice (some ⟨g, 0, none⟩) (q + 1) c) (.slice ai l.length ci)) := ⟨HGY.out.at.c1, cell_keep HBY.out cz⟩
    have hzY : B ≤ Y.heap.size := Nat.le_trans hzX HBY.out.size
    have hFr : ∀ f, Fence.wide.fn f := fun _ => trivial
    have hwq : IntKind.i64.wrap ((q : Int)) = ((q : Int)) := wrap_id _ (by omega) (by omega)
    have hwl : ((q : Int)) < ((q : Int)) + 1 := by omega
    have hw0 : 0 ≤ ((q : Int)) := by omega
    go_upto_region 3 with fail
    refine (wpIn_wide (n := 0)).1 ?_
    refine region_anyH (z := 16) (S := fun u : World => SPu u b g q (.slice (some ⟨g, 0, none⟩) (q + 1) c) (.slice ai l.length ci)) (by kernel_rfl) ?_
    rw [← hY]
    clear hY cz c1 HG
    refine anyH_take hFr (by kernel_rfl) (i := 0) (v := ?_) (d := some 22) (by kernel_rfl) rfl rfl (by kernel_rfl) (by kernel_rfl) (by kernel_rfl) (fun _ _ _ h => h) HS0.out (Or.inl ⟨by rfl, fun w hSw => ?_⟩) ?_
    rotate_left
    · obtain ⟨s0, s1⟩ := hSw
      go_simp
      all_goals (try (first | with_reducible rfl | omega))
    try simp only [Act.put]
    try simp only [List.setIfInBounds_toArray]
    try simp only [List.set_cons_zero, List.set_cons_succ]
    refine anyH_take hFr (by kernel_rfl) (i := 1) (v := ?_) (d := some 23) (by kernel_rfl) rfl rfl (by kernel_rfl) (by kernel_rfl) (by kernel_rfl) (fun _ _ _ h => h) HS0.out (Or.inl ⟨by rfl, fun w hSw => ?_⟩) ?_
    rotate_left
    · obtain ⟨s0, s1⟩ := hSw
      go_simp
      all_goals (try (first | with_reducible rfl | omega))
    try simp only [Act.put]
    try simp only [List.setIfInBounds_toArray]
    try simp only [List.set_cons_zero, List.set_cons_succ]
    refine anyH_take hFr (by kernel_rfl) (i := 2) (v := ?_) (d := some 24) (by kernel_rfl) rfl rfl (by kernel_rfl) (by kernel_rfl) (by kernel_rfl) (fun _ _ _ h => h) HS0.out (Or.inl ⟨by rfl, fun w hSw => ?_⟩) ?_
    rotate_left
    · obtain ⟨s0, s1⟩ := hSw
      go_simp
      all_goals (try (first | with_reducible rfl | omega))
    try simp only [Act.put]
    try simp only [List.setIfInBounds_toArray]
    try simp only [List.set_cons_zero, List.set_cons_succ]
    refine anyH_take hFr (by kernel_rfl) (i := 3) (v := ?_) (d := some 25) (by kernel_rfl) rfl rfl (by kernel_rfl) (by kernel_rfl) (by kernel_rfl) (fun _ _ _ h => h) HS0.out (Or.inl ⟨by rfl, fun w hSw => ?_⟩) ?_
    rotate_left
    · obtain ⟨s0, s1⟩ := hSw
      go_simp
      all_goals (try (first | with_reducible rfl | omega))
    try simp only [Act.put]
    try simp only [List.setIfInBounds_toArray]
    try simp only [List.set_cons_zero, List.set_cons_succ]
    refine anyH_take hFr (by kernel_rfl) (i := 4) (v := ?_) (d := some 26) (by kernel_rfl) rfl rfl (by kernel_rfl) (by kernel_rfl) (by kernel_rfl) (fun _ _ _ h => h) HS0.out (Or.inl ⟨by rfl, fun w hSw => ?_⟩) ?_
    rotate_left
    · obtain ⟨s0, s1⟩ := hSw
      go_simp
      all_goals (try (first | with_reducible rfl | omega))
    try simp only [Act.put]
    try simp only [List.setIfInBounds_toArray]
    try simp only [List.set_cons_zero, List.set_cons_succ]
    refine anyH_take hFr (by kernel_rfl) (i := 5) (v := ?_) (d := some 27) (by kernel_rfl) rfl rfl (by kernel_rfl) (by kernel_rfl) (by kernel_rfl) (fun _ _ _ h => h) HS0.out (Or.inl ⟨by rfl, fun w hSw => ?_⟩) ?_
    rotate_left
    · obtain ⟨s0, s1⟩ := hSw
      go_simp
      all_goals (try (first | with_reducible rfl | omega))
    try simp only [Act.put]
    try simp only [List.setIfInBounds_toArray]
    try simp only [List.set_cons_zero, List.set_cons_succ]
    refine anyH_take hFr (by kernel_rfl) (i := 6) (v := ?_) (d := some 28) (by kernel_rfl) rfl rfl (by kernel_rfl) (by kernel_rfl) (by kernel_rfl) (fun _ _ _ h => h) HS0.out (Or.inl ⟨by rfl, fun w hSw => ?_⟩) ?_
    rotate_left
    · obtain ⟨s0, s1⟩ := hSw
      go_simp
      all_goals (try (first | with_reducible rfl | omega))
    try simp only [Act.put]
    try simp only [List.setIfInBounds_toArray]
    try simp only [List.set_cons_zero, List.set_cons_succ]
    refine anyH_take hFr (by kernel_rfl) (i := 7) (v := ?_) (d := some 29) (by kernel_rfl) rfl rfl (by kernel_rfl) (by kernel_rfl) (by kernel_rfl) (fun _ _ _ h => h) HS0.out (Or.inl ⟨by rfl, fun w hSw => ?_⟩) ?_
    rotate_left
    · obtain ⟨s0, s1⟩ := hSw
      go_simp
      all_goals (try (first | with_reducible rfl | omega))
    try simp only [Act.put]
    try simp only [List.setIfInBounds_toArray]
    try simp only [List.set_cons_zero, List.set_cons_succ]
    refine anyH_take hFr (by kernel_rfl) (i := 8) (v := ?_) (d := some 30) (by kernel_rfl) rfl rfl (by kernel_rfl) (by kernel_rfl) (by kernel_rfl) (fun _ _ _ h => h) HS0.out (Or.inl ⟨by rfl, fun w hSw => ?_⟩) ?_
    rotate_left
    · obtain ⟨s0, s1⟩ := hSw
      go_simp
      all_goals (try (first | with_reducible rfl | omega))
    try simp only [Act.put]
    try simp only [List.setIfInBounds_toArray]
    try simp only [List.set_cons_zero, List.set_cons_succ]
    refine anyH_take hFr (by kernel_rfl) (i := 9) (v := ?_) (d := some 31) (by kernel_rfl) rfl rfl (by kernel_rfl) (by kernel_rfl) (by kernel_rfl) (fun _ _ _ h => h) HS0.out (Or.inl ⟨by rfl, fun w hSw => ?_⟩) ?_
    rotate_left
    · obtain ⟨s0, s1⟩ := hSw
      go_simp
      all_goals (try (first | with_reducible rfl | omega))
    try simp only [Act.put]
    try simp only [List.setIfInBounds_toArray]
    try simp only [List.set_cons_zero, List.set_cons_succ]
    refine anyH_take hFr (by kernel_rfl) (i := 10) (v := ?_) (d := some 32) (by kernel_rfl) rfl rfl (by kernel_rfl) (by kernel_rfl) (by kernel_rfl) (fun _ _ _ h => h) HS0.out (Or.inl ⟨by rfl, fun w hSw => ?_⟩) ?_
    rotate_left
    · obtain ⟨s0, s1⟩ := hSw
      go_simp
      all_goals (try (first | with_reducible rfl | omega))
    try simp only [Act.put]
    try simp only [List.setIfInBounds_toArray]
    try simp only [List.set_cons_zero, List.set_cons_succ]
    refine anyH_take hFr (by kernel_rfl) (i := 11) (v := ?_) (d := some 33) (by kernel_rfl) rfl rfl (by kernel_rfl) (by kernel_rfl) (by kernel_rfl) (fun _ _ _ h => h) HS0.out (Or.inl ⟨by rfl, fun w hSw => ?_⟩) ?_
    rotate_left
    · obtain ⟨s0, s1⟩ := hSw
      go_simp
      all_goals (try (first | with_reducible rfl | omega))
    try simp only [Act.put]
    try simp only [List.setIfInBounds_toArray]
    try simp only [List.set_cons_zero, List.set_cons_succ]
    refine anyH_take hFr (by kernel_rfl) (i := 12) (v := ?_) (d := some 34) (by kernel_rfl) rfl rfl (by kernel_rfl) (by kernel_rfl) (by kernel_rfl) (fun _ _ _ h => h) HS0.out (Or.inl ⟨by rfl, fun w hSw => ?_⟩) ?_
    rotate_left
    · obtain ⟨s0, s1⟩ := hSw
      go_simp
      all_goals (try (first | with_reducible rfl | omega))
    try simp only [Act.put]
    try simp only [List.setIfInBounds_toArray]
    try simp only [List.set_cons_zero, List.set_cons_succ]
    refine anyH_one (i := 13) (by kernel_rfl) (op_plainW rfl (by rfl) (by simp) ?_)
    go_simp
    obtain ⟨y7, hy7⟩ : ∃ y7, y7 = Y.alloc (.cells #[.int .i64 item] 2) := ⟨_, rfl⟩
    have HB7 : Hid (Below Y.heap.size Y y7) := by rw [hy7]; exact (Below.refl _ _).alloc (Nat.le_refl _) _
    have HS7 : Hid (SPu y7 b g q (.slice (some ⟨g, 0, none⟩) (q + 1) c) (.slice ai l.length ci)) := HS0.out.below HB7.out
    have HN7 : Hid (y7.heap[Y.heap.size]? = some (.cells #[.int .i64 item] 2)) := by rw [hy7]; exact heap_alloc_new _ _
    rw [← hy7]
    clear hy7
    (first | refine ⟨fun _ => HS7.out, ?_⟩ | refine ⟨HS7.out, ?_⟩ | skip)
    try simp only [Act.put]
    try simp only [List.setIfInBounds_toArray]
    try simp only [List.set_cons_zero, List.set_cons_succ]
    have HG7 : Hid (SgB 33 67 y7 b B size (.slice (some ⟨g, 0, none⟩) (q + 1) c) P2) := HGY.out.below HB7.out
    have hq2 : q < P2.length := by rw [HP2.out.1]; omega
    have HO7 : Hid (y7.ownsRow B 2 1 (.slice ai l.length ci) l.length (cellsI l)) := by have := HG7.out.pv.iv.items _ hq2; rw [HP2.out.2 hq2] at this; exact this
    refine anyH_one (i := 14) (by kernel_rfl) (op_plainW rfl (by rfl) (by simp) ?_)
    refine wp_append_lies _ (.tmp 33) (.tmp 35) 33 rfl B 2 i0 _ 1 8 Try.underlying33 hi hz0 hz1 hz2 rfl (by decide) _ l.length (cellsI l) rfl HO7.out ⟨Y.heap.size, 0, none⟩ 1 1 [.int .i64 item] rfl rfl (World.news_of_block (cs := #[.int .i64 item]) (t := 2) (fr := (0, 0)) HN7.out) (by simp [Value.oneCell']) (by decide) (by unfold maxLen; omega) (by omega) (by have := HB7.out.size; omega) _ rfl ?_
    intro g' cap' w8 hown hgrow hat _
    have e2 : P2[q].2 = (.slice ai l.length ci) := by rw [HP2.out.2 hq2]
    have hown' : w8.ownsRow B 2 1 (.slice (some ⟨g', 0, none⟩) (l.length + 1) cap') (l ++ [item]).length (cellsI (l ++ [item])) := by rw [cellsI_append, List.length_append]; exact hown
    have HT8 : Hid (PV 33 (w8.setCell ⟨g, q, none⟩ (.slice (some ⟨g', 0, none⟩) (l.length + 1) cap')) B (.slice (some ⟨g, 0, none⟩) (q + 1) c) (P2.set q (l ++ [item], .slice (some ⟨g', 0, none⟩) (l.length + 1) cap'))) := HG7.out.pv.turn (k := q) (l := l ++ [item]) (v := .slice (some ⟨g', 0, none⟩) (l.length + 1) cap') (by decide) hq2 (by rw [e2]; exact hgrow) hown' (fun x hx => by
        have hx' : g' = x := by simpa [Value.ownBlock] using hx
        rcases hat with e | e
        · exact .inl (by rw [e2, ← hx']; exact e)
        · exact .inr (by omega))
    have hnb : some b ≠ (Value.slice ai l.length ci).ownBlock := fun e => HG7.out.far (by decide) (by decide) b (.inr ⟨_, hq2, by rw [e2]; exact e.symm⟩) rfl
    have hng : some g ≠ (Value.slice ai l.length ci).ownBlock := fun e => typ_ne (HG7.out.pv.iv.items _ hq2) HG7.out.pv.row (by decide) g (by rw [e2]; exact e.symm) rfl
    have HS8 : Hid (SPu w8 b g q (.slice (some ⟨g, 0, none⟩) (q + 1) c) (.slice ai l.length ci)) := ⟨hgrow.cell HS7.out.c hnb, hgrow.cell HS7.out.z hng⟩
    have HBk : Hid ((w8.setCell ⟨g, q, none⟩ (.slice (some ⟨g', 0, none⟩) (l.length + 1) cap')).heap[b]? = some (.cells #[.int .i64 size, (.slice (some ⟨g, 0, none⟩) (q + 1) c)] 67)) := by
      show _ = _
      rw [Below.heap_setCell _ _ _ _ (fun e => HG7.out.far (by decide) (by decide) g (.inl rfl) e.symm)]
      exact blk_grown HG7.out.blk hgrow hnb
    have HKb : Hid (KB b B w (w8.setCell ⟨g, q, none⟩ (.slice (some ⟨g', 0, none⟩) (l.length + 1) cap'))) := (((HK.out.below HBY.out).below HB7.out).grown hgrow (fun x hx => (HG7.out.pv.foot (.inr ⟨_, hq2, by rw [e2]; exact hx⟩)).1)).high (HG7.out.pv.foot (.inl rfl)).1 _ _
    have hpn : P2.length = q + 1 := HP2.out.1
    have hrow8 : w8.ownsRow B 33 1 (.slice (some ⟨g, 0, none⟩) P2.length c) P2.length (P2.map Prod.snd) := by
      have := own_apart HG7.out.pv.row hgrow (fun x hx e => hng (by
        have hx' : g = x := by simpa [Value.ownBlock] using hx
        rw [hx']; exact e.symm))
      rw [hpn]; rw [hpn] at this; exact this
    have kf : ∀ j, w8.frozen? ⟨g, j, none⟩ = false := own_frozen hrow8
    have kz : w8.cell? ⟨g, q, none⟩ = some (.slice ai l.length ci) := HS8.out.z
    clear hown hgrow hat hown' hnb hng e2 hq2 HG7 HO7 HN7 HB7 HS7 HGY HBY hpn hrow8
    (first | refine ⟨fun _ => HS8.out, ?_⟩ | refine ⟨HS8.out, ?_⟩ | skip)
    try simp only [Act.put]
    try simp only [List.setIfInBounds_toArray]
    try simp only [List.set_cons_zero, List.set_cons_succ]
    refine anyH_one (i := 15) (by kernel_rfl) (op_plainW rfl (by rfl) (by simp) ?_)
    go_simp
    (first | refine ⟨fun _ => HS8.out, ?_⟩ | refine ⟨HS8.out, ?_⟩ | skip)
    try simp only [Act.put]
    try simp only [List.setIfInBounds_toArray]
    try simp only [List.set_cons_zero, List.set_cons_succ]
    refine anyH_one (i := 16) (by kernel_rfl) (op_plainW rfl (by rfl) (by simp) ?_)
    go_simp
    (first | refine ⟨by kernel_rfl, ?_⟩ | skip)
    try simp only [Act.put]
    try simp only [List.setIfInBounds_toArray]
    try simp only [List.set_cons_zero, List.set_cons_succ]
    (first | refine anyH_done (by kernel_rfl) ?_ _ | skip)
    clear kf kz HS8 HS0
    exact bodyPost_end (v := .tuple #[]) (by simp [results, Try.results49]) rfl ⟨rfl, _, _, ⟨HBk.out, HT8.out⟩, HRes.out _, HKb.out⟩
  | false =>
    rw [hfl] at HL
    have hP : P ≠ [] := by intro e; rw [e] at hfl; simp [fullL] at hfl
    obtain ⟨r, hr⟩ : ∃ r, P.length = r + 1 := ⟨P.length - 1, by have := List.length_pos_iff.2 hP; omega⟩
    have hrl : r < P.length := by omega
    have hfe := full_eq h1 hr hrl
    obtain ⟨l, hlE⟩ : ∃ l, l = P[r].1 := ⟨_, rfl⟩
    have hll : l.length ≤ 1048576 := by rw [hlE]; exact hm r hrl
    have hit := H.out.pv.iv.items r hrl
    obtain ⟨ai, ci, hxi⟩ := own_form hit
    rw [← hlE] at hxi hfe
    have hPr : P[r] = (l, .slice ai l.length ci) := by rw [hlE] at hxi ⊢; rw [← hxi]
    rw [hfl] at hfe
    rw [hr] at H c1
    have HQ : Hid (P.length = r + 1) := hr
    have hrb : r ≤ 1048576 := by omega
    obtain ⟨g, c, hv, _, _⟩ := H.out.pv.row.form (by omega)
    obtain ⟨rfl, rfl⟩ : ao = some ⟨g, 0, none⟩ ∧ cap = c := by simp at hv; exact ⟨hv.1, hv.2.2⟩
    have HCz : Hid (w.cell? ⟨g, r, none⟩ = some (.slice ai l.length ci)) := by have := rowP_at H.out.pv.row r hrl; rw [hPr] at this; exact this
    have HRes : Hid (∀ v, (P.set r (l ++ [item], v)).map Prod.fst = pushL size.toNat (P.map Prod.fst) item) := fun v => push_last h1 hr hrl hlE.symm hfe.symm item v
    have HP2 : Hid (P.length = r + 1 ∧ ∀ h : r < P.length, P[r] = (l, .slice ai l.length ci)) := ⟨hr, fun _ => hPr⟩
    clear hit hxi hPr hlE hm hv hP hl hfl hfe hr hrl
    go_enter Try.func49, Try.ntmps49
    go_wp2_with fail
    refine (HL.out _ (Below.refl _ _)).mono ?_
    rintro e X ⟨rfl, bq⟩
    have HG0 : Hid (SgB 33 67 X b B size (.slice (some ⟨g, 0, none⟩) (r + 1) cap) P) := H.out.below bq
    have HK : Hid (KB b B w X) := (KB.refl _ _ _).below bq
    have cz : X.cell? ⟨g, r, none⟩ = some (.slice ai l.length ci) := cell_keep bq HCz.out
    have hzX : B ≤ X.heap.size := Nat.le_trans hB bq.size
    obtain ⟨P2, hP2⟩ : ∃ P2, P2 = P := ⟨_, rfl⟩
    obtain ⟨c, hcc⟩ : ∃ c, c = cap := ⟨_, rfl⟩
    have HRes2 : Hid (∀ v, (P2.set r (l ++ [item], v)).map Prod.fst = pushL size.toNat (P.map Prod.fst) item) := by subst hP2; exact HRes.out
    rw [← hP2] at HG0 HP2
    rw [← hcc] at HG0
    clear bq c0 c1 ff H hP2 hcc HRes HL HCz
    have HRes := HRes2
    have HG := HG0
    clear HRes2 HG0
    have c1 := HG.out.at.c1
    obtain ⟨Y, hY⟩ : ∃ Y, Y = X.drew := ⟨_, rfl⟩
    have HBY : Hid (Below X.heap.size X Y) := by rw [hY]; exact (Below.refl _ _).drew
    have HGY : Hid (SgB 33 67 Y b B size (.slice (some ⟨g, 0, none⟩) (r + 1) c) P2) := HG.out.below HBY.out
    have HS0 : Hid (SPu Y b g r (.slice (some ⟨g, 0, none⟩) (r + 1) c) (.slice ai l.length ci)) := ⟨HGY.out.at.c1, cell_keep HBY.out cz⟩
    have hzY : B ≤ Y.heap.size := Nat.le_trans hzX HBY.out.size
    have hFr : ∀ f, Fence.wide.fn f := fun _ => trivial
    have hwq : IntKind.i64.wrap ((r : Int)) = ((r : Int)) := wrap_id _ (by omega) (by omega)
    have hwl : ((r : Int)) < ((r : Int)) + 1 := by omega
    have hw0 : 0 ≤ ((r : Int)) := by omega
    go_upto_region 3 with fail
    refine (wpIn_wide (n := 0)).1 ?_
    refine region_anyH (z := 16) (S := fun u : World => SPu u b g r (.slice (some ⟨g, 0, none⟩) (r + 1) c) (.slice ai l.length ci)) (by kernel_rfl) ?_
    rw [← hY]
    clear hY cz c1 HG
    refine anyH_take hFr (by kernel_rfl) (i := 0) (v := ?_) (d := some 22) (by kernel_rfl) rfl rfl (by kernel_rfl) (by kernel_rfl) (by kernel_rfl) (fun _ _ _ h => h) HS0.out (Or.inl ⟨by rfl, fun w hSw => ?_⟩) ?_
    rotate_left
    · obtain ⟨s0, s1⟩ := hSw
      go_simp
      all_goals (try (first | with_reducible rfl | omega))
    try simp only [Act.put]
    try simp only [List.setIfInBounds_toArray]
    try simp only [List.set_cons_zero, List.set_cons_succ]
    refine anyH_take hFr (by kernel_rfl) (i := 1) (v := ?_) (d := some 23) (by kernel_rfl) rfl rfl (by kernel_rfl) (by kernel_rfl) (by kernel_rfl) (fun _ _ _ h => h) HS0.out (Or.inl ⟨by rfl, fun w hSw => ?_⟩) ?_
    rotate_left
    · obtain ⟨s0, s1⟩ := hSw
      go_simp
      all_goals (try (first | with_reducible rfl | omega))
    try simp only [Act.put]
    try simp only [List.setIfInBounds_toArray]
    try simp only [List.set_cons_zero, List.set_cons_succ]
    refine anyH_take hFr (by kernel_rfl) (i := 2) (v := ?_) (d := some 24) (by kernel_rfl) rfl rfl (by kernel_rfl) (by kernel_rfl) (by kernel_rfl) (fun _ _ _ h => h) HS0.out (Or.inl ⟨by rfl, fun w hSw => ?_⟩) ?_
    rotate_left
    · obtain ⟨s0, s1⟩ := hSw
      go_simp
      all_goals (try (first | with_reducible rfl | omega))
    try simp only [Act.put]
    try simp only [List.setIfInBounds_toArray]
    try simp only [List.set_cons_zero, List.set_cons_succ]
    refine anyH_take hFr (by kernel_rfl) (i := 3) (v := ?_) (d := some 25) (by kernel_rfl) rfl rfl (by kernel_rfl) (by kernel_rfl) (by kernel_rfl) (fun _ _ _ h => h) HS0.out (Or.inl ⟨by rfl, fun w hSw => ?_⟩) ?_
    rotate_left
    · obtain ⟨s0, s1⟩ := hSw
      go_simp
      all_goals (try (first | with_reducible rfl | omega))
    try simp only [Act.put]
    try simp only [List.setIfInBounds_toArray]
    try simp only [List.set_cons_zero, List.set_cons_succ]
    refine anyH_take hFr (by kernel_rfl) (i := 4) (v := ?_) (d := some 26) (by kernel_rfl) rfl rfl (by kernel_rfl) (by kernel_rfl) (by kernel_rfl) (fun _ _ _ h => h) HS0.out (Or.inl ⟨by rfl, fun w hSw => ?_⟩) ?_
    rotate_left
    · obtain ⟨s0, s1⟩ := hSw
      go_simp
      all_goals (try (first | with_reducible rfl | omega))
    try simp only [Act.put]
    try simp only [List.setIfInBounds_toArray]
    try simp only [List.set_cons_zero, List.set_cons_succ]
    refine anyH_take hFr (by kernel_rfl) (i := 5) (v := ?_) (d := some 27) (by kernel_rfl) rfl rfl (by kernel_rfl) (by kernel_rfl) (by kernel_rfl) (fun _ _ _ h => h) HS0.out (Or.inl ⟨by rfl, fun w hSw => ?_⟩) ?_
    rotate_left
    · obtain ⟨s0, s1⟩ := hSw
      go_simp
      all_goals (try (first | with_reducible rfl | omega))
    try simp only [Act.put]
    try simp only [List.setIfInBounds_toArray]
    try simp only [List.set_cons_zero, List.set_cons_succ]
    refine anyH_take hFr (by kernel_rfl) (i := 6) (v := ?_) (d := some 28) (by kernel_rfl) rfl rfl (by kernel_rfl) (by kernel_rfl) (by kernel_rfl) (fun _ _ _ h => h) HS0.out (Or.inl ⟨by rfl, fun w hSw => ?_⟩) ?_
    rotate_left
    · obtain ⟨s0, s1⟩ := hSw
      go_simp
      all_goals (try (first | with_reducible rfl | omega))
    try simp only [Act.put]
    try simp only [List.setIfInBounds_toArray]
    try simp only [List.set_cons_zero, List.set_cons_succ]
    refine anyH_take hFr (by kernel_rfl) (i := 7) (v := ?_) (d := some 29) (by kernel_rfl) rfl rfl (by kernel_rfl) (by kernel_rfl) (by kernel_rfl) (fun _ _ _ h => h) HS0.out (Or.inl ⟨by rfl, fun w hSw => ?_⟩) ?_
    rotate_left
    · obtain ⟨s0, s1⟩ := hSw
      go_simp
      all_goals (try (first | with_reducible rfl | omega))
    try simp only [Act.put]
    try simp only [List.setIfInBounds_toArray]
    try simp only [List.set_cons_zero, List.set_cons_succ]
    refine anyH_take hFr (by kernel_rfl) (i := 8) (v := ?_) (d := some 30) (by kernel_rfl) rfl rfl (by kernel_rfl) (by kernel_rfl) (by kernel_rfl) (fun _ _ _ h => h) HS0.out (Or.inl ⟨by rfl, fun w hSw => ?_⟩) ?_
    rotate_left
    · obtain ⟨s0, s1⟩ := hSw
      go_simp
      all_goals (try (first | with_reducible rfl | omega))
    try simp only [Act.put]
    try simp only [List.setIfInBounds_toArray]
    try simp only [List.set_cons_zero, List.set_cons_succ]
    refine anyH_take hFr (by kernel_rfl) (i := 9) (v := ?_) (d := some 31) (by kernel_rfl) rfl rfl (by kernel_rfl) (by kernel_rfl) (by kernel_rfl) (fun _ _ _ h => h) HS0.out (Or.inl ⟨by rfl, fun w hSw => ?_⟩) ?_
    rotate_left
    · obtain ⟨s0, s1⟩ := hSw
      go_simp
      all_goals (try (first | with_reducible rfl | omega))
    try simp only [Act.put]
    try simp only [List.setIfInBounds_toArray]
    try simp only [List.set_cons_zero, List.set_cons_succ]
    refine anyH_take hFr (by kernel_rfl) (i := 10) (v := ?_) (d := some 32) (by kernel_rfl) rfl rfl (by kernel_rfl) (by kernel_rfl) (by kernel_rfl) (fun _ _ _ h => h) HS0.out (Or.inl ⟨by rfl, fun w hSw => ?_⟩) ?_
    rotate_left
    · obtain ⟨s0, s1⟩ := hSw
      go_simp
      all_goals (try (first | with_reducible rfl | omega))
    try simp only [Act.put]
    try simp only [List.setIfInBounds_toArray]
    try simp only [List.set_cons_zero, List.set_cons_succ]
    refine anyH_take hFr (by kernel_rfl) (i := 11) (v := ?_) (d := some 33) (by kernel_rfl) rfl rfl (by kernel_rfl) (by kernel_rfl) (by kernel_rfl) (fun _ _ _ h => h) HS0.out (Or.inl ⟨by rfl, fun w hSw => ?_⟩) ?_
    rotate_left
    · obtain ⟨s0, s1⟩ := hSw
      go_simp
      all_goals (try (first | with_reducible rfl | omega))
    try simp only [Act.put]
    try simp only [List.setIfInBounds_toArray]
    try simp only [List.set_cons_zero, List.set_cons_succ]
    refine anyH_take hFr (by kernel_rfl) (i := 12) (v := ?_) (d := some 34) (by kernel_rfl) rfl rfl (by kernel_rfl) (by kernel_rfl) (by kernel_rfl) (fun _ _ _ h => h) HS0.out (Or.inl ⟨by rfl, fun w hSw => ?_⟩) ?_
    rotate_left
    · obtain ⟨s0, s1⟩ := hSw
      go_simp
      all_goals (try (first | with_reducible rfl | omega))
    try simp only [Act.put]
    try simp only [List.setIfInBounds_toArray]
    try simp only [List.set_cons_zero, List.set_cons_succ]
    refine anyH_one (i := 13) (by kernel_rfl) (op_plainW rfl (by rfl) (by simp) ?_)
    go_simp
    obtain ⟨y7, hy7⟩ : ∃ y7, y7 = Y.alloc (.cells #[.int .i64 item] 2) := ⟨_, rfl⟩
    have HB7 : Hid (Below Y.heap.size Y y7) := by rw [hy7]; exact (Below.refl _ _).alloc (Nat.le_refl _) _
    have HS7 : Hid (SPu y7 b g r (.slice (some ⟨g, 0, none⟩) (r + 1) c) (.slice ai l.length ci)) := HS0.out.below HB7.out
    have HN7 : Hid (y7.heap[Y.heap.size]? = some (.cells #[.int .i64 item] 2)) := by rw [hy7]; exact heap_alloc_new _ _
    rw [← hy7]
    clear hy7
    (first | refine ⟨fun _ => HS7.out, ?_⟩ | refine ⟨HS7.out, ?_⟩ | skip)
    try simp only [Act.put]
    try simp only [List.setIfInBounds_toArray]
    try simp only [List.set_cons_zero, List.set_cons_succ]
    have HG7 : Hid (SgB 33 67 y7 b B size (.slice (some ⟨g, 0, none⟩) (r + 1) c) P2) := HGY.out.below HB7.out
    have hq2 : r < P2.length := by rw [HP2.out.1]; omega
    have HO7 : Hid (y7.ownsRow B 2 1 (.slice ai l.length ci) l.length (cellsI l)) := by have := HG7.out.pv.iv.items _ hq2; rw [HP2.out.2 hq2] at this; exact this
    refine anyH_one (i := 14) (by kernel_rfl) (op_plainW rfl (by rfl) (by simp) ?_)
    refine wp_append_lies _ (.tmp 33) (.tmp 35) 33 rfl B 2 i0 _ 1 8 Try.underlying33 hi hz0 hz1 hz2 rfl (by decide) _ l.length (cellsI l) rfl HO7.out ⟨Y.heap.size, 0, none⟩ 1 1 [.int .i64 item] rfl rfl (World.news_of_block (cs := #[.int .i64 item]) (t := 2) (fr := (0, 0)) HN7.out) (by simp [Value.oneCell']) (by decide) (by unfold maxLen; omega) (by omega) (by have := HB7.out.size; omega) _ rfl ?_
    intro g' cap' w8 hown hgrow hat _
    have e2 : P2[r].2 = (.slice ai l.length ci) := by rw [HP2.out.2 hq2]
    have hown' : w8.ownsRow B 2 1 (.slice (some ⟨g', 0, none⟩) (l.length + 1) cap') (l ++ [item]).length (cellsI (l ++ [item])) := by rw [cellsI_append, List.length_append]; exact hown
    have HT8 : Hid (PV 33 (w8.setCell ⟨g, r, none⟩ (.slice (some ⟨g', 0, none⟩) (l.length + 1) cap')) B (.slice (some ⟨g, 0, none⟩) (r + 1) c) (P2.set r (l ++ [item], .slice (some ⟨g', 0, none⟩) (l.length + 1) cap'))) := HG7.out.pv.turn (k := r) (l := l ++ [item]) (v := .slice (some ⟨g', 0, none⟩) (l.length + 1) cap') (by decide) hq2 (by rw [e2]; exact hgrow) hown' (fun x hx => by
        have hx' : g' = x := by simpa [Value.ownBlock] using hx
        rcases hat with e | e
        · exact .inl (by rw [e2, ← hx']; exact e)
        · exact .inr (by omega))
    have hnb : some b ≠ (Value.slice ai l.length ci).ownBlock := fun e => HG7.out.far (by decide) (by decide) b (.inr ⟨_, hq2, by rw [e2]; exact e.symm⟩) rfl
    have hng : some g ≠ (Value.slice ai l.length ci).ownBlock := fun e => typ_ne (HG7.out.pv.iv.items _ hq2) HG7.out.pv.row (by decide) g (by rw [e2]; exact e.symm) rfl
    have HS8 : Hid (SPu w8 b g r (.slice (some ⟨g, 0, none⟩) (r + 1) c) (.slice ai l.length ci)) := ⟨hgrow.cell HS7.out.c hnb, hgrow.cell HS7.out.z hng⟩
    have HBk : Hid ((w8.setCell ⟨g, r, none⟩ (.slice (some ⟨g', 0, none⟩) (l.length + 1) cap')).heap[b]? = some (.cells #[.int .i64 size, (.slice (some ⟨g, 0, none⟩) (r + 1) c)] 67)) := by
      show _ = _
      rw [Below.heap_setCell _ _ _ _ (fun e => HG7.out.far (by decide) (by decide) g (.inl rfl) e.symm)]
      exact blk_grown HG7.out.blk hgrow hnb
    have HKb : Hid (KB b B w (w8.setCell ⟨g, r, none⟩ (.slice (some ⟨g', 0, none⟩) (l.length + 1) cap'))) := (((HK.out.below HBY.out).below HB7.out).grown hgrow (fun x hx => (HG7.out.pv.foot (.inr ⟨_, hq2, by rw [e2]; exact hx⟩)).1)).high (HG7.out.pv.foot (.inl rfl)).1 _ _
    have hpn : P2.length = r + 1 := HP2.out.1
    have hrow8 : w8.ownsRow B 33 1 (.slice (some ⟨g, 0, none⟩) P2.length c) P2.length (P2.map Prod.snd) := by
      have := own_apart HG7.out.pv.row hgrow (fun x hx e => hng (by
        have hx' : g = x := by simpa [Value.ownBlock] using hx
        rw [hx']; exact e.symm))
      rw [hpn]; rw [hpn] at this; exact this
    have kf : ∀ j, w8.frozen? ⟨g, j, none⟩ = false := own_frozen hrow8
    have kz : w8.cell? ⟨g, r, none⟩ = some (.slice ai l.length ci) := HS8.out.z
    clear hown hgrow hat hown' hnb hng e2 hq2 HG7 HO7 HN7 HB7 HS7 HGY HBY hpn hrow8
    (first | refine ⟨fun _ => HS8.out, ?_⟩ | refine ⟨HS8.out, ?_⟩ | skip)
    try simp only [Act.put]
    try simp only [List.setIfInBounds_toArray]
    try simp only [List.set_cons_zero, List.set_cons_succ]
    refine anyH_one (i := 15) (by kernel_rfl) (op_plainW rfl (by rfl) (by simp) ?_)
    go_simp
    (first | refine ⟨fun _ => HS8.out, ?_⟩ | refine ⟨HS8.out, ?_⟩ | skip)
    try simp only [Act.put]
    try simp only [List.setIfInBounds_toArray]
    try simp only [List.set_cons_zero, List.set_cons_succ]
    refine anyH_one (i := 16) (by kernel_rfl) (op_plainW rfl (by rfl) (by simp) ?_)
    go_simp
    (first | refine ⟨by kernel_rfl, ?_⟩ | skip)
    try simp only [Act.put]
    try simp only [List.setIfInBounds_toArray]
    try simp only [List.set_cons_zero, List.set_cons_succ]
    (first | refine anyH_done (by kernel_rfl) ?_ _ | skip)
    clear kf kz HS8 HS0
    exact bodyPost_end (v := .tuple #[]) (by simp [results, Try.results49]) rfl ⟨rfl, _, _, ⟨HBk.out, HT8.out⟩, HRes.out _, HKb.out⟩
end Go.Proofs.Ytienmmgkiphkdaa
