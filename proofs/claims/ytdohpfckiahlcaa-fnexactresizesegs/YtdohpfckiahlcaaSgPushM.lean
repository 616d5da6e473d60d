/-
  The model's l12Push puts an item on a stack: the last part, or a new one, has one item more; nothing else is turned but the stack's box.
-/
import Derived.Test.YtdohpfckiahlcaaSgBox
namespace Go.Proofs.Ytdohpfckiahlcaa
open Go.RowKit Go.Extern.Stop Go.Stop Go.Extern Num Go.Lib

theorem oper_plainW {P : Program} {Q : Exit → Act → World → Prop} {n : Nat} {o : Oper} {K : Act → World → Prop} {a : Act} {w : World} (hnd : ∀ c, o.op ≠ .defer c) (h : Oper.wp P o a w K Q) : o.wpIn Fence.wide n P a w K Q := by
  refine ⟨fun _ _ => trivial, ?_⟩
  rw [Oper.semAt_eq _ _ _ hnd]
  unfold Oper.wp at h
  generalize (execOp a.eval o).run P w = r at h ⊢
  cases r with
  | ok x w' =>
    cases x with
    | value u => exact h
    | skip => exact h
    | defer d => exact h
    | enter f args => exact ⟨fun h0 => (by cases h0), (callsIn_wide (n := n - 1)).2 h⟩
    | row row args => exact ⟨fun h0 => (by cases h0), fun c cs _ => (by obtain ⟨v, w'', r, s⟩ := h c cs; exact ⟨v, w'', r, (stepsIn_wide).2 s⟩)⟩
    | _ => exact (h : False).elim
  | halt x w' =>
    cases x with
    | panic u => exact h
    | _ => exact (h : False).elim
theorem op_plainW {P : Program} {ops : Array Oper} {Q : Exit → Act → World → Prop} {n i : Nat} {o : Oper} {K : Act → World → Prop} {a : Act} {w : World} (ho : ops[i]? = some o) (hw : Region.wanted o (yielded ops a.tmps) = true) (hnd : ∀ c, o.op ≠ .defer c) (h : Oper.wp P o a w K Q) :
    wpOpIn Fence.wide n P ops Q i K a w := op_step ho hw (oper_plainW hnd h)
/-- What is read where an item is put. -/
structure SPu (u : World) (b g q : Nat) (v x : Value) : Prop where
  c : u.cell? ⟨b, 1, none⟩ = some v
  z : u.cell? ⟨g, q, none⟩ = some x
theorem SPu.below {u u' : World} {b g q : Nat} {v x : Value} (h : SPu u b g q v x) (hb : Below u.heap.size u u') : SPu u' b g q v x := ⟨cell_keep hb h.c, cell_keep hb h.z⟩
theorem set_map (P : List (List Int × Value)) (q : Nat) (l : List Int) (v : Value) : (P.set q (l, v)).map Prod.fst = (P.map Prod.fst).set q l := by rw [List.map_set]
theorem lastP {P : List (List Int × Value)} {q : Nat} (hq : P.length = q + 1) (h : q < P.length) : lastL (P.map Prod.fst) = P[q].1 := by
  rw [lastL_at _ (by simp; omega)]
  simp [hq]
theorem full_eq {size : Int} (h1 : 1 ≤ size) {P : List (List Int × Value)} {q : Nat} (hq : P.length = q + 1) (h : q < P.length) : fullL size.toNat (P.map Prod.fst) = ((P[q].1.length : Int) == size) := by
  unfold fullL
  rw [lastP hq h, Bool.eq_iff_iff]
  simp [hq]
  omega
/-- An item more, in the last part. -/
theorem push_last {size : Int} (h1 : 1 ≤ size) {P : List (List Int × Value)} {q : Nat} {l : List Int} (hq : P.length = q + 1) (h : q < P.length) (hl : P[q].1 = l) (hn : ((l.length : Int) == size) = false) (item : Int) (v : Value) : (P.set q (l ++ [item], v)).map Prod.fst = pushL size.toNat (P.map Prod.fst) item := by
  have hf := full_eq h1 hq h
  rw [hl, hn] at hf
  unfold pushL
  rw [if_neg (by rw [hf]; simp), set_map, lastP hq h, hl]
  simp [hq]
/-- An item in a new part. -/
theorem push_new {n : Nat} {P : List (List Int × Value)} (hf : fullL n (P.map Prod.fst) = true) (item : Int) (v v0 : Value) : ((P ++ [([], v0)]).set P.length ([] ++ [item], v)).map Prod.fst = pushL n (P.map Prod.fst) item := by
  unfold pushL
  rw [if_pos hf, set_map, List.map_append, List.set_append_right _ _ (by simp)]
  simp
theorem wrap_id (n : Int) (h1 : 0 ≤ n) (h2 : n ≤ 4611686018427387904) : IntKind.i64.wrap n = n := by
  rw [IntKind.wrap_i64]
  omega
theorem iv_none {w : World} {B : Nat} {P : List (List Int × Value)} (h : IV w B P) : IV w B (P ++ [([], Value.slice none 0 0)]) := h.more (own_nil _ _ _ _) (fun i hi g _ e => by cases e)
set_option maxRecDepth 100000 in
set_option maxHeartbeats 4000000 in
theorem l12Push_any (b B : Nat) (size item : Int) (v : Value) (P : List (List Int × Value)) (w : World) (hB : B ≤ w.heap.size) (h1 : 1 ≤ size) (hl : P.length ≤ 1048576) (hm : ∀ (i : Nat) (h : i < P.length), P[i].1.length ≤ 1048576) (h : SgB 54 28 w b B size v P) :
    Calls Try.prog 39 #[.pointer (some ⟨b, 0, none⟩), .int .i64 item] w fun e w' => e = .returned (.tuple #[]) ∧ ∃ v' P', SgB 54 28 w' b B size v' P' ∧ P'.map Prod.fst = pushL size.toNat (P.map Prod.fst) item ∧ KB b B w w' := by
  obtain ⟨i0, hi, hz0, hz1, hz2⟩ := info_parts infoI
  obtain ⟨j0, hj, hy0, hy1, hy2⟩ := info_parts infoSp
  have H : Hid (SgB 54 28 w b B size v P) := h
  have hmix : Try.prog.follows .mixedOrders = true := by kernel_rfl
  obtain ⟨ao, cap, rfl⟩ := h.pv.form
  obtain ⟨c0, c1⟩ := h.at
  have ff : ∀ j, w.frozen? ⟨b, j, none⟩ = false := h.fz
  clear h
  by_cases hP : P = []
  · obtain ⟨q, hq⟩ : ∃ q, q = P.length := ⟨_, rfl⟩
    have HQ : Hid (P.length = q) := hq.symm
    have hz : ((q : Int) == 0) = true := by rw [hq, hP]; rfl
    have hql : q ≤ 1048576 := by omega
    have HFl : Hid (fullL size.toNat (P.map Prod.fst) = true) := by show _ = _; rw [hP]; simp [fullL]
    rw [← hq] at H c1
    have a0 : ∀ p : BW w, p.x.cell? ⟨b, 0, none⟩ = some (.int .i64 size) := fun p => p.cell c0
    have hne := bw_some w
    clear hP hq
    go_enter Try.func39, Try.ntmps39
    go_wp2_with fail
    refine wp_region_below (by kernel_rfl) (by kernel_rfl) ?_
    repeat (go_big_quiet_step (fail))
    refine wpQuiet_nil ?_
    intro w0 hw'
    obtain ⟨⟨_, bq⟩, rfl⟩ := hw'
    rename_i w0
    have H0 : Hid (SgB 54 28 w0 b B size (.slice ao q cap) P) := H.out.below bq
    have HK0 : Hid (KB b B w w0) := (KB.refl _ _ _).below bq
    clear bq hne a0 c0 c1 ff H
    have HA1 : Hid (∀ o, SgB 54 28 (w0.alloc o) b B size (.slice ao q cap) P) := fun o => H0.out.below ((Below.refl _ _).alloc (Nat.le_refl _) _)
    have HR1 : Hid (∀ o, (w0.alloc o).ownsRow B 54 1 (.slice ao q cap) q (P.map Prod.snd)) := fun o => by have := (HA1.out o).pv.row; rw [HQ.out] at this; exact this
    have hzB : B ≤ w0.heap.size := Nat.le_trans hB HK0.out.size
    obtain ⟨c0, c1⟩ := H0.out.at
    have ff : ∀ j, w0.frozen? ⟨b, j, none⟩ = false := H0.out.fz
    go_wp2_with (at_builtin; refine wpList_append_lies _ rfl (.tmp 33) (.tmp 35) 26 rfl B 54 j0 _ 1 24 Try.underlying26 hj hy0 hy1 hy2 rfl (by decide) _ q (P.map Prod.snd) rfl (HR1.out _) ⟨_, 0, none⟩ 1 1 [.slice none 0 0] rfl rfl ?c1 ?c2 (by decide) ?c3 ?c4 ?c5 _ rfl ?_)
    case c1 => exact World.news_of_block (cs := #[.slice none 0 0]) (t := 54) (fr := (0, 0)) (heap_new' _ _ _ (by simp))
    case c2 => intro u hu; simp at hu; subst hu; rfl
    case c3 => unfold maxLen; omega
    case c4 => omega
    case c5 => simp; omega
    intro g c w4 hown4 hgrow4 _ _
    have hbn := (HA1.out (.cells #[.slice none 0 0] 54)).far (by decide) (by decide)
    have HPn : PV 54 w4 B (.slice (some ⟨g, 0, none⟩) (q + 1) c) (P ++ [([], Value.slice none 0 0)]) := (HA1.out _).pv.snoc (by decide) HQ.out.symm (iv_none (HA1.out _).pv.iv) hown4 hgrow4
    have hbk : w4.heap[b]? = some (.cells #[.int .i64 size, .slice ao q cap] 28) := blk_grown (HA1.out _).blk hgrow4 (fun e => hbn b (.inl e.symm) rfl)
    have d1 : w4.cell? ⟨b, 1, none⟩ = some (.slice ao q cap) := by rw [cell_of_row w4 b 1 _ _ _ hbk]; rfl
    have df : ∀ j, w4.frozen? ⟨b, j, none⟩ = false := fun j => by simp [World.frozen?, hbk]
    obtain ⟨X, hX⟩ : ∃ X, X = w4.setCell ⟨b, 1, none⟩ (.slice (some ⟨g, 0, none⟩) (q + 1) c) := ⟨_, rfl⟩
    have HXe : Hid (X = w4.setCell ⟨b, 1, none⟩ (.slice (some ⟨g, 0, none⟩) (q + 1) c)) := hX
    have HG : Hid (SgB 54 28 X b B size (.slice (some ⟨g, 0, none⟩) (q + 1) c) (P ++ [([], Value.slice none 0 0)])) := by rw [hX]; exact SgB.store hbk HPn (by decide) (by decide)
    have HK : Hid (KB b B w X) := by rw [hX]; exact ((HK0.out.below ((Below.refl _ _).alloc (Nat.le_refl _) _)).grown hgrow4 (fun x hx => ((HA1.out (.cells #[.slice none 0 0] 54)).pv.foot (.inl hx)).1)).box _ _
    obtain ⟨P2, hP2⟩ : ∃ P2, P2 = P ++ [([], Value.slice none 0 0)] := ⟨_, rfl⟩
    have HP2 : Hid (P2.length = q + 1 ∧ ∀ h : q < P2.length, P2[q] = ([], .slice none 0 0)) := ⟨by rw [hP2, List.length_append, HQ.out]; rfl, fun h => by
      have hq := HQ.out
      subst hP2
      rw [List.getElem_append_right (by omega)]
      simp [hq]⟩
    rw [← hP2] at HG
    have hzX : B ≤ X.heap.size := Nat.le_trans hB HK.out.size
    obtain ⟨l, hlE⟩ : ∃ l : List Int, l = [] := ⟨_, rfl⟩
    obtain ⟨ai, hai⟩ : ∃ ai : Option Addr, ai = none := ⟨_, rfl⟩
    obtain ⟨ci, hci⟩ : ∃ ci : Nat, ci = 0 := ⟨_, rfl⟩
    have hx0 : Value.slice none 0 0 = .slice ai l.length ci := by rw [hlE, hai, hci]; rfl
    rw [hx0, ← hlE] at HP2
    have HRes : Hid (∀ v, (P2.set q (l ++ [item], v)).map Prod.fst = pushL size.toNat (P.map Prod.fst) item) := fun v => by rw [hP2, hlE, ← HQ.out]; exact push_new HFl.out item v _
    have cz : X.cell? ⟨g, q, none⟩ = some (.slice ai l.length ci) := by
      have hq2 : q < P2.length := by rw [HP2.out.1]; omega
      have := rowP_at HG.out.pv.row _ hq2
      rw [HP2.out.2 hq2] at this
      exact this
    have hll : l.length ≤ 1048576 := by rw [hlE]; simp
    clear hown4 hgrow4 hbn HPn hbk HA1 HR1 c0 c1 ff hX hP2 hlE hai hci hx0 H0 HK0
    go_upto_region 4 with fail
    rw [← HXe.out]
    clear HXe d1 df
    have c1 := HG.out.at.c1
    obtain ⟨Y, hY⟩ : ∃ Y, Y = X.drew := ⟨_, rfl⟩
    have HBY : Hid (Below X.heap.size X Y) := by rw [hY]; exact (Below.refl _ _).drew
    have HGY : Hid (SgB 54 28 Y b B size (.slice (some ⟨g, 0, none⟩) (q + 1) c) P2) := HG.out.below HBY.out
    have HS0 : Hid (SPu Y b g q (.slice (some ⟨g, 0, none⟩) (q + 1) c) (.slice ai l.length ci)) := ⟨HGY.out.at.c1, cell_keep HBY.out cz⟩
    have hzY : B ≤ Y.heap.size := Nat.le_trans hzX HBY.out.size
    have hFr : ∀ f, Fence.wide.fn f := fun _ => trivial
    have hwq : IntKind.i64.wrap ((q : Int)) = ((q : Int)) := wrap_id _ (by omega) (by omega)
    have hwl : ((q : Int)) < ((q : Int)) + 1 := by omega
    have hw0 : 0 ≤ ((q : Int)) := by omega
    go_upto_region 4 with fail
    refine (wpIn_wide (n := 0)).1 ?_
    refine region_anyH (z := 20) (S := fun u : World => SPu u b g q (.slice (some ⟨g, 0, none⟩) (q + 1) c) (.slice ai l.length ci)) (by kernel_rfl) ?_
    rw [← hY]
    clear hY cz c1 HG
    refine anyH_take hFr (by kernel_rfl) (i := 0) (v := ?_) (d := some 41) (by kernel_rfl) rfl rfl (by kernel_rfl) (by kernel_rfl) (by kernel_rfl) (fun _ _ _ h => h) HS0.out (Or.inl ⟨by rfl, fun w hSw => ?_⟩) ?_
    rotate_left
    · obtain ⟨s0, s1⟩ := hSw
      go_simp
      all_goals (try (first | with_reducible rfl | omega))
    try simp only [Act.put]
    try simp only [List.setIfInBounds_toArray]
    try simp only [List.set_cons_zero, List.set_cons_succ]
    refine anyH_take hFr (by kernel_rfl) (i := 1) (v := ?_) (d := some 42) (by kernel_rfl) rfl rfl (by kernel_rfl) (by kernel_rfl) (by kernel_rfl) (fun _ _ _ h => h) HS0.out (Or.inl ⟨by rfl, fun w hSw => ?_⟩) ?_
    rotate_left
    · obtain ⟨s0, s1⟩ := hSw
      go_simp
      all_goals (try (first | with_reducible rfl | omega))
    try simp only [Act.put]
    try simp only [List.setIfInBounds_toArray]
    try simp only [List.set_cons_zero, List.set_cons_succ]
    refine anyH_take hFr (by kernel_rfl) (i := 2) (v := ?_) (d := some 43) (by kernel_rfl) rfl rfl (by kernel_rfl) (by kernel_rfl) (by kernel_rfl) (fun _ _ _ h => h) HS0.out (Or.inl ⟨by rfl, fun w hSw => ?_⟩) ?_
    rotate_left
    · obtain ⟨s0, s1⟩ := hSw
      go_simp
      all_goals (try (first | with_reducible rfl | omega))
    try simp only [Act.put]
    try simp only [List.setIfInBounds_toArray]
    try simp only [List.set_cons_zero, List.set_cons_succ]
    refine anyH_take hFr (by kernel_rfl) (i := 3) (v := ?_) (d := some 44) (by kernel_rfl) rfl rfl (by kernel_rfl) (by kernel_rfl) (by kernel_rfl) (fun _ _ _ h => h) HS0.out (Or.inl ⟨by rfl, fun w hSw => ?_⟩) ?_
    rotate_left
    · obtain ⟨s0, s1⟩ := hSw
      go_simp
      all_goals (try (first | with_reducible rfl | omega))
    try simp only [Act.put]
    try simp only [List.setIfInBounds_toArray]
    try simp only [List.set_cons_zero, List.set_cons_succ]
    refine anyH_take hFr (by kernel_rfl) (i := 4) (v := ?_) (d := some 45) (by kernel_rfl) rfl rfl (by kernel_rfl) (by kernel_rfl) (by kernel_rfl) (fun _ _ _ h => h) HS0.out (Or.inl ⟨by rfl, fun w hSw => ?_⟩) ?_
    rotate_left
    · obtain ⟨s0, s1⟩ := hSw
      go_simp
      all_goals (try (first | with_reducible rfl | omega))
    try simp only [Act.put]
    try simp only [List.setIfInBounds_toArray]
    try simp only [List.set_cons_zero, List.set_cons_succ]
    refine anyH_take hFr (by kernel_rfl) (i := 5) (v := ?_) (d := some 46) (by kernel_rfl) rfl rfl (by kernel_rfl) (by kernel_rfl) (by kernel_rfl) (fun _ _ _ h => h) HS0.out (Or.inl ⟨by rfl, fun w hSw => ?_⟩) ?_
    rotate_left
    · obtain ⟨s0, s1⟩ := hSw
      go_simp
      all_goals (try (first | with_reducible rfl | omega))
    try simp only [Act.put]
    try simp only [List.setIfInBounds_toArray]
    try simp only [List.set_cons_zero, List.set_cons_succ]
    refine anyH_take hFr (by kernel_rfl) (i := 6) (v := ?_) (d := some 47) (by kernel_rfl) rfl rfl (by kernel_rfl) (by kernel_rfl) (by kernel_rfl) (fun _ _ _ h => h) HS0.out (Or.inl ⟨by rfl, fun w hSw => ?_⟩) ?_
    rotate_left
    · obtain ⟨s0, s1⟩ := hSw
      go_simp
      all_goals (try (first | with_reducible rfl | omega))
    try simp only [Act.put]
    try simp only [List.setIfInBounds_toArray]
    try simp only [List.set_cons_zero, List.set_cons_succ]
    refine anyH_take hFr (by kernel_rfl) (i := 7) (v := ?_) (d := some 48) (by kernel_rfl) rfl rfl (by kernel_rfl) (by kernel_rfl) (by kernel_rfl) (fun _ _ _ h => h) HS0.out (Or.inl ⟨by rfl, fun w hSw => ?_⟩) ?_
    rotate_left
    · obtain ⟨s0, s1⟩ := hSw
      go_simp
      all_goals (try (first | with_reducible rfl | omega))
    try simp only [Act.put]
    try simp only [List.setIfInBounds_toArray]
    try simp only [List.set_cons_zero, List.set_cons_succ]
    refine anyH_take hFr (by kernel_rfl) (i := 8) (v := ?_) (d := some 49) (by kernel_rfl) rfl rfl (by kernel_rfl) (by kernel_rfl) (by kernel_rfl) (fun _ _ _ h => h) HS0.out (Or.inl ⟨by rfl, fun w hSw => ?_⟩) ?_
    rotate_left
    · obtain ⟨s0, s1⟩ := hSw
      go_simp
      all_goals (try (first | with_reducible rfl | omega))
    try simp only [Act.put]
    try simp only [List.setIfInBounds_toArray]
    try simp only [List.set_cons_zero, List.set_cons_succ]
    refine anyH_take hFr (by kernel_rfl) (i := 9) (v := ?_) (d := some 50) (by kernel_rfl) rfl rfl (by kernel_rfl) (by kernel_rfl) (by kernel_rfl) (fun _ _ _ h => h) HS0.out (Or.inl ⟨by rfl, fun w hSw => ?_⟩) ?_
    rotate_left
    · obtain ⟨s0, s1⟩ := hSw
      go_simp
      all_goals (try (first | with_reducible rfl | omega))
    try simp only [Act.put]
    try simp only [List.setIfInBounds_toArray]
    try simp only [List.set_cons_zero, List.set_cons_succ]
    refine anyH_take hFr (by kernel_rfl) (i := 10) (v := ?_) (d := some 51) (by kernel_rfl) rfl rfl (by kernel_rfl) (by kernel_rfl) (by kernel_rfl) (fun _ _ _ h => h) HS0.out (Or.inl ⟨by rfl, fun w hSw => ?_⟩) ?_
    rotate_left
    · obtain ⟨s0, s1⟩ := hSw
      go_simp
      all_goals (try (first | with_reducible rfl | omega))
    try simp only [Act.put]
    try simp only [List.setIfInBounds_toArray]
    try simp only [List.set_cons_zero, List.set_cons_succ]
    refine anyH_take hFr (by kernel_rfl) (i := 11) (v := ?_) (d := some 52) (by kernel_rfl) rfl rfl (by kernel_rfl) (by kernel_rfl) (by kernel_rfl) (fun _ _ _ h => h) HS0.out (Or.inl ⟨by rfl, fun w hSw => ?_⟩) ?_
    rotate_left
    · obtain ⟨s0, s1⟩ := hSw
      go_simp
      all_goals (try (first | with_reducible rfl | omega))
    try simp only [Act.put]
    try simp only [List.setIfInBounds_toArray]
    try simp only [List.set_cons_zero, List.set_cons_succ]
    refine anyH_take hFr (by kernel_rfl) (i := 12) (v := ?_) (d := some 53) (by kernel_rfl) rfl rfl (by kernel_rfl) (by kernel_rfl) (by kernel_rfl) (fun _ _ _ h => h) HS0.out (Or.inl ⟨by rfl, fun w hSw => ?_⟩) ?_
    rotate_left
    · obtain ⟨s0, s1⟩ := hSw
      go_simp
      all_goals (try (first | with_reducible rfl | omega))
    try simp only [Act.put]
    try simp only [List.setIfInBounds_toArray]
    try simp only [List.set_cons_zero, List.set_cons_succ]
    refine anyH_take hFr (by kernel_rfl) (i := 13) (v := ?_) (d := some 54) (by kernel_rfl) rfl rfl (by kernel_rfl) (by kernel_rfl) (by kernel_rfl) (fun _ _ _ h => h) HS0.out (Or.inl ⟨by rfl, fun w hSw => ?_⟩) ?_
    rotate_left
    · obtain ⟨s0, s1⟩ := hSw
      go_simp
      all_goals (try (first | with_reducible rfl | omega))
    try simp only [Act.put]
    try simp only [List.setIfInBounds_toArray]
    try simp only [List.set_cons_zero, List.set_cons_succ]
    refine anyH_take hFr (by kernel_rfl) (i := 14) (v := ?_) (d := some 55) (by kernel_rfl) rfl rfl (by kernel_rfl) (by kernel_rfl) (by kernel_rfl) (fun _ _ _ h => h) HS0.out (Or.inl ⟨by rfl, fun w hSw => ?_⟩) ?_
    rotate_left
    · obtain ⟨s0, s1⟩ := hSw
      go_simp
      all_goals (try (first | with_reducible rfl | omega))
    try simp only [Act.put]
    try simp only [List.setIfInBounds_toArray]
    try simp only [List.set_cons_zero, List.set_cons_succ]
    refine anyH_take hFr (by kernel_rfl) (i := 15) (v := ?_) (d := some 56) (by kernel_rfl) rfl rfl (by kernel_rfl) (by kernel_rfl) (by kernel_rfl) (fun _ _ _ h => h) HS0.out (Or.inl ⟨by rfl, fun w hSw => ?_⟩) ?_
    rotate_left
    · obtain ⟨s0, s1⟩ := hSw
      go_simp
      all_goals (try (first | with_reducible rfl | omega))
    try simp only [Act.put]
    try simp only [List.setIfInBounds_toArray]
    try simp only [List.set_cons_zero, List.set_cons_succ]
    refine anyH_one (i := 16) (by kernel_rfl) (op_plainW rfl (by rfl) (by simp) ?_)
    go_simp
    obtain ⟨y7, hy7⟩ : ∃ y7, y7 = Y.alloc (.cells #[.int .i64 item] 2) := ⟨_, rfl⟩
    have HB7 : Hid (Below Y.heap.size Y y7) := by rw [hy7]; exact (Below.refl _ _).alloc (Nat.le_refl _) _
    have HS7 : Hid (SPu y7 b g q (.slice (some ⟨g, 0, none⟩) (q + 1) c) (.slice ai l.length ci)) := HS0.out.below HB7.out
    have HN7 : Hid (y7.heap[Y.heap.size]? = some (.cells #[.int .i64 item] 2)) := by rw [hy7]; exact heap_alloc_new _ _
    rw [← hy7]
    clear hy7
    (first | refine ⟨fun _ => HS7.out, ?_⟩ | refine ⟨HS7.out, ?_⟩ | skip)
    try simp only [Act.put]
    try simp only [List.setIfInBounds_toArray]
    try simp only [List.set_cons_zero, List.set_cons_succ]
    have HG7 : Hid (SgB 54 28 y7 b B size (.slice (some ⟨g, 0, none⟩) (q + 1) c) P2) := HGY.out.below HB7.out
    have hq2 : q < P2.length := by rw [HP2.out.1]; omega
    have HO7 : Hid (y7.ownsRow B 2 1 (.slice ai l.length ci) l.length (cellsI l)) := by have := HG7.out.pv.iv.items _ hq2; rw [HP2.out.2 hq2] at this; exact this
    refine anyH_one (i := 17) (by kernel_rfl) (op_plainW rfl (by rfl) (by simp) ?_)
    refine wp_append_lies _ (.tmp 55) (.tmp 57) 42 rfl B 2 i0 _ 1 8 Try.underlying42 hi hz0 hz1 hz2 rfl (by decide) _ l.length (cellsI l) rfl HO7.out ⟨Y.heap.size, 0, none⟩ 1 1 [.int .i64 item] rfl rfl (World.news_of_block (cs := #[.int .i64 item]) (t := 2) (fr := (0, 0)) HN7.out) (by simp [Value.oneCell']) (by decide) (by unfold maxLen; omega) (by omega) (by have := HB7.out.size; omega) _ rfl ?_
    intro g' cap' w8 hown hgrow hat _
    have e2 : P2[q].2 = (.slice ai l.length ci) := by rw [HP2.out.2 hq2]
    have hown' : w8.ownsRow B 2 1 (.slice (some ⟨g', 0, none⟩) (l.length + 1) cap') (l ++ [item]).length (cellsI (l ++ [item])) := by rw [cellsI_append, List.length_append]; exact hown
    have HT8 : Hid (PV 54 (w8.setCell ⟨g, q, none⟩ (.slice (some ⟨g', 0, none⟩) (l.length + 1) cap')) B (.slice (some ⟨g, 0, none⟩) (q + 1) c) (P2.set q (l ++ [item], .slice (some ⟨g', 0, none⟩) (l.length + 1) cap'))) := HG7.out.pv.turn (k := q) (l := l ++ [item]) (v := .slice (some ⟨g', 0, none⟩) (l.length + 1) cap') (by decide) hq2 (by rw [e2]; exact hgrow) hown' (fun x hx => by
        have hx' : g' = x := by simpa [Value.ownBlock] using hx
        rcases hat with e | e
        · exact .inl (by rw [e2, ← hx']; exact e)
        · exact .inr (by omega))
    have hnb : some b ≠ (Value.slice ai l.length ci).ownBlock := fun e => HG7.out.far (by decide) (by decide) b (.inr ⟨_, hq2, by rw [e2]; exact e.symm⟩) rfl
    have hng : some g ≠ (Value.slice ai l.length ci).ownBlock := fun e => typ_ne (HG7.out.pv.iv.items _ hq2) HG7.out.pv.row (by decide) g (by rw [e2]; exact e.symm) rfl
    have HS8 : Hid (SPu w8 b g q (.slice (some ⟨g, 0, none⟩) (q + 1) c) (.slice ai l.length ci)) := ⟨hgrow.cell HS7.out.c hnb, hgrow.cell HS7.out.z hng⟩
    have HBk : Hid ((w8.setCell ⟨g, q, none⟩ (.slice (some ⟨g', 0, none⟩) (l.length + 1) cap')).heap[b]? = some (.cells #[.int .i64 size, (.slice (some ⟨g, 0, none⟩) (q + 1) c)] 28)) := by
      show _ = _
      rw [Below.heap_setCell _ _ _ _ (fun e => HG7.out.far (by decide) (by decide) g (.inl rfl) e.symm)]
      exact blk_grown HG7.out.blk hgrow hnb
    have HKb : Hid (KB b B w (w8.setCell ⟨g, q, none⟩ (.slice (some ⟨g', 0, none⟩) (l.length + 1) cap'))) := (((HK.out.below HBY.out).below HB7.out).grown hgrow (fun x hx => (HG7.out.pv.foot (.inr ⟨_, hq2, by rw [e2]; exact hx⟩)).1)).high (HG7.out.pv.foot (.inl rfl)).1 _ _
    have hpn : P2.length = q + 1 := HP2.out.1
    have hrow8 : w8.ownsRow B 54 1 (.slice (some ⟨g, 0, none⟩) P2.length c) P2.length (P2.map Prod.snd) := by
      have := own_apart HG7.out.pv.row hgrow (fun x hx e => hng (by
        have hx' : g = x := by simpa [Value.ownBlock] using hx
        rw [hx']; exact e.symm))
      rw [hpn]; rw [hpn] at this; exact this
    have kf : ∀ j, w8.frozen? ⟨g, j, none⟩ = false := own_frozen hrow8
    have kz : w8.cell? ⟨g, q, none⟩ = some (.slice ai l.length ci) := HS8.out.z
    clear hown hgrow hat hown' hnb hng e2 hq2 HG7 HO7 HN7 HB7 HS7 HGY HBY hpn hrow8
    (first | refine ⟨fun _ => HS8.out, ?_⟩ | refine ⟨HS8.out, ?_⟩ | skip)
    try simp only [Act.put]
    try simp only [List.setIfInBounds_toArray]
    try simp only [List.set_cons_zero, List.set_cons_succ]
    refine anyH_one (i := 18) (by kernel_rfl) (op_plainW rfl (by rfl) (by simp) ?_)
    go_simp
    (first | refine ⟨fun _ => HS8.out, ?_⟩ | refine ⟨HS8.out, ?_⟩ | skip)
    try simp only [Act.put]
    try simp only [List.setIfInBounds_toArray]
    try simp only [List.set_cons_zero, List.set_cons_succ]
    refine anyH_one (i := 19) (by kernel_rfl) (op_plainW rfl (by rfl) (by simp) ?_)
    go_simp
    (first | refine ⟨fun _ => HS8.out, ?_⟩ | refine ⟨HS8.out, ?_⟩ | skip)
    try simp only [Act.put]
    try simp only [List.setIfInBounds_toArray]
    try simp only [List.set_cons_zero, List.set_cons_succ]
    refine anyH_one (i := 20) (by kernel_rfl) (op_plainW rfl (by rfl) (by simp) ?_)
    go_simp
    (first | refine ⟨by kernel_rfl, ?_⟩ | skip)
    try simp only [Act.put]
    try simp only [List.setIfInBounds_toArray]
    try simp only [List.set_cons_zero, List.set_cons_succ]
    (first | refine anyH_done (by kernel_rfl) ?_ _ | skip)
    clear kf kz HS8 HS0
    exact bodyPost_end (v := .tuple #[]) (by simp [results, Try.results39]) rfl ⟨rfl, _, _, ⟨HBk.out, HT8.out⟩, HRes.out _, HKb.out⟩
  obtain ⟨r, hr⟩ : ∃ r, P.length = r + 1 := ⟨P.length - 1, by have := List.length_pos_iff.2 hP; omega⟩
  have hrl : r < P.length := by omega
  have hfe := full_eq h1 hr hrl
  obtain ⟨l, hlE⟩ : ∃ l, l = P[r].1 := ⟨_, rfl⟩
  have hll : l.length ≤ 1048576 := by rw [hlE]; exact hm r hrl
  have hit := H.out.pv.iv.items r hrl
  obtain ⟨ai, ci, hxi⟩ := own_form hit
  rw [← hlE] at hxi hfe
  have hPr : P[r] = (l, .slice ai l.length ci) := by rw [hlE] at hxi ⊢; rw [← hxi]
  rw [hr] at H c1
  have HQ : Hid (P.length = r + 1) := hr
  have hrb : r ≤ 1048576 := by omega
  obtain ⟨g, c, hv, _, _⟩ := H.out.pv.row.form (by omega)
  obtain ⟨rfl, rfl⟩ : ao = some ⟨g, 0, none⟩ ∧ cap = c := by simp at hv; exact ⟨hv.1, hv.2.2⟩
  have cz : w.cell? ⟨g, r, none⟩ = some (.slice ai l.length ci) := by have := rowP_at H.out.pv.row r hrl; rw [hPr] at this; exact this
  have HPr : Hid (∀ h : r < P.length, P[r] = (l, .slice ai l.length ci)) := fun _ => hPr
  have HLe : Hid (∀ h : r < P.length, P[r].1 = l) := fun _ => hlE.symm
  clear hit hxi hPr hlE hm hv hP hl
  cases hfl : ((l.length : Int) == size) with
  | true =>
    have HFl : Hid (fullL size.toNat (P.map Prod.fst) = true) := by show _ = _; rw [hfe, hfl]
    have a0 : ∀ p : BW w, p.x.cell? ⟨b, 0, none⟩ = some (.int .i64 size) := fun p => p.cell c0
    have a1 : ∀ p : BW w, p.x.cell? ⟨b, 1, none⟩ = some (.slice (some ⟨g, 0, none⟩) (r + 1) cap) := fun p => p.cell c1
    have a2 : ∀ p : BW w, p.x.cell? ⟨g, r, none⟩ = some (.slice ai l.length ci) := fun p => p.cell cz
    have hne := bw_some w
    have hr0 : ((r : Int) + 1 == 0) = false := by rw [beq_eq_false_iff_ne]; omega
    clear hfe hr hrl cz
    go_enter Try.func39, Try.ntmps39
    go_wp2_with fail
    refine wp_region_below (by kernel_rfl) (by kernel_rfl) ?_
    repeat (go_big_quiet_step (fail))
    refine wpQuiet_nil ?_
    intro w0 hw'
    obtain ⟨⟨_, bq⟩, rfl⟩ := hw'
    rename_i w0
    have H0 : Hid (SgB 54 28 w0 b B size (.slice (some ⟨g, 0, none⟩) (r + 1) cap) P) := H.out.below bq
    have HK0 : Hid (KB b B w w0) := (KB.refl _ _ _).below bq
    obtain ⟨ao, hao⟩ : ∃ ao, ao = some (⟨g, 0, none⟩ : Addr) := ⟨_, rfl⟩
    rw [← hao] at H0
    clear bq hne a0 a1 a2 c0 c1 ff H hao HPr HLe hfl hll
    have HA1 : Hid (∀ o, SgB 54 28 (w0.alloc o) b B size (.slice ao (r + 1) cap) P) := fun o => H0.out.below ((Below.refl _ _).alloc (Nat.le_refl _) _)
    have HR1 : Hid (∀ o, (w0.alloc o).ownsRow B 54 1 (.slice ao (r + 1) cap) (r + 1) (P.map Prod.snd)) := fun o => by have := (HA1.out o).pv.row; rw [HQ.out] at this; exact this
    have hzB : B ≤ w0.heap.size := Nat.le_trans hB HK0.out.size
    obtain ⟨c0, c1⟩ := H0.out.at
    have ff : ∀ j, w0.frozen? ⟨b, j, none⟩ = false := H0.out.fz
    go_wp2_with (at_builtin; refine wpList_append_lies _ rfl (.tmp 33) (.tmp 35) 26 rfl B 54 j0 _ 1 24 Try.underlying26 hj hy0 hy1 hy2 rfl (by decide) _ (r + 1) (P.map Prod.snd) rfl (HR1.out _) ⟨_, 0, none⟩ 1 1 [.slice none 0 0] rfl rfl ?c1 ?c2 (by decide) ?c3 ?c4 ?c5 _ rfl ?_)
    case c1 => exact World.news_of_block (cs := #[.slice none 0 0]) (t := 54) (fr := (0, 0)) (heap_new' _ _ _ (by simp))
    case c2 => intro u hu; simp at hu; subst hu; rfl
    case c3 => unfold maxLen; omega
    case c4 => omega
    case c5 => simp; omega
    intro g c w4 hown4 hgrow4 _ _
    have hbn := (HA1.out (.cells #[.slice none 0 0] 54)).far (by decide) (by decide)
    have HPn : PV 54 w4 B (.slice (some ⟨g, 0, none⟩) ((r + 1) + 1) c) (P ++ [([], Value.slice none 0 0)]) := (HA1.out _).pv.snoc (by decide) HQ.out.symm (iv_none (HA1.out _).pv.iv) hown4 hgrow4
    have hbk : w4.heap[b]? = some (.cells #[.int .i64 size, .slice ao (r + 1) cap] 28) := blk_grown (HA1.out _).blk hgrow4 (fun e => hbn b (.inl e.symm) rfl)
    have d1 : w4.cell? ⟨b, 1, none⟩ = some (.slice ao (r + 1) cap) := by rw [cell_of_row w4 b 1 _ _ _ hbk]; rfl
    have df : ∀ j, w4.frozen? ⟨b, j, none⟩ = false := fun j => by simp [World.frozen?, hbk]
    obtain ⟨X, hX⟩ : ∃ X, X = w4.setCell ⟨b, 1, none⟩ (.slice (some ⟨g, 0, none⟩) ((r + 1) + 1) c) := ⟨_, rfl⟩
    have HXe : Hid (X = w4.setCell ⟨b, 1, none⟩ (.slice (some ⟨g, 0, none⟩) ((r + 1) + 1) c)) := hX
    have HG : Hid (SgB 54 28 X b B size (.slice (some ⟨g, 0, none⟩) ((r + 1) + 1) c) (P ++ [([], Value.slice none 0 0)])) := by rw [hX]; exact SgB.store hbk HPn (by decide) (by decide)
    have HK : Hid (KB b B w X) := by rw [hX]; exact ((HK0.out.below ((Below.refl _ _).alloc (Nat.le_refl _) _)).grown hgrow4 (fun x hx => ((HA1.out (.cells #[.slice none 0 0] 54)).pv.foot (.inl hx)).1)).box _ _
    obtain ⟨P2, hP2⟩ : ∃ P2, P2 = P ++ [([], Value.slice none 0 0)] := ⟨_, rfl⟩
    have HP2 : Hid (P2.length = (r + 1) + 1 ∧ ∀ h : (r + 1) < P2.length, P2[(r + 1)] = ([], .slice none 0 0)) := ⟨by rw [hP2, List.length_append, HQ.out]; rfl, fun h => by
      have hq := HQ.out
      subst hP2
      rw [List.getElem_append_right (by omega)]
      simp [hq]⟩
    rw [← hP2] at HG
    have hzX : B ≤ X.heap.size := Nat.le_trans hB HK.out.size
    obtain ⟨l, hlE⟩ : ∃ l : List Int, l = [] := ⟨_, rfl⟩
    obtain ⟨ai, hai⟩ : ∃ ai : Option Addr, ai = none := ⟨_, rfl⟩
    obtain ⟨ci, hci⟩ : ∃ ci : Nat, ci = 0 := ⟨_, rfl⟩
    have hx0 : Value.slice none 0 0 = .slice ai l.length ci := by rw [hlE, hai, hci]; rfl
    rw [hx0, ← hlE] at HP2
    have HRes : Hid (∀ v, (P2.set (r + 1) (l ++ [item], v)).map Prod.fst = pushL size.toNat (P.map Prod.fst) item) := fun v => by rw [hP2, hlE, ← HQ.out]; exact push_new HFl.out item v _
    have cz : X.cell? ⟨g, (r + 1), none⟩ = some (.slice ai l.length ci) := by
      have hq2 : (r + 1) < P2.length := by rw [HP2.out.1]; omega
      have := rowP_at HG.out.pv.row _ hq2
      rw [HP2.out.2 hq2] at this
      exact this
    have hll : l.length ≤ 1048576 := by rw [hlE]; simp
    clear hown4 hgrow4 hbn HPn hbk HA1 HR1 c0 c1 ff hX hP2 hlE hai hci hx0 H0 HK0
    go_upto_region 4 with fail
    rw [← HXe.out]
    clear HXe d1 df
    have c1 := HG.out.at.c1
    obtain ⟨Y, hY⟩ : ∃ Y, Y = X.drew := ⟨_, rfl⟩
    have HBY : Hid (Below X.heap.size X Y) := by rw [hY]; exact (Below.refl _ _).drew
    have HGY : Hid (SgB 54 28 Y b B size (.slice (some ⟨g, 0, none⟩) ((r + 1) + 1) c) P2) := HG.out.below HBY.out
    have HS0 : Hid (SPu Y b g (r + 1) (.slice (some ⟨g, 0, none⟩) ((r + 1) + 1) c) (.slice ai l.length ci)) := ⟨HGY.out.at.c1, cell_keep HBY.out cz⟩
    have hzY : B ≤ Y.heap.size := Nat.le_trans hzX HBY.out.size
    have hFr : ∀ f, Fence.wide.fn f := fun _ => trivial
    have hwq : IntKind.i64.wrap ((r : Int) + 1) = ((r : Int) + 1) := wrap_id _ (by omega) (by omega)
    have hwl : ((r : Int) + 1) < ((r : Int) + 1) + 1 := by omega
    have hw0 : 0 ≤ ((r : Int) + 1) := by omega
    go_upto_region 4 with fail
    refine (wpIn_wide (n := 0)).1 ?_
    refine region_anyH (z := 20) (S := fun u : World => SPu u b g (r + 1) (.slice (some ⟨g, 0, none⟩) ((r + 1) + 1) c) (.slice ai l.length ci)) (by kernel_rfl) ?_
    rw [← hY]
    clear hY cz c1 HG
    refine anyH_take hFr (by kernel_rfl) (i := 0) (v := ?_) (d := some 41) (by kernel_rfl) rfl rfl (by kernel_rfl) (by kernel_rfl) (by kernel_rfl) (fun _ _ _ h => h) HS0.out (Or.inl ⟨by rfl, fun w hSw => ?_⟩) ?_
    rotate_left
    · obtain ⟨s0, s1⟩ := hSw
      go_simp
      all_goals (try (first | with_reducible rfl | omega))
    try simp only [Act.put]
    try simp only [List.setIfInBounds_toArray]
    try simp only [List.set_cons_zero, List.set_cons_succ]
    refine anyH_take hFr (by kernel_rfl) (i := 1) (v := ?_) (d := some 42) (by kernel_rfl) rfl rfl (by kernel_rfl) (by kernel_rfl) (by kernel_rfl) (fun _ _ _ h => h) HS0.out (Or.inl ⟨by rfl, fun w hSw => ?_⟩) ?_
    rotate_left
    · obtain ⟨s0, s1⟩ := hSw
      go_simp
      all_goals (try (first | with_reducible rfl | omega))
    try simp only [Act.put]
    try simp only [List.setIfInBounds_toArray]
    try simp only [List.set_cons_zero, List.set_cons_succ]
    refine anyH_take hFr (by kernel_rfl) (i := 2) (v := ?_) (d := some 43) (by kernel_rfl) rfl rfl (by kernel_rfl) (by kernel_rfl) (by kernel_rfl) (fun _ _ _ h => h) HS0.out (Or.inl ⟨by rfl, fun w hSw => ?_⟩) ?_
    rotate_left
    · obtain ⟨s0, s1⟩ := hSw
      go_simp
      all_goals (try (first | with_reducible rfl | omega))
    try simp only [Act.put]
    try simp only [List.setIfInBounds_toArray]
    try simp only [List.set_cons_zero, List.set_cons_succ]
    refine anyH_take hFr (by kernel_rfl) (i := 3) (v := ?_) (d := some 44) (by kernel_rfl) rfl rfl (by kernel_rfl) (by kernel_rfl) (by kernel_rfl) (fun _ _ _ h => h) HS0.out (Or.inl ⟨by rfl, fun w hSw => ?_⟩) ?_
    rotate_left
    · obtain ⟨s0, s1⟩ := hSw
      go_simp
      all_goals (try (first | with_reducible rfl | omega))
    try simp only [Act.put]
    try simp only [List.setIfInBounds_toArray]
    try simp only [List.set_cons_zero, List.set_cons_succ]
    refine anyH_take hFr (by kernel_rfl) (i := 4) (v := ?_) (d := some 45) (by kernel_rfl) rfl rfl (by kernel_rfl) (by kernel_rfl) (by kernel_rfl) (fun _ _ _ h => h) HS0.out (Or.inl ⟨by rfl, fun w hSw => ?_⟩) ?_
    rotate_left
    · obtain ⟨s0, s1⟩ := hSw
      go_simp
      all_goals (try (first | with_reducible rfl | omega))
    try simp only [Act.put]
    try simp only [List.setIfInBounds_toArray]
    try simp only [List.set_cons_zero, List.set_cons_succ]
    refine anyH_take hFr (by kernel_rfl) (i := 5) (v := ?_) (d := some 46) (by kernel_rfl) rfl rfl (by kernel_rfl) (by kernel_rfl) (by kernel_rfl) (fun _ _ _ h => h) HS0.out (Or.inl ⟨by rfl, fun w hSw => ?_⟩) ?_
    rotate_left
    · obtain ⟨s0, s1⟩ := hSw
      go_simp
      all_goals (try (first | with_reducible rfl | omega))
    try simp only [Act.put]
    try simp only [List.setIfInBounds_toArray]
    try simp only [List.set_cons_zero, List.set_cons_succ]
    refine anyH_take hFr (by kernel_rfl) (i := 6) (v := ?_) (d := some 47) (by kernel_rfl) rfl rfl (by kernel_rfl) (by kernel_rfl) (by kernel_rfl) (fun _ _ _ h => h) HS0.out (Or.inl ⟨by rfl, fun w hSw => ?_⟩) ?_
    rotate_left
    · obtain ⟨s0, s1⟩ := hSw
      go_simp
      all_goals (try (first | with_reducible rfl | omega))
    try simp only [Act.put]
    try simp only [List.setIfInBounds_toArray]
    try simp only [List.set_cons_zero, List.set_cons_succ]
    refine anyH_take hFr (by kernel_rfl) (i := 7) (v := ?_) (d := some 48) (by kernel_rfl) rfl rfl (by kernel_rfl) (by kernel_rfl) (by kernel_rfl) (fun _ _ _ h => h) HS0.out (Or.inl ⟨by rfl, fun w hSw => ?_⟩) ?_
    rotate_left
    · obtain ⟨s0, s1⟩ := hSw
      go_simp
      all_goals (try (first | with_reducible rfl | omega))
    try simp only [Act.put]
    try simp only [List.setIfInBounds_toArray]
    try simp only [List.set_cons_zero, List.set_cons_succ]
    refine anyH_take hFr (by kernel_rfl) (i := 8) (v := ?_) (d := some 49) (by kernel_rfl) rfl rfl (by kernel_rfl) (by kernel_rfl) (by kernel_rfl) (fun _ _ _ h => h) HS0.out (Or.inl ⟨by rfl, fun w hSw => ?_⟩) ?_
    rotate_left
    · obtain ⟨s0, s1⟩ := hSw
      go_simp
      all_goals (try (first | with_reducible rfl | omega))
    try simp only [Act.put]
    try simp only [List.setIfInBounds_toArray]
    try simp only [List.set_cons_zero, List.set_cons_succ]
    refine anyH_take hFr (by kernel_rfl) (i := 9) (v := ?_) (d := some 50) (by kernel_rfl) rfl rfl (by kernel_rfl) (by kernel_rfl) (by kernel_rfl) (fun _ _ _ h => h) HS0.out (Or.inl ⟨by rfl, fun w hSw => ?_⟩) ?_
    rotate_left
    · obtain ⟨s0, s1⟩ := hSw
      go_simp
      all_goals (try (first | with_reducible rfl | omega))
    try simp only [Act.put]
    try simp only [List.setIfInBounds_toArray]
    try simp only [List.set_cons_zero, List.set_cons_succ]
    refine anyH_take hFr (by kernel_rfl) (i := 10) (v := ?_) (d := some 51) (by kernel_rfl) rfl rfl (by kernel_rfl) (by kernel_rfl) (by kernel_rfl) (fun _ _ _ h => h) HS0.out (Or.inl ⟨by rfl, fun w hSw => ?_⟩) ?_
    rotate_left
    · obtain ⟨s0, s1⟩ := hSw
      go_simp
      all_goals (try (first | with_reducible rfl | omega))
    try simp only [Act.put]
    try simp only [List.setIfInBounds_toArray]
    try simp only [List.set_cons_zero, List.set_cons_succ]
    refine anyH_take hFr (by kernel_rfl) (i := 11) (v := ?_) (d := some 52) (by kernel_rfl) rfl rfl (by kernel_rfl) (by kernel_rfl) (by kernel_rfl) (fun _ _ _ h => h) HS0.out (Or.inl ⟨by rfl, fun w hSw => ?_⟩) ?_
    rotate_left
    · obtain ⟨s0, s1⟩ := hSw
      go_simp
      all_goals (try (first | with_reducible rfl | omega))
    try simp only [Act.put]
    try simp only [List.setIfInBounds_toArray]
    try simp only [List.set_cons_zero, List.set_cons_succ]
    refine anyH_take hFr (by kernel_rfl) (i := 12) (v := ?_) (d := some 53) (by kernel_rfl) rfl rfl (by kernel_rfl) (by kernel_rfl) (by kernel_rfl) (fun _ _ _ h => h) HS0.out (Or.inl ⟨by rfl, fun w hSw => ?_⟩) ?_
    rotate_left
    · obtain ⟨s0, s1⟩ := hSw
      go_simp
      all_goals (try (first | with_reducible rfl | omega))
    try simp only [Act.put]
    try simp only [List.setIfInBounds_toArray]
    try simp only [List.set_cons_zero, List.set_cons_succ]
    refine anyH_take hFr (by kernel_rfl) (i := 13) (v := ?_) (d := some 54) (by kernel_rfl) rfl rfl (by kernel_rfl) (by kernel_rfl) (by kernel_rfl) (fun _ _ _ h => h) HS0.out (Or.inl ⟨by rfl, fun w hSw => ?_⟩) ?_
    rotate_left
    · obtain ⟨s0, s1⟩ := hSw
      go_simp
      all_goals (try (first | with_reducible rfl | omega))
    try simp only [Act.put]
    try simp only [List.setIfInBounds_toArray]
    try simp only [List.set_cons_zero, List.set_cons_succ]
    refine anyH_take hFr (by kernel_rfl) (i := 14) (v := ?_) (d := some 55) (by kernel_rfl) rfl rfl (by kernel_rfl) (by kernel_rfl) (by kernel_rfl) (fun _ _ _ h => h) HS0.out (Or.inl ⟨by rfl, fun w hSw => ?_⟩) ?_
    rotate_left
    · obtain ⟨s0, s1⟩ := hSw
      go_simp
      all_goals (try (first | with_reducible rfl | omega))
    try simp only [Act.put]
    try simp only [List.setIfInBounds_toArray]
    try simp only [List.set_cons_zero, List.set_cons_succ]
    refine anyH_take hFr (by kernel_rfl) (i := 15) (v := ?_) (d := some 56) (by kernel_rfl) rfl rfl (by kernel_rfl) (by kernel_rfl) (by kernel_rfl) (fun _ _ _ h => h) HS0.out (Or.inl ⟨by rfl, fun w hSw => ?_⟩) ?_
    rotate_left
    · obtain ⟨s0, s1⟩ := hSw
      go_simp
      all_goals (try (first | with_reducible rfl | omega))
    try simp only [Act.put]
    try simp only [List.setIfInBounds_toArray]
    try simp only [List.set_cons_zero, List.set_cons_succ]
    refine anyH_one (i := 16) (by kernel_rfl) (op_plainW rfl (by rfl) (by simp) ?_)
    go_simp
    obtain ⟨y7, hy7⟩ : ∃ y7, y7 = Y.alloc (.cells #[.int .i64 item] 2) := ⟨_, rfl⟩
    have HB7 : Hid (Below Y.heap.size Y y7) := by rw [hy7]; exact (Below.refl _ _).alloc (Nat.le_refl _) _
    have HS7 : Hid (SPu y7 b g (r + 1) (.slice (some ⟨g, 0, none⟩) ((r + 1) + 1) c) (.slice ai l.length ci)) := HS0.out.below HB7.out
    have HN7 : Hid (y7.heap[Y.heap.size]? = some (.cells #[.int .i64 item] 2)) := by rw [hy7]; exact heap_alloc_new _ _
    rw [← hy7]
    clear hy7
    (first | refine ⟨fun _ => HS7.out, ?_⟩ | refine ⟨HS7.out, ?_⟩ | skip)
    try simp only [Act.put]
    try simp only [List.setIfInBounds_toArray]
    try simp only [List.set_cons_zero, List.set_cons_succ]
    have HG7 : Hid (SgB 54 28 y7 b B size (.slice (some ⟨g, 0, none⟩) ((r + 1) + 1) c) P2) := HGY.out.below HB7.out
    have hq2 : (r + 1) < P2.length := by rw [HP2.out.1]; omega
    have HO7 : Hid (y7.ownsRow B 2 1 (.slice ai l.length ci) l.length (cellsI l)) := by have := HG7.out.pv.iv.items _ hq2; rw [HP2.out.2 hq2] at this; exact this
    refine anyH_one (i := 17) (by kernel_rfl) (op_plainW rfl (by rfl) (by simp) ?_)
    refine wp_append_lies _ (.tmp 55) (.tmp 57) 42 rfl B 2 i0 _ 1 8 Try.underlying42 hi hz0 hz1 hz2 rfl (by decide) _ l.length (cellsI l) rfl HO7.out ⟨Y.heap.size, 0, none⟩ 1 1 [.int .i64 item] rfl rfl (World.news_of_block (cs := #[.int .i64 item]) (t := 2) (fr := (0, 0)) HN7.out) (by simp [Value.oneCell']) (by decide) (by unfold maxLen; omega) (by omega) (by have := HB7.out.size; omega) _ rfl ?_
    intro g' cap' w8 hown hgrow hat _
    have e2 : P2[(r + 1)].2 = (.slice ai l.length ci) := by rw [HP2.out.2 hq2]
    have hown' : w8.ownsRow B 2 1 (.slice (some ⟨g', 0, none⟩) (l.length + 1) cap') (l ++ [item]).length (cellsI (l ++ [item])) := by rw [cellsI_append, List.length_append]; exact hown
    have HT8 : Hid (PV 54 (w8.setCell ⟨g, (r + 1), none⟩ (.slice (some ⟨g', 0, none⟩) (l.length + 1) cap')) B (.slice (some ⟨g, 0, none⟩) ((r + 1) + 1) c) (P2.set (r + 1) (l ++ [item], .slice (some ⟨g', 0, none⟩) (l.length + 1) cap'))) := HG7.out.pv.turn (k := (r + 1)) (l := l ++ [item]) (v := .slice (some ⟨g', 0, none⟩) (l.length + 1) cap') (by decide) hq2 (by rw [e2]; exact hgrow) hown' (fun x hx => by
        have hx' : g' = x := by simpa [Value.ownBlock] using hx
        rcases hat with e | e
        · exact .inl (by rw [e2, ← hx']; exact e)
        · exact .inr (by omega))
    have hnb : some b ≠ (Value.slice ai l.length ci).ownBlock := fun e => HG7.out.far (by decide) (by decide) b (.inr ⟨_, hq2, by rw [e2]; exact e.symm⟩) rfl
    have hng : some g ≠ (Value.slice ai l.length ci).ownBlock := fun e => typ_ne (HG7.out.pv.iv.items _ hq2) HG7.out.pv.row (by decide) g (by rw [e2]; exact e.symm) rfl
    have HS8 : Hid (SPu w8 b g (r + 1) (.slice (some ⟨g, 0, none⟩) ((r + 1) + 1) c) (.slice ai l.length ci)) := ⟨hgrow.cell HS7.out.c hnb, hgrow.cell HS7.out.z hng⟩
    have HBk : Hid ((w8.setCell ⟨g, (r + 1), none⟩ (.slice (some ⟨g', 0, none⟩) (l.length + 1) cap')).heap[b]? = some (.cells #[.int .i64 size, (.slice (some ⟨g, 0, none⟩) ((r + 1) + 1) c)] 28)) := by
      show _ = _
      rw [Below.heap_setCell _ _ _ _ (fun e => HG7.out.far (by decide) (by decide) g (.inl rfl) e.symm)]
      exact blk_grown HG7.out.blk hgrow hnb
    have HKb : Hid (KB b B w (w8.setCell ⟨g, (r + 1), none⟩ (.slice (some ⟨g', 0, none⟩) (l.length + 1) cap'))) := (((HK.out.below HBY.out).below HB7.out).grown hgrow (fun x hx => (HG7.out.pv.foot (.inr ⟨_, hq2, by rw [e2]; exact hx⟩)).1)).high (HG7.out.pv.foot (.inl rfl)).1 _ _
    have hpn : P2.length = (r + 1) + 1 := HP2.out.1
    have hrow8 : w8.ownsRow B 54 1 (.slice (some ⟨g, 0, none⟩) P2.length c) P2.length (P2.map Prod.snd) := by
      have := own_apart HG7.out.pv.row hgrow (fun x hx e => hng (by
        have hx' : g = x := by simpa [Value.ownBlock] using hx
        rw [hx']; exact e.symm))
      rw [hpn]; rw [hpn] at this; exact this
    have kf : ∀ j, w8.frozen? ⟨g, j, none⟩ = false := own_frozen hrow8
    have kz : w8.cell? ⟨g, (r + 1), none⟩ = some (.slice ai l.length ci) := HS8.out.z
    clear hown hgrow hat hown' hnb hng e2 hq2 HG7 HO7 HN7 HB7 HS7 HGY HBY hpn hrow8
    (first | refine ⟨fun _ => HS8.out, ?_⟩ | refine ⟨HS8.out, ?_⟩ | skip)
    try simp only [Act.put]
    try simp only [List.setIfInBounds_toArray]
    try simp only [List.set_cons_zero, List.set_cons_succ]
    refine anyH_one (i := 18) (by kernel_rfl) (op_plainW rfl (by rfl) (by simp) ?_)
    go_simp
    (first | refine ⟨fun _ => HS8.out, ?_⟩ | refine ⟨HS8.out, ?_⟩ | skip)
    try simp only [Act.put]
    try simp only [List.setIfInBounds_toArray]
    try simp only [List.set_cons_zero, List.set_cons_succ]
    refine anyH_one (i := 19) (by kernel_rfl) (op_plainW rfl (by rfl) (by simp) ?_)
    go_simp
    (first | refine ⟨fun _ => HS8.out, ?_⟩ | refine ⟨HS8.out, ?_⟩ | skip)
    try simp only [Act.put]
    try simp only [List.setIfInBounds_toArray]
    try simp only [List.set_cons_zero, List.set_cons_succ]
    refine anyH_one (i := 20) (by kernel_rfl) (op_plainW rfl (by rfl) (by simp) ?_)
    go_simp
    (first | refine ⟨by kernel_rfl, ?_⟩ | skip)
    try simp only [Act.put]
    try simp only [List.setIfInBounds_toArray]
    try simp only [List.set_cons_zero, List.set_cons_succ]
    (first | refine anyH_done (by kernel_rfl) ?_ _ | skip)
    clear kf kz HS8 HS0
    exact bodyPost_end (v := .tuple #[]) (by simp [results, Try.results39]) rfl ⟨rfl, _, _, ⟨HBk.out, HT8.out⟩, HRes.out _, HKb.out⟩
  | false =>
    have HRes : Hid (∀ v, (P.set r (l ++ [item], v)).map Prod.fst = pushL size.toNat (P.map Prod.fst) item) := fun v => push_last h1 hr hrl (HLe.out hrl) hfl item v
    have a0 : ∀ p : BW w, p.x.cell? ⟨b, 0, none⟩ = some (.int .i64 size) := fun p => p.cell c0
    have a1 : ∀ p : BW w, p.x.cell? ⟨b, 1, none⟩ = some (.slice (some ⟨g, 0, none⟩) (r + 1) cap) := fun p => p.cell c1
    have a2 : ∀ p : BW w, p.x.cell? ⟨g, r, none⟩ = some (.slice ai l.length ci) := fun p => p.cell cz
    have hne := bw_some w
    have hr0 : ((r : Int) + 1 == 0) = false := by rw [beq_eq_false_iff_ne]; omega
    clear hfe hr hrl
    go_enter Try.func39, Try.ntmps39
    go_wp2_with fail
    refine wp_region_below (by kernel_rfl) (by kernel_rfl) ?_
    repeat (go_big_quiet_step (fail))
    refine wpQuiet_nil ?_
    intro X hw'
    obtain ⟨⟨_, bq⟩, rfl⟩ := hw'
    rename_i X
    have HG : Hid (SgB 54 28 X b B size (.slice (some ⟨g, 0, none⟩) (r + 1) cap) P) := H.out.below bq
    have HK : Hid (KB b B w X) := (KB.refl _ _ _).below bq
    have cz2 : X.cell? ⟨g, r, none⟩ = some (.slice ai l.length ci) := cell_keep bq cz
    have hzX : B ≤ X.heap.size := Nat.le_trans hB bq.size
    obtain ⟨P2, hP2⟩ : ∃ P2, P2 = P := ⟨_, rfl⟩
    obtain ⟨c, hcc⟩ : ∃ c, c = cap := ⟨_, rfl⟩
    have HP2 : Hid (P2.length = r + 1 ∧ ∀ h : r < P2.length, P2[r] = (l, .slice ai l.length ci)) := by subst hP2; exact ⟨HQ.out, HPr.out⟩
    have HRes2 : Hid (∀ v, (P2.set r (l ++ [item], v)).map Prod.fst = pushL size.toNat (P.map Prod.fst) item) := by subst hP2; exact HRes.out
    rw [← hP2, ← hcc] at HG
    clear bq hne a0 a1 a2 c0 c1 cz ff H HPr HLe hP2 hcc HRes
    have cz := cz2
    have HRes := HRes2
    clear cz2 HRes2
    have c1 := HG.out.at.c1
    obtain ⟨Y, hY⟩ : ∃ Y, Y = X.drew := ⟨_, rfl⟩
    have HBY : Hid (Below X.heap.size X Y) := by rw [hY]; exact (Below.refl _ _).drew
    have HGY : Hid (SgB 54 28 Y b B size (.slice (some ⟨g, 0, none⟩) (r + 1) c) P2) := HG.out.below HBY.out
    have HS0 : Hid (SPu Y b g r (.slice (some ⟨g, 0, none⟩) (r + 1) c) (.slice ai l.length ci)) := ⟨HGY.out.at.c1, cell_keep HBY.out cz⟩
    have hzY : B ≤ Y.heap.size := Nat.le_trans hzX HBY.out.size
    have hFr : ∀ f, Fence.wide.fn f := fun _ => trivial
    have hwq : IntKind.i64.wrap ((r : Int)) = ((r : Int)) := wrap_id _ (by omega) (by omega)
    have hwl : ((r : Int)) < ((r : Int)) + 1 := by omega
    have hw0 : 0 ≤ ((r : Int)) := by omega
    go_upto_region 4 with fail
    refine (wpIn_wide (n := 0)).1 ?_
    refine region_anyH (z := 20) (S := fun u : World => SPu u b g r (.slice (some ⟨g, 0, none⟩) (r + 1) c) (.slice ai l.length ci)) (by kernel_rfl) ?_
    rw [← hY]
    clear hY cz c1 HG
    refine anyH_take hFr (by kernel_rfl) (i := 0) (v := ?_) (d := some 41) (by kernel_rfl) rfl rfl (by kernel_rfl) (by kernel_rfl) (by kernel_rfl) (fun _ _ _ h => h) HS0.out (Or.inl ⟨by rfl, fun w hSw => ?_⟩) ?_
    rotate_left
    · obtain ⟨s0, s1⟩ := hSw
      go_simp
      all_goals (try (first | with_reducible rfl | omega))
    try simp only [Act.put]
    try simp only [List.setIfInBounds_toArray]
    try simp only [List.set_cons_zero, List.set_cons_succ]
    refine anyH_take hFr (by kernel_rfl) (i := 1) (v := ?_) (d := some 42) (by kernel_rfl) rfl rfl (by kernel_rfl) (by kernel_rfl) (by kernel_rfl) (fun _ _ _ h => h) HS0.out (Or.inl ⟨by rfl, fun w hSw => ?_⟩) ?_
    rotate_left
    · obtain ⟨s0, s1⟩ := hSw
      go_simp
      all_goals (try (first | with_reducible rfl | omega))
    try simp only [Act.put]
    try simp only [List.setIfInBounds_toArray]
    try simp only [List.set_cons_zero, List.set_cons_succ]
    refine anyH_take hFr (by kernel_rfl) (i := 2) (v := ?_) (d := some 43) (by kernel_rfl) rfl rfl (by kernel_rfl) (by kernel_rfl) (by kernel_rfl) (fun _ _ _ h => h) HS0.out (Or.inl ⟨by rfl, fun w hSw => ?_⟩) ?_
    rotate_left
    · obtain ⟨s0, s1⟩ := hSw
      go_simp
      all_goals (try (first | with_reducible rfl | omega))
    try simp only [Act.put]
    try simp only [List.setIfInBounds_toArray]
    try simp only [List.set_cons_zero, List.set_cons_succ]
    refine anyH_take hFr (by kernel_rfl) (i := 3) (v := ?_) (d := some 44) (by kernel_rfl) rfl rfl (by kernel_rfl) (by kernel_rfl) (by kernel_rfl) (fun _ _ _ h => h) HS0.out (Or.inl ⟨by rfl, fun w hSw => ?_⟩) ?_
    rotate_left
    · obtain ⟨s0, s1⟩ := hSw
      go_simp
      all_goals (try (first | with_reducible rfl | omega))
    try simp only [Act.put]
    try simp only [List.setIfInBounds_toArray]
    try simp only [List.set_cons_zero, List.set_cons_succ]
    refine anyH_take hFr (by kernel_rfl) (i := 4) (v := ?_) (d := some 45) (by kernel_rfl) rfl rfl (by kernel_rfl) (by kernel_rfl) (by kernel_rfl) (fun _ _ _ h => h) HS0.out (Or.inl ⟨by rfl, fun w hSw => ?_⟩) ?_
    rotate_left
    · obtain ⟨s0, s1⟩ := hSw
      go_simp
      all_goals (try (first | with_reducible rfl | omega))
    try simp only [Act.put]
    try simp only [List.setIfInBounds_toArray]
    try simp only [List.set_cons_zero, List.set_cons_succ]
    refine anyH_take hFr (by kernel_rfl) (i := 5) (v := ?_) (d := some 46) (by kernel_rfl) rfl rfl (by kernel_rfl) (by kernel_rfl) (by kernel_rfl) (fun _ _ _ h => h) HS0.out (Or.inl ⟨by rfl, fun w hSw => ?_⟩) ?_
    rotate_left
    · obtain ⟨s0, s1⟩ := hSw
      go_simp
      all_goals (try (first | with_reducible rfl | omega))
    try simp only [Act.put]
    try simp only [List.setIfInBounds_toArray]
    try simp only [List.set_cons_zero, List.set_cons_succ]
    refine anyH_take hFr (by kernel_rfl) (i := 6) (v := ?_) (d := some 47) (by kernel_rfl) rfl rfl (by kernel_rfl) (by kernel_rfl) (by kernel_rfl) (fun _ _ _ h => h) HS0.out (Or.inl ⟨by rfl, fun w hSw => ?_⟩) ?_
    rotate_left
    · obtain ⟨s0, s1⟩ := hSw
      go_simp
      all_goals (try (first | with_reducible rfl | omega))
    try simp only [Act.put]
    try simp only [List.setIfInBounds_toArray]
    try simp only [List.set_cons_zero, List.set_cons_succ]
    refine anyH_take hFr (by kernel_rfl) (i := 7) (v := ?_) (d := some 48) (by kernel_rfl) rfl rfl (by kernel_rfl) (by kernel_rfl) (by kernel_rfl) (fun _ _ _ h => h) HS0.out (Or.inl ⟨by rfl, fun w hSw => ?_⟩) ?_
    rotate_left
    · obtain ⟨s0, s1⟩ := hSw
      go_simp
      all_goals (try (first | with_reducible rfl | omega))
    try simp only [Act.put]
    try simp only [List.setIfInBounds_toArray]
    try simp only [List.set_cons_zero, List.set_cons_succ]
    refine anyH_take hFr (by kernel_rfl) (i := 8) (v := ?_) (d := some 49) (by kernel_rfl) rfl rfl (by kernel_rfl) (by kernel_rfl) (by kernel_rfl) (fun _ _ _ h => h) HS0.out (Or.inl ⟨by rfl, fun w hSw => ?_⟩) ?_
    rotate_left
    · obtain ⟨s0, s1⟩ := hSw
      go_simp
      all_goals (try (first | with_reducible rfl | omega))
    try simp only [Act.put]
    try simp only [List.setIfInBounds_toArray]
    try simp only [List.set_cons_zero, List.set_cons_succ]
    refine anyH_take hFr (by kernel_rfl) (i := 9) (v := ?_) (d := some 50) (by kernel_rfl) rfl rfl (by kernel_rfl) (by kernel_rfl) (by kernel_rfl) (fun _ _ _ h => h) HS0.out (Or.inl ⟨by rfl, fun w hSw => ?_⟩) ?_
    rotate_left
    · obtain ⟨s0, s1⟩ := hSw
      go_simp
      all_goals (try (first | with_reducible rfl | omega))
    try simp only [Act.put]
    try simp only [List.setIfInBounds_toArray]
    try simp only [List.set_cons_zero, List.set_cons_succ]
    refine anyH_take hFr (by kernel_rfl) (i := 10) (v := ?_) (d := some 51) (by kernel_rfl) rfl rfl (by kernel_rfl) (by kernel_rfl) (by kernel_rfl) (fun _ _ _ h => h) HS0.out (Or.inl ⟨by rfl, fun w hSw => ?_⟩) ?_
    rotate_left
    · obtain ⟨s0, s1⟩ := hSw
      go_simp
      all_goals (try (first | with_reducible rfl | omega))
    try simp only [Act.put]
    try simp only [List.setIfInBounds_toArray]
    try simp only [List.set_cons_zero, List.set_cons_succ]
    refine anyH_take hFr (by kernel_rfl) (i := 11) (v := ?_) (d := some 52) (by kernel_rfl) rfl rfl (by kernel_rfl) (by kernel_rfl) (by kernel_rfl) (fun _ _ _ h => h) HS0.out (Or.inl ⟨by rfl, fun w hSw => ?_⟩) ?_
    rotate_left
    · obtain ⟨s0, s1⟩ := hSw
      go_simp
      all_goals (try (first | with_reducible rfl | omega))
    try simp only [Act.put]
    try simp only [List.setIfInBounds_toArray]
    try simp only [List.set_cons_zero, List.set_cons_succ]
    refine anyH_take hFr (by kernel_rfl) (i := 12) (v := ?_) (d := some 53) (by kernel_rfl) rfl rfl (by kernel_rfl) (by kernel_rfl) (by kernel_rfl) (fun _ _ _ h => h) HS0.out (Or.inl ⟨by rfl, fun w hSw => ?_⟩) ?_
    rotate_left
    · obtain ⟨s0, s1⟩ := hSw
      go_simp
      all_goals (try (first | with_reducible rfl | omega))
    try simp only [Act.put]
    try simp only [List.setIfInBounds_toArray]
    try simp only [List.set_cons_zero, List.set_cons_succ]
    refine anyH_take hFr (by kernel_rfl) (i := 13) (v := ?_) (d := some 54) (by kernel_rfl) rfl rfl (by kernel_rfl) (by kernel_rfl) (by kernel_rfl) (fun _ _ _ h => h) HS0.out (Or.inl ⟨by rfl, fun w hSw => ?_⟩) ?_
    rotate_left
    · obtain ⟨s0, s1⟩ := hSw
      go_simp
      all_goals (try (first | with_reducible rfl | omega))
    try simp only [Act.put]
    try simp only [List.setIfInBounds_toArray]
    try simp only [List.set_cons_zero, List.set_cons_succ]
    refine anyH_take hFr (by kernel_rfl) (i := 14) (v := ?_) (d := some 55) (by kernel_rfl) rfl rfl (by kernel_rfl) (by kernel_rfl) (by kernel_rfl) (fun _ _ _ h => h) HS0.out (Or.inl ⟨by rfl, fun w hSw => ?_⟩) ?_
    rotate_left
    · obtain ⟨s0, s1⟩ := hSw
      go_simp
      all_goals (try (first | with_reducible rfl | omega))
    try simp only [Act.put]
    try simp only [List.setIfInBounds_toArray]
    try simp only [List.set_cons_zero, List.set_cons_succ]
    refine anyH_take hFr (by kernel_rfl) (i := 15) (v := ?_) (d := some 56) (by kernel_rfl) rfl rfl (by kernel_rfl) (by kernel_rfl) (by kernel_rfl) (fun _ _ _ h => h) HS0.out (Or.inl ⟨by rfl, fun w hSw => ?_⟩) ?_
    rotate_left
    · obtain ⟨s0, s1⟩ := hSw
      go_simp
      all_goals (try (first | with_reducible rfl | omega))
    try simp only [Act.put]
    try simp only [List.setIfInBounds_toArray]
    try simp only [List.set_cons_zero, List.set_cons_succ]
    refine anyH_one (i := 16) (by kernel_rfl) (op_plainW rfl (by rfl) (by simp) ?_)
    go_simp
    obtain ⟨y7, hy7⟩ : ∃ y7, y7 = Y.alloc (.cells #[.int .i64 item] 2) := ⟨_, rfl⟩
    have HB7 : Hid (Below Y.heap.size Y y7) := by rw [hy7]; exact (Below.refl _ _).alloc (Nat.le_refl _) _
    have HS7 : Hid (SPu y7 b g r (.slice (some ⟨g, 0, none⟩) (r + 1) c) (.slice ai l.length ci)) := HS0.out.below HB7.out
    have HN7 : Hid (y7.heap[Y.heap.size]? = some (.cells #[.int .i64 item] 2)) := by rw [hy7]; exact heap_alloc_new _ _
    rw [← hy7]
    clear hy7
    (first | refine ⟨fun _ => HS7.out, ?_⟩ | refine ⟨HS7.out, ?_⟩ | skip)
    try simp only [Act.put]
    try simp only [List.setIfInBounds_toArray]
    try simp only [List.set_cons_zero, List.set_cons_succ]
    have HG7 : Hid (SgB 54 28 y7 b B size (.slice (some ⟨g, 0, none⟩) (r + 1) c) P2) := HGY.out.below HB7.out
    have hq2 : r < P2.length := by rw [HP2.out.1]; omega
    have HO7 : Hid (y7.ownsRow B 2 1 (.slice ai l.length ci) l.length (cellsI l)) := by have := HG7.out.pv.iv.items _ hq2; rw [HP2.out.2 hq2] at this; exact this
    refine anyH_one (i := 17) (by kernel_rfl) (op_plainW rfl (by rfl) (by simp) ?_)
    refine wp_append_lies _ (.tmp 55) (.tmp 57) 42 rfl B 2 i0 _ 1 8 Try.underlying42 hi hz0 hz1 hz2 rfl (by decide) _ l.length (cellsI l) rfl HO7.out ⟨Y.heap.size, 0, none⟩ 1 1 [.int .i64 item] rfl rfl (World.news_of_block (cs := #[.int .i64 item]) (t := 2) (fr := (0, 0)) HN7.out) (by simp [Value.oneCell']) (by decide) (by unfold maxLen; omega) (by omega) (by have := HB7.out.size; omega) _ rfl ?_
    intro g' cap' w8 hown hgrow hat _
    have e2 : P2[r].2 = (.slice ai l.length ci) := by rw [HP2.out.2 hq2]
    have hown' : w8.ownsRow B 2 1 (.slice (some ⟨g', 0, none⟩) (l.length + 1) cap') (l ++ [item]).length (cellsI (l ++ [item])) := by rw [cellsI_append, List.length_append]; exact hown
    have HT8 : Hid (PV 54 (w8.setCell ⟨g, r, none⟩ (.slice (some ⟨g', 0, none⟩) (l.length + 1) cap')) B (.slice (some ⟨g, 0, none⟩) (r + 1) c) (P2.set r (l ++ [item], .slice (some ⟨g', 0, none⟩) (l.length + 1) cap'))) := HG7.out.pv.turn (k := r) (l := l ++ [item]) (v := .slice (some ⟨g', 0, none⟩) (l.length + 1) cap') (by decide) hq2 (by rw [e2]; exact hgrow) hown' (fun x hx => by
        have hx' : g' = x := by simpa [Value.ownBlock] using hx
        rcases hat with e | e
        · exact .inl (by rw [e2, ← hx']; exact e)
        · exact .inr (by omega))
    have hnb : some b ≠ (Value.slice ai l.length ci).ownBlock := fun e => HG7.out.far (by decide) (by decide) b (.inr ⟨_, hq2, by rw [e2]; exact e.symm⟩) rfl
    have hng : some g ≠ (Value.slice ai l.length ci).ownBlock := fun e => typ_ne (HG7.out.pv.iv.items _ hq2) HG7.out.pv.row (by decide) g (by rw [e2]; exact e.symm) rfl
    have HS8 : Hid (SPu w8 b g r (.slice (some ⟨g, 0, none⟩) (r + 1) c) (.slice ai l.length ci)) := ⟨hgrow.cell HS7.out.c hnb, hgrow.cell HS7.out.z hng⟩
    have HBk : Hid ((w8.setCell ⟨g, r, none⟩ (.slice (some ⟨g', 0, none⟩) (l.length + 1) cap')).heap[b]? = some (.cells #[.int .i64 size, (.slice (some ⟨g, 0, none⟩) (r + 1) c)] 28)) := by
      show _ = _
      rw [Below.heap_setCell _ _ _ _ (fun e => HG7.out.far (by decide) (by decide) g (.inl rfl) e.symm)]
      exact blk_grown HG7.out.blk hgrow hnb
    have HKb : Hid (KB b B w (w8.setCell ⟨g, r, none⟩ (.slice (some ⟨g', 0, none⟩) (l.length + 1) cap'))) := (((HK.out.below HBY.out).below HB7.out).grown hgrow (fun x hx => (HG7.out.pv.foot (.inr ⟨_, hq2, by rw [e2]; exact hx⟩)).1)).high (HG7.out.pv.foot (.inl rfl)).1 _ _
    have hpn : P2.length = r + 1 := HP2.out.1
    have hrow8 : w8.ownsRow B 54 1 (.slice (some ⟨g, 0, none⟩) P2.length c) P2.length (P2.map Prod.snd) := by
      have := own_apart HG7.out.pv.row hgrow (fun x hx e => hng (by
        have hx' : g = x := by simpa [Value.ownBlock] using hx
        rw [hx']; exact e.symm))
      rw [hpn]; rw [hpn] at this; exact this
    have kf : ∀ j, w8.frozen? ⟨g, j, none⟩ = false := own_frozen hrow8
    have kz : w8.cell? ⟨g, r, none⟩ = some (.slice ai l.length ci) := HS8.out.z
    clear hown hgrow hat hown' hnb hng e2 hq2 HG7 HO7 HN7 HB7 HS7 HGY HBY hpn hrow8
    (first | refine ⟨fun _ => HS8.out, ?_⟩ | refine ⟨HS8.out, ?_⟩ | skip)
    try simp only [Act.put]
    try simp only [List.setIfInBounds_toArray]
    try simp only [List.set_cons_zero, List.set_cons_succ]
    refine anyH_one (i := 18) (by kernel_rfl) (op_plainW rfl (by rfl) (by simp) ?_)
    go_simp
    (first | refine ⟨fun _ => HS8.out, ?_⟩ | refine ⟨HS8.out, ?_⟩ | skip)
    try simp only [Act.put]
    try simp only [List.setIfInBounds_toArray]
    try simp only [List.set_cons_zero, List.set_cons_succ]
    refine anyH_one (i := 19) (by kernel_rfl) (op_plainW rfl (by rfl) (by simp) ?_)
    go_simp
    (first | refine ⟨fun _ => HS8.out, ?_⟩ | refine ⟨HS8.out, ?_⟩ | skip)
    try simp only [Act.put]
    try simp only [List.setIfInBounds_toArray]
    try simp only [List.set_cons_zero, List.set_cons_succ]
    refine anyH_one (i := 20) (by kernel_rfl) (op_plainW rfl (by rfl) (by simp) ?_)
    go_simp
    (first | refine ⟨by kernel_rfl, ?_⟩ | skip)
    try simp only [Act.put]
    try simp only [List.setIfInBounds_toArray]
    try simp only [List.set_cons_zero, List.set_cons_succ]
    (first | refine anyH_done (by kernel_rfl) ?_ _ | skip)
    clear kf kz HS8 HS0
    exact bodyPost_end (v := .tuple #[]) (by simp [results, Try.results39]) rfl ⟨rfl, _, _, ⟨HBk.out, HT8.out⟩, HRes.out _, HKb.out⟩
end Go.Proofs.Ytdohpfckiahlcaa
