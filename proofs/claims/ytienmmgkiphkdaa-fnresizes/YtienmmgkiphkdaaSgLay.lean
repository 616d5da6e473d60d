/-
  The program's piecesFor and layOut: a list laid out by pieces, each in a row of its own; nothing that was there is turned.
-/
import Derived.Test.YtienmmgkiphkdaaSgTurn
namespace Go.Proofs.Ytienmmgkiphkdaa
open Go.RowKit Go.Extern.Stop Go.Stop Go.Extern Num Go.Lib

theorem min_two (ats : Array TypeId) (ty : TypeId) (x y : Int) (w : World) : (Builtin.min_ ats ty #[.int .i64 x, .int .i64 y]).run Try.prog w = .ok (.int .i64 (min x y)) w := by
  have e : (if y < x then y else x) = min x y := by split <;> omega
  simp [Builtin.min_, Builtin.min2, e]
theorem piecesFor_any (m n : Nat) (w : World) (h1 : 1 ≤ n) (hn : n ≤ 64) (hm : m ≤ 1048576) :
    Calls Try.prog 77 #[.int .i64 (m : Int), .int .i64 (n : Int)] w fun e w' => e = .returned (.int .i64 (piecesN n m : Int)) ∧ w' = w := by
  have HE : Hid (((m : Int) + (n : Int) - 1) / (n : Int) = (piecesN n m : Int)) := by
    show _ = _
    unfold piecesN
    have e : (m : Int) + (n : Int) - 1 = ((m + n - 1 : Nat) : Int) := by omega
    rw [e]
    exact (Int.natCast_ediv _ _).symm
  have hne : (n : Int) ≠ 0 := by omega
  go_enter Try.func77, Try.ntmps77
  go_wp2
  go_ret
  exact ⟨by rw [← HE.out]; rfl, rfl⟩
theorem own_len {w : World} {B cap n g size : Nat} {T : TypeId} {xs : List Value} (h : w.ownsRow B T size (.slice (some ⟨g, 0, none⟩) n cap) n xs) : n ≤ cap ∧ cap ≤ maxLen := by
  rcases h.2 with ⟨hv, _⟩ | ⟨g', cap', cur, hv, q1, q2, q3, q4, q5, q6⟩
  · simp at hv
  · obtain ⟨rfl, rfl⟩ : g = g' ∧ cap = cap' := by simp at hv; exact hv
    exact ⟨q3, q4⟩
set_option maxRecDepth 100000 in
set_option maxHeartbeats 1000000 in
theorem layOut_any (n : Nat) (lv : Value) (l : List Int) (B0 : Nat) (w : World) (h1 : 1 ≤ n) (hn : n ≤ 64) (hl : l.length ≤ 4000) (h : w.ownsRow B0 2 1 lv l.length (cellsI l)) :
    Calls Try.prog 62 #[.int .i64 (n : Int), lv] w fun e w' => ∃ v P, e = .returned (segV (n : Int) v) ∧ PV 33 w' w.heap.size v P ∧ P.map Prod.fst = openL n l ∧ Below w.heap.size w w' := by
  rw [← layL_open h1]
  obtain ⟨K, hK⟩ : ∃ K, K = piecesN n l.length := ⟨_, rfl⟩
  have HPf : Hid (∀ u, Calls Try.prog 77 #[.int .i64 (l.length : Int), .int .i64 (n : Int)] u fun e w' => e = .returned (.int .i64 (K : Int)) ∧ w' = u) := fun u => by rw [hK]; exact piecesFor_any _ _ u h1 hn (by omega)
  have HKe : Hid (∀ k, k < K → k * n < l.length) := fun k hk => (piecesN_at h1 (hK ▸ hk)).1
  have hKl : K ≤ 4064 := by rw [hK]; unfold piecesN; exact Nat.le_trans (Nat.div_le_self _ _) (by omega)
  rw [← hK]
  have HT : Hid (∀ u, Below w.heap.size w u → u.ownsRow B0 2 1 lv l.length (cellsI l)) := fun u hu => own_below h hu
  obtain ⟨a, c, rfl⟩ := own_form h
  have hcap : l.length ≤ c ∨ l = [] := by
    rcases h.2 with ⟨hv, h0⟩ | ⟨g', cap', cur, hv, q1, q2, q3, q4, q5, q6⟩
    · exact .inr (List.length_eq_zero_iff.1 h0)
    · have e : c = cap' := by simp at hv; exact hv.2
      exact .inl (by omega)
  have HCap : Hid (l.length ≤ c ∨ l = []) := hcap
  obtain ⟨b, hb⟩ : ∃ b, b = w.heap.size + 1 := ⟨_, rfl⟩
  obtain ⟨W, hW⟩ : ∃ W, W = (w.alloc (.cells #[.int .i64 0, .slice none 0 0] 67)).alloc (.cells #[.int .i64 (n : Int), .slice none 0 0] 67) := ⟨_, rfl⟩
  have HW : Hid (W = (w.alloc (.cells #[.int .i64 0, .slice none 0 0] 67)).alloc (.cells #[.int .i64 (n : Int), .slice none 0 0] 67)) := hW
  have HI : Hid (SgB 33 67 W b (w.heap.size + 2) (n : Int) (.slice none 0 0) []) := by
    rw [hW, hb]
    have := SgB.new (T := 33) (Tb := 67) (w := w.alloc (.cells #[.int .i64 0, .slice none 0 0] 67)) (size := (n : Int)) (pv_nil 33 (w.alloc (.cells #[.int .i64 0, .slice none 0 0] 67)) (w.heap.size + 2))
    have e1 : (w.alloc (.cells #[.int .i64 0, .slice none 0 0] 67)).heap.size = w.heap.size + 1 := by simp
    rw [e1] at this
    exact this
  have HWw : Hid (Below w.heap.size w W) := by rw [hW]; exact ((Below.refl _ _).alloc (Nat.le_refl _) _).alloc (by simp) _
  have hzW : W.heap.size = w.heap.size + 2 := by rw [hW]; simp
  have HR0 : Hid (W.cell? ⟨w.heap.size, 0, none⟩ = some (.int .i64 0) ∧ W.cell? ⟨w.heap.size, 1, none⟩ = some (.slice none 0 0) ∧ ∀ j, W.frozen? ⟨w.heap.size, j, none⟩ = false) := by rw [hW]; exact ⟨by simp [go_sem], by simp [go_sem], fun j => by simp [go_sem]⟩
  have HBk : Hid (∀ u, KB b (w.heap.size + 2) W u → Below w.heap.size w u ∧ u.cell? ⟨w.heap.size, 0, none⟩ = some (.int .i64 0) ∧ u.cell? ⟨w.heap.size, 1, none⟩ = some (.slice none 0 0) ∧ (∀ j, u.frozen? ⟨w.heap.size, j, none⟩ = false) ∧ w.heap.size + 2 ≤ u.heap.size) := fun u hu => by
    have h1 := hu.to (C := w.heap.size + 1) (by omega) (by omega) (by omega)
    have hlt : w.heap.size < w.heap.size + 1 := by omega
    refine ⟨HWw.out.trans (h1.mono (by omega)), ?_, ?_, fun j => ?_, by have := hu.size; omega⟩
    · rw [h1.cell (p := ⟨w.heap.size, 0, none⟩) hlt]; exact HR0.out.1
    · rw [h1.cell (p := ⟨w.heap.size, 1, none⟩) hlt]; exact HR0.out.2.1
    · rw [h1.frozen (p := ⟨w.heap.size, j, none⟩) hlt]; exact HR0.out.2.2 j
  have HBe : Hid (b = w.heap.size + 1) := hb
  obtain ⟨j0, hj, hy0, hy1, hy2⟩ := info_parts infoIS
  have hmn := min_two
  have hFr : ∀ f, Fence.wide.fn f := fun _ => trivial
  clear h hW hzW hb hcap hK
  go_enter Try.func62, Try.ntmps62
  go_wp2_with fail
  rw [← HW.out, ← HBe.out]
  refine (HPf.out _).mono ?_
  rintro e w1 ⟨rfl, e1⟩
  replace e1 := e1.symm
  subst e1
  clear HW
  go_wp2_with fail
  go_loopw [14] (fun i wr => ∃ k : Nat, k ≤ K ∧ i = .int .i64 (k : Int) ∧ Hid (∃ v P, SgB 33 67 wr b (w.heap.size + 2) (n : Int) v P ∧ P.map Prod.fst = layL n l k) ∧ Hid (KB b (w.heap.size + 2) W wr)) (fun i _ => K - (RowKit.intOf i).toNat)
  case atStart => exact ⟨0, Nat.zero_le _, rfl, ⟨_, _, HI.out, rfl⟩, KB.refl _ _ _⟩
  case round =>
    obtain ⟨k, hk, rfl, HX, HK⟩ := hrel
    by_cases hlt : k < K
    · have hfl := HKe.out k hlt
      obtain ⟨f, hf⟩ : ∃ f, f = k * n := ⟨_, rfl⟩
      rw [← hf] at hfl
      have hmul : (k : Int) * (n : Int) = (f : Int) := by rw [hf]; simp
      obtain ⟨t, ht⟩ : ∃ t, t = min (f + n) l.length := ⟨_, rfl⟩
      have hmt : min ((f : Int) + (n : Int)) (l.length : Int) = (t : Int) := by rw [ht]; omega
      have htl : f < t ∧ t ≤ l.length ∧ t ≤ f + n := by omega
      obtain ⟨ht1, ht2, ht3⟩ := htl
      have hown := HT.out wr (HBk.out wr HK.out).1
      obtain ⟨g, c', hv, _, _⟩ := hown.form (by omega)
      obtain ⟨rfl, rfl⟩ : a = some ⟨g, 0, none⟩ ∧ c = c' := by simp at hv; exact hv
      have hcl : l.length ≤ c := by rcases HCap.out with q | q; exact q; rw [q] at hfl; simp at hfl
      obtain ⟨p, hp⟩ : ∃ p, p = (l.drop (k * n)).take n := ⟨_, rfl⟩
      have hpl : p.length = t - f := by rw [hp, List.length_take, List.length_drop, ← hf]; omega
      have HSp : Hid (∀ u, Below wr.heap.size wr u → SeeI u (.slice (some ⟨g, f, none⟩) (t - f) (c - f)) p) := fun u hu => by
        refine ⟨_, _, by rw [hpl], fun _ => ⟨_, _, rfl, fun i hi => ?_⟩⟩
        have h1 := rowI_at (own_below hown hu) (f + i) (by omega)
        have h2 : p[i] = l[f + i]'(by omega) := by simp only [hp]; rw [List.getElem_take, List.getElem_drop]; simp only [hf]
        rw [h2]; exact h1
      obtain ⟨v, P, hs, hm⟩ := HX.out
      have hPl : P.length = k := by rw [map_len hm, layL_len]
      have HPl : Hid (k = P.length) := hPl.symm
      have HMp : Hid (∀ y, (P ++ [(p, y)]).map Prod.fst = layL n l (k + 1)) := fun y => by rw [List.map_append, hm, layL_next, hp]; rfl
      obtain ⟨av, cv, hvv⟩ := hs.pv.form
      rw [hPl] at hvv
      subst hvv
      have HG : Hid (SgB 33 67 wr b (w.heap.size + 2) (n : Int) (.slice av k cv) P) := hs
      have hp0 : 0 < p.length := by omega
      have hpb : p.length ≤ 1048576 := by omega
      have HPle : Hid (p.length = t - f) := hpl
      have c1 := hs.at.c1
      clear hv hown hp hpl hs hm hPl HX hf ht
      have HCl : Hid (∀ u, Below wr.heap.size wr u → Calls Try.prog 78 #[.slice (some ⟨g, f, none⟩) (t - f) (c - f)] u fun e w' => ∃ x, e = .returned x ∧ w'.ownsRow u.heap.size 2 1 x p.length (cellsI p) ∧ Below u.heap.size u w') := fun u hu => cloneI_any _ p u hp0 hpb (HSp.out u hu)
      obtain ⟨Y, hY⟩ : ∃ Y, Y = wr.drew := ⟨_, rfl⟩
      have HBY : Hid (Below wr.heap.size wr Y) := by rw [hY]; exact (Below.refl _ _).drew
      have HS0 : Hid (Y.cell? ⟨b, 1, none⟩ = some (.slice av k cv)) := cell_keep HBY.out c1
      have hwf : IntKind.i64.wrap ((f : Int) + (n : Int)) = (f : Int) + (n : Int) := wrap_id _ (by omega) (by omega)
      have hft : (f : Int) ≤ (t : Int) := by omega
      have htc : (t : Int) ≤ (c : Int) := by omega
      have hcf : ¬ c = f := by omega
      have hzr : w.heap.size + 2 ≤ wr.heap.size := (HBk.out wr HK.out).2.2.2.2
      have hzY : w.heap.size + 2 ≤ Y.heap.size := Nat.le_trans hzr HBY.out.size
      have hkb : k ≤ 4064 := by omega
      go_upto_region 6 with fail
      refine (wpIn_wide (n := 0)).1 ?_
      refine region_anyH (z := 15) (S := fun u : World => u.cell? ⟨b, 1, none⟩ = some (.slice av k cv)) (by kernel_rfl) ?_
      rw [← hY]
      clear hY c1
      refine anyH_take hFr (by kernel_rfl) (i := 0) (v := ?_) (d := some 20) (by kernel_rfl) rfl rfl (by kernel_rfl) (by kernel_rfl) (by kernel_rfl) (fun _ _ _ h => h) HS0.out (Or.inl ⟨by rfl, fun w hSw => ?_⟩) ?_
      rotate_left
      · have s0 := hSw
        go_simp
        all_goals (try (first | with_reducible rfl | omega))
      try simp only [Act.put]
      try simp only [List.setIfInBounds_toArray]
      try simp only [List.set_cons_zero, List.set_cons_succ]
      refine anyH_take hFr (by kernel_rfl) (i := 1) (v := ?_) (d := some 21) (by kernel_rfl) rfl rfl (by kernel_rfl) (by kernel_rfl) (by kernel_rfl) (fun _ _ _ h => h) HS0.out (Or.inl ⟨by rfl, fun w hSw => ?_⟩) ?_
      rotate_left
      · have s0 := hSw
        go_simp
        all_goals (try (first | with_reducible rfl | omega))
      try simp only [Act.put]
      try simp only [List.setIfInBounds_toArray]
      try simp only [List.set_cons_zero, List.set_cons_succ]
      refine anyH_take hFr (by kernel_rfl) (i := 2) (v := ?_) (d := some 22) (by kernel_rfl) rfl rfl (by kernel_rfl) (by kernel_rfl) (by kernel_rfl) (fun _ _ _ h => h) HS0.out (Or.inl ⟨by rfl, fun w hSw => ?_⟩) ?_
      rotate_left
      · have s0 := hSw
        go_simp
        all_goals (try (first | with_reducible rfl | omega))
      try simp only [Act.put]
      try simp only [List.setIfInBounds_toArray]
      try simp only [List.set_cons_zero, List.set_cons_succ]
      refine anyH_take hFr (by kernel_rfl) (i := 3) (v := ?_) (d := some 23) (by kernel_rfl) rfl rfl (by kernel_rfl) (by kernel_rfl) (by kernel_rfl) (fun _ _ _ h => h) HS0.out (Or.inl ⟨by rfl, fun w hSw => ?_⟩) ?_
      rotate_left
      · have s0 := hSw
        go_simp
        all_goals (try (first | with_reducible rfl | omega))
      try simp only [Act.put]
      try simp only [List.setIfInBounds_toArray]
      try simp only [List.set_cons_zero, List.set_cons_succ]
      refine anyH_take hFr (by kernel_rfl) (i := 4) (v := ?_) (d := some 24) (by kernel_rfl) rfl rfl (by kernel_rfl) (by kernel_rfl) (by kernel_rfl) (fun _ _ _ h => h) HS0.out (Or.inl ⟨by rfl, fun w hSw => ?_⟩) ?_
      rotate_left
      · have s0 := hSw
        go_simp
        all_goals (try (first | with_reducible rfl | omega))
      try simp only [Act.put]
      try simp only [List.setIfInBounds_toArray]
      try simp only [List.set_cons_zero, List.set_cons_succ]
      refine anyH_take hFr (by kernel_rfl) (i := 5) (v := ?_) (d := some 25) (by kernel_rfl) rfl rfl (by kernel_rfl) (by kernel_rfl) (by kernel_rfl) (fun _ _ _ h => h) HS0.out (Or.inl ⟨by rfl, fun w hSw => ?_⟩) ?_
      rotate_left
      · have s0 := hSw
        go_simp
        all_goals (try (first | with_reducible rfl | omega))
      try simp only [Act.put]
      try simp only [List.setIfInBounds_toArray]
      try simp only [List.set_cons_zero, List.set_cons_succ]
      refine anyH_take hFr (by kernel_rfl) (i := 6) (v := ?_) (d := some 26) (by kernel_rfl) rfl rfl (by kernel_rfl) (by kernel_rfl) (by kernel_rfl) (fun _ _ _ h => h) HS0.out (Or.inl ⟨by rfl, fun w hSw => ?_⟩) ?_
      rotate_left
      · have s0 := hSw
        go_simp
        all_goals (try (first | with_reducible rfl | omega))
      try simp only [Act.put]
      try simp only [List.setIfInBounds_toArray]
      try simp only [List.set_cons_zero, List.set_cons_succ]
      refine anyH_take hFr (by kernel_rfl) (i := 7) (v := ?_) (d := some 27) (by kernel_rfl) rfl rfl (by kernel_rfl) (by kernel_rfl) (by kernel_rfl) (fun _ _ _ h => h) HS0.out (Or.inl ⟨by rfl, fun w hSw => ?_⟩) ?_
      rotate_left
      · have s0 := hSw
        go_simp
        all_goals (try (first | with_reducible rfl | omega))
      try simp only [Act.put]
      try simp only [List.setIfInBounds_toArray]
      try simp only [List.set_cons_zero, List.set_cons_succ]
      refine anyH_take hFr (by kernel_rfl) (i := 8) (v := ?_) (d := some 28) (by kernel_rfl) rfl rfl (by kernel_rfl) (by kernel_rfl) (by kernel_rfl) (fun _ _ _ h => h) HS0.out (Or.inl ⟨by rfl, fun w hSw => ?_⟩) ?_
      rotate_left
      · have s0 := hSw
        go_simp
        all_goals (try (first | with_reducible rfl | omega))
      try simp only [Act.put]
      try simp only [List.setIfInBounds_toArray]
      try simp only [List.set_cons_zero, List.set_cons_succ]
      refine anyH_take hFr (by kernel_rfl) (i := 9) (v := ?_) (d := some 29) (by kernel_rfl) rfl rfl (by kernel_rfl) (by kernel_rfl) (by kernel_rfl) (fun _ _ _ h => h) HS0.out (Or.inl ⟨by rfl, fun w hSw => ?_⟩) ?_
      rotate_left
      · have s0 := hSw
        go_simp
        all_goals (try (first | with_reducible rfl | omega))
      try simp only [Act.put]
      try simp only [List.setIfInBounds_toArray]
      try simp only [List.set_cons_zero, List.set_cons_succ]
      refine anyH_take hFr (by kernel_rfl) (i := 10) (v := ?_) (d := some 30) (by kernel_rfl) rfl rfl (by kernel_rfl) (by kernel_rfl) (by kernel_rfl) (fun _ _ _ h => h) HS0.out (Or.inl ⟨by rfl, fun w hSw => ?_⟩) ?_
      rotate_left
      · have s0 := hSw
        go_simp
        all_goals (try (first | with_reducible rfl | omega))
      try simp only [Act.put]
      try simp only [List.setIfInBounds_toArray]
      try simp only [List.set_cons_zero, List.set_cons_succ]
      refine anyH_one (i := 11) (by kernel_rfl) (op_plainW rfl (by rfl) (by simp) ?_)
      go_simp
      refine (HCl.out Y HBY.out).mono ?_
      rintro e y6 ⟨y, rfl, o6, b6⟩
      have HB6 : Hid (Below wr.heap.size wr y6) := HBY.out.trans (b6.mono HBY.out.size)
      have HS6 : Hid (y6.cell? ⟨b, 1, none⟩ = some (.slice av k cv)) := cell_keep b6 HS0.out
      have HO6 : Hid (y6.ownsRow wr.heap.size 2 1 y p.length (cellsI p)) := own_base o6 HBY.out.size
      obtain ⟨ay, cy, rfl⟩ := own_form o6
      clear b6 o6
      (first | refine ⟨fun _ => HS6.out, ?_⟩ | refine ⟨HS6.out, ?_⟩ | skip)
      try simp only [Act.put]
      try simp only [List.setIfInBounds_toArray]
      try simp only [List.set_cons_zero, List.set_cons_succ]
      refine anyH_one (i := 12) (by kernel_rfl) (op_plainW rfl (by rfl) (by simp) ?_)
      go_simp
      obtain ⟨y7, hy7⟩ : ∃ y7, y7 = y6.alloc (.cells #[.slice ay p.length cy] 33) := ⟨_, rfl⟩
      have HB7 : Hid (Below wr.heap.size wr y7) := by rw [hy7]; exact HB6.out.alloc HB6.out.size _
      have HB67 : Hid (Below y6.heap.size y6 y7) := by rw [hy7]; exact (Below.refl _ _).alloc (Nat.le_refl _) _
      have HS7 : Hid (y7.cell? ⟨b, 1, none⟩ = some (.slice av k cv)) := cell_keep HB67.out HS6.out
      have HN7 : Hid (y7.heap[y6.heap.size]? = some (.cells #[.slice ay p.length cy] 33)) := by rw [hy7]; exact heap_alloc_new _ _
      rw [← hy7]
      clear hy7
      (first | refine ⟨fun _ => HS7.out, ?_⟩ | refine ⟨HS7.out, ?_⟩ | skip)
      try simp only [Act.put]
      try simp only [List.setIfInBounds_toArray]
      try simp only [List.set_cons_zero, List.set_cons_succ]
      have HG7 : Hid (SgB 33 67 y7 b (w.heap.size + 2) (n : Int) (.slice av k cv) P) := HG.out.below HB7.out
      have HI7 : Hid (IV y7 (w.heap.size + 2) (P ++ [(p, .slice ay p.length cy)])) := HG.out.pv.iv.snoc HB7.out hzr (own_below HO6.out HB67.out)
      have HR7 : Hid (y7.ownsRow (w.heap.size + 2) 33 1 (.slice av k cv) k (P.map Prod.snd)) := by have := HG7.out.pv.row; rw [← HPl.out] at this; exact this
      refine anyH_one (i := 13) (by kernel_rfl) (op_plainW rfl (by rfl) (by simp) ?_)
      refine wp_append_lies _ (.tmp 21) (.tmp 32) 65 rfl (w.heap.size + 2) 33 j0 _ 1 24 Try.underlying65 hj hy0 hy1 hy2 rfl (by decide) _ k (P.map Prod.snd) rfl HR7.out ⟨y6.heap.size, 0, none⟩ 1 1 [.slice ay p.length cy] rfl rfl (World.news_of_block (cs := #[.slice ay p.length cy]) (t := 33) (fr := (0, 0)) HN7.out) (by intro u hu; simp at hu; subst hu; rfl) (by decide) (by unfold maxLen; omega) (by omega) (by have := HB7.out.size; omega) _ rfl ?_
      intro g' cap' w8 hown hgrow hat _
      have hbn := HG7.out.far (by decide) (by decide)
      have HPn : PV 33 w8 (w.heap.size + 2) (.slice (some ⟨g', 0, none⟩) (k + 1) cap') (P ++ [(p, .slice ay p.length cy)]) := HG7.out.pv.snoc (by decide) HPl.out HI7.out hown hgrow
      have hbk : w8.heap[b]? = some (.cells #[.int .i64 (n : Int), .slice av k cv] 67) := blk_grown HG7.out.blk hgrow (fun e => hbn b (.inl e.symm) rfl)
      have k0 : w8.cell? ⟨b, 1, none⟩ = some (.slice av k cv) := by rw [cell_of_row w8 b 1 _ _ _ hbk]; rfl
      have kf : ∀ j, w8.frozen? ⟨b, j, none⟩ = false := fun j => by simp [World.frozen?, hbk]
      have HS8 : Hid (w8.cell? ⟨b, 1, none⟩ = some (.slice av k cv)) := k0
      have HX1 : Hid (∃ v P, SgB 33 67 (w8.setCell ⟨b, 1, none⟩ (.slice (some ⟨g', 0, none⟩) (k + 1) cap')) b (w.heap.size + 2) (n : Int) v P ∧ P.map Prod.fst = layL n l (k + 1)) := ⟨_, _, SgB.store hbk HPn (by decide) (by decide), HMp.out _⟩
      have HK1 : Hid (KB b (w.heap.size + 2) W (w8.setCell ⟨b, 1, none⟩ (.slice (some ⟨g', 0, none⟩) (k + 1) cap'))) := ((HK.out.below HB7.out).grown hgrow (fun x hx => (HG7.out.pv.foot (.inl hx)).1)).box _ _
      clear hown hgrow hat hbn HPn hbk HG7 HI7 HR7 HN7 HB7 HB67 HS7 HO6 HS6 HB6
      (first | refine ⟨fun _ => HS8.out, ?_⟩ | refine ⟨HS8.out, ?_⟩ | skip)
      try simp only [Act.put]
      try simp only [List.setIfInBounds_toArray]
      try simp only [List.set_cons_zero, List.set_cons_succ]
      refine anyH_one (i := 14) (by kernel_rfl) (op_plainW rfl (by rfl) (by simp) ?_)
      go_simp
      (first | refine ⟨fun _ => HS8.out, ?_⟩ | refine ⟨HS8.out, ?_⟩ | skip)
      try simp only [Act.put]
      try simp only [List.setIfInBounds_toArray]
      try simp only [List.set_cons_zero, List.set_cons_succ]
      refine anyH_one (i := 15) (by kernel_rfl) (op_plainW rfl (by rfl) (by simp) ?_)
      go_simp
      (first | refine ⟨by kernel_rfl, ?_⟩ | skip)
      try simp only [Act.put]
      try simp only [List.setIfInBounds_toArray]
      try simp only [List.set_cons_zero, List.set_cons_succ]
      (first | refine anyH_done (by kernel_rfl) ?_ _ | skip)
      clear k0 kf HS8 HS0 hwf hft htc hmt hmul
      go_wp2
      exact ⟨⟨k + 1, by omega, by go_num, HX1.out, HK1.out⟩, by simp [RowKit.intOf]; omega⟩
    · obtain ⟨v, P, hs, hm⟩ := HX.out
      have hkK : k = K := by omega
      have HM : Hid (P.map Prod.fst = layL n l K) := by rw [hkK] at hm; exact hm
      have HV : Hid (PV 33 wr (w.heap.size + 2) v P) := hs.pv
      obtain ⟨c0, c1⟩ := hs.at
      obtain ⟨hb0, r0, r1, rf, hzr⟩ := HBk.out wr HK.out
      have HB0 : Hid (Below w.heap.size w wr) := hb0
      have hrl : w.heap.size < wr.heap.size := by omega
      obtain ⟨av, cv, rfl⟩ := hs.pv.form
      generalize P.length = m at HV c1 ⊢
      clear hs hm HX hb0 hkK
      go_wp2
      refine bodyPost_ret (v := segV (n : Int) (.slice av m cv)) (by simp [results, Try.results62, go_sem, r0, r1]) rfl ⟨_, P, rfl, ?_, HM.out, ?_⟩
      · refine PV.base (B := w.heap.size + 2) ?_ (by omega)
        iterate 2 (refine PV.setLow ?_ (by omega))
        exact HV.out
      · iterate 2 (refine Below.setCell ?_ (by simp <;> omega) _)
        exact HB0.out
end Go.Proofs.Ytienmmgkiphkdaa
