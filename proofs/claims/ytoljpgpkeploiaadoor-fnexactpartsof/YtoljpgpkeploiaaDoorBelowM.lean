/-
  The program's iterator below: a place and all places behind it that hang on it, each with its node; nothing that was there is turned.
-/
import Derived.Test.YtoljpgpkeploiaaDoorUpM
import Derived.Test.YtoljpgpkeploiaaDoorSeqO
import Derived.Test.YtoljpgpkeploiaaDoorHeldIn
namespace Go.Proofs.YtoljpgpkeploiaaDoor
open Go.RowKit Go.Extern.Stop Go.Stop Go.Extern Num Go.Lib Go.Shelf
attribute [local go_sem] Oper.semAt_some

/-- A place and its node, as they are told. -/
abbrev encN (x : Int × Dat) : Array Value := #[.int .i64 x.1, .agg #[.int .i64 x.2.parent, .int .i64 x.2.kind, .int .i64 x.2.num, .string x.2.name]]
/-- The places from a on, up to e, each with its node. -/
def tellN (N : List Dat) (a : Nat) : Nat → List (Int × Dat)
  | 0 => []
  | m + 1 => tellN N a m ++ (match N[a + m]? with | some t => [(((a + m : Nat) : Int), t)] | none => [])
theorem tellN_next (N : List Dat) (a m : Nat) (h : a + m < N.length) : tellN N a (m + 1) = tellN N a m ++ [(((a + m : Nat) : Int), N[a + m])] := by
  simp [tellN, h]
theorem tellN_len (N : List Dat) (a : Nat) : ∀ m, a + m ≤ N.length → (tellN N a m).length = m
  | 0, _ => rfl
  | m + 1, h => by rw [tellN_next N a m (by omega), List.length_append, tellN_len N a m (by omega)]; rfl
theorem tellN_pre (N : List Dat) (a : Nat) : ∀ m k, k ≤ m → a + m ≤ N.length → tellN N a k <+: tellN N a m
  | 0, k, h, _ => by obtain rfl : k = 0 := by omega
                     exact List.prefix_refl _
  | m + 1, k, h, h2 => by
    by_cases e : k = m + 1
    · subst e; exact List.prefix_refl _
    · rw [tellN_next N a m (by omega)]
      exact (tellN_pre N a m k (by omega) (by omega)).trans (List.prefix_append _ _)
/-- Where what hangs on a place ends: e. -/
structure EndAt (N : List Dat) (a e : Nat) : Prop where
  lt : a < e
  le : e ≤ N.length
  inside : ∀ (j : Nat) (h : j < N.length), a < j → j < e → (a : Int) ≤ N[j].parent
  stop : ∀ (h : e < N.length), N[e].parent < (a : Int)
/-- What the region of a round reads. -/
def SB (ba bt tb g cap k a L : Nat) (t : Dat) (w' : World) : Prop := w'.cell? ⟨ba, 0, none⟩ = some (.int .i64 (a : Int)) ∧ w'.cell? ⟨bt, 0, none⟩ = some (.pointer (some ⟨tb, 0, none⟩)) ∧ w'.cell? ⟨tb, 0, none⟩ = some (.slice (some ⟨g, 0, none⟩) L cap) ∧ w'.cell? ⟨g, k * 4, none⟩ = some (.int .i64 t.parent) ∧ w'.cell? ⟨g, k * 4 + 1, none⟩ = some (.int .i64 t.kind) ∧ w'.cell? ⟨g, k * 4 + 2, none⟩ = some (.int .i64 t.num) ∧ w'.cell? ⟨g, k * 4 + 3, none⟩ = some (.string t.name)
theorem SB.keep {ba bt tb g cap k a L n₀ lo hi : Nat} {t : Dat} {w w' : World} (h : SB ba bt tb g cap k a L t w) (hk : Kpx n₀ lo hi w w') (h1 : lo ≤ bt) (h2 : bt < hi) (h3 : lo ≤ ba) (h4 : ba < hi) (h5 : tb < n₀) (h6 : g < n₀) : SB ba bt tb g cap k a L t w' := by
  obtain ⟨s0, s1, s2, s3, s4, s5, s6⟩ := h
  exact ⟨(hk.cell h3 h4).trans s0, (hk.cell h1 h2).trans s1, (hk.1.cell (p := ⟨tb, 0, none⟩) h5).trans s2, (hk.1.cell (p := ⟨g, k * 4, none⟩) h6).trans s3, (hk.1.cell (p := ⟨g, k * 4 + 1, none⟩) h6).trans s4, (hk.1.cell (p := ⟨g, k * 4 + 2, none⟩) h6).trans s5, (hk.1.cell (p := ⟨g, k * 4 + 3, none⟩) h6).trans s6⟩
set_option maxRecDepth 100000 in
set_option maxHeartbeats 4000000 in
theorem below1_in (F : Fence) (n : Nat) (hF : ∀ f, F.fn f) (hro : F.round = none) (hn : 2 ≤ n) (l ba bt n₀ lo hi tb : Nat) (N : List Dat) (a e : Nat) (hE : EndAt N a e) (hN : N.length ≤ 1000) (J Jx : List (Int × Dat) → World → Prop) (Pd : Int × Dat → Prop) (hPd : ∀ (k : Nat) (h : k < N.length), Pd ((k : Int), N[k]))
    (hY : ∀ pre x W, Pd x → J pre W → pre ++ [x] <+: tellN N a (e - a) → YieldAt F (n - 1) Tryd.prog l (encN x) W fun e W' =>
      ((e = .returned (.bool true) ∧ J (pre ++ [x]) W') ∨ (e = .returned (.bool false) ∧ Jx (pre ++ [x]) W')) ∧ Kpx n₀ lo hi W W')
    (hD : ∀ pre W, J pre W → J pre W.drew)
    (W : World) (hBa : W.cell? ⟨ba, 0, none⟩ = some (.int .i64 (a : Int))) (hBt : W.cell? ⟨bt, 0, none⟩ = some (.pointer (some ⟨tb, 0, none⟩))) (hlo : lo ≤ bt) (hhi : bt < hi) (hlo2 : lo ≤ ba) (hhi2 : ba < hi) (hT : IsTree n₀ W tb N) (h0 : J [] W) :
    CallsIn F n Tryd.prog 103 #[.func (.yield l) #[] #[], .pointer (some ⟨ba, 0, none⟩), .pointer (some ⟨bt, 0, none⟩)] W fun r W' => (∃ v, r = .returned v) ∧
      ((∃ ys, ys = tellN N a (e - a) ∧ J ys W') ∨ (∃ pre, pre <+: tellN N a (e - a) ∧ Jx pre W')) := by
  have hmx : Tryd.prog.follows .mixedOrders = true := by kernel_rfl
  have h1 : 1 ≤ n := by omega
  refine callsIn_of_wp Tryd.func103 rfl (hF _) ?_ hro
  simp only [Tryd.ntmps103, List.size_toArray, List.length_cons, List.length_nil, Nat.reduceAdd, Nat.reduceSub, Array.replicate_succ, Array.replicate_zero, List.push_toArray, List.append_toArray, List.nil_append, List.cons_append]
  gi_wp2
  gi_loopw [4] (fun i wr => ∃ m : Nat, i = .int .i64 ((a + m : Nat) : Int) ∧ a + m ≤ e ∧ J (tellN N a m) wr ∧ Kpx n₀ lo hi W wr)
    (fun i _ => N.length + 1 - (RowKit.intOf i).toNat)
  case atStart => exact ⟨0, rfl, by have := hE.lt; omega, h0, kpx_refl _ _ _ _⟩
  case round =>
    obtain ⟨m, rfl, hm, hJs, hnx⟩ := hrel
    obtain ⟨ao, g, cap, hc, htb, hg, hao, hrow⟩ := hT.below hnx.1
    have hca : wr.cell? ⟨ba, 0, none⟩ = some (.int .i64 (a : Int)) := (hnx.cell hlo2 hhi2).trans hBa
    have hct : wr.cell? ⟨bt, 0, none⟩ = some (.pointer (some ⟨tb, 0, none⟩)) := (hnx.cell hlo hhi).trans hBt
    have hT1 := hT.below hnx.1
    by_cases hend : a + m < N.length
    · obtain rfl := hao (by intro h; rw [h] at hend; simp at hend)
      obtain ⟨k, hk⟩ : ∃ k, k = a + m := ⟨_, rfl⟩
      rw [← hk] at hend hm ⊢
      have HK : Hid (k = a + m) := hk
      have HJ : Hid (J (tellN N a m) wr) := hJs
      have HX : Hid (Kpx n₀ lo hi W wr) := hnx
      have HE : Hid (EndAt N a e) := hE
      obtain ⟨c0, c1, c2, c3⟩ := hrow k hend
      obtain ⟨t, ht⟩ : ∃ t, t = N[k]'hend := ⟨_, rfl⟩
      have HT : Hid (t = N[k]'hend) := ht
      rw [← ht] at c0 c1 c2 c3
      clear hk hJs hnx hrow hao ht hE
      have hlt : (k : Int) < (N.length : Int) := by omega
      have hk0 : (0 : Int) ≤ (k : Int) := by omega
      by_cases hst : k < e
      · -- a round
        have HY : Hid (YieldAt F (n - 1) Tryd.prog l (encN ((k : Int), t)) wr.drew fun r W3 => ∃ b, r = .returned (.bool b) ∧ (((b = true ∧ J (tellN N a (m + 1)) W3) ∨ (b = false ∧ Jx (tellN N a (m + 1)) W3)) ∧ Kpx n₀ lo hi wr.drew W3)) := by
          have et : tellN N a (m + 1) = tellN N a m ++ [((k : Int), t)] := by
            have h1 := HK.out
            rw [tellN_next N a m (by omega), HT.out]
            subst h1
            rfl
          refine (hY _ ((k : Int), t) wr.drew (by rw [HT.out]; exact hPd k hend) (hD _ _ HJ.out) (by rw [← et]; exact tellN_pre N a (e - a) (m + 1) (by have := HK.out; omega) (by have := HE.out.le; have := HE.out.lt; omega))).mono ?_
          rw [et]
          rintro r W3 ⟨⟨h1, h2⟩ | ⟨h1, h2⟩, h3⟩
          · exact ⟨true, h1, .inl ⟨rfl, h2⟩, h3⟩
          · exact ⟨false, h1, .inr ⟨rfl, h2⟩, h3⟩
        obtain ⟨fn, tmps, assign, body, hy, hR'⟩ := HY.out
        clear HY hY hD
        by_cases hm0 : m = 0
        · have hle : ¬ ((a : Int) < (k : Int)) := by have := HK.out; omega
          have hd : decide ((a : Int) < (k : Int)) = false := decide_eq_false hle
          have hka : k ≤ a := by omega
          clear hm0
          gi_wp2_with (gi_at_call 71; refine (size_in F (n - 1) hF hro _ _ _ _ hT1).mono ?_; rintro e w' ⟨rfl, hw'⟩; replace hw' := hw'.symm; subst hw')
          refine region_anyH (z := 99) (S := (SB ba bt tb g cap k a N.length t)) hmx ?_
          have hS0 : (SB ba bt tb g cap k a N.length t) wr.drew := ⟨hca, hct, hc, c0, c1, c2, c3⟩
          refine anyH_take hF (by kernel_rfl) (i := 0) (v := ?_) (d := some 12) (by kernel_rfl) rfl rfl (by kernel_rfl) (by kernel_rfl) (by kernel_rfl) (fun _ _ _ h => h) hS0 (Or.inl ⟨by rfl, fun w hSw => ?_⟩) ?_
          rotate_left
          · obtain ⟨s0, s1, s2, s3, s4, s5, s6⟩ := hSw
            go_simp
            all_goals (try (first | with_reducible rfl | omega))
          try simp only [Act.put]
          try simp only [List.setIfInBounds_toArray]
          try simp only [List.set_cons_zero, List.set_cons_succ]
          refine anyH_take hF (by kernel_rfl) (i := 1) (v := ?_) (d := some 13) (by kernel_rfl) rfl rfl (by kernel_rfl) (by kernel_rfl) (by kernel_rfl) (fun _ _ _ h => h) hS0 (Or.inl ⟨by rfl, fun w hSw => ?_⟩) ?_
          rotate_left
          · obtain ⟨s0, s1, s2, s3, s4, s5, s6⟩ := hSw
            go_simp
            all_goals (try (first | with_reducible rfl | omega))
          try simp only [Act.put]
          try simp only [List.setIfInBounds_toArray]
          try simp only [List.set_cons_zero, List.set_cons_succ]
          refine anyH_take hF (by kernel_rfl) (i := 2) (v := .bool false) (d := some 14) (by kernel_rfl) rfl rfl (by kernel_rfl) (by kernel_rfl) (by kernel_rfl) (fun _ _ _ h => h) hS0 (Or.inl ⟨by rfl, fun w hSw => ?_⟩) ?_
          · obtain ⟨s0, s1, s2, s3, s4, s5, s6⟩ := hSw
            go_simp
            all_goals (try (first | with_reducible rfl | omega))
          try simp only [Act.put]
          try simp only [List.setIfInBounds_toArray]
          try simp only [List.set_cons_zero, List.set_cons_succ]
          refine anyH_take hF (by kernel_rfl) (i := 3) (v := .bool false) (d := some 15) (by kernel_rfl) rfl rfl (by kernel_rfl) (by kernel_rfl) (by kernel_rfl) (fun _ _ _ h => h) hS0 (Or.inl ⟨by rfl, fun w hSw => ?_⟩) ?_
          · obtain ⟨s0, s1, s2, s3, s4, s5, s6⟩ := hSw
            go_simp
            all_goals (try (first | with_reducible rfl | omega))
          try simp only [Act.put]
          try simp only [List.setIfInBounds_toArray]
          try simp only [List.set_cons_zero, List.set_cons_succ]
          refine anyH_take hF (by kernel_rfl) (i := 4) (v := undef) (d := some 16) (by kernel_rfl) rfl rfl (by kernel_rfl) (by kernel_rfl) (by kernel_rfl) (fun _ _ _ h => h) hS0 (Or.inr ⟨by rfl, rfl⟩) ?_
          try simp only [Act.put]
          try simp only [List.setIfInBounds_toArray]
          try simp only [List.set_cons_zero, List.set_cons_succ]
          refine anyH_take hF (by kernel_rfl) (i := 5) (v := undef) (d := some 17) (by kernel_rfl) rfl rfl (by kernel_rfl) (by kernel_rfl) (by kernel_rfl) (fun _ _ _ h => h) hS0 (Or.inr ⟨by rfl, rfl⟩) ?_
          try simp only [Act.put]
          try simp only [List.setIfInBounds_toArray]
          try simp only [List.set_cons_zero, List.set_cons_succ]
          refine anyH_take hF (by kernel_rfl) (i := 6) (v := undef) (d := some 18) (by kernel_rfl) rfl rfl (by kernel_rfl) (by kernel_rfl) (by kernel_rfl) (fun _ _ _ h => h) hS0 (Or.inr ⟨by rfl, rfl⟩) ?_
          try simp only [Act.put]
          try simp only [List.setIfInBounds_toArray]
          try simp only [List.set_cons_zero, List.set_cons_succ]
          refine anyH_take hF (by kernel_rfl) (i := 7) (v := undef) (d := some 19) (by kernel_rfl) rfl rfl (by kernel_rfl) (by kernel_rfl) (by kernel_rfl) (fun _ _ _ h => h) hS0 (Or.inr ⟨by rfl, rfl⟩) ?_
          try simp only [Act.put]
          try simp only [List.setIfInBounds_toArray]
          try simp only [List.set_cons_zero, List.set_cons_succ]
          refine anyH_take hF (by kernel_rfl) (i := 8) (v := undef) (d := some 20) (by kernel_rfl) rfl rfl (by kernel_rfl) (by kernel_rfl) (by kernel_rfl) (fun _ _ _ h => h) hS0 (Or.inr ⟨by rfl, rfl⟩) ?_
          try simp only [Act.put]
          try simp only [List.setIfInBounds_toArray]
          try simp only [List.set_cons_zero, List.set_cons_succ]
          refine anyH_take hF (by kernel_rfl) (i := 9) (v := undef) (d := some 21) (by kernel_rfl) rfl rfl (by kernel_rfl) (by kernel_rfl) (by kernel_rfl) (fun _ _ _ h => h) hS0 (Or.inr ⟨by rfl, rfl⟩) ?_
          try simp only [Act.put]
          try simp only [List.setIfInBounds_toArray]
          try simp only [List.set_cons_zero, List.set_cons_succ]
          refine anyH_take hF (by kernel_rfl) (i := 10) (v := undef) (d := some 22) (by kernel_rfl) rfl rfl (by kernel_rfl) (by kernel_rfl) (by kernel_rfl) (fun _ _ _ h => h) hS0 (Or.inr ⟨by rfl, rfl⟩) ?_
          try simp only [Act.put]
          try simp only [List.setIfInBounds_toArray]
          try simp only [List.set_cons_zero, List.set_cons_succ]
          refine anyH_take hF (by kernel_rfl) (i := 11) (v := undef) (d := some 23) (by kernel_rfl) rfl rfl (by kernel_rfl) (by kernel_rfl) (by kernel_rfl) (fun _ _ _ h => h) hS0 (Or.inr ⟨by rfl, rfl⟩) ?_
          try simp only [Act.put]
          try simp only [List.setIfInBounds_toArray]
          try simp only [List.set_cons_zero, List.set_cons_succ]
          refine anyH_take hF (by kernel_rfl) (i := 12) (v := undef) (d := some 24) (by kernel_rfl) rfl rfl (by kernel_rfl) (by kernel_rfl) (by kernel_rfl) (fun _ _ _ h => h) hS0 (Or.inr ⟨by rfl, rfl⟩) ?_
          try simp only [Act.put]
          try simp only [List.setIfInBounds_toArray]
          try simp only [List.set_cons_zero, List.set_cons_succ]
          refine anyH_take hF (by kernel_rfl) (i := 13) (v := undef) (d := some 25) (by kernel_rfl) rfl rfl (by kernel_rfl) (by kernel_rfl) (by kernel_rfl) (fun _ _ _ h => h) hS0 (Or.inr ⟨by rfl, rfl⟩) ?_
          try simp only [Act.put]
          try simp only [List.setIfInBounds_toArray]
          try simp only [List.set_cons_zero, List.set_cons_succ]
          refine anyH_take hF (by kernel_rfl) (i := 14) (v := .bool false) (d := some 26) (by kernel_rfl) rfl rfl (by kernel_rfl) (by kernel_rfl) (by kernel_rfl) (fun _ _ _ h => h) hS0 (Or.inl ⟨by rfl, fun w hSw => ?_⟩) ?_
          · obtain ⟨s0, s1, s2, s3, s4, s5, s6⟩ := hSw
            go_simp
            all_goals (try (first | with_reducible rfl | omega))
          try simp only [Act.put]
          try simp only [List.setIfInBounds_toArray]
          try simp only [List.set_cons_zero, List.set_cons_succ]
          refine anyH_take hF (by kernel_rfl) (i := 15) (v := .bool false) (d := some 27) (by kernel_rfl) rfl rfl (by kernel_rfl) (by kernel_rfl) (by kernel_rfl) (fun _ _ _ h => h) hS0 (Or.inl ⟨by rfl, fun w hSw => ?_⟩) ?_
          · obtain ⟨s0, s1, s2, s3, s4, s5, s6⟩ := hSw
            go_simp
            all_goals (try (first | with_reducible rfl | omega))
          try simp only [Act.put]
          try simp only [List.setIfInBounds_toArray]
          try simp only [List.set_cons_zero, List.set_cons_succ]
          refine anyH_take hF (by kernel_rfl) (i := 16) (v := ?_) (d := some 28) (by kernel_rfl) rfl rfl (by kernel_rfl) (by kernel_rfl) (by kernel_rfl) (fun _ _ _ h => h) hS0 (Or.inl ⟨by rfl, fun w hSw => ?_⟩) ?_
          rotate_left
          · obtain ⟨s0, s1, s2, s3, s4, s5, s6⟩ := hSw
            go_simp
            all_goals (try (first | with_reducible rfl | omega))
          try simp only [Act.put]
          try simp only [List.setIfInBounds_toArray]
          try simp only [List.set_cons_zero, List.set_cons_succ]
          refine anyH_take hF (by kernel_rfl) (i := 17) (v := ?_) (d := some 29) (by kernel_rfl) rfl rfl (by kernel_rfl) (by kernel_rfl) (by kernel_rfl) (fun _ _ _ h => h) hS0 (Or.inl ⟨by rfl, fun w hSw => ?_⟩) ?_
          rotate_left
          · obtain ⟨s0, s1, s2, s3, s4, s5, s6⟩ := hSw
            go_simp
            all_goals (try (first | with_reducible rfl | omega))
          try simp only [Act.put]
          try simp only [List.setIfInBounds_toArray]
          try simp only [List.set_cons_zero, List.set_cons_succ]
          refine anyH_take hF (by kernel_rfl) (i := 18) (v := ?_) (d := some 30) (by kernel_rfl) rfl rfl (by kernel_rfl) (by kernel_rfl) (by kernel_rfl) (fun _ _ _ h => h) hS0 (Or.inl ⟨by rfl, fun w hSw => ?_⟩) ?_
          rotate_left
          · obtain ⟨s0, s1, s2, s3, s4, s5, s6⟩ := hSw
            go_simp
            all_goals (try (first | with_reducible rfl | omega))
          try simp only [Act.put]
          try simp only [List.setIfInBounds_toArray]
          try simp only [List.set_cons_zero, List.set_cons_succ]
          refine anyH_take hF (by kernel_rfl) (i := 19) (v := ?_) (d := some 31) (by kernel_rfl) rfl rfl (by kernel_rfl) (by kernel_rfl) (by kernel_rfl) (fun _ _ _ h => h) hS0 (Or.inl ⟨by rfl, fun w hSw => ?_⟩) ?_
          rotate_left
          · obtain ⟨s0, s1, s2, s3, s4, s5, s6⟩ := hSw
            go_simp
            all_goals (try (first | with_reducible rfl | omega))
          try simp only [Act.put]
          try simp only [List.setIfInBounds_toArray]
          try simp only [List.set_cons_zero, List.set_cons_succ]
          refine anyH_take hF (by kernel_rfl) (i := 20) (v := ?_) (d := some 32) (by kernel_rfl) rfl rfl (by kernel_rfl) (by kernel_rfl) (by kernel_rfl) (fun _ _ _ h => h) hS0 (Or.inl ⟨by rfl, fun w hSw => ?_⟩) ?_
          rotate_left
          · obtain ⟨s0, s1, s2, s3, s4, s5, s6⟩ := hSw
            go_simp
            all_goals (try (first | with_reducible rfl | omega))
          try simp only [Act.put]
          try simp only [List.setIfInBounds_toArray]
          try simp only [List.set_cons_zero, List.set_cons_succ]
          refine anyH_take hF (by kernel_rfl) (i := 21) (v := ?_) (d := some 33) (by kernel_rfl) rfl rfl (by kernel_rfl) (by kernel_rfl) (by kernel_rfl) (fun _ _ _ h => h) hS0 (Or.inl ⟨by rfl, fun w hSw => ?_⟩) ?_
          rotate_left
          · obtain ⟨s0, s1, s2, s3, s4, s5, s6⟩ := hSw
            go_simp
            all_goals (try (first | with_reducible rfl | omega))
          try simp only [Act.put]
          try simp only [List.setIfInBounds_toArray]
          try simp only [List.set_cons_zero, List.set_cons_succ]
          refine anyH_take hF (by kernel_rfl) (i := 22) (v := ?_) (d := some 34) (by kernel_rfl) rfl rfl (by kernel_rfl) (by kernel_rfl) (by kernel_rfl) (fun _ _ _ h => h) hS0 (Or.inl ⟨by rfl, fun w hSw => ?_⟩) ?_
          rotate_left
          · obtain ⟨s0, s1, s2, s3, s4, s5, s6⟩ := hSw
            go_simp
            all_goals (try (first | with_reducible rfl | omega))
          try simp only [Act.put]
          try simp only [List.setIfInBounds_toArray]
          try simp only [List.set_cons_zero, List.set_cons_succ]
          refine anyH_take hF (by kernel_rfl) (i := 23) (v := ?_) (d := some 35) (by kernel_rfl) rfl rfl (by kernel_rfl) (by kernel_rfl) (by kernel_rfl) (fun _ _ _ h => h) hS0 (Or.inl ⟨by rfl, fun w hSw => ?_⟩) ?_
          rotate_left
          · obtain ⟨s0, s1, s2, s3, s4, s5, s6⟩ := hSw
            go_simp
            all_goals (try (first | with_reducible rfl | omega))
          try simp only [Act.put]
          try simp only [List.setIfInBounds_toArray]
          try simp only [List.set_cons_zero, List.set_cons_succ]
          refine anyH_take hF (by kernel_rfl) (i := 24) (v := ?_) (d := some 36) (by kernel_rfl) rfl rfl (by kernel_rfl) (by kernel_rfl) (by kernel_rfl) (fun _ _ _ h => h) hS0 (Or.inl ⟨by rfl, fun w hSw => ?_⟩) ?_
          rotate_left
          · obtain ⟨s0, s1, s2, s3, s4, s5, s6⟩ := hSw
            go_simp
            all_goals (try (first | with_reducible rfl | omega))
          try simp only [Act.put]
          try simp only [List.setIfInBounds_toArray]
          try simp only [List.set_cons_zero, List.set_cons_succ]
          refine anyH_one (i := 25) (by kernel_rfl) (op_step rfl (by rfl) ⟨fun f _ => hF f, ?_⟩)
          rw [hro, Oper.semAt_none]
          go_simp
          refine hR'.mono ?_
          rintro r W3 ⟨b, rfl, hpost, hk3⟩
          have hS1 : SB ba bt tb g cap k a N.length t W3 := hS0.keep hk3 hlo hhi hlo2 hhi2 htb hg
          refine ⟨(by first | exact hS1 | exact fun _ => hS1), ?_⟩
          clear hS0 hy hR'
          try simp only [Act.put]
          try simp only [List.setIfInBounds_toArray]
          try simp only [List.set_cons_zero, List.set_cons_succ]
          refine anyH_take hF (by kernel_rfl) (i := 26) (v := .bool (!b)) (d := some 38) (by kernel_rfl) rfl rfl (by kernel_rfl) (by kernel_rfl) (by kernel_rfl) (fun _ _ _ h => h) hS1 (Or.inl ⟨by rfl, fun w hSw => ?_⟩) ?_
          · obtain ⟨s0, s1, s2, s3, s4, s5, s6⟩ := hSw
            go_simp
            all_goals (try (first | with_reducible rfl | omega))
          try simp only [Act.put]
          try simp only [List.setIfInBounds_toArray]
          try simp only [List.set_cons_zero, List.set_cons_succ]
          refine anyH_take hF (by kernel_rfl) (i := 27) (v := .bool (!b)) (d := some 39) (by kernel_rfl) rfl rfl (by kernel_rfl) (by kernel_rfl) (by kernel_rfl) (fun _ _ _ h => h) hS1 (Or.inl ⟨by rfl, fun w hSw => ?_⟩) ?_
          · obtain ⟨s0, s1, s2, s3, s4, s5, s6⟩ := hSw
            go_simp
            all_goals (try (first | with_reducible rfl | omega))
          try simp only [Act.put]
          try simp only [List.setIfInBounds_toArray]
          try simp only [List.set_cons_zero, List.set_cons_succ]
          refine anyH_done (by kernel_rfl) ?_ _
          cases b
          · have hJx := hpost.elim (fun h => absurd h.1 (by simp)) (fun h => h.2)
            clear hpost
            gi_wp2
            refine bodyPost_ret (results_none rfl _ _ _) rfl ?_
            exact ⟨⟨_, rfl⟩, .inr ⟨_, tellN_pre N a (e - a) (m + 1) (by have := HK.out; omega) (by have := HE.out.le; have := HE.out.lt; omega), hJx⟩⟩
          · have hJ3 := hpost.elim (fun h => h.2) (fun h => absurd h.1 (by simp))
            clear hpost
            gi_wp2
            go_roundw
            case rel => exact ⟨m + 1, by have := HK.out; rw [show a + (m + 1) = k + 1 by omega]; simp, by have := HK.out; omega, hJ3, kpx_t HX.out (kpx_t (⟨(Below.refl _ _).drew, fun _ _ _ => rfl⟩ : Kpx n₀ lo hi wr wr.drew) hk3)⟩
            case measure => simp [RowKit.intOf]; omega
        · have hle : (a : Int) < (k : Int) := by have := HK.out; omega
          have hd : decide ((a : Int) < (k : Int)) = true := decide_eq_true hle
          have hpa : ¬ (t.parent < (a : Int)) := by have := HE.out.inside k hend (by have := HK.out; omega) hst; rw [← HT.out] at this; omega
          have hpd : decide (t.parent < (a : Int)) = false := decide_eq_false hpa
          have hka : a < k := by omega
          clear hm0
          gi_wp2_with (gi_at_call 71; refine (size_in F (n - 1) hF hro _ _ _ _ hT1).mono ?_; rintro e w' ⟨rfl, hw'⟩; replace hw' := hw'.symm; subst hw')
          refine region_anyH (z := 99) (S := (SB ba bt tb g cap k a N.length t)) hmx ?_
          have hS0 : (SB ba bt tb g cap k a N.length t) wr.drew := ⟨hca, hct, hc, c0, c1, c2, c3⟩
          refine anyH_take hF (by kernel_rfl) (i := 0) (v := ?_) (d := some 12) (by kernel_rfl) rfl rfl (by kernel_rfl) (by kernel_rfl) (by kernel_rfl) (fun _ _ _ h => h) hS0 (Or.inl ⟨by rfl, fun w hSw => ?_⟩) ?_
          rotate_left
          · obtain ⟨s0, s1, s2, s3, s4, s5, s6⟩ := hSw
            go_simp
            all_goals (try (first | with_reducible rfl | omega))
          try simp only [Act.put]
          try simp only [List.setIfInBounds_toArray]
          try simp only [List.set_cons_zero, List.set_cons_succ]
          refine anyH_take hF (by kernel_rfl) (i := 1) (v := ?_) (d := some 13) (by kernel_rfl) rfl rfl (by kernel_rfl) (by kernel_rfl) (by kernel_rfl) (fun _ _ _ h => h) hS0 (Or.inl ⟨by rfl, fun w hSw => ?_⟩) ?_
          rotate_left
          · obtain ⟨s0, s1, s2, s3, s4, s5, s6⟩ := hSw
            go_simp
            all_goals (try (first | with_reducible rfl | omega))
          try simp only [Act.put]
          try simp only [List.setIfInBounds_toArray]
          try simp only [List.set_cons_zero, List.set_cons_succ]
          refine anyH_take hF (by kernel_rfl) (i := 2) (v := .bool true) (d := some 14) (by kernel_rfl) rfl rfl (by kernel_rfl) (by kernel_rfl) (by kernel_rfl) (fun _ _ _ h => h) hS0 (Or.inl ⟨by rfl, fun w hSw => ?_⟩) ?_
          · obtain ⟨s0, s1, s2, s3, s4, s5, s6⟩ := hSw
            go_simp
            all_goals (try (first | with_reducible rfl | omega))
          try simp only [Act.put]
          try simp only [List.setIfInBounds_toArray]
          try simp only [List.set_cons_zero, List.set_cons_succ]
          refine anyH_take hF (by kernel_rfl) (i := 3) (v := .bool true) (d := some 15) (by kernel_rfl) rfl rfl (by kernel_rfl) (by kernel_rfl) (by kernel_rfl) (fun _ _ _ h => h) hS0 (Or.inl ⟨by rfl, fun w hSw => ?_⟩) ?_
          · obtain ⟨s0, s1, s2, s3, s4, s5, s6⟩ := hSw
            go_simp
            all_goals (try (first | with_reducible rfl | omega))
          try simp only [Act.put]
          try simp only [List.setIfInBounds_toArray]
          try simp only [List.set_cons_zero, List.set_cons_succ]
          refine anyH_take hF (by kernel_rfl) (i := 4) (v := ?_) (d := some 16) (by kernel_rfl) rfl rfl (by kernel_rfl) (by kernel_rfl) (by kernel_rfl) (fun _ _ _ h => h) hS0 (Or.inl ⟨by rfl, fun w hSw => ?_⟩) ?_
          rotate_left
          · obtain ⟨s0, s1, s2, s3, s4, s5, s6⟩ := hSw
            go_simp
            all_goals (try (first | with_reducible rfl | omega))
          try simp only [Act.put]
          try simp only [List.setIfInBounds_toArray]
          try simp only [List.set_cons_zero, List.set_cons_succ]
          refine anyH_take hF (by kernel_rfl) (i := 5) (v := ?_) (d := some 17) (by kernel_rfl) rfl rfl (by kernel_rfl) (by kernel_rfl) (by kernel_rfl) (fun _ _ _ h => h) hS0 (Or.inl ⟨by rfl, fun w hSw => ?_⟩) ?_
          rotate_left
          · obtain ⟨s0, s1, s2, s3, s4, s5, s6⟩ := hSw
            go_simp
            all_goals (try (first | with_reducible rfl | omega))
          try simp only [Act.put]
          try simp only [List.setIfInBounds_toArray]
          try simp only [List.set_cons_zero, List.set_cons_succ]
          refine anyH_take hF (by kernel_rfl) (i := 6) (v := ?_) (d := some 18) (by kernel_rfl) rfl rfl (by kernel_rfl) (by kernel_rfl) (by kernel_rfl) (fun _ _ _ h => h) hS0 (Or.inl ⟨by rfl, fun w hSw => ?_⟩) ?_
          rotate_left
          · obtain ⟨s0, s1, s2, s3, s4, s5, s6⟩ := hSw
            go_simp
            all_goals (try (first | with_reducible rfl | omega))
          try simp only [Act.put]
          try simp only [List.setIfInBounds_toArray]
          try simp only [List.set_cons_zero, List.set_cons_succ]
          refine anyH_take hF (by kernel_rfl) (i := 7) (v := ?_) (d := some 19) (by kernel_rfl) rfl rfl (by kernel_rfl) (by kernel_rfl) (by kernel_rfl) (fun _ _ _ h => h) hS0 (Or.inl ⟨by rfl, fun w hSw => ?_⟩) ?_
          rotate_left
          · obtain ⟨s0, s1, s2, s3, s4, s5, s6⟩ := hSw
            go_simp
            all_goals (try (first | with_reducible rfl | omega))
          try simp only [Act.put]
          try simp only [List.setIfInBounds_toArray]
          try simp only [List.set_cons_zero, List.set_cons_succ]
          refine anyH_take hF (by kernel_rfl) (i := 8) (v := ?_) (d := some 20) (by kernel_rfl) rfl rfl (by kernel_rfl) (by kernel_rfl) (by kernel_rfl) (fun _ _ _ h => h) hS0 (Or.inl ⟨by rfl, fun w hSw => ?_⟩) ?_
          rotate_left
          · obtain ⟨s0, s1, s2, s3, s4, s5, s6⟩ := hSw
            go_simp
            all_goals (try (first | with_reducible rfl | omega))
          try simp only [Act.put]
          try simp only [List.setIfInBounds_toArray]
          try simp only [List.set_cons_zero, List.set_cons_succ]
          refine anyH_take hF (by kernel_rfl) (i := 9) (v := ?_) (d := some 21) (by kernel_rfl) rfl rfl (by kernel_rfl) (by kernel_rfl) (by kernel_rfl) (fun _ _ _ h => h) hS0 (Or.inl ⟨by rfl, fun w hSw => ?_⟩) ?_
          rotate_left
          · obtain ⟨s0, s1, s2, s3, s4, s5, s6⟩ := hSw
            go_simp
            all_goals (try (first | with_reducible rfl | omega))
          try simp only [Act.put]
          try simp only [List.setIfInBounds_toArray]
          try simp only [List.set_cons_zero, List.set_cons_succ]
          refine anyH_take hF (by kernel_rfl) (i := 10) (v := ?_) (d := some 22) (by kernel_rfl) rfl rfl (by kernel_rfl) (by kernel_rfl) (by kernel_rfl) (fun _ _ _ h => h) hS0 (Or.inl ⟨by rfl, fun w hSw => ?_⟩) ?_
          rotate_left
          · obtain ⟨s0, s1, s2, s3, s4, s5, s6⟩ := hSw
            go_simp
            all_goals (try (first | with_reducible rfl | omega))
          try simp only [Act.put]
          try simp only [List.setIfInBounds_toArray]
          try simp only [List.set_cons_zero, List.set_cons_succ]
          refine anyH_take hF (by kernel_rfl) (i := 11) (v := ?_) (d := some 23) (by kernel_rfl) rfl rfl (by kernel_rfl) (by kernel_rfl) (by kernel_rfl) (fun _ _ _ h => h) hS0 (Or.inl ⟨by rfl, fun w hSw => ?_⟩) ?_
          rotate_left
          · obtain ⟨s0, s1, s2, s3, s4, s5, s6⟩ := hSw
            go_simp
            all_goals (try (first | with_reducible rfl | omega))
          try simp only [Act.put]
          try simp only [List.setIfInBounds_toArray]
          try simp only [List.set_cons_zero, List.set_cons_succ]
          refine anyH_take hF (by kernel_rfl) (i := 12) (v := ?_) (d := some 24) (by kernel_rfl) rfl rfl (by kernel_rfl) (by kernel_rfl) (by kernel_rfl) (fun _ _ _ h => h) hS0 (Or.inl ⟨by rfl, fun w hSw => ?_⟩) ?_
          rotate_left
          · obtain ⟨s0, s1, s2, s3, s4, s5, s6⟩ := hSw
            go_simp
            all_goals (try (first | with_reducible rfl | omega))
          try simp only [Act.put]
          try simp only [List.setIfInBounds_toArray]
          try simp only [List.set_cons_zero, List.set_cons_succ]
          refine anyH_take hF (by kernel_rfl) (i := 13) (v := .bool false) (d := some 25) (by kernel_rfl) rfl rfl (by kernel_rfl) (by kernel_rfl) (by kernel_rfl) (fun _ _ _ h => h) hS0 (Or.inl ⟨by rfl, fun w hSw => ?_⟩) ?_
          · obtain ⟨s0, s1, s2, s3, s4, s5, s6⟩ := hSw
            go_simp
            all_goals (try (first | with_reducible rfl | omega))
          try simp only [Act.put]
          try simp only [List.setIfInBounds_toArray]
          try simp only [List.set_cons_zero, List.set_cons_succ]
          refine anyH_take hF (by kernel_rfl) (i := 14) (v := .bool false) (d := some 26) (by kernel_rfl) rfl rfl (by kernel_rfl) (by kernel_rfl) (by kernel_rfl) (fun _ _ _ h => h) hS0 (Or.inl ⟨by rfl, fun w hSw => ?_⟩) ?_
          · obtain ⟨s0, s1, s2, s3, s4, s5, s6⟩ := hSw
            go_simp
            all_goals (try (first | with_reducible rfl | omega))
          try simp only [Act.put]
          try simp only [List.setIfInBounds_toArray]
          try simp only [List.set_cons_zero, List.set_cons_succ]
          refine anyH_take hF (by kernel_rfl) (i := 15) (v := .bool false) (d := some 27) (by kernel_rfl) rfl rfl (by kernel_rfl) (by kernel_rfl) (by kernel_rfl) (fun _ _ _ h => h) hS0 (Or.inl ⟨by rfl, fun w hSw => ?_⟩) ?_
          · obtain ⟨s0, s1, s2, s3, s4, s5, s6⟩ := hSw
            go_simp
            all_goals (try (first | with_reducible rfl | omega))
          try simp only [Act.put]
          try simp only [List.setIfInBounds_toArray]
          try simp only [List.set_cons_zero, List.set_cons_succ]
          refine anyH_take hF (by kernel_rfl) (i := 16) (v := ?_) (d := some 28) (by kernel_rfl) rfl rfl (by kernel_rfl) (by kernel_rfl) (by kernel_rfl) (fun _ _ _ h => h) hS0 (Or.inl ⟨by rfl, fun w hSw => ?_⟩) ?_
          rotate_left
          · obtain ⟨s0, s1, s2, s3, s4, s5, s6⟩ := hSw
            go_simp
            all_goals (try (first | with_reducible rfl | omega))
          try simp only [Act.put]
          try simp only [List.setIfInBounds_toArray]
          try simp only [List.set_cons_zero, List.set_cons_succ]
          refine anyH_take hF (by kernel_rfl) (i := 17) (v := ?_) (d := some 29) (by kernel_rfl) rfl rfl (by kernel_rfl) (by kernel_rfl) (by kernel_rfl) (fun _ _ _ h => h) hS0 (Or.inl ⟨by rfl, fun w hSw => ?_⟩) ?_
          rotate_left
          · obtain ⟨s0, s1, s2, s3, s4, s5, s6⟩ := hSw
            go_simp
            all_goals (try (first | with_reducible rfl | omega))
          try simp only [Act.put]
          try simp only [List.setIfInBounds_toArray]
          try simp only [List.set_cons_zero, List.set_cons_succ]
          refine anyH_take hF (by kernel_rfl) (i := 18) (v := ?_) (d := some 30) (by kernel_rfl) rfl rfl (by kernel_rfl) (by kernel_rfl) (by kernel_rfl) (fun _ _ _ h => h) hS0 (Or.inl ⟨by rfl, fun w hSw => ?_⟩) ?_
          rotate_left
          · obtain ⟨s0, s1, s2, s3, s4, s5, s6⟩ := hSw
            go_simp
            all_goals (try (first | with_reducible rfl | omega))
          try simp only [Act.put]
          try simp only [List.setIfInBounds_toArray]
          try simp only [List.set_cons_zero, List.set_cons_succ]
          refine anyH_take hF (by kernel_rfl) (i := 19) (v := ?_) (d := some 31) (by kernel_rfl) rfl rfl (by kernel_rfl) (by kernel_rfl) (by kernel_rfl) (fun _ _ _ h => h) hS0 (Or.inl ⟨by rfl, fun w hSw => ?_⟩) ?_
          rotate_left
          · obtain ⟨s0, s1, s2, s3, s4, s5, s6⟩ := hSw
            go_simp
            all_goals (try (first | with_reducible rfl | omega))
          try simp only [Act.put]
          try simp only [List.setIfInBounds_toArray]
          try simp only [List.set_cons_zero, List.set_cons_succ]
          refine anyH_take hF (by kernel_rfl) (i := 20) (v := ?_) (d := some 32) (by kernel_rfl) rfl rfl (by kernel_rfl) (by kernel_rfl) (by kernel_rfl) (fun _ _ _ h => h) hS0 (Or.inl ⟨by rfl, fun w hSw => ?_⟩) ?_
          rotate_left
          · obtain ⟨s0, s1, s2, s3, s4, s5, s6⟩ := hSw
            go_simp
            all_goals (try (first | with_reducible rfl | omega))
          try simp only [Act.put]
          try simp only [List.setIfInBounds_toArray]
          try simp only [List.set_cons_zero, List.set_cons_succ]
          refine anyH_take hF (by kernel_rfl) (i := 21) (v := ?_) (d := some 33) (by kernel_rfl) rfl rfl (by kernel_rfl) (by kernel_rfl) (by kernel_rfl) (fun _ _ _ h => h) hS0 (Or.inl ⟨by rfl, fun w hSw => ?_⟩) ?_
          rotate_left
          · obtain ⟨s0, s1, s2, s3, s4, s5, s6⟩ := hSw
            go_simp
            all_goals (try (first | with_reducible rfl | omega))
          try simp only [Act.put]
          try simp only [List.setIfInBounds_toArray]
          try simp only [List.set_cons_zero, List.set_cons_succ]
          refine anyH_take hF (by kernel_rfl) (i := 22) (v := ?_) (d := some 34) (by kernel_rfl) rfl rfl (by kernel_rfl) (by kernel_rfl) (by kernel_rfl) (fun _ _ _ h => h) hS0 (Or.inl ⟨by rfl, fun w hSw => ?_⟩) ?_
          rotate_left
          · obtain ⟨s0, s1, s2, s3, s4, s5, s6⟩ := hSw
            go_simp
            all_goals (try (first | with_reducible rfl | omega))
          try simp only [Act.put]
          try simp only [List.setIfInBounds_toArray]
          try simp only [List.set_cons_zero, List.set_cons_succ]
          refine anyH_take hF (by kernel_rfl) (i := 23) (v := ?_) (d := some 35) (by kernel_rfl) rfl rfl (by kernel_rfl) (by kernel_rfl) (by kernel_rfl) (fun _ _ _ h => h) hS0 (Or.inl ⟨by rfl, fun w hSw => ?_⟩) ?_
          rotate_left
          · obtain ⟨s0, s1, s2, s3, s4, s5, s6⟩ := hSw
            go_simp
            all_goals (try (first | with_reducible rfl | omega))
          try simp only [Act.put]
          try simp only [List.setIfInBounds_toArray]
          try simp only [List.set_cons_zero, List.set_cons_succ]
          refine anyH_take hF (by kernel_rfl) (i := 24) (v := ?_) (d := some 36) (by kernel_rfl) rfl rfl (by kernel_rfl) (by kernel_rfl) (by kernel_rfl) (fun _ _ _ h => h) hS0 (Or.inl ⟨by rfl, fun w hSw => ?_⟩) ?_
          rotate_left
          · obtain ⟨s0, s1, s2, s3, s4, s5, s6⟩ := hSw
            go_simp
            all_goals (try (first | with_reducible rfl | omega))
          try simp only [Act.put]
          try simp only [List.setIfInBounds_toArray]
          try simp only [List.set_cons_zero, List.set_cons_succ]
          refine anyH_one (i := 25) (by kernel_rfl) (op_step rfl (by rfl) ⟨fun f _ => hF f, ?_⟩)
          rw [hro, Oper.semAt_none]
          go_simp
          refine hR'.mono ?_
          rintro r W3 ⟨b, rfl, hpost, hk3⟩
          have hS1 : SB ba bt tb g cap k a N.length t W3 := hS0.keep hk3 hlo hhi hlo2 hhi2 htb hg
          refine ⟨(by first | exact hS1 | exact fun _ => hS1), ?_⟩
          clear hS0 hy hR'
          try simp only [Act.put]
          try simp only [List.setIfInBounds_toArray]
          try simp only [List.set_cons_zero, List.set_cons_succ]
          refine anyH_take hF (by kernel_rfl) (i := 26) (v := .bool (!b)) (d := some 38) (by kernel_rfl) rfl rfl (by kernel_rfl) (by kernel_rfl) (by kernel_rfl) (fun _ _ _ h => h) hS1 (Or.inl ⟨by rfl, fun w hSw => ?_⟩) ?_
          · obtain ⟨s0, s1, s2, s3, s4, s5, s6⟩ := hSw
            go_simp
            all_goals (try (first | with_reducible rfl | omega))
          try simp only [Act.put]
          try simp only [List.setIfInBounds_toArray]
          try simp only [List.set_cons_zero, List.set_cons_succ]
          refine anyH_take hF (by kernel_rfl) (i := 27) (v := .bool (!b)) (d := some 39) (by kernel_rfl) rfl rfl (by kernel_rfl) (by kernel_rfl) (by kernel_rfl) (fun _ _ _ h => h) hS1 (Or.inl ⟨by rfl, fun w hSw => ?_⟩) ?_
          · obtain ⟨s0, s1, s2, s3, s4, s5, s6⟩ := hSw
            go_simp
            all_goals (try (first | with_reducible rfl | omega))
          try simp only [Act.put]
          try simp only [List.setIfInBounds_toArray]
          try simp only [List.set_cons_zero, List.set_cons_succ]
          refine anyH_done (by kernel_rfl) ?_ _
          cases b
          · have hJx := hpost.elim (fun h => absurd h.1 (by simp)) (fun h => h.2)
            clear hpost
            gi_wp2
            refine bodyPost_ret (results_none rfl _ _ _) rfl ?_
            exact ⟨⟨_, rfl⟩, .inr ⟨_, tellN_pre N a (e - a) (m + 1) (by have := HK.out; omega) (by have := HE.out.le; have := HE.out.lt; omega), hJx⟩⟩
          · have hJ3 := hpost.elim (fun h => h.2) (fun h => absurd h.1 (by simp))
            clear hpost
            gi_wp2
            go_roundw
            case rel => exact ⟨m + 1, by have := HK.out; rw [show a + (m + 1) = k + 1 by omega]; simp, by have := HK.out; omega, hJ3, kpx_t HX.out (kpx_t (⟨(Below.refl _ _).drew, fun _ _ _ => rfl⟩ : Kpx n₀ lo hi wr wr.drew) hk3)⟩
            case measure => simp [RowKit.intOf]; omega
      · -- the first one that does not hang on it
        have hke : k = e := by omega
        have hle : (a : Int) < (k : Int) := by have := HE.out.lt; omega
        have hd : decide ((a : Int) < (k : Int)) = true := decide_eq_true hle
        have hpa : t.parent < (a : Int) := by
          have := HE.out.stop (by omega)
          have e1 : t = N[e]'(by omega) := by rw [HT.out]; simp only [hke]
          rw [← e1] at this; exact this
        have hpd : decide (t.parent < (a : Int)) = true := decide_eq_true hpa
        have hka : a < k := by omega
        have HJ2 : Hid (J (tellN N a (e - a)) wr.drew) := by
          have := hD _ _ HJ.out
          rw [show e - a = m by have := HK.out; omega]; exact this
        clear hke
        gi_wp2_with (gi_at_call 71; refine (size_in F (n - 1) hF hro _ _ _ _ hT1).mono ?_; rintro e w' ⟨rfl, hw'⟩; replace hw' := hw'.symm; subst hw')
        refine region_anyH (z := 99) (S := (SB ba bt tb g cap k a N.length t)) hmx ?_
        have hS0 : (SB ba bt tb g cap k a N.length t) wr.drew := ⟨hca, hct, hc, c0, c1, c2, c3⟩
        refine anyH_take hF (by kernel_rfl) (i := 0) (v := ?_) (d := some 12) (by kernel_rfl) rfl rfl (by kernel_rfl) (by kernel_rfl) (by kernel_rfl) (fun _ _ _ h => h) hS0 (Or.inl ⟨by rfl, fun w hSw => ?_⟩) ?_
        rotate_left
        · obtain ⟨s0, s1, s2, s3, s4, s5, s6⟩ := hSw
          go_simp
          all_goals (try (first | with_reducible rfl | omega))
        try simp only [Act.put]
        try simp only [List.setIfInBounds_toArray]
        try simp only [List.set_cons_zero, List.set_cons_succ]
        refine anyH_take hF (by kernel_rfl) (i := 1) (v := ?_) (d := some 13) (by kernel_rfl) rfl rfl (by kernel_rfl) (by kernel_rfl) (by kernel_rfl) (fun _ _ _ h => h) hS0 (Or.inl ⟨by rfl, fun w hSw => ?_⟩) ?_
        rotate_left
        · obtain ⟨s0, s1, s2, s3, s4, s5, s6⟩ := hSw
          go_simp
          all_goals (try (first | with_reducible rfl | omega))
        try simp only [Act.put]
        try simp only [List.setIfInBounds_toArray]
        try simp only [List.set_cons_zero, List.set_cons_succ]
        refine anyH_take hF (by kernel_rfl) (i := 2) (v := .bool true) (d := some 14) (by kernel_rfl) rfl rfl (by kernel_rfl) (by kernel_rfl) (by kernel_rfl) (fun _ _ _ h => h) hS0 (Or.inl ⟨by rfl, fun w hSw => ?_⟩) ?_
        · obtain ⟨s0, s1, s2, s3, s4, s5, s6⟩ := hSw
          go_simp
          all_goals (try (first | with_reducible rfl | omega))
        try simp only [Act.put]
        try simp only [List.setIfInBounds_toArray]
        try simp only [List.set_cons_zero, List.set_cons_succ]
        refine anyH_take hF (by kernel_rfl) (i := 3) (v := .bool true) (d := some 15) (by kernel_rfl) rfl rfl (by kernel_rfl) (by kernel_rfl) (by kernel_rfl) (fun _ _ _ h => h) hS0 (Or.inl ⟨by rfl, fun w hSw => ?_⟩) ?_
        · obtain ⟨s0, s1, s2, s3, s4, s5, s6⟩ := hSw
          go_simp
          all_goals (try (first | with_reducible rfl | omega))
        try simp only [Act.put]
        try simp only [List.setIfInBounds_toArray]
        try simp only [List.set_cons_zero, List.set_cons_succ]
        refine anyH_take hF (by kernel_rfl) (i := 4) (v := ?_) (d := some 16) (by kernel_rfl) rfl rfl (by kernel_rfl) (by kernel_rfl) (by kernel_rfl) (fun _ _ _ h => h) hS0 (Or.inl ⟨by rfl, fun w hSw => ?_⟩) ?_
        rotate_left
        · obtain ⟨s0, s1, s2, s3, s4, s5, s6⟩ := hSw
          go_simp
          all_goals (try (first | with_reducible rfl | omega))
        try simp only [Act.put]
        try simp only [List.setIfInBounds_toArray]
        try simp only [List.set_cons_zero, List.set_cons_succ]
        refine anyH_take hF (by kernel_rfl) (i := 5) (v := ?_) (d := some 17) (by kernel_rfl) rfl rfl (by kernel_rfl) (by kernel_rfl) (by kernel_rfl) (fun _ _ _ h => h) hS0 (Or.inl ⟨by rfl, fun w hSw => ?_⟩) ?_
        rotate_left
        · obtain ⟨s0, s1, s2, s3, s4, s5, s6⟩ := hSw
          go_simp
          all_goals (try (first | with_reducible rfl | omega))
        try simp only [Act.put]
        try simp only [List.setIfInBounds_toArray]
        try simp only [List.set_cons_zero, List.set_cons_succ]
        refine anyH_take hF (by kernel_rfl) (i := 6) (v := ?_) (d := some 18) (by kernel_rfl) rfl rfl (by kernel_rfl) (by kernel_rfl) (by kernel_rfl) (fun _ _ _ h => h) hS0 (Or.inl ⟨by rfl, fun w hSw => ?_⟩) ?_
        rotate_left
        · obtain ⟨s0, s1, s2, s3, s4, s5, s6⟩ := hSw
          go_simp
          all_goals (try (first | with_reducible rfl | omega))
        try simp only [Act.put]
        try simp only [List.setIfInBounds_toArray]
        try simp only [List.set_cons_zero, List.set_cons_succ]
        refine anyH_take hF (by kernel_rfl) (i := 7) (v := ?_) (d := some 19) (by kernel_rfl) rfl rfl (by kernel_rfl) (by kernel_rfl) (by kernel_rfl) (fun _ _ _ h => h) hS0 (Or.inl ⟨by rfl, fun w hSw => ?_⟩) ?_
        rotate_left
        · obtain ⟨s0, s1, s2, s3, s4, s5, s6⟩ := hSw
          go_simp
          all_goals (try (first | with_reducible rfl | omega))
        try simp only [Act.put]
        try simp only [List.setIfInBounds_toArray]
        try simp only [List.set_cons_zero, List.set_cons_succ]
        refine anyH_take hF (by kernel_rfl) (i := 8) (v := ?_) (d := some 20) (by kernel_rfl) rfl rfl (by kernel_rfl) (by kernel_rfl) (by kernel_rfl) (fun _ _ _ h => h) hS0 (Or.inl ⟨by rfl, fun w hSw => ?_⟩) ?_
        rotate_left
        · obtain ⟨s0, s1, s2, s3, s4, s5, s6⟩ := hSw
          go_simp
          all_goals (try (first | with_reducible rfl | omega))
        try simp only [Act.put]
        try simp only [List.setIfInBounds_toArray]
        try simp only [List.set_cons_zero, List.set_cons_succ]
        refine anyH_take hF (by kernel_rfl) (i := 9) (v := ?_) (d := some 21) (by kernel_rfl) rfl rfl (by kernel_rfl) (by kernel_rfl) (by kernel_rfl) (fun _ _ _ h => h) hS0 (Or.inl ⟨by rfl, fun w hSw => ?_⟩) ?_
        rotate_left
        · obtain ⟨s0, s1, s2, s3, s4, s5, s6⟩ := hSw
          go_simp
          all_goals (try (first | with_reducible rfl | omega))
        try simp only [Act.put]
        try simp only [List.setIfInBounds_toArray]
        try simp only [List.set_cons_zero, List.set_cons_succ]
        refine anyH_take hF (by kernel_rfl) (i := 10) (v := ?_) (d := some 22) (by kernel_rfl) rfl rfl (by kernel_rfl) (by kernel_rfl) (by kernel_rfl) (fun _ _ _ h => h) hS0 (Or.inl ⟨by rfl, fun w hSw => ?_⟩) ?_
        rotate_left
        · obtain ⟨s0, s1, s2, s3, s4, s5, s6⟩ := hSw
          go_simp
          all_goals (try (first | with_reducible rfl | omega))
        try simp only [Act.put]
        try simp only [List.setIfInBounds_toArray]
        try simp only [List.set_cons_zero, List.set_cons_succ]
        refine anyH_take hF (by kernel_rfl) (i := 11) (v := ?_) (d := some 23) (by kernel_rfl) rfl rfl (by kernel_rfl) (by kernel_rfl) (by kernel_rfl) (fun _ _ _ h => h) hS0 (Or.inl ⟨by rfl, fun w hSw => ?_⟩) ?_
        rotate_left
        · obtain ⟨s0, s1, s2, s3, s4, s5, s6⟩ := hSw
          go_simp
          all_goals (try (first | with_reducible rfl | omega))
        try simp only [Act.put]
        try simp only [List.setIfInBounds_toArray]
        try simp only [List.set_cons_zero, List.set_cons_succ]
        refine anyH_take hF (by kernel_rfl) (i := 12) (v := ?_) (d := some 24) (by kernel_rfl) rfl rfl (by kernel_rfl) (by kernel_rfl) (by kernel_rfl) (fun _ _ _ h => h) hS0 (Or.inl ⟨by rfl, fun w hSw => ?_⟩) ?_
        rotate_left
        · obtain ⟨s0, s1, s2, s3, s4, s5, s6⟩ := hSw
          go_simp
          all_goals (try (first | with_reducible rfl | omega))
        try simp only [Act.put]
        try simp only [List.setIfInBounds_toArray]
        try simp only [List.set_cons_zero, List.set_cons_succ]
        refine anyH_take hF (by kernel_rfl) (i := 13) (v := .bool true) (d := some 25) (by kernel_rfl) rfl rfl (by kernel_rfl) (by kernel_rfl) (by kernel_rfl) (fun _ _ _ h => h) hS0 (Or.inl ⟨by rfl, fun w hSw => ?_⟩) ?_
        · obtain ⟨s0, s1, s2, s3, s4, s5, s6⟩ := hSw
          go_simp
          all_goals (try (first | with_reducible rfl | omega))
        try simp only [Act.put]
        try simp only [List.setIfInBounds_toArray]
        try simp only [List.set_cons_zero, List.set_cons_succ]
        refine anyH_take hF (by kernel_rfl) (i := 14) (v := .bool true) (d := some 26) (by kernel_rfl) rfl rfl (by kernel_rfl) (by kernel_rfl) (by kernel_rfl) (fun _ _ _ h => h) hS0 (Or.inl ⟨by rfl, fun w hSw => ?_⟩) ?_
        · obtain ⟨s0, s1, s2, s3, s4, s5, s6⟩ := hSw
          go_simp
          all_goals (try (first | with_reducible rfl | omega))
        try simp only [Act.put]
        try simp only [List.setIfInBounds_toArray]
        try simp only [List.set_cons_zero, List.set_cons_succ]
        refine anyH_take hF (by kernel_rfl) (i := 15) (v := .bool true) (d := some 27) (by kernel_rfl) rfl rfl (by kernel_rfl) (by kernel_rfl) (by kernel_rfl) (fun _ _ _ h => h) hS0 (Or.inl ⟨by rfl, fun w hSw => ?_⟩) ?_
        · obtain ⟨s0, s1, s2, s3, s4, s5, s6⟩ := hSw
          go_simp
          all_goals (try (first | with_reducible rfl | omega))
        try simp only [Act.put]
        try simp only [List.setIfInBounds_toArray]
        try simp only [List.set_cons_zero, List.set_cons_succ]
        refine anyH_take hF (by kernel_rfl) (i := 16) (v := undef) (d := some 28) (by kernel_rfl) rfl rfl (by kernel_rfl) (by kernel_rfl) (by kernel_rfl) (fun _ _ _ h => h) hS0 (Or.inr ⟨by rfl, rfl⟩) ?_
        try simp only [Act.put]
        try simp only [List.setIfInBounds_toArray]
        try simp only [List.set_cons_zero, List.set_cons_succ]
        refine anyH_take hF (by kernel_rfl) (i := 17) (v := undef) (d := some 29) (by kernel_rfl) rfl rfl (by kernel_rfl) (by kernel_rfl) (by kernel_rfl) (fun _ _ _ h => h) hS0 (Or.inr ⟨by rfl, rfl⟩) ?_
        try simp only [Act.put]
        try simp only [List.setIfInBounds_toArray]
        try simp only [List.set_cons_zero, List.set_cons_succ]
        refine anyH_take hF (by kernel_rfl) (i := 18) (v := undef) (d := some 30) (by kernel_rfl) rfl rfl (by kernel_rfl) (by kernel_rfl) (by kernel_rfl) (fun _ _ _ h => h) hS0 (Or.inr ⟨by rfl, rfl⟩) ?_
        try simp only [Act.put]
        try simp only [List.setIfInBounds_toArray]
        try simp only [List.set_cons_zero, List.set_cons_succ]
        refine anyH_take hF (by kernel_rfl) (i := 19) (v := undef) (d := some 31) (by kernel_rfl) rfl rfl (by kernel_rfl) (by kernel_rfl) (by kernel_rfl) (fun _ _ _ h => h) hS0 (Or.inr ⟨by rfl, rfl⟩) ?_
        try simp only [Act.put]
        try simp only [List.setIfInBounds_toArray]
        try simp only [List.set_cons_zero, List.set_cons_succ]
        refine anyH_take hF (by kernel_rfl) (i := 20) (v := undef) (d := some 32) (by kernel_rfl) rfl rfl (by kernel_rfl) (by kernel_rfl) (by kernel_rfl) (fun _ _ _ h => h) hS0 (Or.inr ⟨by rfl, rfl⟩) ?_
        try simp only [Act.put]
        try simp only [List.setIfInBounds_toArray]
        try simp only [List.set_cons_zero, List.set_cons_succ]
        refine anyH_take hF (by kernel_rfl) (i := 21) (v := undef) (d := some 33) (by kernel_rfl) rfl rfl (by kernel_rfl) (by kernel_rfl) (by kernel_rfl) (fun _ _ _ h => h) hS0 (Or.inr ⟨by rfl, rfl⟩) ?_
        try simp only [Act.put]
        try simp only [List.setIfInBounds_toArray]
        try simp only [List.set_cons_zero, List.set_cons_succ]
        refine anyH_take hF (by kernel_rfl) (i := 22) (v := undef) (d := some 34) (by kernel_rfl) rfl rfl (by kernel_rfl) (by kernel_rfl) (by kernel_rfl) (fun _ _ _ h => h) hS0 (Or.inr ⟨by rfl, rfl⟩) ?_
        try simp only [Act.put]
        try simp only [List.setIfInBounds_toArray]
        try simp only [List.set_cons_zero, List.set_cons_succ]
        refine anyH_take hF (by kernel_rfl) (i := 23) (v := undef) (d := some 35) (by kernel_rfl) rfl rfl (by kernel_rfl) (by kernel_rfl) (by kernel_rfl) (fun _ _ _ h => h) hS0 (Or.inr ⟨by rfl, rfl⟩) ?_
        try simp only [Act.put]
        try simp only [List.setIfInBounds_toArray]
        try simp only [List.set_cons_zero, List.set_cons_succ]
        refine anyH_take hF (by kernel_rfl) (i := 24) (v := undef) (d := some 36) (by kernel_rfl) rfl rfl (by kernel_rfl) (by kernel_rfl) (by kernel_rfl) (fun _ _ _ h => h) hS0 (Or.inr ⟨by rfl, rfl⟩) ?_
        try simp only [Act.put]
        try simp only [List.setIfInBounds_toArray]
        try simp only [List.set_cons_zero, List.set_cons_succ]
        refine anyH_take hF (by kernel_rfl) (i := 25) (v := undef) (d := some 37) (by kernel_rfl) rfl rfl (by kernel_rfl) (by kernel_rfl) (by kernel_rfl) (fun _ _ _ h => h) hS0 (Or.inr ⟨by rfl, rfl⟩) ?_
        try simp only [Act.put]
        try simp only [List.setIfInBounds_toArray]
        try simp only [List.set_cons_zero, List.set_cons_succ]
        refine anyH_take hF (by kernel_rfl) (i := 26) (v := undef) (d := some 38) (by kernel_rfl) rfl rfl (by kernel_rfl) (by kernel_rfl) (by kernel_rfl) (fun _ _ _ h => h) hS0 (Or.inr ⟨by rfl, rfl⟩) ?_
        try simp only [Act.put]
        try simp only [List.setIfInBounds_toArray]
        try simp only [List.set_cons_zero, List.set_cons_succ]
        refine anyH_take hF (by kernel_rfl) (i := 27) (v := .bool true) (d := some 39) (by kernel_rfl) rfl rfl (by kernel_rfl) (by kernel_rfl) (by kernel_rfl) (fun _ _ _ h => h) hS0 (Or.inl ⟨by rfl, fun w hSw => ?_⟩) ?_
        · obtain ⟨s0, s1, s2, s3, s4, s5, s6⟩ := hSw
          go_simp
          all_goals (try (first | with_reducible rfl | omega))
        try simp only [Act.put]
        try simp only [List.setIfInBounds_toArray]
        try simp only [List.set_cons_zero, List.set_cons_succ]
        refine anyH_done (by kernel_rfl) ?_ _
        gi_wp2
        refine bodyPost_ret (results_none rfl _ _ _) rfl ?_
        exact ⟨⟨_, rfl⟩, .inl ⟨_, rfl, HJ2.out⟩⟩
    · have hlt : ¬ (((a + m : Nat) : Int) < (N.length : Int)) := by omega
      have HJ2 : Hid (J (tellN N a (e - a)) wr) := by
        rw [show e - a = m by have := hE.le; omega]; exact hJs
      clear hJs hY hD
      gi_wp2_with (gi_at_call 71; refine (size_in F (n - 1) hF hro _ _ _ _ hT1).mono ?_; rintro e w' ⟨rfl, hw'⟩; replace hw' := hw'.symm; subst hw')
      go_end0
      exact ⟨⟨_, rfl⟩, .inl ⟨_, rfl, HJ2.out⟩⟩
end Go.Proofs.YtoljpgpkeploiaaDoor
