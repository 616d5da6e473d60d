/-
  Parts of the proof laid into one text, one behind the other; each says at its head what is proved in it.
-/
import Derived.Test.YtebnonpdaddniaaGreatDoorHtJ
import Derived.Test.YtebnonpdaddniaaGreatDoorHgG
/-
  The program's iterator below over a tree of cores: a place and all places behind it that hang on it, each with its node; nothing that was there is turned.
-/
namespace Go.Proofs.YtebnonpdaddniaaGreatDoor
open Go.RowKit Go.Extern.Stop Go.Stop Go.Extern Num Go.Lib Go.Shelf
attribute [local go_sem] Oper.semAt_some

/-- A place and its node, as they are told. -/
abbrev encNC (x : Int × (Cor × Value)) : Array Value := #[.int .i64 x.1, .agg #[.int .i64 x.2.1.parent, .int .i64 x.2.1.kind, .int .i64 x.2.1.parent, .int .i64 x.2.1.a, .int .i64 x.2.1.b, .string x.2.1.name, x.2.2]]
/-- The places from a on, up to e, each with its node. -/
def tellNC (N : List (Cor × Value)) (a : Nat) : Nat → List (Int × (Cor × Value))
  | 0 => []
  | m + 1 => tellNC N a m ++ (match N[a + m]? with | some t => [(((a + m : Nat) : Int), t)] | none => [])
theorem tellN_nextC (N : List (Cor × Value)) (a m : Nat) (h : a + m < N.length) : tellNC N a (m + 1) = tellNC N a m ++ [(((a + m : Nat) : Int), N[a + m])] := by
  simp [tellNC, h]
theorem tellN_lenC (N : List (Cor × Value)) (a : Nat) : ∀ m, a + m ≤ N.length → (tellNC N a m).length = m
  | 0, _ => rfl
  | m + 1, h => by rw [tellN_nextC N a m (by omega), List.length_append, tellN_lenC N a m (by omega)]; rfl
theorem tellN_preC (N : List (Cor × Value)) (a : Nat) : ∀ m k, k ≤ m → a + m ≤ N.length → tellNC N a k <+: tellNC N a m
  | 0, k, h, _ => by obtain rfl : k = 0 := by omega
                     exact List.prefix_refl _
  | m + 1, k, h, h2 => by
    by_cases e : k = m + 1
    · subst e; exact List.prefix_refl _
    · rw [tellN_nextC N a m (by omega)]
      exact (tellN_preC N a m k (by omega) (by omega)).trans (List.prefix_append _ _)
/-- Where what hangs on a place ends: e. -/
structure EndAtC (N : List (Cor × Value)) (a e : Nat) : Prop where
  lt : a < e
  le : e ≤ N.length
  inside : ∀ (j : Nat) (h : j < N.length), a < j → j < e → (a : Int) ≤ N[j].1.parent
  stop : ∀ (h : e < N.length), N[e].1.parent < (a : Int)
/-- What the region of a round reads. -/
def SBC (ba bt tb g cap k a L : Nat) (t : Cor × Value) (w' : World) : Prop := w'.cell? ⟨ba, 0, none⟩ = some (.int .i64 (a : Int)) ∧ w'.cell? ⟨bt, 0, none⟩ = some (.pointer (some ⟨tb, 0, none⟩)) ∧ w'.cell? ⟨tb, 0, none⟩ = some (.slice (some ⟨g, 0, none⟩) L cap) ∧ w'.cell? ⟨g, k * 7, none⟩ = some (.int .i64 t.1.parent) ∧ w'.cell? ⟨g, k * 7 + 1, none⟩ = some (.int .i64 t.1.kind) ∧ w'.cell? ⟨g, k * 7 + 2, none⟩ = some (.int .i64 t.1.parent) ∧ w'.cell? ⟨g, k * 7 + 3, none⟩ = some (.int .i64 t.1.a) ∧ w'.cell? ⟨g, k * 7 + 4, none⟩ = some (.int .i64 t.1.b) ∧ w'.cell? ⟨g, k * 7 + 5, none⟩ = some (.string t.1.name) ∧ w'.cell? ⟨g, k * 7 + 6, none⟩ = some t.2
theorem SBC.keep {ba bt tb g cap k a L n₀ lo hi : Nat} {t : Cor × Value} {w w' : World} (h : SBC ba bt tb g cap k a L t w) (hk : Kpx n₀ lo hi w w') (h1 : lo ≤ bt) (h2 : bt < hi) (h3 : lo ≤ ba) (h4 : ba < hi) (h5 : tb < n₀) (h6 : g < n₀) : SBC ba bt tb g cap k a L t w' := by
  obtain ⟨s0, s1, s2, s3, s4, s5, s6, s7, s8, s9⟩ := h
  exact ⟨(hk.cell h3 h4).trans s0, (hk.cell h1 h2).trans s1, (hk.1.cell (p := ⟨tb, 0, none⟩) h5).trans s2, (hk.1.cell (p := ⟨g, k * 7, none⟩) h6).trans s3, (hk.1.cell (p := ⟨g, k * 7 + 1, none⟩) h6).trans s4, (hk.1.cell (p := ⟨g, k * 7 + 2, none⟩) h6).trans s5, (hk.1.cell (p := ⟨g, k * 7 + 3, none⟩) h6).trans s6, (hk.1.cell (p := ⟨g, k * 7 + 4, none⟩) h6).trans s7, (hk.1.cell (p := ⟨g, k * 7 + 5, none⟩) h6).trans s8, (hk.1.cell (p := ⟨g, k * 7 + 6, none⟩) h6).trans s9⟩
set_option maxRecDepth 100000 in
set_option maxHeartbeats 4000000 in
theorem below1_inC (F : Fence) (n : Nat) (hF : ∀ f, F.fn f) (hro : F.round = none) (hn : 2 ≤ n) (l ba bt n₀ lo hi tb : Nat) (N : List (Cor × Value)) (a e : Nat) (hE : EndAtC N a e) (hN : N.length ≤ 1000) (J Jx : List (Int × (Cor × Value)) → World → Prop) (Pd : Int × (Cor × Value) → Prop) (hPd : ∀ (k : Nat) (h : k < N.length), Pd ((k : Int), N[k]))
    (hY : ∀ pre x W, Pd x → J pre W → pre ++ [x] <+: tellNC N a (e - a) → YieldAt F (n - 1) Tryz.prog l (encNC x) W fun e W' =>
      ((e = .returned (.bool true) ∧ J (pre ++ [x]) W') ∨ (e = .returned (.bool false) ∧ Jx (pre ++ [x]) W')) ∧ Kpx n₀ lo hi W W')
    (hD : ∀ pre W, J pre W → J pre W.drew)
    (W : World) (hBa : W.cell? ⟨ba, 0, none⟩ = some (.int .i64 (a : Int))) (hBt : W.cell? ⟨bt, 0, none⟩ = some (.pointer (some ⟨tb, 0, none⟩))) (hlo : lo ≤ bt) (hhi : bt < hi) (hlo2 : lo ≤ ba) (hhi2 : ba < hi) (hT : IsTreeC n₀ W tb N) (h0 : J [] W) :
    CallsIn F n Tryz.prog 233 #[.func (.yield l) #[] #[], .pointer (some ⟨ba, 0, none⟩), .pointer (some ⟨bt, 0, none⟩)] W fun r W' => (∃ v, r = .returned v) ∧
      ((∃ ys, ys = tellNC N a (e - a) ∧ J ys W') ∨ (∃ pre, pre <+: tellNC N a (e - a) ∧ Jx pre W')) := by
  have hmx : Tryz.prog.follows .mixedOrders = true := by kernel_rfl
  have h1 : 1 ≤ n := by omega
  refine callsIn_of_wp Tryz.func233 rfl (hF _) ?_ hro
  simp only [Tryz.ntmps233, List.size_toArray, List.length_cons, List.length_nil, Nat.reduceAdd, Nat.reduceSub, Array.replicate_succ, Array.replicate_zero, List.push_toArray, List.append_toArray, List.nil_append, List.cons_append]
  gi_wp2
  gi_loopw [4] (fun i wr => ∃ m : Nat, i = .int .i64 ((a + m : Nat) : Int) ∧ a + m ≤ e ∧ J (tellNC N a m) wr ∧ Kpx n₀ lo hi W wr)
    (fun i _ => N.length + 1 - (RowKit.intOf i).toNat)
  case atStart => exact ⟨0, rfl, by have := hE.lt; omega, h0, kpx_refl _ _ _ _⟩
  case round =>
    obtain ⟨m, rfl, hm, hJs, hnx⟩ := hrel
    obtain ⟨ao, g, cap, hc, htb, hg, hao, hrow⟩ := hT.below hnx.1
    have hca : wr.cell? ⟨ba, 0, none⟩ = some (.int .i64 (a : Int)) := (hnx.cell hlo2 hhi2).trans hBa
    have hct : wr.cell? ⟨bt, 0, none⟩ = some (.pointer (some ⟨tb, 0, none⟩)) := (hnx.cell hlo hhi).trans hBt
    have hT1 := hT.below hnx.1
    by_cases hend : a + m < N.length
    · obtain rfl := hao (by intro h; rw [h] at hend; simp at hend)
      obtain ⟨k, hk⟩ : ∃ k, k = a + m := ⟨_, rfl⟩
      rw [← hk] at hend hm ⊢
      have HK : Hid (k = a + m) := hk
      have HJ : Hid (J (tellNC N a m) wr) := hJs
      have HX : Hid (Kpx n₀ lo hi W wr) := hnx
      have HE : Hid (EndAtC N a e) := hE
      obtain ⟨c0, c1, c2, c3, c4, c5, c6⟩ := hrow k hend
      obtain ⟨t, ht⟩ : ∃ t, t = N[k]'hend := ⟨_, rfl⟩
      have HT : Hid (t = N[k]'hend) := ht
      rw [← ht] at c0 c1 c2 c3 c4 c5 c6
      clear hk hJs hnx hrow hao ht hE
      have hlt : (k : Int) < (N.length : Int) := by omega
      have hk0 : (0 : Int) ≤ (k : Int) := by omega
      by_cases hst : k < e
      · -- a round
        have HY : Hid (YieldAt F (n - 1) Tryz.prog l (encNC ((k : Int), t)) wr.drew fun r W3 => ∃ b, r = .returned (.bool b) ∧ (((b = true ∧ J (tellNC N a (m + 1)) W3) ∨ (b = false ∧ Jx (tellNC N a (m + 1)) W3)) ∧ Kpx n₀ lo hi wr.drew W3)) := by
          have et : tellNC N a (m + 1) = tellNC N a m ++ [((k : Int), t)] := by
            have h1 := HK.out
            rw [tellN_nextC N a m (by omega), HT.out]
            subst h1
            rfl
          refine (hY _ ((k : Int), t) wr.drew (by rw [HT.out]; exact hPd k hend) (hD _ _ HJ.out) (by rw [← et]; exact tellN_preC N a (e - a) (m + 1) (by have := HK.out; omega) (by have := HE.out.le; have := HE.out.lt; omega))).mono ?_
          rw [et]
          rintro r W3 ⟨⟨h1, h2⟩ | ⟨h1, h2⟩, h3⟩
          · exact ⟨true, h1, .inl ⟨rfl, h2⟩, h3⟩
          · exact ⟨false, h1, .inr ⟨rfl, h2⟩, h3⟩
        obtain ⟨fn, tmps, assign, body, hy, hR'⟩ := HY.out
        clear HY hY hD
        by_cases hm0 : m = 0
        · have hle : ¬ ((a : Int) < (k : Int)) := by have := HK.out; omega
          have hd : decide ((a : Int) < (k : Int)) = false := decide_eq_false hle
          have hka : k ≤ a := by omega
          clear hm0
          gi_wp2_with (gi_at_call 116; refine (size_inC F (n - 1) hF hro _ _ _ _ hT1).mono ?_; rintro e w' ⟨rfl, hw'⟩; replace hw' := hw'.symm; subst hw')
          refine region_anyH (z := 99) (S := (SBC ba bt tb g cap k a N.length t)) hmx ?_
          have hS0 : (SBC ba bt tb g cap k a N.length t) wr.drew := ⟨hca, hct, hc, c0, c1, c2, c3, c4, c5, c6⟩
          refine anyH_take hF (by kernel_rfl) (i := 0) (v := ?_) (d := some 12) (by kernel_rfl) rfl rfl (by kernel_rfl) (by kernel_rfl) (by kernel_rfl) (fun _ _ _ h => h) hS0 (Or.inl ⟨by rfl, fun w hSw => ?_⟩) ?_
          rotate_left
          · obtain ⟨s0, s1, s2, s3, s4, s5, s6, s7, s8, s9⟩ := hSw
            go_simp
            all_goals (try (first | with_reducible rfl | omega))
          try simp only [Act.put]
          try simp only [List.setIfInBounds_toArray]
          try simp only [List.set_cons_zero, List.set_cons_succ]
          refine anyH_take hF (by kernel_rfl) (i := 1) (v := ?_) (d := some 13) (by kernel_rfl) rfl rfl (by kernel_rfl) (by kernel_rfl) (by kernel_rfl) (fun _ _ _ h => h) hS0 (Or.inl ⟨by rfl, fun w hSw => ?_⟩) ?_
          rotate_left
          · obtain ⟨s0, s1, s2, s3, s4, s5, s6, s7, s8, s9⟩ := hSw
            go_simp
            all_goals (try (first | with_reducible rfl | omega))
          try simp only [Act.put]
          try simp only [List.setIfInBounds_toArray]
          try simp only [List.set_cons_zero, List.set_cons_succ]
          refine anyH_take hF (by kernel_rfl) (i := 2) (v := .bool false) (d := some 14) (by kernel_rfl) rfl rfl (by kernel_rfl) (by kernel_rfl) (by kernel_rfl) (fun _ _ _ h => h) hS0 (Or.inl ⟨by rfl, fun w hSw => ?_⟩) ?_
          · obtain ⟨s0, s1, s2, s3, s4, s5, s6, s7, s8, s9⟩ := hSw
            go_simp
            all_goals (try (first | with_reducible rfl | omega))
          try simp only [Act.put]
          try simp only [List.setIfInBounds_toArray]
          try simp only [List.set_cons_zero, List.set_cons_succ]
          refine anyH_take hF (by kernel_rfl) (i := 3) (v := .bool false) (d := some 15) (by kernel_rfl) rfl rfl (by kernel_rfl) (by kernel_rfl) (by kernel_rfl) (fun _ _ _ h => h) hS0 (Or.inl ⟨by rfl, fun w hSw => ?_⟩) ?_
          · obtain ⟨s0, s1, s2, s3, s4, s5, s6, s7, s8, s9⟩ := hSw
            go_simp
            all_goals (try (first | with_reducible rfl | omega))
          try simp only [Act.put]
          try simp only [List.setIfInBounds_toArray]
          try simp only [List.set_cons_zero, List.set_cons_succ]
          refine anyH_take hF (by kernel_rfl) (i := 4) (v := undef) (d := some 16) (by kernel_rfl) rfl rfl (by kernel_rfl) (by kernel_rfl) (by kernel_rfl) (fun _ _ _ h => h) hS0 (Or.inr ⟨by rfl, rfl⟩) ?_
          try simp only [Act.put]
          try simp only [List.setIfInBounds_toArray]
          try simp only [List.set_cons_zero, List.set_cons_succ]
          refine anyH_take hF (by kernel_rfl) (i := 5) (v := undef) (d := some 17) (by kernel_rfl) rfl rfl (by kernel_rfl) (by kernel_rfl) (by kernel_rfl) (fun _ _ _ h => h) hS0 (Or.inr ⟨by rfl, rfl⟩) ?_
          try simp only [Act.put]
          try simp only [List.setIfInBounds_toArray]
          try simp only [List.set_cons_zero, List.set_cons_succ]
          refine anyH_take hF (by kernel_rfl) (i := 6) (v := undef) (d := some 18) (by kernel_rfl) rfl rfl (by kernel_rfl) (by kernel_rfl) (by kernel_rfl) (fun _ _ _ h => h) hS0 (Or.inr ⟨by rfl, rfl⟩) ?_
          try simp only [Act.put]
          try simp only [List.setIfInBounds_toArray]
          try simp only [List.set_cons_zero, List.set_cons_succ]
          refine anyH_take hF (by kernel_rfl) (i := 7) (v := undef) (d := some 19) (by kernel_rfl) rfl rfl (by kernel_rfl) (by kernel_rfl) (by kernel_rfl) (fun _ _ _ h => h) hS0 (Or.inr ⟨by rfl, rfl⟩) ?_
          try simp only [Act.put]
          try simp only [List.setIfInBounds_toArray]
          try simp only [List.set_cons_zero, List.set_cons_succ]
          refine anyH_take hF (by kernel_rfl) (i := 8) (v := undef) (d := some 20) (by kernel_rfl) rfl rfl (by kernel_rfl) (by kernel_rfl) (by kernel_rfl) (fun _ _ _ h => h) hS0 (Or.inr ⟨by rfl, rfl⟩) ?_
          try simp only [Act.put]
          try simp only [List.setIfInBounds_toArray]
          try simp only [List.set_cons_zero, List.set_cons_succ]
          refine anyH_take hF (by kernel_rfl) (i := 9) (v := undef) (d := some 21) (by kernel_rfl) rfl rfl (by kernel_rfl) (by kernel_rfl) (by kernel_rfl) (fun _ _ _ h => h) hS0 (Or.inr ⟨by rfl, rfl⟩) ?_
          try simp only [Act.put]
          try simp only [List.setIfInBounds_toArray]
          try simp only [List.set_cons_zero, List.set_cons_succ]
          refine anyH_take hF (by kernel_rfl) (i := 10) (v := undef) (d := some 22) (by kernel_rfl) rfl rfl (by kernel_rfl) (by kernel_rfl) (by kernel_rfl) (fun _ _ _ h => h) hS0 (Or.inr ⟨by rfl, rfl⟩) ?_
          try simp only [Act.put]
          try simp only [List.setIfInBounds_toArray]
          try simp only [List.set_cons_zero, List.set_cons_succ]
          refine anyH_take hF (by kernel_rfl) (i := 11) (v := undef) (d := some 23) (by kernel_rfl) rfl rfl (by kernel_rfl) (by kernel_rfl) (by kernel_rfl) (fun _ _ _ h => h) hS0 (Or.inr ⟨by rfl, rfl⟩) ?_
          try simp only [Act.put]
          try simp only [List.setIfInBounds_toArray]
          try simp only [List.set_cons_zero, List.set_cons_succ]
          refine anyH_take hF (by kernel_rfl) (i := 12) (v := undef) (d := some 24) (by kernel_rfl) rfl rfl (by kernel_rfl) (by kernel_rfl) (by kernel_rfl) (fun _ _ _ h => h) hS0 (Or.inr ⟨by rfl, rfl⟩) ?_
          try simp only [Act.put]
          try simp only [List.setIfInBounds_toArray]
          try simp only [List.set_cons_zero, List.set_cons_succ]
          refine anyH_take hF (by kernel_rfl) (i := 13) (v := undef) (d := some 25) (by kernel_rfl) rfl rfl (by kernel_rfl) (by kernel_rfl) (by kernel_rfl) (fun _ _ _ h => h) hS0 (Or.inr ⟨by rfl, rfl⟩) ?_
          try simp only [Act.put]
          try simp only [List.setIfInBounds_toArray]
          try simp only [List.set_cons_zero, List.set_cons_succ]
          refine anyH_take hF (by kernel_rfl) (i := 14) (v := .bool false) (d := some 26) (by kernel_rfl) rfl rfl (by kernel_rfl) (by kernel_rfl) (by kernel_rfl) (fun _ _ _ h => h) hS0 (Or.inl ⟨by rfl, fun w hSw => ?_⟩) ?_
          · obtain ⟨s0, s1, s2, s3, s4, s5, s6, s7, s8, s9⟩ := hSw
            go_simp
            all_goals (try (first | with_reducible rfl | omega))
          try simp only [Act.put]
          try simp only [List.setIfInBounds_toArray]
          try simp only [List.set_cons_zero, List.set_cons_succ]
          refine anyH_take hF (by kernel_rfl) (i := 15) (v := .bool false) (d := some 27) (by kernel_rfl) rfl rfl (by kernel_rfl) (by kernel_rfl) (by kernel_rfl) (fun _ _ _ h => h) hS0 (Or.inl ⟨by rfl, fun w hSw => ?_⟩) ?_
          · obtain ⟨s0, s1, s2, s3, s4, s5, s6, s7, s8, s9⟩ := hSw
            go_simp
            all_goals (try (first | with_reducible rfl | omega))
          try simp only [Act.put]
          try simp only [List.setIfInBounds_toArray]
          try simp only [List.set_cons_zero, List.set_cons_succ]
          refine anyH_take hF (by kernel_rfl) (i := 16) (v := ?_) (d := some 28) (by kernel_rfl) rfl rfl (by kernel_rfl) (by kernel_rfl) (by kernel_rfl) (fun _ _ _ h => h) hS0 (Or.inl ⟨by rfl, fun w hSw => ?_⟩) ?_
          rotate_left
          · obtain ⟨s0, s1, s2, s3, s4, s5, s6, s7, s8, s9⟩ := hSw
            go_simp
            all_goals (try (first | with_reducible rfl | omega))
          try simp only [Act.put]
          try simp only [List.setIfInBounds_toArray]
          try simp only [List.set_cons_zero, List.set_cons_succ]
          refine anyH_take hF (by kernel_rfl) (i := 17) (v := ?_) (d := some 29) (by kernel_rfl) rfl rfl (by kernel_rfl) (by kernel_rfl) (by kernel_rfl) (fun _ _ _ h => h) hS0 (Or.inl ⟨by rfl, fun w hSw => ?_⟩) ?_
          rotate_left
          · obtain ⟨s0, s1, s2, s3, s4, s5, s6, s7, s8, s9⟩ := hSw
            go_simp
            all_goals (try (first | with_reducible rfl | omega))
          try simp only [Act.put]
          try simp only [List.setIfInBounds_toArray]
          try simp only [List.set_cons_zero, List.set_cons_succ]
          refine anyH_take hF (by kernel_rfl) (i := 18) (v := ?_) (d := some 30) (by kernel_rfl) rfl rfl (by kernel_rfl) (by kernel_rfl) (by kernel_rfl) (fun _ _ _ h => h) hS0 (Or.inl ⟨by rfl, fun w hSw => ?_⟩) ?_
          rotate_left
          · obtain ⟨s0, s1, s2, s3, s4, s5, s6, s7, s8, s9⟩ := hSw
            go_simp
            all_goals (try (first | with_reducible rfl | omega))
          try simp only [Act.put]
          try simp only [List.setIfInBounds_toArray]
          try simp only [List.set_cons_zero, List.set_cons_succ]
          refine anyH_take hF (by kernel_rfl) (i := 19) (v := ?_) (d := some 31) (by kernel_rfl) rfl rfl (by kernel_rfl) (by kernel_rfl) (by kernel_rfl) (fun _ _ _ h => h) hS0 (Or.inl ⟨by rfl, fun w hSw => ?_⟩) ?_
          rotate_left
          · obtain ⟨s0, s1, s2, s3, s4, s5, s6, s7, s8, s9⟩ := hSw
            go_simp
            all_goals (try (first | with_reducible rfl | omega))
          try simp only [Act.put]
          try simp only [List.setIfInBounds_toArray]
          try simp only [List.set_cons_zero, List.set_cons_succ]
          refine anyH_take hF (by kernel_rfl) (i := 20) (v := ?_) (d := some 32) (by kernel_rfl) rfl rfl (by kernel_rfl) (by kernel_rfl) (by kernel_rfl) (fun _ _ _ h => h) hS0 (Or.inl ⟨by rfl, fun w hSw => ?_⟩) ?_
          rotate_left
          · obtain ⟨s0, s1, s2, s3, s4, s5, s6, s7, s8, s9⟩ := hSw
            go_simp
            all_goals (try (first | with_reducible rfl | omega))
          try simp only [Act.put]
          try simp only [List.setIfInBounds_toArray]
          try simp only [List.set_cons_zero, List.set_cons_succ]
          refine anyH_take hF (by kernel_rfl) (i := 21) (v := ?_) (d := some 33) (by kernel_rfl) rfl rfl (by kernel_rfl) (by kernel_rfl) (by kernel_rfl) (fun _ _ _ h => h) hS0 (Or.inl ⟨by rfl, fun w hSw => ?_⟩) ?_
          rotate_left
          · obtain ⟨s0, s1, s2, s3, s4, s5, s6, s7, s8, s9⟩ := hSw
            go_simp
            all_goals (try (first | with_reducible rfl | omega))
          try simp only [Act.put]
          try simp only [List.setIfInBounds_toArray]
          try simp only [List.set_cons_zero, List.set_cons_succ]
          refine anyH_take hF (by kernel_rfl) (i := 22) (v := ?_) (d := some 34) (by kernel_rfl) rfl rfl (by kernel_rfl) (by kernel_rfl) (by kernel_rfl) (fun _ _ _ h => h) hS0 (Or.inl ⟨by rfl, fun w hSw => ?_⟩) ?_
          rotate_left
          · obtain ⟨s0, s1, s2, s3, s4, s5, s6, s7, s8, s9⟩ := hSw
            go_simp
            all_goals (try (first | with_reducible rfl | omega))
          try simp only [Act.put]
          try simp only [List.setIfInBounds_toArray]
          try simp only [List.set_cons_zero, List.set_cons_succ]
          refine anyH_take hF (by kernel_rfl) (i := 23) (v := ?_) (d := some 35) (by kernel_rfl) rfl rfl (by kernel_rfl) (by kernel_rfl) (by kernel_rfl) (fun _ _ _ h => h) hS0 (Or.inl ⟨by rfl, fun w hSw => ?_⟩) ?_
          rotate_left
          · obtain ⟨s0, s1, s2, s3, s4, s5, s6, s7, s8, s9⟩ := hSw
            go_simp
            all_goals (try (first | with_reducible rfl | omega))
          try simp only [Act.put]
          try simp only [List.setIfInBounds_toArray]
          try simp only [List.set_cons_zero, List.set_cons_succ]
          refine anyH_take hF (by kernel_rfl) (i := 24) (v := ?_) (d := some 36) (by kernel_rfl) rfl rfl (by kernel_rfl) (by kernel_rfl) (by kernel_rfl) (fun _ _ _ h => h) hS0 (Or.inl ⟨by rfl, fun w hSw => ?_⟩) ?_
          rotate_left
          · obtain ⟨s0, s1, s2, s3, s4, s5, s6, s7, s8, s9⟩ := hSw
            go_simp
            all_goals (try (first | with_reducible rfl | omega))
          try simp only [Act.put]
          try simp only [List.setIfInBounds_toArray]
          try simp only [List.set_cons_zero, List.set_cons_succ]
          refine anyH_one (i := 25) (by kernel_rfl) (op_step rfl (by rfl) ⟨fun f _ => hF f, ?_⟩)
          rw [hro, Oper.semAt_none]
          go_simp
          refine hR'.mono ?_
          rintro r W3 ⟨b, rfl, hpost, hk3⟩
          have hS1 : SBC ba bt tb g cap k a N.length t W3 := hS0.keep hk3 hlo hhi hlo2 hhi2 htb hg
          refine ⟨(by first | exact hS1 | exact fun _ => hS1), ?_⟩
          clear hS0 hy hR'
          try simp only [Act.put]
          try simp only [List.setIfInBounds_toArray]
          try simp only [List.set_cons_zero, List.set_cons_succ]
          refine anyH_take hF (by kernel_rfl) (i := 26) (v := .bool (!b)) (d := some 38) (by kernel_rfl) rfl rfl (by kernel_rfl) (by kernel_rfl) (by kernel_rfl) (fun _ _ _ h => h) hS1 (Or.inl ⟨by rfl, fun w hSw => ?_⟩) ?_
          · obtain ⟨s0, s1, s2, s3, s4, s5, s6, s7, s8, s9⟩ := hSw
            go_simp
            all_goals (try (first | with_reducible rfl | omega))
          try simp only [Act.put]
          try simp only [List.setIfInBounds_toArray]
          try simp only [List.set_cons_zero, List.set_cons_succ]
          refine anyH_take hF (by kernel_rfl) (i := 27) (v := .bool (!b)) (d := some 39) (by kernel_rfl) rfl rfl (by kernel_rfl) (by kernel_rfl) (by kernel_rfl) (fun _ _ _ h => h) hS1 (Or.inl ⟨by rfl, fun w hSw => ?_⟩) ?_
          · obtain ⟨s0, s1, s2, s3, s4, s5, s6, s7, s8, s9⟩ := hSw
            go_simp
            all_goals (try (first | with_reducible rfl | omega))
          try simp only [Act.put]
          try simp only [List.setIfInBounds_toArray]
          try simp only [List.set_cons_zero, List.set_cons_succ]
          refine anyH_done (by kernel_rfl) ?_ _
          cases b
          · have hJx := hpost.elim (fun h => absurd h.1 (by simp)) (fun h => h.2)
            clear hpost
            gi_wp2
            refine bodyPost_ret (results_none rfl _ _ _) rfl ?_
            exact ⟨⟨_, rfl⟩, .inr ⟨_, tellN_preC N a (e - a) (m + 1) (by have := HK.out; omega) (by have := HE.out.le; have := HE.out.lt; omega), hJx⟩⟩
          · have hJ3 := hpost.elim (fun h => h.2) (fun h => absurd h.1 (by simp))
            clear hpost
            gi_wp2
            go_roundw
            case rel => exact ⟨m + 1, by have := HK.out; rw [show a + (m + 1) = k + 1 by omega]; simp, by have := HK.out; omega, hJ3, kpx_t HX.out (kpx_t (⟨(Below.refl _ _).drew, fun _ _ _ => rfl⟩ : Kpx n₀ lo hi wr wr.drew) hk3)⟩
            case measure => simp [RowKit.intOf]; omega
        · have hle : (a : Int) < (k : Int) := by have := HK.out; omega
          have hd : decide ((a : Int) < (k : Int)) = true := decide_eq_true hle
          have hpa : ¬ (t.1.parent < (a : Int)) := by have := HE.out.inside k hend (by have := HK.out; omega) hst; rw [← HT.out] at this; omega
          have hpd : decide (t.1.parent < (a : Int)) = false := decide_eq_false hpa
          have hka : a < k := by omega
          clear hm0
          gi_wp2_with (gi_at_call 116; refine (size_inC F (n - 1) hF hro _ _ _ _ hT1).mono ?_; rintro e w' ⟨rfl, hw'⟩; replace hw' := hw'.symm; subst hw')
          refine region_anyH (z := 99) (S := (SBC ba bt tb g cap k a N.length t)) hmx ?_
          have hS0 : (SBC ba bt tb g cap k a N.length t) wr.drew := ⟨hca, hct, hc, c0, c1, c2, c3, c4, c5, c6⟩
          refine anyH_take hF (by kernel_rfl) (i := 0) (v := ?_) (d := some 12) (by kernel_rfl) rfl rfl (by kernel_rfl) (by kernel_rfl) (by kernel_rfl) (fun _ _ _ h => h) hS0 (Or.inl ⟨by rfl, fun w hSw => ?_⟩) ?_
          rotate_left
          · obtain ⟨s0, s1, s2, s3, s4, s5, s6, s7, s8, s9⟩ := hSw
            go_simp
            all_goals (try (first | with_reducible rfl | omega))
          try simp only [Act.put]
          try simp only [List.setIfInBounds_toArray]
          try simp only [List.set_cons_zero, List.set_cons_succ]
          refine anyH_take hF (by kernel_rfl) (i := 1) (v := ?_) (d := some 13) (by kernel_rfl) rfl rfl (by kernel_rfl) (by kernel_rfl) (by kernel_rfl) (fun _ _ _ h => h) hS0 (Or.inl ⟨by rfl, fun w hSw => ?_⟩) ?_
          rotate_left
          · obtain ⟨s0, s1, s2, s3, s4, s5, s6, s7, s8, s9⟩ := hSw
            go_simp
            all_goals (try (first | with_reducible rfl | omega))
          try simp only [Act.put]
          try simp only [List.setIfInBounds_toArray]
          try simp only [List.set_cons_zero, List.set_cons_succ]
          refine anyH_take hF (by kernel_rfl) (i := 2) (v := .bool true) (d := some 14) (by kernel_rfl) rfl rfl (by kernel_rfl) (by kernel_rfl) (by kernel_rfl) (fun _ _ _ h => h) hS0 (Or.inl ⟨by rfl, fun w hSw => ?_⟩) ?_
          · obtain ⟨s0, s1, s2, s3, s4, s5, s6, s7, s8, s9⟩ := hSw
            go_simp
            all_goals (try (first | with_reducible rfl | omega))
          try simp only [Act.put]
          try simp only [List.setIfInBounds_toArray]
          try simp only [List.set_cons_zero, List.set_cons_succ]
          refine anyH_take hF (by kernel_rfl) (i := 3) (v := .bool true) (d := some 15) (by kernel_rfl) rfl rfl (by kernel_rfl) (by kernel_rfl) (by kernel_rfl) (fun _ _ _ h => h) hS0 (Or.inl ⟨by rfl, fun w hSw => ?_⟩) ?_
          · obtain ⟨s0, s1, s2, s3, s4, s5, s6, s7, s8, s9⟩ := hSw
            go_simp
            all_goals (try (first | with_reducible rfl | omega))
          try simp only [Act.put]
          try simp only [List.setIfInBounds_toArray]
          try simp only [List.set_cons_zero, List.set_cons_succ]
          refine anyH_take hF (by kernel_rfl) (i := 4) (v := ?_) (d := some 16) (by kernel_rfl) rfl rfl (by kernel_rfl) (by kernel_rfl) (by kernel_rfl) (fun _ _ _ h => h) hS0 (Or.inl ⟨by rfl, fun w hSw => ?_⟩) ?_
          rotate_left
          · obtain ⟨s0, s1, s2, s3, s4, s5, s6, s7, s8, s9⟩ := hSw
            go_simp
            all_goals (try (first | with_reducible rfl | omega))
          try simp only [Act.put]
          try simp only [List.setIfInBounds_toArray]
          try simp only [List.set_cons_zero, List.set_cons_succ]
          refine anyH_take hF (by kernel_rfl) (i := 5) (v := ?_) (d := some 17) (by kernel_rfl) rfl rfl (by kernel_rfl) (by kernel_rfl) (by kernel_rfl) (fun _ _ _ h => h) hS0 (Or.inl ⟨by rfl, fun w hSw => ?_⟩) ?_
          rotate_left
          · obtain ⟨s0, s1, s2, s3, s4, s5, s6, s7, s8, s9⟩ := hSw
            go_simp
            all_goals (try (first | with_reducible rfl | omega))
          try simp only [Act.put]
          try simp only [List.setIfInBounds_toArray]
          try simp only [List.set_cons_zero, List.set_cons_succ]
          refine anyH_take hF (by kernel_rfl) (i := 6) (v := ?_) (d := some 18) (by kernel_rfl) rfl rfl (by kernel_rfl) (by kernel_rfl) (by kernel_rfl) (fun _ _ _ h => h) hS0 (Or.inl ⟨by rfl, fun w hSw => ?_⟩) ?_
          rotate_left
          · obtain ⟨s0, s1, s2, s3, s4, s5, s6, s7, s8, s9⟩ := hSw
            go_simp
            all_goals (try (first | with_reducible rfl | omega))
          try simp only [Act.put]
          try simp only [List.setIfInBounds_toArray]
          try simp only [List.set_cons_zero, List.set_cons_succ]
          refine anyH_take hF (by kernel_rfl) (i := 7) (v := ?_) (d := some 19) (by kernel_rfl) rfl rfl (by kernel_rfl) (by kernel_rfl) (by kernel_rfl) (fun _ _ _ h => h) hS0 (Or.inl ⟨by rfl, fun w hSw => ?_⟩) ?_
          rotate_left
          · obtain ⟨s0, s1, s2, s3, s4, s5, s6, s7, s8, s9⟩ := hSw
            go_simp
            all_goals (try (first | with_reducible rfl | omega))
          try simp only [Act.put]
          try simp only [List.setIfInBounds_toArray]
          try simp only [List.set_cons_zero, List.set_cons_succ]
          refine anyH_take hF (by kernel_rfl) (i := 8) (v := ?_) (d := some 20) (by kernel_rfl) rfl rfl (by kernel_rfl) (by kernel_rfl) (by kernel_rfl) (fun _ _ _ h => h) hS0 (Or.inl ⟨by rfl, fun w hSw => ?_⟩) ?_
          rotate_left
          · obtain ⟨s0, s1, s2, s3, s4, s5, s6, s7, s8, s9⟩ := hSw
            go_simp
            all_goals (try (first | with_reducible rfl | omega))
          try simp only [Act.put]
          try simp only [List.setIfInBounds_toArray]
          try simp only [List.set_cons_zero, List.set_cons_succ]
          refine anyH_take hF (by kernel_rfl) (i := 9) (v := ?_) (d := some 21) (by kernel_rfl) rfl rfl (by kernel_rfl) (by kernel_rfl) (by kernel_rfl) (fun _ _ _ h => h) hS0 (Or.inl ⟨by rfl, fun w hSw => ?_⟩) ?_
          rotate_left
          · obtain ⟨s0, s1, s2, s3, s4, s5, s6, s7, s8, s9⟩ := hSw
            go_simp
            all_goals (try (first | with_reducible rfl | omega))
          try simp only [Act.put]
          try simp only [List.setIfInBounds_toArray]
          try simp only [List.set_cons_zero, List.set_cons_succ]
          refine anyH_take hF (by kernel_rfl) (i := 10) (v := ?_) (d := some 22) (by kernel_rfl) rfl rfl (by kernel_rfl) (by kernel_rfl) (by kernel_rfl) (fun _ _ _ h => h) hS0 (Or.inl ⟨by rfl, fun w hSw => ?_⟩) ?_
          rotate_left
          · obtain ⟨s0, s1, s2, s3, s4, s5, s6, s7, s8, s9⟩ := hSw
            go_simp
            all_goals (try (first | with_reducible rfl | omega))
          try simp only [Act.put]
          try simp only [List.setIfInBounds_toArray]
          try simp only [List.set_cons_zero, List.set_cons_succ]
          refine anyH_take hF (by kernel_rfl) (i := 11) (v := ?_) (d := some 23) (by kernel_rfl) rfl rfl (by kernel_rfl) (by kernel_rfl) (by kernel_rfl) (fun _ _ _ h => h) hS0 (Or.inl ⟨by rfl, fun w hSw => ?_⟩) ?_
          rotate_left
          · obtain ⟨s0, s1, s2, s3, s4, s5, s6, s7, s8, s9⟩ := hSw
            go_simp
            all_goals (try (first | with_reducible rfl | omega))
          try simp only [Act.put]
          try simp only [List.setIfInBounds_toArray]
          try simp only [List.set_cons_zero, List.set_cons_succ]
          refine anyH_take hF (by kernel_rfl) (i := 12) (v := ?_) (d := some 24) (by kernel_rfl) rfl rfl (by kernel_rfl) (by kernel_rfl) (by kernel_rfl) (fun _ _ _ h => h) hS0 (Or.inl ⟨by rfl, fun w hSw => ?_⟩) ?_
          rotate_left
          · obtain ⟨s0, s1, s2, s3, s4, s5, s6, s7, s8, s9⟩ := hSw
            go_simp
            all_goals (try (first | with_reducible rfl | omega))
          try simp only [Act.put]
          try simp only [List.setIfInBounds_toArray]
          try simp only [List.set_cons_zero, List.set_cons_succ]
          refine anyH_take hF (by kernel_rfl) (i := 13) (v := .bool false) (d := some 25) (by kernel_rfl) rfl rfl (by kernel_rfl) (by kernel_rfl) (by kernel_rfl) (fun _ _ _ h => h) hS0 (Or.inl ⟨by rfl, fun w hSw => ?_⟩) ?_
          · obtain ⟨s0, s1, s2, s3, s4, s5, s6, s7, s8, s9⟩ := hSw
            go_simp
            all_goals (try (first | with_reducible rfl | omega))
          try simp only [Act.put]
          try simp only [List.setIfInBounds_toArray]
          try simp only [List.set_cons_zero, List.set_cons_succ]
          refine anyH_take hF (by kernel_rfl) (i := 14) (v := .bool false) (d := some 26) (by kernel_rfl) rfl rfl (by kernel_rfl) (by kernel_rfl) (by kernel_rfl) (fun _ _ _ h => h) hS0 (Or.inl ⟨by rfl, fun w hSw => ?_⟩) ?_
          · obtain ⟨s0, s1, s2, s3, s4, s5, s6, s7, s8, s9⟩ := hSw
            go_simp
            all_goals (try (first | with_reducible rfl | omega))
          try simp only [Act.put]
          try simp only [List.setIfInBounds_toArray]
          try simp only [List.set_cons_zero, List.set_cons_succ]
          refine anyH_take hF (by kernel_rfl) (i := 15) (v := .bool false) (d := some 27) (by kernel_rfl) rfl rfl (by kernel_rfl) (by kernel_rfl) (by kernel_rfl) (fun _ _ _ h => h) hS0 (Or.inl ⟨by rfl, fun w hSw => ?_⟩) ?_
          · obtain ⟨s0, s1, s2, s3, s4, s5, s6, s7, s8, s9⟩ := hSw
            go_simp
            all_goals (try (first | with_reducible rfl | omega))
          try simp only [Act.put]
          try simp only [List.setIfInBounds_toArray]
          try simp only [List.set_cons_zero, List.set_cons_succ]
          refine anyH_take hF (by kernel_rfl) (i := 16) (v := ?_) (d := some 28) (by kernel_rfl) rfl rfl (by kernel_rfl) (by kernel_rfl) (by kernel_rfl) (fun _ _ _ h => h) hS0 (Or.inl ⟨by rfl, fun w hSw => ?_⟩) ?_
          rotate_left
          · obtain ⟨s0, s1, s2, s3, s4, s5, s6, s7, s8, s9⟩ := hSw
            go_simp
            all_goals (try (first | with_reducible rfl | omega))
          try simp only [Act.put]
          try simp only [List.setIfInBounds_toArray]
          try simp only [List.set_cons_zero, List.set_cons_succ]
          refine anyH_take hF (by kernel_rfl) (i := 17) (v := ?_) (d := some 29) (by kernel_rfl) rfl rfl (by kernel_rfl) (by kernel_rfl) (by kernel_rfl) (fun _ _ _ h => h) hS0 (Or.inl ⟨by rfl, fun w hSw => ?_⟩) ?_
          rotate_left
          · obtain ⟨s0, s1, s2, s3, s4, s5, s6, s7, s8, s9⟩ := hSw
            go_simp
            all_goals (try (first | with_reducible rfl | omega))
          try simp only [Act.put]
          try simp only [List.setIfInBounds_toArray]
          try simp only [List.set_cons_zero, List.set_cons_succ]
          refine anyH_take hF (by kernel_rfl) (i := 18) (v := ?_) (d := some 30) (by kernel_rfl) rfl rfl (by kernel_rfl) (by kernel_rfl) (by kernel_rfl) (fun _ _ _ h => h) hS0 (Or.inl ⟨by rfl, fun w hSw => ?_⟩) ?_
          rotate_left
          · obtain ⟨s0, s1, s2, s3, s4, s5, s6, s7, s8, s9⟩ := hSw
            go_simp
            all_goals (try (first | with_reducible rfl | omega))
          try simp only [Act.put]
          try simp only [List.setIfInBounds_toArray]
          try simp only [List.set_cons_zero, List.set_cons_succ]
          refine anyH_take hF (by kernel_rfl) (i := 19) (v := ?_) (d := some 31) (by kernel_rfl) rfl rfl (by kernel_rfl) (by kernel_rfl) (by kernel_rfl) (fun _ _ _ h => h) hS0 (Or.inl ⟨by rfl, fun w hSw => ?_⟩) ?_
          rotate_left
          · obtain ⟨s0, s1, s2, s3, s4, s5, s6, s7, s8, s9⟩ := hSw
            go_simp
            all_goals (try (first | with_reducible rfl | omega))
          try simp only [Act.put]
          try simp only [List.setIfInBounds_toArray]
          try simp only [List.set_cons_zero, List.set_cons_succ]
          refine anyH_take hF (by kernel_rfl) (i := 20) (v := ?_) (d := some 32) (by kernel_rfl) rfl rfl (by kernel_rfl) (by kernel_rfl) (by kernel_rfl) (fun _ _ _ h => h) hS0 (Or.inl ⟨by rfl, fun w hSw => ?_⟩) ?_
          rotate_left
          · obtain ⟨s0, s1, s2, s3, s4, s5, s6, s7, s8, s9⟩ := hSw
            go_simp
            all_goals (try (first | with_reducible rfl | omega))
          try simp only [Act.put]
          try simp only [List.setIfInBounds_toArray]
          try simp only [List.set_cons_zero, List.set_cons_succ]
          refine anyH_take hF (by kernel_rfl) (i := 21) (v := ?_) (d := some 33) (by kernel_rfl) rfl rfl (by kernel_rfl) (by kernel_rfl) (by kernel_rfl) (fun _ _ _ h => h) hS0 (Or.inl ⟨by rfl, fun w hSw => ?_⟩) ?_
          rotate_left
          · obtain ⟨s0, s1, s2, s3, s4, s5, s6, s7, s8, s9⟩ := hSw
            go_simp
            all_goals (try (first | with_reducible rfl | omega))
          try simp only [Act.put]
          try simp only [List.setIfInBounds_toArray]
          try simp only [List.set_cons_zero, List.set_cons_succ]
          refine anyH_take hF (by kernel_rfl) (i := 22) (v := ?_) (d := some 34) (by kernel_rfl) rfl rfl (by kernel_rfl) (by kernel_rfl) (by kernel_rfl) (fun _ _ _ h => h) hS0 (Or.inl ⟨by rfl, fun w hSw => ?_⟩) ?_
          rotate_left
          · obtain ⟨s0, s1, s2, s3, s4, s5, s6, s7, s8, s9⟩ := hSw
            go_simp
            all_goals (try (first | with_reducible rfl | omega))
          try simp only [Act.put]
          try simp only [List.setIfInBounds_toArray]
          try simp only [List.set_cons_zero, List.set_cons_succ]
          refine anyH_take hF (by kernel_rfl) (i := 23) (v := ?_) (d := some 35) (by kernel_rfl) rfl rfl (by kernel_rfl) (by kernel_rfl) (by kernel_rfl) (fun _ _ _ h => h) hS0 (Or.inl ⟨by rfl, fun w hSw => ?_⟩) ?_
          rotate_left
          · obtain ⟨s0, s1, s2, s3, s4, s5, s6, s7, s8, s9⟩ := hSw
            go_simp
            all_goals (try (first | with_reducible rfl | omega))
          try simp only [Act.put]
          try simp only [List.setIfInBounds_toArray]
          try simp only [List.set_cons_zero, List.set_cons_succ]
          refine anyH_take hF (by kernel_rfl) (i := 24) (v := ?_) (d := some 36) (by kernel_rfl) rfl rfl (by kernel_rfl) (by kernel_rfl) (by kernel_rfl) (fun _ _ _ h => h) hS0 (Or.inl ⟨by rfl, fun w hSw => ?_⟩) ?_
          rotate_left
          · obtain ⟨s0, s1, s2, s3, s4, s5, s6, s7, s8, s9⟩ := hSw
            go_simp
            all_goals (try (first | with_reducible rfl | omega))
          try simp only [Act.put]
          try simp only [List.setIfInBounds_toArray]
          try simp only [List.set_cons_zero, List.set_cons_succ]
          refine anyH_one (i := 25) (by kernel_rfl) (op_step rfl (by rfl) ⟨fun f _ => hF f, ?_⟩)
          rw [hro, Oper.semAt_none]
          go_simp
          refine hR'.mono ?_
          rintro r W3 ⟨b, rfl, hpost, hk3⟩
          have hS1 : SBC ba bt tb g cap k a N.length t W3 := hS0.keep hk3 hlo hhi hlo2 hhi2 htb hg
          refine ⟨(by first | exact hS1 | exact fun _ => hS1), ?_⟩
          clear hS0 hy hR'
          try simp only [Act.put]
          try simp only [List.setIfInBounds_toArray]
          try simp only [List.set_cons_zero, List.set_cons_succ]
          refine anyH_take hF (by kernel_rfl) (i := 26) (v := .bool (!b)) (d := some 38) (by kernel_rfl) rfl rfl (by kernel_rfl) (by kernel_rfl) (by kernel_rfl) (fun _ _ _ h => h) hS1 (Or.inl ⟨by rfl, fun w hSw => ?_⟩) ?_
          · obtain ⟨s0, s1, s2, s3, s4, s5, s6, s7, s8, s9⟩ := hSw
            go_simp
            all_goals (try (first | with_reducible rfl | omega))
          try simp only [Act.put]
          try simp only [List.setIfInBounds_toArray]
          try simp only [List.set_cons_zero, List.set_cons_succ]
          refine anyH_take hF (by kernel_rfl) (i := 27) (v := .bool (!b)) (d := some 39) (by kernel_rfl) rfl rfl (by kernel_rfl) (by kernel_rfl) (by kernel_rfl) (fun _ _ _ h => h) hS1 (Or.inl ⟨by rfl, fun w hSw => ?_⟩) ?_
          · obtain ⟨s0, s1, s2, s3, s4, s5, s6, s7, s8, s9⟩ := hSw
            go_simp
            all_goals (try (first | with_reducible rfl | omega))
          try simp only [Act.put]
          try simp only [List.setIfInBounds_toArray]
          try simp only [List.set_cons_zero, List.set_cons_succ]
          refine anyH_done (by kernel_rfl) ?_ _
          cases b
          · have hJx := hpost.elim (fun h => absurd h.1 (by simp)) (fun h => h.2)
            clear hpost
            gi_wp2
            refine bodyPost_ret (results_none rfl _ _ _) rfl ?_
            exact ⟨⟨_, rfl⟩, .inr ⟨_, tellN_preC N a (e - a) (m + 1) (by have := HK.out; omega) (by have := HE.out.le; have := HE.out.lt; omega), hJx⟩⟩
          · have hJ3 := hpost.elim (fun h => h.2) (fun h => absurd h.1 (by simp))
            clear hpost
            gi_wp2
            go_roundw
            case rel => exact ⟨m + 1, by have := HK.out; rw [show a + (m + 1) = k + 1 by omega]; simp, by have := HK.out; omega, hJ3, kpx_t HX.out (kpx_t (⟨(Below.refl _ _).drew, fun _ _ _ => rfl⟩ : Kpx n₀ lo hi wr wr.drew) hk3)⟩
            case measure => simp [RowKit.intOf]; omega
      · -- the first one that does not hang on it
        have hke : k = e := by omega
        have hle : (a : Int) < (k : Int) := by have := HE.out.lt; omega
        have hd : decide ((a : Int) < (k : Int)) = true := decide_eq_true hle
        have hpa : t.1.parent < (a : Int) := by
          have := HE.out.stop (by omega)
          have e1 : t = N[e]'(by omega) := by rw [HT.out]; simp only [hke]
          rw [← e1] at this; exact this
        have hpd : decide (t.1.parent < (a : Int)) = true := decide_eq_true hpa
        have hka : a < k := by omega
        have HJ2 : Hid (J (tellNC N a (e - a)) wr.drew) := by
          have := hD _ _ HJ.out
          rw [show e - a = m by have := HK.out; omega]; exact this
        clear hke
        gi_wp2_with (gi_at_call 116; refine (size_inC F (n - 1) hF hro _ _ _ _ hT1).mono ?_; rintro e w' ⟨rfl, hw'⟩; replace hw' := hw'.symm; subst hw')
        refine region_anyH (z := 99) (S := (SBC ba bt tb g cap k a N.length t)) hmx ?_
        have hS0 : (SBC ba bt tb g cap k a N.length t) wr.drew := ⟨hca, hct, hc, c0, c1, c2, c3, c4, c5, c6⟩
        refine anyH_take hF (by kernel_rfl) (i := 0) (v := ?_) (d := some 12) (by kernel_rfl) rfl rfl (by kernel_rfl) (by kernel_rfl) (by kernel_rfl) (fun _ _ _ h => h) hS0 (Or.inl ⟨by rfl, fun w hSw => ?_⟩) ?_
        rotate_left
        · obtain ⟨s0, s1, s2, s3, s4, s5, s6, s7, s8, s9⟩ := hSw
          go_simp
          all_goals (try (first | with_reducible rfl | omega))
        try simp only [Act.put]
        try simp only [List.setIfInBounds_toArray]
        try simp only [List.set_cons_zero, List.set_cons_succ]
        refine anyH_take hF (by kernel_rfl) (i := 1) (v := ?_) (d := some 13) (by kernel_rfl) rfl rfl (by kernel_rfl) (by kernel_rfl) (by kernel_rfl) (fun _ _ _ h => h) hS0 (Or.inl ⟨by rfl, fun w hSw => ?_⟩) ?_
        rotate_left
        · obtain ⟨s0, s1, s2, s3, s4, s5, s6, s7, s8, s9⟩ := hSw
          go_simp
          all_goals (try (first | with_reducible rfl | omega))
        try simp only [Act.put]
        try simp only [List.setIfInBounds_toArray]
        try simp only [List.set_cons_zero, List.set_cons_succ]
        refine anyH_take hF (by kernel_rfl) (i := 2) (v := .bool true) (d := some 14) (by kernel_rfl) rfl rfl (by kernel_rfl) (by kernel_rfl) (by kernel_rfl) (fun _ _ _ h => h) hS0 (Or.inl ⟨by rfl, fun w hSw => ?_⟩) ?_
        · obtain ⟨s0, s1, s2, s3, s4, s5, s6, s7, s8, s9⟩ := hSw
          go_simp
          all_goals (try (first | with_reducible rfl | omega))
        try simp only [Act.put]
        try simp only [List.setIfInBounds_toArray]
        try simp only [List.set_cons_zero, List.set_cons_succ]
        refine anyH_take hF (by kernel_rfl) (i := 3) (v := .bool true) (d := some 15) (by kernel_rfl) rfl rfl (by kernel_rfl) (by kernel_rfl) (by kernel_rfl) (fun _ _ _ h => h) hS0 (Or.inl ⟨by rfl, fun w hSw => ?_⟩) ?_
        · obtain ⟨s0, s1, s2, s3, s4, s5, s6, s7, s8, s9⟩ := hSw
          go_simp
          all_goals (try (first | with_reducible rfl | omega))
        try simp only [Act.put]
        try simp only [List.setIfInBounds_toArray]
        try simp only [List.set_cons_zero, List.set_cons_succ]
        refine anyH_take hF (by kernel_rfl) (i := 4) (v := ?_) (d := some 16) (by kernel_rfl) rfl rfl (by kernel_rfl) (by kernel_rfl) (by kernel_rfl) (fun _ _ _ h => h) hS0 (Or.inl ⟨by rfl, fun w hSw => ?_⟩) ?_
        rotate_left
        · obtain ⟨s0, s1, s2, s3, s4, s5, s6, s7, s8, s9⟩ := hSw
          go_simp
          all_goals (try (first | with_reducible rfl | omega))
        try simp only [Act.put]
        try simp only [List.setIfInBounds_toArray]
        try simp only [List.set_cons_zero, List.set_cons_succ]
        refine anyH_take hF (by kernel_rfl) (i := 5) (v := ?_) (d := some 17) (by kernel_rfl) rfl rfl (by kernel_rfl) (by kernel_rfl) (by kernel_rfl) (fun _ _ _ h => h) hS0 (Or.inl ⟨by rfl, fun w hSw => ?_⟩) ?_
        rotate_left
        · obtain ⟨s0, s1, s2, s3, s4, s5, s6, s7, s8, s9⟩ := hSw
          go_simp
          all_goals (try (first | with_reducible rfl | omega))
        try simp only [Act.put]
        try simp only [List.setIfInBounds_toArray]
        try simp only [List.set_cons_zero, List.set_cons_succ]
        refine anyH_take hF (by kernel_rfl) (i := 6) (v := ?_) (d := some 18) (by kernel_rfl) rfl rfl (by kernel_rfl) (by kernel_rfl) (by kernel_rfl) (fun _ _ _ h => h) hS0 (Or.inl ⟨by rfl, fun w hSw => ?_⟩) ?_
        rotate_left
        · obtain ⟨s0, s1, s2, s3, s4, s5, s6, s7, s8, s9⟩ := hSw
          go_simp
          all_goals (try (first | with_reducible rfl | omega))
        try simp only [Act.put]
        try simp only [List.setIfInBounds_toArray]
        try simp only [List.set_cons_zero, List.set_cons_succ]
        refine anyH_take hF (by kernel_rfl) (i := 7) (v := ?_) (d := some 19) (by kernel_rfl) rfl rfl (by kernel_rfl) (by kernel_rfl) (by kernel_rfl) (fun _ _ _ h => h) hS0 (Or.inl ⟨by rfl, fun w hSw => ?_⟩) ?_
        rotate_left
        · obtain ⟨s0, s1, s2, s3, s4, s5, s6, s7, s8, s9⟩ := hSw
          go_simp
          all_goals (try (first | with_reducible rfl | omega))
        try simp only [Act.put]
        try simp only [List.setIfInBounds_toArray]
        try simp only [List.set_cons_zero, List.set_cons_succ]
        refine anyH_take hF (by kernel_rfl) (i := 8) (v := ?_) (d := some 20) (by kernel_rfl) rfl rfl (by kernel_rfl) (by kernel_rfl) (by kernel_rfl) (fun _ _ _ h => h) hS0 (Or.inl ⟨by rfl, fun w hSw => ?_⟩) ?_
        rotate_left
        · obtain ⟨s0, s1, s2, s3, s4, s5, s6, s7, s8, s9⟩ := hSw
          go_simp
          all_goals (try (first | with_reducible rfl | omega))
        try simp only [Act.put]
        try simp only [List.setIfInBounds_toArray]
        try simp only [List.set_cons_zero, List.set_cons_succ]
        refine anyH_take hF (by kernel_rfl) (i := 9) (v := ?_) (d := some 21) (by kernel_rfl) rfl rfl (by kernel_rfl) (by kernel_rfl) (by kernel_rfl) (fun _ _ _ h => h) hS0 (Or.inl ⟨by rfl, fun w hSw => ?_⟩) ?_
        rotate_left
        · obtain ⟨s0, s1, s2, s3, s4, s5, s6, s7, s8, s9⟩ := hSw
          go_simp
          all_goals (try (first | with_reducible rfl | omega))
        try simp only [Act.put]
        try simp only [List.setIfInBounds_toArray]
        try simp only [List.set_cons_zero, List.set_cons_succ]
        refine anyH_take hF (by kernel_rfl) (i := 10) (v := ?_) (d := some 22) (by kernel_rfl) rfl rfl (by kernel_rfl) (by kernel_rfl) (by kernel_rfl) (fun _ _ _ h => h) hS0 (Or.inl ⟨by rfl, fun w hSw => ?_⟩) ?_
        rotate_left
        · obtain ⟨s0, s1, s2, s3, s4, s5, s6, s7, s8, s9⟩ := hSw
          go_simp
          all_goals (try (first | with_reducible rfl | omega))
        try simp only [Act.put]
        try simp only [List.setIfInBounds_toArray]
        try simp only [List.set_cons_zero, List.set_cons_succ]
        refine anyH_take hF (by kernel_rfl) (i := 11) (v := ?_) (d := some 23) (by kernel_rfl) rfl rfl (by kernel_rfl) (by kernel_rfl) (by kernel_rfl) (fun _ _ _ h => h) hS0 (Or.inl ⟨by rfl, fun w hSw => ?_⟩) ?_
        rotate_left
        · obtain ⟨s0, s1, s2, s3, s4, s5, s6, s7, s8, s9⟩ := hSw
          go_simp
          all_goals (try (first | with_reducible rfl | omega))
        try simp only [Act.put]
        try simp only [List.setIfInBounds_toArray]
        try simp only [List.set_cons_zero, List.set_cons_succ]
        refine anyH_take hF (by kernel_rfl) (i := 12) (v := ?_) (d := some 24) (by kernel_rfl) rfl rfl (by kernel_rfl) (by kernel_rfl) (by kernel_rfl) (fun _ _ _ h => h) hS0 (Or.inl ⟨by rfl, fun w hSw => ?_⟩) ?_
        rotate_left
        · obtain ⟨s0, s1, s2, s3, s4, s5, s6, s7, s8, s9⟩ := hSw
          go_simp
          all_goals (try (first | with_reducible rfl | omega))
        try simp only [Act.put]
        try simp only [List.setIfInBounds_toArray]
        try simp only [List.set_cons_zero, List.set_cons_succ]
        refine anyH_take hF (by kernel_rfl) (i := 13) (v := .bool true) (d := some 25) (by kernel_rfl) rfl rfl (by kernel_rfl) (by kernel_rfl) (by kernel_rfl) (fun _ _ _ h => h) hS0 (Or.inl ⟨by rfl, fun w hSw => ?_⟩) ?_
        · obtain ⟨s0, s1, s2, s3, s4, s5, s6, s7, s8, s9⟩ := hSw
          go_simp
          all_goals (try (first | with_reducible rfl | omega))
        try simp only [Act.put]
        try simp only [List.setIfInBounds_toArray]
        try simp only [List.set_cons_zero, List.set_cons_succ]
        refine anyH_take hF (by kernel_rfl) (i := 14) (v := .bool true) (d := some 26) (by kernel_rfl) rfl rfl (by kernel_rfl) (by kernel_rfl) (by kernel_rfl) (fun _ _ _ h => h) hS0 (Or.inl ⟨by rfl, fun w hSw => ?_⟩) ?_
        · obtain ⟨s0, s1, s2, s3, s4, s5, s6, s7, s8, s9⟩ := hSw
          go_simp
          all_goals (try (first | with_reducible rfl | omega))
        try simp only [Act.put]
        try simp only [List.setIfInBounds_toArray]
        try simp only [List.set_cons_zero, List.set_cons_succ]
        refine anyH_take hF (by kernel_rfl) (i := 15) (v := .bool true) (d := some 27) (by kernel_rfl) rfl rfl (by kernel_rfl) (by kernel_rfl) (by kernel_rfl) (fun _ _ _ h => h) hS0 (Or.inl ⟨by rfl, fun w hSw => ?_⟩) ?_
        · obtain ⟨s0, s1, s2, s3, s4, s5, s6, s7, s8, s9⟩ := hSw
          go_simp
          all_goals (try (first | with_reducible rfl | omega))
        try simp only [Act.put]
        try simp only [List.setIfInBounds_toArray]
        try simp only [List.set_cons_zero, List.set_cons_succ]
        refine anyH_take hF (by kernel_rfl) (i := 16) (v := undef) (d := some 28) (by kernel_rfl) rfl rfl (by kernel_rfl) (by kernel_rfl) (by kernel_rfl) (fun _ _ _ h => h) hS0 (Or.inr ⟨by rfl, rfl⟩) ?_
        try simp only [Act.put]
        try simp only [List.setIfInBounds_toArray]
        try simp only [List.set_cons_zero, List.set_cons_succ]
        refine anyH_take hF (by kernel_rfl) (i := 17) (v := undef) (d := some 29) (by kernel_rfl) rfl rfl (by kernel_rfl) (by kernel_rfl) (by kernel_rfl) (fun _ _ _ h => h) hS0 (Or.inr ⟨by rfl, rfl⟩) ?_
        try simp only [Act.put]
        try simp only [List.setIfInBounds_toArray]
        try simp only [List.set_cons_zero, List.set_cons_succ]
        refine anyH_take hF (by kernel_rfl) (i := 18) (v := undef) (d := some 30) (by kernel_rfl) rfl rfl (by kernel_rfl) (by kernel_rfl) (by kernel_rfl) (fun _ _ _ h => h) hS0 (Or.inr ⟨by rfl, rfl⟩) ?_
        try simp only [Act.put]
        try simp only [List.setIfInBounds_toArray]
        try simp only [List.set_cons_zero, List.set_cons_succ]
        refine anyH_take hF (by kernel_rfl) (i := 19) (v := undef) (d := some 31) (by kernel_rfl) rfl rfl (by kernel_rfl) (by kernel_rfl) (by kernel_rfl) (fun _ _ _ h => h) hS0 (Or.inr ⟨by rfl, rfl⟩) ?_
        try simp only [Act.put]
        try simp only [List.setIfInBounds_toArray]
        try simp only [List.set_cons_zero, List.set_cons_succ]
        refine anyH_take hF (by kernel_rfl) (i := 20) (v := undef) (d := some 32) (by kernel_rfl) rfl rfl (by kernel_rfl) (by kernel_rfl) (by kernel_rfl) (fun _ _ _ h => h) hS0 (Or.inr ⟨by rfl, rfl⟩) ?_
        try simp only [Act.put]
        try simp only [List.setIfInBounds_toArray]
        try simp only [List.set_cons_zero, List.set_cons_succ]
        refine anyH_take hF (by kernel_rfl) (i := 21) (v := undef) (d := some 33) (by kernel_rfl) rfl rfl (by kernel_rfl) (by kernel_rfl) (by kernel_rfl) (fun _ _ _ h => h) hS0 (Or.inr ⟨by rfl, rfl⟩) ?_
        try simp only [Act.put]
        try simp only [List.setIfInBounds_toArray]
        try simp only [List.set_cons_zero, List.set_cons_succ]
        refine anyH_take hF (by kernel_rfl) (i := 22) (v := undef) (d := some 34) (by kernel_rfl) rfl rfl (by kernel_rfl) (by kernel_rfl) (by kernel_rfl) (fun _ _ _ h => h) hS0 (Or.inr ⟨by rfl, rfl⟩) ?_
        try simp only [Act.put]
        try simp only [List.setIfInBounds_toArray]
        try simp only [List.set_cons_zero, List.set_cons_succ]
        refine anyH_take hF (by kernel_rfl) (i := 23) (v := undef) (d := some 35) (by kernel_rfl) rfl rfl (by kernel_rfl) (by kernel_rfl) (by kernel_rfl) (fun _ _ _ h => h) hS0 (Or.inr ⟨by rfl, rfl⟩) ?_
        try simp only [Act.put]
        try simp only [List.setIfInBounds_toArray]
        try simp only [List.set_cons_zero, List.set_cons_succ]
        refine anyH_take hF (by kernel_rfl) (i := 24) (v := undef) (d := some 36) (by kernel_rfl) rfl rfl (by kernel_rfl) (by kernel_rfl) (by kernel_rfl) (fun _ _ _ h => h) hS0 (Or.inr ⟨by rfl, rfl⟩) ?_
        try simp only [Act.put]
        try simp only [List.setIfInBounds_toArray]
        try simp only [List.set_cons_zero, List.set_cons_succ]
        refine anyH_take hF (by kernel_rfl) (i := 25) (v := undef) (d := some 37) (by kernel_rfl) rfl rfl (by kernel_rfl) (by kernel_rfl) (by kernel_rfl) (fun _ _ _ h => h) hS0 (Or.inr ⟨by rfl, rfl⟩) ?_
        try simp only [Act.put]
        try simp only [List.setIfInBounds_toArray]
        try simp only [List.set_cons_zero, List.set_cons_succ]
        refine anyH_take hF (by kernel_rfl) (i := 26) (v := undef) (d := some 38) (by kernel_rfl) rfl rfl (by kernel_rfl) (by kernel_rfl) (by kernel_rfl) (fun _ _ _ h => h) hS0 (Or.inr ⟨by rfl, rfl⟩) ?_
        try simp only [Act.put]
        try simp only [List.setIfInBounds_toArray]
        try simp only [List.set_cons_zero, List.set_cons_succ]
        refine anyH_take hF (by kernel_rfl) (i := 27) (v := .bool true) (d := some 39) (by kernel_rfl) rfl rfl (by kernel_rfl) (by kernel_rfl) (by kernel_rfl) (fun _ _ _ h => h) hS0 (Or.inl ⟨by rfl, fun w hSw => ?_⟩) ?_
        · obtain ⟨s0, s1, s2, s3, s4, s5, s6, s7, s8, s9⟩ := hSw
          go_simp
          all_goals (try (first | with_reducible rfl | omega))
        try simp only [Act.put]
        try simp only [List.setIfInBounds_toArray]
        try simp only [List.set_cons_zero, List.set_cons_succ]
        refine anyH_done (by kernel_rfl) ?_ _
        gi_wp2
        refine bodyPost_ret (results_none rfl _ _ _) rfl ?_
        exact ⟨⟨_, rfl⟩, .inl ⟨_, rfl, HJ2.out⟩⟩
    · have hlt : ¬ (((a + m : Nat) : Int) < (N.length : Int)) := by omega
      have HJ2 : Hid (J (tellNC N a (e - a)) wr) := by
        rw [show e - a = m by have := hE.le; omega]; exact hJs
      clear hJs hY hD
      gi_wp2_with (gi_at_call 116; refine (size_inC F (n - 1) hF hro _ _ _ _ hT1).mono ?_; rintro e w' ⟨rfl, hw'⟩; replace hw' := hw'.symm; subst hw')
      go_end0
      exact ⟨⟨_, rfl⟩, .inl ⟨_, rfl, HJ2.out⟩⟩
theorem below_inC (F : Fence) (n : Nat) (hF : ∀ f, F.fn f) (hro : F.round = none) (p : Option Addr) (a : Int) (w : World) :
    CallsIn F n Tryz.prog 213 #[.pointer p, .int .i64 a] w fun e w' => e = .returned (.func (.func 233) #[] #[.pointer (some ⟨w.heap.size + 1, 0, none⟩), .pointer (some ⟨w.heap.size, 0, none⟩)]) ∧
      w' = (w.alloc (.cells #[.pointer p] 87)).alloc (.cells #[.int .i64 a] 2) := by
  refine callsIn_of_wp Tryz.func213 rfl (hF _) ?_ hro
  simp only [Tryz.ntmps213, List.size_toArray, List.length_cons, List.length_nil, Nat.reduceAdd, Nat.reduceSub, Array.replicate_succ, Array.replicate_zero, List.push_toArray, List.append_toArray, List.nil_append, List.cons_append]
  gi_wp2
  go_ret
  exact ⟨rfl, rfl⟩
/-- What is told of a node: a place and a node with a name that is no longer than a text may be, on a place that there is. -/
def PdNC (x : Int × (Cor × Value)) : Prop := x.2.1.name.size ≤ 1048576 ∧ -1 ≤ x.2.1.parent ∧ x.2.1.parent < 1000 ∧ ∃ da dn dc, x.2.2 = .slice da dn dc
abbrev ToldC := { x : Int × (Cor × Value) // PdNC x }
theorem map_lastC {pre : List (Int × (Cor × Value))} {x : Int × (Cor × Value)} {P : List ToldC} {y : ToldC} (h : P.map Subtype.val = pre) (hy : y.1 = x) : (P ++ [y]).map Subtype.val = pre ++ [x] := by rw [List.map_append, h, ← hy]; rfl
theorem told_ltC {N : List (Cor × Value)} {a m : Nat} {P : List ToldC} {x : ToldC} (h : (P ++ [x]).map Subtype.val <+: tellNC N a m) (hm : a + m ≤ N.length) : P.length < m := by
  have h1 := h.length_le
  rw [tellN_lenC N a m hm] at h1
  simp at h1
  omega
theorem below_seqC (F : Fence) (n : Nat) (hF : ∀ f, F.fn f) (hro : F.round = none) (hn : 2 ≤ n) (ba bt n₀ lo hi tb B : Nat) (N : List (Cor × Value)) (a e : Nat) (hE : EndAtC N a e) (hN : N.length ≤ 1000) (hPd : ∀ (k : Nat) (h : k < N.length), PdNC ((k : Int), N[k])) (w : World) (hn₀ : n₀ ≤ w.heap.size)
    (hBa : w.cell? ⟨ba, 0, none⟩ = some (.int .i64 (a : Int))) (hBt : w.cell? ⟨bt, 0, none⟩ = some (.pointer (some ⟨tb, 0, none⟩))) (hlo : lo ≤ bt) (hhi : bt < hi) (hlo2 : lo ≤ ba) (hhi2 : ba < hi) (hhi3 : hi ≤ w.heap.size) (hT : IsTreeC n₀ w tb N) :
    SeqO F n Tryz.prog 233 #[.pointer (some ⟨ba, 0, none⟩), .pointer (some ⟨bt, 0, none⟩)] (fun x : ToldC => encNC x.1) B 0 (Kpx n₀ lo hi) (fun ys => ys.map Subtype.val = tellNC N a (e - a)) (fun pre => pre.map Subtype.val <+: tellNC N a (e - a)) (fun pre x => (pre ++ [x]).map Subtype.val <+: tellNC N a (e - a)) w := fun l J Jx W hWB hW hJ _ hY h0 => by
  refine (below1_inC F n hF hro hn l ba bt n₀ lo hi tb N a e hE hN (fun pre W => ∃ P : List ToldC, P.map Subtype.val = pre ∧ J P W ∧ B ≤ W.heap.size) (fun pre W => ∃ P : List ToldC, P.map Subtype.val = pre ∧ Jx P W) PdNC hPd ?_ ?_ W
    ((hW.cell (p := ⟨ba, 0, none⟩) (by show ba < _; omega)).trans hBa) ((hW.cell (p := ⟨bt, 0, none⟩) (by show bt < _; omega)).trans hBt) hlo hhi hlo2 hhi2 (hT.below (hW.mono hn₀)) ⟨[], rfl, h0, by omega⟩).mono ?_
  · rintro pre x W1 hx ⟨P, hP, hJ1, hs1⟩ hlen
    refine (hY P ⟨x, hx⟩ W1 hJ1 (by show List.map Subtype.val (P ++ [(⟨x, hx⟩ : ToldC)]) <+: _; rw [map_lastC hP rfl]; exact hlen) (by omega)).mono ?_
    rintro r W' ⟨⟨h1, h2⟩ | ⟨h1, h2⟩, h3, h4⟩
    · exact ⟨.inl ⟨h1, _, map_lastC hP rfl, h2, Nat.le_trans hs1 h4.size⟩, h3⟩
    · exact ⟨.inr ⟨h1, _, map_lastC hP rfl, h2⟩, h3⟩
  · rintro pre W1 ⟨P, hP, hJ1, hs1⟩
    exact ⟨P, hP, hJ P W1 _ none hJ1 ⟨rfl, rfl, rfl, Nat.le_refl _, fun _ _ _ => rfl⟩ (fun r e => by cases e), hs1⟩
  · rintro r W' ⟨hv, ⟨ys, rfl, P, hP, hJ1, _⟩ | ⟨pre, hpre, P, rfl, hJ1⟩⟩
    · exact ⟨hv, .inl ⟨P, hP, hJ1⟩⟩
    · exact ⟨hv, .inr ⟨P, hpre, hJ1⟩⟩
end Go.Proofs.YtebnonpdaddniaaGreatDoor
/-
  The program's iterator kids over a tree of cores, which ranges over below: the places of the kids of a place; nothing that was there is turned.
-/
namespace Go.Proofs.YtebnonpdaddniaaGreatDoor
open Go.RowKit Go.Extern.Stop Go.Stop Go.Extern Num Go.Lib Go.Shelf
attribute [local go_sem] Oper.semAt_some

/-- The places of what is told that hang on a place itself. -/
def kidsTC (a : Int) (P : List (Int × (Cor × Value))) : List Int := (P.filter fun x => x.2.1.parent == a).map (·.1)
theorem kidsT_hitC (a : Int) (P : List (Int × (Cor × Value))) (x : Int × (Cor × Value)) (h : (x.2.1.parent == a) = true) : kidsTC a (P ++ [x]) = kidsTC a P ++ [x.1] := by simp [kidsTC, h]
theorem kidsT_missC (a : Int) (P : List (Int × (Cor × Value))) (x : Int × (Cor × Value)) (h : (x.2.1.parent == a) = false) : kidsTC a (P ++ [x]) = kidsTC a P := by simp [kidsTC, h]
theorem kidsT_lenC (a : Int) (P : List (Int × (Cor × Value))) : (kidsTC a P).length ≤ P.length := by
  unfold kidsTC; rw [List.length_map]; exact List.length_filter_le _ _
theorem kidsT_preC {a : Int} {P R : List (Int × (Cor × Value))} (h : P <+: R) : kidsTC a P <+: kidsTC a R := by
  obtain ⟨t, rfl⟩ := h
  unfold kidsTC
  rw [List.filter_append, List.map_append]
  exact List.prefix_append _ _
theorem kids_inC (F : Fence) (n : Nat) (hF : ∀ f, F.fn f) (hro : F.round = none) (p : Option Addr) (a : Int) (w : World) :
    CallsIn F n Tryz.prog 186 #[.pointer p, .int .i64 a] w fun e w' => e = .returned (.func (.func 212) #[] #[.pointer (some ⟨w.heap.size, 0, none⟩), .pointer (some ⟨w.heap.size + 1, 0, none⟩)]) ∧
      w' = (w.alloc (.cells #[.pointer p] 87)).alloc (.cells #[.int .i64 a] 2) := by
  refine callsIn_of_wp Tryz.func186 rfl (hF _) ?_ hro
  simp only [Tryz.ntmps186, List.size_toArray, List.length_cons, List.length_nil, Nat.reduceAdd, Nat.reduceSub, Array.replicate_succ, Array.replicate_zero, List.push_toArray, List.append_toArray, List.nil_append, List.cons_append]
  gi_wp2
  go_ret
  exact ⟨rfl, rfl⟩
/-- The temporaries of a round of kids. -/
abbrev actKC (bt ba A tb Bx l : Nat) (a : Int) (x : Int × (Cor × Value)) : Act := { tmps := #[.func (.yield l) #[] #[], .pointer (some ⟨bt, 0, none⟩), .pointer (some ⟨ba, 0, none⟩), .pointer (some ⟨A, 0, none⟩), .int .i64 x.1, .pointer (some ⟨Bx, 0, none⟩), .pointer (some ⟨tb, 0, none⟩), .int .i64 a, .func (.func 233) #[] #[.pointer (some ⟨A + 1 + 1, 0, none⟩), .pointer (some ⟨A + 1, 0, none⟩)], .int .i64 x.1, .agg #[.int .i64 x.2.1.parent, .int .i64 x.2.1.kind, .int .i64 x.2.1.parent, .int .i64 x.2.1.a, .int .i64 x.2.1.b, .string x.2.1.name, x.2.2], undef, undef, undef, undef, undef, undef, undef, undef, undef, undef], defers := [] }
set_option maxRecDepth 100000 in
set_option maxHeartbeats 4000000 in
theorem kids_seqC (n : Nat) (hn : 5 ≤ n) (ba bt n₀ lo hi tb B : Nat) (N : List (Cor × Value)) (a e : Nat) (hE : EndAtC N a e) (hN : N.length ≤ 1000) (hPd : ∀ (k : Nat) (h : k < N.length), PdNC ((k : Int), N[k])) (w : World) (hn₀ : n₀ ≤ w.heap.size)
    (hBa : w.cell? ⟨ba, 0, none⟩ = some (.int .i64 (a : Int))) (hBt : w.cell? ⟨bt, 0, none⟩ = some (.pointer (some ⟨tb, 0, none⟩))) (hhi : bt < hi) (hlo2 : lo ≤ ba) (hhi2 : ba < hi) (hhi3 : hi ≤ w.heap.size) (hT : IsTreeC n₀ w tb N) :
    SeqO Fence.wide n Tryz.prog 212 #[.pointer (some ⟨bt, 0, none⟩), .pointer (some ⟨ba, 0, none⟩)] (fun x : Int => #[Value.int .i64 x]) B 5 (Kpk n₀ lo hi B 5) (fun ys => ys = kidsTC a (tellNC N a (e - a))) (fun pre => pre <+: kidsTC a (tellNC N a (e - a))) (fun pre x => pre ++ [x] <+: kidsTC a (tellNC N a (e - a))) w := fun l J Jx W hWB hW hJ hJx hY h0 => by
  have h1 : 1 ≤ n := by omega
  have hF : ∀ f, Fence.wide.fn f := fun _ => trivial
  subst hWB
  have hws := hW.size
  have hlb : bt < W.heap.size := by omega
  have hla : ba < W.heap.size := by omega
  have ca : W.cell? ⟨ba, 0, none⟩ = some (.int .i64 (a : Int)) := (hW.cell (p := ⟨ba, 0, none⟩) (by show ba < _; omega)).trans hBa
  have ct : W.cell? ⟨bt, 0, none⟩ = some (.pointer (some ⟨tb, 0, none⟩)) := (hW.cell (p := ⟨bt, 0, none⟩) (by show bt < _; omega)).trans hBt
  have hTW := hT.below (hW.mono hn₀)
  show CallsIn Fence.wide n Tryz.prog _ #[.func (.yield l) #[] #[], .pointer (some ⟨bt, 0, none⟩), .pointer (some ⟨ba, 0, none⟩)] W _
  refine callsIn_of_wp_marks Tryz.func212 rfl (hF _) ?_ rfl
  simp only [Tryz.ntmps212, List.size_toArray, List.length_cons, List.length_nil, Nat.reduceAdd, Nat.reduceSub, Array.replicate_succ, Array.replicate_zero, List.push_toArray, List.append_toArray, List.nil_append, List.cons_append]
  gi_wp2_with (gi_at_call 213; refine (below_inC Fence.wide (n - 1) hF rfl _ _ _).mono ?_; rintro e w' ⟨rfl, rfl⟩)
  have c0 := Boxed.new W 116 (.func (.yield l) #[] #[])
  have c1 := Boxed.new (W.alloc (.cells #[.func (.yield l) #[] #[]] 116)) 87 (.pointer (some ⟨tb, 0, none⟩))
  have c2 := Boxed.new ((W.alloc (.cells #[.func (.yield l) #[] #[]] 116)).alloc (.cells #[.pointer (some ⟨tb, 0, none⟩)] 87)) 2 (.int .i64 (a : Int))
  simp only [World.size_alloc] at c1 c2
  have hB0 : Below W.heap.size W (((W.alloc (.cells #[.func (.yield l) #[] #[]] 116)).alloc (.cells #[.pointer (some ⟨tb, 0, none⟩)] 87)).alloc (.cells #[.int .i64 (a : Int)] 2)) := (((Below.refl _ W).alloc (Nat.le_refl _) _).alloc (by simp) _).alloc (by simp; omega) _
  have hsz3 : (((W.alloc (.cells #[.func (.yield l) #[] #[]] 116)).alloc (.cells #[.pointer (some ⟨tb, 0, none⟩)] 87)).alloc (.cells #[.int .i64 (a : Int)] 2)).heap.size = W.heap.size + 3 := by simp
  refine range_own rfl h1 (gf := 233) (lb := #[.pointer (some ⟨W.heap.size + 1 + 1, 0, none⟩), .pointer (some ⟨W.heap.size + 1, 0, none⟩)]) rfl (hF _) (enters_of Tryz.func233 (by kernel_rfl) rfl)
    (below_seqC Fence.wide (n - 1) hF rfl (by omega) (W.heap.size + 1 + 1) (W.heap.size + 1) n₀ (W.heap.size + 1) (W.heap.size + 1 + 1 + 1) tb _ N a e hE hN hPd _ (by simp; omega) c2.cell (c1.alloc _).cell (Nat.le_refl _) (by omega) (by omega) (by omega) (by simp) (hTW.below (hB0.mono (by omega)))) kpx_t
    (fun X o o' g1 g2 g3 => kpx_b (w := (((W.alloc (.cells #[.func (.yield l) #[] #[]] 116)).alloc (.cells #[.pointer (some ⟨tb, 0, none⟩)] 87)).alloc (.cells #[.int .i64 (a : Int)] 2))) (by simp; omega) (by simp) X _ o o' (by omega) g1 g2 g3) (Below.refl _ _) (fun _ => rfl)
    (fun P X => J (kidsTC a (P.map Subtype.val)) X ∧ X.cell? ⟨ba, 0, none⟩ = some (.int .i64 (a : Int)) ∧ Boxed X W.heap.size 116 (.func (.yield l) #[] #[]) ∧ Boxed X (W.heap.size + 1 + 1) 2 (.int .i64 (a : Int)))
    (fun c P X => c = .ret ∧ Jx (kidsTC a (P.map Subtype.val)) X)
    (OwnFrom.and (fun s A B row hs hg hr => OwnFrom.mono' hJ (by simp; omega) _ A B row hs hg hr) (OwnFrom.and (Own.from (fun s A B row hs hg hr => cell_kept hs hg hr) _) (OwnFrom.and (Own.from (boxed_own _ _ _) _) (Own.from (boxed_own _ _ _) _))))
    (fun c s A B row hs hg hr => ⟨hs.1, OwnFrom.mono' hJx (by simp; omega) _ A B row hs.2 hg hr⟩)
    ⟨hJ.alloc _ (hJ.alloc _ (hJ.alloc _ h0)), cell_laid _ (cell_laid _ (cell_laid _ ca)), (c0.alloc _).alloc _, c2⟩
    (fun x a' X => ∃ Bx, X.heap[Bx]? = some (.cells #[.int .i64 x.1.2.1.parent, .int .i64 x.1.2.1.kind, .int .i64 x.1.2.1.parent, .int .i64 x.1.2.1.a, .int .i64 x.1.2.1.b, .string x.1.2.1.name, x.1.2.2] 118 (0, 0)) ∧ a' = actKC bt ba W.heap.size tb Bx l (a : Int) x.1)
    (fun x a' s X X' row hs hg hr => by obtain ⟨Bx, h2, h3⟩ := hs; exact ⟨Bx, ownFrom_block _ Bx _ rfl s X X' row h2 hg hr, h3⟩) ?assign ?body ?done ?stop
  case assign =>
    rintro l' pre ⟨⟨z, t, tv⟩, hx⟩ X K ⟨hJ1, hca, hb, hb2⟩ hK
    obtain ⟨da, dn, dc, e⟩ := hx.2.2.2
    dsimp only at e
    subst e
    have hlt := hb2.lt
    gi_wp2
    exact hK _ _ ((KeepsOthers.alloc _ _).from _) (kpx_below ((Below.refl _ _).alloc (Nat.le_refl _) _) (by omega) (by omega)) ⟨hJ.alloc _ hJ1, cell_laid _ hca, hb.alloc _, hb2.alloc _⟩ ⟨X.heap.size, World.alloc_heap_new _ _, rfl⟩
  case body =>
    rintro l' pre ⟨⟨z, t⟩, hx⟩ a' X ⟨hJ1, hca, hb, hb2⟩ ⟨Bx, hn0, rfl⟩ hpx hmm
    have hmm' : W.heap.size + 5 ≤ X.heap.size := by simp at hmm; omega
    have d0 : X.cell? ⟨Bx, 0, none⟩ = some (.int .i64 t.1.parent) := (cell_of_row X Bx 0 _ _ _ hn0).trans rfl
    have hcy := hb.cell
    have h3 : 1 ≤ n - 1 - 1 := by omega
    have em : (pre ++ [(⟨(z, t), hx⟩ : ToldC)]).map Subtype.val = pre.map Subtype.val ++ [(z, t)] := by simp
    cases hpa : (t.1.parent == (a : Int)) with
    | true =>
      have ek : kidsTC a ((pre ++ [(⟨(z, t), hx⟩ : ToldC)]).map Subtype.val) = kidsTC a (pre.map Subtype.val) ++ [z] := by rw [em, kidsT_hitC _ _ _ hpa]
      have hlen : kidsTC a (pre.map Subtype.val) ++ [z] <+: kidsTC a (tellNC N a (e - a)) := by rw [← ek]; exact kidsT_preC hpx
      obtain ⟨fn, tmps, assign, body, hy, hR⟩ := hY _ z X hJ1 hlen hmm'
      have hR' := (roundIn_any (m := n - 1 - 1 - 1) (l' := l') hR).mono (R' := fun r X' => ∃ b, r = .returned (.bool b) ∧ (((b = true ∧ J (kidsTC a (pre.map Subtype.val) ++ [z]) X') ∨ (b = false ∧ Jx (kidsTC a (pre.map Subtype.val) ++ [z]) X')) ∧ Kpk n₀ lo hi W.heap.size 5 X X' ∧ KeepsFrom W.heap.size X X'))
        (fun r X' h => by
          obtain ⟨⟨g1, g2⟩ | ⟨g1, g2⟩, g3, g4⟩ := h
          · exact ⟨true, g1, .inl ⟨rfl, g2⟩, g3, g4⟩
          · exact ⟨false, g1, .inr ⟨rfl, g2⟩, g3, g4⟩)
      have HE : Hid (kidsTC a ((pre ++ [(⟨(z, t), hx⟩ : ToldC)]).map Subtype.val) = kidsTC a (pre.map Subtype.val) ++ [z]) := ek
      clear hR ek em hY
      gi_wp2_with (refine hR'.mono ?_; rintro r X' ⟨b, rfl, hpost, hk, hf⟩; cases b)
      · have hJx1 := hpost.elim (fun h => absurd h.1 (by simp)) (fun h => h.2)
        exact ⟨keepsFrom_mono hf (by simp; omega), ⟨hk.1.1, fun b l1 l2 => hk.2 b (by omega) (by omega)⟩, rfl, by rw [HE.out]; exact hJx1⟩
      · have hJ3 := hpost.elim (fun h => h.2) (fun h => absurd h.1 (by simp))
        exact ⟨keepsFrom_mono hf (by simp; omega), ⟨hk.1.1, fun b l1 l2 => hk.2 b (by omega) (by omega)⟩, by rw [HE.out]; exact hJ3, (hk.1.cell hlo2 hhi2).trans hca, (hk.2 _ (Nat.le_refl _) (by omega)).trans hb, (hk.2 _ (by omega) (by omega)).trans hb2⟩
    | false =>
      have ek : kidsTC a ((pre ++ [(⟨(z, t), hx⟩ : ToldC)]).map Subtype.val) = kidsTC a (pre.map Subtype.val) := by rw [em, kidsT_missC _ _ _ hpa]
      have HE : Hid (kidsTC a ((pre ++ [(⟨(z, t), hx⟩ : ToldC)]).map Subtype.val) = kidsTC a (pre.map Subtype.val)) := ek
      clear ek em hY
      gi_wp2
      exact ⟨KeepsFrom.refl _ _, kpx_refl _ _ _ _, by rw [HE.out]; exact hJ1, hca, hb, hb2⟩
  case done =>
    rintro D P X hD hP ⟨hJ1, -⟩ hK
    gi_wp2
    refine ⟨by simp, .inl ⟨_, _, rfl, run_takeDeferred hK, ?_⟩⟩
    refine ⟨_, results_none rfl _ _ _, ⟨_, rfl⟩, .inl ⟨_, rfl, ?_⟩⟩
    rw [← hP]
    exact hJ.putObj _ hJ1 (by simp at hD; omega) hK rfl
  case stop =>
    rintro D c P X hD hP ⟨rfl, hJ1⟩ hK
    gi_wp2
    refine ⟨by simp, .inl ⟨_, _, rfl, run_takeDeferred hK, ?_⟩⟩
    exact ⟨_, results_none rfl _ _ _, ⟨_, rfl⟩, .inr ⟨_, kidsT_preC hP, hJx.putObj _ hJ1 (by simp at hD; omega) hK rfl⟩⟩
end Go.Proofs.YtebnonpdaddniaaGreatDoor
