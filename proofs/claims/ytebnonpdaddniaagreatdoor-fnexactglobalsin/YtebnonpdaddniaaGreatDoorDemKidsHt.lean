/-
  Parts of the proof laid into one text, one behind the other; each says at its head what is proved in it.
-/
import Derived.Test.YtebnonpdaddniaaGreatDoorParamsCHt
import Derived.Test.YtebnonpdaddniaaGreatDoorPanicKHt
/-
  The program's demandKids: whether a core has as many kids as its kind asks; nothing that was there is turned.
-/
namespace Go.Proofs.YtebnonpdaddniaaGreatDoor
open Go.RowKit Go.Extern.Stop Go.Stop Go.Extern Num Go.Lib Go.Shelf
attribute [local go_sem] Oper.semAt_some

/-- What a demand comes to: nothing, or the panic that carries a code. -/
def AnsDm (c : Int) (w : World) (e : Ending) (w' : World) : Prop := ((c = 0 ∧ e = .returned (.tuple #[])) ∨ (c ≠ 0 ∧ e = .panicked (pan c))) ∧ Below w.heap.size w w'
theorem demand_any (b : Bool) (c : Int) (w : World) : Calls Tryz.prog 115 #[.bool b, .int .i64 c] w fun e w' => e = (if b = true then .returned (.tuple #[]) else .panicked (pan c)) ∧ w' = w := by
  cases b
  · exact demand_no c w
  · exact demand_yes c w
/-- The temporaries of a round. -/
abbrev actDK (s tb : Nat) (a x : Int) : Act := { tmps := #[.pointer (some ⟨tb, 0, none⟩), .int .i64 a, undef, undef, .pointer (some ⟨s, 0, none⟩), undef, undef, .pointer (some ⟨tb, 0, none⟩), .int .i64 a, .func (.func 212) #[] #[.pointer (some ⟨s + 1, 0, none⟩), .pointer (some ⟨s + 1 + 1, 0, none⟩)], .int .i64 x, undef, undef, undef, undef, undef, undef, undef, undef, undef, undef, undef, undef, undef, undef, undef, undef, undef, undef, undef, undef, undef, undef, undef, undef], defers := [] }
set_option maxRecDepth 100000 in
set_option maxHeartbeats 4000000 in
theorem demandKids_in (n : Nat) (hn : 8 ≤ n) (tb : Nat) (N : List (Cor × Value)) (a e : Nat) (K : Nat) (k0 C : Int) (hC : C = if manyK k0 K = true then 0 else 1) (hE : EndAtC N a e) (hN : N.length ≤ 1000) (hPd : ∀ (k : Nat) (h : k < N.length), PdNC ((k : Int), N[k])) (hK : (kidsTC (a : Int) (tellNC N a (e - a))).length = K) (hk0 : ∀ h : a < N.length, N[a].1.kind = k0) (w : World) (hT : IsTreeC w.heap.size w tb N) :
    CallsIn Fence.wide n Tryz.prog 143 #[.pointer (some ⟨tb, 0, none⟩), .int .i64 (a : Int)] w fun r W' => AnsDm C w r W' := by
  have h1 : 1 ≤ n := by omega
  have hF : ∀ f, Fence.wide.fn f := fun _ => trivial
  have hel := hE.le
  have hal := hE.lt
  refine callsIn_of_wp_marks Tryz.func143 rfl (hF _) ?_ rfl
  simp only [Tryz.ntmps143, List.size_toArray, List.length_cons, List.length_nil, Nat.reduceAdd, Nat.reduceSub, Array.replicate_succ, Array.replicate_zero, List.push_toArray, List.append_toArray, List.nil_append, List.cons_append]
  gi_wp2_with (first | (gi_at_call 186; refine (kids_inC Fence.wide (n - 1) hF rfl _ _ _).mono ?_; rintro e w' ⟨rfl, rfl⟩))
  have c0 := Boxed.new w 2 (.int .i64 0)
  have c1 := Boxed.new (w.alloc (.cells #[.int .i64 0] 2)) 87 (.pointer (some ⟨tb, 0, none⟩))
  have c2 := Boxed.new ((w.alloc (.cells #[.int .i64 0] 2)).alloc (.cells #[.pointer (some ⟨tb, 0, none⟩)] 87)) 2 (.int .i64 (a : Int))
  simp only [World.size_alloc] at c1 c2
  have hB0 : Below w.heap.size w (((w.alloc (.cells #[.int .i64 0] 2)).alloc (.cells #[.pointer (some ⟨tb, 0, none⟩)] 87)).alloc (.cells #[.int .i64 (a : Int)] 2)) := (((Below.refl _ w).alloc (Nat.le_refl _) _).alloc (by simp) _).alloc (by simp; omega) _
  refine range_own rfl h1 (gf := 212) (lb := #[.pointer (some ⟨w.heap.size + 1, 0, none⟩), .pointer (some ⟨w.heap.size + 1 + 1, 0, none⟩)]) rfl (hF _) (enters_of Tryz.func212 (by kernel_rfl) rfl)
    (kids_seqC (n - 1) (by omega) (w.heap.size + 1 + 1) (w.heap.size + 1) w.heap.size (w.heap.size + 1) (w.heap.size + 1 + 1 + 1) tb _ N a e hE hN hPd _ (by simp; omega) c2.cell (c1.alloc _).cell (by omega) (by omega) (by omega) (by simp) (hT.below hB0))
    (fun h k => ⟨kpx_t h.1 k.1, fun b l1 l2 => (k.2 b l1 l2).trans (h.2 b l1 l2)⟩)
    (fun X o o' g1 g2 g3 => ⟨kpx_b (w := ((w.alloc (.cells #[.int .i64 0] 2)).alloc (.cells #[.pointer (some ⟨tb, 0, none⟩)] 87)).alloc (.cells #[.int .i64 (a : Int)] 2)) (by simp; omega) (by simp) X _ o o' (by simp) g1 g2 g3, fun b l1 l2 => World.putObj_heap_other (by simp at l1 ⊢; omega)⟩) (Below.refl _ _) (fun _ => rfl)
    (fun P X => Boxed X w.heap.size 2 (.int .i64 (P.length : Nat)) ∧ Below w.heap.size w X)
    (fun _ _ _ => False)
    (OwnFrom.and (fun s A B row hs hg hr => (Own.from (boxed_own _ _ _) _ : OwnFrom _ (fun (_ : Unit) X => Boxed X w.heap.size 2 (.int .i64 (s.length : Nat)))) () A B row hs hg hr) (ownFrom_below (Nat.le_refl _) (by simp; omega)))
    (fun _ _ _ _ _ hs _ _ => hs)
    ⟨(c0.alloc _).alloc _, hB0⟩
    (fun x a' _ => a' = actDK w.heap.size tb (a : Int) x) (fun x a' s X X' row hs _ _ => hs) ?assign ?body ?done ?stop
  case assign =>
    intro l' pre x W Kc hI hKc
    gi_wp2
    exact hKc _ _ (KeepsFrom.refl _ _) ⟨kpx_refl _ _ _ _, fun _ _ _ => rfl⟩ hI (by simp)
  case body =>
    rintro l' pre x a' W ⟨hv, hB⟩ rfl hpx hmm
    have hlt : pre.length < 1000 := by
      have h1 := hpx.length_le
      have h2 := kidsT_lenC a (tellNC N a (e - a))
      rw [tellN_lenC N a _ (by omega)] at h2
      simp at h1
      omega
    have hc := hv.cell
    have hf := hv.frozen
    have hl := hv.lt
    simp at hmm
    gi_wp2
    refine ⟨(KeepsOthers.setCell _ _ _).from _, ⟨⟨(Below.refl _ W).setCell (p := ⟨w.heap.size, 0, none⟩) (Nat.le_refl _) _, fun b l1 l2 => Below.heap_setCell W ⟨w.heap.size, 0, none⟩ _ b (by intro e'; have : b = w.heap.size := e'; omega)⟩, fun b l1 l2 => Below.heap_setCell W ⟨w.heap.size, 0, none⟩ _ b (by intro e'; have : b = w.heap.size := e'; simp at l1; omega)⟩, ?_, hB.setCell (p := ⟨w.heap.size, 0, none⟩) (Nat.le_refl _) _⟩
    have := hv.set (.int .i64 ((pre ++ [x]).length : Nat))
    simpa using this
  case done =>
    rintro D P X hD hPe ⟨hv, hB⟩ hKd
    have hlenP : P.length = K := by rw [hPe]; exact hK
    rw [hlenP] at hv
    have hc := hv.cell
    obtain ⟨ao, g, cap, hct, htb, hg, hao, hrow⟩ := hT.below hB
    have hk : a < N.length := by omega
    obtain rfl := hao (by intro h; rw [h] at hk; simp at hk)
    have hr1 := (hrow a hk).2.1
    rw [hk0 hk] at hr1
    have hK1000 : K ≤ 1000 := by
      have h2 := kidsT_lenC a (tellNC N a (e - a))
      rw [tellN_lenC N a _ (by omega), hK] at h2
      omega
    have HB : Hid (Below w.heap.size w X) := hB
    have HKd : Hid (X.heap[D]? = some (.deferred (some []))) := hKd
    have HD : Hid (w.heap.size ≤ D) := by show _ ≤ _; simp at hD; omega
    have HR : Hid (C = if (decide (leastK k0 ≤ (K : Int)) && decide ((K : Int) ≤ mostK k0)) = true then 0 else 1) := hC
    clear hB hKd hC hrow hao hE hPd hK hPe hT c0 c1 c2 hB0 hv hlenP hk0
    cases e1 : decide (leastK k0 ≤ (K : Int))
    · have h3 : ¬ leastK k0 ≤ (K : Int) := of_decide_eq_false e1
      rw [e1] at HR
      have HC : Hid (C = 1) := by show _ = _; rw [HR.out]; simp
      clear HR
      gi_wp2_with (first | (gi_at_call 120; refine ((callsIn_wide (n := n - 1)).2 (kidBounds_any _ _)).mono ?_; rintro e w' ⟨rfl, hw'⟩; replace hw' := hw'.symm; subst hw') | (gi_at_call 115; refine ((callsIn_wide (n := n - 1)).2 (demand_no _ _)).mono ?_; rintro e w' ⟨rfl, hw'⟩; replace hw' := hw'.symm; subst hw'))
      refine ⟨by simp, .inl ⟨_, _, rfl, run_takeDeferred HKd.out, ?_⟩⟩
      exact ⟨.inr ⟨by rw [HC.out]; decide, by rw [HC.out]⟩, HB.out.trans (belowK_b (w := w) (Nat.le_refl _) X D _ _ HD.out HKd.out rfl rfl)⟩
    · have h3 : leastK k0 ≤ (K : Int) := of_decide_eq_true e1
      rw [e1] at HR
      cases e2 : decide ((K : Int) ≤ mostK k0)
      · have h4 : ¬ (K : Int) ≤ mostK k0 := of_decide_eq_false e2
        rw [e2] at HR
        have HC : Hid (C = 1) := by show _ = _; rw [HR.out]; simp
        clear HR
        gi_wp2_with (first | (gi_at_call 120; refine ((callsIn_wide (n := n - 1)).2 (kidBounds_any _ _)).mono ?_; rintro e w' ⟨rfl, hw'⟩; replace hw' := hw'.symm; subst hw') | (gi_at_call 115; refine ((callsIn_wide (n := n - 1)).2 (demand_no _ _)).mono ?_; rintro e w' ⟨rfl, hw'⟩; replace hw' := hw'.symm; subst hw'))
        refine ⟨by simp, .inl ⟨_, _, rfl, run_takeDeferred HKd.out, ?_⟩⟩
        exact ⟨.inr ⟨by rw [HC.out]; decide, by rw [HC.out]⟩, HB.out.trans (belowK_b (w := w) (Nat.le_refl _) X D _ _ HD.out HKd.out rfl rfl)⟩
      · have h4 : (K : Int) ≤ mostK k0 := of_decide_eq_true e2
        rw [e2] at HR
        have HC : Hid (C = 0) := by show _ = _; rw [HR.out]; simp
        clear HR
        gi_wp2_with (first | (gi_at_call 120; refine ((callsIn_wide (n := n - 1)).2 (kidBounds_any _ _)).mono ?_; rintro e w' ⟨rfl, hw'⟩; replace hw' := hw'.symm; subst hw') | (gi_at_call 115; refine ((callsIn_wide (n := n - 1)).2 (demand_yes _ _)).mono ?_; rintro e w' ⟨rfl, hw'⟩; replace hw' := hw'.symm; subst hw'))
        refine ⟨by simp, .inl ⟨_, _, rfl, run_takeDeferred HKd.out, ?_⟩⟩
        exact ⟨_, results_none rfl _ _ _, .inl ⟨HC.out, rfl⟩, HB.out.trans (belowK_b (w := w) (Nat.le_refl _) X D _ _ HD.out HKd.out rfl rfl)⟩
  case stop =>
    rintro D c P X hD hP h hK
    exact h.elim
end Go.Proofs.YtebnonpdaddniaaGreatDoor
