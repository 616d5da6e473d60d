/-
  The program's segsOf and OpenSegs on pieces (since stage 14); nothing that was there is turned.
-/
import Derived.Test.YtdohpfckiahlcaaSgPcRev
import Derived.Test.YtdohpfckiahlcaaSgPcTrn
import Derived.Deep.RegionLaw
import Derived.Deep.RegionWith
namespace Go.Proofs.Ytdohpfckiahlcaa
open Go.RowKit Go.Extern.Stop Go.Stop Go.Extern Num Go.Lib

/-- The parts with their slices, the highest one first. -/
def prsP (C : List Fp) (top : List Int) (tv : Value) : List (List Int × Value) := (if top = [] then [] else [(top, tv)]) ++ C.map fun x => (x.items, x.val)
theorem farV_sym {x y : Value} (h : farV x y) : farV y x := fun g hg e => h g e hg
theorem prsP_pw {C : List Fp} {top : List Int} {tv : Value} (hfar : ∀ x ∈ C, farV x.val tv) (hap : AptC C) : (prsP C top tv).Pairwise fun a b => farV a.2 b.2 := by
  unfold prsP
  have h1 : (C.map fun x => (x.items, x.val)).Pairwise fun (a b : List Int × Value) => farV a.2 b.2 := by
    rw [List.pairwise_map]
    exact hap.imp fun h => farV_sym h
  by_cases h : top = []
  · rw [if_pos h]; exact h1
  · rw [if_neg h]
    refine List.pairwise_cons.2 ⟨fun y hy => ?_, h1⟩
    obtain ⟨x, hx, rfl⟩ := List.mem_map.1 hy
    exact farV_sym (hfar x hx)
theorem pw_at {P : List (List Int × Value)} (h : P.Pairwise fun a b => farV a.2 b.2) (i j : Nat) (hi : i < P.length) (hj : j < P.length) (hne : i ≠ j) : farV P[i].2 P[j].2 := by
  by_cases hlt : i < j
  · exact (List.pairwise_iff_getElem.1 h) i j hi hj hlt
  · exact farV_sym ((List.pairwise_iff_getElem.1 h) j i hj hi (by omega))
theorem prsP_iv {w : World} {B : Nat} {bp tv : Value} {C : List Fp} {top : List Int} (hrow : w.ownsRow B 2 1 tv top.length (cellsI top)) (hch : Chn w B bp C) (hfar : ∀ x ∈ C, farV x.val tv) (hap : AptC C) : IV w B (prsP C top tv).reverse := by
  have hm : ∀ p ∈ prsP C top tv, w.ownsRow B 2 1 p.2 p.1.length (cellsI p.1) := fun p hp => by
    unfold prsP at hp
    rcases List.mem_append.1 hp with h1 | h1
    · by_cases h2 : top = []
      · rw [if_pos h2] at h1; cases h1
      · rw [if_neg h2] at h1; rw [List.mem_singleton.1 h1]; exact hrow
    · obtain ⟨x, hx, rfl⟩ := List.mem_map.1 h1
      exact (Chn.at C bp hch x hx).2.1
  refine ⟨fun i hi => hm _ (List.mem_reverse.1 (List.getElem_mem hi)), fun i j hi hj hne => ?_⟩
  exact pw_at (List.pairwise_reverse.2 ((prsP_pw hfar hap).imp fun h => farV_sym h)) i j hi hj hne
theorem prsP_fst (C : List Fp) (top : List Int) (tv : Value) : (prsP C top tv).reverse.map Prod.fst = partsP C top := by
  unfold prsP partsP
  by_cases h : top = []
  · rw [if_pos h, if_pos h]; simp [Function.comp_def]
  · rw [if_neg h, if_neg h]; simp [Function.comp_def]
theorem prsP_snd (C : List Fp) (top : List Int) (tv : Value) : (prsP C top tv).reverse.map Prod.snd = (valsP C top tv).reverse := by
  unfold prsP valsP
  by_cases h : top = []
  · rw [if_pos h, if_pos h]; simp [Function.comp_def]
  · rw [if_neg h, if_neg h]; simp [Function.comp_def]
theorem prsP_len (C : List Fp) (top : List Int) (tv : Value) : (prsP C top tv).length = (valsP C top tv).length := by
  have := congrArg List.length (prsP_snd C top tv)
  simpa using this
theorem blk_ne {w : World} {b B n size : Nat} {T Tb : TypeId} {v : Value} {xs : List Value} {cs : Array Value} {fr : Nat × Nat} (h : w.heap[b]? = some (.cells cs Tb fr)) (ho : w.ownsRow B T size v n xs) (hT : T ≠ Tb) : ∀ g, v.ownBlock = some g → g ≠ b := by
  intro g hg e
  subst e
  rcases ho.2 with ⟨rfl, _⟩ | ⟨g1, cap, cur, rfl, _, hgg, _⟩
  · cases hg
  · have e1 : g1 = g := by simpa [Value.ownBlock] using hg
    subst e1
    rw [h] at hgg
    injection hgg with h1
    injection h1 with _ h2
    exact hT h2.symm
theorem PV.setFar {T : TypeId} {w : World} {B b j : Nat} {v x : Value} {P : List (List Int × Value)} (h : PV T w B v P) (hq : ∀ q, footP v P q → q ≠ b) : PV T (w.setCell ⟨b, j, none⟩ x) B v P :=
  ⟨own_set' h.row (fun g hg => hq g (.inl hg)) _, fun i hi => own_set' (h.iv.items i hi) (fun g hg => hq g (.inr ⟨i, hi, hg⟩)) _, h.iv.apart⟩
/-- The box of the answer. -/
def RBs (w : World) (r : Nat) : Prop := w.heap[r]? = some (.cells #[.int .i64 0, .slice none 0 0] 28)
set_option maxRecDepth 100000 in
set_option maxHeartbeats 2000000 in
theorem segsOfP_any (w : World) (n : Nat) (cnt : Int) (top : List Int) (tv bp : Value) (C : List Fp) (B : Nat) (hrow : w.ownsRow B 2 1 tv top.length (cellsI top)) (hch : Chn w B bp C) (hfar : ∀ x ∈ C, farV x.val tv) (hap : AptC C) (hC : C.length ≤ 4000) (hBw : B ≤ w.heap.size) :
    Calls Try.prog 32 #[.agg #[.int .i64 (n : Int), .int .i64 cnt, tv, bp]] w fun e w' => ∃ x P, e = .returned (segV (n : Int) x) ∧ PV 54 w' B x P ∧ P.map Prod.fst = partsP C top ∧ Below w.heap.size w w' := by
  obtain ⟨W, hW⟩ : ∃ W, W = (w.alloc (.cells #[.int .i64 (n : Int), .int .i64 cnt, tv, bp] 64)).alloc (.cells #[.int .i64 0, .slice none 0 0] 28) := ⟨_, rfl⟩
  have hzW : W.heap.size = w.heap.size + 2 := by rw [hW]; simp
  have HWw : Hid (Below w.heap.size w W) := by rw [hW]; exact ((Below.refl _ _).alloc (Nat.le_refl _) _).alloc (by simp) _
  have HPc : Hid (Pcs W w.heap.size B (n : Int) cnt top tv bp C) := by
    refine ⟨?_, own_below hrow HWw.out, Chn.below HWw.out C bp hch, hfar⟩
    rw [hW, Below.heap_alloc _ _ _ (by simp)]
    exact heap_alloc_new w _
  have HRb : Hid (RBs W (w.heap.size + 1)) := by
    rw [hW]
    have := heap_alloc_new (w.alloc (.cells #[.int .i64 (n : Int), .int .i64 cnt, tv, bp] 64)) (.cells #[.int .i64 0, .slice none 0 0] 28)
    show _ = _
    simpa using this
  have HW : Hid (W = (w.alloc (.cells #[.int .i64 (n : Int), .int .i64 cnt, tv, bp] 64)).alloc (.cells #[.int .i64 0, .slice none 0 0] 28)) := hW
  obtain ⟨P, hP⟩ : ∃ P, P = (prsP C top tv).reverse := ⟨_, rfl⟩
  have hPl : P.length ≤ 4001 := by
    rw [hP, List.length_reverse]
    unfold prsP
    split <;> simp <;> omega
  have HA1 : Hid (∀ u, Below W.heap.size W u → Calls Try.prog 44 #[.pointer (some ⟨w.heap.size, 0, none⟩)] u fun e w' => ∃ a c, e = .returned (.slice a P.length c) ∧ PV 42 w' B (.slice a P.length c) P ∧ Below W.heap.size W w') := fun u hu => by
    have h9 := HPc.out.below hu
    have hzu : B ≤ u.heap.size := by have := hu.size; omega
    refine (partsOf_any rev_ok u w.heap.size B n cnt top tv bp C h9 hC).mono ?_
    rintro e w' ⟨v, rfl, ho, hb⟩
    have hl9 : (valsP C top tv).length = P.length := by rw [hP, List.length_reverse, prsP_len]
    rw [hl9] at ho
    obtain ⟨a, c, rfl⟩ := own_form ho
    refine ⟨a, c, rfl, ⟨?_, ?_⟩, hu.trans (hb.mono hu.size)⟩
    · rw [hP, prsP_snd, ← hP]; exact own_base ho hzu
    · rw [hP]; exact prsP_iv (own_below h9.row hb) (Chn.below hb C bp h9.chn) hfar hap
  have HA2 : Hid (∀ u a c, Below W.heap.size W u → PV 42 u B (.slice a P.length c) P → Calls Try.prog 43 #[.slice a P.length c, .func (.func 45) #[] #[]] u fun e w' => ∃ a c, e = .returned (.slice a P.length c) ∧ PV 54 w' B (.slice a P.length c) P ∧ Below W.heap.size W w') := fun u a c hu hp => by
    refine (turnOut_any _ P B u (by have := hu.size; omega) (by omega) hp).mono ?_
    rintro e w' ⟨x, rfl, h1, h2⟩
    obtain ⟨a, c, rfl⟩ := h1.form
    exact ⟨a, c, rfl, h1, hu.trans (h2.mono hu.size)⟩
  have HK : Hid (∀ u, Below W.heap.size W u → u.cell? ⟨w.heap.size, 0, none⟩ = some (.int .i64 (n : Int)) ∧ RBs u (w.heap.size + 1)) := fun u hu => ⟨cell_keep hu HPc.out.cell.1, by show _ = _; rw [hu.block _ (by omega)]; exact HRb.out⟩
  have HFs : Hid (P.map Prod.fst = partsP C top) := by show _ = _; rw [hP]; exact prsP_fst C top tv
  have k0 := HPc.out.cell.1
  generalize P.length = m at HA1 HA2 hPl
  clear hrow hch hfar hap hW hP hPl HPc
  go_enter Try.func32, Try.ntmps32
  go_wp2_with fail
  rw [← HW.out]
  clear HW
  go_region_with (first
    | (go_at_call 44; refine (HA1.out _ (by repeat (first | exact Below.refl _ _ | refine Below.drew ?_))).mono ?_; rintro e w1 ⟨a1, c1, rfl, h1, h2⟩; have H1 : Hid (PV 42 w1 B (.slice a1 m c1) P ∧ Below W.heap.size W w1) := ⟨h1, h2⟩; have k1 := (HK.out _ h2).1; clear h1 h2)
    | (go_at_call 43; refine (HA2.out _ _ _ H1.out.2 H1.out.1).mono ?_; rintro e w2 ⟨a2, c2, rfl, h1, h2⟩; have H2 : Hid (PV 54 w2 B (.slice a2 m c2) P ∧ Below W.heap.size W w2) := ⟨h1, h2⟩; have k2 := (HK.out _ h2).1; have hr9 := (HK.out _ h2).2; have r0 : w2.cell? ⟨w.heap.size + 1, 0, none⟩ = some (.int .i64 0) := (by rw [cell_of_heap hr9]; rfl); have r1 : w2.cell? ⟨w.heap.size + 1, 1, none⟩ = some (.slice none 0 0) := (by rw [cell_of_heap hr9]; rfl); have rf : ∀ j, w2.frozen? ⟨w.heap.size + 1, j, none⟩ = false := (fun j => by have h9 : w2.heap[w.heap.size + 1]? = _ := hr9; simp [World.frozen?, h9]); clear h1 h2)
    | fail)
  all_goals
    have hr9 : w2.heap[w.heap.size + 1]? = some (.cells #[.int .i64 0, .slice none 0 0] 28) := (HK.out _ H2.out.2).2
    have hfar : ∀ q, footP (.slice a2 m c2) P q → q ≠ w.heap.size + 1 := fun q hq => by
      rcases hq with e | ⟨i, hi, e⟩
      · exact blk_ne hr9 H2.out.1.row (by decide) q e
      · exact blk_ne hr9 (H2.out.1.iv.items i hi) (by decide) q e
    have HPV : Hid (PV 54 ((w2.setCell ⟨w.heap.size + 1, 0, none⟩ (.int .i64 (n : Int))).setCell ⟨w.heap.size + 1, 1, none⟩ (.slice a2 m c2)) B (.slice a2 m c2) P) := (H2.out.1.setFar hfar).setFar hfar
    have HBf : Hid (Below w.heap.size w w2) := HWw.out.trans (H2.out.2.mono HWw.out.size)
    clear hfar hr9
    go_wp2
    refine bodyPost_ret (v := segV (n : Int) (.slice a2 m c2)) (by simp [results, Try.results32, go_sem, r0, r1]) rfl ⟨_, P, rfl, HPV.out, HFs.out, ?_⟩
    repeat (first | exact HBf.out | refine Below.setCell ?_ (by simp) _)
end Go.Proofs.Ytdohpfckiahlcaa
