/-
  Parts of the proof laid into one text, one behind the other; each says at its head what is proved in it.
-/
import Derived.Test.YtfdkklhigliciaaGreatDoorSpecExJHx
import Derived.Test.YtfdkklhigliciaaGreatDoorExpBoundHx
/-
  The model's ExpandData: a code, or the cores that data come to, with rows of their own; nothing that was there is turned.
-/
namespace Go.Proofs.YtfdkklhigliciaaGreatDoor
open Go.RowKit Go.Extern.Stop Go.Stop Go.Extern Num Go.Lib

/-- Cores in a row, and the data of each in a row. -/
def OutE (w : World) (B : Nat) (v : Value) (C : List Cor) : Prop := ∃ P : List (Cor × Value), P.map Prod.fst = C ∧ w.ownsRow B 78 6 v P.length (cellsC P) ∧ ∀ x ∈ P, w.ownsRow B 49 4 x.2 x.1.data.length (cellsD x.1.data)
theorem OutE.nil (w : World) (B : Nat) : OutE w B (.slice none 0 0) [] := ⟨[], rfl, World.ownsRow_nil _ _ _ _, fun x hx => by cases hx⟩
set_option maxRecDepth 100000 in
set_option maxHeartbeats 2000000 in
theorem specEx_any (ao : Option Addr) (cap base : Nat) (l : List Dat) (w : World) (h : w.ownsRow base 49 4 (.slice ao l.length cap) l.length (cellsD l)) (hz : ∀ (k : Nat) (h : k < l.length), l[k].name.size ≤ 9223372036854775807) :
    Calls Tryz.prog 6 #[.slice ao l.length cap] w fun e w' => ∃ v, e = .returned (.agg #[.int .i64 (expD l).1, v]) ∧ OutE w' w.heap.size v (expD l).2 ∧ Below w.heap.size w w' := by
  obtain ⟨R, HR⟩ : ∃ R, Hid (R = expD l) := ⟨_, rfl⟩
  rw [← show R = _ from HR.out]
  have HFt : Hid (∀ u, Below w.heap.size w u → Calls Tryz.prog 18 #[.slice ao l.length cap] u fun e w' => e = .returned (.int .i64 (dataFault l)) ∧ w' = u) := fun u hu => l3Fault_any ao cap base l u (own_below h hu) hz
  have HO : Hid (w.ownsRow base 49 4 (.slice ao l.length cap) l.length (cellsD l)) := h
  clear h hz
  go_enter Tryz.func6, Tryz.ntmps6
  go_wp2_with fail
  refine (HFt.out _ ((Below.refl _ _).alloc (Nat.le_refl _) _)).mono ?_
  rintro e w1 ⟨rfl, hw1⟩
  replace hw1 := hw1.symm
  by_cases hF0 : dataFault l = 0
  case neg =>
    have HR1 : Hid (R.1 = dataFault l ∧ R.2 = []) := by
      rw [show R = _ from HR.out]
      unfold expD
      rw [if_pos hF0]
      exact ⟨rfl, rfl⟩
    have hF' : (dataFault l != 0) = true := by simpa using hF0
    subst hw1
    obtain ⟨fl, Hfl⟩ : ∃ fl, Hid (fl = dataFault l) := ⟨_, rfl⟩
    rw [← show fl = _ from Hfl.out] at hF' ⊢
    clear hF0
    go_wp2
    refine bodyPost_ret (v := .agg #[.int .i64 fl, .slice none 0 0]) (by simp [results, Tryz.results6, go_sem]) rfl ⟨.slice none 0 0, ?_, ?_, ?_⟩
    · rw [HR1.out.1, ← show fl = _ from Hfl.out]
    · rw [HR1.out.2]; exact OutE.nil _ _
    · repeat (first | exact Below.refl _ _ | refine Below.setCell ?_ (by simp) _ | refine Below.alloc ?_ (by simp) _)
  have hFi := fine_of hF0
  obtain ⟨g, cap', hsl, _, _⟩ := HO.out.form (by have := hFi.pos; omega)
  obtain ⟨rfl, rfl⟩ : ao = some ⟨g, 0, none⟩ ∧ cap = cap' := by simp at hsl; exact hsl
  have hg : g < w.heap.size := (HO.out.lt g rfl).2
  obtain ⟨Q, HQ⟩ : ∃ Q, Hid (Q = expF l l.length 0 (-1) [] []) := ⟨_, rfl⟩
  have HR1 : Hid (R = if Q.1 ≠ 0 then (Q.1, []) else if 160 < Q.2.length then (2, []) else (0, Q.2)) := by
    show _ = _
    rw [show R = _ from HR.out, show Q = _ from HQ.out]
    unfold expD
    rw [if_neg (fun e => e hF0)]
  rw [hF0]
  subst hw1
  have HX : Hid (∀ W, W = (w.alloc (.cells #[.int .i64 0, .slice none 0 0] 26)).alloc (.cells #[.slice (some ⟨g, 0, none⟩) l.length cap, .slice none 0 0, .slice none 0 0] 46) → Calls Tryz.prog 19 #[.pointer (some ⟨w.heap.size + 1, 0, none⟩), .int .i64 0, .int .i64 (-1), .int .i64 (-1)] W fun e w' => AnsX (w.heap.size + 2) (w.heap.size + 1) g cap l [] Q W e w') := fun W hW => by
    rw [show Q = _ from HQ.out]
    refine l4Expand_any l hFi l.length W (w.heap.size + 2) (w.heap.size + 1) g cap 0 (-1) (-1) [] [] [] ?_ hFi.pos (by omega) (by have := hFi.len; simp; omega) (exp_few hFi)
    refine ⟨[], ⟨by omega, by rw [hW]; simp, by omega, ?_, ⟨.slice none 0 0, ?_, World.ownsRow_nil _ _ _ _, (fun g hg => by cases hg)⟩, ⟨.slice none 0 0, ?_, World.ownsRow_nil _ _ _ _, (fun g hg => by cases hg)⟩, (fun o => by rw [hW]; simp [go_sem]), ?_, (fun x hx => by cases hx), (fun x hx => by cases hx)⟩, rfl, Nat.le_refl _, (fun x hx => by cases hx), rfl⟩
    · rw [hW, World.cell?_alloc_at _ _ _ _ (by simp)]; rfl
    · rw [hW, World.cell?_alloc_at _ _ _ _ (by simp)]; rfl
    · rw [hW, World.cell?_alloc_at _ _ _ _ (by simp)]; rfl
    · rw [hW]; exact (RowD.of HO.out).below (((Below.refl _ _).alloc (Nat.le_refl _) _).alloc (by simp) _)
  clear hF0 HFt HR
  go_wp2_with fail
  refine (HX.out _ rfl).mono ?_
  rintro e w2 ⟨rfl, h1, hk, hb⟩
  have HB2 : Hid (Below w.heap.size w w2) := (((Below.refl _ _).alloc (Nat.le_refl _) _).alloc (by simp) _).trans (hb.mono (by omega))
  have x0 : w2.cell? ⟨w.heap.size, 0, none⟩ = some (.int .i64 0) := (hb.cell (p := ⟨w.heap.size, 0, none⟩) (show w.heap.size < w.heap.size + 1 by omega)).trans (by rw [World.cell?_alloc_past _ _ _ (by simp), World.cell?_alloc_at _ _ _ _ rfl]; rfl)
  have x1 : w2.cell? ⟨w.heap.size, 1, none⟩ = some (.slice none 0 0) := (hb.cell (p := ⟨w.heap.size, 1, none⟩) (show w.heap.size < w.heap.size + 1 by omega)).trans (by rw [World.cell?_alloc_past _ _ _ (by simp), World.cell?_alloc_at _ _ _ _ rfl]; rfl)
  have xf : ∀ o, w2.frozen? ⟨w.heap.size, o, none⟩ = false := fun o => by
    rw [World.frozen?_of_block (a := ⟨w.heap.size, o, none⟩) (hb.block w.heap.size (by omega))]
    simp [go_sem]
  have hz2 : w.heap.size < w2.heap.size := lt_of_cell x0
  have H1 : Hid (Q.1 = 0 → ∃ P v, P.map Prod.fst = Q.2 ∧ w2.cell? ⟨w.heap.size + 1, 1, none⟩ = some v ∧ w2.ownsRow (w.heap.size + 2) 78 6 v P.length (cellsC P) ∧ ∀ x ∈ P, w2.ownsRow (w.heap.size + 2) 49 4 x.2 x.1.data.length (cellsD x.1.data)) := fun e => by
    obtain ⟨P, G, hM, hP, _, _⟩ := h1 e
    obtain ⟨v, hv⟩ := hM.hC
    exact ⟨P, v, hP, hv.1, hv.2.1, hM.dat⟩
  clear h1 hk hb HX HO
  by_cases hq : Q.1 = 0
  · obtain ⟨P, v, hP, c1, ho, hd⟩ := H1.out hq
    have hPl : P.length = Q.2.length := by rw [← hP, List.length_map]
    obtain ⟨aC, cC, rfl⟩ := own_form ho
    have HOut : Hid (∀ (a b : Nat) (u u' : Value), OutE ((w2.setCell ⟨w.heap.size, a, none⟩ u).setCell ⟨w.heap.size, b, none⟩ u') w.heap.size (.slice aC P.length cC) Q.2) := fun a b u u' =>
      ⟨P, hP, own_base (own_set_low (own_set_low ho (by omega) _) (by omega) _) (by omega), fun x hx => own_base (own_set_low (own_set_low (hd x hx) (by omega) _) (by omega) _) (by omega)⟩
    have HR2 : Hid (R = if 160 < Q.2.length then (2, []) else (0, Q.2)) := by show _ = _; rw [show R = _ from HR1.out, if_neg (fun e => e hq)]
    rw [hq]
    clear H1 HR1 HQ ho hd hP hq
    by_cases h6 : 160 < Q.2.length
    · have h6' : decide ((P.length : Int) > 160) = true := decide_eq_true (by omega)
      have HR3 : Hid (R.1 = 2 ∧ R.2 = []) := by rw [show R = _ from HR2.out, if_pos h6]; exact ⟨rfl, rfl⟩
      clear HR2 h6 HOut hPl
      go_wp2
      refine bodyPost_ret (v := .agg #[.int .i64 2, .slice none 0 0]) (by simp [results, Tryz.results6, go_sem, x0, x1]) rfl ⟨.slice none 0 0, ?_, ?_, ?_⟩
      · rw [HR3.out.1]
      · rw [HR3.out.2]; exact OutE.nil _ _
      · repeat (first | exact HB2.out | refine Below.setCell ?_ (by simp) _)
    · have h6' : decide ((P.length : Int) > 160) = false := decide_eq_false (by omega)
      have HR3 : Hid (R.1 = 0 ∧ R.2 = Q.2) := by rw [show R = _ from HR2.out, if_neg h6]; exact ⟨rfl, rfl⟩
      clear HR2 h6 hPl
      go_wp2
      refine bodyPost_ret (v := .agg #[.int .i64 0, .slice aC P.length cC]) (by simp [results, Tryz.results6, go_sem, x0, x1]) rfl ⟨.slice aC P.length cC, ?_, ?_, ?_⟩
      · rw [HR3.out.1]
      · rw [HR3.out.2]; exact HOut.out _ _ _ _
      · repeat (first | exact HB2.out | refine Below.setCell ?_ (by simp) _)
  · have HR3 : Hid (R.1 = Q.1 ∧ R.2 = []) := by rw [show R = _ from HR1.out, if_pos hq]; exact ⟨rfl, rfl⟩
    have hq' : (Q.1 != 0) = true := by simpa using hq
    obtain ⟨cc, Hcc⟩ : ∃ cc, Hid (cc = Q.1) := ⟨_, rfl⟩
    rw [← show cc = _ from Hcc.out] at hq' ⊢
    clear H1 HR1 HQ hq
    go_wp2
    refine bodyPost_ret (v := .agg #[.int .i64 cc, .slice none 0 0]) (by simp [results, Tryz.results6, go_sem, x0, x1]) rfl ⟨.slice none 0 0, ?_, ?_, ?_⟩
    · rw [HR3.out.1, ← show cc = _ from Hcc.out]
    · rw [HR3.out.2]; exact OutE.nil _ _
    · repeat (first | exact HB2.out | refine Below.setCell ?_ (by simp) _)
end Go.Proofs.YtfdkklhigliciaaGreatDoor
