/-
  The library's slices.Equal at data, and the program's SameData by it: whether two slices of data are the same; nothing is turned.
-/
import Derived.Test.YtkdhmijebkhmaaaLawsD1
import Derived.Test.YtkdhmijebkhmaaaRegion
namespace Go.Proofs.Ytkdhmijebkhmaaa
open Go.RowKit Go.Extern.Stop Go.Stop Go.Extern Num Go.Lib

theorem implEq_len (ao bo : Option Addr) (n m ca cb : Nat) (w : World) (h : ((n : Int) != (m : Int)) = true) :
    Calls Try.prog 28 #[.slice ao n ca, .slice bo m cb] w fun e w' => e = .returned (.bool false) ∧ Below w.heap.size w w' := by
  go_enter Try.func28, Try.ntmps28
  go_wp2
  go_ret
  exact ⟨rfl, Below.refl _ _⟩
set_option maxRecDepth 100000 in
set_option maxHeartbeats 4000000 in
theorem implEq_some (ao bo : Option Addr) (ca cb : Nat) (a b : List Dat) (w : World) (hl : a.length ≤ 1048576) (he : a.length = b.length) (g1 g2 : Nat) (hao : 0 < a.length → ao = some ⟨g1, 0, none⟩ ∧ bo = some ⟨g2, 0, none⟩) (hA : RowD w g1 a) (hB : RowD w g2 b) :
    Calls Try.prog 28 #[.slice ao a.length ca, .slice bo a.length cb] w fun e w' => e = .returned (.bool (sameB a b)) ∧ Below w.heap.size w w' := by
  have HA : Hid (RowD w g1 a) := hA
  have HB : Hid (RowD w g2 b) := hB
  have HE : Hid (a.length = b.length) := he
  have HO : Hid (0 < a.length → ao = some ⟨g1, 0, none⟩ ∧ bo = some ⟨g2, 0, none⟩) := hao
  clear hA hB he hao
  obtain ⟨R, hR⟩ : ∃ R : Bool, R = sameB a b := ⟨_, rfl⟩
  rw [← hR]
  have HR : Hid (R = sameB a b) := hR
  clear hR
  go_enter Try.func28, Try.ntmps28
  go_wp2_with fail
  go_loopw [13] (fun i wr => ∃ k : Nat, k ≤ a.length ∧ i = .int .i64 (k : Int) ∧ Hid (sameTo a b k) ∧ Hid (Below w.heap.size w wr)) (fun i _ => a.length - (RowKit.intOf i).toNat)
  case atStart => exact ⟨0, Nat.zero_le _, rfl, fun j _ _ hj => by omega, Below.refl _ _⟩
  case round =>
    obtain ⟨k, hk, rfl, HS, HW⟩ := hrel
    by_cases hlt : k < a.length
    · have hlb : k < b.length := by have := HE.out; omega
      obtain ⟨rfl, rfl⟩ := HO.out (by omega)
      have hra := HA.out.below HW.out k hlt
      have hrb := HB.out.below HW.out k hlb
      obtain ⟨t, ht⟩ : ∃ t, t = a[k]'hlt := ⟨_, rfl⟩
      obtain ⟨u, hu⟩ : ∃ u, u = b[k]'hlb := ⟨_, rfl⟩
      rw [← ht] at hra
      rw [← hu] at hrb
      have a0 : ∀ p : BW wr, p.x.cell? ⟨g1, k * 4, none⟩ = some (.int .i64 t.kind) := fun p => p.cell hra.1
      have a1 : ∀ p : BW wr, p.x.cell? ⟨g1, k * 4 + 1, none⟩ = some (.int .i64 t.parent) := fun p => p.cell hra.2.1
      have a2 : ∀ p : BW wr, p.x.cell? ⟨g1, k * 4 + 2, none⟩ = some (.int .i64 t.num) := fun p => p.cell hra.2.2.1
      have a3 : ∀ p : BW wr, p.x.cell? ⟨g1, k * 4 + 3, none⟩ = some (.string t.name) := fun p => p.cell hra.2.2.2
      have d0 : ∀ p : BW wr, p.x.cell? ⟨g2, k * 4, none⟩ = some (.int .i64 u.kind) := fun p => p.cell hrb.1
      have d1 : ∀ p : BW wr, p.x.cell? ⟨g2, k * 4 + 1, none⟩ = some (.int .i64 u.parent) := fun p => p.cell hrb.2.1
      have d2 : ∀ p : BW wr, p.x.cell? ⟨g2, k * 4 + 2, none⟩ = some (.int .i64 u.num) := fun p => p.cell hrb.2.2.1
      have d3 : ∀ p : BW wr, p.x.cell? ⟨g2, k * 4 + 3, none⟩ = some (.string u.name) := fun p => p.cell hrb.2.2.2
      have hne := bw_some wr
      have HQ : Hid (eqB (a[k]'hlt) (b[k]'hlb) = (t.kind == u.kind && (t.parent == u.parent && (t.num == u.num && (t.name.toList == u.name.toList))))) := by show _ = _; rw [← ht, ← hu]; rfl
      clear hra hrb ht hu
      cases e0 : (t.kind == u.kind) <;> cases e1 : (t.parent == u.parent) <;> cases e2 : (t.num == u.num) <;> cases e3 : (t.name.toList == u.name.toList)
      all_goals
        rw [e0, e1, e2, e3] at HQ
        go_wp2_with fail
        refine wp_region_below (by kernel_rfl) (by kernel_rfl) ?_
        repeat (go_big_quiet_step (fail))
        refine wpQuiet_nil ?_
        intro wq hw'
        obtain ⟨⟨_, bq⟩, rfl⟩ := hw'
        have HB2 : Hid _ := HW.out.trans (bq.mono HW.out.size)
        clear bq a0 a1 a2 a3 d0 d1 d2 d3 hne
        go_wp2
        first
          | exact ⟨⟨k + 1, by omega, by go_num, sameTo_next HS.out hlt hlb HQ.out, HB2.out⟩, by simp [RowKit.intOf]; omega⟩
          | (go_ret; exact ⟨by rw [HR.out, sameB_no a b k hlt hlb HS.out HQ.out]; rfl, HB2.out⟩)
    · have HF : Hid (R = true) := by
        have hkl : k = a.length := by omega
        have hs := HS.out
        rw [hkl] at hs
        show R = true
        rw [HR.out, sameB_yes a b HE.out hs]
      go_wp2
      go_ret
      exact ⟨by rw [HF.out]; rfl, HW.out⟩
theorem implEq_any (ao bo : Option Addr) (ca cb b1 b2 : Nat) (a b : List Dat) (w : World) (hl : a.length ≤ 1048576) (h1 : w.ownsRow b1 54 4 (.slice ao a.length ca) a.length (cellsD a)) (h2 : w.ownsRow b2 54 4 (.slice bo b.length cb) b.length (cellsD b)) :
    Calls Try.prog 28 #[.slice ao a.length ca, .slice bo b.length cb] w fun e w' => e = .returned (.bool (sameB a b)) ∧ Below w.heap.size w w' := by
  by_cases he : a.length = b.length
  · by_cases h0 : 0 < a.length
    · obtain ⟨g1, c1, hv1, _, _⟩ := h1.form h0
      obtain ⟨rfl, rfl⟩ : ao = some ⟨g1, 0, none⟩ ∧ ca = c1 := by simp at hv1; exact hv1
      obtain ⟨g2, c2, hv2, _, _⟩ := h2.form (by omega)
      obtain ⟨rfl, rfl⟩ : bo = some ⟨g2, 0, none⟩ ∧ cb = c2 := by simp at hv2; exact hv2
      have := implEq_some (some ⟨g1, 0, none⟩) (some ⟨g2, 0, none⟩) ca cb a b w hl he g1 g2 (fun _ => ⟨rfl, rfl⟩) (RowD.of h1) (RowD.of h2)
      rw [he] at this ⊢
      exact this
    · have := implEq_some ao bo ca cb a b w hl he 0 0 (fun h => absurd h h0) (fun k hk => by omega) (fun k hk => by omega)
      rw [he] at this ⊢
      exact this
  · rw [sameB_len a b he]
    exact implEq_len ao bo a.length b.length ca cb w (by rw [bne_iff_ne]; omega)
theorem implSame_any (ao bo : Option Addr) (ca cb b1 b2 : Nat) (a b : List Dat) (w : World) (hl : a.length ≤ 1048576) (h1 : w.ownsRow b1 54 4 (.slice ao a.length ca) a.length (cellsD a)) (h2 : w.ownsRow b2 54 4 (.slice bo b.length cb) b.length (cellsD b)) :
    Calls Try.prog 24 #[.slice ao a.length ca, .slice bo b.length cb] w fun e w' => e = .returned (.bool (sameB a b)) ∧ Below w.heap.size w w' := by
  have HS : Hid (Calls Try.prog 28 #[.slice ao a.length ca, .slice bo b.length cb] w fun e w' => e = .returned (.bool (sameB a b)) ∧ Below w.heap.size w w') := implEq_any ao bo ca cb b1 b2 a b w hl h1 h2
  clear h1 h2 hl
  generalize sameB a b = R at HS ⊢
  go_enter Try.func24, Try.ntmps24
  go_wp2_with (go_at_call 28; refine HS.out.mono ?_; rintro e w' ⟨rfl, hb⟩)
  go_ret
  exact ⟨rfl, hb⟩
end Go.Proofs.Ytkdhmijebkhmaaa
