/-
  The model's SameData: whether two lists of data are the same; nothing is turned.
-/
import Derived.Test.YtkdhmijebkhmaaaSpecDat
namespace Go.Proofs.Ytkdhmijebkhmaaa
open Go.RowKit Go.Extern.Stop Go.Stop Go.Extern Num Go.Lib

def eqB (t u : Dat) : Bool := t.kind == u.kind && (t.parent == u.parent && (t.num == u.num && (t.name.toList == u.name.toList)))
def sameB : List Dat → List Dat → Bool
  | [], [] => true
  | t :: r, u :: s => eqB t u && sameB r s
  | _, _ => false
theorem sameB_len : ∀ (a b : List Dat), a.length ≠ b.length → sameB a b = false
  | [], [], h => absurd rfl h
  | [], _ :: _, _ => rfl
  | _ :: _, [], _ => rfl
  | t :: r, u :: s, h => by
    have : r.length ≠ s.length := by simpa using h
    simp [sameB, sameB_len r s this]
/-- The same, up to a place. -/
def sameTo (a b : List Dat) (k : Nat) : Prop := ∀ (j : Nat) (h : j < a.length) (h' : j < b.length), j < k → eqB a[j] b[j] = true
theorem sameB_drop : ∀ (k : Nat) (a b : List Dat), k ≤ a.length → k ≤ b.length → sameTo a b k → sameB a b = sameB (a.drop k) (b.drop k)
  | 0, _, _, _, _, _ => by simp
  | k + 1, [], _, h, _, _ => by simp at h
  | k + 1, _ :: _, [], _, h, _ => by simp at h
  | k + 1, t :: r, u :: s, h, h', hs => by
    have h0 := hs 0 (by simp) (by simp) (by omega)
    have e : eqB t u = true := h0
    simp only [List.drop_succ_cons, sameB, e, Bool.true_and]
    exact sameB_drop k r s (by simpa using h) (by simpa using h') (fun j hj hj' hjk => hs (j + 1) (by simpa using hj) (by simpa using hj') (by omega))
theorem sameB_no (a b : List Dat) (k : Nat) (h : k < a.length) (h' : k < b.length) (hs : sameTo a b k) (he : eqB a[k] b[k] = false) : sameB a b = false := by
  rw [sameB_drop k a b (by omega) (by omega) hs, List.drop_eq_getElem_cons h, List.drop_eq_getElem_cons h']
  simp [sameB, he]
theorem sameB_yes (a b : List Dat) (h : a.length = b.length) (hs : sameTo a b a.length) : sameB a b = true := by
  rw [sameB_drop a.length a b (Nat.le_refl _) (by omega) hs]
  rw [List.drop_of_length_le (Nat.le_refl _), List.drop_of_length_le (by omega)]
  rfl
theorem sameTo_next {a b : List Dat} {k : Nat} (hs : sameTo a b k) (h : k < a.length) (h' : k < b.length) (he : eqB a[k] b[k] = true) : sameTo a b (k + 1) := by
  intro j hj hj' hjk
  by_cases e : j < k
  · exact hs j hj hj' e
  · have : j = k := by omega
    subst this; exact he
theorem eqB_same (a : List Dat) : sameB a a = true := by
  induction a with
  | nil => rfl
  | cons t r ih => simp [sameB, ih, eqB]
theorem specSame_len (ao bo : Option Addr) (n m ca cb : Nat) (w : World) (h : ((n : Int) != (m : Int)) = true) :
    Calls Try.prog 16 #[.slice ao n ca, .slice bo m cb] w fun e w' => e = .returned (.bool false) ∧ Below w.heap.size w w' := by
  go_enter Try.func16, Try.ntmps16
  go_wp2
  go_ret
  exact ⟨rfl, Below.refl _ _⟩
set_option maxRecDepth 100000 in
set_option maxHeartbeats 4000000 in
theorem specSame_some (ao bo : Option Addr) (ca cb : Nat) (a b : List Dat) (w : World) (hl : a.length ≤ 1048576) (he : a.length = b.length) (g1 g2 : Nat) (hao : 0 < a.length → ao = some ⟨g1, 0, none⟩ ∧ bo = some ⟨g2, 0, none⟩) (hA : RowD w g1 a) (hB : RowD w g2 b) :
    Calls Try.prog 16 #[.slice ao a.length ca, .slice bo a.length cb] w fun e w' => e = .returned (.bool (sameB a b)) ∧ Below w.heap.size w w' := by
  have HA : Hid (RowD w g1 a) := hA
  have HB : Hid (RowD w g2 b) := hB
  have HE : Hid (a.length = b.length) := he
  have HO : Hid (0 < a.length → ao = some ⟨g1, 0, none⟩ ∧ bo = some ⟨g2, 0, none⟩) := hao
  clear hA hB he hao
  obtain ⟨R, hR⟩ : ∃ R : Bool, R = sameB a b := ⟨_, rfl⟩
  rw [← hR]
  have HR : Hid (R = sameB a b) := hR
  clear hR
  go_enter Try.func16, Try.ntmps16
  go_wp2_with fail
  go_loopw [5] (fun i wr => ∃ k : Nat, k ≤ a.length ∧ i = .int .i64 (k : Int) ∧ Hid (sameTo a b k) ∧ Hid (Below w.heap.size w wr)) (fun i _ => a.length - (RowKit.intOf i).toNat)
  case atStart => exact ⟨0, Nat.zero_le _, rfl, fun j _ _ hj => by omega, Below.refl _ _⟩
  case round =>
    obtain ⟨k, hk, rfl, HS, HW⟩ := hrel
    by_cases hlt : k < a.length
    · have hlb : k < b.length := by have := HE.out; omega
      obtain ⟨rfl, rfl⟩ := HO.out (by omega)
      have hra := HA.out.below HW.out k hlt
      have hrb := HB.out.below HW.out k hlb
      obtain ⟨t, ht⟩ : ∃ t, t = a[k]'hlt := ⟨_, rfl⟩
      obtain ⟨u, hu⟩ : ∃ u, u = b[k]'hlb := ⟨_, rfl⟩
      rw [← ht] at hra
      rw [← hu] at hrb
      have a0 : ∀ p : BW wr, p.x.cell? ⟨g1, k * 4, none⟩ = some (.int .i64 t.kind) := fun p => p.cell hra.1
      have a1 : ∀ p : BW wr, p.x.cell? ⟨g1, k * 4 + 1, none⟩ = some (.int .i64 t.parent) := fun p => p.cell hra.2.1
      have a2 : ∀ p : BW wr, p.x.cell? ⟨g1, k * 4 + 2, none⟩ = some (.int .i64 t.num) := fun p => p.cell hra.2.2.1
      have a3 : ∀ p : BW wr, p.x.cell? ⟨g1, k * 4 + 3, none⟩ = some (.string t.name) := fun p => p.cell hra.2.2.2
      have d0 : ∀ p : BW wr, p.x.cell? ⟨g2, k * 4, none⟩ = some (.int .i64 u.kind) := fun p => p.cell hrb.1
      have d1 : ∀ p : BW wr, p.x.cell? ⟨g2, k * 4 + 1, none⟩ = some (.int .i64 u.parent) := fun p => p.cell hrb.2.1
      have d2 : ∀ p : BW wr, p.x.cell? ⟨g2, k * 4 + 2, none⟩ = some (.int .i64 u.num) := fun p => p.cell hrb.2.2.1
      have d3 : ∀ p : BW wr, p.x.cell? ⟨g2, k * 4 + 3, none⟩ = some (.string u.name) := fun p => p.cell hrb.2.2.2
      have hne := bw_some wr
      have HQ : Hid (eqB (a[k]'hlt) (b[k]'hlb) = (t.kind == u.kind && (t.parent == u.parent && (t.num == u.num && (t.name.toList == u.name.toList))))) := by show _ = _; rw [← ht, ← hu]; rfl
      clear hra hrb ht hu
      cases e0 : (t.kind == u.kind) <;> cases e1 : (t.parent == u.parent) <;> cases e2 : (t.num == u.num) <;> cases e3 : (t.name.toList == u.name.toList)
      all_goals
        rw [e0, e1, e2, e3] at HQ
        go_wp2_with fail
        refine wp_region_below (by kernel_rfl) (by kernel_rfl) ?_
        repeat (go_big_quiet_step (fail))
        refine wpQuiet_nil ?_
        intro wq hw'
        obtain ⟨⟨_, bq⟩, rfl⟩ := hw'
        have HB2 : Hid _ := HW.out.trans (bq.mono HW.out.size)
        clear bq a0 a1 a2 a3 d0 d1 d2 d3 hne
        go_wp2
        first
          | exact ⟨⟨k + 1, by omega, by go_num, sameTo_next HS.out hlt hlb HQ.out, HB2.out⟩, by simp [RowKit.intOf]; omega⟩
          | (go_ret; exact ⟨by rw [HR.out, sameB_no a b k hlt hlb HS.out HQ.out]; rfl, HB2.out⟩)
    · have HF : Hid (R = true) := by
        have hkl : k = a.length := by omega
        have hs := HS.out
        rw [hkl] at hs
        show R = true
        rw [HR.out, sameB_yes a b HE.out hs]
      go_wp2
      go_ret
      exact ⟨by rw [HF.out]; rfl, HW.out⟩
theorem specSame_any (ao bo : Option Addr) (ca cb b1 b2 : Nat) (a b : List Dat) (w : World) (hl : a.length ≤ 1048576) (h1 : w.ownsRow b1 54 4 (.slice ao a.length ca) a.length (cellsD a)) (h2 : w.ownsRow b2 54 4 (.slice bo b.length cb) b.length (cellsD b)) :
    Calls Try.prog 16 #[.slice ao a.length ca, .slice bo b.length cb] w fun e w' => e = .returned (.bool (sameB a b)) ∧ Below w.heap.size w w' := by
  by_cases he : a.length = b.length
  · by_cases h0 : 0 < a.length
    · obtain ⟨g1, c1, hv1, _, _⟩ := h1.form h0
      obtain ⟨rfl, rfl⟩ : ao = some ⟨g1, 0, none⟩ ∧ ca = c1 := by simp at hv1; exact hv1
      obtain ⟨g2, c2, hv2, _, _⟩ := h2.form (by omega)
      obtain ⟨rfl, rfl⟩ : bo = some ⟨g2, 0, none⟩ ∧ cb = c2 := by simp at hv2; exact hv2
      have := specSame_some (some ⟨g1, 0, none⟩) (some ⟨g2, 0, none⟩) ca cb a b w hl he g1 g2 (fun _ => ⟨rfl, rfl⟩) (RowD.of h1) (RowD.of h2)
      rw [he] at this ⊢
      exact this
    · have := specSame_some ao bo ca cb a b w hl he 0 0 (fun h => absurd h h0) (fun k hk => by omega) (fun k hk => by omega)
      rw [he] at this ⊢
      exact this
  · rw [sameB_len a b he]
    exact specSame_len ao bo a.length b.length ca cb w (by rw [bne_iff_ne]; omega)
end Go.Proofs.Ytkdhmijebkhmaaa
