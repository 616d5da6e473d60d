/-
  The model's SameCores: whether two lists of cores are the same; nothing is turned.
-/
import Derived.Test.YtedippcicnhalaaStCore
import Derived.Test.YtedippcicnhalaaSpecSameD
namespace Go.Proofs.Ytedippcicnhalaa
open Go.RowKit Go.Extern.Stop Go.Stop Go.Extern Num Go.Lib

def eqCB (t u : Cor) : Bool := t.kind == u.kind && (t.parent == u.parent && (t.a == u.a && (t.b == u.b && (t.name.toList == u.name.toList && sameB t.data u.data))))
def sameCB : List Cor → List Cor → Bool
  | [], [] => true
  | t :: r, u :: s => eqCB t u && sameCB r s
  | _, _ => false
theorem sameCB_len : ∀ (a b : List Cor), a.length ≠ b.length → sameCB a b = false
  | [], [], h => absurd rfl h
  | [], _ :: _, _ => rfl
  | _ :: _, [], _ => rfl
  | t :: r, u :: s, h => by
    have : r.length ≠ s.length := by simpa using h
    simp [sameCB, sameCB_len r s this]
/-- The same, up to a place. -/
def sameToC (a b : List Cor) (k : Nat) : Prop := ∀ (j : Nat) (h : j < a.length) (h' : j < b.length), j < k → eqCB a[j] b[j] = true
theorem sameCB_drop : ∀ (k : Nat) (a b : List Cor), k ≤ a.length → k ≤ b.length → sameToC a b k → sameCB a b = sameCB (a.drop k) (b.drop k)
  | 0, _, _, _, _, _ => by simp
  | k + 1, [], _, h, _, _ => by simp at h
  | k + 1, _ :: _, [], _, h, _ => by simp at h
  | k + 1, t :: r, u :: s, h, h', hs => by
    have h0 := hs 0 (by simp) (by simp) (by omega)
    have e : eqCB t u = true := h0
    simp only [List.drop_succ_cons, sameCB, e, Bool.true_and]
    exact sameCB_drop k r s (by simpa using h) (by simpa using h') (fun j hj hj' hjk => hs (j + 1) (by simpa using hj) (by simpa using hj') (by omega))
theorem sameCB_no (a b : List Cor) (k : Nat) (h : k < a.length) (h' : k < b.length) (hs : sameToC a b k) (he : eqCB a[k] b[k] = false) : sameCB a b = false := by
  rw [sameCB_drop k a b (by omega) (by omega) hs, List.drop_eq_getElem_cons h, List.drop_eq_getElem_cons h']
  simp [sameCB, he]
theorem sameCB_yes (a b : List Cor) (h : a.length = b.length) (hs : sameToC a b a.length) : sameCB a b = true := by
  rw [sameCB_drop a.length a b (Nat.le_refl _) (by omega) hs]
  rw [List.drop_of_length_le (Nat.le_refl _), List.drop_of_length_le (by omega)]
  rfl
theorem sameToC_next {a b : List Cor} {k : Nat} (hs : sameToC a b k) (h : k < a.length) (h' : k < b.length) (he : eqCB a[k] b[k] = true) : sameToC a b (k + 1) := by
  intro j hj hj' hjk
  by_cases e : j < k
  · exact hs j hj hj' e
  · have : j = k := by omega
    subst this; exact he
theorem cases6 (a b c d e f : Bool) : a = false ∨ (a = true ∧ (b = false ∨ (b = true ∧ (c = false ∨ (c = true ∧ (d = false ∨ (d = true ∧ (e = false ∨ (e = true ∧ (f = false ∨ f = true)))))))))) := by
  cases a <;> cases b <;> cases c <;> cases d <;> cases e <;> cases f <;> simp
theorem specSameC_len (g1 g2 n m c1 c2 : Nat) (w : World) (h : ((n : Int) != (m : Int)) = true) :
    Calls Try.prog 6 #[.slice (some ⟨g1, 0, none⟩) n c1, .slice (some ⟨g2, 0, none⟩) m c2] w fun e w' => e = .returned (.bool false) ∧ Below w.heap.size w w' := by
  go_enter Try.func6, Try.ntmps6
  go_wp2
  go_ret
  exact ⟨rfl, Below.refl _ _⟩
set_option maxRecDepth 100000 in
set_option maxHeartbeats 4000000 in
theorem specSameC_some (g1 g2 c1 c2 B1 B2 : Nat) (a b : List Cor) (w : World) (hl : a.length ≤ 1048576) (he : a.length = b.length) (hz : ∀ (k : Nat) (h : k < a.length), a[k].small) (hA : RowC w B1 g1 a) (hB : RowC w B2 g2 b) :
    Calls Try.prog 6 #[.slice (some ⟨g1, 0, none⟩) a.length c1, .slice (some ⟨g2, 0, none⟩) a.length c2] w fun e w' => e = .returned (.bool (sameCB a b)) ∧ Below w.heap.size w w' := by
  have HA : Hid (RowC w B1 g1 a) := hA
  have HB : Hid (RowC w B2 g2 b) := hB
  have HE : Hid (a.length = b.length) := he
  have HZ : Hid (∀ (k : Nat) (h : k < a.length), a[k].small) := hz
  clear hA hB he hz
  obtain ⟨R, hR⟩ : ∃ R : Bool, R = sameCB a b := ⟨_, rfl⟩
  rw [← hR]
  have HR : Hid (R = sameCB a b) := hR
  clear hR
  go_enter Try.func6, Try.ntmps6
  go_wp2_with fail
  go_loopw [5] (fun i wr => ∃ k : Nat, k ≤ a.length ∧ i = .int .i64 (k : Int) ∧ Hid (sameToC a b k) ∧ Hid (Below w.heap.size w wr)) (fun i _ => a.length - (RowKit.intOf i).toNat)
  case atStart => exact ⟨0, Nat.zero_le _, rfl, fun j _ _ hj => by omega, Below.refl _ _⟩
  case round =>
    obtain ⟨k, hk, rfl, HS, HW⟩ := hrel
    by_cases hlt : k < a.length
    · have hlb : k < b.length := by have := HE.out; omega
      have hra := HA.out.below HW.out k hlt
      have hrb := HB.out.below HW.out k hlb
      have hsm := HZ.out k hlt
      obtain ⟨t, ht⟩ : ∃ t, t = a[k]'hlt := ⟨_, rfl⟩
      obtain ⟨u, hu⟩ : ∃ u, u = b[k]'hlb := ⟨_, rfl⟩
      rw [← ht] at hra hsm
      rw [← hu] at hrb
      obtain ⟨p0, p1, p2, p3, p4, ga, p5, oa⟩ := hra
      obtain ⟨q0, q1, q2, q3, q4, gb, q5, ob⟩ := hrb
      obtain ⟨sd, hsd⟩ : ∃ sd, sd = sameB t.data u.data := ⟨_, rfl⟩
      have HT : Hid (∀ p : BW wr, Calls Try.prog 13 #[.slice (some ⟨ga, 0, none⟩) t.data.length t.data.length, .slice (some ⟨gb, 0, none⟩) u.data.length u.data.length] p.x fun e w' => e = .returned (.bool sd) ∧ Below p.x.heap.size p.x w') := fun p => by rw [hsd]; exact specSame_any _ _ _ _ B1 B2 t.data u.data p.x hsm.len (own_below oa p.h) (own_below ob p.h)
      have a0 : ∀ p : BW wr, p.x.cell? ⟨g1, k * 6, none⟩ = some (.int .i64 t.kind) := fun p => p.cell p0
      have a1 : ∀ p : BW wr, p.x.cell? ⟨g1, k * 6 + 1, none⟩ = some (.int .i64 t.parent) := fun p => p.cell p1
      have a2 : ∀ p : BW wr, p.x.cell? ⟨g1, k * 6 + 2, none⟩ = some (.int .i64 t.a) := fun p => p.cell p2
      have a3 : ∀ p : BW wr, p.x.cell? ⟨g1, k * 6 + 3, none⟩ = some (.int .i64 t.b) := fun p => p.cell p3
      have a4 : ∀ p : BW wr, p.x.cell? ⟨g1, k * 6 + 4, none⟩ = some (.string t.name) := fun p => p.cell p4
      have a5 : ∀ p : BW wr, p.x.cell? ⟨g1, k * 6 + 5, none⟩ = some (.slice (some ⟨ga, 0, none⟩) t.data.length t.data.length) := fun p => p.cell p5
      have d0 : ∀ p : BW wr, p.x.cell? ⟨g2, k * 6, none⟩ = some (.int .i64 u.kind) := fun p => p.cell q0
      have d1 : ∀ p : BW wr, p.x.cell? ⟨g2, k * 6 + 1, none⟩ = some (.int .i64 u.parent) := fun p => p.cell q1
      have d2 : ∀ p : BW wr, p.x.cell? ⟨g2, k * 6 + 2, none⟩ = some (.int .i64 u.a) := fun p => p.cell q2
      have d3 : ∀ p : BW wr, p.x.cell? ⟨g2, k * 6 + 3, none⟩ = some (.int .i64 u.b) := fun p => p.cell q3
      have d4 : ∀ p : BW wr, p.x.cell? ⟨g2, k * 6 + 4, none⟩ = some (.string u.name) := fun p => p.cell q4
      have d5 : ∀ p : BW wr, p.x.cell? ⟨g2, k * 6 + 5, none⟩ = some (.slice (some ⟨gb, 0, none⟩) u.data.length u.data.length) := fun p => p.cell q5
      have hne := bw_some wr
      have HQ : Hid (eqCB (a[k]'hlt) (b[k]'hlb) = (t.kind == u.kind && (t.parent == u.parent && (t.a == u.a && (t.b == u.b && (t.name.toList == u.name.toList && sd)))))) := by show _ = _; rw [← ht, ← hu, hsd]; rfl
      clear p0 p1 p2 p3 p4 p5 q0 q1 q2 q3 q4 q5 oa ob ht hu hsd hsm
      rcases cases6 (t.kind == u.kind) (t.parent == u.parent) (t.a == u.a) (t.b == u.b) (t.name.toList == u.name.toList) sd with e0 | ⟨e0, e1 | ⟨e1, e2 | ⟨e2, e3 | ⟨e3, e4 | ⟨e4, rfl | rfl⟩⟩⟩⟩⟩
      · have n0 : (t.kind != u.kind) = true := by simp [bne, e0]
        have HQ2 : Hid (eqCB (a[k]'hlt) (b[k]'hlb) = false) := by show _ = _; rw [show eqCB (a[k]'hlt) (b[k]'hlb) = _ from HQ.out]; simp [e0]
        clear HQ
        go_wp2_with fail
        refine wp_region_below (by kernel_rfl) (by kernel_rfl) ?_
        simp only [List.append_eq, List.cons_append, List.nil_append]
        repeat (go_big_quiet_step ((go_at_call 13; exact calls_bw (HT.out _))))
        refine wpQuiet_nil ?_
        intro wq hw'
        obtain ⟨⟨_, bq⟩, rfl⟩ := hw'
        have HB2 : Hid _ := HW.out.trans (bq.mono HW.out.size)
        clear bq a0 a1 a2 a3 a4 a5 d0 d1 d2 d3 d4 d5 hne
        go_wp2
        first
          | exact ⟨⟨k + 1, by omega, by go_num, sameToC_next HS.out hlt hlb HQ2.out, HB2.out⟩, by simp [RowKit.intOf]; omega⟩
          | (go_ret; exact ⟨by rw [HR.out, sameCB_no a b k hlt hlb HS.out HQ2.out]; rfl, HB2.out⟩)
      · have n0 : (t.kind != u.kind) = false := by simp [bne, e0]
        have n1 : (t.parent != u.parent) = true := by simp [bne, e1]
        have HQ2 : Hid (eqCB (a[k]'hlt) (b[k]'hlb) = false) := by show _ = _; rw [show eqCB (a[k]'hlt) (b[k]'hlb) = _ from HQ.out]; simp [e0, e1]
        clear HQ
        go_wp2_with fail
        refine wp_region_below (by kernel_rfl) (by kernel_rfl) ?_
        simp only [List.append_eq, List.cons_append, List.nil_append]
        repeat (go_big_quiet_step ((go_at_call 13; exact calls_bw (HT.out _))))
        refine wpQuiet_nil ?_
        intro wq hw'
        obtain ⟨⟨_, bq⟩, rfl⟩ := hw'
        have HB2 : Hid _ := HW.out.trans (bq.mono HW.out.size)
        clear bq a0 a1 a2 a3 a4 a5 d0 d1 d2 d3 d4 d5 hne
        go_wp2
        first
          | exact ⟨⟨k + 1, by omega, by go_num, sameToC_next HS.out hlt hlb HQ2.out, HB2.out⟩, by simp [RowKit.intOf]; omega⟩
          | (go_ret; exact ⟨by rw [HR.out, sameCB_no a b k hlt hlb HS.out HQ2.out]; rfl, HB2.out⟩)
      · have n0 : (t.kind != u.kind) = false := by simp [bne, e0]
        have n1 : (t.parent != u.parent) = false := by simp [bne, e1]
        have n2 : (t.a != u.a) = true := by simp [bne, e2]
        have HQ2 : Hid (eqCB (a[k]'hlt) (b[k]'hlb) = false) := by show _ = _; rw [show eqCB (a[k]'hlt) (b[k]'hlb) = _ from HQ.out]; simp [e0, e1, e2]
        clear HQ
        go_wp2_with fail
        refine wp_region_below (by kernel_rfl) (by kernel_rfl) ?_
        simp only [List.append_eq, List.cons_append, List.nil_append]
        repeat (go_big_quiet_step ((go_at_call 13; exact calls_bw (HT.out _))))
        refine wpQuiet_nil ?_
        intro wq hw'
        obtain ⟨⟨_, bq⟩, rfl⟩ := hw'
        have HB2 : Hid _ := HW.out.trans (bq.mono HW.out.size)
        clear bq a0 a1 a2 a3 a4 a5 d0 d1 d2 d3 d4 d5 hne
        go_wp2
        first
          | exact ⟨⟨k + 1, by omega, by go_num, sameToC_next HS.out hlt hlb HQ2.out, HB2.out⟩, by simp [RowKit.intOf]; omega⟩
          | (go_ret; exact ⟨by rw [HR.out, sameCB_no a b k hlt hlb HS.out HQ2.out]; rfl, HB2.out⟩)
      · have n0 : (t.kind != u.kind) = false := by simp [bne, e0]
        have n1 : (t.parent != u.parent) = false := by simp [bne, e1]
        have n2 : (t.a != u.a) = false := by simp [bne, e2]
        have n3 : (t.b != u.b) = true := by simp [bne, e3]
        have HQ2 : Hid (eqCB (a[k]'hlt) (b[k]'hlb) = false) := by show _ = _; rw [show eqCB (a[k]'hlt) (b[k]'hlb) = _ from HQ.out]; simp [e0, e1, e2, e3]
        clear HQ
        go_wp2_with fail
        refine wp_region_below (by kernel_rfl) (by kernel_rfl) ?_
        simp only [List.append_eq, List.cons_append, List.nil_append]
        repeat (go_big_quiet_step ((go_at_call 13; exact calls_bw (HT.out _))))
        refine wpQuiet_nil ?_
        intro wq hw'
        obtain ⟨⟨_, bq⟩, rfl⟩ := hw'
        have HB2 : Hid _ := HW.out.trans (bq.mono HW.out.size)
        clear bq a0 a1 a2 a3 a4 a5 d0 d1 d2 d3 d4 d5 hne
        go_wp2
        first
          | exact ⟨⟨k + 1, by omega, by go_num, sameToC_next HS.out hlt hlb HQ2.out, HB2.out⟩, by simp [RowKit.intOf]; omega⟩
          | (go_ret; exact ⟨by rw [HR.out, sameCB_no a b k hlt hlb HS.out HQ2.out]; rfl, HB2.out⟩)
      · have n0 : (t.kind != u.kind) = false := by simp [bne, e0]
        have n1 : (t.parent != u.parent) = false := by simp [bne, e1]
        have n2 : (t.a != u.a) = false := by simp [bne, e2]
        have n3 : (t.b != u.b) = false := by simp [bne, e3]
        have n4 : (t.name.toList != u.name.toList) = true := by simp [bne, e4]
        have HQ2 : Hid (eqCB (a[k]'hlt) (b[k]'hlb) = false) := by show _ = _; rw [show eqCB (a[k]'hlt) (b[k]'hlb) = _ from HQ.out]; simp [e0, e1, e2, e3, e4]
        clear HQ
        go_wp2_with fail
        refine wp_region_below (by kernel_rfl) (by kernel_rfl) ?_
        simp only [List.append_eq, List.cons_append, List.nil_append]
        repeat (go_big_quiet_step ((go_at_call 13; exact calls_bw (HT.out _))))
        refine wpQuiet_nil ?_
        intro wq hw'
        obtain ⟨⟨_, bq⟩, rfl⟩ := hw'
        have HB2 : Hid _ := HW.out.trans (bq.mono HW.out.size)
        clear bq a0 a1 a2 a3 a4 a5 d0 d1 d2 d3 d4 d5 hne
        go_wp2
        first
          | exact ⟨⟨k + 1, by omega, by go_num, sameToC_next HS.out hlt hlb HQ2.out, HB2.out⟩, by simp [RowKit.intOf]; omega⟩
          | (go_ret; exact ⟨by rw [HR.out, sameCB_no a b k hlt hlb HS.out HQ2.out]; rfl, HB2.out⟩)
      · have n0 : (t.kind != u.kind) = false := by simp [bne, e0]
        have n1 : (t.parent != u.parent) = false := by simp [bne, e1]
        have n2 : (t.a != u.a) = false := by simp [bne, e2]
        have n3 : (t.b != u.b) = false := by simp [bne, e3]
        have n4 : (t.name.toList != u.name.toList) = false := by simp [bne, e4]
        have HQ2 : Hid (eqCB (a[k]'hlt) (b[k]'hlb) = false) := by show _ = _; rw [show eqCB (a[k]'hlt) (b[k]'hlb) = _ from HQ.out]; simp [e0, e1, e2, e3, e4]
        clear HQ
        go_wp2_with fail
        refine wp_region_below (by kernel_rfl) (by kernel_rfl) ?_
        simp only [List.append_eq, List.cons_append, List.nil_append]
        repeat (go_big_quiet_step ((go_at_call 13; exact calls_bw (HT.out _))))
        refine wpQuiet_nil ?_
        intro wq hw'
        obtain ⟨⟨_, bq⟩, rfl⟩ := hw'
        have HB2 : Hid _ := HW.out.trans (bq.mono HW.out.size)
        clear bq a0 a1 a2 a3 a4 a5 d0 d1 d2 d3 d4 d5 hne
        go_wp2
        first
          | exact ⟨⟨k + 1, by omega, by go_num, sameToC_next HS.out hlt hlb HQ2.out, HB2.out⟩, by simp [RowKit.intOf]; omega⟩
          | (go_ret; exact ⟨by rw [HR.out, sameCB_no a b k hlt hlb HS.out HQ2.out]; rfl, HB2.out⟩)
      · have n0 : (t.kind != u.kind) = false := by simp [bne, e0]
        have n1 : (t.parent != u.parent) = false := by simp [bne, e1]
        have n2 : (t.a != u.a) = false := by simp [bne, e2]
        have n3 : (t.b != u.b) = false := by simp [bne, e3]
        have n4 : (t.name.toList != u.name.toList) = false := by simp [bne, e4]
        have HQ2 : Hid (eqCB (a[k]'hlt) (b[k]'hlb) = true) := by show _ = _; rw [show eqCB (a[k]'hlt) (b[k]'hlb) = _ from HQ.out]; simp [e0, e1, e2, e3, e4]
        clear HQ
        go_wp2_with fail
        refine wp_region_below (by kernel_rfl) (by kernel_rfl) ?_
        simp only [List.append_eq, List.cons_append, List.nil_append]
        repeat (go_big_quiet_step ((go_at_call 13; exact calls_bw (HT.out _))))
        refine wpQuiet_nil ?_
        intro wq hw'
        obtain ⟨⟨_, bq⟩, rfl⟩ := hw'
        have HB2 : Hid _ := HW.out.trans (bq.mono HW.out.size)
        clear bq a0 a1 a2 a3 a4 a5 d0 d1 d2 d3 d4 d5 hne
        go_wp2
        first
          | exact ⟨⟨k + 1, by omega, by go_num, sameToC_next HS.out hlt hlb HQ2.out, HB2.out⟩, by simp [RowKit.intOf]; omega⟩
          | (go_ret; exact ⟨by rw [HR.out, sameCB_no a b k hlt hlb HS.out HQ2.out]; rfl, HB2.out⟩)
    · have HF : Hid (R = true) := by
        have hkl : k = a.length := by omega
        have hs := HS.out
        rw [hkl] at hs
        show R = true
        rw [HR.out, sameCB_yes a b HE.out hs]
      go_wp2
      go_ret
      exact ⟨by rw [HF.out]; rfl, HW.out⟩
theorem specSameC_any (g1 g2 c1 c2 B1 B2 : Nat) (a b : List Cor) (w : World) (hl : a.length ≤ 1048576) (hz : ∀ (k : Nat) (h : k < a.length), a[k].small) (hA : RowC w B1 g1 a) (hB : RowC w B2 g2 b) :
    Calls Try.prog 6 #[.slice (some ⟨g1, 0, none⟩) a.length c1, .slice (some ⟨g2, 0, none⟩) b.length c2] w fun e w' => e = .returned (.bool (sameCB a b)) ∧ Below w.heap.size w w' := by
  by_cases he : a.length = b.length
  · have := specSameC_some g1 g2 c1 c2 B1 B2 a b w hl he hz hA hB
    rw [he] at this ⊢
    exact this
  · rw [sameCB_len a b he]
    exact specSameC_len g1 g2 a.length b.length c1 c2 w (by rw [bne_iff_ne]; omega)
end Go.Proofs.Ytedippcicnhalaa
