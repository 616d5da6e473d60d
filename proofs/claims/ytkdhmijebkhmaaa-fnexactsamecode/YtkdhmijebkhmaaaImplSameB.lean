/-
  The library's slices.EqualFunc with the program's sameOp and sameBlock, and the program's SameCode; nothing is turned.
-/
import Derived.Test.YtkdhmijebkhmaaaImplSameA
namespace Go.Proofs.Ytkdhmijebkhmaaa
open Go.RowKit Go.Extern.Stop Go.Stop Go.Extern Num Go.Lib

theorem cell_oldB {w : World} {p : Addr} {v : Value} (h : w.cell? p = some v) (o : Obj) : (w.alloc o).cell? p = some v := cell_keep ((Below.refl _ w).alloc (Nat.le_refl _) o) h
theorem implEqFOp_len (g1 g2 n m c1 c2 : Nat) (f : Value) (w : World) (h : ((n : Int) != (m : Int)) = true) :
    Calls Try.prog 18 #[.slice (some ⟨g1, 0, none⟩) n c1, .slice (some ⟨g2, 0, none⟩) m c2, f] w fun e w' => e = .returned (.bool false) ∧ Below w.heap.size w w' := by
  go_enter Try.func18, Try.ntmps18
  go_wp2
  go_ret
  exact ⟨rfl, Below.refl _ _⟩
set_option maxRecDepth 100000 in
set_option maxHeartbeats 4000000 in
theorem implEqFOp_some (g1 g2 c1 c2 B1 B2 : Nat) (a b : List Opr) (w : World) (hl : a.length ≤ 1048576) (he : a.length = b.length) (hz : ∀ (k : Nat) (h : k < a.length), a[k].small) (hA : RowOp w B1 g1 a) (hB : RowOp w B2 g2 b) :
    Calls Try.prog 18 #[.slice (some ⟨g1, 0, none⟩) a.length c1, .slice (some ⟨g2, 0, none⟩) a.length c2, .func (.func 19) #[] #[]] w fun e w' => e = .returned (.bool (sameL eqOB a b)) ∧ Below w.heap.size w w' := by
  have HA : Hid (RowOp w B1 g1 a) := hA
  have HB : Hid (RowOp w B2 g2 b) := hB
  have HE : Hid (a.length = b.length) := he
  have HZ : Hid (∀ (k : Nat) (h : k < a.length), a[k].small) := hz
  clear hA hB he hz
  obtain ⟨R, hR⟩ : ∃ R : Bool, R = sameL eqOB a b := ⟨_, rfl⟩
  rw [← hR]
  have HR : Hid (R = sameL eqOB a b) := hR
  clear hR
  go_enter Try.func18, Try.ntmps18
  go_wp2_with fail
  go_loopw [17] (fun i wr => ∃ k : Nat, k ≤ a.length ∧ i = .int .i64 (k : Int) ∧ Hid (sameToL eqOB a b k) ∧ Hid (Below w.heap.size w wr)) (fun i _ => a.length - (RowKit.intOf i).toNat)
  case atStart => exact ⟨0, Nat.zero_le _, rfl, fun j _ _ hj => by omega, Below.refl _ _⟩
  case round =>
    obtain ⟨k, hk, rfl, HS, HW⟩ := hrel
    by_cases hlt : k < a.length
    · have hlb : k < b.length := by have := HE.out; omega
      have hra := HA.out.below HW.out k hlt
      have hrb := HB.out.below HW.out k hlb
      have hsm := HZ.out k hlt
      obtain ⟨t, ht⟩ : ∃ t, t = a[k]'hlt := ⟨_, rfl⟩
      obtain ⟨u, hu⟩ : ∃ u, u = b[k]'hlb := ⟨_, rfl⟩
      rw [← ht] at hra hsm
      rw [← hu] at hrb
      obtain ⟨p0, p1, p2, p3, p4, p5, ga, pz, oa⟩ := hra
      obtain ⟨q0, q1, q2, q3, q4, q5, gb, qz, ob⟩ := hrb
      obtain ⟨r, hr⟩ : ∃ r, r = eqOB t u := ⟨_, rfl⟩
      have HX : Hid (∀ x, Below wr.heap.size wr x → Calls Try.prog 19 #[t.val (.slice (some ⟨ga, 0, none⟩) t.data.length t.data.length), u.val (.slice (some ⟨gb, 0, none⟩) u.data.length u.data.length)] x fun e w' => e = .returned (.bool r) ∧ Below x.heap.size x w') := fun x hx => by rw [hr]; exact sameOp_any t u ga gb B1 B2 x hsm.len (oa.below hx) (ob.below hx)
      have HQ : Hid (eqOB (a[k]'hlt) (b[k]'hlb) = r) := by show _ = _; rw [← ht, ← hu, hr]
      have s0 := cell_oldB q0
      have s1 := cell_oldB q1
      have s2 := cell_oldB q2
      have s3 := cell_oldB q3
      have s4 := cell_oldB q4
      have s5 := cell_oldB q5
      have sz := cell_oldB qz
      clear oa ob ht hu hr hsm q0 q1 q2 q3 q4 q5 qz
      cases r with
      | true =>
        go_wp2_with (go_at_call 19; refine (HX.out _ (((Below.refl _ wr).alloc (Nat.le_refl _) _).alloc (by simp) _)).mono ?_; rintro e w1 ⟨rfl, b1⟩)
        exact ⟨⟨k + 1, by omega, by go_num, sameToL_next HS.out hlt hlb HQ.out, HW.out.trans (((((Below.refl _ wr).alloc (Nat.le_refl _) _).alloc (by simp) _).trans (b1.mono (by simp; omega))).mono HW.out.size)⟩, by simp [RowKit.intOf]; omega⟩
      | false =>
        go_wp2_with (go_at_call 19; refine (HX.out _ (((Below.refl _ wr).alloc (Nat.le_refl _) _).alloc (by simp) _)).mono ?_; rintro e w1 ⟨rfl, b1⟩)
        go_ret
        exact ⟨by rw [HR.out, sameL_no a b k hlt hlb HS.out HQ.out]; rfl, HW.out.trans (((((Below.refl _ wr).alloc (Nat.le_refl _) _).alloc (by simp) _).trans (b1.mono (by simp; omega))).mono HW.out.size)⟩
    · have HF : Hid (R = true) := by
        have hkl : k = a.length := by omega
        have hs := HS.out
        rw [hkl] at hs
        show R = true
        rw [HR.out, sameL_yes a b HE.out hs]
      go_wp2
      go_ret
      exact ⟨by rw [HF.out]; rfl, HW.out⟩
theorem implEqFOp_any (g1 g2 c1 c2 B1 B2 : Nat) (a b : List Opr) (w : World) (hl : a.length ≤ 1048576) (hz : ∀ (k : Nat) (h : k < a.length), a[k].small) (hA : RowOp w B1 g1 a) (hB : RowOp w B2 g2 b) :
    Calls Try.prog 18 #[.slice (some ⟨g1, 0, none⟩) a.length c1, .slice (some ⟨g2, 0, none⟩) b.length c2, .func (.func 19) #[] #[]] w fun e w' => e = .returned (.bool (sameL eqOB a b)) ∧ Below w.heap.size w w' := by
  by_cases he : a.length = b.length
  · have := implEqFOp_some g1 g2 c1 c2 B1 B2 a b w hl he hz hA hB
    rw [he] at this ⊢
    exact this
  · rw [sameL_len eqOB a b he]
    exact implEqFOp_len g1 g2 a.length b.length c1 c2 _ w (by rw [bne_iff_ne]; omega)
set_option maxRecDepth 100000 in
set_option maxHeartbeats 2000000 in
theorem sameBlock_any (t u : Blk) (ga gb B1 B2 : Nat) (w : World) (ht : t.small) (oa : IsOp w B1 ga t.ops.length t.ops) (ob : IsOp w B2 gb u.ops.length u.ops) :
    Calls Try.prog 13 #[t.val (.slice (some ⟨ga, 0, none⟩) t.ops.length t.ops.length), u.val (.slice (some ⟨gb, 0, none⟩) u.ops.length u.ops.length)] w fun e w' => e = .returned (.bool (eqBB t u)) ∧ Below w.heap.size w w' := by
  obtain ⟨sd, hsd⟩ : ∃ sd, sd = sameL eqOB t.ops u.ops := ⟨_, rfl⟩
  have HS : Hid (∀ x, Below w.heap.size w x → Calls Try.prog 18 #[.slice (some ⟨ga, 0, none⟩) t.ops.length t.ops.length, .slice (some ⟨gb, 0, none⟩) u.ops.length u.ops.length, .func (.func 19) #[] #[]] x fun e w' => e = .returned (.bool sd) ∧ Below x.heap.size x w') := fun x hx => by rw [hsd]; exact implEqFOp_any _ _ _ _ B1 B2 t.ops u.ops x ht.len ht.names (oa.below hx).row (ob.below hx).row
  obtain ⟨R, hR⟩ : ∃ R, R = eqBB t u := ⟨_, rfl⟩
  rw [← hR]
  have HR : Hid (R = (t.args == u.args && sd)) := by show _ = _; rw [hR, hsd]; rfl
  clear hR hsd oa ob ht
  go_enter Try.func13, Try.ntmps13
  go_wp2_with (go_at_call 18; refine (HS.out _ (((Below.refl _ w).alloc (Nat.le_refl _) _).alloc (by simp) _)).mono ?_; rintro e w1 ⟨rfl, b1⟩)
  · go_ret
    exact ⟨by rw [show R = _ from HR.out]; simp [*], (((Below.refl _ w).alloc (Nat.le_refl _) _).alloc (by simp) _).trans (b1.mono (by simp; omega))⟩
  all_goals
    go_ret
    exact ⟨by rw [show R = _ from HR.out]; simp [*], ((Below.refl _ w).alloc (Nat.le_refl _) _).alloc (by simp) _⟩
theorem implEqFBl_len (g1 g2 n m c1 c2 : Nat) (f : Value) (w : World) (h : ((n : Int) != (m : Int)) = true) :
    Calls Try.prog 12 #[.slice (some ⟨g1, 0, none⟩) n c1, .slice (some ⟨g2, 0, none⟩) m c2, f] w fun e w' => e = .returned (.bool false) ∧ Below w.heap.size w w' := by
  go_enter Try.func12, Try.ntmps12
  go_wp2
  go_ret
  exact ⟨rfl, Below.refl _ _⟩
set_option maxRecDepth 100000 in
set_option maxHeartbeats 4000000 in
theorem implEqFBl_some (g1 g2 c1 c2 B1 B2 : Nat) (a b : List Blk) (w : World) (hl : a.length ≤ 1048576) (he : a.length = b.length) (hz : ∀ (k : Nat) (h : k < a.length), a[k].small) (hA : RowBl w B1 g1 a) (hB : RowBl w B2 g2 b) :
    Calls Try.prog 12 #[.slice (some ⟨g1, 0, none⟩) a.length c1, .slice (some ⟨g2, 0, none⟩) a.length c2, .func (.func 13) #[] #[]] w fun e w' => e = .returned (.bool (sameL eqBB a b)) ∧ Below w.heap.size w w' := by
  have HA : Hid (RowBl w B1 g1 a) := hA
  have HB : Hid (RowBl w B2 g2 b) := hB
  have HE : Hid (a.length = b.length) := he
  have HZ : Hid (∀ (k : Nat) (h : k < a.length), a[k].small) := hz
  clear hA hB he hz
  obtain ⟨R, hR⟩ : ∃ R : Bool, R = sameL eqBB a b := ⟨_, rfl⟩
  rw [← hR]
  have HR : Hid (R = sameL eqBB a b) := hR
  clear hR
  go_enter Try.func12, Try.ntmps12
  go_wp2_with fail
  go_loopw [17] (fun i wr => ∃ k : Nat, k ≤ a.length ∧ i = .int .i64 (k : Int) ∧ Hid (sameToL eqBB a b k) ∧ Hid (Below w.heap.size w wr)) (fun i _ => a.length - (RowKit.intOf i).toNat)
  case atStart => exact ⟨0, Nat.zero_le _, rfl, fun j _ _ hj => by omega, Below.refl _ _⟩
  case round =>
    obtain ⟨k, hk, rfl, HS, HW⟩ := hrel
    by_cases hlt : k < a.length
    · have hlb : k < b.length := by have := HE.out; omega
      have hra := HA.out.below HW.out k hlt
      have hrb := HB.out.below HW.out k hlb
      have hsm := HZ.out k hlt
      obtain ⟨t, ht⟩ : ∃ t, t = a[k]'hlt := ⟨_, rfl⟩
      obtain ⟨u, hu⟩ : ∃ u, u = b[k]'hlb := ⟨_, rfl⟩
      rw [← ht] at hra hsm
      rw [← hu] at hrb
      obtain ⟨p0, ga, pz, oa⟩ := hra
      obtain ⟨q0, gb, qz, ob⟩ := hrb
      obtain ⟨r, hr⟩ : ∃ r, r = eqBB t u := ⟨_, rfl⟩
      have HX : Hid (∀ x, Below wr.heap.size wr x → Calls Try.prog 13 #[t.val (.slice (some ⟨ga, 0, none⟩) t.ops.length t.ops.length), u.val (.slice (some ⟨gb, 0, none⟩) u.ops.length u.ops.length)] x fun e w' => e = .returned (.bool r) ∧ Below x.heap.size x w') := fun x hx => by rw [hr]; exact sameBlock_any t u ga gb B1 B2 x hsm (oa.below hx) (ob.below hx)
      have HQ : Hid (eqBB (a[k]'hlt) (b[k]'hlb) = r) := by show _ = _; rw [← ht, ← hu, hr]
      have s0 := cell_oldB q0
      have sz := cell_oldB qz
      clear oa ob ht hu hr hsm q0 qz
      cases r with
      | true =>
        go_wp2_with (go_at_call 13; refine (HX.out _ (((Below.refl _ wr).alloc (Nat.le_refl _) _).alloc (by simp) _)).mono ?_; rintro e w1 ⟨rfl, b1⟩)
        exact ⟨⟨k + 1, by omega, by go_num, sameToL_next HS.out hlt hlb HQ.out, HW.out.trans (((((Below.refl _ wr).alloc (Nat.le_refl _) _).alloc (by simp) _).trans (b1.mono (by simp; omega))).mono HW.out.size)⟩, by simp [RowKit.intOf]; omega⟩
      | false =>
        go_wp2_with (go_at_call 13; refine (HX.out _ (((Below.refl _ wr).alloc (Nat.le_refl _) _).alloc (by simp) _)).mono ?_; rintro e w1 ⟨rfl, b1⟩)
        go_ret
        exact ⟨by rw [HR.out, sameL_no a b k hlt hlb HS.out HQ.out]; rfl, HW.out.trans (((((Below.refl _ wr).alloc (Nat.le_refl _) _).alloc (by simp) _).trans (b1.mono (by simp; omega))).mono HW.out.size)⟩
    · have HF : Hid (R = true) := by
        have hkl : k = a.length := by omega
        have hs := HS.out
        rw [hkl] at hs
        show R = true
        rw [HR.out, sameL_yes a b HE.out hs]
      go_wp2
      go_ret
      exact ⟨by rw [HF.out]; rfl, HW.out⟩
theorem implEqFBl_any (g1 g2 c1 c2 B1 B2 : Nat) (a b : List Blk) (w : World) (hl : a.length ≤ 1048576) (hz : ∀ (k : Nat) (h : k < a.length), a[k].small) (hA : RowBl w B1 g1 a) (hB : RowBl w B2 g2 b) :
    Calls Try.prog 12 #[.slice (some ⟨g1, 0, none⟩) a.length c1, .slice (some ⟨g2, 0, none⟩) b.length c2, .func (.func 13) #[] #[]] w fun e w' => e = .returned (.bool (sameL eqBB a b)) ∧ Below w.heap.size w w' := by
  by_cases he : a.length = b.length
  · have := implEqFBl_some g1 g2 c1 c2 B1 B2 a b w hl he hz hA hB
    rw [he] at this ⊢
    exact this
  · rw [sameL_len eqBB a b he]
    exact implEqFBl_len g1 g2 a.length b.length c1 c2 _ w (by rw [bne_iff_ne]; omega)
theorem implSB_any (g1 g2 c1 c2 B1 B2 : Nat) (a b : List Blk) (w : World) (hl : a.length ≤ 1048576) (hz : ∀ (k : Nat) (h : k < a.length), a[k].small) (hA : RowBl w B1 g1 a) (hB : RowBl w B2 g2 b) :
    Calls Try.prog 7 #[.slice (some ⟨g1, 0, none⟩) a.length c1, .slice (some ⟨g2, 0, none⟩) b.length c2] w fun e w' => e = .returned (.bool (sameL eqBB a b)) ∧ Below w.heap.size w w' := by
  have HS : Hid (Calls Try.prog 12 #[.slice (some ⟨g1, 0, none⟩) a.length c1, .slice (some ⟨g2, 0, none⟩) b.length c2, .func (.func 13) #[] #[]] w fun e w' => e = .returned (.bool (sameL eqBB a b)) ∧ Below w.heap.size w w') := implEqFBl_any g1 g2 c1 c2 B1 B2 a b w hl hz hA hB
  clear hA hB hz hl
  generalize sameL eqBB a b = R at HS ⊢
  go_enter Try.func7, Try.ntmps7
  go_wp2_with (go_at_call 12; refine HS.out.mono ?_; rintro e w' ⟨rfl, hb⟩)
  go_ret
  exact ⟨rfl, hb⟩
end Go.Proofs.Ytkdhmijebkhmaaa
