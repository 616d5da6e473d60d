/-
  The program's sameCore, the library's slices.EqualFunc with it, and the program's SameCores: whether two lists of cores are the same; nothing is turned.
-/
import Derived.Test.YtedippcicnhalaaSpecSameC
import Derived.Test.YtedippcicnhalaaImplSameD
namespace Go.Proofs.Ytedippcicnhalaa
open Go.RowKit Go.Extern.Stop Go.Stop Go.Extern Num Go.Lib

set_option maxRecDepth 100000 in
set_option maxHeartbeats 2000000 in
theorem sameCore_any (t u : Cor) (ga gb B1 B2 : Nat) (w : World) (ht : t.small) (oa : w.ownsRow B1 43 4 (.slice (some ⟨ga, 0, none⟩) t.data.length t.data.length) t.data.length (cellsD t.data)) (ob : w.ownsRow B2 43 4 (.slice (some ⟨gb, 0, none⟩) u.data.length u.data.length) u.data.length (cellsD u.data)) :
    Calls Try.prog 16 #[t.val (.slice (some ⟨ga, 0, none⟩) t.data.length t.data.length), u.val (.slice (some ⟨gb, 0, none⟩) u.data.length u.data.length)] w fun e w' => e = .returned (.bool (eqCB t u)) ∧ Below w.heap.size w w' := by
  obtain ⟨sd, hsd⟩ : ∃ sd, sd = sameB t.data u.data := ⟨_, rfl⟩
  have HS : Hid (∀ x, Below w.heap.size w x → Calls Try.prog 20 #[.slice (some ⟨ga, 0, none⟩) t.data.length t.data.length, .slice (some ⟨gb, 0, none⟩) u.data.length u.data.length] x fun e w' => e = .returned (.bool sd) ∧ Below x.heap.size x w') := fun x hx => by rw [hsd]; exact implSame_any _ _ _ _ B1 B2 t.data u.data x ht.len (own_below oa hx) (own_below ob hx)
  obtain ⟨R, hR⟩ : ∃ R, R = eqCB t u := ⟨_, rfl⟩
  rw [← hR]
  have HR : Hid (R = (t.kind == u.kind && (t.parent == u.parent && (t.a == u.a && (t.b == u.b && (t.name.toList == u.name.toList && sd)))))) := by show _ = _; rw [hR, hsd]; rfl
  clear hR hsd oa ob ht
  go_enter Try.func16, Try.ntmps16
  go_wp2_with (go_at_call 20; refine (HS.out _ (((Below.refl _ w).alloc (Nat.le_refl _) _).alloc (by simp) _)).mono ?_; rintro e w1 ⟨rfl, b1⟩)
  · go_ret
    exact ⟨by rw [show R = _ from HR.out]; simp [*], (((Below.refl _ w).alloc (Nat.le_refl _) _).alloc (by simp) _).trans (b1.mono (by simp; omega))⟩
  all_goals
    go_ret
    exact ⟨by rw [show R = _ from HR.out]; simp [*], ((Below.refl _ w).alloc (Nat.le_refl _) _).alloc (by simp) _⟩
theorem implEqF_len (g1 g2 n m c1 c2 : Nat) (f : Value) (w : World) (h : ((n : Int) != (m : Int)) = true) :
    Calls Try.prog 15 #[.slice (some ⟨g1, 0, none⟩) n c1, .slice (some ⟨g2, 0, none⟩) m c2, f] w fun e w' => e = .returned (.bool false) ∧ Below w.heap.size w w' := by
  go_enter Try.func15, Try.ntmps15
  go_wp2
  go_ret
  exact ⟨rfl, Below.refl _ _⟩
theorem cell_old {w : World} {p : Addr} {v : Value} (h : w.cell? p = some v) (o : Obj) : (w.alloc o).cell? p = some v := cell_keep ((Below.refl _ w).alloc (Nat.le_refl _) o) h
set_option maxRecDepth 100000 in
set_option maxHeartbeats 4000000 in
theorem implEqF_some (g1 g2 c1 c2 B1 B2 : Nat) (a b : List Cor) (w : World) (hl : a.length ≤ 1048576) (he : a.length = b.length) (hz : ∀ (k : Nat) (h : k < a.length), a[k].small) (hA : RowC w B1 g1 a) (hB : RowC w B2 g2 b) :
    Calls Try.prog 15 #[.slice (some ⟨g1, 0, none⟩) a.length c1, .slice (some ⟨g2, 0, none⟩) a.length c2, .func (.func 16) #[] #[]] w fun e w' => e = .returned (.bool (sameCB a b)) ∧ Below w.heap.size w w' := by
  have HA : Hid (RowC w B1 g1 a) := hA
  have HB : Hid (RowC w B2 g2 b) := hB
  have HE : Hid (a.length = b.length) := he
  have HZ : Hid (∀ (k : Nat) (h : k < a.length), a[k].small) := hz
  clear hA hB he hz
  obtain ⟨R, hR⟩ : ∃ R : Bool, R = sameCB a b := ⟨_, rfl⟩
  rw [← hR]
  have HR : Hid (R = sameCB a b) := hR
  clear hR
  go_enter Try.func15, Try.ntmps15
  go_wp2_with fail
  go_loopw [17] (fun i wr => ∃ k : Nat, k ≤ a.length ∧ i = .int .i64 (k : Int) ∧ Hid (sameToC a b k) ∧ Hid (Below w.heap.size w wr)) (fun i _ => a.length - (RowKit.intOf i).toNat)
  case atStart => exact ⟨0, Nat.zero_le _, rfl, fun j _ _ hj => by omega, Below.refl _ _⟩
  case round =>
    obtain ⟨k, hk, rfl, HS, HW⟩ := hrel
    by_cases hlt : k < a.length
    · have hlb : k < b.length := by have := HE.out; omega
      have hra := HA.out.below HW.out k hlt
      have hrb := HB.out.below HW.out k hlb
      have hsm := HZ.out k hlt
      obtain ⟨t, ht⟩ : ∃ t, t = a[k]'hlt := ⟨_, rfl⟩
      obtain ⟨u, hu⟩ : ∃ u, u = b[k]'hlb := ⟨_, rfl⟩
      rw [← ht] at hra hsm
      rw [← hu] at hrb
      obtain ⟨p0, p1, p2, p3, p4, ga, p5, oa⟩ := hra
      obtain ⟨q0, q1, q2, q3, q4, gb, q5, ob⟩ := hrb
      obtain ⟨r, hr⟩ : ∃ r, r = eqCB t u := ⟨_, rfl⟩
      have HX : Hid (∀ x, Below wr.heap.size wr x → Calls Try.prog 16 #[t.val (.slice (some ⟨ga, 0, none⟩) t.data.length t.data.length), u.val (.slice (some ⟨gb, 0, none⟩) u.data.length u.data.length)] x fun e w' => e = .returned (.bool r) ∧ Below x.heap.size x w') := fun x hx => by rw [hr]; exact sameCore_any t u ga gb B1 B2 x hsm (own_below oa hx) (own_below ob hx)
      have HQ : Hid (eqCB (a[k]'hlt) (b[k]'hlb) = r) := by show _ = _; rw [← ht, ← hu, hr]
      have s0 := cell_old q0
      have s1 := cell_old q1
      have s2 := cell_old q2
      have s3 := cell_old q3
      have s4 := cell_old q4
      have s5 := cell_old q5
      clear oa ob ht hu hr hsm q0 q1 q2 q3 q4 q5
      cases r with
      | true =>
        go_wp2_with (go_at_call 16; refine (HX.out _ (((Below.refl _ wr).alloc (Nat.le_refl _) _).alloc (by simp) _)).mono ?_; rintro e w1 ⟨rfl, b1⟩)
        exact ⟨⟨k + 1, by omega, by go_num, sameToC_next HS.out hlt hlb HQ.out, HW.out.trans (((((Below.refl _ wr).alloc (Nat.le_refl _) _).alloc (by simp) _).trans (b1.mono (by simp; omega))).mono HW.out.size)⟩, by simp [RowKit.intOf]; omega⟩
      | false =>
        go_wp2_with (go_at_call 16; refine (HX.out _ (((Below.refl _ wr).alloc (Nat.le_refl _) _).alloc (by simp) _)).mono ?_; rintro e w1 ⟨rfl, b1⟩)
        go_ret
        exact ⟨by rw [HR.out, sameCB_no a b k hlt hlb HS.out HQ.out]; rfl, HW.out.trans (((((Below.refl _ wr).alloc (Nat.le_refl _) _).alloc (by simp) _).trans (b1.mono (by simp; omega))).mono HW.out.size)⟩
    · have HF : Hid (R = true) := by
        have hkl : k = a.length := by omega
        have hs := HS.out
        rw [hkl] at hs
        show R = true
        rw [HR.out, sameCB_yes a b HE.out hs]
      go_wp2
      go_ret
      exact ⟨by rw [HF.out]; rfl, HW.out⟩
theorem implSC_any (g1 g2 c1 c2 B1 B2 : Nat) (a b : List Cor) (w : World) (hl : a.length ≤ 1048576) (hz : ∀ (k : Nat) (h : k < a.length), a[k].small) (hA : RowC w B1 g1 a) (hB : RowC w B2 g2 b) :
    Calls Try.prog 8 #[.slice (some ⟨g1, 0, none⟩) a.length c1, .slice (some ⟨g2, 0, none⟩) b.length c2] w fun e w' => e = .returned (.bool (sameCB a b)) ∧ Below w.heap.size w w' := by
  have HS : Hid (Calls Try.prog 15 #[.slice (some ⟨g1, 0, none⟩) a.length c1, .slice (some ⟨g2, 0, none⟩) b.length c2, .func (.func 16) #[] #[]] w fun e w' => e = .returned (.bool (sameCB a b)) ∧ Below w.heap.size w w') := by
    by_cases he : a.length = b.length
    · have := implEqF_some g1 g2 c1 c2 B1 B2 a b w hl he hz hA hB
      rw [he] at this
      rw [he]
      exact this
    · rw [sameCB_len a b he]
      exact implEqF_len g1 g2 a.length b.length c1 c2 _ w (by rw [bne_iff_ne]; omega)
  clear hA hB hz hl
  generalize sameCB a b = R at HS ⊢
  go_enter Try.func8, Try.ntmps8
  go_wp2_with (go_at_call 15; refine HS.out.mono ?_; rintro e w' ⟨rfl, hb⟩)
  go_ret
  exact ⟨rfl, hb⟩
end Go.Proofs.Ytedippcicnhalaa
