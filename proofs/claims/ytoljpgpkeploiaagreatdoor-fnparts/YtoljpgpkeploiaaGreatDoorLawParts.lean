/-
  The law FnParts answers true at every argument: what is taken out of data is written as it is written in them; nothing that was there is turned.
-/
import Derived.Test.YtoljpgpkeploiaaGreatDoorFpF
import Derived.Test.YtoljpgpkeploiaaGreatDoorDraw3
import Derived.Test.YtoljpgpkeploiaaGreatDoorImplSub
import Derived.Test.YtoljpgpkeploiaaGreatDoorImplWrite
import Derived.Test.YtoljpgpkeploiaaGreatDoorImplSameD
import Derived.Test.YtoljpgpkeploiaaGreatDoorSubFine
namespace Go.Proofs.YtoljpgpkeploiaaGreatDoor
open Go.RowKit Go.Extern.Stop Go.Stop Go.Extern Num Go.Lib Go.Shelf

theorem spanL_take (l : List Dat) (L : List Int) (k : Nat) (h : k < L.length) : spanL l (L.take (k + 1)) = spanL l (L.take k) + (endD l L[k].toNat - L[k].toNat) := by
  unfold spanL
  rw [List.take_add_one, List.getElem?_eq_getElem h, List.map_append, List.sum_append]
  simp
theorem spanL_le (l : List Dat) (L : List Int) (k : Nat) : spanL l (L.take k) ≤ spanL l L := by
  unfold spanL
  have : L.map (fun p => endD l p.toNat - p.toNat) = (L.take k).map (fun p => endD l p.toNat - p.toNat) ++ (L.drop k).map (fun p => endD l p.toNat - p.toNat) := by rw [← List.map_append, List.take_append_drop]
  rw [this, List.sum_append]
  omega
theorem names_sub {l : List Dat} {z : Int} (hz : ∀ (k : Nat) (h : k < l.length), l[k].name.size ≤ 1048576) : ∀ (k : Nat) (h : k < (outS l z).length), (outS l z)[k].name.size ≤ 1048576 := by
  intro k hk
  by_cases h : askD l z = 0
  · have e : outS l z = subD l z.toNat := by unfold outS; rw [if_pos h]
    have hk' : k < (subD l z.toNat).length := by rw [← e]; exact hk
    obtain ⟨hl, e2⟩ := sub_at l z.toNat k hk'
    have e3 : (outS l z)[k] = (subD l z.toNat)[k] := by congr 1
    rw [e3, e2]
    exact hz _ hl
  · have e : outS l z = [] := by unfold outS; rw [if_neg h]
    rw [e] at hk
    simp at hk
/-- What holds of every world on the way. -/
def SP (w0 : World) (B1 B2 : Nat) (v1 v2 : Value) (l s : List Dat) (u : World) : Prop := u.ownsRow B1 61 4 v1 l.length (cellsD l) ∧ u.ownsRow B2 61 4 v2 s.length (cellsD s) ∧ LT u ∧ Below w0.heap.size w0 u
theorem SP.below {w0 : World} {B1 B2 : Nat} {v1 v2 : Value} {l s : List Dat} {u v : World} (h : SP w0 B1 B2 v1 v2 l s u) (hb : Below u.heap.size u v) : SP w0 B1 B2 v1 v2 l s v :=
  ⟨own_below h.1 hb, own_below h.2.1 hb, h.2.2.1.below hb, h.2.2.2.trans (hb.mono h.2.2.2.size)⟩
theorem pKeep1 {B : Nat} {x : Value} {S : World → Prop} (hS : ∀ {u v : World}, S u → Below u.heap.size u v → S v) {u v : World} (h : u.cell? ⟨B, 0, none⟩ = some x ∧ Hid (S u)) (hb : Below u.heap.size u v) : v.cell? ⟨B, 0, none⟩ = some x ∧ Hid (S v) :=
  ⟨cell_keep hb h.1, hS h.2.out hb⟩
theorem pKeep2 {B C : Nat} {x y : Value} {S : World → Prop} (hS : ∀ {u v : World}, S u → Below u.heap.size u v → S v) {u v : World} (h : u.cell? ⟨B, 0, none⟩ = some x ∧ u.cell? ⟨C, 2, none⟩ = some y ∧ Hid (S u)) (hb : Below u.heap.size u v) : v.cell? ⟨B, 0, none⟩ = some x ∧ v.cell? ⟨C, 2, none⟩ = some y ∧ Hid (S v) :=
  ⟨cell_keep hb h.1, cell_keep hb h.2.1, hS h.2.2.out hb⟩
theorem fieldD0 (c a : Int) (v : Value) (w : World) : (Instr.field 27 (.agg #[.int .i64 c, .int .i64 a, v]) 0).run Tryz.prog w = .ok (.int .i64 c) w := by kernel_rfl
theorem fieldD2 (c a : Int) (o : Option Addr) (n m : Nat) (w : World) : (Instr.field 27 (.agg #[.int .i64 c, .int .i64 a, .slice o n m]) 2).run Tryz.prog w = .ok (.slice o n m) w := by kernel_rfl
theorem fieldP0 (c : Int) (v : Value) (w : World) : (Instr.field 40 (.agg #[.int .i64 c, v]) 0).run Tryz.prog w = .ok (.int .i64 c) w := by kernel_rfl
theorem fieldT1 (c : Int) (s : ByteArray) (w : World) : (Instr.field 32 (.agg #[.int .i64 c, .string s]) 1).run Tryz.prog w = .ok (.string s) w := by kernel_rfl
set_option maxRecDepth 100000 in
set_option maxHeartbeats 8000000 in
theorem lawFP_any (w0 : World) (ca : Option Addr) (len cap : Nat) (hL : LT w0) (h : Bytes w0 ca len) (hmax : (len : Int) ≤ 9223372036854775807) :
    Calls Tryz.prog 4 #[.slice ca len cap] w0 fun e w' => e = .returned (.bool true) ∧ Below w0.heap.size w0 w' := by
  have HL : Hid (LT w0) := hL
  go_enter Tryz.func4, Tryz.ntmps4
  go_wp2_with fail
  refine (big_any _ ca len cap).mono ?_
  rintro e wz ⟨bg, rfl, hwz⟩
  have hwz' := hwz.symm
  clear hwz
  subst hwz'
  cases bg with
  | true =>
    go_wp2
    go_ret
    exact ⟨rfl, Below.refl _ _⟩
  | false =>
    go_wp2_with fail
    refine (drawSub_any _ ca len cap h hmax).mono ?_
    rintro e w1 ⟨ao, c, l, z, rfl, ho, hz, hl2, b1⟩
    have HO1 : Hid (w1.ownsRow w0.heap.size 61 4 (.slice ao l.length c) l.length (cellsD l)) := ho
    have HZ : Hid (∀ (k : Nat) (h : k < l.length), l[k].name.size ≤ 1048576) := hz
    have B1 : Hid (Below w0.heap.size w0 w1) := b1
    clear ho hz b1 h hL
    have hl20 : l.length ≤ 1048576 := by omega
    go_wp2_with fail
    refine (implSub_any ao c _ l z w1 HO1.out HZ.out (HL.out.below B1.out)).mono ?_
    rintro e w2 ⟨ao2, c2, rfl, o2, b2⟩
    have HS2 : Hid (SP w0 w0.heap.size w1.heap.size (.slice ao l.length c) (.slice ao2 (outS l z).length c2) l (outS l z) w2) := ⟨own_below HO1.out b2, o2, (HL.out.below B1.out).below b2, B1.out.trans (b2.mono B1.out.size)⟩
    clear o2 b2 HO1
    obtain ⟨ask, hask⟩ : ∃ ask, ask = askD l z := ⟨_, rfl⟩
    obtain ⟨s, hs⟩ : ∃ s, s = outS l z := ⟨_, rfl⟩
    rw [← hask]
    rw [← hs] at HS2 ⊢
    have HA : Hid (ask = askD l z) := hask
    have HSs : Hid (s = outS l z) := hs
    clear hask hs
    have HSub : Hid (∀ u, SP w0 w0.heap.size w1.heap.size (.slice ao l.length c) (.slice ao2 s.length c2) l s u → Calls Tryz.prog 16 #[.slice ao l.length c, .int .i64 z] u fun e w'' => ∃ ao3 c3, e = .returned (.agg #[.int .i64 ask, .int .i64 0, .slice ao3 s.length c3]) ∧ w''.ownsRow u.heap.size 61 4 (.slice ao3 s.length c3) s.length (cellsD s) ∧ Below u.heap.size u w'') := fun u hu => by
      rw [show ask = _ from HA.out, show s = _ from HSs.out]
      exact specSub_any ao c _ l z u hu.1 hl20 (fun k hk => Nat.le_trans (HZ.out k hk) (by omega))
    have HPar : Hid (∀ u, SP w0 w0.heap.size w1.heap.size (.slice ao l.length c) (.slice ao2 s.length c2) l s u → Calls Tryz.prog 17 #[.slice ao l.length c, .int .i64 z] u fun e w'' => ∃ ao3 c3, e = .returned (.agg #[.int .i64 ask, .slice ao3 (outP l z).length c3]) ∧ w''.ownsRow u.heap.size 2 1 (.slice ao3 (outP l z).length c3) (outP l z).length (cellsI (outP l z)) ∧ Below u.heap.size u w'') := fun u hu => by
      rw [show ask = _ from HA.out]
      exact implParts_any ao c _ l z u hu.1 HZ.out hu.2.2.1
    have rD0 := fieldD0
    have rD2 := fieldD2
    have rP0 := fieldP0
    have rT1 := fieldT1
    by_cases hc : ask = 0
    · have hq := HA.out
      rw [show ask = 0 from hc] at hq
      obtain ⟨F, hz0, hz1⟩ := ask_zero (show askD l z = 0 from hq.symm)
      obtain ⟨a, rfl⟩ : ∃ a : Nat, z = (a : Int) := ⟨z.toNat, by omega⟩
      have ha : a < l.length := by omega
      have hsS : s = subD l a := by rw [show s = _ from HSs.out]; unfold outS; rw [if_pos hq.symm]; rfl
      have hP : outP l (a : Int) = partsD l (a : Int) := by unfold outP; rw [if_pos hq.symm]
      have hsp := span_all F a ha
      have hsl := sub_len l a
      have hef := end_facts l a ha
      have hFs : Fine s := by rw [hsS]; exact sub_fine F a ha
      have hls : s.length = 1 + spanL l (partsD l (a : Int)) := by rw [hsS, hsl]; omega
      have hzs : ∀ (k : Nat) (h : k < s.length), s[k].name.size ≤ 1048576 := by rw [show s = _ from HSs.out]; exact names_sub HZ.out
      rw [hP] at HPar
      obtain ⟨P, hPd⟩ : ∃ P, P = partsD l (a : Int) := ⟨_, rfl⟩
      rw [← hPd] at HPar hls
      have HPm : Hid (∀ (k : Nat) (h : k < P.length), ∃ j : Nat, P[k] = (j : Int) ∧ j < l.length) := fun k hk => by
        obtain ⟨j, e, hj, _⟩ := (parts_mem l (a : Int) P[k]).1 (by rw [← hPd]; exact List.getElem_mem hk)
        exact ⟨j, e, hj⟩
      have hPl : P.length ≤ 80 := by
        have := outP_len l (a : Int)
        rw [hP, ← hPd] at this
        exact this
      have HSL : Hid (s.length = 1 + spanL l P) := hls
      have hs80 : s.length ≤ 80 := hFs.len
      subst hc
      obtain ⟨cc, tx, hWD⟩ := WD_form s
      have HDF : Hid (∀ u, SP w0 w0.heap.size w1.heap.size (.slice ao l.length c) (.slice ao2 s.length c2) l s u → Calls Tryz.prog 9 #[.slice ao2 s.length c2] u fun e w'' => e = .returned (.int .i64 0) ∧ Below u.heap.size u w'') := fun u hu => by
        have := implDF_any ao2 c2 _ s u hu.2.1 hzs hu.2.2.1
        rw [fault_none hFs] at this
        exact this
      have HWi : Hid (∀ u, SP w0 w0.heap.size w1.heap.size (.slice ao l.length c) (.slice ao2 s.length c2) l s u → Calls Tryz.prog 11 #[.slice ao2 s.length c2] u fun e w'' => e = .returned (.agg #[.int .i64 cc, .string tx]) ∧ Below u.heap.size u w'') := fun u hu => by
        rw [← hWD]; exact implWD_any ao2 c2 _ s u hu.2.1 hzs hu.2.2.1
      have HWs : Hid (∀ u, SP w0 w0.heap.size w1.heap.size (.slice ao l.length c) (.slice ao2 s.length c2) l s u → Calls Tryz.prog 12 #[.slice ao2 s.length c2] u fun e w'' => e = .returned (.agg #[.int .i64 cc, .string tx]) ∧ Below u.heap.size u w'') := fun u hu => by
        rw [← hWD]; exact specWrite_any ao2 c2 _ s u hu.2.1 (fun k hk => Nat.le_trans (hzs k hk) (by omega))
      have HEq : Hid (∀ u ao3 c3 B3, SP w0 w0.heap.size w1.heap.size (.slice ao l.length c) (.slice ao2 s.length c2) l s u → u.ownsRow B3 61 4 (.slice ao3 s.length c3) s.length (cellsD s) → Calls Tryz.prog 13 #[.slice ao2 s.length c2, .slice ao3 s.length c3] u fun e w'' => e = .returned (.bool true) ∧ Below u.heap.size u w'') := fun u ao3 c3 B3 hu h3 => by
        have := implSame_any ao2 ao3 c2 c3 _ B3 s s u (by omega) hu.2.1 h3
        rw [eqB_same] at this
        exact this
      have HOne : Hid (∀ (u : World) (j : Nat), j < l.length → SP w0 w0.heap.size w1.heap.size (.slice ao l.length c) (.slice ao2 s.length c2) l s u → Calls Tryz.prog 15 #[.slice ao l.length c, .int .i64 (j : Int)] u fun e w'' => ∃ ao3 c3, e = .returned (.agg #[.int .i64 0, .int .i64 0, .slice ao3 (endD l j - j) c3]) ∧ Below u.heap.size u w'') := fun u j hj hu => by
        have hk0 : askD l (j : Int) = 0 := by unfold askD; rw [if_neg (by simp [fault_none F]), if_pos (by omega)]
        have e1 : (outS l (j : Int)).length = endD l j - j := by unfold outS; rw [if_pos hk0]; exact sub_len l j
        refine (implSub_any ao c _ l (j : Int) u hu.1 HZ.out hu.2.2.1).mono ?_
        rw [hk0, e1]
        rintro e w'' ⟨ao3, c3, rfl, _, hb⟩
        exact ⟨ao3, c3, rfl, hb⟩
      have hSP : SP w0 w0.heap.size w1.heap.size (.slice ao l.length c) (.slice ao2 s.length c2) l s (w2.alloc (.cells #[.int .i64 0, .int .i64 0, .slice ao2 s.length c2] 27)) := HS2.out.below ((Below.refl _ _).alloc (Nat.le_refl _) _)
      have HS0 : Hid (SP w0 w0.heap.size w1.heap.size (.slice ao l.length c) (.slice ao2 s.length c2) l s (w2.alloc (.cells #[.int .i64 0, .int .i64 0, .slice ao2 s.length c2] 27))) := hSP
      have hen : ∀ j, j < l.length → endD l j ≤ 200 := fun j hj => by have := (end_facts l j hj).2.1; omega
      have HEn : Hid (∀ j, j < l.length → endD l j ≤ 200) := hen
      clear hSP hsS hP hsp hsl hef hPd hzs hls hWD F hFs hen hq
      go_wp2_with fail
      refine (HPar.out _ HS0.out).mono ?_
      rintro e w3 ⟨ao3, c3, rfl, o3, b3⟩
      have HS3 : Hid (SP w0 w0.heap.size w1.heap.size (.slice ao l.length c) (.slice ao2 s.length c2) l s w3) := HS0.out.below b3
      have HO3 : Hid (w3.ownsRow _ 2 1 (.slice ao3 P.length c3) P.length (cellsI P)) := o3
      have q2 : w3.cell? ⟨w2.heap.size, 2, none⟩ = some (.slice ao2 s.length c2) := cell_keep b3 (by simp)
      have HQ2 : Hid (w3.cell? ⟨w2.heap.size, 2, none⟩ = some (.slice ao2 s.length c2)) := q2
      clear o3 b3 q2
      go_wp2_with fail
      go_loopw [7, 8] (fun v i wr => ∃ k : Nat, k ≤ P.length ∧ i = .int .i64 (k : Int) ∧ v = .int .i64 ((1 + spanL l (P.take k) : Nat) : Int) ∧ Hid (Below (w3.alloc (.cells #[.int .i64 0, .slice ao3 P.length c3] 40)).heap.size (w3.alloc (.cells #[.int .i64 0, .slice ao3 P.length c3] 40)) wr)) (fun _ i _ => P.length - (RowKit.intOf i).toNat)
      case atStart => exact ⟨0, Nat.zero_le _, rfl, by simp [spanL], Below.refl _ _⟩
      case round =>
        obtain ⟨k, hk, rfl, rfl, HW⟩ := hrel
        have p1 : wr.cell? ⟨w3.heap.size, 1, none⟩ = some (.slice ao3 P.length c3) := cell_keep HW.out (by simp)
        have HSr : Hid (SP w0 w0.heap.size w1.heap.size (.slice ao l.length c) (.slice ao2 s.length c2) l s wr) := (HS3.out.below ((Below.refl _ _).alloc (Nat.le_refl _) _)).below HW.out
        by_cases hlt : k < P.length
        · obtain ⟨g3, c3', hv3, _, _⟩ := HO3.out.form (by omega)
          obtain ⟨rfl, rfl⟩ : ao3 = some ⟨g3, 0, none⟩ ∧ c3 = c3' := by simp at hv3; exact hv3
          have pk : wr.cell? ⟨g3, k, none⟩ = some (.int .i64 (P[k]'hlt)) := cell_keep HW.out (cell_keep ((Below.refl _ _).alloc (Nat.le_refl _) _) (rowI_at HO3.out k hlt))
          obtain ⟨j, hj, hjl⟩ := HPm.out k hlt
          have hst := spanL_take l P k hlt
          have hle := spanL_le l P (k + 1)
          rw [hj] at pk hst
          have hen := HEn.out j hjl
          have hsl := HSL.out
          obtain ⟨T, hT⟩ : ∃ T, T = spanL l (P.take k) := ⟨_, rfl⟩
          obtain ⟨T', hT'⟩ : ∃ T', T' = spanL l (P.take (k + 1)) := ⟨_, rfl⟩
          rw [← hT, ← hT'] at hst
          rw [← hT'] at hle
          rw [← hT]
          obtain ⟨D, hD⟩ : ∃ D, D = endD l j - j := ⟨_, rfl⟩
          have HX : Hid (Calls Tryz.prog 15 #[.slice ao l.length c, .int .i64 (j : Int)] wr fun e w'' => ∃ ao4 c4, e = .returned (.agg #[.int .i64 0, .int .i64 0, .slice ao4 D c4]) ∧ Below wr.heap.size wr w'') := by rw [hD]; exact HOne.out wr j hjl HSr.out
          have hTD : T' = T + D := by rw [hD]; simpa using hst
          have hT80 : T ≤ 80 := by omega
          have hD80 : D ≤ 80 := by omega
          have HTD : Hid (T' = T + D) := hTD
          have HTT : Hid (T' = spanL l (P.take (k + 1))) := hT'
          clear hT hT' hst hD hle hsl hTD hj hen
          go_wp2_with fail
          refine HX.out.mono ?_
          rintro e w4 ⟨ao4, c4, rfl, b4⟩
          have HW4 : Hid _ := HW.out.trans ((b4.alloc b4.size (.cells #[.int .i64 0, .int .i64 0, .slice ao4 D c4] 27)).mono HW.out.size)
          clear b4
          go_wp2
          exact ⟨⟨k + 1, by omega, by go_num, by rw [← show T' = _ from HTT.out, show T' = _ from HTD.out]; congr 1; omega, HW4.out⟩, by simp [RowKit.intOf]; omega⟩
        · have hkl : k = P.length := by omega
          have ev : 1 + spanL l (P.take k) = s.length := by rw [hkl, List.take_length, show s.length = _ from HSL.out]
          rw [ev]
          have p0 : wr.cell? ⟨w3.heap.size, 0, none⟩ = some (.int .i64 0) := cell_keep HW.out (by simp)
          have q2 : wr.cell? ⟨w2.heap.size, 2, none⟩ = some (.slice ao2 s.length c2) := cell_keep HW.out (cell_keep ((Below.refl _ _).alloc (Nat.le_refl _) _) HQ2.out)
          have HSx : Hid (wr.cell? ⟨w3.heap.size, 0, none⟩ = some (.int .i64 0) ∧ wr.cell? ⟨w2.heap.size, 2, none⟩ = some (.slice ao2 s.length c2) ∧ Hid (SP w0 w0.heap.size w1.heap.size (.slice ao l.length c) (.slice ao2 s.length c2) l s wr)) := ⟨p0, q2, HSr⟩
          clear ev p0 q2 hkl
          go_wp2_with fail
          go_region_held3 (fun u => u.cell? ⟨w3.heap.size, 0, none⟩ = some (.int .i64 0) ∧ u.cell? ⟨w2.heap.size, 2, none⟩ = some (.slice ao2 s.length c2) ∧ Hid (SP w0 w0.heap.size w1.heap.size (.slice ao l.length c) (.slice ao2 s.length c2) l s u)) (first | exact pKeep2 SP.below (by assumption) (by assumption) | exact pKeep2 SP.below HSx.out (Below.drew (Below.refl _ _)))
            (first | (go_at_call 9; refine (HDF.out _ (by assumption : _ ∧ _ ∧ Hid _).2.2.out).mono ?_; rintro e w' ⟨rfl, hb1⟩) | (go_at_call 16; refine (HSub.out _ (by assumption : _ ∧ _ ∧ Hid _).2.2.out).mono ?_; rintro e w' ⟨ao5, c5, rfl, ho5, hb2⟩) | (go_at_call 13; refine (HEq.out _ _ _ _ (by assumption : _ ∧ _ ∧ Hid _).2.2.out (by assumption)).mono ?_; rintro e w' ⟨rfl, hb3⟩) | (go_at_call 11; refine (HWi.out _ (by assumption : _ ∧ _ ∧ Hid _).2.2.out).mono ?_; rintro e w' ⟨rfl, hb4⟩) | (go_at_call 12; refine (HWs.out _ (by assumption : _ ∧ _ ∧ Hid _).2.2.out).mono ?_; rintro e w' ⟨rfl, hb5⟩))
          have HQ : Hid (Below w0.heap.size w0 w') := (by assumption : _ ∧ _ ∧ Hid (SP w0 w0.heap.size w1.heap.size (.slice ao l.length c) (.slice ao2 s.length c2) l s w')).2.2.out.2.2.2
          go_wp2
          go_ret
          exact ⟨rfl, HQ.out⟩
    · have hcz : (ask != 0) = true := by simpa using hc
      have hSP : SP w0 w0.heap.size w1.heap.size (.slice ao l.length c) (.slice ao2 s.length c2) l s (w2.alloc (.cells #[.int .i64 ask, .int .i64 0, .slice ao2 s.length c2] 27)) := HS2.out.below ((Below.refl _ _).alloc (Nat.le_refl _) _)
      have HS0 : Hid ((w2.alloc (.cells #[.int .i64 ask, .int .i64 0, .slice ao2 s.length c2] 27)).cell? ⟨w2.heap.size, 0, none⟩ = some (.int .i64 ask) ∧ Hid (SP w0 w0.heap.size w1.heap.size (.slice ao l.length c) (.slice ao2 s.length c2) l s (w2.alloc (.cells #[.int .i64 ask, .int .i64 0, .slice ao2 s.length c2] 27)))) := ⟨by simp, hSP⟩
      clear hSP hc
      go_wp2_with fail
      go_region_held3 (fun u => u.cell? ⟨w2.heap.size, 0, none⟩ = some (.int .i64 ask) ∧ Hid (SP w0 w0.heap.size w1.heap.size (.slice ao l.length c) (.slice ao2 s.length c2) l s u)) (first | exact pKeep1 SP.below (by assumption) (by assumption) | exact pKeep1 SP.below HS0.out (Below.drew (Below.refl _ _)))
        (first | (go_at_call 16; refine (HSub.out _ (by assumption : _ ∧ Hid _).2.out).mono ?_; rintro e w' ⟨ao3, c3, rfl, _, hb2⟩) | (go_at_call 17; refine (HPar.out _ (by assumption : _ ∧ Hid _).2.out).mono ?_; rintro e w' ⟨ao4, c4, rfl, _, hb3⟩))
      have HQ : Hid (Below w0.heap.size w0 w') := (by assumption : _ ∧ Hid (SP w0 w0.heap.size w1.heap.size (.slice ao l.length c) (.slice ao2 s.length c2) l s w')).2.out.2.2.2
      go_wp2
      go_ret
      exact ⟨rfl, HQ.out⟩
end Go.Proofs.YtoljpgpkeploiaaGreatDoor
