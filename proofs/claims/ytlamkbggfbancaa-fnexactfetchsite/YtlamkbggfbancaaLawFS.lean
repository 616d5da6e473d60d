/-
  The exact law of FetchSite answers true at all globals, names and sites; nothing that was there is turned.
-/
import Derived.Test.YtlamkbggfbancaaImplFS
import Derived.Test.YtlamkbggfbancaaSpecFS
import Derived.Test.YtlamkbggfbancaaFrBox
import Derived.Test.YtlamkbggfbancaaLawGF
import Derived.Test.YtlamkbggfbancaaStSite
import Derived.Test.YtlamkbggfbancaaFacts
namespace Go.Proofs.Ytlamkbggfbancaa
open Go.RowKit Go.Extern.Stop Go.Stop Go.Extern Num Go.Lib

set_option maxRecDepth 100000 in
set_option maxHeartbeats 8000000 in
theorem lawFS_any (w : World) (a : Option Addr) (cp : Nat) (l : List Glb) (hl : l.length ≤ 9223372036854775807) (h : MemG w a l) (hz : ∀ (k : Nat) (h : k < l.length), l[k].able) (s : ByteArray) (hs : s.size ≤ 9223372036854775807) (t : Ste) (ht : t.value.name.size ≤ 9223372036854775807) :
    Calls Try.prog 10 #[.slice a l.length cp, .string s, t.val] w fun e w' => e = .returned (.bool true) ∧ Below w.heap.size w w' := by
  by_cases hsz : 1048576 < s.size
  · clear h hz hl
    go_enter Try.func10, Try.ntmps10
    go_wp2
    go_ret
    exact ⟨rfl, (Below.refl _ _).alloc (Nat.le_refl _) _⟩
  obtain ⟨W, hW⟩ : ∃ W, W = w.alloc (.cells #[.int .i64 t.ver, .int .i64 t.value.kind, .int .i64 t.value.num, .string t.value.name] 61) := ⟨_, rfl⟩
  have HW : Hid (W = w.alloc (.cells #[.int .i64 t.ver, .int .i64 t.value.kind, .int .i64 t.value.num, .string t.value.name] 61)) := hW
  have HBW : Hid (Below w.heap.size w W) := by rw [hW]; exact (Below.refl _ _).alloc (Nat.le_refl _) _
  have HE : Hid (SteAt w.heap.size t W) := by
    rw [hW]
    exact ⟨by rw [World.cell?_alloc_at _ _ _ _ rfl]; rfl, by rw [World.cell?_alloc_at _ _ _ _ rfl]; rfl, by rw [World.cell?_alloc_at _ _ _ _ rfl]; rfl, by rw [World.cell?_alloc_at _ _ _ _ rfl]; rfl⟩
  have HS : Hid (Calls Try.prog 23 #[.slice a l.length cp, .int .i64 1048576] W fun e w' => SZG l W e w') := szGS_any a cp l W 1048576 (Nat.le_refl _) hl (h.below HBW.out) hz
  have HT : Hid (MemG w a l) := h
  have HTo : Hid (∀ u, Calls Try.prog 37 #[t.val] u fun e w' => e = .returned t.val ∧ Below u.heap.size u w') := fun u => toE_any t u
  obtain ⟨R, hR⟩ : ∃ R, R = outFS l s t := ⟨_, rfl⟩
  have HP : Hid (∀ (u : World) (g : Nat), l.length ≤ 1048576 → RowG u g l → ableG l → Calls Try.prog 21 #[.slice (some ⟨g, 0, none⟩) l.length l.length, .string s, t.val] u fun e w' => e = .returned (FR R) ∧ Below u.heap.size u w') := fun u g h1 h2 h3 => by rw [hR]; exact specFS_any _ _ g l s t u h1 (Nat.le_refl _) (by omega) (fun _ => rfl) h2 h3 hs ht
  have HI : Hid (∀ (u : World) (g : Nat), l.length ≤ 1048576 → RowG u g l → ableG l → Calls Try.prog 20 #[.slice (some ⟨g, 0, none⟩) l.length l.length, .string s, t.val] u fun e w' => e = .returned (FR R) ∧ Below u.heap.size u w') := fun u g h1 h2 h3 => by rw [hR]; exact implFS_any _ _ g l s t u h1 (fun _ => rfl) h2 h3 hs ht
  clear h hz hl hR hW
  go_enter Try.func10, Try.ntmps10
  go_wp2_with fail
  rw [← HW.out]
  refine HS.out.mono ?_
  rintro e w1 ⟨h1, b1⟩
  have B1 : Hid (Below w.heap.size w w1) := HBW.out.trans (b1.mono HBW.out.size)
  have HE1 : Hid (SteAt w.heap.size t w1) := HE.out.below b1
  clear b1
  rcases h1 with rfl | ⟨q, hq, rfl, hl, hz⟩
  · go_wp2
    go_ret
    exact ⟨rfl, B1.out⟩
  have HZ : Hid (ableG l) := ableG_of hz
  have HN : Hid (l.length ≤ 1048576) := hl
  have HU : Hid (∀ wx, Below w.heap.size w wx → Calls Try.prog 25 #[.slice a l.length cp] wx fun e w' => ∃ g, e = .returned (.slice (some ⟨g, 0, none⟩) l.length l.length) ∧ World.ownsRow w' wx.heap.size 33 5 (.slice (some ⟨g, 0, none⟩) l.length l.length) l.length (cellsG l) ∧ Below wx.heap.size wx w') := fun wx hx => toGS_any a cp l wx hl (HT.out.below hx)
  clear hz hl
  have e0 := HE1.out.c0
  have e1 := HE1.out.c1
  have e2 := HE1.out.c2
  have e3 := HE1.out.c3
  by_cases hq2 : q < t.value.name.size
  · have HZ1 : Hid (∀ u, Calls Try.prog 35 #[t.val, .int .i64 (q : Int)] u fun e w' => e = .returned (.int .i64 (-1)) ∧ Below u.heap.size u w') := fun u => szE_far t q u ht hq hq2
    clear hq2
    go_wp2_with fail
    refine (HZ1.out _).mono ?_
    rintro e w2 ⟨rfl, b2⟩
    go_wp2
    go_ret
    exact ⟨rfl, B1.out.trans (b2.mono B1.out.size)⟩
  obtain ⟨q2, hqe⟩ : ∃ q2 : Nat, q2 = q - t.value.name.size := ⟨_, rfl⟩
  have HZ1 : Hid (∀ u, Calls Try.prog 35 #[t.val, .int .i64 (q : Int)] u fun e w' => e = .returned (.int .i64 (q2 : Int)) ∧ Below u.heap.size u w') := fun u => by rw [hqe]; exact szE_near t q u hq (by omega)
  clear hq2 hqe hq
  go_wp2_with fail
  clear e0 e1 e2 e3
  refine (HZ1.out _).mono ?_
  rintro e w2 ⟨rfl, b2⟩
  have B2 : Hid (Below w.heap.size w w2) := B1.out.trans (b2.mono B1.out.size)
  have HE2 : Hid (SteAt w.heap.size t w2) := HE1.out.below b2
  clear b2 HZ1 HE1 B1
  go_wp2_with fail
  refine wp_region_facts (by kernel_rfl) 7 (fun v => Below w2.heap.size w2 v) (fun u v => Below u.heap.size u v) (fun i v u => match i with | 0 => (fun v u => v = .slice a l.length cp) v u | 1 => (fun v u => ∃ g, v = .slice (some ⟨g, 0, none⟩) l.length l.length ∧ World.ownsRow u w2.heap.size 33 5 (.slice (some ⟨g, 0, none⟩) l.length l.length) l.length (cellsG l)) v u | 2 => (fun v u => v = .string s) v u | 3 => (fun v u => v = t.val) v u | 4 => (fun v u => v = t.val) v u | 5 => (fun v u => v = FR R) v u | 6 => (fun v u => ∃ b, v = Value.pointer (some ⟨b, 0, none⟩) ∧ w2.heap.size ≤ b ∧ b < u.heap.size ∧ Fr9 u b) v u | _ => True) (by kernel_rfl) [0, 1, 2, 3, 4, 5, 6] (by kernel_rfl) ?b0 ?bk ?fk ⟨?s0, ?s1, ?s2, ?s3, ?s4, ?s5, ?s6, trivial⟩ _ rfl [(0, some 24), (1, some 25), (2, some 26), (3, some 27), (4, some 28), (5, some 29), (6, some 8)] (by kernel_rfl) ?last
  case b0 => exact Below.drew (Below.refl _ _)
  case bk => exact fun u v h hb => h.trans (hb.mono h.size)
  case fk => intro i v u u' h hb; match i, h with | 0, h => exact (h) | 1, h => exact (let ⟨g, e, o⟩ := h; ⟨g, e, own_below o hb⟩) | 2, h => exact (h) | 3, h => exact (h) | 4, h => exact (h) | 5, h => exact (h) | 6, h => exact (let ⟨b, e, h1, h2, h3⟩ := h; ⟨b, e, h1, Nat.lt_of_lt_of_le h2 hb.size, h3.below hb h2⟩) | _ + 7, _ => exact trivial
  case s0 =>
    refine StepF.of rfl [] (by kernel_rfl) ?_
    intro vs u hB hf K hK
    clear hf
    simp only [putsA, List.foldl_nil, Act.put, List.setIfInBounds_toArray] at hK ⊢
    rw [if_pos (by rfl)]
    go_simp
    exact hK.out _ _ (Below.refl _ _) rfl
  case s1 =>
    refine StepF.of rfl [(0, some 24)] (by kernel_rfl) ?_
    intro vs u hB hf K hK
    have f0 : (fun v u => v = .slice a l.length cp) (vs 0) u := hf.1
    clear hf
    simp only [putsA, List.foldl_cons, List.foldl_nil, Act.put, List.setIfInBounds_toArray, List.set_cons_zero, List.set_cons_succ] at hK ⊢
    generalize vs 0 = v0 at f0 hK ⊢
    rw [if_pos (by rfl)]
    subst f0
    go_simp
    refine (HU.out _ (B2.out.trans (hB.mono B2.out.size))).mono ?_
    rintro e w4 ⟨g4, rfl, o4, b4⟩
    exact hK.out _ _ b4 ⟨g4, rfl, own_base o4 hB.size⟩
  case s2 =>
    refine StepF.of rfl [] (by kernel_rfl) ?_
    intro vs u hB hf K hK
    clear hf
    simp only [putsA, List.foldl_nil, Act.put, List.setIfInBounds_toArray] at hK ⊢
    rw [if_pos (by rfl)]
    go_simp
    exact hK.out _ _ (Below.refl _ _) rfl
  case s3 =>
    refine StepF.of rfl [] (by kernel_rfl) ?_
    intro vs u hB hf K hK
    clear hf
    simp only [putsA, List.foldl_nil, Act.put, List.setIfInBounds_toArray] at hK ⊢
    rw [if_pos (by rfl)]
    have d0 := (HE2.out.below hB).c0
    have d1 := (HE2.out.below hB).c1
    have d2 := (HE2.out.below hB).c2
    have d3 := (HE2.out.below hB).c3
    go_simp
    exact hK.out _ _ (Below.refl _ _) rfl
  case s4 =>
    refine StepF.of rfl [(1, some 25), (3, some 27)] (by kernel_rfl) ?_
    intro vs u hB hf K hK
    have f1 : (fun v u => ∃ g, v = .slice (some ⟨g, 0, none⟩) l.length l.length ∧ World.ownsRow u w2.heap.size 33 5 (.slice (some ⟨g, 0, none⟩) l.length l.length) l.length (cellsG l)) (vs 1) u := hf.1
    have f3 : (fun v u => v = t.val) (vs 3) u := hf.2.1
    clear hf
    simp only [putsA, List.foldl_cons, List.foldl_nil, Act.put, List.setIfInBounds_toArray, List.set_cons_zero, List.set_cons_succ] at hK ⊢
    generalize vs 1 = v1 at f1 hK ⊢
    generalize vs 3 = v3 at f3 hK ⊢
    rw [if_pos (by rfl)]
    subst f3
    clear f1
    go_simp
    refine (HTo.out _).mono ?_
    rintro e w4 ⟨rfl, b4⟩
    exact hK.out _ _ b4 rfl
  case s5 =>
    refine StepF.of rfl [(1, some 25), (2, some 26), (4, some 28)] (by kernel_rfl) ?_
    intro vs u hB hf K hK
    have f1 : (fun v u => ∃ g, v = .slice (some ⟨g, 0, none⟩) l.length l.length ∧ World.ownsRow u w2.heap.size 33 5 (.slice (some ⟨g, 0, none⟩) l.length l.length) l.length (cellsG l)) (vs 1) u := hf.1
    have f2 : (fun v u => v = .string s) (vs 2) u := hf.2.1
    have f4 : (fun v u => v = t.val) (vs 4) u := hf.2.2.1
    clear hf
    simp only [putsA, List.foldl_cons, List.foldl_nil, Act.put, List.setIfInBounds_toArray, List.set_cons_zero, List.set_cons_succ] at hK ⊢
    generalize vs 1 = v1 at f1 hK ⊢
    generalize vs 2 = v2 at f2 hK ⊢
    generalize vs 4 = v4 at f4 hK ⊢
    rw [if_pos (by rfl)]
    obtain ⟨g4, rfl, o4⟩ := f1
    subst f2 f4
    go_simp
    refine (HP.out _ g4 HN.out (RowG.of o4) HZ.out).mono ?_
    rintro e w5 ⟨rfl, b5⟩
    exact hK.out _ _ b5 rfl
  case s6 =>
    refine StepF.of rfl [] (by kernel_rfl) ?_
    intro vs u hB hf K hK
    clear hf
    simp only [putsA, List.foldl_nil, Act.put, List.setIfInBounds_toArray] at hK ⊢
    rw [if_pos (by rfl)]
    go_simp
    exact hK.out _ _ ((Below.refl _ _).alloc (Nat.le_refl _) _) ⟨_, rfl, hB.size, by simp, fr9_new _⟩
  case last =>
    intro vs u hB hf K hK
    have f0 : (fun v u => v = .slice a l.length cp) (vs 0) u := hf.1
    have f1 : (fun v u => ∃ g, v = .slice (some ⟨g, 0, none⟩) l.length l.length ∧ World.ownsRow u w2.heap.size 33 5 (.slice (some ⟨g, 0, none⟩) l.length l.length) l.length (cellsG l)) (vs 1) u := hf.2.1
    have f2 : (fun v u => v = .string s) (vs 2) u := hf.2.2.1
    have f3 : (fun v u => v = t.val) (vs 3) u := hf.2.2.2.1
    have f4 : (fun v u => v = t.val) (vs 4) u := hf.2.2.2.2.1
    have f5 : (fun v u => v = FR R) (vs 5) u := hf.2.2.2.2.2.1
    have f6 : (fun v u => ∃ b, v = Value.pointer (some ⟨b, 0, none⟩) ∧ w2.heap.size ≤ b ∧ b < u.heap.size ∧ Fr9 u b) (vs 6) u := hf.2.2.2.2.2.2.1
    clear hf
    simp only [putsA, List.foldl_cons, List.foldl_nil, Act.put, List.setIfInBounds_toArray, List.set_cons_zero, List.set_cons_succ]
    generalize vs 0 = v0 at f0 ⊢
    generalize vs 1 = v1 at f1 ⊢
    generalize vs 2 = v2 at f2 ⊢
    generalize vs 3 = v3 at f3 ⊢
    generalize vs 4 = v4 at f4 ⊢
    generalize vs 5 = v5 at f5 ⊢
    generalize vs 6 = v6 at f6 ⊢
    rw [if_pos (by rfl)]
    obtain ⟨b, rfl, hbb, hbl, hfr⟩ := f6
    subst f5
    clear f0 f1 f2 f3 f4
    have HTs : Hid (u.there b 0 (frL R).toArray.size) := by rw [show (frL R).toArray.size = 9 from rfl]; exact hfr.there
    refine wp_store_mid 43 _ _ rfl b 0 (frL R).toArray rfl rfl HTs.out (by rw [infoFr]; rfl) (frL_one _) ?_
    obtain ⟨v, hv⟩ : ∃ v, v = u.setCells b 0 (frL R).toArray.toList := ⟨_, rfl⟩
    have B2b : Below w2.heap.size w2 v := by rw [hv]; exact below_setCells hB hbb _ _
    have F3 : Hid (FrAt b R v) := by rw [hv]; exact FrAt.put b R u hfr.there
    have B3 : Hid (Below w.heap.size w v) := B2.out.trans (B2b.mono B2.out.size)
    have HE3 : Hid (SteAt w.heap.size t v) := HE2.out.below B2b
    have z3 : b < v.heap.size := lt_of_cell (F3.out 0 _ rfl)
    rw [← hv]
    clear hB hv HTs B2b hfr hbl hbb
    refine hK.out _ _ ?_
    clear hK
    go_wp2_with fail
    refine (HU.out _ B3.out).mono ?_
    rintro e w4 ⟨g4, rfl, o4, b4⟩
    have O4 : Hid (World.ownsRow w4 v.heap.size 33 5 (.slice (some ⟨g4, 0, none⟩) l.length l.length) l.length (cellsG l)) := o4
    have B4 : Hid (Below w.heap.size w w4) := B3.out.trans (b4.mono B3.out.size)
    have F4 : Hid (FrAt b R w4) := F3.out.below b4
    have z4 : b < w4.heap.size := Nat.lt_of_lt_of_le z3 b4.size
    have e0 := (HE3.out.below b4).c0
    have e1 := (HE3.out.below b4).c1
    have e2 := (HE3.out.below b4).c2
    have e3 := (HE3.out.below b4).c3
    clear o4 b4
    go_wp2_with fail
    clear e0 e1 e2 e3
    refine (HTo.out _).mono ?_
    rintro e w5 ⟨rfl, b5⟩
    have O5 : Hid (World.ownsRow w5 v.heap.size 33 5 (.slice (some ⟨g4, 0, none⟩) l.length l.length) l.length (cellsG l)) := own_below O4.out b5
    have B5 : Hid (Below w.heap.size w w5) := B4.out.trans (b5.mono B4.out.size)
    have F5 : Hid (FrAt b R w5) := F4.out.below b5
    have z5 : b < w5.heap.size := Nat.lt_of_lt_of_le z4 b5.size
    clear b5 O4
    go_wp2_with fail
    refine (HI.out _ g4 HN.out (RowG.of O5.out) HZ.out).mono ?_
    rintro e w6 ⟨rfl, b6⟩
    have O6 : Hid (World.ownsRow w6 v.heap.size 33 5 (.slice (some ⟨g4, 0, none⟩) l.length l.length) l.length (cellsG l)) := own_below O5.out b6
    have B6 : Hid (Below w.heap.size w w6) := B5.out.trans (b6.mono B5.out.size)
    have F6 : Hid (FrAt b R w6) := F5.out.below b6
    have z6 : b < w6.heap.size := Nat.lt_of_lt_of_le z5 b6.size
    have x0 := F6.out 0 _ rfl
    have x1 := F6.out 1 _ rfl
    have x2 := F6.out 2 _ rfl
    have x3 := F6.out 3 _ rfl
    have x4 := F6.out 4 _ rfl
    have x5 := F6.out 5 _ rfl
    have x6 := F6.out 6 _ rfl
    have x7 := F6.out 7 _ rfl
    have x8 := F6.out 8 _ rfl
    clear b6 O5 z3 z4 z5 F3 F4 F5
    go_wp2_with fail
    clear x0 x1 x2 x3 x4 x5 x6 x7 x8
    refine (eqFR_same R _).mono ?_
    rintro e w6' ⟨rfl, b6'⟩
    have P6 : Hid (World.ownsRow w6' v.heap.size 33 5 (.slice (some ⟨g4, 0, none⟩) l.length l.length) l.length (cellsG l)) := own_below (O6.out.alloc _) b6'
    have C6 : Hid (Below w.heap.size w w6') := (B6.out.alloc B6.out.size _).trans (b6'.mono (by have := B6.out.size; simp; omega))
    clear b6' O6
    go_wp2_with fail
    refine (HU.out _ C6.out).mono ?_
    rintro e w7 ⟨g7, rfl, o7, b7⟩
    have O7 : Hid (World.ownsRow w7 w6'.heap.size 33 5 (.slice (some ⟨g7, 0, none⟩) l.length l.length) l.length (cellsG l)) := o7
    have P7 : Hid (World.ownsRow w7 v.heap.size 33 5 (.slice (some ⟨g4, 0, none⟩) l.length l.length) l.length (cellsG l)) := own_below P6.out b7
    have B7 : Hid (Below w.heap.size w w7) := C6.out.trans (b7.mono C6.out.size)
    clear o7 b7 P6
    go_wp2_with fail
    refine (eqGS_same _ _ _ _ l w7 HN.out P7.out O7.out).mono ?_
    rintro e w8 ⟨rfl, b8⟩
    go_wp2
    go_ret
    exact ⟨rfl, B7.out.trans (b8.mono B7.out.size)⟩
end Go.Proofs.Ytlamkbggfbancaa
