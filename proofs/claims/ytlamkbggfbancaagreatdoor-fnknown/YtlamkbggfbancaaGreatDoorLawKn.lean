/-
  The law FnKnown answers true at every code; nothing that was there is turned.
-/
import Derived.Test.YtlamkbggfbancaaGreatDoorKnownMath
import Derived.Test.YtlamkbggfbancaaGreatDoorImplLG
import Derived.Test.YtlamkbggfbancaaGreatDoorDraw3
import Derived.Test.YtlamkbggfbancaaGreatDoorFacts
import Derived.Test.YtlamkbggfbancaaGreatDoorResGlobalsResult
namespace Go.Proofs.YtlamkbggfbancaaGreatDoor
open Go.RowKit Go.Extern.Stop Go.Stop Go.Extern Num Go.Lib

theorem drawNG_any (w : World) (ca : Option Addr) (len cap : Nat) (h : Bytes w ca len) (hmax : (len : Int) ≤ 9223372036854775807) :
    Calls Tryz.prog 5 #[.slice ca len cap] w fun e w' => ∃ p : Int, e = .returned (.int .i64 p) ∧ Below w.heap.size w w' := by
  go_enter Tryz.func5, Tryz.ntmps5
  go_wp2_with fail
  refine (source_any _ ca len cap h).mono ?_
  rintro e w1 ⟨rfl, h1, b1⟩
  go_wp2_with fail
  refine (pick_any _ _ w1.heap.size 5 ca len cap 0 (h1.alloc _) hmax (by omega) (by omega) (Nat.ne_of_gt h1.lt) (by omega) (by omega) InB
    (cells5 InB w1 _ _ _ _ _ _ (.mk (by omega) (by omega)) (.mk (by omega) (by omega)) (.mk (by omega) (by omega)) (.mk (by omega) (by omega)) (.mk (by omega) (by omega)))).mono ?_
  rintro e w3 ⟨v, k3, rfl, hp, k31, k32, h3, o3⟩
  go_wp2
  go_ret
  exact ⟨v, rfl, (b1.alloc b1.size _).trans (o3.below (Nat.le_refl _) (by have := b1.size; simp; omega))⟩
/-- What a round keeps: the answer's box and its row. -/
structure KnAt (u : World) (B x g cp : Nat) (p : Int) : Prop where
  c0 : u.cell? ⟨x, 0, none⟩ = some (.int .i64 0)
  c1 : u.cell? ⟨x, 1, none⟩ = some (.slice (some ⟨g, 0, none⟩) 16 cp)
  row : u.ownsRow B 35 5 (.slice (some ⟨g, 0, none⟩) 16 cp) 16 (cellsG (newL p 16))
theorem KnAt.below {u v : World} {B x g cp : Nat} {p : Int} (h : KnAt u B x g cp p) (hb : Below u.heap.size u v) : KnAt v B x g cp p := ⟨cell_keep hb h.c0, cell_keep hb h.c1, own_below h.row hb⟩
theorem KnAt.rg {u : World} {B x g cp : Nat} {p : Int} (h : KnAt u B x g cp p) : RowG u g (newL p 16) := by
  refine RowG.of (base := B) (cap := cp) ?_
  rw [newL_len]; exact h.row
theorem KnAt.nm {u : World} {B x g cp : Nat} {p : Int} (h : KnAt u B x g cp p) (k : Nat) (hk : k < 16) : u.cell? ⟨g, k * 5, none⟩ = some (.string (nameP k)) := by
  have := (h.rg k (by rw [newL_len]; exact hk)).1
  rw [newL_at p 16 k hk] at this
  exact this
set_option maxRecDepth 100000 in
set_option maxHeartbeats 8000000 in
theorem lawKn_any (w : World) (ca : Option Addr) (len cap : Nat) (h : Bytes w ca len) (hmax : (len : Int) ≤ 9223372036854775807) :
    Calls Tryz.prog 3 #[.slice ca len cap] w fun e w' => e = .returned (.bool true) ∧ Below w.heap.size w w' := by
  have HD : Hid (Calls Tryz.prog 5 #[.slice ca len cap] w fun e w' => ∃ p : Int, e = .returned (.int .i64 p) ∧ Below w.heap.size w w') := drawNG_any w ca len cap h hmax
  clear h hmax
  go_enter Tryz.func3, Tryz.ntmps3
  go_wp2_with fail
  refine (big_any _ ca len cap).mono ?_
  rintro e w1 ⟨t, rfl, hw1⟩
  replace hw1 := hw1.symm
  subst hw1
  cases t
  case true =>
    go_wp2
    go_ret
    exact ⟨rfl, Below.refl _ _⟩
  go_wp2_with fail
  refine HD.out.mono ?_
  rintro e w2 ⟨p, rfl, b2⟩
  have B2 : Hid (Below w.heap.size w w2) := b2
  clear b2 HD
  have HI : Hid (∀ u, Calls Tryz.prog 6 #[.int .i64 p] u fun e w' => AnsG u (codeNG p) (listNG p) e w') := fun u => implNG_any p u
  have HP : Hid (∀ u, Calls Tryz.prog 7 #[.int .i64 p] u fun e w' => AnsG u (codeNG p) (listNG p) e w') := fun u => specNG_any p u
  by_cases hp : 1 ≤ p ∧ p ≤ 99999
  case neg =>
    have e1 : codeNG p = 3 := if_neg hp
    have e2 : listNG p = [] := if_neg hp
    rw [e1, e2] at HI HP
    clear e1 e2 hp
    go_wp2_with fail
    refine (HI.out _).mono ?_
    rintro e w3 ⟨ao, cp, rfl, o3, b3⟩
    have B3 : Hid (Below w.heap.size w w3) := B2.out.trans (b3.mono B2.out.size)
    obtain ⟨V, hV⟩ : ∃ V, V = w3.alloc (.cells #[.int .i64 3, .slice ao 0 cp] 27) := ⟨_, rfl⟩
    have HV : Hid (V = w3.alloc (.cells #[.int .i64 3, .slice ao 0 cp] 27)) := hV
    have HBV : Hid (Below w.heap.size w V) := by rw [hV]; exact B3.out.alloc B3.out.size _
    have HC0 : Hid (V.cell? ⟨w3.heap.size, 0, none⟩ = some (.int .i64 3)) := by show V.cell? _ = _; rw [hV, World.cell?_alloc_at _ _ _ _ rfl]; rfl
    clear hV o3 b3
    go_wp2_with fail
    rw [← HV.out]
    refine wp_region_facts (by kernel_rfl) 6 (fun v => Below V.heap.size V v) (fun u v => Below u.heap.size u v) (fun i v u => match i with | 0 => (fun v u => v = .int .i64 p) v u | 1 => (fun v u => ∃ ao cp, v = .agg #[.int .i64 3, .slice ao 0 cp]) v u | 2 => (fun v u => v = .int .i64 3) v u | 3 => (fun v u => v = Value.pointer (some ⟨w3.heap.size, 0, none⟩)) v u | 4 => (fun v u => v = .int .i64 3) v u | 5 => (fun v u => v = .bool true) v u | _ => True) (by kernel_rfl) [0, 1, 2, 3, 4, 5] (by kernel_rfl) ?b0 ?bk ?fk ⟨?s0, ?s1, ?s2, ?s3, ?s4, ?s5, trivial⟩ _ rfl [(0, some 17), (1, some 18), (2, some 19), (3, some 20), (4, some 21), (5, some 22)] (by kernel_rfl) ?last
    case b0 => exact Below.drew (Below.refl _ _)
    case bk => exact fun u v h hb => h.trans (hb.mono h.size)
    case fk => intro i v u u' h hb; match i, h with | 0, h => exact (h) | 1, h => exact (h) | 2, h => exact (h) | 3, h => exact (h) | 4, h => exact (h) | 5, h => exact (h) | _ + 6, _ => exact trivial
    case s0 =>
      refine StepF.of rfl [] (by kernel_rfl) ?_
      intro vs u hB hf K hK
      clear hf
      simp only [putsA, List.foldl_nil, Act.put, List.setIfInBounds_toArray] at hK ⊢
      rw [if_pos (by rfl)]
      go_simp
      exact hK.out _ _ (Below.refl _ _) rfl
    case s1 =>
      refine StepF.of rfl [(0, some 17)] (by kernel_rfl) ?_
      intro vs u hB hf K hK
      have f0 : (fun v u => v = .int .i64 p) (vs 0) u := hf.1
      clear hf
      simp only [putsA, List.foldl_cons, List.foldl_nil, Act.put, List.setIfInBounds_toArray, List.set_cons_zero, List.set_cons_succ] at hK ⊢
      generalize vs 0 = v0 at f0 hK ⊢
      rw [if_pos (by rfl)]
      subst f0
      go_simp
      refine (HP.out _).mono ?_
      rintro e w4 ⟨ao, cp, rfl, _, b4⟩
      exact hK.out _ _ b4 ⟨ao, cp, rfl⟩
    case s2 =>
      refine StepF.of rfl [(1, some 18)] (by kernel_rfl) ?_
      intro vs u hB hf K hK
      have f1 : (fun v u => ∃ ao cp, v = .agg #[.int .i64 3, .slice ao 0 cp]) (vs 1) u := hf.1
      clear hf
      simp only [putsA, List.foldl_cons, List.foldl_nil, Act.put, List.setIfInBounds_toArray, List.set_cons_zero, List.set_cons_succ] at hK ⊢
      generalize vs 1 = v1 at f1 hK ⊢
      rw [if_pos (by rfl)]
      obtain ⟨ao', cp', rfl⟩ := f1
      go_simp
      exact hK.out _ _ (Below.refl _ _) rfl
    case s3 =>
      refine StepF.of rfl [] (by kernel_rfl) ?_
      intro vs u hB hf K hK
      clear hf
      simp only [putsA, List.foldl_nil, Act.put, List.setIfInBounds_toArray] at hK ⊢
      rw [if_pos (by rfl)]
      go_simp
      exact hK.out _ _ (Below.refl _ _) rfl
    case s4 =>
      refine StepF.of rfl [(3, some 20)] (by kernel_rfl) ?_
      intro vs u hB hf K hK
      have f3 : (fun v u => v = Value.pointer (some ⟨w3.heap.size, 0, none⟩)) (vs 3) u := hf.1
      clear hf
      simp only [putsA, List.foldl_cons, List.foldl_nil, Act.put, List.setIfInBounds_toArray, List.set_cons_zero, List.set_cons_succ] at hK ⊢
      generalize vs 3 = v3 at f3 hK ⊢
      rw [if_pos (by rfl)]
      subst f3
      have d0 := cell_keep hB HC0.out
      go_simp
      exact hK.out _ _ (Below.refl _ _) rfl
    case s5 =>
      refine StepF.of rfl [(2, some 19), (4, some 21)] (by kernel_rfl) ?_
      intro vs u hB hf K hK
      have f2 : (fun v u => v = .int .i64 3) (vs 2) u := hf.1
      have f4 : (fun v u => v = .int .i64 3) (vs 4) u := hf.2.1
      clear hf
      simp only [putsA, List.foldl_cons, List.foldl_nil, Act.put, List.setIfInBounds_toArray, List.set_cons_zero, List.set_cons_succ] at hK ⊢
      generalize vs 2 = v2 at f2 hK ⊢
      generalize vs 4 = v4 at f4 hK ⊢
      rw [if_pos (by rfl)]
      subst f2 f4
      go_simp
      exact hK.out _ _ (Below.refl _ _) rfl
    case last =>
      intro vs u hB hf K hK
      have f0 : (fun v u => v = .int .i64 p) (vs 0) u := hf.1
      have f1 : (fun v u => ∃ ao cp, v = .agg #[.int .i64 3, .slice ao 0 cp]) (vs 1) u := hf.2.1
      have f2 : (fun v u => v = .int .i64 3) (vs 2) u := hf.2.2.1
      have f3 : (fun v u => v = Value.pointer (some ⟨w3.heap.size, 0, none⟩)) (vs 3) u := hf.2.2.2.1
      have f4 : (fun v u => v = .int .i64 3) (vs 4) u := hf.2.2.2.2.1
      have f5 : (fun v u => v = .bool true) (vs 5) u := hf.2.2.2.2.2.1
      clear hf
      simp only [putsA, List.foldl_cons, List.foldl_nil, Act.put, List.setIfInBounds_toArray, List.set_cons_zero, List.set_cons_succ]
      generalize vs 0 = v0 at f0 ⊢
      generalize vs 1 = v1 at f1 ⊢
      generalize vs 2 = v2 at f2 ⊢
      generalize vs 3 = v3 at f3 ⊢
      generalize vs 4 = v4 at f4 ⊢
      generalize vs 5 = v5 at f5 ⊢
      rw [if_pos (by rfl)]
      subst f5
      clear f0 f1 f2 f3 f4
      go_simp
      refine hK.out _ _ ?_
      clear hK
      go_wp2
      go_ret
      exact ⟨rfl, HBV.out.trans (hB.mono HBV.out.size)⟩
  have e1 : codeNG p = 0 := if_pos hp
  have e2 : listNG p = newL p 16 := if_pos hp
  rw [e1, e2] at HI
  have HPp : Hid (1 ≤ p ∧ p ≤ 99999) := hp
  clear e1 e2 hp HP
  go_wp2_with fail
  refine (HI.out _).mono ?_
  rintro e w3 ⟨ao, cp, rfl, o3, b3⟩
  rw [newL_len] at o3
  obtain ⟨g, c, hv, _, _⟩ := o3.form (by omega)
  obtain ⟨rfl, rfl⟩ : ao = some ⟨g, 0, none⟩ ∧ cp = c := by simp at hv; exact hv
  have hl16 := newL_len p 16
  rw [hl16]
  obtain ⟨V, hV⟩ : ∃ V, V = w3.alloc (.cells #[.int .i64 0, .slice (some ⟨g, 0, none⟩) 16 cp] 27) := ⟨_, rfl⟩
  have HV : Hid (V = w3.alloc (.cells #[.int .i64 0, .slice (some ⟨g, 0, none⟩) 16 cp] 27)) := hV
  have HBV : Hid (Below w.heap.size w V) := by rw [hV]; exact (B2.out.trans (b3.mono B2.out.size)).alloc (by have := B2.out.size; have := b3.size; omega) _
  have HKn : Hid (KnAt V w2.heap.size w3.heap.size g cp p) := by
    rw [hV]
    exact ⟨by rw [World.cell?_alloc_at _ _ _ _ rfl]; rfl, by rw [World.cell?_alloc_at _ _ _ _ rfl]; rfl, o3.alloc _⟩
  clear hV o3 b3 hv hl16 HI
  have HLk : Hid (∀ (u : World) (k : Nat), KnAt u w2.heap.size w3.heap.size g cp p → k < 16 → Calls Tryz.prog 9 #[.slice (some ⟨g, 0, none⟩) 16 cp, .string (nameP k)] u fun e w' => e = .returned (GR 0 (newG p k)) ∧ Below u.heap.size u w') := fun u k hk h16 => by
    have h := implLG_any (some ⟨g, 0, none⟩) cp g (newL p 16) (nameP k) u (by rw [newL_len]; omega) (fun _ => rfl) hk.rg (able_new p) (by have := names_size k h16; omega)
    rw [newL_len, (look_new p HPp.out k h16).1, (look_new p HPp.out k h16).2] at h
    exact h
  have HLf : Hid (∀ (u : World), KnAt u w2.heap.size w3.heap.size g cp p → Calls Tryz.prog 9 #[.slice (some ⟨g, 0, none⟩) 16 cp, .string ⟨#[102, 111, 111]⟩] u fun e w' => e = .returned (GR 4 gZ) ∧ Below u.heap.size u w') := fun u hk => by
    have h := implLG_any (some ⟨g, 0, none⟩) cp g (newL p 16) ⟨#[102, 111, 111]⟩ u (by rw [newL_len]; omega) (fun _ => rfl) hk.rg (able_new p) (by decide)
    rw [newL_len, (look_foo p HPp.out).1, (look_foo p HPp.out).2] at h
    exact h
  have HGf : Hid (∀ (u : World), KnAt u w2.heap.size w3.heap.size g cp p → Calls Tryz.prog 10 #[.slice (some ⟨g, 0, none⟩) 16 cp] u fun e w' => e = .returned (.int .i64 0) ∧ Below u.heap.size u w') := fun u hk => by
    have h := implGF_any (some ⟨g, 0, none⟩) cp g (newL p 16) u (by rw [newL_len]; omega) (fun _ => rfl) hk.rg (able_new p)
    rw [newL_len, globFault_new p HPp.out] at h
    exact h
  have HPo : Hid (∀ (u : World) (k : Nat), k < 16 → Calls Tryz.prog 8 #[.string (nameP k)] u fun e w' => e = .returned (.agg #[.int .i64 0, .int .i64 (k : Int)]) ∧ Below u.heap.size u w') := fun u k hk => by
    have h := implPO_any (nameP k) u
    rw [(prim_new k hk).1, (prim_new k hk).2] at h
    exact h
  have vc0 := HKn.out.c0
  have vc1 := HKn.out.c1
  go_wp2_with fail
  rw [← HV.out]
  clear vc0 vc1
  go_loopw [5] (fun i wr => ∃ k : Nat, k ≤ 16 ∧ i = .int .i64 (k : Int) ∧ Hid (Below V.heap.size V wr)) (fun i _ => 16 - (RowKit.intOf i).toNat)
  case atStart => exact ⟨0, Nat.zero_le _, rfl, Below.refl _ _⟩
  case round =>
    obtain ⟨k, hk, rfl, HB⟩ := hrel
    have HKr : Hid (KnAt wr w2.heap.size w3.heap.size g cp p) := HKn.out.below HB.out
    have vc0 := HKr.out.c0
    have vc1 := HKr.out.c1
    by_cases hlt : k < 16
    · have nm := HKr.out.nm k hlt
      obtain ⟨s, hs⟩ : ∃ s, s = nameP k := ⟨_, rfl⟩
      rw [← hs] at nm
      have HPk : Hid (∀ u, Calls Tryz.prog 8 #[.string s] u fun e w' => e = .returned (.agg #[.int .i64 0, .int .i64 (k : Int)]) ∧ Below u.heap.size u w') := fun u => by rw [hs]; exact HPo.out u k hlt
      have HLs : Hid (∀ u, KnAt u w2.heap.size w3.heap.size g cp p → Calls Tryz.prog 9 #[.slice (some ⟨g, 0, none⟩) 16 cp, .string s] u fun e w' => e = .returned (GR 0 ⟨s, ⟨8, (k : Int), ⟨#[]⟩⟩, p⟩) ∧ Below u.heap.size u w') := fun u hu => by
        have := HLk.out u k hu hlt
        rw [hs]; exact this
      have HNm : Hid (∀ u, KnAt u w2.heap.size w3.heap.size g cp p → u.cell? ⟨g, k * 5, none⟩ = some (.string s)) := fun u hu => by rw [hs]; exact hu.nm k hlt
      clear hs
      go_wp2_with fail
      refine (HPk.out _).mono ?_
      rintro e w4 ⟨rfl, b4⟩
      obtain ⟨W4, hW4⟩ : ∃ W, W = w4.alloc (.cells #[.int .i64 0, .int .i64 (k : Int)] 30) := ⟨_, rfl⟩
      have HW4 : Hid (W4 = w4.alloc (.cells #[.int .i64 0, .int .i64 (k : Int)] 30)) := hW4
      have HB4 : Hid (Below wr.heap.size wr W4) := by rw [hW4]; exact b4.alloc b4.size _
      have HK4 : Hid (KnAt W4 w2.heap.size w3.heap.size g cp p) := HKr.out.below HB4.out
      have HI4 : Hid (W4.cell? ⟨w4.heap.size, 0, none⟩ = some (.int .i64 0) ∧ W4.cell? ⟨w4.heap.size, 1, none⟩ = some (.int .i64 (k : Int))) := by
        rw [hW4]
        exact ⟨by rw [World.cell?_alloc_at _ _ _ _ rfl]; rfl, by rw [World.cell?_alloc_at _ _ _ _ rfl]; rfl⟩
      clear hW4 b4 vc0 vc1 nm
      go_wp2_with fail
      rw [← HW4.out]
      refine wp_region_facts (by kernel_rfl) 10 (fun v => Below W4.heap.size W4 v) (fun u v => Below u.heap.size u v) (fun i v u => match i with | 0 => (fun v u => v = Value.pointer (some ⟨w3.heap.size, 1, none⟩)) v u | 1 => (fun v u => v = .slice (some ⟨g, 0, none⟩) 16 cp) v u | 2 => (fun v u => v = Value.pointer (some ⟨w3.heap.size, 1, none⟩)) v u | 3 => (fun v u => v = .slice (some ⟨g, 0, none⟩) 16 cp) v u | 4 => (fun v u => v = .int .i64 (k : Int)) v u | 5 => (fun v u => v = Value.pointer (some ⟨g, k * 5, none⟩)) v u | 6 => (fun v u => v = Value.pointer (some ⟨g, k * 5, none⟩)) v u | 7 => (fun v u => v = .string s) v u | 8 => (fun v u => v = GR 0 ⟨s, ⟨8, (k : Int), ⟨#[]⟩⟩, p⟩) v u | 9 => (fun v u => ∃ y, v = .pointer (some ⟨y, 0, none⟩) ∧ W4.heap.size ≤ y ∧ u.heap[y]? = some (.cells #[.int .i64 0, .string ⟨#[]⟩, .int .i64 0, .int .i64 0, .string ⟨#[]⟩, .int .i64 0] 37 (0, 0))) v u | _ => True) (by kernel_rfl) [0, 1, 2, 3, 4, 5, 6, 7, 8, 9] (by kernel_rfl) ?b0 ?bk ?fk ⟨?s0, ?s1, ?s2, ?s3, ?s4, ?s5, ?s6, ?s7, ?s8, ?s9, trivial⟩ _ rfl [(0, some 37), (1, some 38), (2, some 39), (3, some 40), (4, some 41), (5, some 42), (6, some 43), (7, some 44), (8, some 45), (9, some 7)] (by kernel_rfl) ?last
      case b0 => exact Below.drew (Below.refl _ _)
      case bk => exact fun u v h hb => h.trans (hb.mono h.size)
      case fk => intro i v u u' h hb; match i, h with | 0, h => exact (h) | 1, h => exact (h) | 2, h => exact (h) | 3, h => exact (h) | 4, h => exact (h) | 5, h => exact (h) | 6, h => exact (h) | 7, h => exact (h) | 8, h => exact (h) | 9, h => exact (let ⟨y, e, hy, hyo⟩ := h; ⟨y, e, hy, (hb.block y (Array.getElem?_eq_some_iff.1 hyo).1).trans hyo⟩) | _ + 10, _ => exact trivial
      case s0 =>
        refine StepF.of rfl [] (by kernel_rfl) ?_
        intro vs u hB hf K hK
        clear hf
        simp only [putsA, List.foldl_nil, Act.put, List.setIfInBounds_toArray] at hK ⊢
        rw [if_pos (by rfl)]
        go_simp
        exact hK.out _ _ (Below.refl _ _) rfl
      case s1 =>
        refine StepF.of rfl [(0, some 37)] (by kernel_rfl) ?_
        intro vs u hB hf K hK
        have f0 : (fun v u => v = Value.pointer (some ⟨w3.heap.size, 1, none⟩)) (vs 0) u := hf.1
        clear hf
        simp only [putsA, List.foldl_cons, List.foldl_nil, Act.put, List.setIfInBounds_toArray, List.set_cons_zero, List.set_cons_succ] at hK ⊢
        generalize vs 0 = v0 at f0 hK ⊢
        rw [if_pos (by rfl)]
        subst f0
        have d0 := (HK4.out.below hB).c1
        go_simp
        exact hK.out _ _ (Below.refl _ _) rfl
      case s2 =>
        refine StepF.of rfl [] (by kernel_rfl) ?_
        intro vs u hB hf K hK
        clear hf
        simp only [putsA, List.foldl_nil, Act.put, List.setIfInBounds_toArray] at hK ⊢
        rw [if_pos (by rfl)]
        go_simp
        exact hK.out _ _ (Below.refl _ _) rfl
      case s3 =>
        refine StepF.of rfl [(2, some 39)] (by kernel_rfl) ?_
        intro vs u hB hf K hK
        have f2 : (fun v u => v = Value.pointer (some ⟨w3.heap.size, 1, none⟩)) (vs 2) u := hf.1
        clear hf
        simp only [putsA, List.foldl_cons, List.foldl_nil, Act.put, List.setIfInBounds_toArray, List.set_cons_zero, List.set_cons_succ] at hK ⊢
        generalize vs 2 = v2 at f2 hK ⊢
        rw [if_pos (by rfl)]
        subst f2
        have d0 := (HK4.out.below hB).c1
        go_simp
        exact hK.out _ _ (Below.refl _ _) rfl
      case s4 =>
        refine StepF.of rfl [] (by kernel_rfl) ?_
        intro vs u hB hf K hK
        clear hf
        simp only [putsA, List.foldl_nil, Act.put, List.setIfInBounds_toArray] at hK ⊢
        rw [if_pos (by rfl)]
        go_simp
        exact hK.out _ _ (Below.refl _ _) rfl
      case s5 =>
        refine StepF.of rfl [(3, some 40), (4, some 41)] (by kernel_rfl) ?_
        intro vs u hB hf K hK
        have f3 : (fun v u => v = .slice (some ⟨g, 0, none⟩) 16 cp) (vs 3) u := hf.1
        have f4 : (fun v u => v = .int .i64 (k : Int)) (vs 4) u := hf.2.1
        clear hf
        simp only [putsA, List.foldl_cons, List.foldl_nil, Act.put, List.setIfInBounds_toArray, List.set_cons_zero, List.set_cons_succ] at hK ⊢
        generalize vs 3 = v3 at f3 hK ⊢
        generalize vs 4 = v4 at f4 hK ⊢
        rw [if_pos (by rfl)]
        subst f3 f4
        have hk1 : (k : Int) < 16 := by omega
        go_simp
        exact hK.out _ _ (Below.refl _ _) rfl
      case s6 =>
        refine StepF.of rfl [(5, some 42)] (by kernel_rfl) ?_
        intro vs u hB hf K hK
        have f5 : (fun v u => v = Value.pointer (some ⟨g, k * 5, none⟩)) (vs 5) u := hf.1
        clear hf
        simp only [putsA, List.foldl_cons, List.foldl_nil, Act.put, List.setIfInBounds_toArray, List.set_cons_zero, List.set_cons_succ] at hK ⊢
        generalize vs 5 = v5 at f5 hK ⊢
        rw [if_pos (by rfl)]
        subst f5
        go_simp
        exact hK.out _ _ (Below.refl _ _) rfl
      case s7 =>
        refine StepF.of rfl [(6, some 43)] (by kernel_rfl) ?_
        intro vs u hB hf K hK
        have f6 : (fun v u => v = Value.pointer (some ⟨g, k * 5, none⟩)) (vs 6) u := hf.1
        clear hf
        simp only [putsA, List.foldl_cons, List.foldl_nil, Act.put, List.setIfInBounds_toArray, List.set_cons_zero, List.set_cons_succ] at hK ⊢
        generalize vs 6 = v6 at f6 hK ⊢
        rw [if_pos (by rfl)]
        subst f6
        have d0 := HNm.out _ (HK4.out.below hB)
        go_simp
        exact hK.out _ _ (Below.refl _ _) rfl
      case s8 =>
        refine StepF.of rfl [(1, some 38), (7, some 44)] (by kernel_rfl) ?_
        intro vs u hB hf K hK
        have f1 : (fun v u => v = .slice (some ⟨g, 0, none⟩) 16 cp) (vs 1) u := hf.1
        have f7 : (fun v u => v = .string s) (vs 7) u := hf.2.1
        clear hf
        simp only [putsA, List.foldl_cons, List.foldl_nil, Act.put, List.setIfInBounds_toArray, List.set_cons_zero, List.set_cons_succ] at hK ⊢
        generalize vs 1 = v1 at f1 hK ⊢
        generalize vs 7 = v7 at f7 hK ⊢
        rw [if_pos (by rfl)]
        subst f1 f7
        go_simp
        refine (HLs.out _ (HK4.out.below hB)).mono ?_
        rintro e w5 ⟨rfl, b5⟩
        exact hK.out _ _ b5 rfl
      case s9 =>
        refine StepF.of rfl [] (by kernel_rfl) ?_
        intro vs u hB hf K hK
        clear hf
        simp only [putsA, List.foldl_nil, Act.put, List.setIfInBounds_toArray] at hK ⊢
        rw [if_pos (by rfl)]
        go_simp
        exact hK.out _ _ ((Below.refl _ _).alloc (Nat.le_refl _) _) ⟨_, rfl, hB.size, heap_alloc_new _ _⟩
      case last =>
        intro vs u hB hf K hK
        have f0 : (fun v u => v = Value.pointer (some ⟨w3.heap.size, 1, none⟩)) (vs 0) u := hf.1
        have f1 : (fun v u => v = .slice (some ⟨g, 0, none⟩) 16 cp) (vs 1) u := hf.2.1
        have f2 : (fun v u => v = Value.pointer (some ⟨w3.heap.size, 1, none⟩)) (vs 2) u := hf.2.2.1
        have f3 : (fun v u => v = .slice (some ⟨g, 0, none⟩) 16 cp) (vs 3) u := hf.2.2.2.1
        have f4 : (fun v u => v = .int .i64 (k : Int)) (vs 4) u := hf.2.2.2.2.1
        have f5 : (fun v u => v = Value.pointer (some ⟨g, k * 5, none⟩)) (vs 5) u := hf.2.2.2.2.2.1
        have f6 : (fun v u => v = Value.pointer (some ⟨g, k * 5, none⟩)) (vs 6) u := hf.2.2.2.2.2.2.1
        have f7 : (fun v u => v = .string s) (vs 7) u := hf.2.2.2.2.2.2.2.1
        have f8 : (fun v u => v = GR 0 ⟨s, ⟨8, (k : Int), ⟨#[]⟩⟩, p⟩) (vs 8) u := hf.2.2.2.2.2.2.2.2.1
        have f9 : (fun v u => ∃ y, v = .pointer (some ⟨y, 0, none⟩) ∧ W4.heap.size ≤ y ∧ u.heap[y]? = some (.cells #[.int .i64 0, .string ⟨#[]⟩, .int .i64 0, .int .i64 0, .string ⟨#[]⟩, .int .i64 0] 37 (0, 0))) (vs 9) u := hf.2.2.2.2.2.2.2.2.2.1
        clear hf
        simp only [putsA, List.foldl_cons, List.foldl_nil, Act.put, List.setIfInBounds_toArray, List.set_cons_zero, List.set_cons_succ]
        generalize vs 0 = v0 at f0 ⊢
        generalize vs 1 = v1 at f1 ⊢
        generalize vs 2 = v2 at f2 ⊢
        generalize vs 3 = v3 at f3 ⊢
        generalize vs 4 = v4 at f4 ⊢
        generalize vs 5 = v5 at f5 ⊢
        generalize vs 6 = v6 at f6 ⊢
        generalize vs 7 = v7 at f7 ⊢
        generalize vs 8 = v8 at f8 ⊢
        generalize vs 9 = v9 at f9 ⊢
        rw [if_pos (by rfl)]
        obtain ⟨y, rfl, hy, hyo⟩ := f9
        subst f8
        clear f0 f1 f2 f3 f4 f5 f6 f7
        have hcy : ∀ (o : Nat) (v : Value), (#[Value.int .i64 0, .string ⟨#[]⟩, .int .i64 0, .int .i64 0, .string ⟨#[]⟩, .int .i64 0] : Array Value)[o]? = some v → u.cell? ⟨y, o, none⟩ = some v := fun o v h => by rw [cell_of_row u y o _ _ _ hyo]; exact h
        have z0 := hcy 0 _ rfl
        have z1 := hcy 1 _ rfl
        have z2 := hcy 2 _ rfl
        have z3 := hcy 3 _ rfl
        have z4 := hcy 4 _ rfl
        have z5 := hcy 5 _ rfl
        have zf : ∀ o, u.frozen? ⟨y, o, none⟩ = false := fun o => by unfold World.frozen?; rw [hyo]; simp
        have HBu : Hid (Below V.heap.size V u) := HB.out.trans ((HB4.out.trans (hB.mono HB4.out.size)).mono HB.out.size)
        have i0 := cell_keep hB HI4.out.1
        have i1 := cell_keep hB HI4.out.2
        have zi : w4.heap.size < W4.heap.size := lt_of_cell HI4.out.1
        have zV : V.heap.size ≤ W4.heap.size := Nat.le_trans HB.out.size HB4.out.size
        clear hB hyo hcy
        go_simp
        refine hK.out _ _ ?_
        clear hK
        go_wp2
        refine ⟨⟨k + 1, by omega, by go_num, ?_⟩, by simp [RowKit.intOf]; omega⟩
        repeat (first | refine Below.setCell ?_ (by simp <;> omega) _ | exact HBu.out)
    · have hk16 : k = 16 := by omega
      subst hk16
      go_wp2_with fail
      refine (HGf.out _ HKr.out).mono ?_
      rintro e w4 ⟨rfl, b4⟩
      have HK4 : Hid (KnAt w4 w2.heap.size w3.heap.size g cp p) := HKr.out.below b4
      have HB4 : Hid (Below V.heap.size V w4) := HB.out.trans (b4.mono HB.out.size)
      have d1 := HK4.out.c1
      clear b4 vc0 vc1
      go_wp2_with fail
      refine (HLf.out _ HK4.out).mono ?_
      rintro e w5 ⟨rfl, b5⟩
      have HB5 : Hid (Below V.heap.size V w5) := HB4.out.trans (b5.mono HB4.out.size)
      clear b5 d1
      have hfl : ∀ u : World, (Instr.field 37 (GR 4 gZ) 0).run Tryz.prog u = .ok (.int .i64 4) u := fun u => by kernel_rfl
      go_wp2
      go_ret
      exact ⟨rfl, HBV.out.trans (HB5.out.mono HBV.out.size)⟩
end Go.Proofs.YtlamkbggfbancaaGreatDoor
