/-
  The program's add: one more row; nothing but the map and the rows is turned.
-/
import Derived.Test.YtgfienijabkpjaaGlobKit
import Derived.Test.YtgfienijabkpjaaFacts
namespace Go.Proofs.Ytgfienijabkpjaa
open Go.RowKit Go.Extern.Stop Go.Stop Go.Extern Num Go.Lib

set_option maxRecDepth 100000 in
set_option maxHeartbeats 2000000 in
theorem add_all (h b : Nat) (rs : List Rw) (r : Rw) (w : World) (H : GlAt w h b rs) (hx : r.name.fit) (hn : r.name ∉ rs.map Rw.name) (hl : rs.length < 60) :
    Calls Try.prog 68 #[.pointer (some ⟨h, 0, none⟩), r.val] w fun e w' => e = .returned (.tuple #[]) ∧ GlAt w' h b (rs ++ [r]) ∧ (∀ B, B ≤ h → B ≤ b → Below B w w') ∧ (∀ i, i < w.heap.size → i ≠ h → i ≠ b → w'.heap[i]? = w.heap[i]?) := by
  obtain ⟨W, hW⟩ : ∃ W, W = w.alloc (.cells #[.int .u8 r.name.tag, .int .u64 r.name.rest, .int .u8 r.value.tag, .int .u64 r.value.rest, .int .i64 r.ver] 76) := ⟨_, rfl⟩
  have HBW : Hid (Below w.heap.size w W) := by rw [hW]; exact (Below.refl _ _).alloc (Nat.le_refl _) _
  have HG : Hid (GlAt W h b rs) := H.below HBW.out
  have HLT : Hid (h < w.heap.size ∧ b < w.heap.size) := ⟨H.lt, H.map.lt⟩
  have HQ : Hid (∀ (o : Nat) (v : Value), r.cells[o]? = some v → W.cell? ⟨w.heap.size, o, none⟩ = some v) := fun o v h => by rw [hW, World.cell?_alloc_at _ _ _ _ rfl]; simpa [Rw.cells] using h
  have zW : W.heap.size = w.heap.size + 1 := by rw [hW]; simp
  have HN : Hid (r.name.fit ∧ r.name ∉ rs.map Rw.name) := ⟨hx, hn⟩
  obtain ⟨n, hnl⟩ : ∃ n, n = rs.length := ⟨_, rfl⟩
  have HS : Hid (Calls Try.prog 66 #[.pointer (some ⟨h, 0, none⟩)] W fun e w' => e = .returned (.int .i64 (n : Int)) ∧ w' = W) := by rw [hnl]; exact size_g h b rs W HG.out
  have hn60 : n < 60 := by omega
  have HNL : Hid (n = rs.length) := hnl
  clear H hx hn hl hnl
  go_enter Try.func68, Try.ntmps68
  go_wp2_with fail
  rw [← hW]
  refine HS.out.mono ?_
  rintro e w1 ⟨rfl, hw1⟩
  replace hw1 := hw1.symm
  subst hw1
  clear hW HS
  go_wp2_with fail
  refine wp_region_facts (by kernel_rfl) 7 (fun v => Below W.heap.size W v) (fun u v => Below u.heap.size u v) (fun i v u => match i with | 0 => (fun v u => v = Value.pointer (some ⟨h, 0, none⟩)) v u | 1 => (fun v u => v = Value.pointer (some ⟨h, 0, none⟩)) v u | 2 => (fun v u => v = Value.pointer (some ⟨h, 0, none⟩)) v u | 3 => (fun v u => v = Value.map (some b)) v u | 4 => (fun v u => v = Value.pointer (some ⟨w.heap.size, 0, none⟩)) v u | 5 => (fun v u => v = r.name.val) v u | 6 => (fun v u => v = .int .i64 (n : Int)) v u | _ => True) (by kernel_rfl) [0, 1, 2, 3, 4, 5, 6] (by kernel_rfl) ?b0 ?bk ?fk ⟨?s0, ?s1, ?s2, ?s3, ?s4, ?s5, ?s6, trivial⟩ _ rfl [(0, some 7), (1, some 8), (2, some 9), (3, some 10), (4, some 11), (5, some 12), (6, some 13)] (by kernel_rfl) ?last
  case b0 => exact Below.drew (Below.refl _ _)
  case bk => exact fun u v h hb => h.trans (hb.mono h.size)
  case fk => intro i v u u' h hb; match i, h with | 0, h => exact (h) | 1, h => exact (h) | 2, h => exact (h) | 3, h => exact (h) | 4, h => exact (h) | 5, h => exact (h) | 6, h => exact (h) | _ + 7, _ => exact trivial
  case s0 =>
    refine StepF.of rfl [] (by kernel_rfl) ?_
    intro vs u hB hf K hK
    clear hf
    simp only [putsA, List.foldl_nil, Act.put, List.setIfInBounds_toArray] at hK ⊢
    rw [if_pos (by rfl)]
    go_simp
    exact hK.out _ _ (Below.refl _ _) rfl
  case s1 =>
    refine StepF.of rfl [(0, some 7)] (by kernel_rfl) ?_
    intro vs u hB hf K hK
    have f0 : (fun v u => v = Value.pointer (some ⟨h, 0, none⟩)) (vs 0) u := hf.1
    clear hf
    simp only [putsA, List.foldl_cons, List.foldl_nil, Act.put, List.setIfInBounds_toArray, List.set_cons_zero, List.set_cons_succ] at hK ⊢
    generalize vs 0 = v0 at f0 hK ⊢
    rw [if_pos (by rfl)]
    subst f0
    go_simp
    exact hK.out _ _ (Below.refl _ _) rfl
  case s2 =>
    refine StepF.of rfl [(1, some 8)] (by kernel_rfl) ?_
    intro vs u hB hf K hK
    have f1 : (fun v u => v = Value.pointer (some ⟨h, 0, none⟩)) (vs 1) u := hf.1
    clear hf
    simp only [putsA, List.foldl_cons, List.foldl_nil, Act.put, List.setIfInBounds_toArray, List.set_cons_zero, List.set_cons_succ] at hK ⊢
    generalize vs 1 = v1 at f1 hK ⊢
    rw [if_pos (by rfl)]
    subst f1
    go_simp
    exact hK.out _ _ (Below.refl _ _) rfl
  case s3 =>
    refine StepF.of rfl [(2, some 9)] (by kernel_rfl) ?_
    intro vs u hB hf K hK
    have f2 : (fun v u => v = Value.pointer (some ⟨h, 0, none⟩)) (vs 2) u := hf.1
    clear hf
    simp only [putsA, List.foldl_cons, List.foldl_nil, Act.put, List.setIfInBounds_toArray, List.set_cons_zero, List.set_cons_succ] at hK ⊢
    generalize vs 2 = v2 at f2 hK ⊢
    rw [if_pos (by rfl)]
    subst f2
    have c0 := (HG.out.below hB).hd
    go_simp
    exact hK.out _ _ (Below.refl _ _) rfl
  case s4 =>
    refine StepF.of rfl [] (by kernel_rfl) ?_
    intro vs u hB hf K hK
    clear hf
    simp only [putsA, List.foldl_nil, Act.put, List.setIfInBounds_toArray] at hK ⊢
    rw [if_pos (by rfl)]
    go_simp
    exact hK.out _ _ (Below.refl _ _) rfl
  case s5 =>
    refine StepF.of rfl [(4, some 11)] (by kernel_rfl) ?_
    intro vs u hB hf K hK
    have f4 : (fun v u => v = Value.pointer (some ⟨w.heap.size, 0, none⟩)) (vs 4) u := hf.1
    clear hf
    simp only [putsA, List.foldl_cons, List.foldl_nil, Act.put, List.setIfInBounds_toArray, List.set_cons_zero, List.set_cons_succ] at hK ⊢
    generalize vs 4 = v4 at f4 hK ⊢
    rw [if_pos (by rfl)]
    subst f4
    have c0 := cell_keep hB (HQ.out 0 _ rfl)
    have c1 := cell_keep hB (HQ.out 1 _ rfl)
    go_simp
    exact hK.out _ _ (Below.refl _ _) rfl
  case s6 =>
    refine StepF.of rfl [] (by kernel_rfl) ?_
    intro vs u hB hf K hK
    clear hf
    simp only [putsA, List.foldl_nil, Act.put, List.setIfInBounds_toArray] at hK ⊢
    rw [if_pos (by rfl)]
    go_simp
    exact hK.out _ _ (Below.refl _ _) rfl
  case last =>
    intro vs u hB hf K hK
    have f0 : (fun v u => v = Value.pointer (some ⟨h, 0, none⟩)) (vs 0) u := hf.1
    have f1 : (fun v u => v = Value.pointer (some ⟨h, 0, none⟩)) (vs 1) u := hf.2.1
    have f2 : (fun v u => v = Value.pointer (some ⟨h, 0, none⟩)) (vs 2) u := hf.2.2.1
    have f3 : (fun v u => v = Value.map (some b)) (vs 3) u := hf.2.2.2.1
    have f4 : (fun v u => v = Value.pointer (some ⟨w.heap.size, 0, none⟩)) (vs 4) u := hf.2.2.2.2.1
    have f5 : (fun v u => v = r.name.val) (vs 5) u := hf.2.2.2.2.2.1
    have f6 : (fun v u => v = .int .i64 (n : Int)) (vs 6) u := hf.2.2.2.2.2.2.1
    clear hf
    simp only [putsA, List.foldl_cons, List.foldl_nil, Act.put, List.setIfInBounds_toArray, List.set_cons_zero, List.set_cons_succ]
    generalize vs 0 = v0 at f0 ⊢
    generalize vs 1 = v1 at f1 ⊢
    generalize vs 2 = v2 at f2 ⊢
    generalize vs 3 = v3 at f3 ⊢
    generalize vs 4 = v4 at f4 ⊢
    generalize vs 5 = v5 at f5 ⊢
    generalize vs 6 = v6 at f6 ⊢
    rw [if_pos (by rfl)]
    subst f0 f1 f2 f3 f4 f5 f6
    have hG := HG.out.below hB
    obtain ⟨w2, hrun, hmp, hgr, hsz⟩ := hG.map.put r.name HN.out.1 HN.out.2
    rw [List.length_map, ← HNL.out] at hrun
    have HM : Hid (MapW w2 b (rs.map Rw.name ++ [r.name])) := hmp
    have HGR : Hid (u.grownBy w2 (some b)) := hgr
    have HU : Hid (Below W.heap.size W u) := hB
    have HGu : Hid (GlAt u h b rs) := hG
    clear hmp hgr hG hB
    go_simp
    refine hK.out _ _ ?_
    clear hK hrun
    have zs : w.heap.size < u.heap.size := by have := HU.out.size; omega
    have HQ2 : Hid (∀ (o : Nat) (v : Value), r.cells[o]? = some v → w2.cell? ⟨w.heap.size, o, none⟩ = some v) := fun o v h => HGR.out.cell (cell_keep HU.out (HQ.out o v h)) (by have := HLT.out.2; simp; omega)
    have HC2 : Hid (∃ C, w2.rangeAt h 0 C ∧ GlC C b rs) := by
      obtain ⟨C, h1, h2⟩ := HGu.out.cells
      exact ⟨C, fun j v hv => HGR.out.cell (h1 j v hv) (by have := HGu.out.ne; simpa using this), h2⟩
    have HF2 : Hid (∀ j, w2.frozen? ⟨h, j, none⟩ = false) := fun j => by
      have e : w2.heap[h]? = u.heap[h]? := HGR.out.block h HGu.out.lt (by have := HGu.out.ne; simpa using this)
      have := HGu.out.free j
      unfold World.frozen? at this ⊢
      simp only at this ⊢
      rw [e]; exact this
    go_wp2_with fail
    refine wp_region_facts (by kernel_rfl) 6 (fun v => Below w2.heap.size w2 v) (fun u v => Below u.heap.size u v) (fun i v u => match i with | 0 => (fun v u => v = Value.pointer (some ⟨h, 0, none⟩)) v u | 1 => (fun v u => v = .int .i64 (n : Int)) v u | 2 => (fun v u => v = r.val) v u | 3 => (fun v u => v = Value.pointer (some ⟨h, 0, none⟩)) v u | 4 => (fun v u => v = Value.pointer (some ⟨h, 1, none⟩)) v u | 5 => (fun v u => v = Value.pointer (some ⟨h, 1 + n * 5, none⟩)) v u | _ => True) (by kernel_rfl) [0, 1, 2, 3, 4, 5] (by kernel_rfl) ?b0 ?bk ?fk ⟨?s0, ?s1, ?s2, ?s3, ?s4, ?s5, trivial⟩ _ rfl [(0, some 14), (1, some 15), (2, some 16), (3, some 17), (4, some 18), (5, some 19)] (by kernel_rfl) ?last
    case b0 => exact Below.drew (Below.refl _ _)
    case bk => exact fun u v h hb => h.trans (hb.mono h.size)
    case fk => intro i v u u' h hb; match i, h with | 0, h => exact (h) | 1, h => exact (h) | 2, h => exact (h) | 3, h => exact (h) | 4, h => exact (h) | 5, h => exact (h) | _ + 6, _ => exact trivial
    case s0 =>
      refine StepF.of rfl [] (by kernel_rfl) ?_
      intro vs u hB hf K hK
      clear hf
      simp only [putsA, List.foldl_nil, Act.put, List.setIfInBounds_toArray] at hK ⊢
      rw [if_pos (by rfl)]
      go_simp
      exact hK.out _ _ (Below.refl _ _) rfl
    case s1 =>
      refine StepF.of rfl [] (by kernel_rfl) ?_
      intro vs u hB hf K hK
      clear hf
      simp only [putsA, List.foldl_nil, Act.put, List.setIfInBounds_toArray] at hK ⊢
      rw [if_pos (by rfl)]
      go_simp
      exact hK.out _ _ (Below.refl _ _) rfl
    case s2 =>
      refine StepF.of rfl [] (by kernel_rfl) ?_
      intro vs u hB hf K hK
      clear hf
      simp only [putsA, List.foldl_nil, Act.put, List.setIfInBounds_toArray] at hK ⊢
      rw [if_pos (by rfl)]
      have c0 := cell_keep hB (HQ2.out 0 _ rfl)
      have c1 := cell_keep hB (HQ2.out 1 _ rfl)
      have c2 := cell_keep hB (HQ2.out 2 _ rfl)
      have c3 := cell_keep hB (HQ2.out 3 _ rfl)
      have c4 := cell_keep hB (HQ2.out 4 _ rfl)
      go_simp
      exact hK.out _ _ (Below.refl _ _) rfl
    case s3 =>
      refine StepF.of rfl [(0, some 14)] (by kernel_rfl) ?_
      intro vs u hB hf K hK
      have f0 : (fun v u => v = Value.pointer (some ⟨h, 0, none⟩)) (vs 0) u := hf.1
      clear hf
      simp only [putsA, List.foldl_cons, List.foldl_nil, Act.put, List.setIfInBounds_toArray, List.set_cons_zero, List.set_cons_succ] at hK ⊢
      generalize vs 0 = v0 at f0 hK ⊢
      rw [if_pos (by rfl)]
      subst f0
      go_simp
      exact hK.out _ _ (Below.refl _ _) rfl
    case s4 =>
      refine StepF.of rfl [(3, some 17)] (by kernel_rfl) ?_
      intro vs u hB hf K hK
      have f3 : (fun v u => v = Value.pointer (some ⟨h, 0, none⟩)) (vs 3) u := hf.1
      clear hf
      simp only [putsA, List.foldl_cons, List.foldl_nil, Act.put, List.setIfInBounds_toArray, List.set_cons_zero, List.set_cons_succ] at hK ⊢
      generalize vs 3 = v3 at f3 hK ⊢
      rw [if_pos (by rfl)]
      subst f3
      go_simp
      exact hK.out _ _ (Below.refl _ _) rfl
    case s5 =>
      refine StepF.of rfl [(0, some 14), (1, some 15), (2, some 16), (4, some 18)] (by kernel_rfl) ?_
      intro vs u hB hf K hK
      have f0 : (fun v u => v = Value.pointer (some ⟨h, 0, none⟩)) (vs 0) u := hf.1
      have f1 : (fun v u => v = .int .i64 (n : Int)) (vs 1) u := hf.2.1
      have f2 : (fun v u => v = r.val) (vs 2) u := hf.2.2.1
      have f4 : (fun v u => v = Value.pointer (some ⟨h, 1, none⟩)) (vs 4) u := hf.2.2.2.1
      clear hf
      simp only [putsA, List.foldl_cons, List.foldl_nil, Act.put, List.setIfInBounds_toArray, List.set_cons_zero, List.set_cons_succ] at hK ⊢
      generalize vs 0 = v0 at f0 hK ⊢
      generalize vs 1 = v1 at f1 hK ⊢
      generalize vs 2 = v2 at f2 hK ⊢
      generalize vs 4 = v4 at f4 hK ⊢
      rw [if_pos (by rfl)]
      subst f4 f1
      clear f0 f2
      have hi1 : (n : Int) < 60 := by omega
      have hi0 : (0 : Int) ≤ (n : Int) := by omega
      have hi2 : ¬ ((n : Int) < 0) := by omega
      have hi3 : ¬ ((60 : Int) ≤ (n : Int)) := by omega
      go_simp
      exact hK.out _ _ (Below.refl _ _) rfl
    case last =>
      intro vs u' hB hf K hK
      have f0 : (fun v u => v = Value.pointer (some ⟨h, 0, none⟩)) (vs 0) u' := hf.1
      have f1 : (fun v u => v = .int .i64 (n : Int)) (vs 1) u' := hf.2.1
      have f2 : (fun v u => v = r.val) (vs 2) u' := hf.2.2.1
      have f3 : (fun v u => v = Value.pointer (some ⟨h, 0, none⟩)) (vs 3) u' := hf.2.2.2.1
      have f4 : (fun v u => v = Value.pointer (some ⟨h, 1, none⟩)) (vs 4) u' := hf.2.2.2.2.1
      have f5 : (fun v u => v = Value.pointer (some ⟨h, 1 + n * 5, none⟩)) (vs 5) u' := hf.2.2.2.2.2.1
      clear hf
      simp only [putsA, List.foldl_cons, List.foldl_nil, Act.put, List.setIfInBounds_toArray, List.set_cons_zero, List.set_cons_succ]
      generalize vs 0 = v0 at f0 ⊢
      generalize vs 1 = v1 at f1 ⊢
      generalize vs 2 = v2 at f2 ⊢
      generalize vs 3 = v3 at f3 ⊢
      generalize vs 4 = v4 at f4 ⊢
      generalize vs 5 = v5 at f5 ⊢
      rw [if_pos (by rfl)]
      subst f2 f5
      clear f0 f1 f3 f4
      obtain ⟨C, hC, hgl⟩ := HC2.out
      have hC' := range_below hC hB
      have hL := hgl.len
      have cc : ∀ j, j < 301 → ∃ x, u'.cell? ⟨h, j, none⟩ = some x := fun j hj => by
        have := hC' j _ (List.getElem?_eq_getElem (by rw [hL]; exact hj))
        rw [Nat.zero_add] at this
        exact ⟨_, this⟩
      obtain ⟨x0, e0⟩ := cc (1 + n * 5) (by omega)
      obtain ⟨x1, e1⟩ := cc (1 + n * 5 + 1) (by omega)
      obtain ⟨x2, e2⟩ := cc (1 + n * 5 + 2) (by omega)
      obtain ⟨x3, e3⟩ := cc (1 + n * 5 + 3) (by omega)
      obtain ⟨x4, e4⟩ := cc (1 + n * 5 + 4) (by omega)
      have ff : ∀ j, u'.frozen? ⟨h, j, none⟩ = false := fun j => by rw [(bcell hB).2 _ _ (by have := HLT.out.1; have := HGR.out.size; omega)]; exact HF2.out j
      have HB2 : Hid (Below w2.heap.size w2 u') := hB
      have HC3 : Hid (u'.rangeAt h 0 C ∧ GlC C b rs) := ⟨hC', hgl⟩
      clear hB hC hC' hgl hL cc
      go_simp
      refine hK.out _ _ ?_
      clear hK e0 e1 e2 e3 e4
      go_wp2
      refine bodyPost_end (v := .tuple #[]) (by simp [results, Try.results68]) rfl ⟨rfl, ?_, ?_, ?_⟩
      · have hr := range_putR HC3.out.1 n r (by rw [HC3.out.2.len]; omega)
        have hm := HC3.out.2.more r (by have := HNL.out; omega)
        rw [← HNL.out] at hm
        refine ⟨HGu.out.ne, ?_, ?_, fun j => by simp only [World.frozen?_setCell]; exact ff j, _, hr, hm⟩
        · rw [List.map_append]
          refine (HM.out.below HB2.out).keep ?_
          have hs : ∀ (x : World) (o : Nat) (v : Value), (x.setCell ⟨h, o, none⟩ v).heap[b]? = x.heap[b]? := fun x o v => RowKit.Below.heap_setCell _ _ _ _ (show b ≠ h from Ne.symm HGu.out.ne)
          rw [hs, hs, hs, hs, hs]
        · rw [List.map_append, List.nodup_append]
          refine ⟨HG.out.dup, by simp, ?_⟩
          intro a ha c hc
          simp at hc
          subst hc
          rintro rfl
          exact HN.out.2 ha
      · intro B hB1 hB2
        have b1 : Below B w W := HBW.out.mono (by have := HLT.out.1; omega)
        have b2 : Below B w u := b1.trans (HU.out.mono (by have := HLT.out.1; omega))
        have b3 : Below B w w2 := b2.trans (below_of_grown HGR.out (by have := HLT.out.1; omega) (fun k hk => by injection hk with e; omega))
        have b4 : Below B w u' := b3.trans (HB2.out.mono (by have := HLT.out.1; have := HGR.out.size; omega))
        repeat (first | refine Below.setCell ?_ hB1 _ | exact b4)
      · intro i hi hih hib
        have hs : ∀ (x : World) (o : Nat) (v : Value), (x.setCell ⟨h, o, none⟩ v).heap[i]? = x.heap[i]? := fun x o v => RowKit.Below.heap_setCell _ _ _ _ hih
        rw [hs, hs, hs, hs, hs, HB2.out.block i (by have := HGR.out.size; omega), HGR.out.block i (by omega) (by simpa using hib), HU.out.block i (by omega), HBW.out.block i hi]
theorem add_any (h b : Nat) (rs : List Rw) (r : Rw) (w : World) (H : GlAt w h b rs) (hx : r.name.fit) (hn : r.name ∉ rs.map Rw.name) (hl : rs.length < 60) :
    Calls Try.prog 68 #[.pointer (some ⟨h, 0, none⟩), r.val] w fun e w' => e = .returned (.tuple #[]) ∧ GlAt w' h b (rs ++ [r]) ∧ (∀ B, B ≤ h → B ≤ b → Below B w w') :=
  (add_all h b rs r w H hx hn hl).mono fun _ _ ⟨h1, h2, h3, _⟩ => ⟨h1, h2, h3⟩
end Go.Proofs.Ytgfienijabkpjaa
