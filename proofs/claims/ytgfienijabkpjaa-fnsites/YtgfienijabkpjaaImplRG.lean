/-
  The program's row.global: a row of words as a global again; nothing that was there is turned.
-/
import Derived.Test.YtgfienijabkpjaaGlobKit
import Derived.Test.YtgfienijabkpjaaImplValue
import Derived.Test.YtgfienijabkpjaaFacts
namespace Go.Proofs.Ytgfienijabkpjaa
open Go.RowKit Go.Extern.Stop Go.Stop Go.Extern Num Go.Lib

set_option maxRecDepth 100000 in
set_option maxHeartbeats 2000000 in
theorem rowGlobal_any (t : Glb) (w : World) (hs : symL t.name.data.toList = true) (hv : vfault t.value = 0) :
    Calls Try.prog 47 #[(rwOf t).val] w fun e w' => e = .returned t.val ∧ Below w.heap.size w w' := by
  have H1 : Hid (∀ u, Calls Try.prog 54 #[(rwOf t).name.val] u fun e w' => e = .returned (.agg #[.int .i64 4, .int .i64 0, .string t.name]) ∧ Below u.heap.size u w') := fun u => value_any ⟨4, 0, t.name⟩ u (by rw [vfault_sym, if_pos hs])
  have H2 : Hid (∀ u, Calls Try.prog 54 #[(rwOf t).value.val] u fun e w' => e = .returned t.value.val ∧ Below u.heap.size u w') := fun u => value_any t.value u hv
  have H3 : Hid ((rwOf t).ver = t.ver) := rfl
  obtain ⟨r, hr⟩ : ∃ r, r = rwOf t := ⟨_, rfl⟩
  rw [← hr] at H1 H2 H3 ⊢
  clear hs hv hr
  obtain ⟨W, hW⟩ : ∃ W, W = (w.alloc (.cells #[.int .u8 r.name.tag, .int .u64 r.name.rest, .int .u8 r.value.tag, .int .u64 r.value.rest, .int .i64 r.ver] 76)).alloc (.cells #[.string ⟨#[]⟩, .int .i64 0, .int .i64 0, .string ⟨#[]⟩, .int .i64 0] 33) := ⟨_, rfl⟩
  have HBW : Hid (Below w.heap.size w W) := by rw [hW]; exact ((Below.refl _ _).alloc (Nat.le_refl _) _).alloc (by simp) _
  have HQ : Hid (∀ (o : Nat) (v : Value), r.cells[o]? = some v → W.cell? ⟨w.heap.size, o, none⟩ = some v) := fun o v h => by rw [hW, World.cell?_alloc_past _ _ _ (by simp), World.cell?_alloc_at _ _ _ _ rfl]; simpa [Rw.cells] using h
  have HZ : Hid (∀ (o : Nat) (v : Value), [Value.string ⟨#[]⟩, .int .i64 0, .int .i64 0, .string ⟨#[]⟩, .int .i64 0][o]? = some v → W.cell? ⟨w.heap.size + 1, o, none⟩ = some v) := fun o v h => by rw [hW, World.cell?_alloc_at _ _ _ _ (by simp)]; simpa using h
  have HZf : Hid (∀ o, W.frozen? ⟨w.heap.size + 1, o, none⟩ = false) := fun o => by rw [hW, World.frozen?_alloc_at _ _ _ _ (by simp)]
  have zW : W.heap.size = w.heap.size + 2 := by rw [hW]; simp
  go_enter Try.func47, Try.ntmps47
  go_wp2_with fail
  rw [← hW]
  clear hW
  refine wp_region_facts (by kernel_rfl) 10 (fun v => Below W.heap.size W v) (fun u v => Below u.heap.size u v) (fun i v u => match i with | 0 => (fun v u => v = Value.pointer (some ⟨w.heap.size, 0, none⟩)) v u | 1 => (fun v u => v = r.name.val) v u | 2 => (fun v u => v = .agg #[.int .i64 4, .int .i64 0, .string t.name]) v u | 3 => (fun v u => v = .string t.name) v u | 4 => (fun v u => v = Value.pointer (some ⟨w.heap.size, 2, none⟩)) v u | 5 => (fun v u => v = r.value.val) v u | 6 => (fun v u => v = t.value.val) v u | 7 => (fun v u => v = Value.pointer (some ⟨w.heap.size, 4, none⟩)) v u | 8 => (fun v u => v = .int .i64 t.ver) v u | 9 => (fun v u => v = t.val) v u | _ => True) (by kernel_rfl) [0, 1, 2, 3, 4, 5, 6, 7, 8, 9] (by kernel_rfl) ?b0 ?bk ?fk ⟨?s0, ?s1, ?s2, ?s3, ?s4, ?s5, ?s6, ?s7, ?s8, ?s9, trivial⟩ _ rfl [(0, some 3), (1, some 4), (2, some 5), (3, some 6), (4, some 7), (5, some 8), (6, some 9), (7, some 10), (8, some 11), (9, some 12)] (by kernel_rfl) ?last
  case b0 => exact Below.drew (Below.refl _ _)
  case bk => exact fun u v h hb => h.trans (hb.mono h.size)
  case fk => intro i v u u' h hb; match i, h with | 0, h => exact (h) | 1, h => exact (h) | 2, h => exact (h) | 3, h => exact (h) | 4, h => exact (h) | 5, h => exact (h) | 6, h => exact (h) | 7, h => exact (h) | 8, h => exact (h) | 9, h => exact (h) | _ + 10, _ => exact trivial
  case s0 =>
    refine StepF.of rfl [] (by kernel_rfl) ?_
    intro vs u hB hf K hK
    clear hf
    simp only [putsA, List.foldl_nil, Act.put, List.setIfInBounds_toArray] at hK ⊢
    rw [if_pos (by rfl)]
    go_simp
    exact hK.out _ _ (Below.refl _ _) rfl
  case s1 =>
    refine StepF.of rfl [(0, some 3)] (by kernel_rfl) ?_
    intro vs u hB hf K hK
    have f0 : (fun v u => v = Value.pointer (some ⟨w.heap.size, 0, none⟩)) (vs 0) u := hf.1
    clear hf
    simp only [putsA, List.foldl_cons, List.foldl_nil, Act.put, List.setIfInBounds_toArray, List.set_cons_zero, List.set_cons_succ] at hK ⊢
    generalize vs 0 = v0 at f0 hK ⊢
    rw [if_pos (by rfl)]
    subst f0
    have c0 := cell_keep hB (HQ.out 0 _ rfl)
    have c1 := cell_keep hB (HQ.out 1 _ rfl)
    go_simp
    exact hK.out _ _ (Below.refl _ _) rfl
  case s2 =>
    refine StepF.of rfl [(1, some 4)] (by kernel_rfl) ?_
    intro vs u hB hf K hK
    have f1 : (fun v u => v = r.name.val) (vs 1) u := hf.1
    clear hf
    simp only [putsA, List.foldl_cons, List.foldl_nil, Act.put, List.setIfInBounds_toArray, List.set_cons_zero, List.set_cons_succ] at hK ⊢
    generalize vs 1 = v1 at f1 hK ⊢
    rw [if_pos (by rfl)]
    subst f1
    go_simp
    refine (H1.out _).mono ?_
    rintro e w4 ⟨rfl, b4⟩
    exact hK.out _ _ b4 rfl
  case s3 =>
    refine StepF.of rfl [(2, some 5)] (by kernel_rfl) ?_
    intro vs u hB hf K hK
    have f2 : (fun v u => v = .agg #[.int .i64 4, .int .i64 0, .string t.name]) (vs 2) u := hf.1
    clear hf
    simp only [putsA, List.foldl_cons, List.foldl_nil, Act.put, List.setIfInBounds_toArray, List.set_cons_zero, List.set_cons_succ] at hK ⊢
    generalize vs 2 = v2 at f2 hK ⊢
    rw [if_pos (by rfl)]
    subst f2
    go_simp
    exact hK.out _ _ (Below.refl _ _) rfl
  case s4 =>
    refine StepF.of rfl [] (by kernel_rfl) ?_
    intro vs u hB hf K hK
    clear hf
    simp only [putsA, List.foldl_nil, Act.put, List.setIfInBounds_toArray] at hK ⊢
    rw [if_pos (by rfl)]
    go_simp
    exact hK.out _ _ (Below.refl _ _) rfl
  case s5 =>
    refine StepF.of rfl [(4, some 7)] (by kernel_rfl) ?_
    intro vs u hB hf K hK
    have f4 : (fun v u => v = Value.pointer (some ⟨w.heap.size, 2, none⟩)) (vs 4) u := hf.1
    clear hf
    simp only [putsA, List.foldl_cons, List.foldl_nil, Act.put, List.setIfInBounds_toArray, List.set_cons_zero, List.set_cons_succ] at hK ⊢
    generalize vs 4 = v4 at f4 hK ⊢
    rw [if_pos (by rfl)]
    subst f4
    have c0 := cell_keep hB (HQ.out 2 _ rfl)
    have c1 := cell_keep hB (HQ.out 3 _ rfl)
    go_simp
    exact hK.out _ _ (Below.refl _ _) rfl
  case s6 =>
    refine StepF.of rfl [(2, some 5), (5, some 8)] (by kernel_rfl) ?_
    intro vs u hB hf K hK
    have f2 : (fun v u => v = .agg #[.int .i64 4, .int .i64 0, .string t.name]) (vs 2) u := hf.1
    have f5 : (fun v u => v = r.value.val) (vs 5) u := hf.2.1
    clear hf
    simp only [putsA, List.foldl_cons, List.foldl_nil, Act.put, List.setIfInBounds_toArray, List.set_cons_zero, List.set_cons_succ] at hK ⊢
    generalize vs 2 = v2 at f2 hK ⊢
    generalize vs 5 = v5 at f5 hK ⊢
    rw [if_pos (by rfl)]
    subst f5
    clear f2
    go_simp
    refine (H2.out _).mono ?_
    rintro e w4 ⟨rfl, b4⟩
    exact hK.out _ _ b4 rfl
  case s7 =>
    refine StepF.of rfl [] (by kernel_rfl) ?_
    intro vs u hB hf K hK
    clear hf
    simp only [putsA, List.foldl_nil, Act.put, List.setIfInBounds_toArray] at hK ⊢
    rw [if_pos (by rfl)]
    go_simp
    exact hK.out _ _ (Below.refl _ _) rfl
  case s8 =>
    refine StepF.of rfl [(7, some 10)] (by kernel_rfl) ?_
    intro vs u hB hf K hK
    have f7 : (fun v u => v = Value.pointer (some ⟨w.heap.size, 4, none⟩)) (vs 7) u := hf.1
    clear hf
    simp only [putsA, List.foldl_cons, List.foldl_nil, Act.put, List.setIfInBounds_toArray, List.set_cons_zero, List.set_cons_succ] at hK ⊢
    generalize vs 7 = v7 at f7 hK ⊢
    rw [if_pos (by rfl)]
    subst f7
    have c0 := cell_keep hB (HQ.out 4 _ rfl)
    rw [H3.out] at c0
    go_simp
    exact hK.out _ _ (Below.refl _ _) rfl
  case s9 =>
    refine StepF.of rfl [(3, some 6), (6, some 9), (8, some 11)] (by kernel_rfl) ?_
    intro vs u hB hf K hK
    have f3 : (fun v u => v = .string t.name) (vs 3) u := hf.1
    have f6 : (fun v u => v = t.value.val) (vs 6) u := hf.2.1
    have f8 : (fun v u => v = .int .i64 t.ver) (vs 8) u := hf.2.2.1
    clear hf
    simp only [putsA, List.foldl_cons, List.foldl_nil, Act.put, List.setIfInBounds_toArray, List.set_cons_zero, List.set_cons_succ] at hK ⊢
    generalize vs 3 = v3 at f3 hK ⊢
    generalize vs 6 = v6 at f6 hK ⊢
    generalize vs 8 = v8 at f8 hK ⊢
    rw [if_pos (by rfl)]
    subst f3 f6 f8
    go_simp
    exact hK.out _ _ (Below.refl _ _) rfl
  case last =>
    intro vs u hB hf K hK
    have f0 : (fun v u => v = Value.pointer (some ⟨w.heap.size, 0, none⟩)) (vs 0) u := hf.1
    have f1 : (fun v u => v = r.name.val) (vs 1) u := hf.2.1
    have f2 : (fun v u => v = .agg #[.int .i64 4, .int .i64 0, .string t.name]) (vs 2) u := hf.2.2.1
    have f3 : (fun v u => v = .string t.name) (vs 3) u := hf.2.2.2.1
    have f4 : (fun v u => v = Value.pointer (some ⟨w.heap.size, 2, none⟩)) (vs 4) u := hf.2.2.2.2.1
    have f5 : (fun v u => v = r.value.val) (vs 5) u := hf.2.2.2.2.2.1
    have f6 : (fun v u => v = t.value.val) (vs 6) u := hf.2.2.2.2.2.2.1
    have f7 : (fun v u => v = Value.pointer (some ⟨w.heap.size, 4, none⟩)) (vs 7) u := hf.2.2.2.2.2.2.2.1
    have f8 : (fun v u => v = .int .i64 t.ver) (vs 8) u := hf.2.2.2.2.2.2.2.2.1
    have f9 : (fun v u => v = t.val) (vs 9) u := hf.2.2.2.2.2.2.2.2.2.1
    clear hf
    simp only [putsA, List.foldl_cons, List.foldl_nil, Act.put, List.setIfInBounds_toArray, List.set_cons_zero, List.set_cons_succ]
    generalize vs 0 = v0 at f0 ⊢
    generalize vs 1 = v1 at f1 ⊢
    generalize vs 2 = v2 at f2 ⊢
    generalize vs 3 = v3 at f3 ⊢
    generalize vs 4 = v4 at f4 ⊢
    generalize vs 5 = v5 at f5 ⊢
    generalize vs 6 = v6 at f6 ⊢
    generalize vs 7 = v7 at f7 ⊢
    generalize vs 8 = v8 at f8 ⊢
    generalize vs 9 = v9 at f9 ⊢
    rw [if_pos (by rfl)]
    subst f9
    clear f0 f1 f2 f3 f4 f5 f6 f7 f8
    have z0 := cell_keep hB (HZ.out 0 _ rfl)
    have z1 := cell_keep hB (HZ.out 1 _ rfl)
    have z2 := cell_keep hB (HZ.out 2 _ rfl)
    have z3 := cell_keep hB (HZ.out 3 _ rfl)
    have z4 := cell_keep hB (HZ.out 4 _ rfl)
    have zf : ∀ o, u.frozen? ⟨w.heap.size + 1, o, none⟩ = false := fun o => by rw [(bcell hB).2 _ _ (by omega)]; exact HZf.out o
    have HBu : Hid (Below w.heap.size w u) := HBW.out.trans (hB.mono HBW.out.size)
    clear hB
    go_simp
    refine hK.out _ _ ?_
    clear hK
    go_wp2
    exact bodyPost_ret (v := t.val) (by simp [results, Try.results47, go_sem, z0, z1, z2, z3, z4]) rfl ⟨rfl, by repeat (first | refine Below.setCell ?_ (by simp) _ | exact HBu.out)⟩
end Go.Proofs.Ytgfienijabkpjaa
