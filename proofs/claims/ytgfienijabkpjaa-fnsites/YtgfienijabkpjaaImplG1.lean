/-
  The program's find; nothing that was there is turned.
-/
import Derived.Test.YtgfienijabkpjaaGlobKit
import Derived.Test.YtgfienijabkpjaaFacts
namespace Go.Proofs.Ytgfienijabkpjaa
open Go.RowKit Go.Extern.Stop Go.Stop Go.Extern Num Go.Lib

theorem nodup_at {α : Type} {l : List α} (h : l.Nodup) {i j : Nat} (hi : i < l.length) (hj : j < l.length) (e : l[i] = l[j]) : i = j := by
  have hp := List.pairwise_iff_getElem.1 h
  rcases Nat.lt_trichotomy i j with h1 | h1 | h1
  · exact absurd e (hp i j hi hj h1)
  · exact h1
  · exact absurd e.symm (hp j i hj hi h1)
theorem GlAt.hit {w : World} {h b : Nat} {rs : List Rw} (H : GlAt w h b rs) (k : Nat) (hk : k < rs.length) : (Instr.lookup 71 (.map (some b)) (rs[k]).name.val true).run Try.prog w = .ok (.tuple #[.int .i64 (k : Int), .bool true]) w := by
  have hm : (rs.map Rw.name)[k]? = some rs[k].name := by simp [hk]
  have hf : (rs[k]).name.fit := by
    obtain ⟨es, cl, _, _, hf⟩ := H.map
    exact hf _ (List.mem_of_getElem? hm)
  rcases H.map.look _ hf with ⟨h0, _⟩ | ⟨j, hj, hr⟩
  · exact absurd (List.mem_of_getElem? hm) h0
  · have : j = k := by
      have hjl : j < (rs.map Rw.name).length := (List.getElem?_eq_some_iff.1 hj).1
      have hkl : k < (rs.map Rw.name).length := by simpa using hk
      exact nodup_at H.dup hjl hkl (by rw [List.getElem?_eq_getElem hjl] at hj; rw [List.getElem?_eq_getElem hkl] at hm; rw [Option.some.inj hj, Option.some.inj hm])
    subst this
    exact hr
theorem GlAt.miss {w : World} {h b : Nat} {rs : List Rw} (H : GlAt w h b rs) (x : Wd) (hx : x.fit) (hn : x ∉ rs.map Rw.name) : (Instr.lookup 71 (.map (some b)) x.val true).run Try.prog w = .ok (.tuple #[.int .i64 0, .bool false]) w := by
  rcases H.map.look x hx with ⟨_, hr⟩ | ⟨j, hj, _⟩
  · exact hr
  · exact absurd (List.mem_of_getElem? hj) hn
set_option maxHeartbeats 1000000 in
theorem find_miss (h b : Nat) (rs : List Rw) (x : Wd) (w : World) (H : GlAt w h b rs) (hx : x.fit) (hn : x ∉ rs.map Rw.name) :
    Calls Try.prog 46 #[.pointer (some ⟨h, 0, none⟩), x.val] w fun e w' => e = .returned (.tuple #[rwZ.val, .bool false]) ∧ Below w.heap.size w w' := by
  have HL : Hid (∀ u, GlAt u h b rs → (Instr.lookup 71 (.map (some b)) x.val true).run Try.prog u = .ok (.tuple #[.int .i64 0, .bool false]) u) := fun u hu => hu.miss x hx hn
  clear hx hn
  obtain ⟨W, hW⟩ : ∃ W, W = (w.alloc (.cells #[.int .u8 x.tag, .int .u64 x.rest] 74)).alloc (.cells #[.int .u8 0, .int .u64 0, .int .u8 0, .int .u64 0, .int .i64 0] 76) := ⟨_, rfl⟩
  have HBW : Hid (Below w.heap.size w W) := by rw [hW]; exact ((Below.refl _ _).alloc (Nat.le_refl _) _).alloc (by simp) _
  have HG : Hid (GlAt W h b rs) := H.below HBW.out
  have A2 : Hid (W.cell? ⟨w.heap.size, 0, none⟩ = some (.int .u8 x.tag)) := by show W.cell? _ = _; rw [hW, World.cell?_alloc_past _ _ _ (by simp), World.cell?_alloc_at _ _ _ _ rfl]; rfl
  have A3 : Hid (W.cell? ⟨w.heap.size, 1, none⟩ = some (.int .u64 x.rest)) := by show W.cell? _ = _; rw [hW, World.cell?_alloc_past _ _ _ (by simp), World.cell?_alloc_at _ _ _ _ rfl]; rfl
  have HQ : Hid (∀ (o : Nat) (v : Value), [Value.int .u8 0, .int .u64 0, .int .u8 0, .int .u64 0, .int .i64 0][o]? = some v → W.cell? ⟨w.heap.size + 1, o, none⟩ = some v) := fun o v h => by rw [hW, World.cell?_alloc_at _ _ _ _ (by simp)]; simpa using h
  have HQf : Hid (∀ o, W.frozen? ⟨w.heap.size + 1, o, none⟩ = false) := fun o => by rw [hW, World.frozen?_alloc_at _ _ _ _ (by simp)]
  have zW : W.heap.size = w.heap.size + 2 := by rw [hW]; simp
  clear H
  go_enter Try.func46, Try.ntmps46
  go_wp2_with fail
  rw [← hW]
  clear hW
  refine wp_region_facts (by kernel_rfl) 10 (fun v => Below W.heap.size W v) (fun u v => Below u.heap.size u v) (fun i v u => match i with | 0 => (fun v u => v = Value.pointer (some ⟨h, 0, none⟩)) v u | 1 => (fun v u => v = Value.pointer (some ⟨h, 0, none⟩)) v u | 2 => (fun v u => v = Value.pointer (some ⟨h, 0, none⟩)) v u | 3 => (fun v u => v = Value.map (some b)) v u | 4 => (fun v u => v = x.val) v u | 5 => (fun v u => v = .tuple #[.int .i64 0, .bool false]) v u | 6 => (fun v u => v = .tuple #[.int .i64 0, .bool false]) v u | 7 => (fun v u => v = .int .i64 0) v u | 8 => (fun v u => v = .bool false) v u | 9 => (fun v u => v = .int .i64 0) v u | _ => True) (by kernel_rfl) [0, 1, 2, 3, 4, 5, 6, 7, 8, 9] (by kernel_rfl) ?b0 ?bk ?fk ⟨?s0, ?s1, ?s2, ?s3, ?s4, ?s5, ?s6, ?s7, ?s8, ?s9, trivial⟩ _ rfl [(0, some 9), (1, some 10), (2, some 11), (3, some 12), (4, some 13), (5, some 14), (6, some 8), (7, some 15), (8, some 16), (9, some 6)] (by kernel_rfl) ?last
  case b0 => exact Below.drew (Below.refl _ _)
  case bk => exact fun u v h hb => h.trans (hb.mono h.size)
  case fk => intro i v u u' h hb; match i, h with | 0, h => exact (h) | 1, h => exact (h) | 2, h => exact (h) | 3, h => exact (h) | 4, h => exact (h) | 5, h => exact (h) | 6, h => exact (h) | 7, h => exact (h) | 8, h => exact (h) | 9, h => exact (h) | _ + 10, _ => exact trivial
  case s0 =>
    refine StepF.of rfl [] (by kernel_rfl) ?_
    intro vs u hB hf K hK
    clear hf
    simp only [putsA, List.foldl_nil, Act.put, List.setIfInBounds_toArray] at hK ⊢
    rw [if_pos (by rfl)]
    go_simp
    exact hK.out _ _ (Below.refl _ _) rfl
  case s1 =>
    refine StepF.of rfl [(0, some 9)] (by kernel_rfl) ?_
    intro vs u hB hf K hK
    have f0 : (fun v u => v = Value.pointer (some ⟨h, 0, none⟩)) (vs 0) u := hf.1
    clear hf
    simp only [putsA, List.foldl_cons, List.foldl_nil, Act.put, List.setIfInBounds_toArray, List.set_cons_zero, List.set_cons_succ] at hK ⊢
    generalize vs 0 = v0 at f0 hK ⊢
    rw [if_pos (by rfl)]
    subst f0
    go_simp
    exact hK.out _ _ (Below.refl _ _) rfl
  case s2 =>
    refine StepF.of rfl [(1, some 10)] (by kernel_rfl) ?_
    intro vs u hB hf K hK
    have f1 : (fun v u => v = Value.pointer (some ⟨h, 0, none⟩)) (vs 1) u := hf.1
    clear hf
    simp only [putsA, List.foldl_cons, List.foldl_nil, Act.put, List.setIfInBounds_toArray, List.set_cons_zero, List.set_cons_succ] at hK ⊢
    generalize vs 1 = v1 at f1 hK ⊢
    rw [if_pos (by rfl)]
    subst f1
    go_simp
    exact hK.out _ _ (Below.refl _ _) rfl
  case s3 =>
    refine StepF.of rfl [(2, some 11)] (by kernel_rfl) ?_
    intro vs u hB hf K hK
    have f2 : (fun v u => v = Value.pointer (some ⟨h, 0, none⟩)) (vs 2) u := hf.1
    clear hf
    simp only [putsA, List.foldl_cons, List.foldl_nil, Act.put, List.setIfInBounds_toArray, List.set_cons_zero, List.set_cons_succ] at hK ⊢
    generalize vs 2 = v2 at f2 hK ⊢
    rw [if_pos (by rfl)]
    subst f2
    have c0 := (HG.out.below hB).hd
    go_simp
    exact hK.out _ _ (Below.refl _ _) rfl
  case s4 =>
    refine StepF.of rfl [] (by kernel_rfl) ?_
    intro vs u hB hf K hK
    clear hf
    simp only [putsA, List.foldl_nil, Act.put, List.setIfInBounds_toArray] at hK ⊢
    rw [if_pos (by rfl)]
    have c0 := cell_keep hB A2.out
    have c1 := cell_keep hB A3.out
    go_simp
    exact hK.out _ _ (Below.refl _ _) rfl
  case s5 =>
    refine StepF.of rfl [(3, some 12), (4, some 13)] (by kernel_rfl) ?_
    intro vs u hB hf K hK
    have f3 : (fun v u => v = Value.map (some b)) (vs 3) u := hf.1
    have f4 : (fun v u => v = x.val) (vs 4) u := hf.2.1
    clear hf
    simp only [putsA, List.foldl_cons, List.foldl_nil, Act.put, List.setIfInBounds_toArray, List.set_cons_zero, List.set_cons_succ] at hK ⊢
    generalize vs 3 = v3 at f3 hK ⊢
    generalize vs 4 = v4 at f4 hK ⊢
    rw [if_pos (by rfl)]
    subst f3 f4
    have c0 := HL.out u (HG.out.below hB)
    go_simp
    exact hK.out _ _ (Below.refl _ _) rfl
  case s6 =>
    refine StepF.of rfl [(5, some 14)] (by kernel_rfl) ?_
    intro vs u hB hf K hK
    have f5 : (fun v u => v = .tuple #[.int .i64 0, .bool false]) (vs 5) u := hf.1
    clear hf
    simp only [putsA, List.foldl_cons, List.foldl_nil, Act.put, List.setIfInBounds_toArray, List.set_cons_zero, List.set_cons_succ] at hK ⊢
    generalize vs 5 = v5 at f5 hK ⊢
    rw [if_pos (by rfl)]
    subst f5
    go_simp
    exact hK.out _ _ (Below.refl _ _) rfl
  case s7 =>
    refine StepF.of rfl [(6, some 8)] (by kernel_rfl) ?_
    intro vs u hB hf K hK
    have f6 : (fun v u => v = .tuple #[.int .i64 0, .bool false]) (vs 6) u := hf.1
    clear hf
    simp only [putsA, List.foldl_cons, List.foldl_nil, Act.put, List.setIfInBounds_toArray, List.set_cons_zero, List.set_cons_succ] at hK ⊢
    generalize vs 6 = v6 at f6 hK ⊢
    rw [if_pos (by rfl)]
    subst f6
    go_simp
    exact hK.out _ _ (Below.refl _ _) rfl
  case s8 =>
    refine StepF.of rfl [(6, some 8)] (by kernel_rfl) ?_
    intro vs u hB hf K hK
    have f6 : (fun v u => v = .tuple #[.int .i64 0, .bool false]) (vs 6) u := hf.1
    clear hf
    simp only [putsA, List.foldl_cons, List.foldl_nil, Act.put, List.setIfInBounds_toArray, List.set_cons_zero, List.set_cons_succ] at hK ⊢
    generalize vs 6 = v6 at f6 hK ⊢
    rw [if_pos (by rfl)]
    subst f6
    go_simp
    exact hK.out _ _ (Below.refl _ _) rfl
  case s9 =>
    refine StepF.of rfl [(0, some 9), (1, some 10), (2, some 11), (3, some 12), (4, some 13), (5, some 14), (6, some 8), (7, some 15)] (by kernel_rfl) ?_
    intro vs u hB hf K hK
    have f0 : (fun v u => v = Value.pointer (some ⟨h, 0, none⟩)) (vs 0) u := hf.1
    have f1 : (fun v u => v = Value.pointer (some ⟨h, 0, none⟩)) (vs 1) u := hf.2.1
    have f2 : (fun v u => v = Value.pointer (some ⟨h, 0, none⟩)) (vs 2) u := hf.2.2.1
    have f3 : (fun v u => v = Value.map (some b)) (vs 3) u := hf.2.2.2.1
    have f4 : (fun v u => v = x.val) (vs 4) u := hf.2.2.2.2.1
    have f5 : (fun v u => v = .tuple #[.int .i64 0, .bool false]) (vs 5) u := hf.2.2.2.2.2.1
    have f6 : (fun v u => v = .tuple #[.int .i64 0, .bool false]) (vs 6) u := hf.2.2.2.2.2.2.1
    have f7 : (fun v u => v = .int .i64 0) (vs 7) u := hf.2.2.2.2.2.2.2.1
    clear hf
    simp only [putsA, List.foldl_cons, List.foldl_nil, Act.put, List.setIfInBounds_toArray, List.set_cons_zero, List.set_cons_succ] at hK ⊢
    generalize vs 0 = v0 at f0 hK ⊢
    generalize vs 1 = v1 at f1 hK ⊢
    generalize vs 2 = v2 at f2 hK ⊢
    generalize vs 3 = v3 at f3 hK ⊢
    generalize vs 4 = v4 at f4 hK ⊢
    generalize vs 5 = v5 at f5 hK ⊢
    generalize vs 6 = v6 at f6 hK ⊢
    generalize vs 7 = v7 at f7 hK ⊢
    rw [if_pos (by rfl)]
    subst f7
    clear f0 f1 f2 f3 f4 f5 f6
    go_simp
    exact hK.out _ _ (Below.refl _ _) rfl
  case last =>
    intro vs u hB hf K hK
    have f0 : (fun v u => v = Value.pointer (some ⟨h, 0, none⟩)) (vs 0) u := hf.1
    have f1 : (fun v u => v = Value.pointer (some ⟨h, 0, none⟩)) (vs 1) u := hf.2.1
    have f2 : (fun v u => v = Value.pointer (some ⟨h, 0, none⟩)) (vs 2) u := hf.2.2.1
    have f3 : (fun v u => v = Value.map (some b)) (vs 3) u := hf.2.2.2.1
    have f4 : (fun v u => v = x.val) (vs 4) u := hf.2.2.2.2.1
    have f5 : (fun v u => v = .tuple #[.int .i64 0, .bool false]) (vs 5) u := hf.2.2.2.2.2.1
    have f6 : (fun v u => v = .tuple #[.int .i64 0, .bool false]) (vs 6) u := hf.2.2.2.2.2.2.1
    have f7 : (fun v u => v = .int .i64 0) (vs 7) u := hf.2.2.2.2.2.2.2.1
    have f8 : (fun v u => v = .bool false) (vs 8) u := hf.2.2.2.2.2.2.2.2.1
    have f9 : (fun v u => v = .int .i64 0) (vs 9) u := hf.2.2.2.2.2.2.2.2.2.1
    clear hf
    simp only [putsA, List.foldl_cons, List.foldl_nil, Act.put, List.setIfInBounds_toArray, List.set_cons_zero, List.set_cons_succ]
    generalize vs 0 = v0 at f0 ⊢
    generalize vs 1 = v1 at f1 ⊢
    generalize vs 2 = v2 at f2 ⊢
    generalize vs 3 = v3 at f3 ⊢
    generalize vs 4 = v4 at f4 ⊢
    generalize vs 5 = v5 at f5 ⊢
    generalize vs 6 = v6 at f6 ⊢
    generalize vs 7 = v7 at f7 ⊢
    generalize vs 8 = v8 at f8 ⊢
    generalize vs 9 = v9 at f9 ⊢
    rw [if_pos (by rfl)]
    subst f0 f1 f2 f3 f4 f5 f6 f7 f8 f9
    go_simp
    refine hK.out _ _ ?_
    clear hK
    have q0 := cell_keep hB (HQ.out 0 _ rfl)
    have q1 := cell_keep hB (HQ.out 1 _ rfl)
    have q2 := cell_keep hB (HQ.out 2 _ rfl)
    have q3 := cell_keep hB (HQ.out 3 _ rfl)
    have q4 := cell_keep hB (HQ.out 4 _ rfl)
    have qf : ∀ o, u.frozen? ⟨w.heap.size + 1, o, none⟩ = false := fun o => by rw [(bcell hB).2 _ _ (by omega)]; exact HQf.out o
    have z2 : w.heap.size + 1 < u.heap.size := by have := hB.size; omega
    have HBu : Hid (Below w.heap.size w u) := HBW.out.trans (hB.mono HBW.out.size)
    clear hB
    go_wp2
    exact bodyPost_ret (v := .tuple #[rwZ.val, .bool false]) (by simp [results, Try.results46, go_sem, q0, q1, q2, q3, q4, rwZ]) rfl ⟨rfl, by repeat (first | refine Below.setCell ?_ (by simp <;> omega) _ | exact HBu.out)⟩
set_option maxHeartbeats 1000000 in
theorem find_hit (h b : Nat) (rs : List Rw) (k : Nat) (hk : k < rs.length) (w : World) (H : GlAt w h b rs) :
    Calls Try.prog 46 #[.pointer (some ⟨h, 0, none⟩), (rs[k]'hk).name.val] w fun e w' => e = .returned (.tuple #[(rs[k]'hk).val, .bool true]) ∧ Below w.heap.size w w' := by
  have hmax : rs.length ≤ 60 := by obtain ⟨C, _, hC⟩ := H.cells; exact hC.max
  have HL : Hid (∀ u, GlAt u h b rs → (Instr.lookup 71 (.map (some b)) (rs[k]'hk).name.val true).run Try.prog u = .ok (.tuple #[.int .i64 (k : Int), .bool true]) u) := fun u hu => hu.hit k hk
  have HRw : Hid (∀ u, GlAt u h b rs → _) := fun u hu => hu.row k hk
  obtain ⟨r, hr⟩ : ∃ r, r = rs[k]'hk := ⟨_, rfl⟩
  rw [← hr] at HL HRw ⊢
  obtain ⟨x, hx⟩ : ∃ x, x = r.name := ⟨_, rfl⟩
  rw [← hx] at HL ⊢
  have HX : Hid (x = r.name) := hx
  clear hr hx
  obtain ⟨W, hW⟩ : ∃ W, W = (w.alloc (.cells #[.int .u8 x.tag, .int .u64 x.rest] 74)).alloc (.cells #[.int .u8 0, .int .u64 0, .int .u8 0, .int .u64 0, .int .i64 0] 76) := ⟨_, rfl⟩
  have HBW : Hid (Below w.heap.size w W) := by rw [hW]; exact ((Below.refl _ _).alloc (Nat.le_refl _) _).alloc (by simp) _
  have HG : Hid (GlAt W h b rs) := H.below HBW.out
  have A2 : Hid (W.cell? ⟨w.heap.size, 0, none⟩ = some (.int .u8 x.tag)) := by show W.cell? _ = _; rw [hW, World.cell?_alloc_past _ _ _ (by simp), World.cell?_alloc_at _ _ _ _ rfl]; rfl
  have A3 : Hid (W.cell? ⟨w.heap.size, 1, none⟩ = some (.int .u64 x.rest)) := by show W.cell? _ = _; rw [hW, World.cell?_alloc_past _ _ _ (by simp), World.cell?_alloc_at _ _ _ _ rfl]; rfl
  have HQ : Hid (∀ (o : Nat) (v : Value), [Value.int .u8 0, .int .u64 0, .int .u8 0, .int .u64 0, .int .i64 0][o]? = some v → W.cell? ⟨w.heap.size + 1, o, none⟩ = some v) := fun o v h => by rw [hW, World.cell?_alloc_at _ _ _ _ (by simp)]; simpa using h
  have HQf : Hid (∀ o, W.frozen? ⟨w.heap.size + 1, o, none⟩ = false) := fun o => by rw [hW, World.frozen?_alloc_at _ _ _ _ (by simp)]
  have zW : W.heap.size = w.heap.size + 2 := by rw [hW]; simp
  clear H
  go_enter Try.func46, Try.ntmps46
  go_wp2_with fail
  rw [← hW]
  clear hW
  refine wp_region_facts (by kernel_rfl) 10 (fun v => Below W.heap.size W v) (fun u v => Below u.heap.size u v) (fun i v u => match i with | 0 => (fun v u => v = Value.pointer (some ⟨h, 0, none⟩)) v u | 1 => (fun v u => v = Value.pointer (some ⟨h, 0, none⟩)) v u | 2 => (fun v u => v = Value.pointer (some ⟨h, 0, none⟩)) v u | 3 => (fun v u => v = Value.map (some b)) v u | 4 => (fun v u => v = x.val) v u | 5 => (fun v u => v = .tuple #[.int .i64 (k : Int), .bool true]) v u | 6 => (fun v u => v = .tuple #[.int .i64 (k : Int), .bool true]) v u | 7 => (fun v u => v = .int .i64 (k : Int)) v u | 8 => (fun v u => v = .bool true) v u | 9 => (fun v u => v = .int .i64 (k : Int)) v u | _ => True) (by kernel_rfl) [0, 1, 2, 3, 4, 5, 6, 7, 8, 9] (by kernel_rfl) ?b0 ?bk ?fk ⟨?s0, ?s1, ?s2, ?s3, ?s4, ?s5, ?s6, ?s7, ?s8, ?s9, trivial⟩ _ rfl [(0, some 9), (1, some 10), (2, some 11), (3, some 12), (4, some 13), (5, some 14), (6, some 8), (7, some 15), (8, some 16), (9, some 6)] (by kernel_rfl) ?last
  case b0 => exact Below.drew (Below.refl _ _)
  case bk => exact fun u v h hb => h.trans (hb.mono h.size)
  case fk => intro i v u u' h hb; match i, h with | 0, h => exact (h) | 1, h => exact (h) | 2, h => exact (h) | 3, h => exact (h) | 4, h => exact (h) | 5, h => exact (h) | 6, h => exact (h) | 7, h => exact (h) | 8, h => exact (h) | 9, h => exact (h) | _ + 10, _ => exact trivial
  case s0 =>
    refine StepF.of rfl [] (by kernel_rfl) ?_
    intro vs u hB hf K hK
    clear hf
    simp only [putsA, List.foldl_nil, Act.put, List.setIfInBounds_toArray] at hK ⊢
    rw [if_pos (by rfl)]
    go_simp
    exact hK.out _ _ (Below.refl _ _) rfl
  case s1 =>
    refine StepF.of rfl [(0, some 9)] (by kernel_rfl) ?_
    intro vs u hB hf K hK
    have f0 : (fun v u => v = Value.pointer (some ⟨h, 0, none⟩)) (vs 0) u := hf.1
    clear hf
    simp only [putsA, List.foldl_cons, List.foldl_nil, Act.put, List.setIfInBounds_toArray, List.set_cons_zero, List.set_cons_succ] at hK ⊢
    generalize vs 0 = v0 at f0 hK ⊢
    rw [if_pos (by rfl)]
    subst f0
    go_simp
    exact hK.out _ _ (Below.refl _ _) rfl
  case s2 =>
    refine StepF.of rfl [(1, some 10)] (by kernel_rfl) ?_
    intro vs u hB hf K hK
    have f1 : (fun v u => v = Value.pointer (some ⟨h, 0, none⟩)) (vs 1) u := hf.1
    clear hf
    simp only [putsA, List.foldl_cons, List.foldl_nil, Act.put, List.setIfInBounds_toArray, List.set_cons_zero, List.set_cons_succ] at hK ⊢
    generalize vs 1 = v1 at f1 hK ⊢
    rw [if_pos (by rfl)]
    subst f1
    go_simp
    exact hK.out _ _ (Below.refl _ _) rfl
  case s3 =>
    refine StepF.of rfl [(2, some 11)] (by kernel_rfl) ?_
    intro vs u hB hf K hK
    have f2 : (fun v u => v = Value.pointer (some ⟨h, 0, none⟩)) (vs 2) u := hf.1
    clear hf
    simp only [putsA, List.foldl_cons, List.foldl_nil, Act.put, List.setIfInBounds_toArray, List.set_cons_zero, List.set_cons_succ] at hK ⊢
    generalize vs 2 = v2 at f2 hK ⊢
    rw [if_pos (by rfl)]
    subst f2
    have c0 := (HG.out.below hB).hd
    go_simp
    exact hK.out _ _ (Below.refl _ _) rfl
  case s4 =>
    refine StepF.of rfl [] (by kernel_rfl) ?_
    intro vs u hB hf K hK
    clear hf
    simp only [putsA, List.foldl_nil, Act.put, List.setIfInBounds_toArray] at hK ⊢
    rw [if_pos (by rfl)]
    have c0 := cell_keep hB A2.out
    have c1 := cell_keep hB A3.out
    go_simp
    exact hK.out _ _ (Below.refl _ _) rfl
  case s5 =>
    refine StepF.of rfl [(3, some 12), (4, some 13)] (by kernel_rfl) ?_
    intro vs u hB hf K hK
    have f3 : (fun v u => v = Value.map (some b)) (vs 3) u := hf.1
    have f4 : (fun v u => v = x.val) (vs 4) u := hf.2.1
    clear hf
    simp only [putsA, List.foldl_cons, List.foldl_nil, Act.put, List.setIfInBounds_toArray, List.set_cons_zero, List.set_cons_succ] at hK ⊢
    generalize vs 3 = v3 at f3 hK ⊢
    generalize vs 4 = v4 at f4 hK ⊢
    rw [if_pos (by rfl)]
    subst f3 f4
    have c0 := HL.out u (HG.out.below hB)
    go_simp
    exact hK.out _ _ (Below.refl _ _) rfl
  case s6 =>
    refine StepF.of rfl [(5, some 14)] (by kernel_rfl) ?_
    intro vs u hB hf K hK
    have f5 : (fun v u => v = .tuple #[.int .i64 (k : Int), .bool true]) (vs 5) u := hf.1
    clear hf
    simp only [putsA, List.foldl_cons, List.foldl_nil, Act.put, List.setIfInBounds_toArray, List.set_cons_zero, List.set_cons_succ] at hK ⊢
    generalize vs 5 = v5 at f5 hK ⊢
    rw [if_pos (by rfl)]
    subst f5
    go_simp
    exact hK.out _ _ (Below.refl _ _) rfl
  case s7 =>
    refine StepF.of rfl [(6, some 8)] (by kernel_rfl) ?_
    intro vs u hB hf K hK
    have f6 : (fun v u => v = .tuple #[.int .i64 (k : Int), .bool true]) (vs 6) u := hf.1
    clear hf
    simp only [putsA, List.foldl_cons, List.foldl_nil, Act.put, List.setIfInBounds_toArray, List.set_cons_zero, List.set_cons_succ] at hK ⊢
    generalize vs 6 = v6 at f6 hK ⊢
    rw [if_pos (by rfl)]
    subst f6
    go_simp
    exact hK.out _ _ (Below.refl _ _) rfl
  case s8 =>
    refine StepF.of rfl [(6, some 8)] (by kernel_rfl) ?_
    intro vs u hB hf K hK
    have f6 : (fun v u => v = .tuple #[.int .i64 (k : Int), .bool true]) (vs 6) u := hf.1
    clear hf
    simp only [putsA, List.foldl_cons, List.foldl_nil, Act.put, List.setIfInBounds_toArray, List.set_cons_zero, List.set_cons_succ] at hK ⊢
    generalize vs 6 = v6 at f6 hK ⊢
    rw [if_pos (by rfl)]
    subst f6
    go_simp
    exact hK.out _ _ (Below.refl _ _) rfl
  case s9 =>
    refine StepF.of rfl [(0, some 9), (1, some 10), (2, some 11), (3, some 12), (4, some 13), (5, some 14), (6, some 8), (7, some 15)] (by kernel_rfl) ?_
    intro vs u hB hf K hK
    have f0 : (fun v u => v = Value.pointer (some ⟨h, 0, none⟩)) (vs 0) u := hf.1
    have f1 : (fun v u => v = Value.pointer (some ⟨h, 0, none⟩)) (vs 1) u := hf.2.1
    have f2 : (fun v u => v = Value.pointer (some ⟨h, 0, none⟩)) (vs 2) u := hf.2.2.1
    have f3 : (fun v u => v = Value.map (some b)) (vs 3) u := hf.2.2.2.1
    have f4 : (fun v u => v = x.val) (vs 4) u := hf.2.2.2.2.1
    have f5 : (fun v u => v = .tuple #[.int .i64 (k : Int), .bool true]) (vs 5) u := hf.2.2.2.2.2.1
    have f6 : (fun v u => v = .tuple #[.int .i64 (k : Int), .bool true]) (vs 6) u := hf.2.2.2.2.2.2.1
    have f7 : (fun v u => v = .int .i64 (k : Int)) (vs 7) u := hf.2.2.2.2.2.2.2.1
    clear hf
    simp only [putsA, List.foldl_cons, List.foldl_nil, Act.put, List.setIfInBounds_toArray, List.set_cons_zero, List.set_cons_succ] at hK ⊢
    generalize vs 0 = v0 at f0 hK ⊢
    generalize vs 1 = v1 at f1 hK ⊢
    generalize vs 2 = v2 at f2 hK ⊢
    generalize vs 3 = v3 at f3 hK ⊢
    generalize vs 4 = v4 at f4 hK ⊢
    generalize vs 5 = v5 at f5 hK ⊢
    generalize vs 6 = v6 at f6 hK ⊢
    generalize vs 7 = v7 at f7 hK ⊢
    rw [if_pos (by rfl)]
    subst f7
    clear f0 f1 f2 f3 f4 f5 f6
    go_simp
    exact hK.out _ _ (Below.refl _ _) rfl
  case last =>
    intro vs u hB hf K hK
    have f0 : (fun v u => v = Value.pointer (some ⟨h, 0, none⟩)) (vs 0) u := hf.1
    have f1 : (fun v u => v = Value.pointer (some ⟨h, 0, none⟩)) (vs 1) u := hf.2.1
    have f2 : (fun v u => v = Value.pointer (some ⟨h, 0, none⟩)) (vs 2) u := hf.2.2.1
    have f3 : (fun v u => v = Value.map (some b)) (vs 3) u := hf.2.2.2.1
    have f4 : (fun v u => v = x.val) (vs 4) u := hf.2.2.2.2.1
    have f5 : (fun v u => v = .tuple #[.int .i64 (k : Int), .bool true]) (vs 5) u := hf.2.2.2.2.2.1
    have f6 : (fun v u => v = .tuple #[.int .i64 (k : Int), .bool true]) (vs 6) u := hf.2.2.2.2.2.2.1
    have f7 : (fun v u => v = .int .i64 (k : Int)) (vs 7) u := hf.2.2.2.2.2.2.2.1
    have f8 : (fun v u => v = .bool true) (vs 8) u := hf.2.2.2.2.2.2.2.2.1
    have f9 : (fun v u => v = .int .i64 (k : Int)) (vs 9) u := hf.2.2.2.2.2.2.2.2.2.1
    clear hf
    simp only [putsA, List.foldl_cons, List.foldl_nil, Act.put, List.setIfInBounds_toArray, List.set_cons_zero, List.set_cons_succ]
    generalize vs 0 = v0 at f0 ⊢
    generalize vs 1 = v1 at f1 ⊢
    generalize vs 2 = v2 at f2 ⊢
    generalize vs 3 = v3 at f3 ⊢
    generalize vs 4 = v4 at f4 ⊢
    generalize vs 5 = v5 at f5 ⊢
    generalize vs 6 = v6 at f6 ⊢
    generalize vs 7 = v7 at f7 ⊢
    generalize vs 8 = v8 at f8 ⊢
    generalize vs 9 = v9 at f9 ⊢
    rw [if_pos (by rfl)]
    subst f0 f1 f2 f3 f4 f5 f6 f7 f8 f9
    go_simp
    refine hK.out _ _ ?_
    clear hK
    have q0 := cell_keep hB (HQ.out 0 _ rfl)
    have q1 := cell_keep hB (HQ.out 1 _ rfl)
    have q2 := cell_keep hB (HQ.out 2 _ rfl)
    have q3 := cell_keep hB (HQ.out 3 _ rfl)
    have q4 := cell_keep hB (HQ.out 4 _ rfl)
    have qf : ∀ o, u.frozen? ⟨w.heap.size + 1, o, none⟩ = false := fun o => by rw [(bcell hB).2 _ _ (by omega)]; exact HQf.out o
    have z2 : w.heap.size + 1 < u.heap.size := by have := hB.size; omega
    have HBu : Hid (Below w.heap.size w u) := HBW.out.trans (hB.mono HBW.out.size)
    obtain ⟨r0, r1, r2, r3, r4⟩ := HRw.out u (HG.out.below hB)
    have hkl : k < 60 := by omega
    clear hB
    go_wp2
    exact bodyPost_ret (v := .tuple #[r.val, .bool true]) (by simp [results, Try.results46, go_sem, q0, q1, q2, q3, q4]) rfl ⟨rfl, by repeat (first | refine Below.setCell ?_ (by simp <;> omega) _ | exact HBu.out)⟩
end Go.Proofs.Ytgfienijabkpjaa
