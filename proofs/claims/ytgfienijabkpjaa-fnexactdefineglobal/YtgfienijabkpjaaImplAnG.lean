/-
  The program's answer: rows of words as globals again, in a row of their own; nothing that was there is turned.
-/
import Derived.Test.YtgfienijabkpjaaImplRG
import Derived.Test.YtgfienijabkpjaaImplG1
import Derived.Test.YtgfienijabkpjaaSpecDG
namespace Go.Proofs.Ytgfienijabkpjaa
open Go.RowKit Go.Extern.Stop Go.Stop Go.Extern Num Go.Lib

theorem makeG0 (n : Nat) (hn : n ≤ 60) (w : World) : (Instr.makeSlice 24 (.int .i64 0) (.int .i64 (n : Int))).run Try.prog w = .ok (.slice (some ⟨w.heap.size, 0, none⟩) 0 n) (w.alloc (.cells (madeCells #[.string ⟨#[]⟩, .int .i64 0, .int .i64 0, .string ⟨#[]⟩, .int .i64 0] (n * 5)) 33)) := by
  obtain ⟨i0, hi, hz0, hz1, hz2⟩ := info_parts infoG
  have := run_make (P := Try.prog) w 24 33 i0 _ Try.underlying24 hi hz0 .i64 .i64 0 (n : Int) (by omega) (by omega) (by rw [hz2]; omega) (by omega)
  rw [this, hz1]
  simp [Value.cells]
theorem madeG0 (n base : Nat) (w : World) (h : w.heap.size = base) (hn : n ≤ 60) : (w.alloc (.cells (madeCells #[.string ⟨#[]⟩, .int .i64 0, .int .i64 0, .string ⟨#[]⟩, .int .i64 0] (n * 5)) 33)).ownsRow base 33 5 (.slice (some ⟨base, 0, none⟩) 0 n) 0 [] := by
  subst h
  exact World.ownsRow_made w _ n (Nat.le_refl _) (by unfold maxLen; omega) (by simp [madeCells])
theorem own_otherG {w : World} {base n b o : Nat} {v x : Value} {xs : List Value} (h : w.ownsRow base 33 5 v n xs) (hne : ∀ g, v.ownBlock = some g → g = b → False) : (w.setCell ⟨b, o, none⟩ x).ownsRow base 33 5 v n xs :=
  own_set' h (fun g hg e => hne g hg e) x
set_option maxRecDepth 100000 in
set_option maxHeartbeats 4000000 in
theorem answer_g (h b : Nat) (l : List Glb) (w : World) (H : GlAt w h b (l.map rwOf)) (hf : ∀ (k : Nat) (h : k < l.length), symL l[k].name.data.toList = true ∧ vfault l[k].value = 0) :
    Calls Try.prog 65 #[.pointer (some ⟨h, 0, none⟩)] w fun e w' => AnsD w 0 l e w' := by
  have hl60 : l.length ≤ 60 := by obtain ⟨C, _, h2⟩ := H.cells; have := h2.max; simpa using this
  have hlt : h < w.heap.size := H.lt
  obtain ⟨n, hn⟩ : ∃ n, n = l.length := ⟨_, rfl⟩
  have HN : Hid (n = l.length) := hn
  have hn60 : n ≤ 60 := by omega
  obtain ⟨W, hW⟩ : ∃ W, W = w.alloc (.cells #[.int .i64 0, .slice none 0 0] 30) := ⟨_, rfl⟩
  have HW : Hid (W = w.alloc (.cells #[.int .i64 0, .slice none 0 0] 30)) := hW
  have HBW : Hid (Below w.heap.size w W) := by rw [hW]; exact (Below.refl _ _).alloc (Nat.le_refl _) _
  have HzW : Hid (W.heap.size = w.heap.size + 1) := by show W.heap.size = _; rw [hW]; simp
  have HG : Hid (GlAt W h b (l.map rwOf)) := H.below HBW.out
  have HQ : Hid (W.cell? ⟨w.heap.size, 0, none⟩ = some (.int .i64 0) ∧ W.cell? ⟨w.heap.size, 1, none⟩ = some (.slice none 0 0) ∧ ∀ o, W.frozen? ⟨w.heap.size, o, none⟩ = false) := by
    rw [hW]
    exact ⟨by rw [World.cell?_alloc_at _ _ _ _ rfl]; rfl, by rw [World.cell?_alloc_at _ _ _ _ rfl]; rfl, fun o => by rw [World.frozen?_alloc_at _ _ _ _ rfl]⟩
  have HS : Hid (∀ u, Below W.heap.size W u → Calls Try.prog 66 #[.pointer (some ⟨h, 0, none⟩)] u fun e w' => e = .returned (.int .i64 (n : Int)) ∧ w' = u) := fun u hu => by
    have := size_g h b (l.map rwOf) u (HG.out.below hu)
    rw [List.length_map, ← hn] at this
    exact this
  have HF : Hid (∀ (k : Nat) (h : k < l.length), symL l[k].name.data.toList = true ∧ vfault l[k].value = 0) := hf
  have hmk := makeG0 n hn60
  obtain ⟨U, hU⟩ : ∃ U, U = W.alloc (.cells (madeCells #[.string ⟨#[]⟩, .int .i64 0, .int .i64 0, .string ⟨#[]⟩, .int .i64 0] (n * 5)) 33) := ⟨_, rfl⟩
  have HU : Hid (U = W.alloc (.cells (madeCells #[.string ⟨#[]⟩, .int .i64 0, .int .i64 0, .string ⟨#[]⟩, .int .i64 0] (n * 5)) 33)) := hU
  have HBU : Hid (Below W.heap.size W U) := by rw [hU]; exact (Below.refl _ _).alloc (Nat.le_refl _) _
  have HO0 : Hid (U.ownsRow W.heap.size 33 5 (.slice (some ⟨W.heap.size, 0, none⟩) 0 n) 0 (cellsG (l.take 0))) := by rw [hU]; exact madeG0 n _ W rfl hn60
  obtain ⟨i0, hi, hz0, hz1, hz2⟩ := info_parts infoG
  clear hW H hf hn hU
  go_enter Try.func65, Try.ntmps65
  go_wp2_with fail
  rw [← HW.out]
  refine (HS.out _ (Below.refl _ _)).mono ?_
  rintro e w1 ⟨rfl, hw1⟩
  replace hw1 := hw1.symm
  subst hw1
  go_wp2_with fail
  rw [← HU.out]
  clear hmk HU
  refine wp_region_facts_all (by kernel_rfl) (fun v => Below U.heap.size U v) (fun u v => Below u.heap.size u v) (fun i v u => match i with | 0 => (fun a u => a = Value.pointer (some ⟨h, 0, none⟩)) v u | 1 => (fun a u => a = Value.pointer (some ⟨h, 0, none⟩)) v u | 2 => (fun a u => a = Value.pointer (some ⟨h, 1, none⟩)) v u | 3 => (fun a u => a = Value.pointer (some ⟨h, 0, none⟩)) v u | 4 => (fun a u => a = .int .i64 (n : Int)) v u | 5 => (fun a u => a = Value.slice (some ⟨h, 1, none⟩) n 60) v u | 6 => (fun a u => a = .int .i64 (n : Int)) v u | 7 => (fun a u => a = .int .i64 0) v u | _ => True) (by kernel_rfl) [0, 1, 2, 3, 4, 5, 6, 7] (by kernel_rfl) ?b0 ?bk ?fk ⟨?s0, ?s1, ?s2, ?s3, ?s4, ?s5, ?s6, ?s7, trivial⟩ [(0, some 9), (1, some 10), (2, some 11), (3, some 12), (4, some 13), (5, some 14), (6, some 15), (7, some 16)] (by kernel_rfl) ?last
  case b0 => exact Below.drew (Below.refl _ _)
  case bk => exact fun u v h hb => h.trans (hb.mono h.size)
  case fk => intro i v u u' h hb; match i, h with | 0, h => exact (h) | 1, h => exact (h) | 2, h => exact (h) | 3, h => exact (h) | 4, h => exact (h) | 5, h => exact (h) | 6, h => exact (h) | 7, h => exact (h) | _ + 8, _ => exact trivial
  case s0 =>
    refine StepF.of rfl [] (by kernel_rfl) ?_
    intro vs u hB hf K hK
    clear hf
    simp only [putsA, List.foldl_nil, Act.put, List.setIfInBounds_toArray] at hK ⊢
    rw [if_pos (by rfl)]
    go_simp
    exact hK.out _ _ (Below.refl _ _) rfl
  case s1 =>
    refine StepF.of rfl [(0, some 9)] (by kernel_rfl) ?_
    intro vs u hB hf K hK
    have f0 : (fun a u => a = Value.pointer (some ⟨h, 0, none⟩)) (vs 0) u := hf.1
    clear hf
    simp only [putsA, List.foldl_cons, List.foldl_nil, Act.put, List.setIfInBounds_toArray, List.set_cons_zero, List.set_cons_succ] at hK ⊢
    generalize vs 0 = v0 at f0 hK ⊢
    rw [if_pos (by rfl)]
    subst f0
    go_simp
    exact hK.out _ _ (Below.refl _ _) rfl
  case s2 =>
    refine StepF.of rfl [(1, some 10)] (by kernel_rfl) ?_
    intro vs u hB hf K hK
    have f1 : (fun a u => a = Value.pointer (some ⟨h, 0, none⟩)) (vs 1) u := hf.1
    clear hf
    simp only [putsA, List.foldl_cons, List.foldl_nil, Act.put, List.setIfInBounds_toArray, List.set_cons_zero, List.set_cons_succ] at hK ⊢
    generalize vs 1 = v1 at f1 hK ⊢
    rw [if_pos (by rfl)]
    subst f1
    go_simp
    exact hK.out _ _ (Below.refl _ _) rfl
  case s3 =>
    refine StepF.of rfl [] (by kernel_rfl) ?_
    intro vs u hB hf K hK
    clear hf
    simp only [putsA, List.foldl_nil, Act.put, List.setIfInBounds_toArray] at hK ⊢
    rw [if_pos (by rfl)]
    go_simp
    exact hK.out _ _ (Below.refl _ _) rfl
  case s4 =>
    refine StepF.of rfl [(3, some 12)] (by kernel_rfl) ?_
    intro vs u hB hf K hK
    have f3 : (fun a u => a = Value.pointer (some ⟨h, 0, none⟩)) (vs 3) u := hf.1
    clear hf
    simp only [putsA, List.foldl_cons, List.foldl_nil, Act.put, List.setIfInBounds_toArray, List.set_cons_zero, List.set_cons_succ] at hK ⊢
    generalize vs 3 = v3 at f3 hK ⊢
    rw [if_pos (by rfl)]
    subst f3
    have hBW := HBU.out.trans (hB.mono HBU.out.size)
    go_simp
    refine (HS.out _ hBW).mono ?_
    rintro e w2 ⟨rfl, hw2⟩
    replace hw2 := hw2.symm
    subst hw2
    go_simp
    exact hK.out _ _ (Below.refl _ _) rfl
  case s5 =>
    refine StepF.of rfl [(2, some 11), (4, some 13)] (by kernel_rfl) ?_
    intro vs u hB hf K hK
    have f2 : (fun a u => a = Value.pointer (some ⟨h, 1, none⟩)) (vs 2) u := hf.1
    have f4 : (fun a u => a = .int .i64 (n : Int)) (vs 4) u := hf.2.1
    clear hf
    simp only [putsA, List.foldl_cons, List.foldl_nil, Act.put, List.setIfInBounds_toArray, List.set_cons_zero, List.set_cons_succ] at hK ⊢
    generalize vs 2 = v2 at f2 hK ⊢
    generalize vs 4 = v4 at f4 hK ⊢
    rw [if_pos (by rfl)]
    subst f2 f4
    have hi0 : (0 : Int) ≤ (n : Int) := by omega
    have hi1 : (n : Int) ≤ 60 := by omega
    go_simp
    exact hK.out _ _ (Below.refl _ _) rfl
  case s6 =>
    refine StepF.of rfl [(5, some 14)] (by kernel_rfl) ?_
    intro vs u hB hf K hK
    have f5 : (fun a u => a = Value.slice (some ⟨h, 1, none⟩) n 60) (vs 5) u := hf.1
    clear hf
    simp only [putsA, List.foldl_cons, List.foldl_nil, Act.put, List.setIfInBounds_toArray, List.set_cons_zero, List.set_cons_succ] at hK ⊢
    generalize vs 5 = v5 at f5 hK ⊢
    rw [if_pos (by rfl)]
    subst f5
    go_simp
    exact hK.out _ _ (Below.refl _ _) rfl
  case s7 =>
    refine StepF.of rfl [] (by kernel_rfl) ?_
    intro vs u hB hf K hK
    clear hf
    simp only [putsA, List.foldl_nil, Act.put, List.setIfInBounds_toArray] at hK ⊢
    rw [if_pos (by rfl)]
    go_simp
    exact hK.out _ _ (Below.refl _ _) rfl
  case last =>
    intro vs u hB hf
    have f0 : (fun a u => a = Value.pointer (some ⟨h, 0, none⟩)) (vs 0) u := hf.1
    have f1 : (fun a u => a = Value.pointer (some ⟨h, 0, none⟩)) (vs 1) u := hf.2.1
    have f2 : (fun a u => a = Value.pointer (some ⟨h, 1, none⟩)) (vs 2) u := hf.2.2.1
    have f3 : (fun a u => a = Value.pointer (some ⟨h, 0, none⟩)) (vs 3) u := hf.2.2.2.1
    have f4 : (fun a u => a = .int .i64 (n : Int)) (vs 4) u := hf.2.2.2.2.1
    have f5 : (fun a u => a = Value.slice (some ⟨h, 1, none⟩) n 60) (vs 5) u := hf.2.2.2.2.2.1
    have f6 : (fun a u => a = .int .i64 (n : Int)) (vs 6) u := hf.2.2.2.2.2.2.1
    have f7 : (fun a u => a = .int .i64 0) (vs 7) u := hf.2.2.2.2.2.2.2.1
    clear hf
    simp only [putsA, List.foldl_cons, List.foldl_nil, Act.put, List.setIfInBounds_toArray, List.set_cons_zero, List.set_cons_succ]
    generalize vs 0 = v0 at f0 ⊢
    generalize vs 1 = v1 at f1 ⊢
    generalize vs 2 = v2 at f2 ⊢
    generalize vs 3 = v3 at f3 ⊢
    generalize vs 4 = v4 at f4 ⊢
    generalize vs 5 = v5 at f5 ⊢
    generalize vs 6 = v6 at f6 ⊢
    generalize vs 7 = v7 at f7 ⊢
    subst f0 f1 f2 f3 f4 f5 f6 f7
    have HBu : Hid (Below U.heap.size U u) := hB
    clear hB
    go_wp2_with fail
    have HBw : Hid (Below W.heap.size W u) := HBU.out.trans (HBu.out.mono HBU.out.size)
    have HOu : Hid (u.ownsRow W.heap.size 33 5 (.slice (some ⟨W.heap.size, 0, none⟩) 0 n) 0 (cellsG (l.take 0))) := own_below HO0.out HBu.out
    go_loopw [3, 16] (fun v i wr => ∃ (k : Nat) (ao : Option Addr) (cp : Nat), k ≤ l.length ∧ i = .int .i64 (k : Int) ∧ v = .slice ao k cp ∧ Hid (wr.ownsRow W.heap.size 33 5 (.slice ao k cp) k (cellsG (l.take k))) ∧ Hid (Below W.heap.size W wr)) (fun _ i _ => l.length - (RowKit.intOf i).toNat)
    case atStart => exact ⟨0, some ⟨W.heap.size, 0, none⟩, n, Nat.zero_le _, rfl, rfl, HOu.out, HBw.out⟩
    case round =>
      clear HO0 HBu HBU HOu HBw
      obtain ⟨k, ao, cp, hk, rfl, rfl, HO, HB⟩ := hrel
      by_cases hkl : k < l.length
      · have hkn : (k : Int) < (n : Int) := by have := HN.out; omega
        have hkn' : k < n := by have := HN.out; omega
        have hrow := (HG.out.below HB.out).row k (by simpa using hkl)
        obtain ⟨t, ht⟩ : ∃ t, t = l[k]'hkl := ⟨_, rfl⟩
        have hrt : (l.map rwOf)[k]'(by simpa using hkl) = rwOf t := by rw [List.getElem_map, ht]
        rw [hrt] at hrow
        obtain ⟨c0, c1, c2, c3, c4⟩ := hrow
        have HRG : Hid (∀ q, Calls Try.prog 47 #[(rwOf t).val] q fun e w' => e = .returned t.val ∧ Below q.heap.size q w') := fun q => by
          rw [ht]
          exact rowGlobal_any _ q (HF.out k hkl).1 (HF.out k hkl).2
        have HNx : Hid (cellsG (l.take (k + 1)) = cellsG (l.take k) ++ [.string t.name, .int .i64 t.value.kind, .int .i64 t.value.num, .string t.value.name, .int .i64 t.ver]) := by
          show _ = _
          rw [takeG l k hkl, cellsG_append, ← ht]
          rfl
        obtain ⟨r, hr⟩ : ∃ r, r = rwOf t := ⟨_, rfl⟩
        rw [← hr] at HRG c0 c1 c2 c3 c4
        have zw := HB.out.size
        clear ht hr hrt
        go_wp2_with fail
        refine (HRG.out _).mono ?_
        rintro e w3 ⟨rfl, hb3⟩
        have HO3 : Hid (w3.ownsRow W.heap.size 33 5 (.slice ao k cp) k (cellsG (l.take k))) := own_below (by repeat (first | exact HO.out | refine own_otherG ?_ (fun g hg e => by have := (HO.out.lt g hg).2; omega) | refine World.ownsRow.alloc ?_ _)) hb3
        have HB3 : Hid (Below W.heap.size W w3) := Below.trans (by repeat (first | exact HB.out | refine Below.alloc ?_ zw _)) (hb3.mono (by simp; omega))
        have z3 := HB3.out.size
        clear hb3 c0 c1 c2 c3 c4
        go_wp2_with (at_builtin; refine wpList_append_lies _ rfl (.tmp 20) (.tmp 23) 24 rfl W.heap.size 33 i0 _ 5 56 Try.underlying24 hi hz0 hz1 hz2 rfl (by decide) _ k (cellsG (l.take k)) rfl (HO3.out.alloc _) ⟨_, 0, none⟩ 1 1 [.string t.name, .int .i64 t.value.kind, .int .i64 t.value.num, .string t.value.name, .int .i64 t.ver] rfl rfl ?c1 ?c2 (by decide) ?c3 ?c4 ?c5 _ rfl ?_)
        case c1 => exact World.news_of_block (cs := #[.string t.name, .int .i64 t.value.kind, .int .i64 t.value.num, .string t.value.name, .int .i64 t.ver]) (t := 33) (fr := (0, 0)) (heap_new' _ _ _ (by simp))
        case c2 => intro u hu; simp at hu; rcases hu with rfl | rfl | rfl | rfl | rfl <;> rfl
        case c3 => unfold maxLen; omega
        case c4 => omega
        case c5 => simp; omega
        intro g' cap' w4 hown4 hgrow4 hat4 hlt4
        have HO4 : Hid (w4.ownsRow W.heap.size 33 5 (.slice (some ⟨g', 0, none⟩) (k + 1) cap') (k + 1) (cellsG (l.take (k + 1)))) := by
          show World.ownsRow _ _ _ _ _ _ _
          rw [HNx.out]; exact hown4
        have HB4 : Hid (Below W.heap.size W w4) := Below.grown (HB3.out.alloc z3 _) hgrow4 (by simp; omega) (fun j hj => (HO3.out.lt j hj).1)
        clear hown4 hgrow4 hat4 HO HB HO3 HB3
        go_wp2
        exact ⟨⟨k + 1, some ⟨g', 0, none⟩, cap', by omega, by go_num, rfl, HO4.out, HB4.out⟩, by simp [RowKit.intOf]; omega⟩
      · have hk2 : k = l.length := by omega
        subst hk2
        have hkn : ¬ ((l.length : Int) < (n : Int)) := by have := HN.out; omega
        have q0 := cell_keep HB.out HQ.out.1
        have q1 := cell_keep HB.out HQ.out.2.1
        have qf : ∀ o, wr.frozen? ⟨w.heap.size, o, none⟩ = false := fun o => by rw [(bcell HB.out).2 _ _ (by have := HzW.out; omega)]; exact HQ.out.2.2 o
        have HBf : Hid (Below w.heap.size w wr) := HBW.out.trans (HB.out.mono (by have := HzW.out; omega))
        have HOf : Hid (wr.ownsRow w.heap.size 33 5 (.slice ao l.length cp) l.length (cellsG l)) := by
          have h0 := HO.out
          rw [List.take_length] at h0
          exact own_base h0 (by have := HzW.out; omega)
        go_wp2
        refine bodyPost_ret (v := .agg #[.int .i64 0, .slice ao l.length cp]) (by simp [results, Try.results65, go_sem, q0, q1]) rfl ⟨ao, cp, rfl, ?_, ?_⟩
        · repeat (first | exact HOf.out | refine own_otherG ?_ (fun g hg e => by have := (HO.out.lt g hg).1; have := HzW.out; omega))
        · repeat (first | refine Below.setCell ?_ (by simp <;> omega) _ | exact HBf.out)
end Go.Proofs.Ytgfienijabkpjaa
