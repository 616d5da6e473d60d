/-
  The program's define: a row turned, or one more; nothing that was there is turned.
-/
import Derived.Test.YtgfienijabkpjaaImplGW
import Derived.Test.YtgfienijabkpjaaImplClone
namespace Go.Proofs.Ytgfienijabkpjaa
open Go.RowKit Go.Extern.Stop Go.Stop Go.Extern Num Go.Lib

/-- A row turned. -/
theorem GlC.turn {C : List Value} {b : Nat} {rs : List Rw} (H : GlC C b rs) (k : Nat) (hk : k < rs.length) (r : Rw) : GlC (putR C k r) b (rs.set k r) := by
  have hL := H.len
  have hm := H.max
  refine ⟨by rw [putR_len]; exact hL, putR_one _ _ H.one, by rw [putR_other _ _ _ _ (by omega)]; exact H.head, fun j hj => ?_, by simpa using hm⟩
  have hj' : j < rs.length := by simpa using hj
  by_cases e : k = j
  · subst e
    rw [List.getElem_set_self]
    exact putR_at C k r (by omega)
  · rw [List.getElem_set_ne e, putR_other _ _ _ _ (by omega), putR_other _ _ _ _ (by omega), putR_other _ _ _ _ (by omega), putR_other _ _ _ _ (by omega), putR_other _ _ _ _ (by omega)]
    exact H.row j hj'
/-- Another map. -/
theorem GlC.remap {C : List Value} {b : Nat} {rs : List Rw} (H : GlC C b rs) (b' : Nat) : GlC (C.set 0 (.map (some b'))) b' rs := by
  have hL := H.len
  refine ⟨by rw [List.length_set]; exact hL, fun v hv => ?_, by rw [List.getElem?_set_self (by omega)], fun j hj => ?_, H.max⟩
  · rcases List.mem_or_eq_of_mem_set hv with h | rfl
    · exact H.one v h
    · rfl
  · have := H.row j hj
    rw [List.getElem?_set_ne (by omega), List.getElem?_set_ne (by omega), List.getElem?_set_ne (by omega), List.getElem?_set_ne (by omega), List.getElem?_set_ne (by omega)]
    exact this
/-- What lies where define begins. -/
structure DfW (w W : World) (C : Array Value) (b : Nat) (rs : List Rw) (x y : Wd) : Prop where
  bel : Below w.heap.size w W
  size : W.heap.size = w.heap.size + 4
  gl : GlAt W w.heap.size b rs
  xs : ∀ (o : Nat) (v : Value), [Value.int .u8 x.tag, .int .u64 x.rest][o]? = some v → W.cell? ⟨w.heap.size + 1, o, none⟩ = some v
  ys : ∀ (o : Nat) (v : Value), [Value.int .u8 y.tag, .int .u64 y.rest][o]? = some v → W.cell? ⟨w.heap.size + 1 + 1, o, none⟩ = some v
  there : W.there (w.heap.size + 1 + 1 + 1) 0 301
  rng : W.rangeAt w.heap.size 0 C.toList
theorem dfW_of (w : World) (C : Array Value) (b : Nat) (rs : List Rw) (x y : Wd) (hC : GlC C.toList b rs) (hM : MapW w b (rs.map Rw.name)) (hN : (rs.map Rw.name).Nodup) : DfW w ((((w.alloc (.cells C 79)).alloc (.cells #[.int .u8 x.tag, .int .u64 x.rest] 74)).alloc (.cells #[.int .u8 y.tag, .int .u64 y.rest] 74)).alloc (.cells Try.zeroCells79 79)) C b rs x y := by
  have hbl := hM.lt
  have hB : Below w.heap.size w ((((w.alloc (.cells C 79)).alloc (.cells #[.int .u8 x.tag, .int .u64 x.rest] 74)).alloc (.cells #[.int .u8 y.tag, .int .u64 y.rest] 74)).alloc (.cells Try.zeroCells79 79)) := ((((Below.refl _ _).alloc (Nat.le_refl _) _).alloc (by simp) _).alloc (by simp <;> omega) _).alloc (by simp <;> omega) _
  have hr : ((((w.alloc (.cells C 79)).alloc (.cells #[.int .u8 x.tag, .int .u64 x.rest] 74)).alloc (.cells #[.int .u8 y.tag, .int .u64 y.rest] 74)).alloc (.cells Try.zeroCells79 79)).rangeAt w.heap.size 0 C.toList := fun j v hv => by
    rw [Nat.zero_add, World.cell?_alloc_past _ _ _ (by simp <;> omega), World.cell?_alloc_past _ _ _ (by simp <;> omega), World.cell?_alloc_past _ _ _ (by simp), World.cell?_alloc_at _ _ _ _ rfl]
    simpa using hv
  refine ⟨hB, by simp, ⟨by omega, hM.below hB, hN, fun j => ?_, C.toList, hr, hC⟩, fun o v h => ?_, fun o v h => ?_, ?_, hr⟩
  · rw [World.frozen?_alloc_past _ _ _ (by simp <;> omega), World.frozen?_alloc_past _ _ _ (by simp <;> omega), World.frozen?_alloc_past _ _ _ (by simp), World.frozen?_alloc_at _ _ _ _ rfl]
  · rw [World.cell?_alloc_past _ _ _ (by simp <;> omega), World.cell?_alloc_past _ _ _ (by simp), World.cell?_alloc_at _ _ _ _ (by simp)]; simpa using h
  · rw [World.cell?_alloc_past _ _ _ (by simp), World.cell?_alloc_at _ _ _ _ (by simp)]; simpa using h
  · have := there_new (((w.alloc (.cells C 79)).alloc (.cells #[.int .u8 x.tag, .int .u64 x.rest] 74)).alloc (.cells #[.int .u8 y.tag, .int .u64 y.rest] 74)) Try.zeroCells79 79 (by simp)
    rwa [show (((w.alloc (.cells C 79)).alloc (.cells #[.int .u8 x.tag, .int .u64 x.rest] 74)).alloc (.cells #[.int .u8 y.tag, .int .u64 y.rest] 74)).heap.size = w.heap.size + 1 + 1 + 1 by simp] at this
theorem DfW.find {w W : World} {C : Array Value} {b : Nat} {rs : List Rw} {x y : Wd} (H : DfW w W C b rs x y) (r : Rw) (ok : Bool) (h : (∃ k, ∃ hk : k < rs.length, r = rs[k]'hk ∧ x = r.name ∧ ok = true) ∨ (x.fit ∧ x ∉ rs.map Rw.name ∧ r = rwZ ∧ ok = false)) :
    Calls Try.prog 46 #[.pointer (some ⟨w.heap.size, 0, none⟩), x.val] W fun e w' => e = .returned (.tuple #[r.val, .bool ok]) ∧ Below W.heap.size W w' := by
  rcases h with ⟨k, hk, rfl, rfl, rfl⟩ | ⟨hx, hn, rfl, rfl⟩
  · exact find_hit _ b rs k hk W H.gl
  · exact find_miss _ b rs x W H.gl hx hn

set_option maxRecDepth 100000 in
set_option maxHeartbeats 4000000 in
theorem define_last (C : Array Value) (b : Nat) (rs : List Rw) (x y : Wd) (r : Rw) (w : World) (hC : GlC C.toList b rs) (hM : MapW w b (rs.map Rw.name)) (hN : (rs.map Rw.name).Nodup) (hr : ∃ k, ∃ hk : k < rs.length, r = rs[k]'hk ∧ x = r.name) (hv : r.ver = 99999) :
    Calls Try.prog 39 #[.agg C, x.val, y.val] w fun e w' => e = .returned (.tuple #[.agg Try.zeroCells79, .int .i64 3]) ∧ Below w.heap.size w w' := by
  have hCs : C.size = 301 := by rw [← Array.length_toList]; exact hC.len
  obtain ⟨W, hW⟩ : ∃ W, W = (((w.alloc (.cells C 79)).alloc (.cells #[.int .u8 x.tag, .int .u64 x.rest] 74)).alloc (.cells #[.int .u8 y.tag, .int .u64 y.rest] 74)).alloc (.cells Try.zeroCells79 79) := ⟨_, rfl⟩
  have HW : Hid (W = (((w.alloc (.cells C 79)).alloc (.cells #[.int .u8 x.tag, .int .u64 x.rest] 74)).alloc (.cells #[.int .u8 y.tag, .int .u64 y.rest] 74)).alloc (.cells Try.zeroCells79 79)) := hW
  have HD : Hid (DfW w W C b rs x y) := by rw [hW]; exact dfW_of w C b rs x y hC hM hN
  have zW : W.heap.size = w.heap.size + 4 := HD.out.size
  have hbl : b < w.heap.size := hM.lt
  have HF : Hid (Calls Try.prog 46 #[.pointer (some ⟨w.heap.size, 0, none⟩), x.val] W fun e w' => e = .returned (.tuple #[r.val, .bool true]) ∧ Below W.heap.size W w') := by
    obtain ⟨k, hk, h1, h2⟩ := hr
    exact HD.out.find r true (Or.inl ⟨k, hk, h1, h2, rfl⟩)
  have hbz := buildZ
  clear hr hC hM hN hW
  go_enter Try.func39, Try.ntmps39
  go_wp2_with fail
  rw [← HW.out]
  refine HF.out.mono ?_
  rintro e w1 ⟨rfl, hb1⟩
  have BX1 : Hid (Below W.heap.size W w1) := hb1
  have z1 : w.heap.size + 4 ≤ w1.heap.size := by have := hb1.size; omega
  obtain ⟨rn, rv, rver⟩ := r
  simp only at hv
  subst hv
  have HTu : Hid (∀ u, Below W.heap.size W u → u.there (w.heap.size + 1 + 1 + 1) 0 301) := fun u hu => there_below HD.out.there hu
  clear hb1 HF
  go_wp2_with (refine wpList_store_mid rfl 79 _ _ rfl (w.heap.size + 1 + 1 + 1) 0 Try.zeroCells79 rfl rfl (by rw [show Try.zeroCells79.size = 301 by simp]; exact HTu.out _ (by repeat (first | exact BX1.out | refine Below.alloc ?_ (by omega) _))) (by rw [infoGl]; simp) zc_all ?_)
  refine bodyPost_ret (v := .tuple #[.agg Try.zeroCells79, .int .i64 3]) ?_ rfl ⟨rfl, ?_⟩
  · rw [results_cell_tmp rfl]
    simp only [Array.getD_eq_getD_getElem?, List.getElem?_toArray, List.getElem?_cons_succ, List.getElem?_cons_zero, Option.getD_some, asAddr, Sem.run_pure, Result.andThen_ok]
    rw [ldSet _ _ _ (by simp) (HTu.out _ (by repeat (first | exact BX1.out | refine Below.alloc ?_ (by omega) _)))]
    rfl
  · refine below_setCells ?_ (by omega) _ _
    refine Below.trans HD.out.bel (Below.mono (B := W.heap.size) ?_ (by omega))
    repeat (first | exact BX1.out | refine Below.alloc ?_ (by omega) _)

set_option maxRecDepth 100000 in
set_option maxHeartbeats 4000000 in
theorem define_hit (C : Array Value) (b k : Nat) (rs : List Rw) (x y : Wd) (r : Rw) (w : World) (hC : GlC C.toList b rs) (hM : MapW w b (rs.map Rw.name)) (hN : (rs.map Rw.name).Nodup) (hk : k < rs.length) (hr : r = rs[k]'hk) (hxr : x = r.name) (hv : 0 ≤ r.ver) (hv2 : r.ver < 99999) :
    Calls Try.prog 39 #[.agg C, x.val, y.val] w fun e w' => ∃ D : Array Value, e = .returned (.tuple #[.agg D, .int .i64 0]) ∧ GlC D.toList b (rs.set k ⟨x, y, r.ver + 1⟩) ∧ Below w.heap.size w w' := by
  have hCs : C.size = 301 := by rw [← Array.length_toList]; exact hC.len
  obtain ⟨W, hW⟩ : ∃ W, W = (((w.alloc (.cells C 79)).alloc (.cells #[.int .u8 x.tag, .int .u64 x.rest] 74)).alloc (.cells #[.int .u8 y.tag, .int .u64 y.rest] 74)).alloc (.cells Try.zeroCells79 79) := ⟨_, rfl⟩
  have HW : Hid (W = (((w.alloc (.cells C 79)).alloc (.cells #[.int .u8 x.tag, .int .u64 x.rest] 74)).alloc (.cells #[.int .u8 y.tag, .int .u64 y.rest] 74)).alloc (.cells Try.zeroCells79 79)) := hW
  have HD : Hid (DfW w W C b rs x y) := by rw [hW]; exact dfW_of w C b rs x y hC hM hN
  have zW : W.heap.size = w.heap.size + 4 := HD.out.size
  have hbl : b < w.heap.size := hM.lt
  have HF : Hid (Calls Try.prog 46 #[.pointer (some ⟨w.heap.size, 0, none⟩), x.val] W fun e w' => e = .returned (.tuple #[r.val, .bool true]) ∧ Below W.heap.size W w') := HD.out.find r true (Or.inl ⟨k, hk, hr, hxr, rfl⟩)
  have HLk : Hid (∀ u, Below W.heap.size W u → (Instr.lookup 71 (.map (some b)) x.val false).run Try.prog u = .ok (.int .i64 (k : Int)) u) := fun u hu => by
    have hg := HD.out.gl.below hu
    have hm : (rs.map Rw.name)[k]? = some x := by rw [hxr, hr]; simp [hk]
    have hf : x.fit := by
      obtain ⟨es, cl, _, _, hf⟩ := hg.map
      exact hf _ (List.mem_of_getElem? hm)
    obtain ⟨j, hj, hrun⟩ := hg.map.look1 x hf (List.mem_of_getElem? hm)
    have : j = k := by
      have hjl : j < (rs.map Rw.name).length := (List.getElem?_eq_some_iff.1 hj).1
      have hkl : k < (rs.map Rw.name).length := by simpa using hk
      exact nodup_at hg.dup hjl hkl (by rw [List.getElem?_eq_getElem hjl] at hj; rw [List.getElem?_eq_getElem hkl] at hm; rw [Option.some.inj hj, Option.some.inj hm])
    rw [← this]; exact hrun
  have HGC : Hid (GlC C.toList b rs ∧ k < rs.length) := ⟨hC, hk⟩
  have hk60 : k < 60 := by have := hC.max; omega
  have hCl : C.toList.length = 301 := hC.len
  clear hr hxr hk hC hM hN hW
  go_enter Try.func39, Try.ntmps39
  go_wp2_with fail
  rw [← HW.out]
  refine HF.out.mono ?_
  rintro e w1 ⟨rfl, hb1⟩
  have BX1 : Hid (Below W.heap.size W w1) := hb1
  have z1 : w.heap.size + 4 ≤ w1.heap.size := by have := hb1.size; omega
  obtain ⟨rn, rv, n⟩ := r
  simp only at hv hv2 ⊢
  have hne : (n == 99999) = false := by simp; omega
  clear hb1 HF
  go_wp2_with fail
  obtain ⟨V, hV⟩ : ∃ V, V = w1.alloc (.cells #[.int .u8 rn.tag, .int .u64 rn.rest, .int .u8 rv.tag, .int .u64 rv.rest, .int .i64 n] 76) := ⟨_, rfl⟩
  rw [← hV]
  have HBV : Hid (Below W.heap.size W V) := by rw [hV]; exact BX1.out.alloc (by omega) _
  have HVv : Hid (V.cell? ⟨w1.heap.size, 4, none⟩ = some (.int .i64 n)) := by show V.cell? _ = _; rw [hV, World.cell?_alloc_at _ _ _ _ rfl]; rfl
  have HDV : Hid (V.rangeAt w.heap.size 0 C.toList ∧ (∀ j, V.frozen? ⟨w.heap.size, j, none⟩ = false) ∧ V.there (w.heap.size + 1 + 1 + 1) 0 301) :=
    ⟨range_below HD.out.rng HBV.out, (HD.out.gl.below HBV.out).free, there_below HD.out.there HBV.out⟩
  have zV : W.heap.size ≤ V.heap.size := HBV.out.size
  clear hV BX1
  refine wp_region_facts (by kernel_rfl) 12 (fun v => Below V.heap.size V v) (fun u v => Below u.heap.size u v) (fun i v u => match i with | 0 => (fun a u => a = Value.pointer (some ⟨w.heap.size, 0, none⟩)) v u | 1 => (fun a u => a = Value.map (some b)) v u | 2 => (fun a u => a = x.val) v u | 3 => (fun a u => a = .int .i64 (k : Int)) v u | 4 => (fun a u => a = x.val) v u | 5 => (fun a u => a = y.val) v u | 6 => (fun a u => a = Value.pointer (some ⟨w1.heap.size, 4, none⟩)) v u | 7 => (fun a u => a = .int .i64 n) v u | 8 => (fun a u => a = .int .i64 (n + 1)) v u | 9 => (fun a u => a = (Rw.mk x y (n + 1)).val) v u | 10 => (fun a u => a = Value.pointer (some ⟨w.heap.size, 1, none⟩)) v u | 11 => (fun a u => a = Value.pointer (some ⟨w.heap.size, 1 + k * 5, none⟩)) v u | _ => True) (by kernel_rfl) [0, 1, 2, 3, 4, 5, 6, 7, 8, 9, 10, 11] (by kernel_rfl) ?b0 ?bk ?fk ⟨?s0, ?s1, ?s2, ?s3, ?s4, ?s5, ?s6, ?s7, ?s8, ?s9, ?s10, ?s11, trivial⟩ _ rfl [(0, some 20), (1, some 21), (2, some 22), (3, some 23), (4, some 24), (5, some 25), (6, some 26), (7, some 27), (8, some 28), (9, some 29), (10, some 30), (11, some 31)] (by kernel_rfl) ?last
  case b0 => exact Below.drew (Below.refl _ _)
  case bk => exact fun u v h hb => h.trans (hb.mono h.size)
  case fk => intro i v u u' h hb; match i, h with | 0, h => exact (h) | 1, h => exact (h) | 2, h => exact (h) | 3, h => exact (h) | 4, h => exact (h) | 5, h => exact (h) | 6, h => exact (h) | 7, h => exact (h) | 8, h => exact (h) | 9, h => exact (h) | 10, h => exact (h) | 11, h => exact (h) | _ + 12, _ => exact trivial
  case s0 =>
    refine StepF.of rfl [] (by kernel_rfl) ?_
    intro vs u hB hf K hK
    clear hf
    simp only [putsA, List.foldl_nil, Act.put, List.setIfInBounds_toArray] at hK ⊢
    rw [if_pos (by rfl)]
    go_simp
    exact hK.out _ _ (Below.refl _ _) rfl
  case s1 =>
    refine StepF.of rfl [(0, some 20)] (by kernel_rfl) ?_
    intro vs u hB hf K hK
    have f0 : (fun a u => a = Value.pointer (some ⟨w.heap.size, 0, none⟩)) (vs 0) u := hf.1
    clear hf
    simp only [putsA, List.foldl_cons, List.foldl_nil, Act.put, List.setIfInBounds_toArray, List.set_cons_zero, List.set_cons_succ] at hK ⊢
    generalize vs 0 = v0 at f0 hK ⊢
    rw [if_pos (by rfl)]
    subst f0
    have hBW := HBV.out.trans (hB.mono zV)
    have c0 := (HD.out.gl.below hBW).hd
    go_simp
    exact hK.out _ _ (Below.refl _ _) rfl
  case s2 =>
    refine StepF.of rfl [] (by kernel_rfl) ?_
    intro vs u hB hf K hK
    clear hf
    simp only [putsA, List.foldl_nil, Act.put, List.setIfInBounds_toArray] at hK ⊢
    rw [if_pos (by rfl)]
    have hBW := HBV.out.trans (hB.mono zV)
    have c0 := cell_keep hBW (HD.out.xs 0 _ rfl)
    have c1 := cell_keep hBW (HD.out.xs 1 _ rfl)
    go_simp
    exact hK.out _ _ (Below.refl _ _) rfl
  case s3 =>
    refine StepF.of rfl [(1, some 21), (2, some 22)] (by kernel_rfl) ?_
    intro vs u hB hf K hK
    have f1 : (fun a u => a = Value.map (some b)) (vs 1) u := hf.1
    have f2 : (fun a u => a = x.val) (vs 2) u := hf.2.1
    clear hf
    simp only [putsA, List.foldl_cons, List.foldl_nil, Act.put, List.setIfInBounds_toArray, List.set_cons_zero, List.set_cons_succ] at hK ⊢
    generalize vs 1 = v1 at f1 hK ⊢
    generalize vs 2 = v2 at f2 hK ⊢
    rw [if_pos (by rfl)]
    subst f1 f2
    have hBW := HBV.out.trans (hB.mono zV)
    have hrun := HLk.out u hBW
    go_simp
    exact hK.out _ _ (Below.refl _ _) rfl
  case s4 =>
    refine StepF.of rfl [] (by kernel_rfl) ?_
    intro vs u hB hf K hK
    clear hf
    simp only [putsA, List.foldl_nil, Act.put, List.setIfInBounds_toArray] at hK ⊢
    rw [if_pos (by rfl)]
    have hBW := HBV.out.trans (hB.mono zV)
    have c0 := cell_keep hBW (HD.out.xs 0 _ rfl)
    have c1 := cell_keep hBW (HD.out.xs 1 _ rfl)
    go_simp
    exact hK.out _ _ (Below.refl _ _) rfl
  case s5 =>
    refine StepF.of rfl [] (by kernel_rfl) ?_
    intro vs u hB hf K hK
    clear hf
    simp only [putsA, List.foldl_nil, Act.put, List.setIfInBounds_toArray] at hK ⊢
    rw [if_pos (by rfl)]
    have hBW := HBV.out.trans (hB.mono zV)
    have c0 := cell_keep hBW (HD.out.ys 0 _ rfl)
    have c1 := cell_keep hBW (HD.out.ys 1 _ rfl)
    go_simp
    exact hK.out _ _ (Below.refl _ _) rfl
  case s6 =>
    refine StepF.of rfl [] (by kernel_rfl) ?_
    intro vs u hB hf K hK
    clear hf
    simp only [putsA, List.foldl_nil, Act.put, List.setIfInBounds_toArray] at hK ⊢
    rw [if_pos (by rfl)]
    go_simp
    exact hK.out _ _ (Below.refl _ _) rfl
  case s7 =>
    refine StepF.of rfl [(6, some 26)] (by kernel_rfl) ?_
    intro vs u hB hf K hK
    have f6 : (fun a u => a = Value.pointer (some ⟨w1.heap.size, 4, none⟩)) (vs 6) u := hf.1
    clear hf
    simp only [putsA, List.foldl_cons, List.foldl_nil, Act.put, List.setIfInBounds_toArray, List.set_cons_zero, List.set_cons_succ] at hK ⊢
    generalize vs 6 = v6 at f6 hK ⊢
    rw [if_pos (by rfl)]
    subst f6
    have c0 := cell_keep hB HVv.out
    go_simp
    exact hK.out _ _ (Below.refl _ _) rfl
  case s8 =>
    refine StepF.of rfl [(7, some 27)] (by kernel_rfl) ?_
    intro vs u hB hf K hK
    have f7 : (fun a u => a = .int .i64 n) (vs 7) u := hf.1
    clear hf
    simp only [putsA, List.foldl_cons, List.foldl_nil, Act.put, List.setIfInBounds_toArray, List.set_cons_zero, List.set_cons_succ] at hK ⊢
    generalize vs 7 = v7 at f7 hK ⊢
    rw [if_pos (by rfl)]
    subst f7
    go_simp
    exact hK.out _ _ (Below.refl _ _) (by rw [show IntKind.i64.wrap (n + 1) = n + 1 by rw [IntKind.wrap_i64]; omega])
  case s9 =>
    refine StepF.of rfl [(4, some 24), (5, some 25), (8, some 28)] (by kernel_rfl) ?_
    intro vs u hB hf K hK
    have f4 : (fun a u => a = x.val) (vs 4) u := hf.1
    have f5 : (fun a u => a = y.val) (vs 5) u := hf.2.1
    have f8 : (fun a u => a = .int .i64 (n + 1)) (vs 8) u := hf.2.2.1
    clear hf
    simp only [putsA, List.foldl_cons, List.foldl_nil, Act.put, List.setIfInBounds_toArray, List.set_cons_zero, List.set_cons_succ] at hK ⊢
    generalize vs 4 = v4 at f4 hK ⊢
    generalize vs 5 = v5 at f5 hK ⊢
    generalize vs 8 = v8 at f8 hK ⊢
    rw [if_pos (by rfl)]
    subst f4 f5 f8
    go_simp
    exact hK.out _ _ (Below.refl _ _) rfl
  case s10 =>
    refine StepF.of rfl [] (by kernel_rfl) ?_
    intro vs u hB hf K hK
    clear hf
    simp only [putsA, List.foldl_nil, Act.put, List.setIfInBounds_toArray] at hK ⊢
    rw [if_pos (by rfl)]
    go_simp
    exact hK.out _ _ (Below.refl _ _) rfl
  case s11 =>
    refine StepF.of rfl [(0, some 20), (1, some 21), (2, some 22), (3, some 23), (4, some 24), (5, some 25), (6, some 26), (7, some 27), (8, some 28), (9, some 29), (10, some 30)] (by kernel_rfl) ?_
    intro vs u hB hf K hK
    have f0 : (fun a u => a = Value.pointer (some ⟨w.heap.size, 0, none⟩)) (vs 0) u := hf.1
    have f1 : (fun a u => a = Value.map (some b)) (vs 1) u := hf.2.1
    have f2 : (fun a u => a = x.val) (vs 2) u := hf.2.2.1
    have f3 : (fun a u => a = .int .i64 (k : Int)) (vs 3) u := hf.2.2.2.1
    have f4 : (fun a u => a = x.val) (vs 4) u := hf.2.2.2.2.1
    have f5 : (fun a u => a = y.val) (vs 5) u := hf.2.2.2.2.2.1
    have f6 : (fun a u => a = Value.pointer (some ⟨w1.heap.size, 4, none⟩)) (vs 6) u := hf.2.2.2.2.2.2.1
    have f7 : (fun a u => a = .int .i64 n) (vs 7) u := hf.2.2.2.2.2.2.2.1
    have f8 : (fun a u => a = .int .i64 (n + 1)) (vs 8) u := hf.2.2.2.2.2.2.2.2.1
    have f9 : (fun a u => a = (Rw.mk x y (n + 1)).val) (vs 9) u := hf.2.2.2.2.2.2.2.2.2.1
    have f10 : (fun a u => a = Value.pointer (some ⟨w.heap.size, 1, none⟩)) (vs 10) u := hf.2.2.2.2.2.2.2.2.2.2.1
    clear hf
    simp only [putsA, List.foldl_cons, List.foldl_nil, Act.put, List.setIfInBounds_toArray, List.set_cons_zero, List.set_cons_succ] at hK ⊢
    generalize vs 0 = v0 at f0 hK ⊢
    generalize vs 1 = v1 at f1 hK ⊢
    generalize vs 2 = v2 at f2 hK ⊢
    generalize vs 3 = v3 at f3 hK ⊢
    generalize vs 4 = v4 at f4 hK ⊢
    generalize vs 5 = v5 at f5 hK ⊢
    generalize vs 6 = v6 at f6 hK ⊢
    generalize vs 7 = v7 at f7 hK ⊢
    generalize vs 8 = v8 at f8 hK ⊢
    generalize vs 9 = v9 at f9 hK ⊢
    generalize vs 10 = v10 at f10 hK ⊢
    rw [if_pos (by rfl)]
    subst f10 f3
    clear f0 f1 f2 f4 f5 f6 f7 f8 f9
    have hi1 : (k : Int) < 60 := by omega
    have hi0 : (0 : Int) ≤ (k : Int) := by omega
    have hi2 : ¬ ((k : Int) < 0) := by omega
    have hi3 : ¬ ((60 : Int) ≤ (k : Int)) := by omega
    go_simp
    exact hK.out _ _ (Below.refl _ _) rfl
  case last =>
    intro vs u hB hf K hK
    have f0 : (fun a u => a = Value.pointer (some ⟨w.heap.size, 0, none⟩)) (vs 0) u := hf.1
    have f1 : (fun a u => a = Value.map (some b)) (vs 1) u := hf.2.1
    have f2 : (fun a u => a = x.val) (vs 2) u := hf.2.2.1
    have f3 : (fun a u => a = .int .i64 (k : Int)) (vs 3) u := hf.2.2.2.1
    have f4 : (fun a u => a = x.val) (vs 4) u := hf.2.2.2.2.1
    have f5 : (fun a u => a = y.val) (vs 5) u := hf.2.2.2.2.2.1
    have f6 : (fun a u => a = Value.pointer (some ⟨w1.heap.size, 4, none⟩)) (vs 6) u := hf.2.2.2.2.2.2.1
    have f7 : (fun a u => a = .int .i64 n) (vs 7) u := hf.2.2.2.2.2.2.2.1
    have f8 : (fun a u => a = .int .i64 (n + 1)) (vs 8) u := hf.2.2.2.2.2.2.2.2.1
    have f9 : (fun a u => a = (Rw.mk x y (n + 1)).val) (vs 9) u := hf.2.2.2.2.2.2.2.2.2.1
    have f10 : (fun a u => a = Value.pointer (some ⟨w.heap.size, 1, none⟩)) (vs 10) u := hf.2.2.2.2.2.2.2.2.2.2.1
    have f11 : (fun a u => a = Value.pointer (some ⟨w.heap.size, 1 + k * 5, none⟩)) (vs 11) u := hf.2.2.2.2.2.2.2.2.2.2.2.1
    clear hf
    simp only [putsA, List.foldl_cons, List.foldl_nil, Act.put, List.setIfInBounds_toArray, List.set_cons_zero, List.set_cons_succ]
    generalize vs 0 = v0 at f0 ⊢
    generalize vs 1 = v1 at f1 ⊢
    generalize vs 2 = v2 at f2 ⊢
    generalize vs 3 = v3 at f3 ⊢
    generalize vs 4 = v4 at f4 ⊢
    generalize vs 5 = v5 at f5 ⊢
    generalize vs 6 = v6 at f6 ⊢
    generalize vs 7 = v7 at f7 ⊢
    generalize vs 8 = v8 at f8 ⊢
    generalize vs 9 = v9 at f9 ⊢
    generalize vs 10 = v10 at f10 ⊢
    generalize vs 11 = v11 at f11 ⊢
    rw [if_pos (by rfl)]
    subst f9 f11
    clear f0 f1 f2 f3 f4 f5 f6 f7 f8 f10
    have hC' := range_below HDV.out.1 hB
    have cc : ∀ j, j < 301 → ∃ z, u.cell? ⟨w.heap.size, j, none⟩ = some z := fun j hj => by
      have := hC' j _ (List.getElem?_eq_getElem (by rw [hCl]; exact hj))
      rw [Nat.zero_add] at this
      exact ⟨_, this⟩
    obtain ⟨x0, e0⟩ := cc (1 + k * 5) (by omega)
    obtain ⟨x1, e1⟩ := cc (1 + k * 5 + 1) (by omega)
    obtain ⟨x2, e2⟩ := cc (1 + k * 5 + 2) (by omega)
    obtain ⟨x3, e3⟩ := cc (1 + k * 5 + 3) (by omega)
    obtain ⟨x4, e4⟩ := cc (1 + k * 5 + 4) (by omega)
    have ff : ∀ j, u.frozen? ⟨w.heap.size, j, none⟩ = false := fun j => by rw [(bcell hB).2 _ _ (by omega)]; exact HDV.out.2.1 j
    have HBu : Hid (Below W.heap.size W u) := HBV.out.trans (hB.mono zV)
    have HRu : Hid (u.rangeAt w.heap.size 0 C.toList ∧ u.there (w.heap.size + 1 + 1 + 1) 0 301) := ⟨hC', there_below HDV.out.2.2 hB⟩
    clear hB hC' cc
    go_simp
    refine hK.out _ _ ?_
    clear hK e0 e1 e2 e3 e4
    obtain ⟨X, hX⟩ : ∃ X, X = ((((u.setCell ⟨w.heap.size, 1 + k * 5, none⟩ (.int .u8 x.tag)).setCell ⟨w.heap.size, 1 + k * 5 + 1, none⟩ (.int .u64 x.rest)).setCell ⟨w.heap.size, 1 + k * 5 + 2, none⟩ (.int .u8 y.tag)).setCell ⟨w.heap.size, 1 + k * 5 + 3, none⟩ (.int .u64 y.rest)).setCell ⟨w.heap.size, 1 + k * 5 + 4, none⟩ (.int .i64 (n + 1)) := ⟨_, rfl⟩
    rw [← hX]
    obtain ⟨D, hD⟩ : ∃ D, D = (putR C.toList k ⟨x, y, n + 1⟩).toArray := ⟨_, rfl⟩
    have HXr : Hid (X.rangeAt w.heap.size 0 D.toList) := by rw [hX, hD, List.toList_toArray]; exact range_putR HRu.out.1 k ⟨x, y, n + 1⟩ (by rw [hCl]; omega)
    have HGD : Hid (GlC D.toList b (rs.set k ⟨x, y, n + 1⟩)) := by rw [hD, List.toList_toArray]; exact HGC.out.1.turn k HGC.out.2 _
    have hDs : D.size = 301 := by rw [← Array.length_toList]; exact HGD.out.len
    have HDa : Hid (D.all (·.oneCell') = true) := Array.all_eq_true_iff_forall_mem.2 (fun v hv => HGD.out.one v (by simpa using hv))
    have HXt : Hid (X.there (w.heap.size + 1 + 1 + 1) 0 D.size) := by
      rw [hDs, hX]
      refine there_same ?_ HRu.out.2
      have hs : ∀ (q : World) (o : Nat) (v : Value), (q.setCell ⟨w.heap.size, o, none⟩ v).heap[w.heap.size + 1 + 1 + 1]? = q.heap[w.heap.size + 1 + 1 + 1]? := fun q o v => RowKit.Below.heap_setCell _ _ _ _ (show w.heap.size + 1 + 1 + 1 ≠ w.heap.size by omega)
      rw [hs, hs, hs, hs, hs]
    have HXb : Hid (Below w.heap.size w X) := by
      rw [hX]
      show Below _ _ _
      have b0 : Below w.heap.size w u := HD.out.bel.trans (HBu.out.mono (by omega))
      repeat (first | exact b0 | refine Below.setCell ?_ (by simp) _)
    clear hX hD ff
    go_wp2_with (first | (refine wpList_load_mid rfl 79 _ rfl w.heap.size 0 rfl D.toList _ HXr.out Try.underlying79 rfl (by rw [infoGl, Array.length_toList, hDs]) ?_; rw [Array.toArray_toList]) | (refine wpList_store_mid rfl 79 _ _ rfl (w.heap.size + 1 + 1 + 1) 0 D rfl rfl HXt.out (by rw [infoGl, hDs]) HDa.out ?_))
    refine bodyPost_ret (v := .tuple #[.agg D, .int .i64 0]) ?_ rfl ⟨D, rfl, HGD.out, below_setCells HXb.out (by omega) _ _⟩
    rw [results_cell_tmp rfl]
    simp only [Array.getD_eq_getD_getElem?, List.getElem?_toArray, List.getElem?_cons_succ, List.getElem?_cons_zero, Option.getD_some, asAddr, Sem.run_pure, Result.andThen_ok]
    rw [ldSet _ _ _ hDs (by have := HXt.out; rw [hDs] at this; exact this)]
    rfl
set_option maxRecDepth 100000 in
set_option maxHeartbeats 4000000 in
theorem define_full (C : Array Value) (b : Nat) (rs : List Rw) (x y : Wd) (w : World) (hC : GlC C.toList b rs) (hM : MapW w b (rs.map Rw.name)) (hN : (rs.map Rw.name).Nodup) (hx : x.fit) (hm : x ∉ rs.map Rw.name) (hl : rs.length = 60) :
    Calls Try.prog 39 #[.agg C, x.val, y.val] w fun e w' => e = .returned (.tuple #[.agg Try.zeroCells79, .int .i64 2]) ∧ Below w.heap.size w w' := by
  have hCs : C.size = 301 := by rw [← Array.length_toList]; exact hC.len
  obtain ⟨W, hW⟩ : ∃ W, W = (((w.alloc (.cells C 79)).alloc (.cells #[.int .u8 x.tag, .int .u64 x.rest] 74)).alloc (.cells #[.int .u8 y.tag, .int .u64 y.rest] 74)).alloc (.cells Try.zeroCells79 79) := ⟨_, rfl⟩
  have HW : Hid (W = (((w.alloc (.cells C 79)).alloc (.cells #[.int .u8 x.tag, .int .u64 x.rest] 74)).alloc (.cells #[.int .u8 y.tag, .int .u64 y.rest] 74)).alloc (.cells Try.zeroCells79 79)) := hW
  have HD : Hid (DfW w W C b rs x y) := by rw [hW]; exact dfW_of w C b rs x y hC hM hN
  have zW : W.heap.size = w.heap.size + 4 := HD.out.size
  have hbl : b < w.heap.size := hM.lt
  have HF : Hid (Calls Try.prog 46 #[.pointer (some ⟨w.heap.size, 0, none⟩), x.val] W fun e w' => e = .returned (.tuple #[rwZ.val, .bool false]) ∧ Below W.heap.size W w') := HD.out.find rwZ false (Or.inr ⟨hx, hm, rfl, rfl⟩)
  have HS : Hid (∀ u, Below W.heap.size W u → Calls Try.prog 66 #[.pointer (some ⟨w.heap.size, 0, none⟩)] u fun e w' => e = .returned (.int .i64 60) ∧ Below u.heap.size u w') := fun u hu => by
    refine (size_g _ b rs u (HD.out.gl.below hu)).mono ?_
    rintro e w' ⟨rfl, rfl⟩
    exact ⟨by rw [hl]; rfl, Below.refl _ _⟩
  have hbz := buildZ
  clear hx hm hl hC hM hN hW
  go_enter Try.func39, Try.ntmps39
  go_wp2_with fail
  rw [← HW.out]
  refine HF.out.mono ?_
  rintro e w1 ⟨rfl, hb1⟩
  have BX1 : Hid (Below W.heap.size W w1) := hb1
  have z1 : w.heap.size + 4 ≤ w1.heap.size := by have := hb1.size; omega
  clear hb1 HF
  go_wp2_with fail
  refine (HS.out _ (by repeat (first | exact BX1.out | refine Below.alloc ?_ (by omega) _))).mono ?_
  rintro e w2 ⟨rfl, hb2⟩
  have BX2 : Hid (Below W.heap.size W w2) := Below.trans (by repeat (first | exact BX1.out | refine Below.alloc ?_ (by omega) _)) (hb2.mono (by simp; omega))
  have HTu : Hid (w2.there (w.heap.size + 1 + 1 + 1) 0 Try.zeroCells79.size) := by rw [show Try.zeroCells79.size = 301 by simp]; exact there_below HD.out.there BX2.out
  clear hb2 BX1
  go_wp2_with (refine wpList_store_mid rfl 79 _ _ rfl (w.heap.size + 1 + 1 + 1) 0 Try.zeroCells79 rfl rfl HTu.out (by rw [infoGl]; simp) zc_all ?_)
  refine bodyPost_ret (v := .tuple #[.agg Try.zeroCells79, .int .i64 2]) ?_ rfl ⟨rfl, ?_⟩
  · rw [results_cell_tmp rfl]
    simp only [Array.getD_eq_getD_getElem?, List.getElem?_toArray, List.getElem?_cons_succ, List.getElem?_cons_zero, Option.getD_some, asAddr, Sem.run_pure, Result.andThen_ok]
    rw [ldSet _ _ _ (by simp) (by have := HTu.out; rw [show Try.zeroCells79.size = 301 by simp] at this; exact this)]
    rfl
  · refine below_setCells ?_ (by omega) _ _
    exact Below.trans HD.out.bel (BX2.out.mono (by omega))
set_option maxRecDepth 100000 in
set_option maxHeartbeats 4000000 in
theorem define_more (C : Array Value) (b : Nat) (rs : List Rw) (x y : Wd) (w : World) (hC : GlC C.toList b rs) (hM : MapW w b (rs.map Rw.name)) (hN : (rs.map Rw.name).Nodup) (hx : x.fit) (hm : x ∉ rs.map Rw.name) (hl : rs.length < 60) :
    Calls Try.prog 39 #[.agg C, x.val, y.val] w fun e w' => ∃ (D : Array Value) (d : Nat), e = .returned (.tuple #[.agg D, .int .i64 0]) ∧ GlC D.toList d (rs ++ [Rw.mk x y 1]) ∧ MapW w' d ((rs ++ [Rw.mk x y 1]).map Rw.name) ∧ Below w.heap.size w w' := by
  have hCs : C.size = 301 := by rw [← Array.length_toList]; exact hC.len
  obtain ⟨W, hW⟩ : ∃ W, W = (((w.alloc (.cells C 79)).alloc (.cells #[.int .u8 x.tag, .int .u64 x.rest] 74)).alloc (.cells #[.int .u8 y.tag, .int .u64 y.rest] 74)).alloc (.cells Try.zeroCells79 79) := ⟨_, rfl⟩
  have HW : Hid (W = (((w.alloc (.cells C 79)).alloc (.cells #[.int .u8 x.tag, .int .u64 x.rest] 74)).alloc (.cells #[.int .u8 y.tag, .int .u64 y.rest] 74)).alloc (.cells Try.zeroCells79 79)) := hW
  have HD : Hid (DfW w W C b rs x y) := by rw [hW]; exact dfW_of w C b rs x y hC hM hN
  have zW : W.heap.size = w.heap.size + 4 := HD.out.size
  have hbl : b < w.heap.size := hM.lt
  have HF : Hid (Calls Try.prog 46 #[.pointer (some ⟨w.heap.size, 0, none⟩), x.val] W fun e w' => e = .returned (.tuple #[rwZ.val, .bool false]) ∧ Below W.heap.size W w') := HD.out.find rwZ false (Or.inr ⟨hx, hm, rfl, rfl⟩)
  obtain ⟨n, hn⟩ : ∃ n, n = rs.length := ⟨_, rfl⟩
  have hn60 : ((n : Int) == 60) = false := by simp; omega
  have HS : Hid (∀ u, Below W.heap.size W u → Calls Try.prog 66 #[.pointer (some ⟨w.heap.size, 0, none⟩)] u fun e w' => e = .returned (.int .i64 (n : Int)) ∧ Below u.heap.size u w') := fun u hu => by
    refine (size_g _ b rs u (HD.out.gl.below hu)).mono ?_
    rintro e w' ⟨rfl, rfl⟩
    exact ⟨by rw [hn], Below.refl _ _⟩
  have HCl : Hid (∀ u, Below W.heap.size W u → Calls Try.prog 67 #[.map (some b)] u fun e w' => e = .returned (.map (some u.heap.size)) ∧ MapW w' u.heap.size (rs.map Rw.name) ∧ w'.heap.size = u.heap.size + 1 ∧ Below u.heap.size u w') := fun u hu => mapClone_any b _ u (HD.out.gl.below hu).map
  have HAd : Hid (∀ u d, GlAt u w.heap.size d rs → Calls Try.prog 68 #[.pointer (some ⟨w.heap.size, 0, none⟩), (Rw.mk x y 1).val] u fun e w' => e = .returned (.tuple #[]) ∧ GlAt w' w.heap.size d (rs ++ [Rw.mk x y 1]) ∧ (∀ B, B ≤ w.heap.size → B ≤ d → Below B u w') ∧ (∀ i, i < u.heap.size → i ≠ w.heap.size → i ≠ d → w'.heap[i]? = u.heap[i]?)) := fun u d hu => add_all _ d rs ⟨x, y, 1⟩ u hu hx hm hl
  have HGC : Hid (GlC C.toList b rs ∧ (rs.map Rw.name).Nodup) := ⟨hC, hN⟩
  clear hx hm hl hC hM hN hW hn
  go_enter Try.func39, Try.ntmps39
  go_wp2_with fail
  rw [← HW.out]
  refine HF.out.mono ?_
  rintro e w1 ⟨rfl, hb1⟩
  have BX1 : Hid (Below W.heap.size W w1) := hb1
  have z1 : w.heap.size + 4 ≤ w1.heap.size := by have := hb1.size; omega
  clear hb1 HF
  go_wp2_with fail
  refine (HS.out _ (by repeat (first | exact BX1.out | refine Below.alloc ?_ (by omega) _))).mono ?_
  rintro e w2 ⟨rfl, hb2⟩
  have BX2 : Hid (Below W.heap.size W w2) := Below.trans (by repeat (first | exact BX1.out | refine Below.alloc ?_ (by omega) _)) (hb2.mono (by simp; omega))
  have z2 : w.heap.size + 4 ≤ w2.heap.size := by have := BX2.out.size; omega
  have c0 := (HD.out.gl.below BX2.out).hd
  clear hb2 BX1 HS
  go_wp2_with fail
  refine (HCl.out _ BX2.out).mono ?_
  rintro e w3 ⟨rfl, hm3, hs3, hb3⟩
  have BX3 : Hid (Below W.heap.size W w3) := BX2.out.trans (hb3.mono BX2.out.size)
  have HM3 : Hid (MapW w3 w2.heap.size (rs.map Rw.name)) := hm3
  have hd3 := (HD.out.gl.below BX3.out).hd
  have hf3 := (HD.out.gl.below BX3.out).free
  have x0 := cell_keep BX3.out (HD.out.xs 0 _ rfl)
  have x1 := cell_keep BX3.out (HD.out.xs 1 _ rfl)
  have y0 := cell_keep BX3.out (HD.out.ys 0 _ rfl)
  have y1 := cell_keep BX3.out (HD.out.ys 1 _ rfl)
  clear hm3 hb3 c0 HCl
  go_wp2_with fail
  obtain ⟨X, hX⟩ : ∃ X, X = w3.setCell ⟨w.heap.size, 0, none⟩ (.map (some w2.heap.size)) := ⟨_, rfl⟩
  rw [← hX]
  have HGX : Hid (GlAt X w.heap.size w2.heap.size rs) := by
    rw [hX]
    refine ⟨by omega, HM3.out.keep (RowKit.Below.heap_setCell _ _ _ _ (show w2.heap.size ≠ w.heap.size by omega)), HGC.out.2, fun j => by rw [World.frozen?_setCell]; exact hf3 j, C.toList.set 0 (.map (some w2.heap.size)), range_set (range_below HD.out.rng BX3.out) (by rw [HGC.out.1.len]; omega), HGC.out.1.remap _⟩
  have HXi : Hid (∀ i, i ≠ w.heap.size → X.heap[i]? = w3.heap[i]?) := fun i hi => by rw [hX]; exact RowKit.Below.heap_setCell _ _ _ _ hi
  have zX : X.heap.size = w3.heap.size := by rw [hX]; simp
  have HXb : Hid (Below w.heap.size w X) := by rw [hX]; exact (HD.out.bel.trans (BX3.out.mono (by omega))).setCell (Nat.le_refl _) _
  clear hX hd3 hf3 x0 x1 y0 y1
  refine (HAd.out X _ HGX.out).mono ?_
  rintro e w4 ⟨rfl, hg4, hb4, hi4⟩
  have HT4 : Hid (w4.there (w.heap.size + 1 + 1 + 1) 0 301) := by
    refine there_same ?_ (there_below HD.out.there BX3.out)
    rw [hi4 _ (by omega) (by omega) (by omega), HXi.out _ (by omega)]
  have HB4 : Hid (Below w.heap.size w w4) := HXb.out.trans (hb4 _ (Nat.le_refl _) (by omega))
  have HM4 : Hid (MapW w4 w2.heap.size ((rs ++ [Rw.mk x y 1]).map Rw.name)) := hg4.map
  obtain ⟨D0, hr4, hgl⟩ := hg4.cells
  obtain ⟨D, hD⟩ : ∃ D, D = D0.toArray := ⟨_, rfl⟩
  have hD' : D0 = D.toList := by rw [hD]
  rw [hD'] at hr4 hgl
  have HR4 : Hid (w4.rangeAt w.heap.size 0 D.toList) := hr4
  have HGD : Hid (GlC D.toList w2.heap.size (rs ++ [Rw.mk x y 1])) := hgl
  have hDs : D.size = 301 := by rw [← Array.length_toList]; exact hgl.len
  have HDa : Hid (D.all (·.oneCell') = true) := Array.all_eq_true_iff_forall_mem.2 (fun v hv => HGD.out.one v (by simpa using hv))
  have HTD : Hid (w4.there (w.heap.size + 1 + 1 + 1) 0 D.size) := by rw [hDs]; exact HT4.out
  clear hg4 hb4 hi4 hr4 hgl hD hD' HGX HXi HXb HAd
  go_wp2_with (first | (refine wpList_load_mid rfl 79 _ rfl w.heap.size 0 rfl D.toList _ HR4.out Try.underlying79 rfl (by rw [infoGl, Array.length_toList, hDs]) ?_; rw [Array.toArray_toList]) | (refine wpList_store_mid rfl 79 _ _ rfl (w.heap.size + 1 + 1 + 1) 0 D rfl rfl HTD.out (by rw [infoGl, hDs]) HDa.out ?_))
  refine bodyPost_ret (v := .tuple #[.agg D, .int .i64 0]) ?_ rfl ⟨D, w2.heap.size, rfl, HGD.out, HM4.out.keep (heap_setCells (by omega) _ _ _), below_setCells HB4.out (by omega) _ _⟩
  rw [results_cell_tmp rfl]
  simp only [Array.getD_eq_getD_getElem?, List.getElem?_toArray, List.getElem?_cons_succ, List.getElem?_cons_zero, Option.getD_some, asAddr, Sem.run_pure, Result.andThen_ok]
  rw [ldSet _ _ _ hDs HT4.out]
  rfl
end Go.Proofs.Ytgfienijabkpjaa
