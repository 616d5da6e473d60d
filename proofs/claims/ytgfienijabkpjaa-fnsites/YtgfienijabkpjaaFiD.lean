/-
  Parts of the proof laid into one text, one behind the other; each says at its head what is proved in it.
-/
import Derived.Test.YtgfienijabkpjaaImplGW
import Derived.Test.YtgfienijabkpjaaImplClone
import Derived.Test.YtgfienijabkpjaaSpecLG
import Derived.Test.YtgfienijabkpjaaMkGlobal
import Derived.Test.YtgfienijabkpjaaVBox
import Derived.Test.YtgfienijabkpjaaRowKit0
import Derived.Deep.RegionHeld3
import Derived.Test.YtgfienijabkpjaaImplRG
import Derived.Test.YtgfienijabkpjaaImplG1
import Derived.Test.YtgfienijabkpjaaImplG
import Derived.Test.YtgfienijabkpjaaSpecGF
import Derived.Test.YtgfienijabkpjaaFacts
import Derived.Test.YtgfienijabkpjaaOpValue
/-
  The program's define: a row turned, or one more; nothing that was there is turned.
-/
namespace Go.Proofs.Ytgfienijabkpjaa
open Go.RowKit Go.Extern.Stop Go.Stop Go.Extern Num Go.Lib

/-- A row turned. -/
theorem GlC.turn {C : List Value} {b : Nat} {rs : List Rw} (H : GlC C b rs) (k : Nat) (hk : k < rs.length) (r : Rw) : GlC (putR C k r) b (rs.set k r) := by
  have hL := H.len
  have hm := H.max
  refine ⟨by rw [putR_len]; exact hL, putR_one _ _ H.one, by rw [putR_other _ _ _ _ (by omega)]; exact H.head, fun j hj => ?_, by simpa using hm⟩
  have hj' : j < rs.length := by simpa using hj
  by_cases e : k = j
  · subst e
    rw [List.getElem_set_self]
    exact putR_at C k r (by omega)
  · rw [List.getElem_set_ne e, putR_other _ _ _ _ (by omega), putR_other _ _ _ _ (by omega), putR_other _ _ _ _ (by omega), putR_other _ _ _ _ (by omega), putR_other _ _ _ _ (by omega)]
    exact H.row j hj'
/-- Another map. -/
theorem GlC.remap {C : List Value} {b : Nat} {rs : List Rw} (H : GlC C b rs) (b' : Nat) : GlC (C.set 0 (.map (some b'))) b' rs := by
  have hL := H.len
  refine ⟨by rw [List.length_set]; exact hL, fun v hv => ?_, by rw [List.getElem?_set_self (by omega)], fun j hj => ?_, H.max⟩
  · rcases List.mem_or_eq_of_mem_set hv with h | rfl
    · exact H.one v h
    · rfl
  · have := H.row j hj
    rw [List.getElem?_set_ne (by omega), List.getElem?_set_ne (by omega), List.getElem?_set_ne (by omega), List.getElem?_set_ne (by omega), List.getElem?_set_ne (by omega)]
    exact this
/-- What lies where define begins. -/
structure DfW (w W : World) (C : Array Value) (b : Nat) (rs : List Rw) (x y : Wd) : Prop where
  bel : Below w.heap.size w W
  size : W.heap.size = w.heap.size + 4
  gl : GlAt W w.heap.size b rs
  xs : ∀ (o : Nat) (v : Value), [Value.int .u8 x.tag, .int .u64 x.rest][o]? = some v → W.cell? ⟨w.heap.size + 1, o, none⟩ = some v
  ys : ∀ (o : Nat) (v : Value), [Value.int .u8 y.tag, .int .u64 y.rest][o]? = some v → W.cell? ⟨w.heap.size + 1 + 1, o, none⟩ = some v
  there : W.there (w.heap.size + 1 + 1 + 1) 0 301
  rng : W.rangeAt w.heap.size 0 C.toList
theorem dfW_of (w : World) (C : Array Value) (b : Nat) (rs : List Rw) (x y : Wd) (hC : GlC C.toList b rs) (hM : MapW w b (rs.map Rw.name)) (hN : (rs.map Rw.name).Nodup) : DfW w ((((w.alloc (.cells C 79)).alloc (.cells #[.int .u8 x.tag, .int .u64 x.rest] 74)).alloc (.cells #[.int .u8 y.tag, .int .u64 y.rest] 74)).alloc (.cells Try.zeroCells79 79)) C b rs x y := by
  have hbl := hM.lt
  have hB : Below w.heap.size w ((((w.alloc (.cells C 79)).alloc (.cells #[.int .u8 x.tag, .int .u64 x.rest] 74)).alloc (.cells #[.int .u8 y.tag, .int .u64 y.rest] 74)).alloc (.cells Try.zeroCells79 79)) := ((((Below.refl _ _).alloc (Nat.le_refl _) _).alloc (by simp) _).alloc (by simp <;> omega) _).alloc (by simp <;> omega) _
  have hr : ((((w.alloc (.cells C 79)).alloc (.cells #[.int .u8 x.tag, .int .u64 x.rest] 74)).alloc (.cells #[.int .u8 y.tag, .int .u64 y.rest] 74)).alloc (.cells Try.zeroCells79 79)).rangeAt w.heap.size 0 C.toList := fun j v hv => by
    rw [Nat.zero_add, World.cell?_alloc_past _ _ _ (by simp <;> omega), World.cell?_alloc_past _ _ _ (by simp <;> omega), World.cell?_alloc_past _ _ _ (by simp), World.cell?_alloc_at _ _ _ _ rfl]
    simpa using hv
  refine ⟨hB, by simp, ⟨by omega, hM.below hB, hN, fun j => ?_, C.toList, hr, hC⟩, fun o v h => ?_, fun o v h => ?_, ?_, hr⟩
  · rw [World.frozen?_alloc_past _ _ _ (by simp <;> omega), World.frozen?_alloc_past _ _ _ (by simp <;> omega), World.frozen?_alloc_past _ _ _ (by simp), World.frozen?_alloc_at _ _ _ _ rfl]
  · rw [World.cell?_alloc_past _ _ _ (by simp <;> omega), World.cell?_alloc_past _ _ _ (by simp), World.cell?_alloc_at _ _ _ _ (by simp)]; simpa using h
  · rw [World.cell?_alloc_past _ _ _ (by simp), World.cell?_alloc_at _ _ _ _ (by simp)]; simpa using h
  · have := there_new (((w.alloc (.cells C 79)).alloc (.cells #[.int .u8 x.tag, .int .u64 x.rest] 74)).alloc (.cells #[.int .u8 y.tag, .int .u64 y.rest] 74)) Try.zeroCells79 79 (by simp)
    rwa [show (((w.alloc (.cells C 79)).alloc (.cells #[.int .u8 x.tag, .int .u64 x.rest] 74)).alloc (.cells #[.int .u8 y.tag, .int .u64 y.rest] 74)).heap.size = w.heap.size + 1 + 1 + 1 by simp] at this
theorem DfW.find {w W : World} {C : Array Value} {b : Nat} {rs : List Rw} {x y : Wd} (H : DfW w W C b rs x y) (r : Rw) (ok : Bool) (h : (∃ k, ∃ hk : k < rs.length, r = rs[k]'hk ∧ x = r.name ∧ ok = true) ∨ (x.fit ∧ x ∉ rs.map Rw.name ∧ r = rwZ ∧ ok = false)) :
    Calls Try.prog 46 #[.pointer (some ⟨w.heap.size, 0, none⟩), x.val] W fun e w' => e = .returned (.tuple #[r.val, .bool ok]) ∧ Below W.heap.size W w' := by
  rcases h with ⟨k, hk, rfl, rfl, rfl⟩ | ⟨hx, hn, rfl, rfl⟩
  · exact find_hit _ b rs k hk W H.gl
  · exact find_miss _ b rs x W H.gl hx hn

set_option maxRecDepth 100000 in
set_option maxHeartbeats 4000000 in
theorem define_last (C : Array Value) (b : Nat) (rs : List Rw) (x y : Wd) (r : Rw) (w : World) (hC : GlC C.toList b rs) (hM : MapW w b (rs.map Rw.name)) (hN : (rs.map Rw.name).Nodup) (hr : ∃ k, ∃ hk : k < rs.length, r = rs[k]'hk ∧ x = r.name) (hv : r.ver = 99999) :
    Calls Try.prog 39 #[.agg C, x.val, y.val] w fun e w' => e = .returned (.tuple #[.agg Try.zeroCells79, .int .i64 3]) ∧ Below w.heap.size w w' := by
  have hCs : C.size = 301 := by rw [← Array.length_toList]; exact hC.len
  obtain ⟨W, hW⟩ : ∃ W, W = (((w.alloc (.cells C 79)).alloc (.cells #[.int .u8 x.tag, .int .u64 x.rest] 74)).alloc (.cells #[.int .u8 y.tag, .int .u64 y.rest] 74)).alloc (.cells Try.zeroCells79 79) := ⟨_, rfl⟩
  have HW : Hid (W = (((w.alloc (.cells C 79)).alloc (.cells #[.int .u8 x.tag, .int .u64 x.rest] 74)).alloc (.cells #[.int .u8 y.tag, .int .u64 y.rest] 74)).alloc (.cells Try.zeroCells79 79)) := hW
  have HD : Hid (DfW w W C b rs x y) := by rw [hW]; exact dfW_of w C b rs x y hC hM hN
  have zW : W.heap.size = w.heap.size + 4 := HD.out.size
  have hbl : b < w.heap.size := hM.lt
  have HF : Hid (Calls Try.prog 46 #[.pointer (some ⟨w.heap.size, 0, none⟩), x.val] W fun e w' => e = .returned (.tuple #[r.val, .bool true]) ∧ Below W.heap.size W w') := by
    obtain ⟨k, hk, h1, h2⟩ := hr
    exact HD.out.find r true (Or.inl ⟨k, hk, h1, h2, rfl⟩)
  have hbz := buildZ
  clear hr hC hM hN hW
  go_enter Try.func39, Try.ntmps39
  go_wp2_with fail
  rw [← HW.out]
  refine HF.out.mono ?_
  rintro e w1 ⟨rfl, hb1⟩
  have BX1 : Hid (Below W.heap.size W w1) := hb1
  have z1 : w.heap.size + 4 ≤ w1.heap.size := by have := hb1.size; omega
  obtain ⟨rn, rv, rver⟩ := r
  simp only at hv
  subst hv
  have HTu : Hid (∀ u, Below W.heap.size W u → u.there (w.heap.size + 1 + 1 + 1) 0 301) := fun u hu => there_below HD.out.there hu
  clear hb1 HF
  go_wp2_with (refine wpList_store_mid rfl 79 _ _ rfl (w.heap.size + 1 + 1 + 1) 0 Try.zeroCells79 rfl rfl (by rw [show Try.zeroCells79.size = 301 by simp]; exact HTu.out _ (by repeat (first | exact BX1.out | refine Below.alloc ?_ (by omega) _))) (by rw [infoGl]; simp) zc_all ?_)
  refine bodyPost_ret (v := .tuple #[.agg Try.zeroCells79, .int .i64 3]) ?_ rfl ⟨rfl, ?_⟩
  · rw [results_cell_tmp rfl]
    simp only [Array.getD_eq_getD_getElem?, List.getElem?_toArray, List.getElem?_cons_succ, List.getElem?_cons_zero, Option.getD_some, asAddr, Sem.run_pure, Result.andThen_ok]
    rw [ldSet _ _ _ (by simp) (HTu.out _ (by repeat (first | exact BX1.out | refine Below.alloc ?_ (by omega) _)))]
    rfl
  · refine below_setCells ?_ (by omega) _ _
    refine Below.trans HD.out.bel (Below.mono (B := W.heap.size) ?_ (by omega))
    repeat (first | exact BX1.out | refine Below.alloc ?_ (by omega) _)

set_option maxRecDepth 100000 in
set_option maxHeartbeats 4000000 in
theorem define_hit (C : Array Value) (b k : Nat) (rs : List Rw) (x y : Wd) (r : Rw) (w : World) (hC : GlC C.toList b rs) (hM : MapW w b (rs.map Rw.name)) (hN : (rs.map Rw.name).Nodup) (hk : k < rs.length) (hr : r = rs[k]'hk) (hxr : x = r.name) (hv : 0 ≤ r.ver) (hv2 : r.ver < 99999) :
    Calls Try.prog 39 #[.agg C, x.val, y.val] w fun e w' => ∃ D : Array Value, e = .returned (.tuple #[.agg D, .int .i64 0]) ∧ GlC D.toList b (rs.set k ⟨x, y, r.ver + 1⟩) ∧ Below w.heap.size w w' := by
  have hCs : C.size = 301 := by rw [← Array.length_toList]; exact hC.len
  obtain ⟨W, hW⟩ : ∃ W, W = (((w.alloc (.cells C 79)).alloc (.cells #[.int .u8 x.tag, .int .u64 x.rest] 74)).alloc (.cells #[.int .u8 y.tag, .int .u64 y.rest] 74)).alloc (.cells Try.zeroCells79 79) := ⟨_, rfl⟩
  have HW : Hid (W = (((w.alloc (.cells C 79)).alloc (.cells #[.int .u8 x.tag, .int .u64 x.rest] 74)).alloc (.cells #[.int .u8 y.tag, .int .u64 y.rest] 74)).alloc (.cells Try.zeroCells79 79)) := hW
  have HD : Hid (DfW w W C b rs x y) := by rw [hW]; exact dfW_of w C b rs x y hC hM hN
  have zW : W.heap.size = w.heap.size + 4 := HD.out.size
  have hbl : b < w.heap.size := hM.lt
  have HF : Hid (Calls Try.prog 46 #[.pointer (some ⟨w.heap.size, 0, none⟩), x.val] W fun e w' => e = .returned (.tuple #[r.val, .bool true]) ∧ Below W.heap.size W w') := HD.out.find r true (Or.inl ⟨k, hk, hr, hxr, rfl⟩)
  have HLk : Hid (∀ u, Below W.heap.size W u → (Instr.lookup 71 (.map (some b)) x.val false).run Try.prog u = .ok (.int .i64 (k : Int)) u) := fun u hu => by
    have hg := HD.out.gl.below hu
    have hm : (rs.map Rw.name)[k]? = some x := by rw [hxr, hr]; simp [hk]
    have hf : x.fit := by
      obtain ⟨es, cl, _, _, hf⟩ := hg.map
      exact hf _ (List.mem_of_getElem? hm)
    obtain ⟨j, hj, hrun⟩ := hg.map.look1 x hf (List.mem_of_getElem? hm)
    have : j = k := by
      have hjl : j < (rs.map Rw.name).length := (List.getElem?_eq_some_iff.1 hj).1
      have hkl : k < (rs.map Rw.name).length := by simpa using hk
      exact nodup_at hg.dup hjl hkl (by rw [List.getElem?_eq_getElem hjl] at hj; rw [List.getElem?_eq_getElem hkl] at hm; rw [Option.some.inj hj, Option.some.inj hm])
    rw [← this]; exact hrun
  have HGC : Hid (GlC C.toList b rs ∧ k < rs.length) := ⟨hC, hk⟩
  have hk60 : k < 60 := by have := hC.max; omega
  have hCl : C.toList.length = 301 := hC.len
  clear hr hxr hk hC hM hN hW
  go_enter Try.func39, Try.ntmps39
  go_wp2_with fail
  rw [← HW.out]
  refine HF.out.mono ?_
  rintro e w1 ⟨rfl, hb1⟩
  have BX1 : Hid (Below W.heap.size W w1) := hb1
  have z1 : w.heap.size + 4 ≤ w1.heap.size := by have := hb1.size; omega
  obtain ⟨rn, rv, n⟩ := r
  simp only at hv hv2 ⊢
  have hne : (n == 99999) = false := by simp; omega
  clear hb1 HF
  go_wp2_with fail
  obtain ⟨V, hV⟩ : ∃ V, V = w1.alloc (.cells #[.int .u8 rn.tag, .int .u64 rn.rest, .int .u8 rv.tag, .int .u64 rv.rest, .int .i64 n] 76) := ⟨_, rfl⟩
  rw [← hV]
  have HBV : Hid (Below W.heap.size W V) := by rw [hV]; exact BX1.out.alloc (by omega) _
  have HVv : Hid (V.cell? ⟨w1.heap.size, 4, none⟩ = some (.int .i64 n)) := by show V.cell? _ = _; rw [hV, World.cell?_alloc_at _ _ _ _ rfl]; rfl
  have HDV : Hid (V.rangeAt w.heap.size 0 C.toList ∧ (∀ j, V.frozen? ⟨w.heap.size, j, none⟩ = false) ∧ V.there (w.heap.size + 1 + 1 + 1) 0 301) :=
    ⟨range_below HD.out.rng HBV.out, (HD.out.gl.below HBV.out).free, there_below HD.out.there HBV.out⟩
  have zV : W.heap.size ≤ V.heap.size := HBV.out.size
  clear hV BX1
  refine wp_region_facts (by kernel_rfl) 12 (fun v => Below V.heap.size V v) (fun u v => Below u.heap.size u v) (fun i v u => match i with | 0 => (fun a u => a = Value.pointer (some ⟨w.heap.size, 0, none⟩)) v u | 1 => (fun a u => a = Value.map (some b)) v u | 2 => (fun a u => a = x.val) v u | 3 => (fun a u => a = .int .i64 (k : Int)) v u | 4 => (fun a u => a = x.val) v u | 5 => (fun a u => a = y.val) v u | 6 => (fun a u => a = Value.pointer (some ⟨w1.heap.size, 4, none⟩)) v u | 7 => (fun a u => a = .int .i64 n) v u | 8 => (fun a u => a = .int .i64 (n + 1)) v u | 9 => (fun a u => a = (Rw.mk x y (n + 1)).val) v u | 10 => (fun a u => a = Value.pointer (some ⟨w.heap.size, 1, none⟩)) v u | 11 => (fun a u => a = Value.pointer (some ⟨w.heap.size, 1 + k * 5, none⟩)) v u | _ => True) (by kernel_rfl) [0, 1, 2, 3, 4, 5, 6, 7, 8, 9, 10, 11] (by kernel_rfl) ?b0 ?bk ?fk ⟨?s0, ?s1, ?s2, ?s3, ?s4, ?s5, ?s6, ?s7, ?s8, ?s9, ?s10, ?s11, trivial⟩ _ rfl [(0, some 20), (1, some 21), (2, some 22), (3, some 23), (4, some 24), (5, some 25), (6, some 26), (7, some 27), (8, some 28), (9, some 29), (10, some 30), (11, some 31)] (by kernel_rfl) ?last
  case b0 => exact Below.drew (Below.refl _ _)
  case bk => exact fun u v h hb => h.trans (hb.mono h.size)
  case fk => intro i v u u' h hb; match i, h with | 0, h => exact (h) | 1, h => exact (h) | 2, h => exact (h) | 3, h => exact (h) | 4, h => exact (h) | 5, h => exact (h) | 6, h => exact (h) | 7, h => exact (h) | 8, h => exact (h) | 9, h => exact (h) | 10, h => exact (h) | 11, h => exact (h) | _ + 12, _ => exact trivial
  case s0 =>
    refine StepF.of rfl [] (by kernel_rfl) ?_
    intro vs u hB hf K hK
    clear hf
    simp only [putsA, List.foldl_nil, Act.put, List.setIfInBounds_toArray] at hK ⊢
    rw [if_pos (by rfl)]
    go_simp
    exact hK.out _ _ (Below.refl _ _) rfl
  case s1 =>
    refine StepF.of rfl [(0, some 20)] (by kernel_rfl) ?_
    intro vs u hB hf K hK
    have f0 : (fun a u => a = Value.pointer (some ⟨w.heap.size, 0, none⟩)) (vs 0) u := hf.1
    clear hf
    simp only [putsA, List.foldl_cons, List.foldl_nil, Act.put, List.setIfInBounds_toArray, List.set_cons_zero, List.set_cons_succ] at hK ⊢
    generalize vs 0 = v0 at f0 hK ⊢
    rw [if_pos (by rfl)]
    subst f0
    have hBW := HBV.out.trans (hB.mono zV)
    have c0 := (HD.out.gl.below hBW).hd
    go_simp
    exact hK.out _ _ (Below.refl _ _) rfl
  case s2 =>
    refine StepF.of rfl [] (by kernel_rfl) ?_
    intro vs u hB hf K hK
    clear hf
    simp only [putsA, List.foldl_nil, Act.put, List.setIfInBounds_toArray] at hK ⊢
    rw [if_pos (by rfl)]
    have hBW := HBV.out.trans (hB.mono zV)
    have c0 := cell_keep hBW (HD.out.xs 0 _ rfl)
    have c1 := cell_keep hBW (HD.out.xs 1 _ rfl)
    go_simp
    exact hK.out _ _ (Below.refl _ _) rfl
  case s3 =>
    refine StepF.of rfl [(1, some 21), (2, some 22)] (by kernel_rfl) ?_
    intro vs u hB hf K hK
    have f1 : (fun a u => a = Value.map (some b)) (vs 1) u := hf.1
    have f2 : (fun a u => a = x.val) (vs 2) u := hf.2.1
    clear hf
    simp only [putsA, List.foldl_cons, List.foldl_nil, Act.put, List.setIfInBounds_toArray, List.set_cons_zero, List.set_cons_succ] at hK ⊢
    generalize vs 1 = v1 at f1 hK ⊢
    generalize vs 2 = v2 at f2 hK ⊢
    rw [if_pos (by rfl)]
    subst f1 f2
    have hBW := HBV.out.trans (hB.mono zV)
    have hrun := HLk.out u hBW
    go_simp
    exact hK.out _ _ (Below.refl _ _) rfl
  case s4 =>
    refine StepF.of rfl [] (by kernel_rfl) ?_
    intro vs u hB hf K hK
    clear hf
    simp only [putsA, List.foldl_nil, Act.put, List.setIfInBounds_toArray] at hK ⊢
    rw [if_pos (by rfl)]
    have hBW := HBV.out.trans (hB.mono zV)
    have c0 := cell_keep hBW (HD.out.xs 0 _ rfl)
    have c1 := cell_keep hBW (HD.out.xs 1 _ rfl)
    go_simp
    exact hK.out _ _ (Below.refl _ _) rfl
  case s5 =>
    refine StepF.of rfl [] (by kernel_rfl) ?_
    intro vs u hB hf K hK
    clear hf
    simp only [putsA, List.foldl_nil, Act.put, List.setIfInBounds_toArray] at hK ⊢
    rw [if_pos (by rfl)]
    have hBW := HBV.out.trans (hB.mono zV)
    have c0 := cell_keep hBW (HD.out.ys 0 _ rfl)
    have c1 := cell_keep hBW (HD.out.ys 1 _ rfl)
    go_simp
    exact hK.out _ _ (Below.refl _ _) rfl
  case s6 =>
    refine StepF.of rfl [] (by kernel_rfl) ?_
    intro vs u hB hf K hK
    clear hf
    simp only [putsA, List.foldl_nil, Act.put, List.setIfInBounds_toArray] at hK ⊢
    rw [if_pos (by rfl)]
    go_simp
    exact hK.out _ _ (Below.refl _ _) rfl
  case s7 =>
    refine StepF.of rfl [(6, some 26)] (by kernel_rfl) ?_
    intro vs u hB hf K hK
    have f6 : (fun a u => a = Value.pointer (some ⟨w1.heap.size, 4, none⟩)) (vs 6) u := hf.1
    clear hf
    simp only [putsA, List.foldl_cons, List.foldl_nil, Act.put, List.setIfInBounds_toArray, List.set_cons_zero, List.set_cons_succ] at hK ⊢
    generalize vs 6 = v6 at f6 hK ⊢
    rw [if_pos (by rfl)]
    subst f6
    have c0 := cell_keep hB HVv.out
    go_simp
    exact hK.out _ _ (Below.refl _ _) rfl
  case s8 =>
    refine StepF.of rfl [(7, some 27)] (by kernel_rfl) ?_
    intro vs u hB hf K hK
    have f7 : (fun a u => a = .int .i64 n) (vs 7) u := hf.1
    clear hf
    simp only [putsA, List.foldl_cons, List.foldl_nil, Act.put, List.setIfInBounds_toArray, List.set_cons_zero, List.set_cons_succ] at hK ⊢
    generalize vs 7 = v7 at f7 hK ⊢
    rw [if_pos (by rfl)]
    subst f7
    go_simp
    exact hK.out _ _ (Below.refl _ _) (by rw [show IntKind.i64.wrap (n + 1) = n + 1 by rw [IntKind.wrap_i64]; omega])
  case s9 =>
    refine StepF.of rfl [(4, some 24), (5, some 25), (8, some 28)] (by kernel_rfl) ?_
    intro vs u hB hf K hK
    have f4 : (fun a u => a = x.val) (vs 4) u := hf.1
    have f5 : (fun a u => a = y.val) (vs 5) u := hf.2.1
    have f8 : (fun a u => a = .int .i64 (n + 1)) (vs 8) u := hf.2.2.1
    clear hf
    simp only [putsA, List.foldl_cons, List.foldl_nil, Act.put, List.setIfInBounds_toArray, List.set_cons_zero, List.set_cons_succ] at hK ⊢
    generalize vs 4 = v4 at f4 hK ⊢
    generalize vs 5 = v5 at f5 hK ⊢
    generalize vs 8 = v8 at f8 hK ⊢
    rw [if_pos (by rfl)]
    subst f4 f5 f8
    go_simp
    exact hK.out _ _ (Below.refl _ _) rfl
  case s10 =>
    refine StepF.of rfl [] (by kernel_rfl) ?_
    intro vs u hB hf K hK
    clear hf
    simp only [putsA, List.foldl_nil, Act.put, List.setIfInBounds_toArray] at hK ⊢
    rw [if_pos (by rfl)]
    go_simp
    exact hK.out _ _ (Below.refl _ _) rfl
  case s11 =>
    refine StepF.of rfl [(0, some 20), (1, some 21), (2, some 22), (3, some 23), (4, some 24), (5, some 25), (6, some 26), (7, some 27), (8, some 28), (9, some 29), (10, some 30)] (by kernel_rfl) ?_
    intro vs u hB hf K hK
    have f0 : (fun a u => a = Value.pointer (some ⟨w.heap.size, 0, none⟩)) (vs 0) u := hf.1
    have f1 : (fun a u => a = Value.map (some b)) (vs 1) u := hf.2.1
    have f2 : (fun a u => a = x.val) (vs 2) u := hf.2.2.1
    have f3 : (fun a u => a = .int .i64 (k : Int)) (vs 3) u := hf.2.2.2.1
    have f4 : (fun a u => a = x.val) (vs 4) u := hf.2.2.2.2.1
    have f5 : (fun a u => a = y.val) (vs 5) u := hf.2.2.2.2.2.1
    have f6 : (fun a u => a = Value.pointer (some ⟨w1.heap.size, 4, none⟩)) (vs 6) u := hf.2.2.2.2.2.2.1
    have f7 : (fun a u => a = .int .i64 n) (vs 7) u := hf.2.2.2.2.2.2.2.1
    have f8 : (fun a u => a = .int .i64 (n + 1)) (vs 8) u := hf.2.2.2.2.2.2.2.2.1
    have f9 : (fun a u => a = (Rw.mk x y (n + 1)).val) (vs 9) u := hf.2.2.2.2.2.2.2.2.2.1
    have f10 : (fun a u => a = Value.pointer (some ⟨w.heap.size, 1, none⟩)) (vs 10) u := hf.2.2.2.2.2.2.2.2.2.2.1
    clear hf
    simp only [putsA, List.foldl_cons, List.foldl_nil, Act.put, List.setIfInBounds_toArray, List.set_cons_zero, List.set_cons_succ] at hK ⊢
    generalize vs 0 = v0 at f0 hK ⊢
    generalize vs 1 = v1 at f1 hK ⊢
    generalize vs 2 = v2 at f2 hK ⊢
    generalize vs 3 = v3 at f3 hK ⊢
    generalize vs 4 = v4 at f4 hK ⊢
    generalize vs 5 = v5 at f5 hK ⊢
    generalize vs 6 = v6 at f6 hK ⊢
    generalize vs 7 = v7 at f7 hK ⊢
    generalize vs 8 = v8 at f8 hK ⊢
    generalize vs 9 = v9 at f9 hK ⊢
    generalize vs 10 = v10 at f10 hK ⊢
    rw [if_pos (by rfl)]
    subst f10 f3
    clear f0 f1 f2 f4 f5 f6 f7 f8 f9
    have hi1 : (k : Int) < 60 := by omega
    have hi0 : (0 : Int) ≤ (k : Int) := by omega
    have hi2 : ¬ ((k : Int) < 0) := by omega
    have hi3 : ¬ ((60 : Int) ≤ (k : Int)) := by omega
    go_simp
    exact hK.out _ _ (Below.refl _ _) rfl
  case last =>
    intro vs u hB hf K hK
    have f0 : (fun a u => a = Value.pointer (some ⟨w.heap.size, 0, none⟩)) (vs 0) u := hf.1
    have f1 : (fun a u => a = Value.map (some b)) (vs 1) u := hf.2.1
    have f2 : (fun a u => a = x.val) (vs 2) u := hf.2.2.1
    have f3 : (fun a u => a = .int .i64 (k : Int)) (vs 3) u := hf.2.2.2.1
    have f4 : (fun a u => a = x.val) (vs 4) u := hf.2.2.2.2.1
    have f5 : (fun a u => a = y.val) (vs 5) u := hf.2.2.2.2.2.1
    have f6 : (fun a u => a = Value.pointer (some ⟨w1.heap.size, 4, none⟩)) (vs 6) u := hf.2.2.2.2.2.2.1
    have f7 : (fun a u => a = .int .i64 n) (vs 7) u := hf.2.2.2.2.2.2.2.1
    have f8 : (fun a u => a = .int .i64 (n + 1)) (vs 8) u := hf.2.2.2.2.2.2.2.2.1
    have f9 : (fun a u => a = (Rw.mk x y (n + 1)).val) (vs 9) u := hf.2.2.2.2.2.2.2.2.2.1
    have f10 : (fun a u => a = Value.pointer (some ⟨w.heap.size, 1, none⟩)) (vs 10) u := hf.2.2.2.2.2.2.2.2.2.2.1
    have f11 : (fun a u => a = Value.pointer (some ⟨w.heap.size, 1 + k * 5, none⟩)) (vs 11) u := hf.2.2.2.2.2.2.2.2.2.2.2.1
    clear hf
    simp only [putsA, List.foldl_cons, List.foldl_nil, Act.put, List.setIfInBounds_toArray, List.set_cons_zero, List.set_cons_succ]
    generalize vs 0 = v0 at f0 ⊢
    generalize vs 1 = v1 at f1 ⊢
    generalize vs 2 = v2 at f2 ⊢
    generalize vs 3 = v3 at f3 ⊢
    generalize vs 4 = v4 at f4 ⊢
    generalize vs 5 = v5 at f5 ⊢
    generalize vs 6 = v6 at f6 ⊢
    generalize vs 7 = v7 at f7 ⊢
    generalize vs 8 = v8 at f8 ⊢
    generalize vs 9 = v9 at f9 ⊢
    generalize vs 10 = v10 at f10 ⊢
    generalize vs 11 = v11 at f11 ⊢
    rw [if_pos (by rfl)]
    subst f9 f11
    clear f0 f1 f2 f3 f4 f5 f6 f7 f8 f10
    have hC' := range_below HDV.out.1 hB
    have cc : ∀ j, j < 301 → ∃ z, u.cell? ⟨w.heap.size, j, none⟩ = some z := fun j hj => by
      have := hC' j _ (List.getElem?_eq_getElem (by rw [hCl]; exact hj))
      rw [Nat.zero_add] at this
      exact ⟨_, this⟩
    obtain ⟨x0, e0⟩ := cc (1 + k * 5) (by omega)
    obtain ⟨x1, e1⟩ := cc (1 + k * 5 + 1) (by omega)
    obtain ⟨x2, e2⟩ := cc (1 + k * 5 + 2) (by omega)
    obtain ⟨x3, e3⟩ := cc (1 + k * 5 + 3) (by omega)
    obtain ⟨x4, e4⟩ := cc (1 + k * 5 + 4) (by omega)
    have ff : ∀ j, u.frozen? ⟨w.heap.size, j, none⟩ = false := fun j => by rw [(bcell hB).2 _ _ (by omega)]; exact HDV.out.2.1 j
    have HBu : Hid (Below W.heap.size W u) := HBV.out.trans (hB.mono zV)
    have HRu : Hid (u.rangeAt w.heap.size 0 C.toList ∧ u.there (w.heap.size + 1 + 1 + 1) 0 301) := ⟨hC', there_below HDV.out.2.2 hB⟩
    clear hB hC' cc
    go_simp
    refine hK.out _ _ ?_
    clear hK e0 e1 e2 e3 e4
    obtain ⟨X, hX⟩ : ∃ X, X = ((((u.setCell ⟨w.heap.size, 1 + k * 5, none⟩ (.int .u8 x.tag)).setCell ⟨w.heap.size, 1 + k * 5 + 1, none⟩ (.int .u64 x.rest)).setCell ⟨w.heap.size, 1 + k * 5 + 2, none⟩ (.int .u8 y.tag)).setCell ⟨w.heap.size, 1 + k * 5 + 3, none⟩ (.int .u64 y.rest)).setCell ⟨w.heap.size, 1 + k * 5 + 4, none⟩ (.int .i64 (n + 1)) := ⟨_, rfl⟩
    rw [← hX]
    obtain ⟨D, hD⟩ : ∃ D, D = (putR C.toList k ⟨x, y, n + 1⟩).toArray := ⟨_, rfl⟩
    have HXr : Hid (X.rangeAt w.heap.size 0 D.toList) := by rw [hX, hD, List.toList_toArray]; exact range_putR HRu.out.1 k ⟨x, y, n + 1⟩ (by rw [hCl]; omega)
    have HGD : Hid (GlC D.toList b (rs.set k ⟨x, y, n + 1⟩)) := by rw [hD, List.toList_toArray]; exact HGC.out.1.turn k HGC.out.2 _
    have hDs : D.size = 301 := by rw [← Array.length_toList]; exact HGD.out.len
    have HDa : Hid (D.all (·.oneCell') = true) := Array.all_eq_true_iff_forall_mem.2 (fun v hv => HGD.out.one v (by simpa using hv))
    have HXt : Hid (X.there (w.heap.size + 1 + 1 + 1) 0 D.size) := by
      rw [hDs, hX]
      refine there_same ?_ HRu.out.2
      have hs : ∀ (q : World) (o : Nat) (v : Value), (q.setCell ⟨w.heap.size, o, none⟩ v).heap[w.heap.size + 1 + 1 + 1]? = q.heap[w.heap.size + 1 + 1 + 1]? := fun q o v => RowKit.Below.heap_setCell _ _ _ _ (show w.heap.size + 1 + 1 + 1 ≠ w.heap.size by omega)
      rw [hs, hs, hs, hs, hs]
    have HXb : Hid (Below w.heap.size w X) := by
      rw [hX]
      show Below _ _ _
      have b0 : Below w.heap.size w u := HD.out.bel.trans (HBu.out.mono (by omega))
      repeat (first | exact b0 | refine Below.setCell ?_ (by simp) _)
    clear hX hD ff
    go_wp2_with (first | (refine wpList_load_mid rfl 79 _ rfl w.heap.size 0 rfl D.toList _ HXr.out Try.underlying79 rfl (by rw [infoGl, Array.length_toList, hDs]) ?_; rw [Array.toArray_toList]) | (refine wpList_store_mid rfl 79 _ _ rfl (w.heap.size + 1 + 1 + 1) 0 D rfl rfl HXt.out (by rw [infoGl, hDs]) HDa.out ?_))
    refine bodyPost_ret (v := .tuple #[.agg D, .int .i64 0]) ?_ rfl ⟨D, rfl, HGD.out, below_setCells HXb.out (by omega) _ _⟩
    rw [results_cell_tmp rfl]
    simp only [Array.getD_eq_getD_getElem?, List.getElem?_toArray, List.getElem?_cons_succ, List.getElem?_cons_zero, Option.getD_some, asAddr, Sem.run_pure, Result.andThen_ok]
    rw [ldSet _ _ _ hDs (by have := HXt.out; rw [hDs] at this; exact this)]
    rfl
set_option maxRecDepth 100000 in
set_option maxHeartbeats 4000000 in
theorem define_full (C : Array Value) (b : Nat) (rs : List Rw) (x y : Wd) (w : World) (hC : GlC C.toList b rs) (hM : MapW w b (rs.map Rw.name)) (hN : (rs.map Rw.name).Nodup) (hx : x.fit) (hm : x ∉ rs.map Rw.name) (hl : rs.length = 60) :
    Calls Try.prog 39 #[.agg C, x.val, y.val] w fun e w' => e = .returned (.tuple #[.agg Try.zeroCells79, .int .i64 2]) ∧ Below w.heap.size w w' := by
  have hCs : C.size = 301 := by rw [← Array.length_toList]; exact hC.len
  obtain ⟨W, hW⟩ : ∃ W, W = (((w.alloc (.cells C 79)).alloc (.cells #[.int .u8 x.tag, .int .u64 x.rest] 74)).alloc (.cells #[.int .u8 y.tag, .int .u64 y.rest] 74)).alloc (.cells Try.zeroCells79 79) := ⟨_, rfl⟩
  have HW : Hid (W = (((w.alloc (.cells C 79)).alloc (.cells #[.int .u8 x.tag, .int .u64 x.rest] 74)).alloc (.cells #[.int .u8 y.tag, .int .u64 y.rest] 74)).alloc (.cells Try.zeroCells79 79)) := hW
  have HD : Hid (DfW w W C b rs x y) := by rw [hW]; exact dfW_of w C b rs x y hC hM hN
  have zW : W.heap.size = w.heap.size + 4 := HD.out.size
  have hbl : b < w.heap.size := hM.lt
  have HF : Hid (Calls Try.prog 46 #[.pointer (some ⟨w.heap.size, 0, none⟩), x.val] W fun e w' => e = .returned (.tuple #[rwZ.val, .bool false]) ∧ Below W.heap.size W w') := HD.out.find rwZ false (Or.inr ⟨hx, hm, rfl, rfl⟩)
  have HS : Hid (∀ u, Below W.heap.size W u → Calls Try.prog 66 #[.pointer (some ⟨w.heap.size, 0, none⟩)] u fun e w' => e = .returned (.int .i64 60) ∧ Below u.heap.size u w') := fun u hu => by
    refine (size_g _ b rs u (HD.out.gl.below hu)).mono ?_
    rintro e w' ⟨rfl, rfl⟩
    exact ⟨by rw [hl]; rfl, Below.refl _ _⟩
  have hbz := buildZ
  clear hx hm hl hC hM hN hW
  go_enter Try.func39, Try.ntmps39
  go_wp2_with fail
  rw [← HW.out]
  refine HF.out.mono ?_
  rintro e w1 ⟨rfl, hb1⟩
  have BX1 : Hid (Below W.heap.size W w1) := hb1
  have z1 : w.heap.size + 4 ≤ w1.heap.size := by have := hb1.size; omega
  clear hb1 HF
  go_wp2_with fail
  refine (HS.out _ (by repeat (first | exact BX1.out | refine Below.alloc ?_ (by omega) _))).mono ?_
  rintro e w2 ⟨rfl, hb2⟩
  have BX2 : Hid (Below W.heap.size W w2) := Below.trans (by repeat (first | exact BX1.out | refine Below.alloc ?_ (by omega) _)) (hb2.mono (by simp; omega))
  have HTu : Hid (w2.there (w.heap.size + 1 + 1 + 1) 0 Try.zeroCells79.size) := by rw [show Try.zeroCells79.size = 301 by simp]; exact there_below HD.out.there BX2.out
  clear hb2 BX1
  go_wp2_with (refine wpList_store_mid rfl 79 _ _ rfl (w.heap.size + 1 + 1 + 1) 0 Try.zeroCells79 rfl rfl HTu.out (by rw [infoGl]; simp) zc_all ?_)
  refine bodyPost_ret (v := .tuple #[.agg Try.zeroCells79, .int .i64 2]) ?_ rfl ⟨rfl, ?_⟩
  · rw [results_cell_tmp rfl]
    simp only [Array.getD_eq_getD_getElem?, List.getElem?_toArray, List.getElem?_cons_succ, List.getElem?_cons_zero, Option.getD_some, asAddr, Sem.run_pure, Result.andThen_ok]
    rw [ldSet _ _ _ (by simp) (by have := HTu.out; rw [show Try.zeroCells79.size = 301 by simp] at this; exact this)]
    rfl
  · refine below_setCells ?_ (by omega) _ _
    exact Below.trans HD.out.bel (BX2.out.mono (by omega))
set_option maxRecDepth 100000 in
set_option maxHeartbeats 4000000 in
theorem define_more (C : Array Value) (b : Nat) (rs : List Rw) (x y : Wd) (w : World) (hC : GlC C.toList b rs) (hM : MapW w b (rs.map Rw.name)) (hN : (rs.map Rw.name).Nodup) (hx : x.fit) (hm : x ∉ rs.map Rw.name) (hl : rs.length < 60) :
    Calls Try.prog 39 #[.agg C, x.val, y.val] w fun e w' => ∃ (D : Array Value) (d : Nat), e = .returned (.tuple #[.agg D, .int .i64 0]) ∧ GlC D.toList d (rs ++ [Rw.mk x y 1]) ∧ MapW w' d ((rs ++ [Rw.mk x y 1]).map Rw.name) ∧ Below w.heap.size w w' := by
  have hCs : C.size = 301 := by rw [← Array.length_toList]; exact hC.len
  obtain ⟨W, hW⟩ : ∃ W, W = (((w.alloc (.cells C 79)).alloc (.cells #[.int .u8 x.tag, .int .u64 x.rest] 74)).alloc (.cells #[.int .u8 y.tag, .int .u64 y.rest] 74)).alloc (.cells Try.zeroCells79 79) := ⟨_, rfl⟩
  have HW : Hid (W = (((w.alloc (.cells C 79)).alloc (.cells #[.int .u8 x.tag, .int .u64 x.rest] 74)).alloc (.cells #[.int .u8 y.tag, .int .u64 y.rest] 74)).alloc (.cells Try.zeroCells79 79)) := hW
  have HD : Hid (DfW w W C b rs x y) := by rw [hW]; exact dfW_of w C b rs x y hC hM hN
  have zW : W.heap.size = w.heap.size + 4 := HD.out.size
  have hbl : b < w.heap.size := hM.lt
  have HF : Hid (Calls Try.prog 46 #[.pointer (some ⟨w.heap.size, 0, none⟩), x.val] W fun e w' => e = .returned (.tuple #[rwZ.val, .bool false]) ∧ Below W.heap.size W w') := HD.out.find rwZ false (Or.inr ⟨hx, hm, rfl, rfl⟩)
  obtain ⟨n, hn⟩ : ∃ n, n = rs.length := ⟨_, rfl⟩
  have hn60 : ((n : Int) == 60) = false := by simp; omega
  have HS : Hid (∀ u, Below W.heap.size W u → Calls Try.prog 66 #[.pointer (some ⟨w.heap.size, 0, none⟩)] u fun e w' => e = .returned (.int .i64 (n : Int)) ∧ Below u.heap.size u w') := fun u hu => by
    refine (size_g _ b rs u (HD.out.gl.below hu)).mono ?_
    rintro e w' ⟨rfl, rfl⟩
    exact ⟨by rw [hn], Below.refl _ _⟩
  have HCl : Hid (∀ u, Below W.heap.size W u → Calls Try.prog 67 #[.map (some b)] u fun e w' => e = .returned (.map (some u.heap.size)) ∧ MapW w' u.heap.size (rs.map Rw.name) ∧ w'.heap.size = u.heap.size + 1 ∧ Below u.heap.size u w') := fun u hu => mapClone_any b _ u (HD.out.gl.below hu).map
  have HAd : Hid (∀ u d, GlAt u w.heap.size d rs → Calls Try.prog 68 #[.pointer (some ⟨w.heap.size, 0, none⟩), (Rw.mk x y 1).val] u fun e w' => e = .returned (.tuple #[]) ∧ GlAt w' w.heap.size d (rs ++ [Rw.mk x y 1]) ∧ (∀ B, B ≤ w.heap.size → B ≤ d → Below B u w') ∧ (∀ i, i < u.heap.size → i ≠ w.heap.size → i ≠ d → w'.heap[i]? = u.heap[i]?)) := fun u d hu => add_all _ d rs ⟨x, y, 1⟩ u hu hx hm hl
  have HGC : Hid (GlC C.toList b rs ∧ (rs.map Rw.name).Nodup) := ⟨hC, hN⟩
  clear hx hm hl hC hM hN hW hn
  go_enter Try.func39, Try.ntmps39
  go_wp2_with fail
  rw [← HW.out]
  refine HF.out.mono ?_
  rintro e w1 ⟨rfl, hb1⟩
  have BX1 : Hid (Below W.heap.size W w1) := hb1
  have z1 : w.heap.size + 4 ≤ w1.heap.size := by have := hb1.size; omega
  clear hb1 HF
  go_wp2_with fail
  refine (HS.out _ (by repeat (first | exact BX1.out | refine Below.alloc ?_ (by omega) _))).mono ?_
  rintro e w2 ⟨rfl, hb2⟩
  have BX2 : Hid (Below W.heap.size W w2) := Below.trans (by repeat (first | exact BX1.out | refine Below.alloc ?_ (by omega) _)) (hb2.mono (by simp; omega))
  have z2 : w.heap.size + 4 ≤ w2.heap.size := by have := BX2.out.size; omega
  have c0 := (HD.out.gl.below BX2.out).hd
  clear hb2 BX1 HS
  go_wp2_with fail
  refine (HCl.out _ BX2.out).mono ?_
  rintro e w3 ⟨rfl, hm3, hs3, hb3⟩
  have BX3 : Hid (Below W.heap.size W w3) := BX2.out.trans (hb3.mono BX2.out.size)
  have HM3 : Hid (MapW w3 w2.heap.size (rs.map Rw.name)) := hm3
  have hd3 := (HD.out.gl.below BX3.out).hd
  have hf3 := (HD.out.gl.below BX3.out).free
  have x0 := cell_keep BX3.out (HD.out.xs 0 _ rfl)
  have x1 := cell_keep BX3.out (HD.out.xs 1 _ rfl)
  have y0 := cell_keep BX3.out (HD.out.ys 0 _ rfl)
  have y1 := cell_keep BX3.out (HD.out.ys 1 _ rfl)
  clear hm3 hb3 c0 HCl
  go_wp2_with fail
  obtain ⟨X, hX⟩ : ∃ X, X = w3.setCell ⟨w.heap.size, 0, none⟩ (.map (some w2.heap.size)) := ⟨_, rfl⟩
  rw [← hX]
  have HGX : Hid (GlAt X w.heap.size w2.heap.size rs) := by
    rw [hX]
    refine ⟨by omega, HM3.out.keep (RowKit.Below.heap_setCell _ _ _ _ (show w2.heap.size ≠ w.heap.size by omega)), HGC.out.2, fun j => by rw [World.frozen?_setCell]; exact hf3 j, C.toList.set 0 (.map (some w2.heap.size)), range_set (range_below HD.out.rng BX3.out) (by rw [HGC.out.1.len]; omega), HGC.out.1.remap _⟩
  have HXi : Hid (∀ i, i ≠ w.heap.size → X.heap[i]? = w3.heap[i]?) := fun i hi => by rw [hX]; exact RowKit.Below.heap_setCell _ _ _ _ hi
  have zX : X.heap.size = w3.heap.size := by rw [hX]; simp
  have HXb : Hid (Below w.heap.size w X) := by rw [hX]; exact (HD.out.bel.trans (BX3.out.mono (by omega))).setCell (Nat.le_refl _) _
  clear hX hd3 hf3 x0 x1 y0 y1
  refine (HAd.out X _ HGX.out).mono ?_
  rintro e w4 ⟨rfl, hg4, hb4, hi4⟩
  have HT4 : Hid (w4.there (w.heap.size + 1 + 1 + 1) 0 301) := by
    refine there_same ?_ (there_below HD.out.there BX3.out)
    rw [hi4 _ (by omega) (by omega) (by omega), HXi.out _ (by omega)]
  have HB4 : Hid (Below w.heap.size w w4) := HXb.out.trans (hb4 _ (Nat.le_refl _) (by omega))
  have HM4 : Hid (MapW w4 w2.heap.size ((rs ++ [Rw.mk x y 1]).map Rw.name)) := hg4.map
  obtain ⟨D0, hr4, hgl⟩ := hg4.cells
  obtain ⟨D, hD⟩ : ∃ D, D = D0.toArray := ⟨_, rfl⟩
  have hD' : D0 = D.toList := by rw [hD]
  rw [hD'] at hr4 hgl
  have HR4 : Hid (w4.rangeAt w.heap.size 0 D.toList) := hr4
  have HGD : Hid (GlC D.toList w2.heap.size (rs ++ [Rw.mk x y 1])) := hgl
  have hDs : D.size = 301 := by rw [← Array.length_toList]; exact hgl.len
  have HDa : Hid (D.all (·.oneCell') = true) := Array.all_eq_true_iff_forall_mem.2 (fun v hv => HGD.out.one v (by simpa using hv))
  have HTD : Hid (w4.there (w.heap.size + 1 + 1 + 1) 0 D.size) := by rw [hDs]; exact HT4.out
  clear hg4 hb4 hi4 hr4 hgl hD hD' HGX HXi HXb HAd
  go_wp2_with (first | (refine wpList_load_mid rfl 79 _ rfl w.heap.size 0 rfl D.toList _ HR4.out Try.underlying79 rfl (by rw [infoGl, Array.length_toList, hDs]) ?_; rw [Array.toArray_toList]) | (refine wpList_store_mid rfl 79 _ _ rfl (w.heap.size + 1 + 1 + 1) 0 D rfl rfl HTD.out (by rw [infoGl, hDs]) HDa.out ?_))
  refine bodyPost_ret (v := .tuple #[.agg D, .int .i64 0]) ?_ rfl ⟨D, w2.heap.size, rfl, HGD.out, HM4.out.keep (heap_setCells (by omega) _ _ _), below_setCells HB4.out (by omega) _ _⟩
  rw [results_cell_tmp rfl]
  simp only [Array.getD_eq_getD_getElem?, List.getElem?_toArray, List.getElem?_cons_succ, List.getElem?_cons_zero, Option.getD_some, asAddr, Sem.run_pure, Result.andThen_ok]
  rw [ldSet _ _ _ hDs HT4.out]
  rfl
end Go.Proofs.Ytgfienijabkpjaa
/-
  A global of a name put: in plain words.
-/
namespace Go.Proofs.Ytgfienijabkpjaa
open Go.RowKit Go.Extern.Stop Go.Stop Go.Extern Num Go.Lib

/-- The code of a put. -/
def putC (l : List Glb) (s : ByteArray) : Int := match atG l s with
  | none => if 60 ≤ l.length then 2 else 0
  | some k => if 99999 ≤ (l.getD k gZ).ver then 3 else 0
/-- The globals behind a put. -/
def putL (l : List Glb) (s : ByteArray) (v : Vlu) : List Glb := match atG l s with
  | none => if 60 ≤ l.length then [] else l ++ [⟨s, v, 1⟩]
  | some k => if 99999 ≤ (l.getD k gZ).ver then [] else (l.take k ++ [⟨(l.getD k gZ).name, v, (l.getD k gZ).ver + 1⟩]) ++ l.drop (k + 1)
theorem put_cells (l : List Glb) (k : Nat) (hk : k < l.length) (v : Vlu) (n : Int) :
    ((((cellsG l).set (k * 5 + 1) (.int .i64 v.kind)).set (k * 5 + 2) (.int .i64 v.num)).set (k * 5 + 3) (.string v.name)).set (k * 5 + 4) (.int .i64 n) = cellsG ((l.take k ++ [⟨(l[k]'hk).name, v, n⟩]) ++ l.drop (k + 1)) := by
  have e := setG (l.take k) (l.drop (k + 1)) (l[k]'hk) ⟨(l[k]'hk).name, v, n⟩ k (by rw [List.length_take]; omega)
  have el : l.take k ++ (l[k]'hk) :: l.drop (k + 1) = l := by rw [← List.drop_eq_getElem_cons hk, List.take_append_drop]
  rw [el] at e
  have e0 : (cellsG l).set (k * 5) (.string (l[k]'hk).name) = cellsG l := by
    have h0 := (cellsG_at l k hk).1
    obtain ⟨hj, he⟩ := List.getElem?_eq_some_iff.1 h0
    rw [← he]; exact List.set_getElem_self hj
  rw [e0] at e
  exact e
theorem put_len (l : List Glb) (k : Nat) (hk : k < l.length) (t : Glb) : ((l.take k ++ [t]) ++ l.drop (k + 1)).length = l.length := by
  simp; omega
theorem putC_none {l : List Glb} {s : ByteArray} (h : atG l s = none) : putC l s = if 60 ≤ l.length then 2 else 0 := by unfold putC; rw [h]
theorem putL_none {l : List Glb} {s : ByteArray} {v : Vlu} (h : atG l s = none) : putL l s v = if 60 ≤ l.length then [] else l ++ [⟨s, v, 1⟩] := by unfold putL; rw [h]
theorem putC_some {l : List Glb} {s : ByteArray} {k : Nat} (h : atG l s = some k) (hk : k < l.length) : putC l s = if 99999 ≤ (l[k]'hk).ver then 3 else 0 := by unfold putC; rw [h]; simp [List.getD, hk]
theorem putL_some {l : List Glb} {s : ByteArray} {v : Vlu} {k : Nat} (h : atG l s = some k) (hk : k < l.length) : putL l s v = if 99999 ≤ (l[k]'hk).ver then [] else (l.take k ++ [⟨(l[k]'hk).name, v, (l[k]'hk).ver + 1⟩]) ++ l.drop (k + 1) := by unfold putL; rw [h]; simp [List.getD, hk]
end Go.Proofs.Ytgfienijabkpjaa
/-
  The program's define and set at globals, a name and a value without fault; nothing that was there is turned.
-/
namespace Go.Proofs.Ytgfienijabkpjaa
open Go.RowKit Go.Extern.Stop Go.Stop Go.Extern Num Go.Lib

theorem ask_fine2 {l : List Glb} {s : ByteArray} (h : askG l s = 0) : globFault l = 0 ∧ symL s.data.toList = true ∧ l.length ≤ 60 ∧ GFine l l.length := by
  unfold askG at h
  by_cases h0 : globFault l = 0
  · rw [if_neg (by simpa using h0)] at h
    obtain ⟨h1, h2⟩ := GFine.of h0
    refine ⟨h0, ?_, h1, h2⟩
    unfold symC at h
    by_cases hs : symL s.data.toList = true
    · exact hs
    · rw [if_neg hs] at h; simp at h
  · rw [if_pos h0] at h; exact absurd h h0
/-- What define and set answer. -/
def AnsDf (w : World) (m : List Glb) (c : Int) (e : Ending) (w' : World) : Prop :=
  ∃ D : Array Value, e = .returned (.tuple #[.agg D, .int .i64 c]) ∧ D.size = 301 ∧ D.all (·.oneCell') = true ∧ (c = 0 → ∃ d, GlC D.toList d (m.map rwOf) ∧ MapW w' d ((m.map rwOf).map Rw.name) ∧ ((m.map rwOf).map Rw.name).Nodup) ∧ Below w.heap.size w w'
theorem GlC.arr {D : Array Value} {b : Nat} {rs : List Rw} (h : GlC D.toList b rs) : D.size = 301 ∧ D.all (·.oneCell') = true :=
  ⟨by rw [← Array.length_toList]; exact h.len, Array.all_eq_true_iff_forall_mem.2 (fun v hv => h.one v (by simpa using hv))⟩
theorem map_ne_there {w : World} {d b : Nat} {ws : List Wd} (h : MapW w d ws) (ht : w.there b 0 301) : d ≠ b := by
  rintro rfl
  obtain ⟨es, cl, h1, _⟩ := h
  have := (ht 0 (by omega)).1
  unfold World.cell? at this
  simp only [h1] at this
  simp at this
theorem set_take {α : Type} (l : List α) (k : Nat) (hk : k < l.length) (a : α) : l.set k a = (l.take k ++ [a]) ++ l.drop (k + 1) := by
  rw [List.set_eq_take_append_cons_drop, if_pos hk]; simp
set_option maxHeartbeats 1000000 in
theorem define_any (C : Array Value) (b : Nat) (l : List Glb) (s : ByteArray) (v : Vlu) (w : World) (hC : GlC C.toList b (l.map rwOf)) (hM : MapW w b ((l.map rwOf).map Rw.name)) (hN : ((l.map rwOf).map Rw.name).Nodup) (hf : GFine l l.length) (hs : symL s.data.toList = true) :
    Calls Try.prog 39 #[.agg C, (nW s).val, (wdOf v).val] w fun e w' => AnsDf w (putL l s v) (putC l s) e w' := by
  have hl60 : l.length ≤ 60 := by have := hC.max; simpa using this
  cases hat : atG l s with
  | none =>
    have hm := names_miss l l.length s hf (Nat.le_refl _) hs (by rw [List.take_length]; exact hat)
    rw [List.take_length] at hm
    rw [putC_none hat, putL_none hat]
    by_cases h60 : 60 ≤ l.length
    · rw [if_pos h60, if_pos h60]
      refine (define_full C b (l.map rwOf) (nW s) (wdOf v) w hC hM hN (nW_fit hs) hm (by rw [List.length_map]; omega)).mono ?_
      rintro e w' ⟨rfl, hb⟩
      exact ⟨Try.zeroCells79, rfl, by simp, zc_all, fun e => absurd e (by decide), hb⟩
    · rw [if_neg h60, if_neg h60]
      refine (define_more C b (l.map rwOf) (nW s) (wdOf v) w hC hM hN (nW_fit hs) hm (by rw [List.length_map]; omega)).mono ?_
      rintro e w' ⟨D, d, rfl, hg, hmp, hb⟩
      have e1 : (l ++ [Glb.mk s v 1]).map rwOf = l.map rwOf ++ [Rw.mk (nW s) (wdOf v) 1] := by rw [List.map_append]; rfl
      refine ⟨D, rfl, hg.arr.1, hg.arr.2, fun _ => ⟨d, by rw [e1]; exact hg, by rw [e1]; exact hmp, ?_⟩, hb⟩
      rw [e1, List.map_append, List.nodup_append]
      refine ⟨hN, by simp, ?_⟩
      intro a ha c hc
      simp at hc
      subst hc
      rintro rfl
      exact hm ha
  | some k =>
    obtain ⟨hk, hnm, _⟩ := atG_some hat
    have hkr : k < (l.map rwOf).length := by simpa using hk
    have er : (l.map rwOf)[k]'hkr = rwOf (l[k]'hk) := List.getElem_map _
    have en : nW s = (rwOf (l[k]'hk)).name := by rw [← hnm]; rfl
    have hv := hf.ver k hk hk
    rw [putC_some hat hk, putL_some hat hk]
    by_cases h9 : 99999 ≤ (l[k]'hk).ver
    · rw [if_pos h9, if_pos h9]
      refine (define_last C b (l.map rwOf) (nW s) (wdOf v) (rwOf (l[k]'hk)) w hC hM hN ⟨k, hkr, er.symm, en⟩ (show (l[k]'hk).ver = 99999 by omega)).mono ?_
      rintro e w' ⟨rfl, hb⟩
      exact ⟨Try.zeroCells79, rfl, by simp, zc_all, fun e => absurd e (by decide), hb⟩
    · rw [if_neg h9, if_neg h9]
      refine (define_hit C b k (l.map rwOf) (nW s) (wdOf v) (rwOf (l[k]'hk)) w hC hM hN hkr er.symm en (show 0 ≤ (l[k]'hk).ver by omega) (show (l[k]'hk).ver < 99999 by omega)).mono ?_
      rintro e w' ⟨D, rfl, hg, hb⟩
      have e1 : ((l.take k ++ [Glb.mk (l[k]'hk).name v ((l[k]'hk).ver + 1)]) ++ l.drop (k + 1)).map rwOf = (l.map rwOf).set k ⟨nW s, wdOf v, (l[k]'hk).ver + 1⟩ := by
        rw [set_take _ _ hkr, List.map_append, List.map_append, List.map_take, List.map_drop, ← hnm]; rfl
      have e2 : ((l.map rwOf).set k ⟨nW s, wdOf v, (l[k]'hk).ver + 1⟩).map Rw.name = (l.map rwOf).map Rw.name := by
        rw [List.map_set]
        have e3 : ((l.map rwOf).map Rw.name)[k]'(by simpa using hk) = nW s := by rw [List.getElem_map, er, en]
        show ((l.map rwOf).map Rw.name).set k (nW s) = _
        rw [← e3]; exact List.set_getElem_self _
      refine ⟨D, rfl, hg.arr.1, hg.arr.2, fun _ => ⟨b, by rw [e1]; exact hg, by rw [e1, e2]; exact hM.below hb, by rw [e1, e2]; exact hN⟩, hb⟩
set_option maxRecDepth 100000 in
set_option maxHeartbeats 4000000 in
theorem set_none (C : Array Value) (b : Nat) (rs : List Rw) (x y : Wd) (w : World) (hC : GlC C.toList b rs) (hM : MapW w b (rs.map Rw.name)) (hN : (rs.map Rw.name).Nodup) (hx : x.fit) (hm : x ∉ rs.map Rw.name) :
    Calls Try.prog 40 #[.agg C, x.val, y.val] w fun e w' => e = .returned (.tuple #[.agg Try.zeroCells79, .int .i64 4]) ∧ Below w.heap.size w w' := by
  have hCs : C.size = 301 := by rw [← Array.length_toList]; exact hC.len
  obtain ⟨W, hW⟩ : ∃ W, W = (((w.alloc (.cells C 79)).alloc (.cells #[.int .u8 x.tag, .int .u64 x.rest] 74)).alloc (.cells #[.int .u8 y.tag, .int .u64 y.rest] 74)).alloc (.cells Try.zeroCells79 79) := ⟨_, rfl⟩
  have HW : Hid (W = (((w.alloc (.cells C 79)).alloc (.cells #[.int .u8 x.tag, .int .u64 x.rest] 74)).alloc (.cells #[.int .u8 y.tag, .int .u64 y.rest] 74)).alloc (.cells Try.zeroCells79 79)) := hW
  have HD : Hid (DfW w W C b rs x y) := by rw [hW]; exact dfW_of w C b rs x y hC hM hN
  have zW : W.heap.size = w.heap.size + 4 := HD.out.size
  have HF : Hid (Calls Try.prog 46 #[.pointer (some ⟨w.heap.size, 0, none⟩), x.val] W fun e w' => e = .returned (.tuple #[rwZ.val, .bool false]) ∧ Below W.heap.size W w') := HD.out.find rwZ false (Or.inr ⟨hx, hm, rfl, rfl⟩)
  have hbz := buildZ
  clear hx hm hC hM hN hW
  go_enter Try.func40, Try.ntmps40
  go_wp2_with fail
  rw [← HW.out]
  refine HF.out.mono ?_
  rintro e w1 ⟨rfl, hb1⟩
  have BX1 : Hid (Below W.heap.size W w1) := hb1
  have z1 : w.heap.size + 4 ≤ w1.heap.size := by have := hb1.size; omega
  have HTu : Hid (∀ u, Below W.heap.size W u → u.there (w.heap.size + 1 + 1 + 1) 0 301) := fun u hu => there_below HD.out.there hu
  clear hb1 HF
  go_wp2_with (refine wpList_store_mid rfl 79 _ _ rfl (w.heap.size + 1 + 1 + 1) 0 Try.zeroCells79 rfl rfl (by rw [show Try.zeroCells79.size = 301 by simp]; exact HTu.out _ (by repeat (first | exact BX1.out | refine Below.alloc ?_ (by omega) _))) (by rw [infoGl]; simp) zc_all ?_)
  refine bodyPost_ret (v := .tuple #[.agg Try.zeroCells79, .int .i64 4]) ?_ rfl ⟨rfl, ?_⟩
  · rw [results_cell_tmp rfl]
    simp only [Array.getD_eq_getD_getElem?, List.getElem?_toArray, List.getElem?_cons_succ, List.getElem?_cons_zero, Option.getD_some, asAddr, Sem.run_pure, Result.andThen_ok]
    rw [ldSet _ _ _ (by simp) (HTu.out _ (by repeat (first | exact BX1.out | refine Below.alloc ?_ (by omega) _)))]
    rfl
  · refine below_setCells ?_ (by omega) _ _
    refine Below.trans HD.out.bel (Below.mono (B := W.heap.size) ?_ (by omega))
    repeat (first | exact BX1.out | refine Below.alloc ?_ (by omega) _)
set_option maxRecDepth 100000 in
set_option maxHeartbeats 4000000 in
theorem set_some (C : Array Value) (b : Nat) (rs : List Rw) (x y : Wd) (r : Rw) (m : List Glb) (c : Int) (w : World) (hC : GlC C.toList b rs) (hM : MapW w b (rs.map Rw.name)) (hN : (rs.map Rw.name).Nodup) (hr : ∃ k, ∃ hk : k < rs.length, r = rs[k]'hk ∧ x = r.name)
    (hdf : ∀ u, Below w.heap.size w u → Calls Try.prog 39 #[.agg C, x.val, y.val] u fun e w' => AnsDf u m c e w') :
    Calls Try.prog 40 #[.agg C, x.val, y.val] w fun e w' => AnsDf w m c e w' := by
  have hCs : C.size = 301 := by rw [← Array.length_toList]; exact hC.len
  obtain ⟨W, hW⟩ : ∃ W, W = (((w.alloc (.cells C 79)).alloc (.cells #[.int .u8 x.tag, .int .u64 x.rest] 74)).alloc (.cells #[.int .u8 y.tag, .int .u64 y.rest] 74)).alloc (.cells Try.zeroCells79 79) := ⟨_, rfl⟩
  have HW : Hid (W = (((w.alloc (.cells C 79)).alloc (.cells #[.int .u8 x.tag, .int .u64 x.rest] 74)).alloc (.cells #[.int .u8 y.tag, .int .u64 y.rest] 74)).alloc (.cells Try.zeroCells79 79)) := hW
  have HD : Hid (DfW w W C b rs x y) := by rw [hW]; exact dfW_of w C b rs x y hC hM hN
  have zW : W.heap.size = w.heap.size + 4 := HD.out.size
  have HF : Hid (Calls Try.prog 46 #[.pointer (some ⟨w.heap.size, 0, none⟩), x.val] W fun e w' => e = .returned (.tuple #[r.val, .bool true]) ∧ Below W.heap.size W w') := by
    obtain ⟨k, hk, h1, h2⟩ := hr
    exact HD.out.find r true (Or.inl ⟨k, hk, h1, h2, rfl⟩)
  have HDf : Hid (∀ u, Below W.heap.size W u → Calls Try.prog 39 #[.agg C, x.val, y.val] u fun e w' => AnsDf u m c e w') := fun u hu => hdf u (HD.out.bel.trans (hu.mono (by omega)))
  clear hr hC hM hN hW hdf
  go_enter Try.func40, Try.ntmps40
  go_wp2_with fail
  rw [← HW.out]
  refine HF.out.mono ?_
  rintro e w1 ⟨rfl, hb1⟩
  have z1 : w.heap.size + 4 ≤ w1.heap.size := by have := hb1.size; omega
  obtain ⟨V, hV⟩ : ∃ V, V = w1.alloc (.cells #[.int .u8 r.name.tag, .int .u64 r.name.rest, .int .u8 r.value.tag, .int .u64 r.value.rest, .int .i64 r.ver] 76) := ⟨_, rfl⟩
  have HV : Hid (V = w1.alloc (.cells #[.int .u8 r.name.tag, .int .u64 r.name.rest, .int .u8 r.value.tag, .int .u64 r.value.rest, .int .i64 r.ver] 76)) := hV
  have BXV : Hid (Below W.heap.size W V) := by rw [hV]; exact hb1.alloc hb1.size _
  have HRV : Hid ((w1.alloc (.cells #[.int .u8 r.name.tag, .int .u64 r.name.rest, .int .u8 r.value.tag, .int .u64 r.value.rest, .int .i64 r.ver] 76)).rangeAt w.heap.size 0 C.toList) := by rw [← hV]; exact range_below HD.out.rng BXV.out
  have x0 := cell_keep hb1 (HD.out.xs 0 _ rfl)
  have x1 := cell_keep hb1 (HD.out.xs 1 _ rfl)
  have y0 := cell_keep hb1 (HD.out.ys 0 _ rfl)
  have y1 := cell_keep hb1 (HD.out.ys 1 _ rfl)
  have z1a : w.heap.size + 1 < w1.heap.size := by omega
  have z1b : w.heap.size + 1 + 1 < w1.heap.size := by omega
  clear hb1 HF hV
  go_wp2_with (refine wpList_load_mid rfl 79 _ rfl w.heap.size 0 rfl C.toList _ HRV.out Try.underlying79 rfl (by rw [infoGl, Array.length_toList, hCs]) ?_; rw [Array.toArray_toList])
  rw [← HV.out]
  refine (HDf.out _ BXV.out).mono ?_
  rintro e w2 ⟨D, rfl, hDs, hDa, hD0, hb2⟩
  have BX2 : Hid (Below W.heap.size W w2) := BXV.out.trans (hb2.mono BXV.out.size)
  have HD0 : Hid (c = 0 → ∃ d, GlC D.toList d (m.map rwOf) ∧ MapW w2 d ((m.map rwOf).map Rw.name) ∧ ((m.map rwOf).map Rw.name).Nodup) := hD0
  have HDa : Hid (D.all (·.oneCell') = true) := hDa
  have HT2 : Hid (w2.there (w.heap.size + 1 + 1 + 1) 0 301) := there_below HD.out.there BX2.out
  have HTD : Hid (w2.there (w.heap.size + 1 + 1 + 1) 0 D.size) := by rw [hDs]; exact HT2.out
  clear hb2 hD0 hDa x0 x1 y0 y1 HRV HV
  go_wp2_with (refine wpList_store_mid rfl 79 _ _ rfl (w.heap.size + 1 + 1 + 1) 0 D rfl rfl HTD.out (by rw [infoGl, hDs]) HDa.out ?_)
  refine bodyPost_ret (v := .tuple #[.agg D, .int .i64 c]) ?_ rfl ⟨D, rfl, hDs, HDa.out, fun e0 => ?_, ?_⟩
  · rw [results_cell_tmp rfl]
    simp only [Array.getD_eq_getD_getElem?, List.getElem?_toArray, List.getElem?_cons_succ, List.getElem?_cons_zero, Option.getD_some, asAddr, Sem.run_pure, Result.andThen_ok]
    rw [ldSet _ _ _ hDs HT2.out]
    rfl
  · obtain ⟨d, h1, h2, h3⟩ := HD0.out e0
    exact ⟨d, h1, h2.keep (heap_setCells (map_ne_there h2 HT2.out) _ _ _), h3⟩
  · exact below_setCells (HD.out.bel.trans (BX2.out.mono (by omega))) (by omega) _ _
def setC (l : List Glb) (s : ByteArray) : Int := if atG l s = none then 4 else putC l s
theorem set_any (C : Array Value) (b : Nat) (l : List Glb) (s : ByteArray) (v : Vlu) (w : World) (hC : GlC C.toList b (l.map rwOf)) (hM : MapW w b ((l.map rwOf).map Rw.name)) (hN : ((l.map rwOf).map Rw.name).Nodup) (hf : GFine l l.length) (hs : symL s.data.toList = true) :
    Calls Try.prog 40 #[.agg C, (nW s).val, (wdOf v).val] w fun e w' => AnsDf w (putL l s v) (setC l s) e w' := by
  cases hat : atG l s with
  | none =>
    have hm := names_miss l l.length s hf (Nat.le_refl _) hs (by rw [List.take_length]; exact hat)
    rw [List.take_length] at hm
    have e : setC l s = 4 := if_pos hat
    rw [e]
    refine (set_none C b (l.map rwOf) (nW s) (wdOf v) w hC hM hN (nW_fit hs) hm).mono ?_
    rintro e w' ⟨rfl, hb⟩
    exact ⟨Try.zeroCells79, rfl, by simp, zc_all, fun e => absurd e (by decide), hb⟩
  | some k =>
    obtain ⟨hk, hnm, _⟩ := atG_some hat
    have hkr : k < (l.map rwOf).length := by simpa using hk
    have er : (l.map rwOf)[k]'hkr = rwOf (l[k]'hk) := List.getElem_map _
    have en : nW s = (rwOf (l[k]'hk)).name := by rw [← hnm]; rfl
    have e : setC l s = putC l s := if_neg (by rw [hat]; simp)
    rw [e]
    exact set_some C b (l.map rwOf) (nW s) (wdOf v) (rwOf (l[k]'hk)) _ _ w hC hM hN ⟨k, hkr, er.symm, en⟩ (fun u hu => define_any C b l s v u hC (hM.below hu) hN hf hs)
end Go.Proofs.Ytgfienijabkpjaa
/-
  The model's l7Put: a global of a name put, in memory of its own; nothing that was there is turned.
-/
namespace Go.Proofs.Ytgfienijabkpjaa
open Go.RowKit Go.Extern.Stop Go.Stop Go.Extern Num Go.Lib

theorem emptyG (w : World) : (w.alloc (.cells #[] 33)).ownsRow w.heap.size 33 5 (.slice (some ⟨w.heap.size, 0, none⟩) 0 0) 0 (cellsG []) :=
  ⟨by simp [cellsG], .inr ⟨w.heap.size, 0, _, rfl, Nat.le_refl _, heap_alloc_new w _, Nat.le_refl _, by unfold maxLen; omega, by simp, by simp [cellsG]⟩⟩
theorem noneG (w : World) (B : Nat) : w.ownsRow B 33 5 (.slice none ([] : List Glb).length 0) ([] : List Glb).length (cellsG []) := ⟨by simp [cellsG], .inl ⟨rfl, rfl⟩⟩
/-- What l7Put answers: a row of its own and a code. -/
def AnsPut (w : World) (M : List Glb) (C : Int) (e : Ending) (w' : World) : Prop :=
  ∃ ao cp, e = .returned (.tuple #[.slice ao M.length cp, .int .i64 C]) ∧ w'.ownsRow w.heap.size 33 5 (.slice ao M.length cp) M.length (cellsG M) ∧ Below w.heap.size w w'
set_option maxRecDepth 100000 in
set_option maxHeartbeats 4000000 in
theorem l7Put_any (cap base g : Nat) (l : List Glb) (s : ByteArray) (v : Vlu) (w : World) (hl : l.length ≤ 60) (hver : ∀ (k : Nat) (hk : k < l.length), 1 ≤ l[k].ver ∧ l[k].ver ≤ 99999) (h : w.ownsRow base 33 5 (.slice (some ⟨g, 0, none⟩) l.length cap) l.length (cellsG l)) :
    Calls Try.prog 43 #[.slice (some ⟨g, 0, none⟩) l.length cap, .string s, v.val] w fun e w' => AnsPut w (putL l s v) (putC l s) e w' := by
  obtain ⟨M, hM⟩ : ∃ M, M = putL l s v := ⟨_, rfl⟩
  obtain ⟨C, hC⟩ : ∃ C, C = putC l s := ⟨_, rfl⟩
  have HMC : Hid (M = putL l s v ∧ C = putC l s) := ⟨hM, hC⟩
  rw [← hM, ← hC]
  obtain ⟨i0, hi, hz0, hz1, hz2⟩ := info_parts infoG
  have HO : Hid (w.ownsRow base 33 5 (.slice (some ⟨g, 0, none⟩) l.length cap) l.length (cellsG l)) := h
  have HVr : Hid (∀ (k : Nat) (hk : k < l.length), 1 ≤ l[k].ver ∧ l[k].ver ≤ 99999) := hver
  have HAt : Hid (∀ u, RowG u g l → Calls Try.prog 44 #[.slice (some ⟨g, 0, none⟩) l.length cap, .string s] u fun e w' => e = .returned (.int .i64 (atI (atG l s))) ∧ w' = u) := fun u hu => l7At_any _ cap g l s u (by omega) (fun _ => rfl) hu
  obtain ⟨W, hW⟩ : ∃ W, W = w.alloc (.cells #[.int .i64 v.kind, .int .i64 v.num, .string v.name] 26) := ⟨_, rfl⟩
  have HW : Hid (W = w.alloc (.cells #[.int .i64 v.kind, .int .i64 v.num, .string v.name] 26)) := hW
  have HBW : Hid (Below w.heap.size w W) := by rw [hW]; exact (Below.refl _ _).alloc (Nat.le_refl _) _
  have zW : W.heap.size = w.heap.size + 1 := by rw [hW]; simp
  have HVW : Hid (VluAt w.heap.size 0 v W) := by
    rw [hW]
    exact ⟨by rw [World.cell?_alloc_at _ _ _ _ rfl]; rfl, by rw [World.cell?_alloc_at _ _ _ _ rfl]; rfl, by rw [World.cell?_alloc_at _ _ _ _ rfl]; rfl⟩
  have HM : Hid ((W.alloc (.cells #[] 33)).ownsRow (w.heap.size + 1) 33 5 (.slice (some ⟨w.heap.size + 1, 0, none⟩) 0 0) 0 (cellsG [])) := by rw [← zW]; exact emptyG W
  have HAd : Hid (∀ j, (⟨g, 0, none⟩ : Addr).add j = ⟨g, j, none⟩) := fun j => by unfold Addr.add; split <;> simp_all
  clear h hver hM hC hW
  by_cases h0 : l = []
  case pos =>
    have HE : Hid (M = [⟨s, v, 1⟩] ∧ C = 0) := by obtain ⟨e1, e2⟩ := HMC.out; subst h0; rw [e1, e2]; exact ⟨rfl, rfl⟩
    have HA0 : Hid (∀ u, Calls Try.prog 44 #[.slice (some ⟨g, 0, none⟩) 0 cap, .string s] u fun e w' => e = .returned (.int .i64 (-1)) ∧ w' = u) := fun u => by
      subst h0
      exact l7At_any _ cap g [] s u (by simp) (fun _ => rfl) (fun k hk => absurd hk (by simp))
    have hl0 : l.length = 0 := by rw [h0]; rfl
    rw [hl0]
    obtain ⟨X, hX⟩ : ∃ X, X = W.alloc (.cells #[] 33) := ⟨_, rfl⟩
    have HX : Hid (X = W.alloc (.cells #[] 33)) := hX
    have HBX : Hid (Below W.heap.size W X) := by rw [hX]; exact (Below.refl _ _).alloc (Nat.le_refl _) _
    have HMX : Hid (World.ownsRow X (w.heap.size + 1) 33 5 (.slice (some ⟨w.heap.size + 1, 0, none⟩) 0 0) 0 (cellsG [])) := by rw [hX]; exact HM.out
    have zX : X.heap.size = w.heap.size + 2 := by rw [hX]; simp; omega
    have HVX : Hid (VluAt w.heap.size 0 v X) := HVW.out.below HBX.out
    clear h0 hl0 hX HMC HO HVr HAt HM
    have c0 := HVX.out.c0
    have c1 := HVX.out.c1
    have c2 := HVX.out.c2
    go_enter Try.func43, Try.ntmps43
    go_wp2_with fail
    rw [← HW.out, ← HX.out]
    refine (HA0.out _).mono ?_
    rintro e w1 ⟨rfl, hw1⟩
    subst hw1
    have HBx : Hid (Below w.heap.size w w1) := HBW.out.trans (HBX.out.mono HBW.out.size)
    go_wp2_with (at_builtin; refine wpList_append_lies _ rfl (.tmp 41) (.tmp 45) 24 rfl (w.heap.size + 1) 33 i0 _ 5 56 Try.underlying24 hi hz0 hz1 hz2 rfl (by decide) _ 0 (cellsG []) rfl (HMX.out.alloc _) ⟨_, 0, none⟩ 1 1 [.string s, .int .i64 v.kind, .int .i64 v.num, .string v.name, .int .i64 1] rfl rfl ?c1 ?c2 (by decide) ?c3 ?c4 ?c5 _ rfl ?_)
    case c1 => exact World.news_of_block (cs := #[.string s, .int .i64 v.kind, .int .i64 v.num, .string v.name, .int .i64 1]) (t := 33) (fr := (0, 0)) (heap_new' _ _ _ (by first | rfl | simp | omega | (simp; omega)))
    case c2 => intro u hu; simp at hu; rcases hu with rfl | rfl | rfl | rfl | rfl <;> rfl
    case c3 => unfold maxLen; omega
    case c4 => omega
    case c5 => first | omega | (simp; omega) | simp
    intro g' cap' w4 hown4 hgrow4 hat4 hlt4
    have HN : Hid (M.length = 0 + 1 ∧ cellsG M = cellsG [] ++ [.string s, .int .i64 v.kind, .int .i64 v.num, .string v.name, .int .i64 1]) := by
      show _ ∧ _
      rw [HE.out.1]
      exact ⟨by simp, by first | rfl | (rw [cellsG_append]; rfl)⟩
    have HO4 : Hid (w4.ownsRow (w.heap.size + 1) 33 5 (.slice (some ⟨g', 0, none⟩) M.length cap') M.length (cellsG M)) := by
      show World.ownsRow _ _ _ _ _ _ _
      rw [HN.out.1, HN.out.2]; exact hown4
    have HB4 : Hid (Below w.heap.size w w4) := Below.grown (HBx.out.alloc (by have := HBx.out.size; omega) _) hgrow4 (by simp; omega) (fun j hj => Nat.le_trans (by omega) (HMX.out.lt j hj).1)
    clear hown4 hgrow4 hat4 c0 c1 c2
    go_wp2
    exact bodyPost_ret (v := .tuple #[.slice (some ⟨g', 0, none⟩) (0 + 1) cap', .int .i64 0]) (by simp [results, Try.results43, go_sem]) rfl ⟨some ⟨g', 0, none⟩, cap', by rw [HN.out.1, HE.out.2], own_base HO4.out (by omega), HB4.out⟩
  have hpos : 0 < l.length := List.length_pos_iff.2 h0
  have HN : Hid (l.length ≤ 60 ∧ 0 < l.length) := ⟨hl, hpos⟩
  clear h0
  go_enter Try.func43, Try.ntmps43
  go_wp2_with (at_builtin; refine wpList_append_lies _ rfl (.tmp 10) (.tmp 11) 24 rfl (w.heap.size + 1) 33 i0 _ 5 56 Try.underlying24 hi hz0 hz1 hz2 rfl (by decide) _ 0 (cellsG []) rfl ?c0 ⟨g, 0, none⟩ l.length cap (cellsG l) rfl ?c6 ?c1 ?c2 ?c7 ?c3 ?c4 ?c5 _ rfl ?_)
  case c0 => rw [← HW.out]; exact HM.out
  case c6 => rw [cellsG_length]
  case c1 => exact fun j u hj => cell_laid _ (cell_laid _ (by rw [← HAd.out]; exact HO.out.cells (g := g) rfl j u hj))
  case c2 => exact cellsG_one l
  case c3 => unfold maxLen; omega
  case c4 => omega
  try (case c5 => first | omega | (simp; omega) | simp)
  try (case c7 => exact hpos)
  intro g2 cb w2 hown2 hgrow2 hat2 hlt2
  have HO2 : Hid (w2.ownsRow (w.heap.size + 1) 33 5 (.slice (some ⟨g2, 0, none⟩) l.length cb) l.length (cellsG l)) := by show World.ownsRow _ _ _ _ _ _ _; simpa [cellsG] using hown2
  have HB2 : Hid (Below W.heap.size W w2) := by
    rw [← HW.out] at hgrow2
    exact Below.grown ((Below.refl _ _).alloc (Nat.le_refl _) _) hgrow2 (by simp) (fun j hj => by simp [Value.ownBlock] at hj; omega)
  have HB2w : Hid (Below w.heap.size w w2) := HBW.out.trans (HB2.out.mono HBW.out.size)
  have HV2 : Hid (VluAt w.heap.size 0 v w2) := HVW.out.below HB2.out
  have HP2 : Hid (RowG w2 g l) := (RowG.of HO.out).below HB2w.out
  have z2 : w.heap.size + 1 ≤ w2.heap.size := by have := HB2.out.size; omega
  have hg2 : w.heap.size + 1 ≤ g2 ∧ g2 < w2.heap.size := by have := HO2.out.lt g2 rfl; omega
  clear hown2 hgrow2 hat2 HM HO HBW HVW HAd
  have c0 := HV2.out.c0
  have c1 := HV2.out.c1
  have c2 := HV2.out.c2
  go_wp2_with fail
  refine (HAt.out _ HP2.out).mono ?_
  rintro e w3 ⟨rfl, hw3⟩
  subst hw3
  cases hat : atG l s with
  | none =>
    have ha : atI none = -1 := rfl
    rw [ha]
    by_cases h6 : 60 ≤ l.length
    · have HE : Hid (M = [] ∧ C = 2) := by obtain ⟨e1, e2⟩ := HMC.out; rw [e1, e2, putL_none hat, putC_none hat, if_pos h6, if_pos h6]; exact ⟨rfl, rfl⟩
      have h6' : (60 : Int) ≤ (l.length : Int) := by omega
      clear h6 hat
      go_wp2
      exact bodyPost_ret (v := .tuple #[.slice none 0 0, .int .i64 2]) (by simp [results, Try.results43, go_sem]) rfl ⟨none, 0, by rw [HE.out.1, HE.out.2]; rfl, by rw [HE.out.1]; exact noneG _ _, HB2w.out⟩
    · have HE : Hid (M = l ++ [⟨s, v, 1⟩] ∧ C = 0) := by obtain ⟨e1, e2⟩ := HMC.out; rw [e1, e2, putL_none hat, putC_none hat, if_neg h6, if_neg h6]; exact ⟨rfl, rfl⟩
      have h6' : ¬ (60 : Int) ≤ (l.length : Int) := by omega
      clear hat HP2 HAt HMC HVr
      go_wp2_with (at_builtin; refine wpList_append_lies _ rfl (.tmp 41) (.tmp 45) 24 rfl (w.heap.size + 1) 33 i0 _ 5 56 Try.underlying24 hi hz0 hz1 hz2 rfl (by decide) _ l.length (cellsG l) rfl (HO2.out.alloc _) ⟨_, 0, none⟩ 1 1 [.string s, .int .i64 v.kind, .int .i64 v.num, .string v.name, .int .i64 1] rfl rfl ?c1 ?c2 (by decide) ?c3 ?c4 ?c5 _ rfl ?_)
      case c1 => exact World.news_of_block (cs := #[.string s, .int .i64 v.kind, .int .i64 v.num, .string v.name, .int .i64 1]) (t := 33) (fr := (0, 0)) (heap_new' _ _ _ (by first | rfl | simp | omega | (simp; omega)))
      case c2 => intro u hu; simp at hu; rcases hu with rfl | rfl | rfl | rfl | rfl <;> rfl
      case c3 => unfold maxLen; omega
      case c4 => omega
      case c5 => first | omega | (simp; omega) | simp
      intro g' cap' w4 hown4 hgrow4 hat4 hlt4
      have HN : Hid (M.length = l.length + 1 ∧ cellsG M = cellsG l ++ [.string s, .int .i64 v.kind, .int .i64 v.num, .string v.name, .int .i64 1]) := by
        show _ ∧ _
        rw [HE.out.1]
        exact ⟨by simp, by first | rfl | (rw [cellsG_append]; rfl)⟩
      have HO4 : Hid (w4.ownsRow (w.heap.size + 1) 33 5 (.slice (some ⟨g', 0, none⟩) M.length cap') M.length (cellsG M)) := by
        show World.ownsRow _ _ _ _ _ _ _
        rw [HN.out.1, HN.out.2]; exact hown4
      have HB4 : Hid (Below w.heap.size w w4) := Below.grown (HB2w.out.alloc (by have := HB2w.out.size; omega) _) hgrow4 (by simp; omega) (fun j hj => Nat.le_trans (by omega) (HO2.out.lt j hj).1)
      clear hown4 hgrow4 hat4 c0 c1 c2
      go_wp2
      exact bodyPost_ret (v := .tuple #[.slice (some ⟨g', 0, none⟩) (l.length + 1) cap', .int .i64 0]) (by simp [results, Try.results43, go_sem]) rfl ⟨some ⟨g', 0, none⟩, cap', by rw [HN.out.1, HE.out.2], own_base HO4.out (by omega), HB4.out⟩
  | some k =>
    obtain ⟨hk, _, _⟩ := atG_some hat
    have ha : atI (some k) = (k : Int) := rfl
    rw [ha]
    obtain ⟨r0, r1, r2, r3, r4⟩ := rowG_at HO2.out k hk
    obtain ⟨p, hp⟩ : ∃ p, p = (l[k]'hk).ver := ⟨_, rfl⟩
    have hpv := HVr.out k hk
    rw [← hp] at hpv r4
    have hkl : (k : Int) < (l.length : Int) := by omega
    by_cases h9 : 99999 ≤ p
    · have HE : Hid (M = [] ∧ C = 3) := by obtain ⟨e1, e2⟩ := HMC.out; rw [e1, e2, putL_some hat hk, putC_some hat hk, ← hp, if_pos h9, if_pos h9]; exact ⟨rfl, rfl⟩
      clear hat hp HP2 HAt HMC HVr r0 r1 r2 r3 c0 c1 c2
      go_wp2
      exact bodyPost_ret (v := .tuple #[.slice none 0 0, .int .i64 3]) (by simp [results, Try.results43, go_sem]) rfl ⟨none, 0, by rw [HE.out.1, HE.out.2]; rfl, by rw [HE.out.1]; exact noneG _ _, HB2w.out⟩
    · have HE : Hid (M = (l.take k ++ [⟨(l[k]'hk).name, v, p + 1⟩]) ++ l.drop (k + 1) ∧ C = 0) := by obtain ⟨e1, e2⟩ := HMC.out; rw [e1, e2, putL_some hat hk, putC_some hat hk, ← hp, if_neg h9, if_neg h9]; exact ⟨rfl, rfl⟩
      have HL : Hid (M.length = l.length) := by show M.length = _; rw [HE.out.1]; exact put_len l k hk _
      have HX : Hid (((((cellsG l).set (k * 5 + 1) (.int .i64 v.kind)).set (k * 5 + 2) (.int .i64 v.num)).set (k * 5 + 3) (.string v.name)).set (k * 5 + 4) (.int .i64 (p + 1)) = cellsG M) := by show _ = cellsG M; rw [HE.out.1]; exact put_cells l k hk v (p + 1)
      have hf : ∀ j, w3.frozen? ⟨g2, j, none⟩ = false := own_frozen HO2.out
      have HOx : Hid (∀ (a b c d : Value), ((((w3.setCell ⟨g2, k * 5 + 1, none⟩ a).setCell ⟨g2, k * 5 + 2, none⟩ b).setCell ⟨g2, k * 5 + 3, none⟩ c).setCell ⟨g2, k * 5 + 4, none⟩ d).ownsRow (w.heap.size + 1) 33 5 (.slice (some ⟨g2, 0, none⟩) l.length cb) l.length (((((cellsG l).set (k * 5 + 1) a).set (k * 5 + 2) b).set (k * 5 + 3) c).set (k * 5 + 4) d)) := fun a b c d => own_put (own_put (own_put (own_put HO2.out _ _) _ _) _ _) _ _
      clear hat hp HP2 HAt HMC HVr r0
      go_wp2
      exact bodyPost_ret (v := .tuple #[.slice (some ⟨g2, 0, none⟩) l.length cb, .int .i64 0]) (by simp [results, Try.results43, go_sem]) rfl ⟨some ⟨g2, 0, none⟩, cb, by rw [HL.out, HE.out.2], own_base (base := w.heap.size + 1) (by rw [HL.out, ← HX.out]; exact HOx.out _ _ _ _) (by omega), by repeat (first | exact HB2w.out | refine Below.setCell ?_ (by simp <;> omega) _)⟩
end Go.Proofs.Ytgfienijabkpjaa
/-
  The model's DefineGlobal and SetGlobal: a global put, in memory of its own; nothing that was there is turned.
-/
namespace Go.Proofs.Ytgfienijabkpjaa
open Go.RowKit Go.Extern.Stop Go.Stop Go.Extern Num Go.Lib

def codeDG (l : List Glb) (s : ByteArray) (v : Vlu) : Int := if askG l s ≠ 0 then askG l s else if vfault v ≠ 0 then vfault v else putC l s
def outDG (l : List Glb) (s : ByteArray) (v : Vlu) : List Glb := if askG l s ≠ 0 then [] else if vfault v ≠ 0 then [] else putL l s v
def codeSG (l : List Glb) (s : ByteArray) (v : Vlu) : Int := if askG l s ≠ 0 then askG l s else if vfault v ≠ 0 then vfault v else if atG l s = none then 4 else putC l s
def outSG (l : List Glb) (s : ByteArray) (v : Vlu) : List Glb := if askG l s ≠ 0 then [] else if vfault v ≠ 0 then [] else if atG l s = none then [] else putL l s v
/-- An answer of a code and globals in a row of its own. -/
def AnsD (w : World) (c : Int) (m : List Glb) (e : Ending) (w' : World) : Prop :=
  ∃ ao cp, e = .returned (.agg #[.int .i64 c, .slice ao m.length cp]) ∧ w'.ownsRow w.heap.size 33 5 (.slice ao m.length cp) m.length (cellsG m) ∧ Below w.heap.size w w'
theorem ask_glob {l : List Glb} {s : ByteArray} (h : askG l s = 0) : l.length ≤ 60 ∧ GFine l l.length := by
  refine GFine.of ?_
  unfold askG at h
  by_cases h0 : globFault l = 0
  · exact h0
  · rw [if_pos h0] at h; exact h
theorem dg_ask {l : List Glb} {s : ByteArray} {v : Vlu} (h : askG l s ≠ 0) : codeDG l s v = askG l s ∧ outDG l s v = [] := ⟨if_pos h, if_pos h⟩
theorem dg_val {l : List Glb} {s : ByteArray} {v : Vlu} (h0 : askG l s = 0) (h : vfault v ≠ 0) : codeDG l s v = vfault v ∧ outDG l s v = [] := by unfold codeDG outDG; simp [h0, h]
theorem dg_put {l : List Glb} {s : ByteArray} {v : Vlu} (h0 : askG l s = 0) (h : vfault v = 0) : codeDG l s v = putC l s ∧ outDG l s v = putL l s v := by unfold codeDG outDG; simp [h0, h]
theorem sg_ask {l : List Glb} {s : ByteArray} {v : Vlu} (h : askG l s ≠ 0) : codeSG l s v = askG l s ∧ outSG l s v = [] := ⟨if_pos h, if_pos h⟩
theorem sg_val {l : List Glb} {s : ByteArray} {v : Vlu} (h0 : askG l s = 0) (h : vfault v ≠ 0) : codeSG l s v = vfault v ∧ outSG l s v = [] := by unfold codeSG outSG; simp [h0, h]
theorem sg_none {l : List Glb} {s : ByteArray} {v : Vlu} (h0 : askG l s = 0) (h : vfault v = 0) (h2 : atG l s = none) : codeSG l s v = 4 ∧ outSG l s v = [] := by unfold codeSG outSG; simp [h0, h, h2]
theorem sg_put {l : List Glb} {s : ByteArray} {v : Vlu} (h0 : askG l s = 0) (h : vfault v = 0) (h2 : ¬ atG l s = none) : codeSG l s v = putC l s ∧ outSG l s v = putL l s v := by unfold codeSG outSG; simp [h0, h, h2]

set_option maxRecDepth 100000 in
set_option maxHeartbeats 4000000 in
theorem specDG_any (cap base g : Nat) (l : List Glb) (s : ByteArray) (v : Vlu) (w : World) (hl : l.length ≤ 1048576) (hcap : l.length ≤ cap) (hcm : cap ≤ 9223372036854775807) (h : w.ownsRow base 33 5 (.slice (some ⟨g, 0, none⟩) l.length cap) l.length (cellsG l)) (hz : ableG l) (hs : s.size ≤ 9223372036854775807) (hv : v.name.size ≤ 9223372036854775807) :
    Calls Try.prog 12 #[.slice (some ⟨g, 0, none⟩) l.length cap, .string s, v.val] w fun e w' => AnsD w (codeDG l s v) (outDG l s v) e w' := by
  obtain ⟨M, hM⟩ : ∃ M, M = outDG l s v := ⟨_, rfl⟩
  obtain ⟨C, hC⟩ : ∃ C, C = codeDG l s v := ⟨_, rfl⟩
  obtain ⟨c, hc⟩ : ∃ c, c = askG l s := ⟨_, rfl⟩
  obtain ⟨d, hd⟩ : ∃ d, d = vfault v := ⟨_, rfl⟩
  have HR : Hid (M = outDG l s v ∧ C = codeDG l s v ∧ c = askG l s ∧ d = vfault v) := ⟨hM, hC, hc, hd⟩
  rw [← hM, ← hC]
  obtain ⟨W, hW⟩ : ∃ W, W = (w.alloc (.cells #[.int .i64 v.kind, .int .i64 v.num, .string v.name] 26)).alloc (.cells #[.int .i64 0, .slice none 0 0] 30) := ⟨_, rfl⟩
  have HW : Hid (W = (w.alloc (.cells #[.int .i64 v.kind, .int .i64 v.num, .string v.name] 26)).alloc (.cells #[.int .i64 0, .slice none 0 0] 30)) := hW
  have HBW : Hid (Below w.heap.size w W) := by rw [hW]; exact ((Below.refl _ _).alloc (Nat.le_refl _) _).alloc (by simp) _
  have zW : W.heap.size = w.heap.size + 2 := by rw [hW]; simp
  have HVW : Hid (VluAt w.heap.size 0 v W) := by
    rw [hW]
    exact ⟨by rw [World.cell?_alloc_past _ _ _ (by simp), World.cell?_alloc_at _ _ _ _ rfl]; rfl, by rw [World.cell?_alloc_past _ _ _ (by simp), World.cell?_alloc_at _ _ _ _ rfl]; rfl, by rw [World.cell?_alloc_past _ _ _ (by simp), World.cell?_alloc_at _ _ _ _ rfl]; rfl⟩
  have HRW : Hid (W.cell? ⟨w.heap.size + 1, 0, none⟩ = some (.int .i64 0) ∧ W.cell? ⟨w.heap.size + 1, 1, none⟩ = some (.slice none 0 0) ∧ ∀ o, W.frozen? ⟨w.heap.size + 1, o, none⟩ = false) := by
    rw [hW]
    exact ⟨by rw [World.cell?_alloc_at _ _ _ _ (by simp)]; rfl, by rw [World.cell?_alloc_at _ _ _ _ (by simp)]; rfl, fun o => by rw [World.frozen?_alloc_at _ _ _ _ (by simp)]⟩
  have HO : Hid (W.ownsRow base 33 5 (.slice (some ⟨g, 0, none⟩) l.length cap) l.length (cellsG l)) := by rw [hW]; exact (h.alloc _).alloc _
  have HAs : Hid (Calls Try.prog 41 #[.slice (some ⟨g, 0, none⟩) l.length cap, .string s] W fun e w' => e = .returned (.int .i64 c) ∧ Below W.heap.size W w') := by rw [hc]; exact asked_any _ cap g l s W hl hcap hcm (fun _ => rfl) (RowG.of HO.out) hz hs
  have HFl : Hid (∀ u, VluAt w.heap.size 0 v u → Calls Try.prog 42 #[.pointer (some ⟨w.heap.size, 0, none⟩)] u fun e w' => e = .returned (.int .i64 d) ∧ w' = u) := fun u hu => by rw [hd]; exact l5Fault_any _ 0 v u hv hu
  clear hM hC hc hd hW h hz hs hv hl hcap hcm
  go_enter Try.func12, Try.ntmps12
  go_wp2_with fail
  rw [← HW.out]
  refine HAs.out.mono ?_
  rintro e w1 ⟨rfl, b1⟩
  have HV1 : Hid (VluAt w.heap.size 0 v w1) := HVW.out.below b1
  have r0 := cell_keep b1 HRW.out.1
  have r1 := cell_keep b1 HRW.out.2.1
  have rf : ∀ o, w1.frozen? ⟨w.heap.size + 1, o, none⟩ = false := fun o => by rw [(bcell b1).2 _ _ (by omega)]; exact HRW.out.2.2 o
  have HO1 : Hid (w1.ownsRow base 33 5 (.slice (some ⟨g, 0, none⟩) l.length cap) l.length (cellsG l)) := own_below HO.out b1
  have HB1 : Hid (Below w.heap.size w w1) := HBW.out.trans (b1.mono HBW.out.size)
  have z1 : w.heap.size + 1 < w1.heap.size := lt_of_cell r0
  clear b1 HAs HO HRW HVW HBW HW zW
  by_cases h0 : c = 0
  case neg =>
    have HE : Hid (C = c ∧ M = []) := by obtain ⟨e1, e2, e3, e4⟩ := HR.out; rw [e1, e2, e3]; exact dg_ask (by rw [← e3]; exact h0)
    have h0' : (c != 0) = true := by simpa using h0
    clear h0 HR
    go_wp2
    exact bodyPost_ret (v := .agg #[.int .i64 c, .slice none 0 0]) (by simp [results, Try.results12, go_sem, r0, r1]) rfl ⟨none, 0, by rw [HE.out.1, HE.out.2]; rfl, by rw [HE.out.2]; exact noneG _ _, by repeat (first | exact HB1.out | refine Below.setCell ?_ (by simp <;> omega) _)⟩
  subst h0
  go_wp2_with fail
  refine (HFl.out _ HV1.out).mono ?_
  rintro e w2 ⟨rfl, hw2⟩
  subst hw2
  by_cases h1 : d = 0
  case neg =>
    have HE : Hid (C = d ∧ M = []) := by obtain ⟨e1, e2, e3, e4⟩ := HR.out; rw [e1, e2, e4]; exact dg_val e3.symm (by rw [← e4]; exact h1)
    have h1' : (d != 0) = true := by simpa using h1
    clear h1 HR
    go_wp2
    exact bodyPost_ret (v := .agg #[.int .i64 d, .slice none 0 0]) (by simp [results, Try.results12, go_sem, r0, r1]) rfl ⟨none, 0, by rw [HE.out.1, HE.out.2]; rfl, by rw [HE.out.2]; exact noneG _ _, by repeat (first | exact HB1.out | refine Below.setCell ?_ (by simp <;> omega) _)⟩
  subst h1
  have HFn : Hid (l.length ≤ 60 ∧ GFine l l.length) := ask_glob HR.out.2.2.1.symm
  have c0 := HV1.out.c0
  have c1 := HV1.out.c1
  have c2 := HV1.out.c2
  have HE : Hid (C = putC l s ∧ M = putL l s v) := by obtain ⟨e1, e2, e3, e4⟩ := HR.out; rw [e1, e2]; exact dg_put e3.symm e4.symm
  have HPt : Hid (Calls Try.prog 43 #[.slice (some ⟨g, 0, none⟩) l.length cap, .string s, v.val] w2 fun e w' => AnsPut w2 M C e w') := by rw [HE.out.1, HE.out.2]; exact l7Put_any cap base g l s v _ HFn.out.1 (fun k hk => HFn.out.2.ver k hk hk) HO1.out
  clear HR HE HFn HO1 HV1
  go_wp2_with fail
  clear c0 c1 c2
  refine HPt.out.mono ?_
  rintro e w3 ⟨ao, cp, rfl, ho, hb⟩
  have HO3 : Hid (w3.ownsRow w.heap.size 33 5 (.slice ao M.length cp) M.length (cellsG M)) := own_base ho (by omega)
  have HNE : Hid (∀ g, (Value.slice ao M.length cp).ownBlock = some g → w.heap.size + 1 < g) := fun g hg => by have := ho.lt g hg; omega
  have HB3 : Hid (Below w.heap.size w w3) := HB1.out.trans (hb.mono (by omega))
  have s0 := cell_keep hb r0
  have s1 := cell_keep hb r1
  have sf : ∀ o, w3.frozen? ⟨w.heap.size + 1, o, none⟩ = false := fun o => by rw [(bcell hb).2 _ _ (by omega)]; exact rf o
  have z3 : w.heap.size + 1 < w3.heap.size := lt_of_cell s0
  obtain ⟨n, hn⟩ : ∃ n, n = M.length := ⟨_, rfl⟩
  have HN : Hid (n = M.length) := hn
  rw [← hn]
  clear hb ho r0 r1 rf HPt HB1 hn
  go_wp2
  refine bodyPost_ret (v := .agg #[.int .i64 C, .slice ao n cp]) (by simp [results, Try.results12, go_sem, s0, s1]) rfl ⟨ao, cp, by rw [HN.out], ?_, ?_⟩
  · repeat (first | exact HO3.out | refine own_set' ?_ (fun g hg e => by have := HNE.out g hg; simp at e; omega) _)
  · repeat (first | refine Below.setCell ?_ (by simp <;> omega) _ | exact HB3.out)
set_option maxRecDepth 100000 in
set_option maxHeartbeats 4000000 in
theorem specSG_any (cap base g : Nat) (l : List Glb) (s : ByteArray) (v : Vlu) (w : World) (hl : l.length ≤ 1048576) (hcap : l.length ≤ cap) (hcm : cap ≤ 9223372036854775807) (h : w.ownsRow base 33 5 (.slice (some ⟨g, 0, none⟩) l.length cap) l.length (cellsG l)) (hz : ableG l) (hs : s.size ≤ 9223372036854775807) (hv : v.name.size ≤ 9223372036854775807) :
    Calls Try.prog 13 #[.slice (some ⟨g, 0, none⟩) l.length cap, .string s, v.val] w fun e w' => AnsD w (codeSG l s v) (outSG l s v) e w' := by
  obtain ⟨M, hM⟩ : ∃ M, M = outSG l s v := ⟨_, rfl⟩
  obtain ⟨C, hC⟩ : ∃ C, C = codeSG l s v := ⟨_, rfl⟩
  obtain ⟨c, hc⟩ : ∃ c, c = askG l s := ⟨_, rfl⟩
  obtain ⟨d, hd⟩ : ∃ d, d = vfault v := ⟨_, rfl⟩
  have HR : Hid (M = outSG l s v ∧ C = codeSG l s v ∧ c = askG l s ∧ d = vfault v) := ⟨hM, hC, hc, hd⟩
  rw [← hM, ← hC]
  obtain ⟨W, hW⟩ : ∃ W, W = (w.alloc (.cells #[.int .i64 v.kind, .int .i64 v.num, .string v.name] 26)).alloc (.cells #[.int .i64 0, .slice none 0 0] 30) := ⟨_, rfl⟩
  have HW : Hid (W = (w.alloc (.cells #[.int .i64 v.kind, .int .i64 v.num, .string v.name] 26)).alloc (.cells #[.int .i64 0, .slice none 0 0] 30)) := hW
  have HBW : Hid (Below w.heap.size w W) := by rw [hW]; exact ((Below.refl _ _).alloc (Nat.le_refl _) _).alloc (by simp) _
  have zW : W.heap.size = w.heap.size + 2 := by rw [hW]; simp
  have HVW : Hid (VluAt w.heap.size 0 v W) := by
    rw [hW]
    exact ⟨by rw [World.cell?_alloc_past _ _ _ (by simp), World.cell?_alloc_at _ _ _ _ rfl]; rfl, by rw [World.cell?_alloc_past _ _ _ (by simp), World.cell?_alloc_at _ _ _ _ rfl]; rfl, by rw [World.cell?_alloc_past _ _ _ (by simp), World.cell?_alloc_at _ _ _ _ rfl]; rfl⟩
  have HRW : Hid (W.cell? ⟨w.heap.size + 1, 0, none⟩ = some (.int .i64 0) ∧ W.cell? ⟨w.heap.size + 1, 1, none⟩ = some (.slice none 0 0) ∧ ∀ o, W.frozen? ⟨w.heap.size + 1, o, none⟩ = false) := by
    rw [hW]
    exact ⟨by rw [World.cell?_alloc_at _ _ _ _ (by simp)]; rfl, by rw [World.cell?_alloc_at _ _ _ _ (by simp)]; rfl, fun o => by rw [World.frozen?_alloc_at _ _ _ _ (by simp)]⟩
  have HO : Hid (W.ownsRow base 33 5 (.slice (some ⟨g, 0, none⟩) l.length cap) l.length (cellsG l)) := by rw [hW]; exact (h.alloc _).alloc _
  have HAs : Hid (Calls Try.prog 41 #[.slice (some ⟨g, 0, none⟩) l.length cap, .string s] W fun e w' => e = .returned (.int .i64 c) ∧ Below W.heap.size W w') := by rw [hc]; exact asked_any _ cap g l s W hl hcap hcm (fun _ => rfl) (RowG.of HO.out) hz hs
  have HFl : Hid (∀ u, VluAt w.heap.size 0 v u → Calls Try.prog 42 #[.pointer (some ⟨w.heap.size, 0, none⟩)] u fun e w' => e = .returned (.int .i64 d) ∧ w' = u) := fun u hu => by rw [hd]; exact l5Fault_any _ 0 v u hv hu
  clear hM hC hc hd hW h hz hs hv hl hcap hcm
  go_enter Try.func13, Try.ntmps13
  go_wp2_with fail
  rw [← HW.out]
  refine HAs.out.mono ?_
  rintro e w1 ⟨rfl, b1⟩
  have HV1 : Hid (VluAt w.heap.size 0 v w1) := HVW.out.below b1
  have r0 := cell_keep b1 HRW.out.1
  have r1 := cell_keep b1 HRW.out.2.1
  have rf : ∀ o, w1.frozen? ⟨w.heap.size + 1, o, none⟩ = false := fun o => by rw [(bcell b1).2 _ _ (by omega)]; exact HRW.out.2.2 o
  have HO1 : Hid (w1.ownsRow base 33 5 (.slice (some ⟨g, 0, none⟩) l.length cap) l.length (cellsG l)) := own_below HO.out b1
  have HB1 : Hid (Below w.heap.size w w1) := HBW.out.trans (b1.mono HBW.out.size)
  have z1 : w.heap.size + 1 < w1.heap.size := lt_of_cell r0
  clear b1 HAs HO HRW HVW HBW HW zW
  by_cases h0 : c = 0
  case neg =>
    have HE : Hid (C = c ∧ M = []) := by obtain ⟨e1, e2, e3, e4⟩ := HR.out; rw [e1, e2, e3]; exact sg_ask (by rw [← e3]; exact h0)
    have h0' : (c != 0) = true := by simpa using h0
    clear h0 HR
    go_wp2
    exact bodyPost_ret (v := .agg #[.int .i64 c, .slice none 0 0]) (by simp [results, Try.results13, go_sem, r0, r1]) rfl ⟨none, 0, by rw [HE.out.1, HE.out.2]; rfl, by rw [HE.out.2]; exact noneG _ _, by repeat (first | exact HB1.out | refine Below.setCell ?_ (by simp <;> omega) _)⟩
  subst h0
  go_wp2_with fail
  refine (HFl.out _ HV1.out).mono ?_
  rintro e w2 ⟨rfl, hw2⟩
  subst hw2
  by_cases h1 : d = 0
  case neg =>
    have HE : Hid (C = d ∧ M = []) := by obtain ⟨e1, e2, e3, e4⟩ := HR.out; rw [e1, e2, e4]; exact sg_val e3.symm (by rw [← e4]; exact h1)
    have h1' : (d != 0) = true := by simpa using h1
    clear h1 HR
    go_wp2
    exact bodyPost_ret (v := .agg #[.int .i64 d, .slice none 0 0]) (by simp [results, Try.results13, go_sem, r0, r1]) rfl ⟨none, 0, by rw [HE.out.1, HE.out.2]; rfl, by rw [HE.out.2]; exact noneG _ _, by repeat (first | exact HB1.out | refine Below.setCell ?_ (by simp <;> omega) _)⟩
  subst h1
  have HFn : Hid (l.length ≤ 60 ∧ GFine l l.length) := ask_glob HR.out.2.2.1.symm
  have c0 := HV1.out.c0
  have c1 := HV1.out.c1
  have c2 := HV1.out.c2
  have HAt : Hid (Calls Try.prog 44 #[.slice (some ⟨g, 0, none⟩) l.length cap, .string s] w2 fun e w' => e = .returned (.int .i64 (atI (atG l s))) ∧ w' = w2) := l7At_any _ cap g l s w2 (by have := HFn.out.1; omega) (fun _ => rfl) (RowG.of HO1.out)
  go_wp2_with fail
  refine HAt.out.mono ?_
  rintro e w2' ⟨rfl, hw2'⟩
  subst hw2'
  by_cases h2 : atG l s = none
  case pos =>
    have HE : Hid (C = 4 ∧ M = []) := by obtain ⟨e1, e2, e3, e4⟩ := HR.out; rw [e1, e2]; exact sg_none e3.symm e4.symm h2
    have ha : atI (atG l s) = -1 := by rw [h2]; rfl
    rw [ha]
    clear h2 HR ha
    go_wp2
    exact bodyPost_ret (v := .agg #[.int .i64 4, .slice none 0 0]) (by simp [results, Try.results13, go_sem, r0, r1]) rfl ⟨none, 0, by rw [HE.out.1, HE.out.2]; rfl, by rw [HE.out.2]; exact noneG _ _, by repeat (first | exact HB1.out | refine Below.setCell ?_ (by simp <;> omega) _)⟩
  obtain ⟨k, ha⟩ : ∃ k : Nat, atI (atG l s) = (k : Int) := by
    cases hat : atG l s with
    | none => exact absurd hat h2
    | some k => exact ⟨k, rfl⟩
  rw [ha]
  have HE : Hid (C = putC l s ∧ M = putL l s v) := by obtain ⟨e1, e2, e3, e4⟩ := HR.out; rw [e1, e2]; exact sg_put e3.symm e4.symm h2
  have HPt : Hid (Calls Try.prog 43 #[.slice (some ⟨g, 0, none⟩) l.length cap, .string s, v.val] w2' fun e w' => AnsPut w2' M C e w') := by rw [HE.out.1, HE.out.2]; exact l7Put_any cap base g l s v _ HFn.out.1 (fun k hk => HFn.out.2.ver k hk hk) HO1.out
  clear HR HE HFn HO1 HV1 ha h2 HAt
  go_wp2_with fail
  clear c0 c1 c2
  refine HPt.out.mono ?_
  rintro e w3 ⟨ao, cp, rfl, ho, hb⟩
  have HO3 : Hid (w3.ownsRow w.heap.size 33 5 (.slice ao M.length cp) M.length (cellsG M)) := own_base ho (by omega)
  have HNE : Hid (∀ g, (Value.slice ao M.length cp).ownBlock = some g → w.heap.size + 1 < g) := fun g hg => by have := ho.lt g hg; omega
  have HB3 : Hid (Below w.heap.size w w3) := HB1.out.trans (hb.mono (by omega))
  have s0 := cell_keep hb r0
  have s1 := cell_keep hb r1
  have sf : ∀ o, w3.frozen? ⟨w.heap.size + 1, o, none⟩ = false := fun o => by rw [(bcell hb).2 _ _ (by omega)]; exact rf o
  have z3 : w.heap.size + 1 < w3.heap.size := lt_of_cell s0
  obtain ⟨n, hn⟩ : ∃ n, n = M.length := ⟨_, rfl⟩
  have HN : Hid (n = M.length) := hn
  rw [← hn]
  clear hb ho r0 r1 rf HPt HB1 hn
  go_wp2
  refine bodyPost_ret (v := .agg #[.int .i64 C, .slice ao n cp]) (by simp [results, Try.results13, go_sem, s0, s1]) rfl ⟨ao, cp, by rw [HN.out], ?_, ?_⟩
  · repeat (first | exact HO3.out | refine own_set' ?_ (fun g hg e => by have := HNE.out g hg; simp at e; omega) _)
  · repeat (first | refine Below.setCell ?_ (by simp <;> omega) _ | exact HB3.out)
end Go.Proofs.Ytgfienijabkpjaa
/-
  The program's answer: rows of words as globals again, in a row of their own; nothing that was there is turned.
-/
namespace Go.Proofs.Ytgfienijabkpjaa
open Go.RowKit Go.Extern.Stop Go.Stop Go.Extern Num Go.Lib

theorem makeG0 (n : Nat) (hn : n ≤ 60) (w : World) : (Instr.makeSlice 24 (.int .i64 0) (.int .i64 (n : Int))).run Try.prog w = .ok (.slice (some ⟨w.heap.size, 0, none⟩) 0 n) (w.alloc (.cells (madeCells #[.string ⟨#[]⟩, .int .i64 0, .int .i64 0, .string ⟨#[]⟩, .int .i64 0] (n * 5)) 33)) := by
  obtain ⟨i0, hi, hz0, hz1, hz2⟩ := info_parts infoG
  have := run_make (P := Try.prog) w 24 33 i0 _ Try.underlying24 hi hz0 .i64 .i64 0 (n : Int) (by omega) (by omega) (by rw [hz2]; omega) (by omega)
  rw [this, hz1]
  simp [Value.cells]
theorem madeG0 (n base : Nat) (w : World) (h : w.heap.size = base) (hn : n ≤ 60) : (w.alloc (.cells (madeCells #[.string ⟨#[]⟩, .int .i64 0, .int .i64 0, .string ⟨#[]⟩, .int .i64 0] (n * 5)) 33)).ownsRow base 33 5 (.slice (some ⟨base, 0, none⟩) 0 n) 0 [] := by
  subst h
  exact World.ownsRow_made w _ n (Nat.le_refl _) (by unfold maxLen; omega) (by simp [madeCells])
theorem own_otherG {w : World} {base n b o : Nat} {v x : Value} {xs : List Value} (h : w.ownsRow base 33 5 v n xs) (hne : ∀ g, v.ownBlock = some g → g = b → False) : (w.setCell ⟨b, o, none⟩ x).ownsRow base 33 5 v n xs :=
  own_set' h (fun g hg e => hne g hg e) x
set_option maxRecDepth 100000 in
set_option maxHeartbeats 4000000 in
theorem answer_g (h b : Nat) (l : List Glb) (w : World) (H : GlAt w h b (l.map rwOf)) (hf : ∀ (k : Nat) (h : k < l.length), symL l[k].name.data.toList = true ∧ vfault l[k].value = 0) :
    Calls Try.prog 65 #[.pointer (some ⟨h, 0, none⟩)] w fun e w' => AnsD w 0 l e w' := by
  have hl60 : l.length ≤ 60 := by obtain ⟨C, _, h2⟩ := H.cells; have := h2.max; simpa using this
  have hlt : h < w.heap.size := H.lt
  obtain ⟨n, hn⟩ : ∃ n, n = l.length := ⟨_, rfl⟩
  have HN : Hid (n = l.length) := hn
  have hn60 : n ≤ 60 := by omega
  obtain ⟨W, hW⟩ : ∃ W, W = w.alloc (.cells #[.int .i64 0, .slice none 0 0] 30) := ⟨_, rfl⟩
  have HW : Hid (W = w.alloc (.cells #[.int .i64 0, .slice none 0 0] 30)) := hW
  have HBW : Hid (Below w.heap.size w W) := by rw [hW]; exact (Below.refl _ _).alloc (Nat.le_refl _) _
  have HzW : Hid (W.heap.size = w.heap.size + 1) := by show W.heap.size = _; rw [hW]; simp
  have HG : Hid (GlAt W h b (l.map rwOf)) := H.below HBW.out
  have HQ : Hid (W.cell? ⟨w.heap.size, 0, none⟩ = some (.int .i64 0) ∧ W.cell? ⟨w.heap.size, 1, none⟩ = some (.slice none 0 0) ∧ ∀ o, W.frozen? ⟨w.heap.size, o, none⟩ = false) := by
    rw [hW]
    exact ⟨by rw [World.cell?_alloc_at _ _ _ _ rfl]; rfl, by rw [World.cell?_alloc_at _ _ _ _ rfl]; rfl, fun o => by rw [World.frozen?_alloc_at _ _ _ _ rfl]⟩
  have HS : Hid (∀ u, Below W.heap.size W u → Calls Try.prog 66 #[.pointer (some ⟨h, 0, none⟩)] u fun e w' => e = .returned (.int .i64 (n : Int)) ∧ w' = u) := fun u hu => by
    have := size_g h b (l.map rwOf) u (HG.out.below hu)
    rw [List.length_map, ← hn] at this
    exact this
  have HF : Hid (∀ (k : Nat) (h : k < l.length), symL l[k].name.data.toList = true ∧ vfault l[k].value = 0) := hf
  have hmk := makeG0 n hn60
  obtain ⟨U, hU⟩ : ∃ U, U = W.alloc (.cells (madeCells #[.string ⟨#[]⟩, .int .i64 0, .int .i64 0, .string ⟨#[]⟩, .int .i64 0] (n * 5)) 33) := ⟨_, rfl⟩
  have HU : Hid (U = W.alloc (.cells (madeCells #[.string ⟨#[]⟩, .int .i64 0, .int .i64 0, .string ⟨#[]⟩, .int .i64 0] (n * 5)) 33)) := hU
  have HBU : Hid (Below W.heap.size W U) := by rw [hU]; exact (Below.refl _ _).alloc (Nat.le_refl _) _
  have HO0 : Hid (U.ownsRow W.heap.size 33 5 (.slice (some ⟨W.heap.size, 0, none⟩) 0 n) 0 (cellsG (l.take 0))) := by rw [hU]; exact madeG0 n _ W rfl hn60
  obtain ⟨i0, hi, hz0, hz1, hz2⟩ := info_parts infoG
  clear hW H hf hn hU
  go_enter Try.func65, Try.ntmps65
  go_wp2_with fail
  rw [← HW.out]
  refine (HS.out _ (Below.refl _ _)).mono ?_
  rintro e w1 ⟨rfl, hw1⟩
  replace hw1 := hw1.symm
  subst hw1
  go_wp2_with fail
  rw [← HU.out]
  clear hmk HU
  refine wp_region_facts_all (by kernel_rfl) (fun v => Below U.heap.size U v) (fun u v => Below u.heap.size u v) (fun i v u => match i with | 0 => (fun a u => a = Value.pointer (some ⟨h, 0, none⟩)) v u | 1 => (fun a u => a = Value.pointer (some ⟨h, 0, none⟩)) v u | 2 => (fun a u => a = Value.pointer (some ⟨h, 1, none⟩)) v u | 3 => (fun a u => a = Value.pointer (some ⟨h, 0, none⟩)) v u | 4 => (fun a u => a = .int .i64 (n : Int)) v u | 5 => (fun a u => a = Value.slice (some ⟨h, 1, none⟩) n 60) v u | 6 => (fun a u => a = .int .i64 (n : Int)) v u | 7 => (fun a u => a = .int .i64 0) v u | _ => True) (by kernel_rfl) [0, 1, 2, 3, 4, 5, 6, 7] (by kernel_rfl) ?b0 ?bk ?fk ⟨?s0, ?s1, ?s2, ?s3, ?s4, ?s5, ?s6, ?s7, trivial⟩ [(0, some 9), (1, some 10), (2, some 11), (3, some 12), (4, some 13), (5, some 14), (6, some 15), (7, some 16)] (by kernel_rfl) ?last
  case b0 => exact Below.drew (Below.refl _ _)
  case bk => exact fun u v h hb => h.trans (hb.mono h.size)
  case fk => intro i v u u' h hb; match i, h with | 0, h => exact (h) | 1, h => exact (h) | 2, h => exact (h) | 3, h => exact (h) | 4, h => exact (h) | 5, h => exact (h) | 6, h => exact (h) | 7, h => exact (h) | _ + 8, _ => exact trivial
  case s0 =>
    refine StepF.of rfl [] (by kernel_rfl) ?_
    intro vs u hB hf K hK
    clear hf
    simp only [putsA, List.foldl_nil, Act.put, List.setIfInBounds_toArray] at hK ⊢
    rw [if_pos (by rfl)]
    go_simp
    exact hK.out _ _ (Below.refl _ _) rfl
  case s1 =>
    refine StepF.of rfl [(0, some 9)] (by kernel_rfl) ?_
    intro vs u hB hf K hK
    have f0 : (fun a u => a = Value.pointer (some ⟨h, 0, none⟩)) (vs 0) u := hf.1
    clear hf
    simp only [putsA, List.foldl_cons, List.foldl_nil, Act.put, List.setIfInBounds_toArray, List.set_cons_zero, List.set_cons_succ] at hK ⊢
    generalize vs 0 = v0 at f0 hK ⊢
    rw [if_pos (by rfl)]
    subst f0
    go_simp
    exact hK.out _ _ (Below.refl _ _) rfl
  case s2 =>
    refine StepF.of rfl [(1, some 10)] (by kernel_rfl) ?_
    intro vs u hB hf K hK
    have f1 : (fun a u => a = Value.pointer (some ⟨h, 0, none⟩)) (vs 1) u := hf.1
    clear hf
    simp only [putsA, List.foldl_cons, List.foldl_nil, Act.put, List.setIfInBounds_toArray, List.set_cons_zero, List.set_cons_succ] at hK ⊢
    generalize vs 1 = v1 at f1 hK ⊢
    rw [if_pos (by rfl)]
    subst f1
    go_simp
    exact hK.out _ _ (Below.refl _ _) rfl
  case s3 =>
    refine StepF.of rfl [] (by kernel_rfl) ?_
    intro vs u hB hf K hK
    clear hf
    simp only [putsA, List.foldl_nil, Act.put, List.setIfInBounds_toArray] at hK ⊢
    rw [if_pos (by rfl)]
    go_simp
    exact hK.out _ _ (Below.refl _ _) rfl
  case s4 =>
    refine StepF.of rfl [(3, some 12)] (by kernel_rfl) ?_
    intro vs u hB hf K hK
    have f3 : (fun a u => a = Value.pointer (some ⟨h, 0, none⟩)) (vs 3) u := hf.1
    clear hf
    simp only [putsA, List.foldl_cons, List.foldl_nil, Act.put, List.setIfInBounds_toArray, List.set_cons_zero, List.set_cons_succ] at hK ⊢
    generalize vs 3 = v3 at f3 hK ⊢
    rw [if_pos (by rfl)]
    subst f3
    have hBW := HBU.out.trans (hB.mono HBU.out.size)
    go_simp
    refine (HS.out _ hBW).mono ?_
    rintro e w2 ⟨rfl, hw2⟩
    replace hw2 := hw2.symm
    subst hw2
    go_simp
    exact hK.out _ _ (Below.refl _ _) rfl
  case s5 =>
    refine StepF.of rfl [(2, some 11), (4, some 13)] (by kernel_rfl) ?_
    intro vs u hB hf K hK
    have f2 : (fun a u => a = Value.pointer (some ⟨h, 1, none⟩)) (vs 2) u := hf.1
    have f4 : (fun a u => a = .int .i64 (n : Int)) (vs 4) u := hf.2.1
    clear hf
    simp only [putsA, List.foldl_cons, List.foldl_nil, Act.put, List.setIfInBounds_toArray, List.set_cons_zero, List.set_cons_succ] at hK ⊢
    generalize vs 2 = v2 at f2 hK ⊢
    generalize vs 4 = v4 at f4 hK ⊢
    rw [if_pos (by rfl)]
    subst f2 f4
    have hi0 : (0 : Int) ≤ (n : Int) := by omega
    have hi1 : (n : Int) ≤ 60 := by omega
    go_simp
    exact hK.out _ _ (Below.refl _ _) rfl
  case s6 =>
    refine StepF.of rfl [(5, some 14)] (by kernel_rfl) ?_
    intro vs u hB hf K hK
    have f5 : (fun a u => a = Value.slice (some ⟨h, 1, none⟩) n 60) (vs 5) u := hf.1
    clear hf
    simp only [putsA, List.foldl_cons, List.foldl_nil, Act.put, List.setIfInBounds_toArray, List.set_cons_zero, List.set_cons_succ] at hK ⊢
    generalize vs 5 = v5 at f5 hK ⊢
    rw [if_pos (by rfl)]
    subst f5
    go_simp
    exact hK.out _ _ (Below.refl _ _) rfl
  case s7 =>
    refine StepF.of rfl [] (by kernel_rfl) ?_
    intro vs u hB hf K hK
    clear hf
    simp only [putsA, List.foldl_nil, Act.put, List.setIfInBounds_toArray] at hK ⊢
    rw [if_pos (by rfl)]
    go_simp
    exact hK.out _ _ (Below.refl _ _) rfl
  case last =>
    intro vs u hB hf
    have f0 : (fun a u => a = Value.pointer (some ⟨h, 0, none⟩)) (vs 0) u := hf.1
    have f1 : (fun a u => a = Value.pointer (some ⟨h, 0, none⟩)) (vs 1) u := hf.2.1
    have f2 : (fun a u => a = Value.pointer (some ⟨h, 1, none⟩)) (vs 2) u := hf.2.2.1
    have f3 : (fun a u => a = Value.pointer (some ⟨h, 0, none⟩)) (vs 3) u := hf.2.2.2.1
    have f4 : (fun a u => a = .int .i64 (n : Int)) (vs 4) u := hf.2.2.2.2.1
    have f5 : (fun a u => a = Value.slice (some ⟨h, 1, none⟩) n 60) (vs 5) u := hf.2.2.2.2.2.1
    have f6 : (fun a u => a = .int .i64 (n : Int)) (vs 6) u := hf.2.2.2.2.2.2.1
    have f7 : (fun a u => a = .int .i64 0) (vs 7) u := hf.2.2.2.2.2.2.2.1
    clear hf
    simp only [putsA, List.foldl_cons, List.foldl_nil, Act.put, List.setIfInBounds_toArray, List.set_cons_zero, List.set_cons_succ]
    generalize vs 0 = v0 at f0 ⊢
    generalize vs 1 = v1 at f1 ⊢
    generalize vs 2 = v2 at f2 ⊢
    generalize vs 3 = v3 at f3 ⊢
    generalize vs 4 = v4 at f4 ⊢
    generalize vs 5 = v5 at f5 ⊢
    generalize vs 6 = v6 at f6 ⊢
    generalize vs 7 = v7 at f7 ⊢
    subst f0 f1 f2 f3 f4 f5 f6 f7
    have HBu : Hid (Below U.heap.size U u) := hB
    clear hB
    go_wp2_with fail
    have HBw : Hid (Below W.heap.size W u) := HBU.out.trans (HBu.out.mono HBU.out.size)
    have HOu : Hid (u.ownsRow W.heap.size 33 5 (.slice (some ⟨W.heap.size, 0, none⟩) 0 n) 0 (cellsG (l.take 0))) := own_below HO0.out HBu.out
    go_loopw [3, 16] (fun v i wr => ∃ (k : Nat) (ao : Option Addr) (cp : Nat), k ≤ l.length ∧ i = .int .i64 (k : Int) ∧ v = .slice ao k cp ∧ Hid (wr.ownsRow W.heap.size 33 5 (.slice ao k cp) k (cellsG (l.take k))) ∧ Hid (Below W.heap.size W wr)) (fun _ i _ => l.length - (RowKit.intOf i).toNat)
    case atStart => exact ⟨0, some ⟨W.heap.size, 0, none⟩, n, Nat.zero_le _, rfl, rfl, HOu.out, HBw.out⟩
    case round =>
      clear HO0 HBu HBU HOu HBw
      obtain ⟨k, ao, cp, hk, rfl, rfl, HO, HB⟩ := hrel
      by_cases hkl : k < l.length
      · have hkn : (k : Int) < (n : Int) := by have := HN.out; omega
        have hkn' : k < n := by have := HN.out; omega
        have hrow := (HG.out.below HB.out).row k (by simpa using hkl)
        obtain ⟨t, ht⟩ : ∃ t, t = l[k]'hkl := ⟨_, rfl⟩
        have hrt : (l.map rwOf)[k]'(by simpa using hkl) = rwOf t := by rw [List.getElem_map, ht]
        rw [hrt] at hrow
        obtain ⟨c0, c1, c2, c3, c4⟩ := hrow
        have HRG : Hid (∀ q, Calls Try.prog 47 #[(rwOf t).val] q fun e w' => e = .returned t.val ∧ Below q.heap.size q w') := fun q => by
          rw [ht]
          exact rowGlobal_any _ q (HF.out k hkl).1 (HF.out k hkl).2
        have HNx : Hid (cellsG (l.take (k + 1)) = cellsG (l.take k) ++ [.string t.name, .int .i64 t.value.kind, .int .i64 t.value.num, .string t.value.name, .int .i64 t.ver]) := by
          show _ = _
          rw [takeG l k hkl, cellsG_append, ← ht]
          rfl
        obtain ⟨r, hr⟩ : ∃ r, r = rwOf t := ⟨_, rfl⟩
        rw [← hr] at HRG c0 c1 c2 c3 c4
        have zw := HB.out.size
        clear ht hr hrt
        go_wp2_with fail
        refine (HRG.out _).mono ?_
        rintro e w3 ⟨rfl, hb3⟩
        have HO3 : Hid (w3.ownsRow W.heap.size 33 5 (.slice ao k cp) k (cellsG (l.take k))) := own_below (by repeat (first | exact HO.out | refine own_otherG ?_ (fun g hg e => by have := (HO.out.lt g hg).2; omega) | refine World.ownsRow.alloc ?_ _)) hb3
        have HB3 : Hid (Below W.heap.size W w3) := Below.trans (by repeat (first | exact HB.out | refine Below.alloc ?_ zw _)) (hb3.mono (by simp; omega))
        have z3 := HB3.out.size
        clear hb3 c0 c1 c2 c3 c4
        go_wp2_with (at_builtin; refine wpList_append_lies _ rfl (.tmp 20) (.tmp 23) 24 rfl W.heap.size 33 i0 _ 5 56 Try.underlying24 hi hz0 hz1 hz2 rfl (by decide) _ k (cellsG (l.take k)) rfl (HO3.out.alloc _) ⟨_, 0, none⟩ 1 1 [.string t.name, .int .i64 t.value.kind, .int .i64 t.value.num, .string t.value.name, .int .i64 t.ver] rfl rfl ?c1 ?c2 (by decide) ?c3 ?c4 ?c5 _ rfl ?_)
        case c1 => exact World.news_of_block (cs := #[.string t.name, .int .i64 t.value.kind, .int .i64 t.value.num, .string t.value.name, .int .i64 t.ver]) (t := 33) (fr := (0, 0)) (heap_new' _ _ _ (by simp))
        case c2 => intro u hu; simp at hu; rcases hu with rfl | rfl | rfl | rfl | rfl <;> rfl
        case c3 => unfold maxLen; omega
        case c4 => omega
        case c5 => simp; omega
        intro g' cap' w4 hown4 hgrow4 hat4 hlt4
        have HO4 : Hid (w4.ownsRow W.heap.size 33 5 (.slice (some ⟨g', 0, none⟩) (k + 1) cap') (k + 1) (cellsG (l.take (k + 1)))) := by
          show World.ownsRow _ _ _ _ _ _ _
          rw [HNx.out]; exact hown4
        have HB4 : Hid (Below W.heap.size W w4) := Below.grown (HB3.out.alloc z3 _) hgrow4 (by simp; omega) (fun j hj => (HO3.out.lt j hj).1)
        clear hown4 hgrow4 hat4 HO HB HO3 HB3
        go_wp2
        exact ⟨⟨k + 1, some ⟨g', 0, none⟩, cap', by omega, by go_num, rfl, HO4.out, HB4.out⟩, by simp [RowKit.intOf]; omega⟩
      · have hk2 : k = l.length := by omega
        subst hk2
        have hkn : ¬ ((l.length : Int) < (n : Int)) := by have := HN.out; omega
        have q0 := cell_keep HB.out HQ.out.1
        have q1 := cell_keep HB.out HQ.out.2.1
        have qf : ∀ o, wr.frozen? ⟨w.heap.size, o, none⟩ = false := fun o => by rw [(bcell HB.out).2 _ _ (by have := HzW.out; omega)]; exact HQ.out.2.2 o
        have HBf : Hid (Below w.heap.size w wr) := HBW.out.trans (HB.out.mono (by have := HzW.out; omega))
        have HOf : Hid (wr.ownsRow w.heap.size 33 5 (.slice ao l.length cp) l.length (cellsG l)) := by
          have h0 := HO.out
          rw [List.take_length] at h0
          exact own_base h0 (by have := HzW.out; omega)
        go_wp2
        refine bodyPost_ret (v := .agg #[.int .i64 0, .slice ao l.length cp]) (by simp [results, Try.results65, go_sem, q0, q1]) rfl ⟨ao, cp, rfl, ?_, ?_⟩
        · repeat (first | exact HOf.out | refine own_otherG ?_ (fun g hg e => by have := (HO.out.lt g hg).1; have := HzW.out; omega))
        · repeat (first | refine Below.setCell ?_ (by simp <;> omega) _ | exact HBf.out)
end Go.Proofs.Ytgfienijabkpjaa
/-
  The program's turned, with define and with set: what is asked ahead, then globals with one turned, in a row of their own; nothing that was there is turned.
-/
namespace Go.Proofs.Ytgfienijabkpjaa
open Go.RowKit Go.Extern.Stop Go.Stop Go.Extern Num Go.Lib

theorem GlAt.there {w : World} {h b : Nat} {rs : List Rw} (H : GlAt w h b rs) : w.there h 0 301 := fun j hj => by
  obtain ⟨u, hu⟩ := H.has j hj
  rw [Nat.zero_add]
  exact ⟨by rw [hu]; rfl, H.free j⟩
set_option maxRecDepth 100000 in
set_option maxHeartbeats 4000000 in
theorem turned_define (ao : Option Addr) (cap g : Nat) (l : List Glb) (s : ByteArray) (v : Vlu) (w : World) (R : Int) (M m : List Glb) (cc : Int) (hl : l.length ≤ 1048576) (hao : 0 < l.length → ao = some ⟨g, 0, none⟩) (hr : RowG w g l) (hz : ableG l) (hs : s.size ≤ 9223372036854775807) (hv : v.name.size ≤ 9223372036854775807)
    (hdf : ∀ C b u, GlC C.toList b (l.map rwOf) → MapW u b ((l.map rwOf).map Rw.name) → ((l.map rwOf).map Rw.name).Nodup → GFine l l.length → symL s.data.toList = true → vfault v = 0 → Calls Try.prog 39 #[.agg C, (nW s).val, (wdOf v).val] u fun e w' => AnsDf u m cc e w')
    (hm : GFine l l.length → symL s.data.toList = true → vfault v = 0 → cc = 0 → ∀ (k : Nat) (h : k < m.length), symL m[k].name.data.toList = true ∧ vfault m[k].value = 0)
    (hR : R = if askG l s ≠ 0 then askG l s else if vfault v ≠ 0 then vfault v else cc) (hM : M = if askG l s ≠ 0 then [] else if vfault v ≠ 0 then [] else if cc ≠ 0 then [] else m) :
    Calls Try.prog 38 #[.slice ao l.length cap, .string s, v.val, .func (.func 39) #[] #[]] w fun e w' => AnsD w R M e w' := by
  obtain ⟨c, hc⟩ : ∃ c, c = askG l s := ⟨_, rfl⟩
  obtain ⟨d, hd⟩ : ∃ d, d = vfault v := ⟨_, rfl⟩
  obtain ⟨y, hy⟩ : ∃ y, y = wdOf v := ⟨_, rfl⟩
  rw [← hc, ← hd] at hR hM
  obtain ⟨W, hW⟩ : ∃ W, W = (w.alloc (.cells #[.int .i64 v.kind, .int .i64 v.num, .string v.name] 26)).alloc (.cells #[.int .i64 0, .slice none 0 0] 30) := ⟨_, rfl⟩
  have HW : Hid (W = (w.alloc (.cells #[.int .i64 v.kind, .int .i64 v.num, .string v.name] 26)).alloc (.cells #[.int .i64 0, .slice none 0 0] 30)) := hW
  have HBW : Hid (Below w.heap.size w W) := by rw [hW]; exact ((Below.refl _ _).alloc (Nat.le_refl _) _).alloc (by simp) _
  have zW : W.heap.size = w.heap.size + 2 := by rw [hW]; simp
  have HVW : Hid (VluAt w.heap.size 0 v W) := by
    rw [hW]
    exact ⟨by rw [World.cell?_alloc_past _ _ _ (by simp), World.cell?_alloc_at _ _ _ _ rfl]; rfl, by rw [World.cell?_alloc_past _ _ _ (by simp), World.cell?_alloc_at _ _ _ _ rfl]; rfl, by rw [World.cell?_alloc_past _ _ _ (by simp), World.cell?_alloc_at _ _ _ _ rfl]; rfl⟩
  have HRW : Hid (W.cell? ⟨w.heap.size + 1, 0, none⟩ = some (.int .i64 0) ∧ W.cell? ⟨w.heap.size + 1, 1, none⟩ = some (.slice none 0 0) ∧ ∀ o, W.frozen? ⟨w.heap.size + 1, o, none⟩ = false) := by
    rw [hW]
    exact ⟨by rw [World.cell?_alloc_at _ _ _ _ (by simp)]; rfl, by rw [World.cell?_alloc_at _ _ _ _ (by simp)]; rfl, fun o => by rw [World.frozen?_alloc_at _ _ _ _ (by simp)]⟩
  have HC : Hid (Calls Try.prog 45 #[.slice ao l.length cap, .string s] W fun e w' => AnsGw W l s c e w') := by rw [hc]; exact globalsWith_any ao cap g l s W hl hao (hr.below HBW.out) hz hs
  have HWd : Hid (∀ u, Calls Try.prog 64 #[v.val] u fun e w' => e = .returned (.tuple #[y.val, .int .i64 d]) ∧ Below u.heap.size u w') := fun u => by rw [hy, hd]; exact wordOf_any v u hv
  have HDF : Hid (∀ C b u, c = 0 → d = 0 → GlC C.toList b (l.map rwOf) → MapW u b ((l.map rwOf).map Rw.name) → ((l.map rwOf).map Rw.name).Nodup → Calls Try.prog 39 #[.agg C, (nW s).val, y.val] u fun e w' => AnsDf u m cc e w') := fun C b u h0 h1 h2 h3 h4 => by
    obtain ⟨_, hsy, _, hfi⟩ := ask_fine2 (hc.symm.trans h0)
    rw [hy]
    exact hdf C b u h2 h3 h4 hfi hsy (hd.symm.trans h1)
  have HM : Hid (c = 0 → d = 0 → cc = 0 → ∀ (k : Nat) (h : k < m.length), symL m[k].name.data.toList = true ∧ vfault m[k].value = 0) := fun h0 h1 h2 => by
    obtain ⟨_, hsy, _, hfi⟩ := ask_fine2 (hc.symm.trans h0)
    exact hm hfi hsy (hd.symm.trans h1) h2
  have HR : Hid (R = (if c ≠ 0 then c else if d ≠ 0 then d else cc) ∧ M = (if c ≠ 0 then [] else if d ≠ 0 then [] else if cc ≠ 0 then [] else m)) := ⟨hR, hM⟩
  clear hW hc hd hy hR hM hl hao hr hz hs hv hdf hm
  go_enter Try.func38, Try.ntmps38
  go_wp2_with fail
  rw [← HW.out]
  refine HC.out.mono ?_
  rintro e w1 ⟨C, x, rfl, hCs, hCa, hC0, hb1⟩
  have HC0 : Hid (c = 0 → x = nW s ∧ ∃ b, W.heap.size ≤ b ∧ GlC C.toList b (l.map rwOf) ∧ MapW w1 b ((l.map rwOf).map Rw.name) ∧ ((l.map rwOf).map Rw.name).Nodup) := hC0
  have HCa : Hid (C.all (·.oneCell') = true) := hCa
  have HB1 : Hid (Below W.heap.size W w1) := hb1
  have z1 : w.heap.size + 1 < w1.heap.size := by have := hb1.size; omega
  have HT1 : Hid (((w1.alloc (.cells Try.zeroCells79 79)).alloc (.cells #[.int .u8 0, .int .u64 0] 74)).there w1.heap.size 0 C.size) := by rw [hCs]; exact World.there_alloc (there_new w1 _ _ (by simp)) _
  obtain ⟨U, hU⟩ : ∃ U, U = ((w1.alloc (.cells Try.zeroCells79 79)).alloc (.cells #[.int .u8 0, .int .u64 0] 74)).setCells w1.heap.size 0 C.toList := ⟨_, rfl⟩
  have HU : Hid (U = ((w1.alloc (.cells Try.zeroCells79 79)).alloc (.cells #[.int .u8 0, .int .u64 0] 74)).setCells w1.heap.size 0 C.toList) := hU
  have HBU : Hid (Below w1.heap.size w1 U) := by rw [hU]; exact below_setCells (((Below.refl _ _).alloc (Nat.le_refl _) _).alloc (by simp) _) (Nat.le_refl _) _ _
  have HRU : Hid (U.rangeAt w1.heap.size 0 C.toList ∧ ∀ j, U.frozen? ⟨w1.heap.size, j, none⟩ = false) := by
    rw [hU]
    refine ⟨World.rangeAt_setCells_same _ _ _ _ (by rw [Array.length_toList]; exact HT1.out), fun j => ?_⟩
    rw [World.frozen?_setCells, World.frozen?_alloc_past _ _ _ (by simp), World.frozen?_alloc_at _ _ _ _ rfl]
  have u0 : U.cell? ⟨w1.heap.size + 1, 0, none⟩ = some (.int .u8 0) := by rw [hU, cell_setCells (by omega), World.cell?_alloc_at _ _ _ _ (by simp)]; rfl
  have u1 : U.cell? ⟨w1.heap.size + 1, 1, none⟩ = some (.int .u64 0) := by rw [hU, cell_setCells (by omega), World.cell?_alloc_at _ _ _ _ (by simp)]; rfl
  have uf : ∀ o, U.frozen? ⟨w1.heap.size + 1, o, none⟩ = false := fun o => by rw [hU, World.frozen?_setCells, World.frozen?_alloc_at _ _ _ _ (by simp)]
  have zU : w1.heap.size + 1 < U.heap.size := lt_of_cell u0
  have HBW1 : Hid (Below W.heap.size W U) := HB1.out.trans (HBU.out.mono HB1.out.size)
  have y0 := cell_keep HBW1.out HRW.out.1
  have y1 := cell_keep HBW1.out HRW.out.2.1
  have yf : ∀ o, U.frozen? ⟨w.heap.size + 1, o, none⟩ = false := fun o => by rw [(bcell HBW1.out).2 _ _ (by omega)]; exact HRW.out.2.2 o
  have HBw : Hid (Below w.heap.size w U) := HBW.out.trans (HBW1.out.mono HBW.out.size)
  clear hU hCa hb1 hC0 HC
  by_cases h0 : c = 0
  case neg =>
    have HE : Hid (R = c ∧ M = []) := ⟨by rw [HR.out.1, if_pos h0], by rw [HR.out.2, if_pos h0]⟩
    have h0' : (c != 0) = true := by simpa using h0
    clear HR h0 HC0 HDF HM HWd
    go_wp2_with (refine wpList_store_mid rfl 79 _ _ rfl w1.heap.size 0 C rfl rfl HT1.out (by rw [infoGl, hCs]) HCa.out ?_; rw [← HU.out])
    exact bodyPost_ret (v := .agg #[.int .i64 c, .slice none 0 0]) (by simp [results, Try.results38, go_sem, y0, y1]) rfl ⟨none, 0, by rw [HE.out.1, HE.out.2]; rfl, by rw [HE.out.2]; exact noneG _ _, by repeat (first | exact HBw.out | refine Below.setCell ?_ (by simp <;> omega) _)⟩
  subst h0
  obtain ⟨hxs, b, hbb, hGl, hMp, hNd⟩ := HC0.out rfl
  obtain ⟨V, hV⟩ : ∃ V, V = (U.setCell ⟨w1.heap.size + 1, 0, none⟩ (.int .u8 x.tag)).setCell ⟨w1.heap.size + 1, 1, none⟩ (.int .u64 x.rest) := ⟨_, rfl⟩
  have HV : Hid (V = (U.setCell ⟨w1.heap.size + 1, 0, none⟩ (.int .u8 x.tag)).setCell ⟨w1.heap.size + 1, 1, none⟩ (.int .u64 x.rest)) := hV
  have zV : V.heap.size = U.heap.size := by rw [hV]; simp
  have HGV : Hid (GlAt V w1.heap.size b (l.map rwOf)) := by
    have hbl : b < w1.heap.size := hMp.lt
    rw [hV]
    refine ⟨by omega, ?_, hNd, fun j => by simp only [World.frozen?_setCell]; exact HRU.out.2 j, C.toList, range_other (range_other HRU.out.1 (by omega)) (by omega), hGl⟩
    refine hMp.keep ?_
    have hs1 : ∀ (q : World) (o : Nat) (z : Value), (q.setCell ⟨w1.heap.size + 1, o, none⟩ z).heap[b]? = q.heap[b]? := fun q o z => RowKit.Below.heap_setCell _ _ _ _ (show b ≠ w1.heap.size + 1 by omega)
    rw [hs1, hs1]
    exact HBU.out.block b hbl
  have HRV : Hid (V.rangeAt w1.heap.size 0 C.toList) := by rw [hV]; exact range_other (range_other HRU.out.1 (by omega)) (by omega)
  have HVx : Hid (V.cell? ⟨w1.heap.size + 1, 0, none⟩ = some (.int .u8 x.tag) ∧ V.cell? ⟨w1.heap.size + 1, 1, none⟩ = some (.int .u64 x.rest)) := by
    rw [hV]
    exact ⟨by rw [World.cell?_setCell_other _ _ _ _ (by simp), World.cell?_setCell_same _ _ _ u0], by rw [World.cell?_setCell_same _ _ _ (by rw [World.cell?_setCell_other _ _ _ _ (by simp)]; exact u1)]⟩
  have HVo : Hid (∀ B o z, B ≠ w1.heap.size + 1 → U.cell? ⟨B, o, none⟩ = some z → V.cell? ⟨B, o, none⟩ = some z) := fun B o z hB h => by
    rw [hV, World.cell?_setCell_other _ _ _ _ (by simp), World.cell?_setCell_other _ _ _ _ (by simp)]; exact h
  have HYV : Hid (V.cell? ⟨w.heap.size + 1, 0, none⟩ = some (.int .i64 0) ∧ V.cell? ⟨w.heap.size + 1, 1, none⟩ = some (.slice none 0 0) ∧ ∀ o, V.frozen? ⟨w.heap.size + 1, o, none⟩ = false) := ⟨HVo.out _ _ _ (by omega) y0, HVo.out _ _ _ (by omega) y1, fun o => by rw [hV, World.frozen?_setCell, World.frozen?_setCell]; exact yf o⟩
  have HBV : Hid (Below w.heap.size w V) := by rw [hV]; exact (HBw.out.setCell (by simp; omega) _).setCell (by simp; omega) _
  have HDf : Hid (∀ u, Below V.heap.size V u → d = 0 → Calls Try.prog 39 #[.agg C, x.val, y.val] u fun e w' => AnsDf u m cc e w') := fun u hu h1 => by
    rw [hxs]
    exact HDF.out C b u rfl h1 hGl (HGV.out.below hu).map hNd
  have v0 := cell_keep HBW1.out HVW.out.c0
  have v1 := cell_keep HBW1.out HVW.out.c1
  have v2 := cell_keep HBW1.out HVW.out.c2
  have hvn : ¬ w.heap.size = w1.heap.size + 1 := by omega
  clear hGl hMp hNd HC0 hbb hV HVo HBw hxs HDF
  go_wp2_with (refine wpList_store_mid rfl 79 _ _ rfl w1.heap.size 0 C rfl rfl HT1.out (by rw [infoGl, hCs]) HCa.out ?_; rw [← HU.out])
  rw [← HV.out]
  clear u0 u1 uf HU HV HT1 v0 v1 v2 y0 y1 yf
  refine (HWd.out _).mono ?_
  rintro e w2 ⟨rfl, hb2⟩
  have y0 := cell_keep hb2 HYV.out.1
  have y1 := cell_keep hb2 HYV.out.2.1
  have yf : ∀ o, w2.frozen? ⟨w.heap.size + 1, o, none⟩ = false := fun o => by rw [(bcell hb2).2 _ _ (by omega)]; exact HYV.out.2.2 o
  have z2 : w1.heap.size + 1 < w2.heap.size := by have := hb2.size; omega
  have z2a : w.heap.size + 1 < w2.heap.size := by omega
  have HBV2 : Hid (Below V.heap.size V w2) := hb2
  have HB2 : Hid (Below w.heap.size w w2) := HBV.out.trans (hb2.mono (by omega))
  clear hb2 HWd
  by_cases h1 : d = 0
  case neg =>
    have HE : Hid (R = d ∧ M = []) := ⟨by rw [HR.out.1, if_neg (by simp), if_pos h1], by rw [HR.out.2, if_neg (by simp), if_pos h1]⟩
    have h1' : (d != 0) = true := by simpa using h1
    clear HR h1 HDf HM
    go_wp2
    exact bodyPost_ret (v := .agg #[.int .i64 d, .slice none 0 0]) (by simp [results, Try.results38, go_sem, y0, y1, z2a]) rfl ⟨none, 0, by rw [HE.out.1, HE.out.2]; rfl, by rw [HE.out.2]; exact noneG _ _, by repeat (first | exact HB2.out | refine Below.setCell ?_ (by simp <;> omega) _ | refine Below.alloc ?_ (by simp; omega) _)⟩
  subst h1
  obtain ⟨X, hX⟩ : ∃ X, X = w2.alloc (.cells #[.int .u8 y.tag, .int .u64 y.rest] 74) := ⟨_, rfl⟩
  have HX : Hid (X = w2.alloc (.cells #[.int .u8 y.tag, .int .u64 y.rest] 74)) := hX
  have HBX : Hid (Below V.heap.size V X) := by rw [hX]; exact HBV2.out.alloc HBV2.out.size _
  have HRX : Hid ((w2.alloc (.cells #[.int .u8 y.tag, .int .u64 y.rest] 74)).rangeAt w1.heap.size 0 C.toList) := by rw [← hX]; exact range_below HRV.out HBX.out
  have HBwX : Hid (Below w.heap.size w X) := HBV.out.trans (HBX.out.mono (by omega))
  have x0 := cell_keep HBV2.out HVx.out.1
  have x1 := cell_keep HBV2.out HVx.out.2
  have zX : X.heap.size = w2.heap.size + 1 := by rw [hX]; simp
  clear hX y0 y1 yf
  go_wp2_with (refine wpList_load_mid rfl 79 _ rfl w1.heap.size 0 rfl C.toList _ HRX.out Try.underlying79 rfl (by rw [infoGl, Array.length_toList, hCs]) ?_; rw [Array.toArray_toList])
  rw [← HX.out]
  clear x0 x1 HRX HX
  refine (HDf.out _ HBX.out (by trivial)).mono ?_
  rintro e w3 ⟨D, rfl, hDs, hDa, hD0, hb3⟩
  have HBV3 : Hid (Below V.heap.size V w3) := HBX.out.trans (hb3.mono HBX.out.size)
  have HD0 : Hid (cc = 0 → ∃ d, GlC D.toList d (m.map rwOf) ∧ MapW w3 d ((m.map rwOf).map Rw.name) ∧ ((m.map rwOf).map Rw.name).Nodup) := hD0
  have HDa : Hid (D.all (·.oneCell') = true) := hDa
  have HT3 : Hid (w3.there w1.heap.size 0 301) := there_below HGV.out.there HBV3.out
  have HTD : Hid (w3.there w1.heap.size 0 D.size) := by rw [hDs]; exact HT3.out
  obtain ⟨Y, hY⟩ : ∃ Y, Y = w3.setCells w1.heap.size 0 D.toList := ⟨_, rfl⟩
  have HY : Hid (Y = w3.setCells w1.heap.size 0 D.toList) := hY
  have y0 : Y.cell? ⟨w.heap.size + 1, 0, none⟩ = some (.int .i64 0) := by rw [hY, cell_setCells (by omega)]; exact cell_keep HBV3.out HYV.out.1
  have y1 : Y.cell? ⟨w.heap.size + 1, 1, none⟩ = some (.slice none 0 0) := by rw [hY, cell_setCells (by omega)]; exact cell_keep HBV3.out HYV.out.2.1
  have yf : ∀ o, Y.frozen? ⟨w.heap.size + 1, o, none⟩ = false := fun o => by rw [hY, World.frozen?_setCells, (bcell HBV3.out).2 _ _ (by omega)]; exact HYV.out.2.2 o
  have HBY : Hid (Below w.heap.size w Y) := by rw [hY]; exact below_setCells (HBV.out.trans (HBV3.out.mono (by omega))) (by omega) _ _
  have HYr : Hid (Y.rangeAt w1.heap.size 0 D.toList ∧ ∀ j, Y.frozen? ⟨w1.heap.size, j, none⟩ = false) := by
    rw [hY]
    exact ⟨World.rangeAt_setCells_same _ _ _ _ (by rw [Array.length_toList]; exact HTD.out), fun j => by rw [World.frozen?_setCells, (bcell HBV3.out).2 _ _ (by omega)]; exact HGV.out.free j⟩
  have HYm : Hid (∀ i, i ≠ w1.heap.size → Y.heap[i]? = w3.heap[i]?) := fun i hi => by rw [hY]; exact heap_setCells hi _ _ _
  have zY : w.heap.size + 1 < Y.heap.size := lt_of_cell y0
  clear hb3 hD0 hDa hY HDf
  by_cases h2 : cc = 0
  case neg =>
    have HE : Hid (R = cc ∧ M = []) := ⟨by rw [HR.out.1, if_neg (by simp), if_neg (by simp)], by rw [HR.out.2, if_neg (by simp), if_neg (by simp), if_pos h2]⟩
    have h2' : (cc != 0) = true := by simpa using h2
    clear HR h2 HD0 HM
    go_wp2_with (refine wpList_store_mid rfl 79 _ _ rfl w1.heap.size 0 D rfl rfl HTD.out (by rw [infoGl, hDs]) HDa.out ?_; rw [← HY.out])
    exact bodyPost_ret (v := .agg #[.int .i64 cc, .slice none 0 0]) (by simp [results, Try.results38, go_sem, y0, y1]) rfl ⟨none, 0, by rw [HE.out.1, HE.out.2]; rfl, by rw [HE.out.2]; exact noneG _ _, by repeat (first | exact HBY.out | refine Below.setCell ?_ (by simp <;> omega) _)⟩
  subst h2
  have HE : Hid (R = 0 ∧ M = m) := ⟨by rw [HR.out.1]; simp, by rw [HR.out.2]; simp⟩
  have HAn : Hid (Calls Try.prog 65 #[.pointer (some ⟨w1.heap.size, 0, none⟩)] Y fun e w' => AnsD Y 0 m e w') := by
    obtain ⟨q, h1, h2, h3⟩ := HD0.out rfl
    have hq := map_ne_there h2 HT3.out
    exact answer_g w1.heap.size q m Y ⟨Ne.symm hq, h2.keep (HYm.out q hq), h3, HYr.out.2, D.toList, HYr.out.1, h1⟩ (HM.out (by trivial) (by trivial) (by trivial))
  clear HD0 HM HR HYm
  go_wp2_with (refine wpList_store_mid rfl 79 _ _ rfl w1.heap.size 0 D rfl rfl HTD.out (by rw [infoGl, hDs]) HDa.out ?_; rw [← HY.out])
  refine HAn.out.mono ?_
  rintro e w4 ⟨aq, cq, rfl, ho, hb4⟩
  have r0 := cell_keep hb4 y0
  have r1 := cell_keep hb4 y1
  have rf : ∀ o, w4.frozen? ⟨w.heap.size + 1, o, none⟩ = false := fun o => by rw [(bcell hb4).2 _ _ (by omega)]; exact yf o
  have HO4 : Hid (w4.ownsRow w.heap.size 33 5 (.slice aq m.length cq) m.length (cellsG m)) := own_base ho (by omega)
  have HNE : Hid (∀ g, (Value.slice aq m.length cq).ownBlock = some g → w.heap.size + 1 < g) := fun g hg => by have := ho.lt g hg; omega
  have HB4 : Hid (Below w.heap.size w w4) := HBY.out.trans (hb4.mono (by omega))
  have z4 : w.heap.size + 1 < w4.heap.size := lt_of_cell r0
  obtain ⟨n, hn⟩ : ∃ n, n = m.length := ⟨_, rfl⟩
  have HN : Hid (n = m.length) := hn
  rw [← hn]
  clear hb4 ho y0 y1 yf HAn hn
  go_wp2
  refine bodyPost_ret (v := .agg #[.int .i64 0, .slice aq n cq]) (by simp [results, Try.results38, go_sem, r0, r1]) rfl ⟨aq, cq, by rw [HN.out, HE.out.1, HE.out.2], ?_, ?_⟩
  · rw [HE.out.2]
    repeat (first | exact HO4.out | refine own_set' ?_ (fun g hg e => by have := HNE.out g hg; simp at e; omega) _)
  · repeat (first | refine Below.setCell ?_ (by simp <;> omega) _ | exact HB4.out)
set_option maxRecDepth 100000 in
set_option maxHeartbeats 4000000 in
theorem turned_set (ao : Option Addr) (cap g : Nat) (l : List Glb) (s : ByteArray) (v : Vlu) (w : World) (R : Int) (M m : List Glb) (cc : Int) (hl : l.length ≤ 1048576) (hao : 0 < l.length → ao = some ⟨g, 0, none⟩) (hr : RowG w g l) (hz : ableG l) (hs : s.size ≤ 9223372036854775807) (hv : v.name.size ≤ 9223372036854775807)
    (hdf : ∀ C b u, GlC C.toList b (l.map rwOf) → MapW u b ((l.map rwOf).map Rw.name) → ((l.map rwOf).map Rw.name).Nodup → GFine l l.length → symL s.data.toList = true → vfault v = 0 → Calls Try.prog 40 #[.agg C, (nW s).val, (wdOf v).val] u fun e w' => AnsDf u m cc e w')
    (hm : GFine l l.length → symL s.data.toList = true → vfault v = 0 → cc = 0 → ∀ (k : Nat) (h : k < m.length), symL m[k].name.data.toList = true ∧ vfault m[k].value = 0)
    (hR : R = if askG l s ≠ 0 then askG l s else if vfault v ≠ 0 then vfault v else cc) (hM : M = if askG l s ≠ 0 then [] else if vfault v ≠ 0 then [] else if cc ≠ 0 then [] else m) :
    Calls Try.prog 38 #[.slice ao l.length cap, .string s, v.val, .func (.func 40) #[] #[]] w fun e w' => AnsD w R M e w' := by
  obtain ⟨c, hc⟩ : ∃ c, c = askG l s := ⟨_, rfl⟩
  obtain ⟨d, hd⟩ : ∃ d, d = vfault v := ⟨_, rfl⟩
  obtain ⟨y, hy⟩ : ∃ y, y = wdOf v := ⟨_, rfl⟩
  rw [← hc, ← hd] at hR hM
  obtain ⟨W, hW⟩ : ∃ W, W = (w.alloc (.cells #[.int .i64 v.kind, .int .i64 v.num, .string v.name] 26)).alloc (.cells #[.int .i64 0, .slice none 0 0] 30) := ⟨_, rfl⟩
  have HW : Hid (W = (w.alloc (.cells #[.int .i64 v.kind, .int .i64 v.num, .string v.name] 26)).alloc (.cells #[.int .i64 0, .slice none 0 0] 30)) := hW
  have HBW : Hid (Below w.heap.size w W) := by rw [hW]; exact ((Below.refl _ _).alloc (Nat.le_refl _) _).alloc (by simp) _
  have zW : W.heap.size = w.heap.size + 2 := by rw [hW]; simp
  have HVW : Hid (VluAt w.heap.size 0 v W) := by
    rw [hW]
    exact ⟨by rw [World.cell?_alloc_past _ _ _ (by simp), World.cell?_alloc_at _ _ _ _ rfl]; rfl, by rw [World.cell?_alloc_past _ _ _ (by simp), World.cell?_alloc_at _ _ _ _ rfl]; rfl, by rw [World.cell?_alloc_past _ _ _ (by simp), World.cell?_alloc_at _ _ _ _ rfl]; rfl⟩
  have HRW : Hid (W.cell? ⟨w.heap.size + 1, 0, none⟩ = some (.int .i64 0) ∧ W.cell? ⟨w.heap.size + 1, 1, none⟩ = some (.slice none 0 0) ∧ ∀ o, W.frozen? ⟨w.heap.size + 1, o, none⟩ = false) := by
    rw [hW]
    exact ⟨by rw [World.cell?_alloc_at _ _ _ _ (by simp)]; rfl, by rw [World.cell?_alloc_at _ _ _ _ (by simp)]; rfl, fun o => by rw [World.frozen?_alloc_at _ _ _ _ (by simp)]⟩
  have HC : Hid (Calls Try.prog 45 #[.slice ao l.length cap, .string s] W fun e w' => AnsGw W l s c e w') := by rw [hc]; exact globalsWith_any ao cap g l s W hl hao (hr.below HBW.out) hz hs
  have HWd : Hid (∀ u, Calls Try.prog 64 #[v.val] u fun e w' => e = .returned (.tuple #[y.val, .int .i64 d]) ∧ Below u.heap.size u w') := fun u => by rw [hy, hd]; exact wordOf_any v u hv
  have HDF : Hid (∀ C b u, c = 0 → d = 0 → GlC C.toList b (l.map rwOf) → MapW u b ((l.map rwOf).map Rw.name) → ((l.map rwOf).map Rw.name).Nodup → Calls Try.prog 40 #[.agg C, (nW s).val, y.val] u fun e w' => AnsDf u m cc e w') := fun C b u h0 h1 h2 h3 h4 => by
    obtain ⟨_, hsy, _, hfi⟩ := ask_fine2 (hc.symm.trans h0)
    rw [hy]
    exact hdf C b u h2 h3 h4 hfi hsy (hd.symm.trans h1)
  have HM : Hid (c = 0 → d = 0 → cc = 0 → ∀ (k : Nat) (h : k < m.length), symL m[k].name.data.toList = true ∧ vfault m[k].value = 0) := fun h0 h1 h2 => by
    obtain ⟨_, hsy, _, hfi⟩ := ask_fine2 (hc.symm.trans h0)
    exact hm hfi hsy (hd.symm.trans h1) h2
  have HR : Hid (R = (if c ≠ 0 then c else if d ≠ 0 then d else cc) ∧ M = (if c ≠ 0 then [] else if d ≠ 0 then [] else if cc ≠ 0 then [] else m)) := ⟨hR, hM⟩
  clear hW hc hd hy hR hM hl hao hr hz hs hv hdf hm
  go_enter Try.func38, Try.ntmps38
  go_wp2_with fail
  rw [← HW.out]
  refine HC.out.mono ?_
  rintro e w1 ⟨C, x, rfl, hCs, hCa, hC0, hb1⟩
  have HC0 : Hid (c = 0 → x = nW s ∧ ∃ b, W.heap.size ≤ b ∧ GlC C.toList b (l.map rwOf) ∧ MapW w1 b ((l.map rwOf).map Rw.name) ∧ ((l.map rwOf).map Rw.name).Nodup) := hC0
  have HCa : Hid (C.all (·.oneCell') = true) := hCa
  have HB1 : Hid (Below W.heap.size W w1) := hb1
  have z1 : w.heap.size + 1 < w1.heap.size := by have := hb1.size; omega
  have HT1 : Hid (((w1.alloc (.cells Try.zeroCells79 79)).alloc (.cells #[.int .u8 0, .int .u64 0] 74)).there w1.heap.size 0 C.size) := by rw [hCs]; exact World.there_alloc (there_new w1 _ _ (by simp)) _
  obtain ⟨U, hU⟩ : ∃ U, U = ((w1.alloc (.cells Try.zeroCells79 79)).alloc (.cells #[.int .u8 0, .int .u64 0] 74)).setCells w1.heap.size 0 C.toList := ⟨_, rfl⟩
  have HU : Hid (U = ((w1.alloc (.cells Try.zeroCells79 79)).alloc (.cells #[.int .u8 0, .int .u64 0] 74)).setCells w1.heap.size 0 C.toList) := hU
  have HBU : Hid (Below w1.heap.size w1 U) := by rw [hU]; exact below_setCells (((Below.refl _ _).alloc (Nat.le_refl _) _).alloc (by simp) _) (Nat.le_refl _) _ _
  have HRU : Hid (U.rangeAt w1.heap.size 0 C.toList ∧ ∀ j, U.frozen? ⟨w1.heap.size, j, none⟩ = false) := by
    rw [hU]
    refine ⟨World.rangeAt_setCells_same _ _ _ _ (by rw [Array.length_toList]; exact HT1.out), fun j => ?_⟩
    rw [World.frozen?_setCells, World.frozen?_alloc_past _ _ _ (by simp), World.frozen?_alloc_at _ _ _ _ rfl]
  have u0 : U.cell? ⟨w1.heap.size + 1, 0, none⟩ = some (.int .u8 0) := by rw [hU, cell_setCells (by omega), World.cell?_alloc_at _ _ _ _ (by simp)]; rfl
  have u1 : U.cell? ⟨w1.heap.size + 1, 1, none⟩ = some (.int .u64 0) := by rw [hU, cell_setCells (by omega), World.cell?_alloc_at _ _ _ _ (by simp)]; rfl
  have uf : ∀ o, U.frozen? ⟨w1.heap.size + 1, o, none⟩ = false := fun o => by rw [hU, World.frozen?_setCells, World.frozen?_alloc_at _ _ _ _ (by simp)]
  have zU : w1.heap.size + 1 < U.heap.size := lt_of_cell u0
  have HBW1 : Hid (Below W.heap.size W U) := HB1.out.trans (HBU.out.mono HB1.out.size)
  have y0 := cell_keep HBW1.out HRW.out.1
  have y1 := cell_keep HBW1.out HRW.out.2.1
  have yf : ∀ o, U.frozen? ⟨w.heap.size + 1, o, none⟩ = false := fun o => by rw [(bcell HBW1.out).2 _ _ (by omega)]; exact HRW.out.2.2 o
  have HBw : Hid (Below w.heap.size w U) := HBW.out.trans (HBW1.out.mono HBW.out.size)
  clear hU hCa hb1 hC0 HC
  by_cases h0 : c = 0
  case neg =>
    have HE : Hid (R = c ∧ M = []) := ⟨by rw [HR.out.1, if_pos h0], by rw [HR.out.2, if_pos h0]⟩
    have h0' : (c != 0) = true := by simpa using h0
    clear HR h0 HC0 HDF HM HWd
    go_wp2_with (refine wpList_store_mid rfl 79 _ _ rfl w1.heap.size 0 C rfl rfl HT1.out (by rw [infoGl, hCs]) HCa.out ?_; rw [← HU.out])
    exact bodyPost_ret (v := .agg #[.int .i64 c, .slice none 0 0]) (by simp [results, Try.results38, go_sem, y0, y1]) rfl ⟨none, 0, by rw [HE.out.1, HE.out.2]; rfl, by rw [HE.out.2]; exact noneG _ _, by repeat (first | exact HBw.out | refine Below.setCell ?_ (by simp <;> omega) _)⟩
  subst h0
  obtain ⟨hxs, b, hbb, hGl, hMp, hNd⟩ := HC0.out rfl
  obtain ⟨V, hV⟩ : ∃ V, V = (U.setCell ⟨w1.heap.size + 1, 0, none⟩ (.int .u8 x.tag)).setCell ⟨w1.heap.size + 1, 1, none⟩ (.int .u64 x.rest) := ⟨_, rfl⟩
  have HV : Hid (V = (U.setCell ⟨w1.heap.size + 1, 0, none⟩ (.int .u8 x.tag)).setCell ⟨w1.heap.size + 1, 1, none⟩ (.int .u64 x.rest)) := hV
  have zV : V.heap.size = U.heap.size := by rw [hV]; simp
  have HGV : Hid (GlAt V w1.heap.size b (l.map rwOf)) := by
    have hbl : b < w1.heap.size := hMp.lt
    rw [hV]
    refine ⟨by omega, ?_, hNd, fun j => by simp only [World.frozen?_setCell]; exact HRU.out.2 j, C.toList, range_other (range_other HRU.out.1 (by omega)) (by omega), hGl⟩
    refine hMp.keep ?_
    have hs1 : ∀ (q : World) (o : Nat) (z : Value), (q.setCell ⟨w1.heap.size + 1, o, none⟩ z).heap[b]? = q.heap[b]? := fun q o z => RowKit.Below.heap_setCell _ _ _ _ (show b ≠ w1.heap.size + 1 by omega)
    rw [hs1, hs1]
    exact HBU.out.block b hbl
  have HRV : Hid (V.rangeAt w1.heap.size 0 C.toList) := by rw [hV]; exact range_other (range_other HRU.out.1 (by omega)) (by omega)
  have HVx : Hid (V.cell? ⟨w1.heap.size + 1, 0, none⟩ = some (.int .u8 x.tag) ∧ V.cell? ⟨w1.heap.size + 1, 1, none⟩ = some (.int .u64 x.rest)) := by
    rw [hV]
    exact ⟨by rw [World.cell?_setCell_other _ _ _ _ (by simp), World.cell?_setCell_same _ _ _ u0], by rw [World.cell?_setCell_same _ _ _ (by rw [World.cell?_setCell_other _ _ _ _ (by simp)]; exact u1)]⟩
  have HVo : Hid (∀ B o z, B ≠ w1.heap.size + 1 → U.cell? ⟨B, o, none⟩ = some z → V.cell? ⟨B, o, none⟩ = some z) := fun B o z hB h => by
    rw [hV, World.cell?_setCell_other _ _ _ _ (by simp), World.cell?_setCell_other _ _ _ _ (by simp)]; exact h
  have HYV : Hid (V.cell? ⟨w.heap.size + 1, 0, none⟩ = some (.int .i64 0) ∧ V.cell? ⟨w.heap.size + 1, 1, none⟩ = some (.slice none 0 0) ∧ ∀ o, V.frozen? ⟨w.heap.size + 1, o, none⟩ = false) := ⟨HVo.out _ _ _ (by omega) y0, HVo.out _ _ _ (by omega) y1, fun o => by rw [hV, World.frozen?_setCell, World.frozen?_setCell]; exact yf o⟩
  have HBV : Hid (Below w.heap.size w V) := by rw [hV]; exact (HBw.out.setCell (by simp; omega) _).setCell (by simp; omega) _
  have HDf : Hid (∀ u, Below V.heap.size V u → d = 0 → Calls Try.prog 40 #[.agg C, x.val, y.val] u fun e w' => AnsDf u m cc e w') := fun u hu h1 => by
    rw [hxs]
    exact HDF.out C b u rfl h1 hGl (HGV.out.below hu).map hNd
  have v0 := cell_keep HBW1.out HVW.out.c0
  have v1 := cell_keep HBW1.out HVW.out.c1
  have v2 := cell_keep HBW1.out HVW.out.c2
  have hvn : ¬ w.heap.size = w1.heap.size + 1 := by omega
  clear hGl hMp hNd HC0 hbb hV HVo HBw hxs HDF
  go_wp2_with (refine wpList_store_mid rfl 79 _ _ rfl w1.heap.size 0 C rfl rfl HT1.out (by rw [infoGl, hCs]) HCa.out ?_; rw [← HU.out])
  rw [← HV.out]
  clear u0 u1 uf HU HV HT1 v0 v1 v2 y0 y1 yf
  refine (HWd.out _).mono ?_
  rintro e w2 ⟨rfl, hb2⟩
  have y0 := cell_keep hb2 HYV.out.1
  have y1 := cell_keep hb2 HYV.out.2.1
  have yf : ∀ o, w2.frozen? ⟨w.heap.size + 1, o, none⟩ = false := fun o => by rw [(bcell hb2).2 _ _ (by omega)]; exact HYV.out.2.2 o
  have z2 : w1.heap.size + 1 < w2.heap.size := by have := hb2.size; omega
  have z2a : w.heap.size + 1 < w2.heap.size := by omega
  have HBV2 : Hid (Below V.heap.size V w2) := hb2
  have HB2 : Hid (Below w.heap.size w w2) := HBV.out.trans (hb2.mono (by omega))
  clear hb2 HWd
  by_cases h1 : d = 0
  case neg =>
    have HE : Hid (R = d ∧ M = []) := ⟨by rw [HR.out.1, if_neg (by simp), if_pos h1], by rw [HR.out.2, if_neg (by simp), if_pos h1]⟩
    have h1' : (d != 0) = true := by simpa using h1
    clear HR h1 HDf HM
    go_wp2
    exact bodyPost_ret (v := .agg #[.int .i64 d, .slice none 0 0]) (by simp [results, Try.results38, go_sem, y0, y1, z2a]) rfl ⟨none, 0, by rw [HE.out.1, HE.out.2]; rfl, by rw [HE.out.2]; exact noneG _ _, by repeat (first | exact HB2.out | refine Below.setCell ?_ (by simp <;> omega) _ | refine Below.alloc ?_ (by simp; omega) _)⟩
  subst h1
  obtain ⟨X, hX⟩ : ∃ X, X = w2.alloc (.cells #[.int .u8 y.tag, .int .u64 y.rest] 74) := ⟨_, rfl⟩
  have HX : Hid (X = w2.alloc (.cells #[.int .u8 y.tag, .int .u64 y.rest] 74)) := hX
  have HBX : Hid (Below V.heap.size V X) := by rw [hX]; exact HBV2.out.alloc HBV2.out.size _
  have HRX : Hid ((w2.alloc (.cells #[.int .u8 y.tag, .int .u64 y.rest] 74)).rangeAt w1.heap.size 0 C.toList) := by rw [← hX]; exact range_below HRV.out HBX.out
  have HBwX : Hid (Below w.heap.size w X) := HBV.out.trans (HBX.out.mono (by omega))
  have x0 := cell_keep HBV2.out HVx.out.1
  have x1 := cell_keep HBV2.out HVx.out.2
  have zX : X.heap.size = w2.heap.size + 1 := by rw [hX]; simp
  clear hX y0 y1 yf
  go_wp2_with (refine wpList_load_mid rfl 79 _ rfl w1.heap.size 0 rfl C.toList _ HRX.out Try.underlying79 rfl (by rw [infoGl, Array.length_toList, hCs]) ?_; rw [Array.toArray_toList])
  rw [← HX.out]
  clear x0 x1 HRX HX
  refine (HDf.out _ HBX.out (by trivial)).mono ?_
  rintro e w3 ⟨D, rfl, hDs, hDa, hD0, hb3⟩
  have HBV3 : Hid (Below V.heap.size V w3) := HBX.out.trans (hb3.mono HBX.out.size)
  have HD0 : Hid (cc = 0 → ∃ d, GlC D.toList d (m.map rwOf) ∧ MapW w3 d ((m.map rwOf).map Rw.name) ∧ ((m.map rwOf).map Rw.name).Nodup) := hD0
  have HDa : Hid (D.all (·.oneCell') = true) := hDa
  have HT3 : Hid (w3.there w1.heap.size 0 301) := there_below HGV.out.there HBV3.out
  have HTD : Hid (w3.there w1.heap.size 0 D.size) := by rw [hDs]; exact HT3.out
  obtain ⟨Y, hY⟩ : ∃ Y, Y = w3.setCells w1.heap.size 0 D.toList := ⟨_, rfl⟩
  have HY : Hid (Y = w3.setCells w1.heap.size 0 D.toList) := hY
  have y0 : Y.cell? ⟨w.heap.size + 1, 0, none⟩ = some (.int .i64 0) := by rw [hY, cell_setCells (by omega)]; exact cell_keep HBV3.out HYV.out.1
  have y1 : Y.cell? ⟨w.heap.size + 1, 1, none⟩ = some (.slice none 0 0) := by rw [hY, cell_setCells (by omega)]; exact cell_keep HBV3.out HYV.out.2.1
  have yf : ∀ o, Y.frozen? ⟨w.heap.size + 1, o, none⟩ = false := fun o => by rw [hY, World.frozen?_setCells, (bcell HBV3.out).2 _ _ (by omega)]; exact HYV.out.2.2 o
  have HBY : Hid (Below w.heap.size w Y) := by rw [hY]; exact below_setCells (HBV.out.trans (HBV3.out.mono (by omega))) (by omega) _ _
  have HYr : Hid (Y.rangeAt w1.heap.size 0 D.toList ∧ ∀ j, Y.frozen? ⟨w1.heap.size, j, none⟩ = false) := by
    rw [hY]
    exact ⟨World.rangeAt_setCells_same _ _ _ _ (by rw [Array.length_toList]; exact HTD.out), fun j => by rw [World.frozen?_setCells, (bcell HBV3.out).2 _ _ (by omega)]; exact HGV.out.free j⟩
  have HYm : Hid (∀ i, i ≠ w1.heap.size → Y.heap[i]? = w3.heap[i]?) := fun i hi => by rw [hY]; exact heap_setCells hi _ _ _
  have zY : w.heap.size + 1 < Y.heap.size := lt_of_cell y0
  clear hb3 hD0 hDa hY HDf
  by_cases h2 : cc = 0
  case neg =>
    have HE : Hid (R = cc ∧ M = []) := ⟨by rw [HR.out.1, if_neg (by simp), if_neg (by simp)], by rw [HR.out.2, if_neg (by simp), if_neg (by simp), if_pos h2]⟩
    have h2' : (cc != 0) = true := by simpa using h2
    clear HR h2 HD0 HM
    go_wp2_with (refine wpList_store_mid rfl 79 _ _ rfl w1.heap.size 0 D rfl rfl HTD.out (by rw [infoGl, hDs]) HDa.out ?_; rw [← HY.out])
    exact bodyPost_ret (v := .agg #[.int .i64 cc, .slice none 0 0]) (by simp [results, Try.results38, go_sem, y0, y1]) rfl ⟨none, 0, by rw [HE.out.1, HE.out.2]; rfl, by rw [HE.out.2]; exact noneG _ _, by repeat (first | exact HBY.out | refine Below.setCell ?_ (by simp <;> omega) _)⟩
  subst h2
  have HE : Hid (R = 0 ∧ M = m) := ⟨by rw [HR.out.1]; simp, by rw [HR.out.2]; simp⟩
  have HAn : Hid (Calls Try.prog 65 #[.pointer (some ⟨w1.heap.size, 0, none⟩)] Y fun e w' => AnsD Y 0 m e w') := by
    obtain ⟨q, h1, h2, h3⟩ := HD0.out rfl
    have hq := map_ne_there h2 HT3.out
    exact answer_g w1.heap.size q m Y ⟨Ne.symm hq, h2.keep (HYm.out q hq), h3, HYr.out.2, D.toList, HYr.out.1, h1⟩ (HM.out (by trivial) (by trivial) (by trivial))
  clear HD0 HM HR HYm
  go_wp2_with (refine wpList_store_mid rfl 79 _ _ rfl w1.heap.size 0 D rfl rfl HTD.out (by rw [infoGl, hDs]) HDa.out ?_; rw [← HY.out])
  refine HAn.out.mono ?_
  rintro e w4 ⟨aq, cq, rfl, ho, hb4⟩
  have r0 := cell_keep hb4 y0
  have r1 := cell_keep hb4 y1
  have rf : ∀ o, w4.frozen? ⟨w.heap.size + 1, o, none⟩ = false := fun o => by rw [(bcell hb4).2 _ _ (by omega)]; exact yf o
  have HO4 : Hid (w4.ownsRow w.heap.size 33 5 (.slice aq m.length cq) m.length (cellsG m)) := own_base ho (by omega)
  have HNE : Hid (∀ g, (Value.slice aq m.length cq).ownBlock = some g → w.heap.size + 1 < g) := fun g hg => by have := ho.lt g hg; omega
  have HB4 : Hid (Below w.heap.size w w4) := HBY.out.trans (hb4.mono (by omega))
  have z4 : w.heap.size + 1 < w4.heap.size := lt_of_cell r0
  obtain ⟨n, hn⟩ : ∃ n, n = m.length := ⟨_, rfl⟩
  have HN : Hid (n = m.length) := hn
  rw [← hn]
  clear hb4 ho y0 y1 yf HAn hn
  go_wp2
  refine bodyPost_ret (v := .agg #[.int .i64 0, .slice aq n cq]) (by simp [results, Try.results38, go_sem, r0, r1]) rfl ⟨aq, cq, by rw [HN.out, HE.out.1, HE.out.2], ?_, ?_⟩
  · rw [HE.out.2]
    repeat (first | exact HO4.out | refine own_set' ?_ (fun g hg e => by have := HNE.out g hg; simp at e; omega) _)
  · repeat (first | refine Below.setCell ?_ (by simp <;> omega) _ | exact HB4.out)
end Go.Proofs.Ytgfienijabkpjaa
/-
  The laws' eqGlobalsResult, markGlobalsResult and heldGlobalsResult, and the two boxes in which a law keeps two answers; nothing but a marked row is turned.
-/
namespace Go.Proofs.Ytgfienijabkpjaa
open Go.RowKit Go.Extern.Stop Go.Stop Go.Extern Num Go.Lib

theorem eqRG_same (c0 : Int) (ao bo : Option Addr) (ca cb b1 b2 : Nat) (l : List Glb) (w : World) (hl : l.length ≤ 1048576) (h1 : w.ownsRow b1 33 5 (.slice ao l.length ca) l.length (cellsG l)) (h2 : w.ownsRow b2 33 5 (.slice bo l.length cb) l.length (cellsG l)) :
    Calls Try.prog 24 #[.agg #[.int .i64 c0, .slice ao l.length ca], .agg #[.int .i64 c0, .slice bo l.length cb]] w fun e w' => e = .returned (.bool true) ∧ Below w.heap.size w w' := by
  have HS : Hid (∀ o o', Calls Try.prog 25 #[.slice ao l.length ca, .slice bo l.length cb] ((w.alloc o).alloc o') fun e w' => e = .returned (.bool true) ∧ Below ((w.alloc o).alloc o').heap.size ((w.alloc o).alloc o') w') := fun o o' => eqGS_same _ _ b1 b2 l _ hl ((h1.alloc _).alloc _) ((h2.alloc _).alloc _)
  clear h1 h2
  go_enter Try.func24, Try.ntmps24
  go_wp2_with (go_at_call 25; refine (HS.out _ _).mono ?_; rintro e w1 ⟨rfl, hq⟩)
  go_ret
  refine ⟨rfl, ?_⟩
  repeat (first | exact Below.refl _ _ | refine Below.trans ?_ (hq.mono (by simp <;> omega)) | refine Below.alloc ?_ (by simp <;> omega) _ | refine Below.drew ?_)
theorem markRG_any (c0 : Int) (ao : Option Addr) (cap base : Nat) (l : List Glb) (w : World) (hl : l.length ≤ 1048576) (h : w.ownsRow base 33 5 (.slice ao l.length cap) l.length (cellsG l)) :
    Calls Try.prog 27 #[.agg #[.int .i64 c0, .slice ao l.length cap], .int .i64 1] w fun e w' => e = .returned (.int .i64 ((1 + 5 * l.length : Nat) : Int)) ∧ w'.ownsRow base 33 5 (.slice ao l.length cap) l.length (cellsG (marksG 1 l.length)) ∧ w.grownBy w' (Value.slice ao l.length cap).ownBlock := by
  obtain ⟨q, hq⟩ : ∃ q : Nat, q = 1 + 5 * l.length := ⟨_, rfl⟩
  have HS : Hid (∀ o, Calls Try.prog 26 #[.slice ao l.length cap, .int .i64 1] (w.alloc o) fun e w' => e = .returned (.int .i64 (q : Int)) ∧ w'.ownsRow base 33 5 (.slice ao l.length cap) l.length (cellsG (marksG 1 l.length)) ∧ w.grownBy w' (Value.slice ao l.length cap).ownBlock) := fun o => by
    rw [hq]
    refine (markGS_any ao cap base 1 l (w.alloc o) hl (Nat.le_refl _) (by omega) (h.alloc _)).mono ?_
    rintro e w' ⟨rfl, h1, h2⟩
    refine ⟨rfl, h1, ⟨h2.os, h2.tape, h2.output, Nat.le_trans (by simp) h2.size, fun k hk hn => (h2.block k (by simp; omega) hn).trans (Below.heap_alloc _ _ _ hk)⟩⟩
  rw [← hq]
  clear h hq
  go_enter Try.func27, Try.ntmps27
  go_wp2_with (go_at_call 26; refine (HS.out _).mono ?_; rintro e w1 ⟨rfl, hq⟩; have HQ : Hid _ := hq; clear hq)
  go_ret
  exact ⟨rfl, HQ.out.1, HQ.out.2⟩
theorem heldRG_any (c0 : Int) (ao : Option Addr) (cap base n : Nat) (w : World) (hl : n ≤ 1048576) (h : w.ownsRow base 33 5 (.slice ao n cap) n (cellsG (marksG 1 n))) :
    Calls Try.prog 28 #[.agg #[.int .i64 c0, .slice ao n cap], .int .i64 1] w fun e w' => e = .returned (.int .i64 ((1 + 5 * n : Nat) : Int)) ∧ Below w.heap.size w w' := by
  obtain ⟨q, hq⟩ : ∃ q : Nat, q = 1 + 5 * n := ⟨_, rfl⟩
  have HS : Hid (∀ o, Calls Try.prog 60 #[.slice ao n cap, .int .i64 1] (w.alloc o) fun e w' => e = .returned (.int .i64 (q : Int)) ∧ Below w.heap.size w w') := fun o => by
    rw [hq]
    refine (heldGS_any ao cap base 1 n (w.alloc o) hl (Nat.le_refl _) (by omega) (h.alloc _)).mono ?_
    rintro e w' ⟨rfl, h1⟩
    exact ⟨rfl, ((Below.refl _ _).alloc (Nat.le_refl _) _).trans (h1.mono (by simp))⟩
  rw [← hq]
  clear h hq
  go_enter Try.func28, Try.ntmps28
  go_wp2_with (go_at_call 60; refine (HS.out _).mono ?_; rintro e w1 ⟨rfl, hq⟩; have HQ : Hid _ := hq; clear hq)
  go_ret
  exact ⟨rfl, HQ.out⟩
/-- The two boxes in which a law keeps two answers. -/
structure BoxG (x y : Nat) (c0 : Int) (ao bo : Option Addr) (n ca cb : Nat) (w : World) : Prop where
  p0 : w.cell? ⟨x, 0, none⟩ = some (.int .i64 c0)
  p1 : w.cell? ⟨x, 1, none⟩ = some (.slice ao n ca)
  q0 : w.cell? ⟨y, 0, none⟩ = some (.int .i64 c0)
  q1 : w.cell? ⟨y, 1, none⟩ = some (.slice bo n cb)
theorem BoxG.below {x y : Nat} {c0 : Int} {ao bo : Option Addr} {n ca cb : Nat} {w w' : World} (h : BoxG x y c0 ao bo n ca cb w) (hb : Below w.heap.size w w') : BoxG x y c0 ao bo n ca cb w' :=
  ⟨cell_keep hb h.p0, cell_keep hb h.p1, cell_keep hb h.q0, cell_keep hb h.q1⟩
theorem BoxG.grown {x y : Nat} {c0 : Int} {ao bo : Option Addr} {n ca cb : Nat} {w w' : World} {r : Option Nat} (h : BoxG x y c0 ao bo n ca cb w) (hg : w.grownBy w' r) (hx : some x ≠ r) (hy : some y ≠ r) : BoxG x y c0 ao bo n ca cb w' :=
  ⟨hg.cell h.p0 hx, hg.cell h.p1 hx, hg.cell h.q0 hy, hg.cell h.q1 hy⟩
theorem BoxG.mk' {c0 : Int} {ao bo : Option Addr} {n ca cb : Nat} {w1 w2 : World} (hb : Below (w1.alloc (.cells #[.int .i64 c0, .slice ao n ca] 30)).heap.size (w1.alloc (.cells #[.int .i64 c0, .slice ao n ca] 30)) w2) :
    BoxG w1.heap.size w2.heap.size c0 ao bo n ca cb (w2.alloc (.cells #[.int .i64 c0, .slice bo n cb] 30)) := by
  have h1 : ∀ j u, #[Value.int .i64 c0, Value.slice ao n ca][j]? = some u → (w2.alloc (.cells #[.int .i64 c0, .slice bo n cb] 30)).cell? ⟨w1.heap.size, j, none⟩ = some u := fun j u h => by
    refine cell_laid _ (cell_keep hb ?_)
    rw [cell_of_row _ _ j _ _ _ (heap_alloc_new w1 _)]; exact h
  have h2 : ∀ j u, #[Value.int .i64 c0, Value.slice bo n cb][j]? = some u → (w2.alloc (.cells #[.int .i64 c0, .slice bo n cb] 30)).cell? ⟨w2.heap.size, j, none⟩ = some u := fun j u h => by
    rw [cell_of_row _ _ j _ _ _ (heap_alloc_new w2 _)]; exact h
  exact ⟨h1 0 _ rfl, h1 1 _ rfl, h2 0 _ rfl, h2 1 _ rfl⟩
end Go.Proofs.Ytgfienijabkpjaa
/-
  The exact law of GlobalsFault answers true at all globals; nothing that was there is turned.
-/
namespace Go.Proofs.Ytgfienijabkpjaa
open Go.RowKit Go.Extern.Stop Go.Stop Go.Extern Num Go.Lib

theorem ableG_of {l : List Glb} (h : ∀ (k : Nat) (h : k < l.length), l[k].big ≤ 1048576) : ableG l := fun k hk => by have := h k hk; unfold Glb.big at this; unfold Glb.able; omega
end Go.Proofs.Ytgfienijabkpjaa
/-
  The program's DefineGlobal and SetGlobal: code and globals as the model's, in memory of their own; nothing that was there is turned. A box of a GlobalsResult that a law keeps, and the box of the value that came in.
-/
namespace Go.Proofs.Ytgfienijabkpjaa
open Go.RowKit Go.Extern.Stop Go.Stop Go.Extern Num Go.Lib

theorem putL_if (l : List Glb) (s : ByteArray) (v : Vlu) : putL l s v = if putC l s ≠ 0 then [] else putL l s v := by
  unfold putC putL
  cases atG l s with
  | none =>
    by_cases h : 60 ≤ l.length
    · simp [h]
    · simp [h]
  | some k => simp
theorem putL_len (l : List Glb) (s : ByteArray) (v : Vlu) (h : l.length ≤ 60) : (putL l s v).length ≤ 60 := by
  cases hat : atG l s with
  | none =>
    rw [putL_none hat]
    by_cases h6 : 60 ≤ l.length
    · rw [if_pos h6]; simp
    · rw [if_neg h6]; simp; omega
  | some k =>
    obtain ⟨hk, _⟩ := atG_some hat
    rw [putL_some hat hk]
    by_cases h9 : 99999 ≤ (l[k]'hk).ver
    · rw [if_pos h9]; simp
    · rw [if_neg h9, put_len l k hk]; exact h
theorem putL_fine (l : List Glb) (s : ByteArray) (v : Vlu) (hf : GFine l l.length) (hs : symL s.data.toList = true) (hv : vfault v = 0) : ∀ (k : Nat) (h : k < (putL l s v).length), symL (putL l s v)[k].name.data.toList = true ∧ vfault (putL l s v)[k].value = 0 := by
  have key : ∀ t ∈ putL l s v, symL t.name.data.toList = true ∧ vfault t.value = 0 := by
    have hl : ∀ t ∈ l, symL t.name.data.toList = true ∧ vfault t.value = 0 := fun t ht => by
      obtain ⟨j, hj, rfl⟩ := List.getElem_of_mem ht
      exact ⟨hf.sym j hj hj, hf.val j hj hj⟩
    intro t ht
    cases hat : atG l s with
    | none =>
      rw [putL_none hat] at ht
      by_cases h6 : 60 ≤ l.length
      · rw [if_pos h6] at ht; cases ht
      · rw [if_neg h6] at ht
        rcases List.mem_append.1 ht with h | h
        · exact hl t h
        · obtain rfl := List.mem_singleton.1 h
          exact ⟨hs, hv⟩
    | some k =>
      obtain ⟨hk, hn, _⟩ := atG_some hat
      rw [putL_some hat hk] at ht
      by_cases h9 : 99999 ≤ (l[k]'hk).ver
      · rw [if_pos h9] at ht; cases ht
      · rw [if_neg h9] at ht
        rcases List.mem_append.1 ht with h | h
        · rcases List.mem_append.1 h with h | h
          · exact hl t (List.mem_of_mem_take h)
          · obtain rfl := List.mem_singleton.1 h
            exact ⟨hf.sym k hk hk, hv⟩
        · exact hl t (List.mem_of_mem_drop h)
  exact fun k h => key _ (List.getElem_mem h)
theorem outDG_len (l : List Glb) (s : ByteArray) (v : Vlu) : (outDG l s v).length ≤ 60 := by
  unfold outDG
  by_cases h0 : askG l s = 0
  · rw [if_neg (by simp [h0])]
    by_cases h1 : vfault v = 0
    · rw [if_neg (by simp [h1])]; exact putL_len l s v (ask_glob h0).1
    · rw [if_pos h1]; simp
  · rw [if_pos h0]; simp
theorem outSG_len (l : List Glb) (s : ByteArray) (v : Vlu) : (outSG l s v).length ≤ 60 := by
  unfold outSG
  by_cases h0 : askG l s = 0
  · rw [if_neg (by simp [h0])]
    by_cases h1 : vfault v = 0
    · rw [if_neg (by simp [h1])]
      by_cases h2 : atG l s = none
      · rw [if_pos h2]; simp
      · rw [if_neg h2]; exact putL_len l s v (ask_glob h0).1
    · rw [if_pos h1]; simp
  · rw [if_pos h0]; simp
set_option maxHeartbeats 1000000 in
theorem implDG_any (ao : Option Addr) (cap g : Nat) (l : List Glb) (s : ByteArray) (v : Vlu) (w : World) (hl : l.length ≤ 1048576) (hao : 0 < l.length → ao = some ⟨g, 0, none⟩) (hr : RowG w g l) (hz : ableG l) (hs : s.size ≤ 9223372036854775807) (hv : v.name.size ≤ 9223372036854775807) :
    Calls Try.prog 10 #[.slice ao l.length cap, .string s, v.val] w fun e w' => AnsD w (codeDG l s v) (outDG l s v) e w' := by
  obtain ⟨R, hR⟩ : ∃ R, R = codeDG l s v := ⟨_, rfl⟩
  obtain ⟨M, hM⟩ : ∃ M, M = outDG l s v := ⟨_, rfl⟩
  rw [← hR, ← hM]
  have HT : Hid (∀ u, Below w.heap.size w u → Calls Try.prog 38 #[.slice ao l.length cap, .string s, v.val, .func (.func 39) #[] #[]] u fun e w' => AnsD u R M e w') := fun u hu =>
    turned_define ao cap g l s v u R M (putL l s v) (putC l s) hl hao (hr.below hu) hz hs hv (fun C b q h1 h2 h3 h4 h5 _ => define_any C b l s v q h1 h2 h3 h4 h5) (fun h1 h2 h3 _ => putL_fine l s v h1 h2 h3) (by rw [hR]; rfl) (by rw [hM, ← putL_if]; rfl)
  clear hR hM hl hao hr hz hs hv
  go_enter Try.func10, Try.ntmps10
  go_wp2_with fail
  refine (HT.out _ (by repeat (first | exact Below.refl _ _ | refine Below.alloc ?_ (by simp) _))).mono ?_
  rintro e w1 ⟨aq, cq, rfl, ho, hb⟩
  have r0 : w1.cell? ⟨w.heap.size + 1, 0, none⟩ = some (.int .i64 0) := cell_keep hb (by rw [World.cell?_alloc_at _ _ _ _ (by simp)]; rfl)
  have r1 : w1.cell? ⟨w.heap.size + 1, 1, none⟩ = some (.slice none 0 0) := cell_keep hb (by rw [World.cell?_alloc_at _ _ _ _ (by simp)]; rfl)
  have rf : ∀ o, w1.frozen? ⟨w.heap.size + 1, o, none⟩ = false := fun o => by rw [(bcell hb).2 _ _ (by simp), World.frozen?_alloc_at _ _ _ _ (by simp)]
  have z1 : w.heap.size + 1 < w1.heap.size := lt_of_cell r0
  have HO : Hid (w1.ownsRow w.heap.size 33 5 (.slice aq M.length cq) M.length (cellsG M)) := own_base ho (by simp; omega)
  have HNE : Hid (∀ g, (Value.slice aq M.length cq).ownBlock = some g → w.heap.size + 1 < g) := fun g hg => by have := ho.lt g hg; simp at this; omega
  have HB : Hid (Below w.heap.size w w1) := Below.trans (by repeat (first | exact Below.refl _ _ | refine Below.alloc ?_ (by simp) _)) (hb.mono (by simp; omega))
  clear hb ho
  go_wp2
  refine bodyPost_ret (v := .agg #[.int .i64 R, .slice aq M.length cq]) (by simp [results, Try.results10, go_sem, r0, r1]) rfl ⟨aq, cq, rfl, ?_, ?_⟩
  · repeat (first | exact HO.out | refine own_set' ?_ (fun g hg e => by have := HNE.out g hg; simp at e; omega) _)
  · repeat (first | refine Below.setCell ?_ (by simp <;> omega) _ | exact HB.out)
set_option maxHeartbeats 1000000 in
theorem implSG_any (ao : Option Addr) (cap g : Nat) (l : List Glb) (s : ByteArray) (v : Vlu) (w : World) (hl : l.length ≤ 1048576) (hao : 0 < l.length → ao = some ⟨g, 0, none⟩) (hr : RowG w g l) (hz : ableG l) (hs : s.size ≤ 9223372036854775807) (hv : v.name.size ≤ 9223372036854775807) :
    Calls Try.prog 11 #[.slice ao l.length cap, .string s, v.val] w fun e w' => AnsD w (codeSG l s v) (outSG l s v) e w' := by
  obtain ⟨R, hR⟩ : ∃ R, R = codeSG l s v := ⟨_, rfl⟩
  obtain ⟨M, hM⟩ : ∃ M, M = outSG l s v := ⟨_, rfl⟩
  rw [← hR, ← hM]
  have hM2 : M = if askG l s ≠ 0 then [] else if vfault v ≠ 0 then [] else if setC l s ≠ 0 then [] else putL l s v := by
    rw [hM]
    unfold outSG setC
    by_cases h2 : atG l s = none
    · simp [h2]
    · rw [if_neg h2, if_neg h2, ← putL_if]
  have HT : Hid (∀ u, Below w.heap.size w u → Calls Try.prog 38 #[.slice ao l.length cap, .string s, v.val, .func (.func 40) #[] #[]] u fun e w' => AnsD u R M e w') := fun u hu =>
    turned_set ao cap g l s v u R M (putL l s v) (setC l s) hl hao (hr.below hu) hz hs hv (fun C b q h1 h2 h3 h4 h5 _ => set_any C b l s v q h1 h2 h3 h4 h5) (fun h1 h2 h3 _ => putL_fine l s v h1 h2 h3) (by rw [hR]; rfl) hM2
  clear hR hM hl hao hr hz hs hv hM2
  go_enter Try.func11, Try.ntmps11
  go_wp2_with fail
  refine (HT.out _ (by repeat (first | exact Below.refl _ _ | refine Below.alloc ?_ (by simp) _))).mono ?_
  rintro e w1 ⟨aq, cq, rfl, ho, hb⟩
  have r0 : w1.cell? ⟨w.heap.size + 1, 0, none⟩ = some (.int .i64 0) := cell_keep hb (by rw [World.cell?_alloc_at _ _ _ _ (by simp)]; rfl)
  have r1 : w1.cell? ⟨w.heap.size + 1, 1, none⟩ = some (.slice none 0 0) := cell_keep hb (by rw [World.cell?_alloc_at _ _ _ _ (by simp)]; rfl)
  have rf : ∀ o, w1.frozen? ⟨w.heap.size + 1, o, none⟩ = false := fun o => by rw [(bcell hb).2 _ _ (by simp), World.frozen?_alloc_at _ _ _ _ (by simp)]
  have z1 : w.heap.size + 1 < w1.heap.size := lt_of_cell r0
  have HO : Hid (w1.ownsRow w.heap.size 33 5 (.slice aq M.length cq) M.length (cellsG M)) := own_base ho (by simp; omega)
  have HNE : Hid (∀ g, (Value.slice aq M.length cq).ownBlock = some g → w.heap.size + 1 < g) := fun g hg => by have := ho.lt g hg; simp at this; omega
  have HB : Hid (Below w.heap.size w w1) := Below.trans (by repeat (first | exact Below.refl _ _ | refine Below.alloc ?_ (by simp) _)) (hb.mono (by simp; omega))
  clear hb ho
  go_wp2
  refine bodyPost_ret (v := .agg #[.int .i64 R, .slice aq M.length cq]) (by simp [results, Try.results11, go_sem, r0, r1]) rfl ⟨aq, cq, rfl, ?_, ?_⟩
  · repeat (first | exact HO.out | refine own_set' ?_ (fun g hg e => by have := HNE.out g hg; simp at e; omega) _)
  · repeat (first | refine Below.setCell ?_ (by simp <;> omega) _ | exact HB.out)
theorem lt_blk {u : World} {x : Nat} {o : Obj} (h : u.heap[x]? = some o) : x < u.heap.size := (Array.getElem?_eq_some_iff.1 h).1
structure GrA (x : Nat) (c : Int) (s : Value) (u : World) : Prop where
  c0 : u.cell? ⟨x, 0, none⟩ = some (.int .i64 c)
  c1 : u.cell? ⟨x, 1, none⟩ = some s
theorem GrA.below {x : Nat} {c : Int} {s : Value} {u v : World} (h : GrA x c s u) (hb : Below u.heap.size u v) : GrA x c s v := ⟨cell_keep hb h.c0, cell_keep hb h.c1⟩
theorem GrA.grown {x : Nat} {c : Int} {s : Value} {u v : World} {r : Option Nat} (h : GrA x c s u) (hg : u.grownBy v r) (hx : some x ≠ r) : GrA x c s v := ⟨hg.cell h.c0 hx, hg.cell h.c1 hx⟩
/-- The box of a GlobalsResult, all zero. -/
def GrZ (n x : Nat) (u : World) : Prop := n ≤ x ∧ u.heap[x]? = some (.cells #[.int .i64 0, .slice none 0 0] 30 (0, 0))
theorem GrZ.below {n x : Nat} {u v : World} (h : GrZ n x u) (hb : Below u.heap.size u v) : GrZ n x v := ⟨h.1, by rw [hb.block x (lt_blk h.2)]; exact h.2⟩
theorem GrZ.cells {n x : Nat} {u : World} (h : GrZ n x u) : u.cell? ⟨x, 0, none⟩ = some (.int .i64 0) ∧ u.cell? ⟨x, 1, none⟩ = some (.slice none 0 0) ∧ ∀ o, u.frozen? ⟨x, o, none⟩ = false :=
  ⟨by rw [cell_of_row u x 0 _ _ _ h.2]; rfl, by rw [cell_of_row u x 1 _ _ _ h.2]; rfl, fun o => by unfold World.frozen?; simp [h.2]⟩
theorem GrZ.put {n x : Nat} {u : World} {c : Int} {s : Value} (h : GrZ n x u) : GrA x c s ((u.setCell ⟨x, 0, none⟩ (.int .i64 c)).setCell ⟨x, 1, none⟩ s) ∧ u.grownBy ((u.setCell ⟨x, 0, none⟩ (.int .i64 c)).setCell ⟨x, 1, none⟩ s) (some x) := by
  obtain ⟨c0, c1, _⟩ := h.cells
  refine ⟨⟨?_, ?_⟩, gb_set (gb_set (gb_refl _ _) _) _⟩
  · rw [World.cell?_setCell_other _ _ _ _ (by simp), World.cell?_setCell_same _ _ _ c0]
  · rw [World.cell?_setCell_same _ _ _ (by rw [World.cell?_setCell_other _ _ _ _ (by simp)]; exact c1)]
theorem own_neG {u : World} {base x size n : Nat} {e T : TypeId} {v : Value} {xs : List Value} {cs : Array Value} {fz : Nat × Nat} (h : u.ownsRow base e size v n xs) (hx : u.heap[x]? = some (.cells cs T fz)) (hne : e ≠ T) : ∀ g, v.ownBlock = some g → g ≠ x := by
  intro g hg hgx
  rcases h.2 with ⟨rfl, _⟩ | ⟨g', cap, cur, rfl, _, hgg, _⟩
  · cases hg
  · have : g' = g := by simpa [Value.ownBlock] using hg
    subst this
    subst hgx
    rw [hgg] at hx
    injection hx with h1
    injection h1 with _ h2
    exact hne h2
/-- The box of the value, and what was there. -/
structure VVG (w : World) (V : Vlu) (u : World) : Prop where
  b0 : VBox w.heap.size V u
  old : Below w.heap.size w u
theorem VVG.below {w u v : World} {V : Vlu} (h : VVG w V u) (hb : Below u.heap.size u v) : VVG w V v := ⟨h.b0.below hb, h.old.trans (hb.mono h.old.size)⟩
theorem VVG.size {w u : World} {V : Vlu} (h : VVG w V u) : w.heap.size + 1 ≤ u.heap.size := by have h1 : w.heap.size < u.heap.size := lt_of_cell h.b0.c0; omega
theorem VVG.grown {w u v : World} {V : Vlu} {x : Nat} (h : VVG w V u) (hg : u.grownBy v (some x)) (hx : w.heap.size + 1 ≤ x) : VVG w V v :=
  ⟨⟨hg.cell h.b0.c0 (by simp; omega), hg.cell h.b0.c1 (by simp; omega), hg.cell h.b0.c2 (by simp; omega)⟩, h.old.trans (below_of_grown hg h.old.size (fun k hk => by have := Option.some.inj hk; omega))⟩
theorem vvg_new (w : World) (V : Vlu) (T : TypeId) : VVG w V (w.alloc (.cells #[.int .i64 V.kind, .int .i64 V.num, .string V.name] T)) :=
  ⟨⟨by rw [World.cell?_alloc_at _ _ _ _ rfl]; rfl, by rw [World.cell?_alloc_at _ _ _ _ rfl]; rfl, by rw [World.cell?_alloc_at _ _ _ _ rfl]; rfl⟩, (Below.refl _ _).alloc (Nat.le_refl _) _⟩
end Go.Proofs.Ytgfienijabkpjaa
