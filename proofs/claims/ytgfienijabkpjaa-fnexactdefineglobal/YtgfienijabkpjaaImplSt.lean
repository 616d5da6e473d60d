/-
  The program's define and set at globals, a name and a value without fault; nothing that was there is turned.
-/
import Derived.Test.YtgfienijabkpjaaImplDf
import Derived.Test.YtgfienijabkpjaaPutMath
namespace Go.Proofs.Ytgfienijabkpjaa
open Go.RowKit Go.Extern.Stop Go.Stop Go.Extern Num Go.Lib

theorem ask_fine2 {l : List Glb} {s : ByteArray} (h : askG l s = 0) : globFault l = 0 ∧ symL s.data.toList = true ∧ l.length ≤ 60 ∧ GFine l l.length := by
  unfold askG at h
  by_cases h0 : globFault l = 0
  · rw [if_neg (by simpa using h0)] at h
    obtain ⟨h1, h2⟩ := GFine.of h0
    refine ⟨h0, ?_, h1, h2⟩
    unfold symC at h
    by_cases hs : symL s.data.toList = true
    · exact hs
    · rw [if_neg hs] at h; simp at h
  · rw [if_pos h0] at h; exact absurd h h0
/-- What define and set answer. -/
def AnsDf (w : World) (m : List Glb) (c : Int) (e : Ending) (w' : World) : Prop :=
  ∃ D : Array Value, e = .returned (.tuple #[.agg D, .int .i64 c]) ∧ D.size = 301 ∧ D.all (·.oneCell') = true ∧ (c = 0 → ∃ d, GlC D.toList d (m.map rwOf) ∧ MapW w' d ((m.map rwOf).map Rw.name) ∧ ((m.map rwOf).map Rw.name).Nodup) ∧ Below w.heap.size w w'
theorem GlC.arr {D : Array Value} {b : Nat} {rs : List Rw} (h : GlC D.toList b rs) : D.size = 301 ∧ D.all (·.oneCell') = true :=
  ⟨by rw [← Array.length_toList]; exact h.len, Array.all_eq_true_iff_forall_mem.2 (fun v hv => h.one v (by simpa using hv))⟩
theorem map_ne_there {w : World} {d b : Nat} {ws : List Wd} (h : MapW w d ws) (ht : w.there b 0 301) : d ≠ b := by
  rintro rfl
  obtain ⟨es, cl, h1, _⟩ := h
  have := (ht 0 (by omega)).1
  unfold World.cell? at this
  simp only [h1] at this
  simp at this
theorem set_take {α : Type} (l : List α) (k : Nat) (hk : k < l.length) (a : α) : l.set k a = (l.take k ++ [a]) ++ l.drop (k + 1) := by
  rw [List.set_eq_take_append_cons_drop, if_pos hk]; simp
set_option maxHeartbeats 1000000 in
theorem define_any (C : Array Value) (b : Nat) (l : List Glb) (s : ByteArray) (v : Vlu) (w : World) (hC : GlC C.toList b (l.map rwOf)) (hM : MapW w b ((l.map rwOf).map Rw.name)) (hN : ((l.map rwOf).map Rw.name).Nodup) (hf : GFine l l.length) (hs : symL s.data.toList = true) :
    Calls Try.prog 39 #[.agg C, (nW s).val, (wdOf v).val] w fun e w' => AnsDf w (putL l s v) (putC l s) e w' := by
  have hl60 : l.length ≤ 60 := by have := hC.max; simpa using this
  cases hat : atG l s with
  | none =>
    have hm := names_miss l l.length s hf (Nat.le_refl _) hs (by rw [List.take_length]; exact hat)
    rw [List.take_length] at hm
    rw [putC_none hat, putL_none hat]
    by_cases h60 : 60 ≤ l.length
    · rw [if_pos h60, if_pos h60]
      refine (define_full C b (l.map rwOf) (nW s) (wdOf v) w hC hM hN (nW_fit hs) hm (by rw [List.length_map]; omega)).mono ?_
      rintro e w' ⟨rfl, hb⟩
      exact ⟨Try.zeroCells79, rfl, by simp, zc_all, fun e => absurd e (by decide), hb⟩
    · rw [if_neg h60, if_neg h60]
      refine (define_more C b (l.map rwOf) (nW s) (wdOf v) w hC hM hN (nW_fit hs) hm (by rw [List.length_map]; omega)).mono ?_
      rintro e w' ⟨D, d, rfl, hg, hmp, hb⟩
      have e1 : (l ++ [Glb.mk s v 1]).map rwOf = l.map rwOf ++ [Rw.mk (nW s) (wdOf v) 1] := by rw [List.map_append]; rfl
      refine ⟨D, rfl, hg.arr.1, hg.arr.2, fun _ => ⟨d, by rw [e1]; exact hg, by rw [e1]; exact hmp, ?_⟩, hb⟩
      rw [e1, List.map_append, List.nodup_append]
      refine ⟨hN, by simp, ?_⟩
      intro a ha c hc
      simp at hc
      subst hc
      rintro rfl
      exact hm ha
  | some k =>
    obtain ⟨hk, hnm, _⟩ := atG_some hat
    have hkr : k < (l.map rwOf).length := by simpa using hk
    have er : (l.map rwOf)[k]'hkr = rwOf (l[k]'hk) := List.getElem_map _
    have en : nW s = (rwOf (l[k]'hk)).name := by rw [← hnm]; rfl
    have hv := hf.ver k hk hk
    rw [putC_some hat hk, putL_some hat hk]
    by_cases h9 : 99999 ≤ (l[k]'hk).ver
    · rw [if_pos h9, if_pos h9]
      refine (define_last C b (l.map rwOf) (nW s) (wdOf v) (rwOf (l[k]'hk)) w hC hM hN ⟨k, hkr, er.symm, en⟩ (show (l[k]'hk).ver = 99999 by omega)).mono ?_
      rintro e w' ⟨rfl, hb⟩
      exact ⟨Try.zeroCells79, rfl, by simp, zc_all, fun e => absurd e (by decide), hb⟩
    · rw [if_neg h9, if_neg h9]
      refine (define_hit C b k (l.map rwOf) (nW s) (wdOf v) (rwOf (l[k]'hk)) w hC hM hN hkr er.symm en (show 0 ≤ (l[k]'hk).ver by omega) (show (l[k]'hk).ver < 99999 by omega)).mono ?_
      rintro e w' ⟨D, rfl, hg, hb⟩
      have e1 : ((l.take k ++ [Glb.mk (l[k]'hk).name v ((l[k]'hk).ver + 1)]) ++ l.drop (k + 1)).map rwOf = (l.map rwOf).set k ⟨nW s, wdOf v, (l[k]'hk).ver + 1⟩ := by
        rw [set_take _ _ hkr, List.map_append, List.map_append, List.map_take, List.map_drop, ← hnm]; rfl
      have e2 : ((l.map rwOf).set k ⟨nW s, wdOf v, (l[k]'hk).ver + 1⟩).map Rw.name = (l.map rwOf).map Rw.name := by
        rw [List.map_set]
        have e3 : ((l.map rwOf).map Rw.name)[k]'(by simpa using hk) = nW s := by rw [List.getElem_map, er, en]
        show ((l.map rwOf).map Rw.name).set k (nW s) = _
        rw [← e3]; exact List.set_getElem_self _
      refine ⟨D, rfl, hg.arr.1, hg.arr.2, fun _ => ⟨b, by rw [e1]; exact hg, by rw [e1, e2]; exact hM.below hb, by rw [e1, e2]; exact hN⟩, hb⟩
set_option maxRecDepth 100000 in
set_option maxHeartbeats 4000000 in
theorem set_none (C : Array Value) (b : Nat) (rs : List Rw) (x y : Wd) (w : World) (hC : GlC C.toList b rs) (hM : MapW w b (rs.map Rw.name)) (hN : (rs.map Rw.name).Nodup) (hx : x.fit) (hm : x ∉ rs.map Rw.name) :
    Calls Try.prog 40 #[.agg C, x.val, y.val] w fun e w' => e = .returned (.tuple #[.agg Try.zeroCells79, .int .i64 4]) ∧ Below w.heap.size w w' := by
  have hCs : C.size = 301 := by rw [← Array.length_toList]; exact hC.len
  obtain ⟨W, hW⟩ : ∃ W, W = (((w.alloc (.cells C 79)).alloc (.cells #[.int .u8 x.tag, .int .u64 x.rest] 74)).alloc (.cells #[.int .u8 y.tag, .int .u64 y.rest] 74)).alloc (.cells Try.zeroCells79 79) := ⟨_, rfl⟩
  have HW : Hid (W = (((w.alloc (.cells C 79)).alloc (.cells #[.int .u8 x.tag, .int .u64 x.rest] 74)).alloc (.cells #[.int .u8 y.tag, .int .u64 y.rest] 74)).alloc (.cells Try.zeroCells79 79)) := hW
  have HD : Hid (DfW w W C b rs x y) := by rw [hW]; exact dfW_of w C b rs x y hC hM hN
  have zW : W.heap.size = w.heap.size + 4 := HD.out.size
  have HF : Hid (Calls Try.prog 46 #[.pointer (some ⟨w.heap.size, 0, none⟩), x.val] W fun e w' => e = .returned (.tuple #[rwZ.val, .bool false]) ∧ Below W.heap.size W w') := HD.out.find rwZ false (Or.inr ⟨hx, hm, rfl, rfl⟩)
  have hbz := buildZ
  clear hx hm hC hM hN hW
  go_enter Try.func40, Try.ntmps40
  go_wp2_with fail
  rw [← HW.out]
  refine HF.out.mono ?_
  rintro e w1 ⟨rfl, hb1⟩
  have BX1 : Hid (Below W.heap.size W w1) := hb1
  have z1 : w.heap.size + 4 ≤ w1.heap.size := by have := hb1.size; omega
  have HTu : Hid (∀ u, Below W.heap.size W u → u.there (w.heap.size + 1 + 1 + 1) 0 301) := fun u hu => there_below HD.out.there hu
  clear hb1 HF
  go_wp2_with (refine wpList_store_mid rfl 79 _ _ rfl (w.heap.size + 1 + 1 + 1) 0 Try.zeroCells79 rfl rfl (by rw [show Try.zeroCells79.size = 301 by simp]; exact HTu.out _ (by repeat (first | exact BX1.out | refine Below.alloc ?_ (by omega) _))) (by rw [infoGl]; simp) zc_all ?_)
  refine bodyPost_ret (v := .tuple #[.agg Try.zeroCells79, .int .i64 4]) ?_ rfl ⟨rfl, ?_⟩
  · rw [results_cell_tmp rfl]
    simp only [Array.getD_eq_getD_getElem?, List.getElem?_toArray, List.getElem?_cons_succ, List.getElem?_cons_zero, Option.getD_some, asAddr, Sem.run_pure, Result.andThen_ok]
    rw [ldSet _ _ _ (by simp) (HTu.out _ (by repeat (first | exact BX1.out | refine Below.alloc ?_ (by omega) _)))]
    rfl
  · refine below_setCells ?_ (by omega) _ _
    refine Below.trans HD.out.bel (Below.mono (B := W.heap.size) ?_ (by omega))
    repeat (first | exact BX1.out | refine Below.alloc ?_ (by omega) _)
set_option maxRecDepth 100000 in
set_option maxHeartbeats 4000000 in
theorem set_some (C : Array Value) (b : Nat) (rs : List Rw) (x y : Wd) (r : Rw) (m : List Glb) (c : Int) (w : World) (hC : GlC C.toList b rs) (hM : MapW w b (rs.map Rw.name)) (hN : (rs.map Rw.name).Nodup) (hr : ∃ k, ∃ hk : k < rs.length, r = rs[k]'hk ∧ x = r.name)
    (hdf : ∀ u, Below w.heap.size w u → Calls Try.prog 39 #[.agg C, x.val, y.val] u fun e w' => AnsDf u m c e w') :
    Calls Try.prog 40 #[.agg C, x.val, y.val] w fun e w' => AnsDf w m c e w' := by
  have hCs : C.size = 301 := by rw [← Array.length_toList]; exact hC.len
  obtain ⟨W, hW⟩ : ∃ W, W = (((w.alloc (.cells C 79)).alloc (.cells #[.int .u8 x.tag, .int .u64 x.rest] 74)).alloc (.cells #[.int .u8 y.tag, .int .u64 y.rest] 74)).alloc (.cells Try.zeroCells79 79) := ⟨_, rfl⟩
  have HW : Hid (W = (((w.alloc (.cells C 79)).alloc (.cells #[.int .u8 x.tag, .int .u64 x.rest] 74)).alloc (.cells #[.int .u8 y.tag, .int .u64 y.rest] 74)).alloc (.cells Try.zeroCells79 79)) := hW
  have HD : Hid (DfW w W C b rs x y) := by rw [hW]; exact dfW_of w C b rs x y hC hM hN
  have zW : W.heap.size = w.heap.size + 4 := HD.out.size
  have HF : Hid (Calls Try.prog 46 #[.pointer (some ⟨w.heap.size, 0, none⟩), x.val] W fun e w' => e = .returned (.tuple #[r.val, .bool true]) ∧ Below W.heap.size W w') := by
    obtain ⟨k, hk, h1, h2⟩ := hr
    exact HD.out.find r true (Or.inl ⟨k, hk, h1, h2, rfl⟩)
  have HDf : Hid (∀ u, Below W.heap.size W u → Calls Try.prog 39 #[.agg C, x.val, y.val] u fun e w' => AnsDf u m c e w') := fun u hu => hdf u (HD.out.bel.trans (hu.mono (by omega)))
  clear hr hC hM hN hW hdf
  go_enter Try.func40, Try.ntmps40
  go_wp2_with fail
  rw [← HW.out]
  refine HF.out.mono ?_
  rintro e w1 ⟨rfl, hb1⟩
  have z1 : w.heap.size + 4 ≤ w1.heap.size := by have := hb1.size; omega
  obtain ⟨V, hV⟩ : ∃ V, V = w1.alloc (.cells #[.int .u8 r.name.tag, .int .u64 r.name.rest, .int .u8 r.value.tag, .int .u64 r.value.rest, .int .i64 r.ver] 76) := ⟨_, rfl⟩
  have HV : Hid (V = w1.alloc (.cells #[.int .u8 r.name.tag, .int .u64 r.name.rest, .int .u8 r.value.tag, .int .u64 r.value.rest, .int .i64 r.ver] 76)) := hV
  have BXV : Hid (Below W.heap.size W V) := by rw [hV]; exact hb1.alloc hb1.size _
  have HRV : Hid ((w1.alloc (.cells #[.int .u8 r.name.tag, .int .u64 r.name.rest, .int .u8 r.value.tag, .int .u64 r.value.rest, .int .i64 r.ver] 76)).rangeAt w.heap.size 0 C.toList) := by rw [← hV]; exact range_below HD.out.rng BXV.out
  have x0 := cell_keep hb1 (HD.out.xs 0 _ rfl)
  have x1 := cell_keep hb1 (HD.out.xs 1 _ rfl)
  have y0 := cell_keep hb1 (HD.out.ys 0 _ rfl)
  have y1 := cell_keep hb1 (HD.out.ys 1 _ rfl)
  have z1a : w.heap.size + 1 < w1.heap.size := by omega
  have z1b : w.heap.size + 1 + 1 < w1.heap.size := by omega
  clear hb1 HF hV
  go_wp2_with (refine wpList_load_mid rfl 79 _ rfl w.heap.size 0 rfl C.toList _ HRV.out Try.underlying79 rfl (by rw [infoGl, Array.length_toList, hCs]) ?_; rw [Array.toArray_toList])
  rw [← HV.out]
  refine (HDf.out _ BXV.out).mono ?_
  rintro e w2 ⟨D, rfl, hDs, hDa, hD0, hb2⟩
  have BX2 : Hid (Below W.heap.size W w2) := BXV.out.trans (hb2.mono BXV.out.size)
  have HD0 : Hid (c = 0 → ∃ d, GlC D.toList d (m.map rwOf) ∧ MapW w2 d ((m.map rwOf).map Rw.name) ∧ ((m.map rwOf).map Rw.name).Nodup) := hD0
  have HDa : Hid (D.all (·.oneCell') = true) := hDa
  have HT2 : Hid (w2.there (w.heap.size + 1 + 1 + 1) 0 301) := there_below HD.out.there BX2.out
  have HTD : Hid (w2.there (w.heap.size + 1 + 1 + 1) 0 D.size) := by rw [hDs]; exact HT2.out
  clear hb2 hD0 hDa x0 x1 y0 y1 HRV HV
  go_wp2_with (refine wpList_store_mid rfl 79 _ _ rfl (w.heap.size + 1 + 1 + 1) 0 D rfl rfl HTD.out (by rw [infoGl, hDs]) HDa.out ?_)
  refine bodyPost_ret (v := .tuple #[.agg D, .int .i64 c]) ?_ rfl ⟨D, rfl, hDs, HDa.out, fun e0 => ?_, ?_⟩
  · rw [results_cell_tmp rfl]
    simp only [Array.getD_eq_getD_getElem?, List.getElem?_toArray, List.getElem?_cons_succ, List.getElem?_cons_zero, Option.getD_some, asAddr, Sem.run_pure, Result.andThen_ok]
    rw [ldSet _ _ _ hDs HT2.out]
    rfl
  · obtain ⟨d, h1, h2, h3⟩ := HD0.out e0
    exact ⟨d, h1, h2.keep (heap_setCells (map_ne_there h2 HT2.out) _ _ _), h3⟩
  · exact below_setCells (HD.out.bel.trans (BX2.out.mono (by omega))) (by omega) _ _
def setC (l : List Glb) (s : ByteArray) : Int := if atG l s = none then 4 else putC l s
theorem set_any (C : Array Value) (b : Nat) (l : List Glb) (s : ByteArray) (v : Vlu) (w : World) (hC : GlC C.toList b (l.map rwOf)) (hM : MapW w b ((l.map rwOf).map Rw.name)) (hN : ((l.map rwOf).map Rw.name).Nodup) (hf : GFine l l.length) (hs : symL s.data.toList = true) :
    Calls Try.prog 40 #[.agg C, (nW s).val, (wdOf v).val] w fun e w' => AnsDf w (putL l s v) (setC l s) e w' := by
  cases hat : atG l s with
  | none =>
    have hm := names_miss l l.length s hf (Nat.le_refl _) hs (by rw [List.take_length]; exact hat)
    rw [List.take_length] at hm
    have e : setC l s = 4 := if_pos hat
    rw [e]
    refine (set_none C b (l.map rwOf) (nW s) (wdOf v) w hC hM hN (nW_fit hs) hm).mono ?_
    rintro e w' ⟨rfl, hb⟩
    exact ⟨Try.zeroCells79, rfl, by simp, zc_all, fun e => absurd e (by decide), hb⟩
  | some k =>
    obtain ⟨hk, hnm, _⟩ := atG_some hat
    have hkr : k < (l.map rwOf).length := by simpa using hk
    have er : (l.map rwOf)[k]'hkr = rwOf (l[k]'hk) := List.getElem_map _
    have en : nW s = (rwOf (l[k]'hk)).name := by rw [← hnm]; rfl
    have e : setC l s = putC l s := if_neg (by rw [hat]; simp)
    rw [e]
    exact set_some C b (l.map rwOf) (nW s) (wdOf v) (rwOf (l[k]'hk)) _ _ w hC hM hN ⟨k, hkr, er.symm, en⟩ (fun u hu => define_any C b l s v u hC (hM.below hu) hN hf hs)
end Go.Proofs.Ytgfienijabkpjaa
