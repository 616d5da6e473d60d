/-
  The program's turned, with define and with set: what is asked ahead, then globals with one turned, in a row of their own; nothing that was there is turned.
-/
import Derived.Test.YtgfienijabkpjaaImplSt
import Derived.Test.YtgfienijabkpjaaImplAnG
namespace Go.Proofs.Ytgfienijabkpjaa
open Go.RowKit Go.Extern.Stop Go.Stop Go.Extern Num Go.Lib

theorem GlAt.there {w : World} {h b : Nat} {rs : List Rw} (H : GlAt w h b rs) : w.there h 0 301 := fun j hj => by
  obtain ⟨u, hu⟩ := H.has j hj
  rw [Nat.zero_add]
  exact ⟨by rw [hu]; rfl, H.free j⟩
set_option maxRecDepth 100000 in
set_option maxHeartbeats 4000000 in
theorem turned_define (ao : Option Addr) (cap g : Nat) (l : List Glb) (s : ByteArray) (v : Vlu) (w : World) (R : Int) (M m : List Glb) (cc : Int) (hl : l.length ≤ 1048576) (hao : 0 < l.length → ao = some ⟨g, 0, none⟩) (hr : RowG w g l) (hz : ableG l) (hs : s.size ≤ 9223372036854775807) (hv : v.name.size ≤ 9223372036854775807)
    (hdf : ∀ C b u, GlC C.toList b (l.map rwOf) → MapW u b ((l.map rwOf).map Rw.name) → ((l.map rwOf).map Rw.name).Nodup → GFine l l.length → symL s.data.toList = true → vfault v = 0 → Calls Try.prog 39 #[.agg C, (nW s).val, (wdOf v).val] u fun e w' => AnsDf u m cc e w')
    (hm : GFine l l.length → symL s.data.toList = true → vfault v = 0 → cc = 0 → ∀ (k : Nat) (h : k < m.length), symL m[k].name.data.toList = true ∧ vfault m[k].value = 0)
    (hR : R = if askG l s ≠ 0 then askG l s else if vfault v ≠ 0 then vfault v else cc) (hM : M = if askG l s ≠ 0 then [] else if vfault v ≠ 0 then [] else if cc ≠ 0 then [] else m) :
    Calls Try.prog 38 #[.slice ao l.length cap, .string s, v.val, .func (.func 39) #[] #[]] w fun e w' => AnsD w R M e w' := by
  obtain ⟨c, hc⟩ : ∃ c, c = askG l s := ⟨_, rfl⟩
  obtain ⟨d, hd⟩ : ∃ d, d = vfault v := ⟨_, rfl⟩
  obtain ⟨y, hy⟩ : ∃ y, y = wdOf v := ⟨_, rfl⟩
  rw [← hc, ← hd] at hR hM
  obtain ⟨W, hW⟩ : ∃ W, W = (w.alloc (.cells #[.int .i64 v.kind, .int .i64 v.num, .string v.name] 26)).alloc (.cells #[.int .i64 0, .slice none 0 0] 30) := ⟨_, rfl⟩
  have HW : Hid (W = (w.alloc (.cells #[.int .i64 v.kind, .int .i64 v.num, .string v.name] 26)).alloc (.cells #[.int .i64 0, .slice none 0 0] 30)) := hW
  have HBW : Hid (Below w.heap.size w W) := by rw [hW]; exact ((Below.refl _ _).alloc (Nat.le_refl _) _).alloc (by simp) _
  have zW : W.heap.size = w.heap.size + 2 := by rw [hW]; simp
  have HVW : Hid (VluAt w.heap.size 0 v W) := by
    rw [hW]
    exact ⟨by rw [World.cell?_alloc_past _ _ _ (by simp), World.cell?_alloc_at _ _ _ _ rfl]; rfl, by rw [World.cell?_alloc_past _ _ _ (by simp), World.cell?_alloc_at _ _ _ _ rfl]; rfl, by rw [World.cell?_alloc_past _ _ _ (by simp), World.cell?_alloc_at _ _ _ _ rfl]; rfl⟩
  have HRW : Hid (W.cell? ⟨w.heap.size + 1, 0, none⟩ = some (.int .i64 0) ∧ W.cell? ⟨w.heap.size + 1, 1, none⟩ = some (.slice none 0 0) ∧ ∀ o, W.frozen? ⟨w.heap.size + 1, o, none⟩ = false) := by
    rw [hW]
    exact ⟨by rw [World.cell?_alloc_at _ _ _ _ (by simp)]; rfl, by rw [World.cell?_alloc_at _ _ _ _ (by simp)]; rfl, fun o => by rw [World.frozen?_alloc_at _ _ _ _ (by simp)]⟩
  have HC : Hid (Calls Try.prog 45 #[.slice ao l.length cap, .string s] W fun e w' => AnsGw W l s c e w') := by rw [hc]; exact globalsWith_any ao cap g l s W hl hao (hr.below HBW.out) hz hs
  have HWd : Hid (∀ u, Calls Try.prog 64 #[v.val] u fun e w' => e = .returned (.tuple #[y.val, .int .i64 d]) ∧ Below u.heap.size u w') := fun u => by rw [hy, hd]; exact wordOf_any v u hv
  have HDF : Hid (∀ C b u, c = 0 → d = 0 → GlC C.toList b (l.map rwOf) → MapW u b ((l.map rwOf).map Rw.name) → ((l.map rwOf).map Rw.name).Nodup → Calls Try.prog 39 #[.agg C, (nW s).val, y.val] u fun e w' => AnsDf u m cc e w') := fun C b u h0 h1 h2 h3 h4 => by
    obtain ⟨_, hsy, _, hfi⟩ := ask_fine2 (hc.symm.trans h0)
    rw [hy]
    exact hdf C b u h2 h3 h4 hfi hsy (hd.symm.trans h1)
  have HM : Hid (c = 0 → d = 0 → cc = 0 → ∀ (k : Nat) (h : k < m.length), symL m[k].name.data.toList = true ∧ vfault m[k].value = 0) := fun h0 h1 h2 => by
    obtain ⟨_, hsy, _, hfi⟩ := ask_fine2 (hc.symm.trans h0)
    exact hm hfi hsy (hd.symm.trans h1) h2
  have HR : Hid (R = (if c ≠ 0 then c else if d ≠ 0 then d else cc) ∧ M = (if c ≠ 0 then [] else if d ≠ 0 then [] else if cc ≠ 0 then [] else m)) := ⟨hR, hM⟩
  clear hW hc hd hy hR hM hl hao hr hz hs hv hdf hm
  go_enter Try.func38, Try.ntmps38
  go_wp2_with fail
  rw [← HW.out]
  refine HC.out.mono ?_
  rintro e w1 ⟨C, x, rfl, hCs, hCa, hC0, hb1⟩
  have HC0 : Hid (c = 0 → x = nW s ∧ ∃ b, W.heap.size ≤ b ∧ GlC C.toList b (l.map rwOf) ∧ MapW w1 b ((l.map rwOf).map Rw.name) ∧ ((l.map rwOf).map Rw.name).Nodup) := hC0
  have HCa : Hid (C.all (·.oneCell') = true) := hCa
  have HB1 : Hid (Below W.heap.size W w1) := hb1
  have z1 : w.heap.size + 1 < w1.heap.size := by have := hb1.size; omega
  have HT1 : Hid (((w1.alloc (.cells Try.zeroCells79 79)).alloc (.cells #[.int .u8 0, .int .u64 0] 74)).there w1.heap.size 0 C.size) := by rw [hCs]; exact World.there_alloc (there_new w1 _ _ (by simp)) _
  obtain ⟨U, hU⟩ : ∃ U, U = ((w1.alloc (.cells Try.zeroCells79 79)).alloc (.cells #[.int .u8 0, .int .u64 0] 74)).setCells w1.heap.size 0 C.toList := ⟨_, rfl⟩
  have HU : Hid (U = ((w1.alloc (.cells Try.zeroCells79 79)).alloc (.cells #[.int .u8 0, .int .u64 0] 74)).setCells w1.heap.size 0 C.toList) := hU
  have HBU : Hid (Below w1.heap.size w1 U) := by rw [hU]; exact below_setCells (((Below.refl _ _).alloc (Nat.le_refl _) _).alloc (by simp) _) (Nat.le_refl _) _ _
  have HRU : Hid (U.rangeAt w1.heap.size 0 C.toList ∧ ∀ j, U.frozen? ⟨w1.heap.size, j, none⟩ = false) := by
    rw [hU]
    refine ⟨World.rangeAt_setCells_same _ _ _ _ (by rw [Array.length_toList]; exact HT1.out), fun j => ?_⟩
    rw [World.frozen?_setCells, World.frozen?_alloc_past _ _ _ (by simp), World.frozen?_alloc_at _ _ _ _ rfl]
  have u0 : U.cell? ⟨w1.heap.size + 1, 0, none⟩ = some (.int .u8 0) := by rw [hU, cell_setCells (by omega), World.cell?_alloc_at _ _ _ _ (by simp)]; rfl
  have u1 : U.cell? ⟨w1.heap.size + 1, 1, none⟩ = some (.int .u64 0) := by rw [hU, cell_setCells (by omega), World.cell?_alloc_at _ _ _ _ (by simp)]; rfl
  have uf : ∀ o, U.frozen? ⟨w1.heap.size + 1, o, none⟩ = false := fun o => by rw [hU, World.frozen?_setCells, World.frozen?_alloc_at _ _ _ _ (by simp)]
  have zU : w1.heap.size + 1 < U.heap.size := lt_of_cell u0
  have HBW1 : Hid (Below W.heap.size W U) := HB1.out.trans (HBU.out.mono HB1.out.size)
  have y0 := cell_keep HBW1.out HRW.out.1
  have y1 := cell_keep HBW1.out HRW.out.2.1
  have yf : ∀ o, U.frozen? ⟨w.heap.size + 1, o, none⟩ = false := fun o => by rw [(bcell HBW1.out).2 _ _ (by omega)]; exact HRW.out.2.2 o
  have HBw : Hid (Below w.heap.size w U) := HBW.out.trans (HBW1.out.mono HBW.out.size)
  clear hU hCa hb1 hC0 HC
  by_cases h0 : c = 0
  case neg =>
    have HE : Hid (R = c ∧ M = []) := ⟨by rw [HR.out.1, if_pos h0], by rw [HR.out.2, if_pos h0]⟩
    have h0' : (c != 0) = true := by simpa using h0
    clear HR h0 HC0 HDF HM HWd
    go_wp2_with (refine wpList_store_mid rfl 79 _ _ rfl w1.heap.size 0 C rfl rfl HT1.out (by rw [infoGl, hCs]) HCa.out ?_; rw [← HU.out])
    exact bodyPost_ret (v := .agg #[.int .i64 c, .slice none 0 0]) (by simp [results, Try.results38, go_sem, y0, y1]) rfl ⟨none, 0, by rw [HE.out.1, HE.out.2]; rfl, by rw [HE.out.2]; exact noneG _ _, by repeat (first | exact HBw.out | refine Below.setCell ?_ (by simp <;> omega) _)⟩
  subst h0
  obtain ⟨hxs, b, hbb, hGl, hMp, hNd⟩ := HC0.out rfl
  obtain ⟨V, hV⟩ : ∃ V, V = (U.setCell ⟨w1.heap.size + 1, 0, none⟩ (.int .u8 x.tag)).setCell ⟨w1.heap.size + 1, 1, none⟩ (.int .u64 x.rest) := ⟨_, rfl⟩
  have HV : Hid (V = (U.setCell ⟨w1.heap.size + 1, 0, none⟩ (.int .u8 x.tag)).setCell ⟨w1.heap.size + 1, 1, none⟩ (.int .u64 x.rest)) := hV
  have zV : V.heap.size = U.heap.size := by rw [hV]; simp
  have HGV : Hid (GlAt V w1.heap.size b (l.map rwOf)) := by
    have hbl : b < w1.heap.size := hMp.lt
    rw [hV]
    refine ⟨by omega, ?_, hNd, fun j => by simp only [World.frozen?_setCell]; exact HRU.out.2 j, C.toList, range_other (range_other HRU.out.1 (by omega)) (by omega), hGl⟩
    refine hMp.keep ?_
    have hs1 : ∀ (q : World) (o : Nat) (z : Value), (q.setCell ⟨w1.heap.size + 1, o, none⟩ z).heap[b]? = q.heap[b]? := fun q o z => RowKit.Below.heap_setCell _ _ _ _ (show b ≠ w1.heap.size + 1 by omega)
    rw [hs1, hs1]
    exact HBU.out.block b hbl
  have HRV : Hid (V.rangeAt w1.heap.size 0 C.toList) := by rw [hV]; exact range_other (range_other HRU.out.1 (by omega)) (by omega)
  have HVx : Hid (V.cell? ⟨w1.heap.size + 1, 0, none⟩ = some (.int .u8 x.tag) ∧ V.cell? ⟨w1.heap.size + 1, 1, none⟩ = some (.int .u64 x.rest)) := by
    rw [hV]
    exact ⟨by rw [World.cell?_setCell_other _ _ _ _ (by simp), World.cell?_setCell_same _ _ _ u0], by rw [World.cell?_setCell_same _ _ _ (by rw [World.cell?_setCell_other _ _ _ _ (by simp)]; exact u1)]⟩
  have HVo : Hid (∀ B o z, B ≠ w1.heap.size + 1 → U.cell? ⟨B, o, none⟩ = some z → V.cell? ⟨B, o, none⟩ = some z) := fun B o z hB h => by
    rw [hV, World.cell?_setCell_other _ _ _ _ (by simp), World.cell?_setCell_other _ _ _ _ (by simp)]; exact h
  have HYV : Hid (V.cell? ⟨w.heap.size + 1, 0, none⟩ = some (.int .i64 0) ∧ V.cell? ⟨w.heap.size + 1, 1, none⟩ = some (.slice none 0 0) ∧ ∀ o, V.frozen? ⟨w.heap.size + 1, o, none⟩ = false) := ⟨HVo.out _ _ _ (by omega) y0, HVo.out _ _ _ (by omega) y1, fun o => by rw [hV, World.frozen?_setCell, World.frozen?_setCell]; exact yf o⟩
  have HBV : Hid (Below w.heap.size w V) := by rw [hV]; exact (HBw.out.setCell (by simp; omega) _).setCell (by simp; omega) _
  have HDf : Hid (∀ u, Below V.heap.size V u → d = 0 → Calls Try.prog 39 #[.agg C, x.val, y.val] u fun e w' => AnsDf u m cc e w') := fun u hu h1 => by
    rw [hxs]
    exact HDF.out C b u rfl h1 hGl (HGV.out.below hu).map hNd
  have v0 := cell_keep HBW1.out HVW.out.c0
  have v1 := cell_keep HBW1.out HVW.out.c1
  have v2 := cell_keep HBW1.out HVW.out.c2
  have hvn : ¬ w.heap.size = w1.heap.size + 1 := by omega
  clear hGl hMp hNd HC0 hbb hV HVo HBw hxs HDF
  go_wp2_with (refine wpList_store_mid rfl 79 _ _ rfl w1.heap.size 0 C rfl rfl HT1.out (by rw [infoGl, hCs]) HCa.out ?_; rw [← HU.out])
  rw [← HV.out]
  clear u0 u1 uf HU HV HT1 v0 v1 v2 y0 y1 yf
  refine (HWd.out _).mono ?_
  rintro e w2 ⟨rfl, hb2⟩
  have y0 := cell_keep hb2 HYV.out.1
  have y1 := cell_keep hb2 HYV.out.2.1
  have yf : ∀ o, w2.frozen? ⟨w.heap.size + 1, o, none⟩ = false := fun o => by rw [(bcell hb2).2 _ _ (by omega)]; exact HYV.out.2.2 o
  have z2 : w1.heap.size + 1 < w2.heap.size := by have := hb2.size; omega
  have z2a : w.heap.size + 1 < w2.heap.size := by omega
  have HBV2 : Hid (Below V.heap.size V w2) := hb2
  have HB2 : Hid (Below w.heap.size w w2) := HBV.out.trans (hb2.mono (by omega))
  clear hb2 HWd
  by_cases h1 : d = 0
  case neg =>
    have HE : Hid (R = d ∧ M = []) := ⟨by rw [HR.out.1, if_neg (by simp), if_pos h1], by rw [HR.out.2, if_neg (by simp), if_pos h1]⟩
    have h1' : (d != 0) = true := by simpa using h1
    clear HR h1 HDf HM
    go_wp2
    exact bodyPost_ret (v := .agg #[.int .i64 d, .slice none 0 0]) (by simp [results, Try.results38, go_sem, y0, y1, z2a]) rfl ⟨none, 0, by rw [HE.out.1, HE.out.2]; rfl, by rw [HE.out.2]; exact noneG _ _, by repeat (first | exact HB2.out | refine Below.setCell ?_ (by simp <;> omega) _ | refine Below.alloc ?_ (by simp; omega) _)⟩
  subst h1
  obtain ⟨X, hX⟩ : ∃ X, X = w2.alloc (.cells #[.int .u8 y.tag, .int .u64 y.rest] 74) := ⟨_, rfl⟩
  have HX : Hid (X = w2.alloc (.cells #[.int .u8 y.tag, .int .u64 y.rest] 74)) := hX
  have HBX : Hid (Below V.heap.size V X) := by rw [hX]; exact HBV2.out.alloc HBV2.out.size _
  have HRX : Hid ((w2.alloc (.cells #[.int .u8 y.tag, .int .u64 y.rest] 74)).rangeAt w1.heap.size 0 C.toList) := by rw [← hX]; exact range_below HRV.out HBX.out
  have HBwX : Hid (Below w.heap.size w X) := HBV.out.trans (HBX.out.mono (by omega))
  have x0 := cell_keep HBV2.out HVx.out.1
  have x1 := cell_keep HBV2.out HVx.out.2
  have zX : X.heap.size = w2.heap.size + 1 := by rw [hX]; simp
  clear hX y0 y1 yf
  go_wp2_with (refine wpList_load_mid rfl 79 _ rfl w1.heap.size 0 rfl C.toList _ HRX.out Try.underlying79 rfl (by rw [infoGl, Array.length_toList, hCs]) ?_; rw [Array.toArray_toList])
  rw [← HX.out]
  clear x0 x1 HRX HX
  refine (HDf.out _ HBX.out (by trivial)).mono ?_
  rintro e w3 ⟨D, rfl, hDs, hDa, hD0, hb3⟩
  have HBV3 : Hid (Below V.heap.size V w3) := HBX.out.trans (hb3.mono HBX.out.size)
  have HD0 : Hid (cc = 0 → ∃ d, GlC D.toList d (m.map rwOf) ∧ MapW w3 d ((m.map rwOf).map Rw.name) ∧ ((m.map rwOf).map Rw.name).Nodup) := hD0
  have HDa : Hid (D.all (·.oneCell') = true) := hDa
  have HT3 : Hid (w3.there w1.heap.size 0 301) := there_below HGV.out.there HBV3.out
  have HTD : Hid (w3.there w1.heap.size 0 D.size) := by rw [hDs]; exact HT3.out
  obtain ⟨Y, hY⟩ : ∃ Y, Y = w3.setCells w1.heap.size 0 D.toList := ⟨_, rfl⟩
  have HY : Hid (Y = w3.setCells w1.heap.size 0 D.toList) := hY
  have y0 : Y.cell? ⟨w.heap.size + 1, 0, none⟩ = some (.int .i64 0) := by rw [hY, cell_setCells (by omega)]; exact cell_keep HBV3.out HYV.out.1
  have y1 : Y.cell? ⟨w.heap.size + 1, 1, none⟩ = some (.slice none 0 0) := by rw [hY, cell_setCells (by omega)]; exact cell_keep HBV3.out HYV.out.2.1
  have yf : ∀ o, Y.frozen? ⟨w.heap.size + 1, o, none⟩ = false := fun o => by rw [hY, World.frozen?_setCells, (bcell HBV3.out).2 _ _ (by omega)]; exact HYV.out.2.2 o
  have HBY : Hid (Below w.heap.size w Y) := by rw [hY]; exact below_setCells (HBV.out.trans (HBV3.out.mono (by omega))) (by omega) _ _
  have HYr : Hid (Y.rangeAt w1.heap.size 0 D.toList ∧ ∀ j, Y.frozen? ⟨w1.heap.size, j, none⟩ = false) := by
    rw [hY]
    exact ⟨World.rangeAt_setCells_same _ _ _ _ (by rw [Array.length_toList]; exact HTD.out), fun j => by rw [World.frozen?_setCells, (bcell HBV3.out).2 _ _ (by omega)]; exact HGV.out.free j⟩
  have HYm : Hid (∀ i, i ≠ w1.heap.size → Y.heap[i]? = w3.heap[i]?) := fun i hi => by rw [hY]; exact heap_setCells hi _ _ _
  have zY : w.heap.size + 1 < Y.heap.size := lt_of_cell y0
  clear hb3 hD0 hDa hY HDf
  by_cases h2 : cc = 0
  case neg =>
    have HE : Hid (R = cc ∧ M = []) := ⟨by rw [HR.out.1, if_neg (by simp), if_neg (by simp)], by rw [HR.out.2, if_neg (by simp), if_neg (by simp), if_pos h2]⟩
    have h2' : (cc != 0) = true := by simpa using h2
    clear HR h2 HD0 HM
    go_wp2_with (refine wpList_store_mid rfl 79 _ _ rfl w1.heap.size 0 D rfl rfl HTD.out (by rw [infoGl, hDs]) HDa.out ?_; rw [← HY.out])
    exact bodyPost_ret (v := .agg #[.int .i64 cc, .slice none 0 0]) (by simp [results, Try.results38, go_sem, y0, y1]) rfl ⟨none, 0, by rw [HE.out.1, HE.out.2]; rfl, by rw [HE.out.2]; exact noneG _ _, by repeat (first | exact HBY.out | refine Below.setCell ?_ (by simp <;> omega) _)⟩
  subst h2
  have HE : Hid (R = 0 ∧ M = m) := ⟨by rw [HR.out.1]; simp, by rw [HR.out.2]; simp⟩
  have HAn : Hid (Calls Try.prog 65 #[.pointer (some ⟨w1.heap.size, 0, none⟩)] Y fun e w' => AnsD Y 0 m e w') := by
    obtain ⟨q, h1, h2, h3⟩ := HD0.out rfl
    have hq := map_ne_there h2 HT3.out
    exact answer_g w1.heap.size q m Y ⟨Ne.symm hq, h2.keep (HYm.out q hq), h3, HYr.out.2, D.toList, HYr.out.1, h1⟩ (HM.out (by trivial) (by trivial) (by trivial))
  clear HD0 HM HR HYm
  go_wp2_with (refine wpList_store_mid rfl 79 _ _ rfl w1.heap.size 0 D rfl rfl HTD.out (by rw [infoGl, hDs]) HDa.out ?_; rw [← HY.out])
  refine HAn.out.mono ?_
  rintro e w4 ⟨aq, cq, rfl, ho, hb4⟩
  have r0 := cell_keep hb4 y0
  have r1 := cell_keep hb4 y1
  have rf : ∀ o, w4.frozen? ⟨w.heap.size + 1, o, none⟩ = false := fun o => by rw [(bcell hb4).2 _ _ (by omega)]; exact yf o
  have HO4 : Hid (w4.ownsRow w.heap.size 33 5 (.slice aq m.length cq) m.length (cellsG m)) := own_base ho (by omega)
  have HNE : Hid (∀ g, (Value.slice aq m.length cq).ownBlock = some g → w.heap.size + 1 < g) := fun g hg => by have := ho.lt g hg; omega
  have HB4 : Hid (Below w.heap.size w w4) := HBY.out.trans (hb4.mono (by omega))
  have z4 : w.heap.size + 1 < w4.heap.size := lt_of_cell r0
  obtain ⟨n, hn⟩ : ∃ n, n = m.length := ⟨_, rfl⟩
  have HN : Hid (n = m.length) := hn
  rw [← hn]
  clear hb4 ho y0 y1 yf HAn hn
  go_wp2
  refine bodyPost_ret (v := .agg #[.int .i64 0, .slice aq n cq]) (by simp [results, Try.results38, go_sem, r0, r1]) rfl ⟨aq, cq, by rw [HN.out, HE.out.1, HE.out.2], ?_, ?_⟩
  · rw [HE.out.2]
    repeat (first | exact HO4.out | refine own_set' ?_ (fun g hg e => by have := HNE.out g hg; simp at e; omega) _)
  · repeat (first | refine Below.setCell ?_ (by simp <;> omega) _ | exact HB4.out)
set_option maxRecDepth 100000 in
set_option maxHeartbeats 4000000 in
theorem turned_set (ao : Option Addr) (cap g : Nat) (l : List Glb) (s : ByteArray) (v : Vlu) (w : World) (R : Int) (M m : List Glb) (cc : Int) (hl : l.length ≤ 1048576) (hao : 0 < l.length → ao = some ⟨g, 0, none⟩) (hr : RowG w g l) (hz : ableG l) (hs : s.size ≤ 9223372036854775807) (hv : v.name.size ≤ 9223372036854775807)
    (hdf : ∀ C b u, GlC C.toList b (l.map rwOf) → MapW u b ((l.map rwOf).map Rw.name) → ((l.map rwOf).map Rw.name).Nodup → GFine l l.length → symL s.data.toList = true → vfault v = 0 → Calls Try.prog 40 #[.agg C, (nW s).val, (wdOf v).val] u fun e w' => AnsDf u m cc e w')
    (hm : GFine l l.length → symL s.data.toList = true → vfault v = 0 → cc = 0 → ∀ (k : Nat) (h : k < m.length), symL m[k].name.data.toList = true ∧ vfault m[k].value = 0)
    (hR : R = if askG l s ≠ 0 then askG l s else if vfault v ≠ 0 then vfault v else cc) (hM : M = if askG l s ≠ 0 then [] else if vfault v ≠ 0 then [] else if cc ≠ 0 then [] else m) :
    Calls Try.prog 38 #[.slice ao l.length cap, .string s, v.val, .func (.func 40) #[] #[]] w fun e w' => AnsD w R M e w' := by
  obtain ⟨c, hc⟩ : ∃ c, c = askG l s := ⟨_, rfl⟩
  obtain ⟨d, hd⟩ : ∃ d, d = vfault v := ⟨_, rfl⟩
  obtain ⟨y, hy⟩ : ∃ y, y = wdOf v := ⟨_, rfl⟩
  rw [← hc, ← hd] at hR hM
  obtain ⟨W, hW⟩ : ∃ W, W = (w.alloc (.cells #[.int .i64 v.kind, .int .i64 v.num, .string v.name] 26)).alloc (.cells #[.int .i64 0, .slice none 0 0] 30) := ⟨_, rfl⟩
  have HW : Hid (W = (w.alloc (.cells #[.int .i64 v.kind, .int .i64 v.num, .string v.name] 26)).alloc (.cells #[.int .i64 0, .slice none 0 0] 30)) := hW
  have HBW : Hid (Below w.heap.size w W) := by rw [hW]; exact ((Below.refl _ _).alloc (Nat.le_refl _) _).alloc (by simp) _
  have zW : W.heap.size = w.heap.size + 2 := by rw [hW]; simp
  have HVW : Hid (VluAt w.heap.size 0 v W) := by
    rw [hW]
    exact ⟨by rw [World.cell?_alloc_past _ _ _ (by simp), World.cell?_alloc_at _ _ _ _ rfl]; rfl, by rw [World.cell?_alloc_past _ _ _ (by simp), World.cell?_alloc_at _ _ _ _ rfl]; rfl, by rw [World.cell?_alloc_past _ _ _ (by simp), World.cell?_alloc_at _ _ _ _ rfl]; rfl⟩
  have HRW : Hid (W.cell? ⟨w.heap.size + 1, 0, none⟩ = some (.int .i64 0) ∧ W.cell? ⟨w.heap.size + 1, 1, none⟩ = some (.slice none 0 0) ∧ ∀ o, W.frozen? ⟨w.heap.size + 1, o, none⟩ = false) := by
    rw [hW]
    exact ⟨by rw [World.cell?_alloc_at _ _ _ _ (by simp)]; rfl, by rw [World.cell?_alloc_at _ _ _ _ (by simp)]; rfl, fun o => by rw [World.frozen?_alloc_at _ _ _ _ (by simp)]⟩
  have HC : Hid (Calls Try.prog 45 #[.slice ao l.length cap, .string s] W fun e w' => AnsGw W l s c e w') := by rw [hc]; exact globalsWith_any ao cap g l s W hl hao (hr.below HBW.out) hz hs
  have HWd : Hid (∀ u, Calls Try.prog 64 #[v.val] u fun e w' => e = .returned (.tuple #[y.val, .int .i64 d]) ∧ Below u.heap.size u w') := fun u => by rw [hy, hd]; exact wordOf_any v u hv
  have HDF : Hid (∀ C b u, c = 0 → d = 0 → GlC C.toList b (l.map rwOf) → MapW u b ((l.map rwOf).map Rw.name) → ((l.map rwOf).map Rw.name).Nodup → Calls Try.prog 40 #[.agg C, (nW s).val, y.val] u fun e w' => AnsDf u m cc e w') := fun C b u h0 h1 h2 h3 h4 => by
    obtain ⟨_, hsy, _, hfi⟩ := ask_fine2 (hc.symm.trans h0)
    rw [hy]
    exact hdf C b u h2 h3 h4 hfi hsy (hd.symm.trans h1)
  have HM : Hid (c = 0 → d = 0 → cc = 0 → ∀ (k : Nat) (h : k < m.length), symL m[k].name.data.toList = true ∧ vfault m[k].value = 0) := fun h0 h1 h2 => by
    obtain ⟨_, hsy, _, hfi⟩ := ask_fine2 (hc.symm.trans h0)
    exact hm hfi hsy (hd.symm.trans h1) h2
  have HR : Hid (R = (if c ≠ 0 then c else if d ≠ 0 then d else cc) ∧ M = (if c ≠ 0 then [] else if d ≠ 0 then [] else if cc ≠ 0 then [] else m)) := ⟨hR, hM⟩
  clear hW hc hd hy hR hM hl hao hr hz hs hv hdf hm
  go_enter Try.func38, Try.ntmps38
  go_wp2_with fail
  rw [← HW.out]
  refine HC.out.mono ?_
  rintro e w1 ⟨C, x, rfl, hCs, hCa, hC0, hb1⟩
  have HC0 : Hid (c = 0 → x = nW s ∧ ∃ b, W.heap.size ≤ b ∧ GlC C.toList b (l.map rwOf) ∧ MapW w1 b ((l.map rwOf).map Rw.name) ∧ ((l.map rwOf).map Rw.name).Nodup) := hC0
  have HCa : Hid (C.all (·.oneCell') = true) := hCa
  have HB1 : Hid (Below W.heap.size W w1) := hb1
  have z1 : w.heap.size + 1 < w1.heap.size := by have := hb1.size; omega
  have HT1 : Hid (((w1.alloc (.cells Try.zeroCells79 79)).alloc (.cells #[.int .u8 0, .int .u64 0] 74)).there w1.heap.size 0 C.size) := by rw [hCs]; exact World.there_alloc (there_new w1 _ _ (by simp)) _
  obtain ⟨U, hU⟩ : ∃ U, U = ((w1.alloc (.cells Try.zeroCells79 79)).alloc (.cells #[.int .u8 0, .int .u64 0] 74)).setCells w1.heap.size 0 C.toList := ⟨_, rfl⟩
  have HU : Hid (U = ((w1.alloc (.cells Try.zeroCells79 79)).alloc (.cells #[.int .u8 0, .int .u64 0] 74)).setCells w1.heap.size 0 C.toList) := hU
  have HBU : Hid (Below w1.heap.size w1 U) := by rw [hU]; exact below_setCells (((Below.refl _ _).alloc (Nat.le_refl _) _).alloc (by simp) _) (Nat.le_refl _) _ _
  have HRU : Hid (U.rangeAt w1.heap.size 0 C.toList ∧ ∀ j, U.frozen? ⟨w1.heap.size, j, none⟩ = false) := by
    rw [hU]
    refine ⟨World.rangeAt_setCells_same _ _ _ _ (by rw [Array.length_toList]; exact HT1.out), fun j => ?_⟩
    rw [World.frozen?_setCells, World.frozen?_alloc_past _ _ _ (by simp), World.frozen?_alloc_at _ _ _ _ rfl]
  have u0 : U.cell? ⟨w1.heap.size + 1, 0, none⟩ = some (.int .u8 0) := by rw [hU, cell_setCells (by omega), World.cell?_alloc_at _ _ _ _ (by simp)]; rfl
  have u1 : U.cell? ⟨w1.heap.size + 1, 1, none⟩ = some (.int .u64 0) := by rw [hU, cell_setCells (by omega), World.cell?_alloc_at _ _ _ _ (by simp)]; rfl
  have uf : ∀ o, U.frozen? ⟨w1.heap.size + 1, o, none⟩ = false := fun o => by rw [hU, World.frozen?_setCells, World.frozen?_alloc_at _ _ _ _ (by simp)]
  have zU : w1.heap.size + 1 < U.heap.size := lt_of_cell u0
  have HBW1 : Hid (Below W.heap.size W U) := HB1.out.trans (HBU.out.mono HB1.out.size)
  have y0 := cell_keep HBW1.out HRW.out.1
  have y1 := cell_keep HBW1.out HRW.out.2.1
  have yf : ∀ o, U.frozen? ⟨w.heap.size + 1, o, none⟩ = false := fun o => by rw [(bcell HBW1.out).2 _ _ (by omega)]; exact HRW.out.2.2 o
  have HBw : Hid (Below w.heap.size w U) := HBW.out.trans (HBW1.out.mono HBW.out.size)
  clear hU hCa hb1 hC0 HC
  by_cases h0 : c = 0
  case neg =>
    have HE : Hid (R = c ∧ M = []) := ⟨by rw [HR.out.1, if_pos h0], by rw [HR.out.2, if_pos h0]⟩
    have h0' : (c != 0) = true := by simpa using h0
    clear HR h0 HC0 HDF HM HWd
    go_wp2_with (refine wpList_store_mid rfl 79 _ _ rfl w1.heap.size 0 C rfl rfl HT1.out (by rw [infoGl, hCs]) HCa.out ?_; rw [← HU.out])
    exact bodyPost_ret (v := .agg #[.int .i64 c, .slice none 0 0]) (by simp [results, Try.results38, go_sem, y0, y1]) rfl ⟨none, 0, by rw [HE.out.1, HE.out.2]; rfl, by rw [HE.out.2]; exact noneG _ _, by repeat (first | exact HBw.out | refine Below.setCell ?_ (by simp <;> omega) _)⟩
  subst h0
  obtain ⟨hxs, b, hbb, hGl, hMp, hNd⟩ := HC0.out rfl
  obtain ⟨V, hV⟩ : ∃ V, V = (U.setCell ⟨w1.heap.size + 1, 0, none⟩ (.int .u8 x.tag)).setCell ⟨w1.heap.size + 1, 1, none⟩ (.int .u64 x.rest) := ⟨_, rfl⟩
  have HV : Hid (V = (U.setCell ⟨w1.heap.size + 1, 0, none⟩ (.int .u8 x.tag)).setCell ⟨w1.heap.size + 1, 1, none⟩ (.int .u64 x.rest)) := hV
  have zV : V.heap.size = U.heap.size := by rw [hV]; simp
  have HGV : Hid (GlAt V w1.heap.size b (l.map rwOf)) := by
    have hbl : b < w1.heap.size := hMp.lt
    rw [hV]
    refine ⟨by omega, ?_, hNd, fun j => by simp only [World.frozen?_setCell]; exact HRU.out.2 j, C.toList, range_other (range_other HRU.out.1 (by omega)) (by omega), hGl⟩
    refine hMp.keep ?_
    have hs1 : ∀ (q : World) (o : Nat) (z : Value), (q.setCell ⟨w1.heap.size + 1, o, none⟩ z).heap[b]? = q.heap[b]? := fun q o z => RowKit.Below.heap_setCell _ _ _ _ (show b ≠ w1.heap.size + 1 by omega)
    rw [hs1, hs1]
    exact HBU.out.block b hbl
  have HRV : Hid (V.rangeAt w1.heap.size 0 C.toList) := by rw [hV]; exact range_other (range_other HRU.out.1 (by omega)) (by omega)
  have HVx : Hid (V.cell? ⟨w1.heap.size + 1, 0, none⟩ = some (.int .u8 x.tag) ∧ V.cell? ⟨w1.heap.size + 1, 1, none⟩ = some (.int .u64 x.rest)) := by
    rw [hV]
    exact ⟨by rw [World.cell?_setCell_other _ _ _ _ (by simp), World.cell?_setCell_same _ _ _ u0], by rw [World.cell?_setCell_same _ _ _ (by rw [World.cell?_setCell_other _ _ _ _ (by simp)]; exact u1)]⟩
  have HVo : Hid (∀ B o z, B ≠ w1.heap.size + 1 → U.cell? ⟨B, o, none⟩ = some z → V.cell? ⟨B, o, none⟩ = some z) := fun B o z hB h => by
    rw [hV, World.cell?_setCell_other _ _ _ _ (by simp), World.cell?_setCell_other _ _ _ _ (by simp)]; exact h
  have HYV : Hid (V.cell? ⟨w.heap.size + 1, 0, none⟩ = some (.int .i64 0) ∧ V.cell? ⟨w.heap.size + 1, 1, none⟩ = some (.slice none 0 0) ∧ ∀ o, V.frozen? ⟨w.heap.size + 1, o, none⟩ = false) := ⟨HVo.out _ _ _ (by omega) y0, HVo.out _ _ _ (by omega) y1, fun o => by rw [hV, World.frozen?_setCell, World.frozen?_setCell]; exact yf o⟩
  have HBV : Hid (Below w.heap.size w V) := by rw [hV]; exact (HBw.out.setCell (by simp; omega) _).setCell (by simp; omega) _
  have HDf : Hid (∀ u, Below V.heap.size V u → d = 0 → Calls Try.prog 40 #[.agg C, x.val, y.val] u fun e w' => AnsDf u m cc e w') := fun u hu h1 => by
    rw [hxs]
    exact HDF.out C b u rfl h1 hGl (HGV.out.below hu).map hNd
  have v0 := cell_keep HBW1.out HVW.out.c0
  have v1 := cell_keep HBW1.out HVW.out.c1
  have v2 := cell_keep HBW1.out HVW.out.c2
  have hvn : ¬ w.heap.size = w1.heap.size + 1 := by omega
  clear hGl hMp hNd HC0 hbb hV HVo HBw hxs HDF
  go_wp2_with (refine wpList_store_mid rfl 79 _ _ rfl w1.heap.size 0 C rfl rfl HT1.out (by rw [infoGl, hCs]) HCa.out ?_; rw [← HU.out])
  rw [← HV.out]
  clear u0 u1 uf HU HV HT1 v0 v1 v2 y0 y1 yf
  refine (HWd.out _).mono ?_
  rintro e w2 ⟨rfl, hb2⟩
  have y0 := cell_keep hb2 HYV.out.1
  have y1 := cell_keep hb2 HYV.out.2.1
  have yf : ∀ o, w2.frozen? ⟨w.heap.size + 1, o, none⟩ = false := fun o => by rw [(bcell hb2).2 _ _ (by omega)]; exact HYV.out.2.2 o
  have z2 : w1.heap.size + 1 < w2.heap.size := by have := hb2.size; omega
  have z2a : w.heap.size + 1 < w2.heap.size := by omega
  have HBV2 : Hid (Below V.heap.size V w2) := hb2
  have HB2 : Hid (Below w.heap.size w w2) := HBV.out.trans (hb2.mono (by omega))
  clear hb2 HWd
  by_cases h1 : d = 0
  case neg =>
    have HE : Hid (R = d ∧ M = []) := ⟨by rw [HR.out.1, if_neg (by simp), if_pos h1], by rw [HR.out.2, if_neg (by simp), if_pos h1]⟩
    have h1' : (d != 0) = true := by simpa using h1
    clear HR h1 HDf HM
    go_wp2
    exact bodyPost_ret (v := .agg #[.int .i64 d, .slice none 0 0]) (by simp [results, Try.results38, go_sem, y0, y1, z2a]) rfl ⟨none, 0, by rw [HE.out.1, HE.out.2]; rfl, by rw [HE.out.2]; exact noneG _ _, by repeat (first | exact HB2.out | refine Below.setCell ?_ (by simp <;> omega) _ | refine Below.alloc ?_ (by simp; omega) _)⟩
  subst h1
  obtain ⟨X, hX⟩ : ∃ X, X = w2.alloc (.cells #[.int .u8 y.tag, .int .u64 y.rest] 74) := ⟨_, rfl⟩
  have HX : Hid (X = w2.alloc (.cells #[.int .u8 y.tag, .int .u64 y.rest] 74)) := hX
  have HBX : Hid (Below V.heap.size V X) := by rw [hX]; exact HBV2.out.alloc HBV2.out.size _
  have HRX : Hid ((w2.alloc (.cells #[.int .u8 y.tag, .int .u64 y.rest] 74)).rangeAt w1.heap.size 0 C.toList) := by rw [← hX]; exact range_below HRV.out HBX.out
  have HBwX : Hid (Below w.heap.size w X) := HBV.out.trans (HBX.out.mono (by omega))
  have x0 := cell_keep HBV2.out HVx.out.1
  have x1 := cell_keep HBV2.out HVx.out.2
  have zX : X.heap.size = w2.heap.size + 1 := by rw [hX]; simp
  clear hX y0 y1 yf
  go_wp2_with (refine wpList_load_mid rfl 79 _ rfl w1.heap.size 0 rfl C.toList _ HRX.out Try.underlying79 rfl (by rw [infoGl, Array.length_toList, hCs]) ?_; rw [Array.toArray_toList])
  rw [← HX.out]
  clear x0 x1 HRX HX
  refine (HDf.out _ HBX.out (by trivial)).mono ?_
  rintro e w3 ⟨D, rfl, hDs, hDa, hD0, hb3⟩
  have HBV3 : Hid (Below V.heap.size V w3) := HBX.out.trans (hb3.mono HBX.out.size)
  have HD0 : Hid (cc = 0 → ∃ d, GlC D.toList d (m.map rwOf) ∧ MapW w3 d ((m.map rwOf).map Rw.name) ∧ ((m.map rwOf).map Rw.name).Nodup) := hD0
  have HDa : Hid (D.all (·.oneCell') = true) := hDa
  have HT3 : Hid (w3.there w1.heap.size 0 301) := there_below HGV.out.there HBV3.out
  have HTD : Hid (w3.there w1.heap.size 0 D.size) := by rw [hDs]; exact HT3.out
  obtain ⟨Y, hY⟩ : ∃ Y, Y = w3.setCells w1.heap.size 0 D.toList := ⟨_, rfl⟩
  have HY : Hid (Y = w3.setCells w1.heap.size 0 D.toList) := hY
  have y0 : Y.cell? ⟨w.heap.size + 1, 0, none⟩ = some (.int .i64 0) := by rw [hY, cell_setCells (by omega)]; exact cell_keep HBV3.out HYV.out.1
  have y1 : Y.cell? ⟨w.heap.size + 1, 1, none⟩ = some (.slice none 0 0) := by rw [hY, cell_setCells (by omega)]; exact cell_keep HBV3.out HYV.out.2.1
  have yf : ∀ o, Y.frozen? ⟨w.heap.size + 1, o, none⟩ = false := fun o => by rw [hY, World.frozen?_setCells, (bcell HBV3.out).2 _ _ (by omega)]; exact HYV.out.2.2 o
  have HBY : Hid (Below w.heap.size w Y) := by rw [hY]; exact below_setCells (HBV.out.trans (HBV3.out.mono (by omega))) (by omega) _ _
  have HYr : Hid (Y.rangeAt w1.heap.size 0 D.toList ∧ ∀ j, Y.frozen? ⟨w1.heap.size, j, none⟩ = false) := by
    rw [hY]
    exact ⟨World.rangeAt_setCells_same _ _ _ _ (by rw [Array.length_toList]; exact HTD.out), fun j => by rw [World.frozen?_setCells, (bcell HBV3.out).2 _ _ (by omega)]; exact HGV.out.free j⟩
  have HYm : Hid (∀ i, i ≠ w1.heap.size → Y.heap[i]? = w3.heap[i]?) := fun i hi => by rw [hY]; exact heap_setCells hi _ _ _
  have zY : w.heap.size + 1 < Y.heap.size := lt_of_cell y0
  clear hb3 hD0 hDa hY HDf
  by_cases h2 : cc = 0
  case neg =>
    have HE : Hid (R = cc ∧ M = []) := ⟨by rw [HR.out.1, if_neg (by simp), if_neg (by simp)], by rw [HR.out.2, if_neg (by simp), if_neg (by simp), if_pos h2]⟩
    have h2' : (cc != 0) = true := by simpa using h2
    clear HR h2 HD0 HM
    go_wp2_with (refine wpList_store_mid rfl 79 _ _ rfl w1.heap.size 0 D rfl rfl HTD.out (by rw [infoGl, hDs]) HDa.out ?_; rw [← HY.out])
    exact bodyPost_ret (v := .agg #[.int .i64 cc, .slice none 0 0]) (by simp [results, Try.results38, go_sem, y0, y1]) rfl ⟨none, 0, by rw [HE.out.1, HE.out.2]; rfl, by rw [HE.out.2]; exact noneG _ _, by repeat (first | exact HBY.out | refine Below.setCell ?_ (by simp <;> omega) _)⟩
  subst h2
  have HE : Hid (R = 0 ∧ M = m) := ⟨by rw [HR.out.1]; simp, by rw [HR.out.2]; simp⟩
  have HAn : Hid (Calls Try.prog 65 #[.pointer (some ⟨w1.heap.size, 0, none⟩)] Y fun e w' => AnsD Y 0 m e w') := by
    obtain ⟨q, h1, h2, h3⟩ := HD0.out rfl
    have hq := map_ne_there h2 HT3.out
    exact answer_g w1.heap.size q m Y ⟨Ne.symm hq, h2.keep (HYm.out q hq), h3, HYr.out.2, D.toList, HYr.out.1, h1⟩ (HM.out (by trivial) (by trivial) (by trivial))
  clear HD0 HM HR HYm
  go_wp2_with (refine wpList_store_mid rfl 79 _ _ rfl w1.heap.size 0 D rfl rfl HTD.out (by rw [infoGl, hDs]) HDa.out ?_; rw [← HY.out])
  refine HAn.out.mono ?_
  rintro e w4 ⟨aq, cq, rfl, ho, hb4⟩
  have r0 := cell_keep hb4 y0
  have r1 := cell_keep hb4 y1
  have rf : ∀ o, w4.frozen? ⟨w.heap.size + 1, o, none⟩ = false := fun o => by rw [(bcell hb4).2 _ _ (by omega)]; exact yf o
  have HO4 : Hid (w4.ownsRow w.heap.size 33 5 (.slice aq m.length cq) m.length (cellsG m)) := own_base ho (by omega)
  have HNE : Hid (∀ g, (Value.slice aq m.length cq).ownBlock = some g → w.heap.size + 1 < g) := fun g hg => by have := ho.lt g hg; omega
  have HB4 : Hid (Below w.heap.size w w4) := HBY.out.trans (hb4.mono (by omega))
  have z4 : w.heap.size + 1 < w4.heap.size := lt_of_cell r0
  obtain ⟨n, hn⟩ : ∃ n, n = m.length := ⟨_, rfl⟩
  have HN : Hid (n = m.length) := hn
  rw [← hn]
  clear hb4 ho y0 y1 yf HAn hn
  go_wp2
  refine bodyPost_ret (v := .agg #[.int .i64 0, .slice aq n cq]) (by simp [results, Try.results38, go_sem, r0, r1]) rfl ⟨aq, cq, by rw [HN.out, HE.out.1, HE.out.2], ?_, ?_⟩
  · rw [HE.out.2]
    repeat (first | exact HO4.out | refine own_set' ?_ (fun g hg e => by have := HNE.out g hg; simp at e; omega) _)
  · repeat (first | refine Below.setCell ?_ (by simp <;> omega) _ | exact HB4.out)
end Go.Proofs.Ytgfienijabkpjaa
