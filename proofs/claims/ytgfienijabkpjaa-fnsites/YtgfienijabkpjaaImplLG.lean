/-
  The program's LookGlobal; nothing that was there is turned.
-/
import Derived.Test.YtgfienijabkpjaaImplGW
import Derived.Test.YtgfienijabkpjaaImplRG
namespace Go.Proofs.Ytgfienijabkpjaa
open Go.RowKit Go.Extern.Stop Go.Stop Go.Extern Num Go.Lib

theorem ask_fine {l : List Glb} {s : ByteArray} (h : askG l s = 0) : globFault l = 0 ∧ symL s.data.toList = true ∧ l.length ≤ 60 ∧ GFine l l.length := by
  unfold askG at h
  by_cases h0 : globFault l = 0
  · rw [if_neg (by simpa using h0)] at h
    obtain ⟨h1, h2⟩ := GFine.of h0
    refine ⟨h0, ?_, h1, h2⟩
    unfold symC at h
    by_cases hs : symL s.data.toList = true
    · exact hs
    · rw [if_neg hs] at h; simp at h
  · rw [if_pos h0] at h; exact absurd h h0
set_option maxRecDepth 100000 in
set_option maxHeartbeats 4000000 in
theorem implLG_any (ao : Option Addr) (cap g : Nat) (l : List Glb) (s : ByteArray) (w : World) (hl : l.length ≤ 1048576) (hao : 0 < l.length → ao = some ⟨g, 0, none⟩) (hr : RowG w g l) (hz : ableG l) (hs : s.size ≤ 9223372036854775807) :
    Calls Try.prog 14 #[.slice ao l.length cap, .string s] w fun e w' => e = .returned (GR (codeLG l s) (valLG l s)) ∧ Below w.heap.size w w' := by
  obtain ⟨c, hc⟩ : ∃ c, c = askG l s := ⟨_, rfl⟩
  obtain ⟨W, hW⟩ : ∃ W, W = w.alloc (.cells #[.int .i64 0, .string ⟨#[]⟩, .int .i64 0, .int .i64 0, .string ⟨#[]⟩, .int .i64 0] 35) := ⟨_, rfl⟩
  have HBW : Hid (Below w.heap.size w W) := by rw [hW]; exact (Below.refl _ _).alloc (Nat.le_refl _) _
  have HZ : Hid (∀ (o : Nat) (v : Value), [Value.int .i64 0, .string ⟨#[]⟩, .int .i64 0, .int .i64 0, .string ⟨#[]⟩, .int .i64 0][o]? = some v → W.cell? ⟨w.heap.size, o, none⟩ = some v) := fun o v h => by rw [hW, World.cell?_alloc_at _ _ _ _ rfl]; simpa using h
  have HZf : Hid (∀ o, W.frozen? ⟨w.heap.size, o, none⟩ = false) := fun o => by rw [hW, World.frozen?_alloc_at _ _ _ _ rfl]
  have zW : W.heap.size = w.heap.size + 1 := by rw [hW]; simp
  have HC : Hid (Calls Try.prog 45 #[.slice ao l.length cap, .string s] W fun e w' => AnsGw W l s c e w') := by rw [hc]; exact globalsWith_any ao cap g l s W hl hao (hr.below HBW.out) hz hs
  have HW : Hid (W = w.alloc (.cells #[.int .i64 0, .string ⟨#[]⟩, .int .i64 0, .int .i64 0, .string ⟨#[]⟩, .int .i64 0] 35)) := hW
  have HCc : Hid (c = askG l s) := hc
  obtain ⟨R, hR⟩ : ∃ R, R = codeLG l s := ⟨_, rfl⟩
  obtain ⟨T, hT⟩ : ∃ T, T = valLG l s := ⟨_, rfl⟩
  have HR : Hid (R = codeLG l s ∧ T = valLG l s) := ⟨hR, hT⟩
  rw [← hR, ← hT]
  clear hW hc hR hT hl hao hr hz hs
  go_enter Try.func14, Try.ntmps14
  go_wp2_with fail
  rw [← HW.out]
  refine HC.out.mono ?_
  rintro e w1 ⟨C, x, rfl, hCs, hCa, hC0, hb1⟩
  have HC0 : Hid (c = 0 → x = nW s ∧ ∃ b, W.heap.size ≤ b ∧ GlC C.toList b (l.map rwOf) ∧ MapW w1 b ((l.map rwOf).map Rw.name) ∧ ((l.map rwOf).map Rw.name).Nodup) := hC0
  have HCa : Hid (C.all (·.oneCell') = true) := hCa
  have HB1 : Hid (Below W.heap.size W w1) := hb1
  have z1 : w.heap.size < w1.heap.size := by have := hb1.size; omega
  obtain ⟨V, hV⟩ : ∃ V, V = (w1.alloc (.cells Try.zeroCells79 79)).alloc (.cells #[.int .u8 0, .int .u64 0] 74) := ⟨_, rfl⟩
  have HT1 : Hid (((w1.alloc (.cells Try.zeroCells79 79)).alloc (.cells #[.int .u8 0, .int .u64 0] 74)).there w1.heap.size 0 C.size) := by rw [hCs]; exact World.there_alloc (there_new w1 _ _ (by simp)) _
  obtain ⟨U, hU⟩ : ∃ U, U = ((w1.alloc (.cells Try.zeroCells79 79)).alloc (.cells #[.int .u8 0, .int .u64 0] 74)).setCells w1.heap.size 0 C.toList := ⟨_, rfl⟩
  have HU : Hid (U = ((w1.alloc (.cells Try.zeroCells79 79)).alloc (.cells #[.int .u8 0, .int .u64 0] 74)).setCells w1.heap.size 0 C.toList) := hU
  have HBU : Hid (Below w1.heap.size w1 U) := by rw [hU]; exact below_setCells (((Below.refl _ _).alloc (Nat.le_refl _) _).alloc (by simp) _) (Nat.le_refl _) _ _
  have HRU : Hid (U.rangeAt w1.heap.size 0 C.toList ∧ ∀ j, U.frozen? ⟨w1.heap.size, j, none⟩ = false) := by
    rw [hU]
    refine ⟨World.rangeAt_setCells_same _ _ _ _ (by rw [Array.length_toList]; exact HT1.out), fun j => ?_⟩
    rw [World.frozen?_setCells, World.frozen?_alloc_past _ _ _ (by simp), World.frozen?_alloc_at _ _ _ _ rfl]
  have u0 : U.cell? ⟨w1.heap.size + 1, 0, none⟩ = some (.int .u8 0) := by rw [hU, cell_setCells (by omega), World.cell?_alloc_at _ _ _ _ (by simp)]; rfl
  have u1 : U.cell? ⟨w1.heap.size + 1, 1, none⟩ = some (.int .u64 0) := by rw [hU, cell_setCells (by omega), World.cell?_alloc_at _ _ _ _ (by simp)]; rfl
  have uf : ∀ o, U.frozen? ⟨w1.heap.size + 1, o, none⟩ = false := fun o => by rw [hU, World.frozen?_setCells, World.frozen?_alloc_at _ _ _ _ (by simp)]
  have zU : w1.heap.size + 1 < U.heap.size := lt_of_cell u0
  have HBW1 : Hid (Below W.heap.size W U) := HB1.out.trans (HBU.out.mono HB1.out.size)
  have y0 := cell_keep HBW1.out (HZ.out 0 _ rfl)
  have y1 := cell_keep HBW1.out (HZ.out 1 _ rfl)
  have y2 := cell_keep HBW1.out (HZ.out 2 _ rfl)
  have y3 := cell_keep HBW1.out (HZ.out 3 _ rfl)
  have y4 := cell_keep HBW1.out (HZ.out 4 _ rfl)
  have y5 := cell_keep HBW1.out (HZ.out 5 _ rfl)
  have yf : ∀ o, U.frozen? ⟨w.heap.size, o, none⟩ = false := fun o => by rw [(bcell HBW1.out).2 _ _ (by omega)]; exact HZf.out o
  have HBw : Hid (Below w.heap.size w U) := HBW.out.trans (HBW1.out.mono HBW.out.size)
  clear hU hCa hb1 hC0 hV V
  by_cases h0 : c = 0
  case neg =>
    have HE : Hid (R = c ∧ T = gZ) := by
      obtain ⟨e1, e2⟩ := lg_bad (l := l) (s := s) (by rw [← HCc.out]; exact h0)
      exact ⟨by rw [HR.out.1, e1, HCc.out], by rw [HR.out.2, e2]⟩
    have h0' : (c != 0) = true := by simpa using h0
    clear HR h0 HC0 HCc HC
    go_wp2_with (refine wpList_store_mid rfl 79 _ _ rfl w1.heap.size 0 C rfl rfl HT1.out (by rw [infoGl, hCs]) HCa.out ?_; rw [← HU.out])
    exact bodyPost_ret (v := GR c gZ) (by simp [results, Try.results14, go_sem, y0, y1, y2, y3, y4, y5, gZ]) rfl ⟨by rw [HE.out.1, HE.out.2], by repeat (first | refine Below.setCell ?_ (by simp <;> omega) _ | exact HBw.out)⟩
  subst h0
  obtain ⟨hg0, hsy, hl60, hfine⟩ := ask_fine HCc.out.symm
  have HF : Hid (symL s.data.toList = true ∧ GFine l l.length) := ⟨hsy, hfine⟩
  obtain ⟨hxs, b, hbb, hGl, hMp, hNd⟩ := HC0.out rfl
  have HX : Hid (x = nW s) := hxs
  obtain ⟨V, hV⟩ : ∃ V, V = (U.setCell ⟨w1.heap.size + 1, 0, none⟩ (.int .u8 x.tag)).setCell ⟨w1.heap.size + 1, 1, none⟩ (.int .u64 x.rest) := ⟨_, rfl⟩
  have HV : Hid (V = (U.setCell ⟨w1.heap.size + 1, 0, none⟩ (.int .u8 x.tag)).setCell ⟨w1.heap.size + 1, 1, none⟩ (.int .u64 x.rest)) := hV
  have zV : V.heap.size = U.heap.size := by rw [hV]; simp
  have HGV : Hid (GlAt V w1.heap.size b (l.map rwOf)) := by
    have hbl : b < w1.heap.size := hMp.lt
    rw [hV]
    refine ⟨by omega, ?_, hNd, fun j => by simp only [World.frozen?_setCell]; exact HRU.out.2 j, C.toList, range_other (range_other HRU.out.1 (by omega)) (by omega), hGl⟩
    refine hMp.keep ?_
    have hs1 : ∀ (y : World) (o : Nat) (v : Value), (y.setCell ⟨w1.heap.size + 1, o, none⟩ v).heap[b]? = y.heap[b]? := fun y o v => RowKit.Below.heap_setCell _ _ _ _ (show b ≠ w1.heap.size + 1 by omega)
    rw [hs1, hs1]
    exact HBU.out.block b hbl
  have HVo : Hid (∀ o v, U.cell? ⟨w.heap.size, o, none⟩ = some v → V.cell? ⟨w.heap.size, o, none⟩ = some v) := fun o v h => by
    rw [hV, World.cell?_setCell_other _ _ _ _ (by simp), World.cell?_setCell_other _ _ _ _ (by simp)]; exact h
  have HVf : Hid (∀ o, V.frozen? ⟨w.heap.size, o, none⟩ = false) := fun o => by rw [hV, World.frozen?_setCell, World.frozen?_setCell]; exact yf o
  have HYV : Hid (V.cell? ⟨w.heap.size, 0, none⟩ = some (.int .i64 0) ∧ V.cell? ⟨w.heap.size, 1, none⟩ = some (.string ⟨#[]⟩) ∧ V.cell? ⟨w.heap.size, 2, none⟩ = some (.int .i64 0) ∧ V.cell? ⟨w.heap.size, 3, none⟩ = some (.int .i64 0) ∧ V.cell? ⟨w.heap.size, 4, none⟩ = some (.string ⟨#[]⟩) ∧ V.cell? ⟨w.heap.size, 5, none⟩ = some (.int .i64 0)) := ⟨HVo.out _ _ y0, HVo.out _ _ y1, HVo.out _ _ y2, HVo.out _ _ y3, HVo.out _ _ y4, HVo.out _ _ y5⟩
  have HBV : Hid (Below w.heap.size w V) := by rw [hV]; exact (HBw.out.setCell (by simp; omega) _).setCell (by simp; omega) _
  clear hg0 hsy hfine hxs hGl hMp hNd HC0 HC hbb hV HVo y0 y1 y2 y3 y4 y5 yf HBw
  go_wp2_with (refine wpList_store_mid rfl 79 _ _ rfl w1.heap.size 0 C rfl rfl HT1.out (by rw [infoGl, hCs]) HCa.out ?_; rw [← HU.out])
  rw [← HV.out]
  clear u0 u1 uf HU HV HT1 HCa
  cases hat : atG l s with
  | none =>
    have HE : Hid (R = 4 ∧ T = gZ) := by
      obtain ⟨e1, e2⟩ := lg_none HCc.out.symm hat
      exact ⟨by rw [HR.out.1, e1], by rw [HR.out.2, e2]⟩
    have HFd : Hid (Calls Try.prog 46 #[.pointer (some ⟨w1.heap.size, 0, none⟩), x.val] V fun e w' => e = .returned (.tuple #[rwZ.val, .bool false]) ∧ Below V.heap.size V w') := by
      have hm := names_miss l l.length s HF.out.2 (Nat.le_refl _) HF.out.1 (by rw [List.take_length]; exact hat)
      rw [List.take_length] at hm
      rw [HX.out]
      exact find_miss _ b (l.map rwOf) (nW s) V HGV.out (nW_fit HF.out.1) hm
    clear hat HR HCc HF HGV
    refine HFd.out.mono ?_
    rintro e w2 ⟨rfl, hb2⟩
    have y0 := cell_keep hb2 HYV.out.1
    have y1 := cell_keep hb2 HYV.out.2.1
    have y2 := cell_keep hb2 HYV.out.2.2.1
    have y3 := cell_keep hb2 HYV.out.2.2.2.1
    have y4 := cell_keep hb2 HYV.out.2.2.2.2.1
    have y5 := cell_keep hb2 HYV.out.2.2.2.2.2
    have yf : ∀ o, w2.frozen? ⟨w.heap.size, o, none⟩ = false := fun o => by rw [(bcell hb2).2 _ _ (by omega)]; exact HVf.out o
    have z2 : w.heap.size < w2.heap.size := by have := hb2.size; omega
    have HB2 : Hid (Below w.heap.size w w2) := HBV.out.trans (hb2.mono (by omega))
    clear hb2
    go_wp2
    exact bodyPost_ret (v := GR 4 gZ) (by simp [results, Try.results14, go_sem, y0, y1, y2, y3, y4, y5, z2, gZ]) rfl ⟨by rw [HE.out.1, HE.out.2], by repeat (first | refine Below.setCell ?_ (by simp <;> omega) _ | refine Below.alloc ?_ (by simp <;> omega) _ | exact HB2.out)⟩
  | some k =>
    obtain ⟨hk, hnm, _⟩ := atG_some hat
    have HE : Hid (R = 0 ∧ T = l[k]'hk) := by
      obtain ⟨e1, e2⟩ := lg_some HCc.out.symm hat hk
      exact ⟨by rw [HR.out.1, e1], by rw [HR.out.2, e2]⟩
    have HRG : Hid (∀ u, Calls Try.prog 47 #[(rwOf T).val] u fun e w' => e = .returned T.val ∧ Below u.heap.size u w') := fun u => by
      rw [HE.out.2]
      exact rowGlobal_any _ u (HF.out.2.sym k hk hk) (HF.out.2.val k hk hk)
    have HFd : Hid (Calls Try.prog 46 #[.pointer (some ⟨w1.heap.size, 0, none⟩), x.val] V fun e w' => e = .returned (.tuple #[(rwOf T).val, .bool true]) ∧ Below V.heap.size V w') := by
      have h := find_hit _ b (l.map rwOf) k (by simpa using hk) V HGV.out
      have e1 : (l.map rwOf)[k]'(by simpa using hk) = rwOf T := by rw [List.getElem_map, HE.out.2]
      have e2 : (rwOf T).name = x := by rw [HX.out, HE.out.2]; show nW _ = nW s; rw [hnm]
      rw [e1, e2] at h
      exact h
    clear hat HR HCc HF HGV hnm
    refine HFd.out.mono ?_
    obtain ⟨r, hr⟩ : ∃ r, r = rwOf T := ⟨_, rfl⟩
    rw [← hr] at HRG ⊢
    clear hr
    rintro e w2 ⟨rfl, hb2⟩
    have HY2 : Hid (w2.cell? ⟨w.heap.size, 0, none⟩ = some (.int .i64 0) ∧ w2.cell? ⟨w.heap.size, 1, none⟩ = some (.string ⟨#[]⟩) ∧ w2.cell? ⟨w.heap.size, 2, none⟩ = some (.int .i64 0) ∧ w2.cell? ⟨w.heap.size, 3, none⟩ = some (.int .i64 0) ∧ w2.cell? ⟨w.heap.size, 4, none⟩ = some (.string ⟨#[]⟩) ∧ w2.cell? ⟨w.heap.size, 5, none⟩ = some (.int .i64 0) ∧ ∀ o, w2.frozen? ⟨w.heap.size, o, none⟩ = false) := ⟨cell_keep hb2 HYV.out.1, cell_keep hb2 HYV.out.2.1, cell_keep hb2 HYV.out.2.2.1, cell_keep hb2 HYV.out.2.2.2.1, cell_keep hb2 HYV.out.2.2.2.2.1, cell_keep hb2 HYV.out.2.2.2.2.2, fun o => by rw [(bcell hb2).2 _ _ (by omega)]; exact HVf.out o⟩
    have z2 : w.heap.size < w2.heap.size := by have := hb2.size; omega
    have HB2 : Hid (Below w.heap.size w w2) := HBV.out.trans (hb2.mono (by omega))
    clear hb2
    go_wp2_with fail
    refine (HRG.out _).mono ?_
    rintro e w3 ⟨rfl, hb3⟩
    obtain ⟨hc3, hf3⟩ := bcell hb3
    have y0 : w3.cell? ⟨w.heap.size, 0, none⟩ = some (.int .i64 0) := by rw [hc3 _ _ (by simp; omega), World.cell?_alloc_past _ _ _ z2]; exact HY2.out.1
    have y1 : w3.cell? ⟨w.heap.size, 1, none⟩ = some (.string ⟨#[]⟩) := by rw [hc3 _ _ (by simp; omega), World.cell?_alloc_past _ _ _ z2]; exact HY2.out.2.1
    have y2 : w3.cell? ⟨w.heap.size, 2, none⟩ = some (.int .i64 0) := by rw [hc3 _ _ (by simp; omega), World.cell?_alloc_past _ _ _ z2]; exact HY2.out.2.2.1
    have y3 : w3.cell? ⟨w.heap.size, 3, none⟩ = some (.int .i64 0) := by rw [hc3 _ _ (by simp; omega), World.cell?_alloc_past _ _ _ z2]; exact HY2.out.2.2.2.1
    have y4 : w3.cell? ⟨w.heap.size, 4, none⟩ = some (.string ⟨#[]⟩) := by rw [hc3 _ _ (by simp; omega), World.cell?_alloc_past _ _ _ z2]; exact HY2.out.2.2.2.2.1
    have y5 : w3.cell? ⟨w.heap.size, 5, none⟩ = some (.int .i64 0) := by rw [hc3 _ _ (by simp; omega), World.cell?_alloc_past _ _ _ z2]; exact HY2.out.2.2.2.2.2.1
    have yf : ∀ o, w3.frozen? ⟨w.heap.size, o, none⟩ = false := fun o => by rw [hf3 _ _ (by simp; omega), World.frozen?_alloc_past _ _ _ z2]; exact HY2.out.2.2.2.2.2.2 o
    have z3 : w.heap.size < w3.heap.size := by have := hb3.size; simp at this; omega
    have HB3 : Hid (Below w.heap.size w w3) := (HB2.out.alloc (by omega) _).trans (hb3.mono (by simp; omega))
    clear hb3 hc3 hf3 HY2
    go_wp2
    exact bodyPost_ret (v := GR 0 T) (by simp [results, Try.results14, go_sem, y0, y1, y2, y3, y4, y5]) rfl ⟨by rw [HE.out.1], by repeat (first | refine Below.setCell ?_ (by simp <;> omega) _ | refine Below.alloc ?_ (by simp <;> omega) _ | exact HB3.out)⟩
end Go.Proofs.Ytgfienijabkpjaa
