/-
  What FetchSite answers, in plain words; the program's FetchSite; nothing that was there is turned.
-/
import Derived.Test.YtlamkbggfbancaaImplFe
import Derived.Test.YtlamkbggfbancaaFrKit
import Derived.Test.YtlamkbggfbancaaFacts
namespace Go.Proofs.Ytlamkbggfbancaa
open Go.RowKit Go.Extern.Stop Go.Stop Go.Extern Num Go.Lib

set_option maxRecDepth 100000 in
set_option maxHeartbeats 8000000 in
theorem implFS_any (ao : Option Addr) (cap g : Nat) (l : List Glb) (s : ByteArray) (t : Ste) (w : World) (hl : l.length ≤ 1048576) (hao : 0 < l.length → ao = some ⟨g, 0, none⟩) (hr : RowG w g l) (hz : ableG l) (hs : s.size ≤ 9223372036854775807) (ht : t.value.name.size ≤ 9223372036854775807) :
    Calls Try.prog 20 #[.slice ao l.length cap, .string s, t.val] w fun e w' => e = .returned (FR (outFS l s t)) ∧ Below w.heap.size w w' := by
  obtain ⟨c, hc⟩ : ∃ c, c = codeSF l s t := ⟨_, rfl⟩
  obtain ⟨W, hW⟩ : ∃ W, W = (w.alloc (.cells #[.int .i64 t.ver, .int .i64 t.value.kind, .int .i64 t.value.num, .string t.value.name] 39)).alloc (.cells #[.int .i64 0, .bool false, .int .i64 0, .int .i64 0, .string ⟨#[]⟩, .int .i64 0, .int .i64 0, .int .i64 0, .string ⟨#[]⟩] 43) := ⟨_, rfl⟩
  have HW : Hid (W = (w.alloc (.cells #[.int .i64 t.ver, .int .i64 t.value.kind, .int .i64 t.value.num, .string t.value.name] 39)).alloc (.cells #[.int .i64 0, .bool false, .int .i64 0, .int .i64 0, .string ⟨#[]⟩, .int .i64 0, .int .i64 0, .int .i64 0, .string ⟨#[]⟩] 43)) := hW
  have HBW : Hid (Below w.heap.size w W) := by rw [hW]; exact ((Below.refl _ _).alloc (Nat.le_refl _) _).alloc (by simp) _
  have zW : W.heap.size = w.heap.size + 2 := by rw [hW]; simp
  have HZ : Hid (Fr9 W (w.heap.size + 1)) := by
    rw [hW]
    exact ⟨fun o v h => by rw [World.cell?_alloc_at _ _ _ _ (by simp)]; simpa using h, fun o => by rw [World.frozen?_alloc_at _ _ _ _ (by simp)]⟩
  have HC : Hid (Calls Try.prog 57 #[.slice ao l.length cap, .string s, t.val] W fun e w' => AnsGt W l s t c e w') := by rw [hc]; exact globalsAt_any ao cap g l s t W hl hao (hr.below HBW.out) hz hs ht
  obtain ⟨R, hR⟩ : ∃ R, R = outFS l s t := ⟨_, rfl⟩
  have HR : Hid (R = outFS l s t ∧ c = codeSF l s t) := ⟨hR, hc⟩
  rw [← hR]
  clear hW hc hR hl hao hr hz hs ht
  go_enter Try.func20, Try.ntmps20
  go_wp2_with fail
  rw [← HW.out]
  refine HC.out.mono ?_
  rintro e w1 ⟨C, x, m, rfl, hCs, hCa, hC0, hb⟩
  have HC0 : Hid (c = 0 → x = nW s ∧ m = mryOf t ∧ ∃ b, W.heap.size ≤ b ∧ GlC C.toList b (l.map rwOf) ∧ MapW w1 b ((l.map rwOf).map Rw.name) ∧ ((l.map rwOf).map Rw.name).Nodup) := hC0
  have HB1 : Hid (Below W.heap.size W w1) := hb
  have z1 : w.heap.size + 1 < w1.heap.size := by have := hb.size; omega
  have HT : Hid ((((w1.alloc (.cells Try.zeroCells82 82)).alloc (.cells #[.int .u8 0, .int .u64 0] 77)).alloc (.cells #[.int .i64 0, .int .u8 0, .int .u64 0] 100)).there w1.heap.size 0 C.size) := by rw [hCs]; exact World.there_alloc (World.there_alloc (there_new w1 _ _ (by simp)) _) _
  have HCa : Hid (C.all (·.oneCell') = true) := hCa
  obtain ⟨U, hU⟩ : ∃ U, U = (((w1.alloc (.cells Try.zeroCells82 82)).alloc (.cells #[.int .u8 0, .int .u64 0] 77)).alloc (.cells #[.int .i64 0, .int .u8 0, .int .u64 0] 100)).setCells w1.heap.size 0 C.toList := ⟨_, rfl⟩
  have HU : Hid (U = (((w1.alloc (.cells Try.zeroCells82 82)).alloc (.cells #[.int .u8 0, .int .u64 0] 77)).alloc (.cells #[.int .i64 0, .int .u8 0, .int .u64 0] 100)).setCells w1.heap.size 0 C.toList) := hU
  have HBU : Hid (Below w1.heap.size w1 U) := by rw [hU]; exact below_setCells ((((Below.refl _ _).alloc (Nat.le_refl _) _).alloc (by simp) _).alloc (by simp <;> omega) _) (Nat.le_refl _) _ _
  have HRU : Hid (U.rangeAt w1.heap.size 0 C.toList ∧ ∀ j, U.frozen? ⟨w1.heap.size, j, none⟩ = false) := by
    rw [hU]
    refine ⟨World.rangeAt_setCells_same _ _ _ _ (by rw [Array.length_toList]; exact HT.out), fun j => ?_⟩
    rw [World.frozen?_setCells, World.frozen?_alloc_past _ _ _ (by simp; omega), World.frozen?_alloc_past _ _ _ (by simp), World.frozen?_alloc_at _ _ _ _ rfl]
  have u0 : U.cell? ⟨w1.heap.size + 1, 0, none⟩ = some (.int .u8 0) := by rw [hU, cell_setCells (by omega), World.cell?_alloc_past _ _ _ (by simp), World.cell?_alloc_at _ _ _ _ (by simp)]; rfl
  have u1 : U.cell? ⟨w1.heap.size + 1, 1, none⟩ = some (.int .u64 0) := by rw [hU, cell_setCells (by omega), World.cell?_alloc_past _ _ _ (by simp), World.cell?_alloc_at _ _ _ _ (by simp)]; rfl
  have uf : ∀ o, U.frozen? ⟨w1.heap.size + 1, o, none⟩ = false := fun o => by rw [hU, World.frozen?_setCells, World.frozen?_alloc_past _ _ _ (by simp), World.frozen?_alloc_at _ _ _ _ (by simp)]
  have v0 : U.cell? ⟨w1.heap.size + 1 + 1, 0, none⟩ = some (.int .i64 0) := by rw [hU, cell_setCells (by omega), World.cell?_alloc_at _ _ _ _ (by simp)]; rfl
  have v1 : U.cell? ⟨w1.heap.size + 1 + 1, 1, none⟩ = some (.int .u8 0) := by rw [hU, cell_setCells (by omega), World.cell?_alloc_at _ _ _ _ (by simp)]; rfl
  have v2 : U.cell? ⟨w1.heap.size + 1 + 1, 2, none⟩ = some (.int .u64 0) := by rw [hU, cell_setCells (by omega), World.cell?_alloc_at _ _ _ _ (by simp)]; rfl
  have vf : ∀ o, U.frozen? ⟨w1.heap.size + 1 + 1, o, none⟩ = false := fun o => by rw [hU, World.frozen?_setCells, World.frozen?_alloc_at _ _ _ _ (by simp)]
  have zU : w1.heap.size + 1 + 1 < U.heap.size := lt_of_cell v0
  obtain ⟨V, hV⟩ : ∃ V, V = ((((U.setCell ⟨w1.heap.size + 1, 0, none⟩ (.int .u8 x.tag)).setCell ⟨w1.heap.size + 1, 1, none⟩ (.int .u64 x.rest)).setCell ⟨w1.heap.size + 1 + 1, 0, none⟩ (.int .i64 m.ver)).setCell ⟨w1.heap.size + 1 + 1, 1, none⟩ (.int .u8 m.value.tag)).setCell ⟨w1.heap.size + 1 + 1, 2, none⟩ (.int .u64 m.value.rest) := ⟨_, rfl⟩
  have HV : Hid (V = ((((U.setCell ⟨w1.heap.size + 1, 0, none⟩ (.int .u8 x.tag)).setCell ⟨w1.heap.size + 1, 1, none⟩ (.int .u64 x.rest)).setCell ⟨w1.heap.size + 1 + 1, 0, none⟩ (.int .i64 m.ver)).setCell ⟨w1.heap.size + 1 + 1, 1, none⟩ (.int .u8 m.value.tag)).setCell ⟨w1.heap.size + 1 + 1, 2, none⟩ (.int .u64 m.value.rest)) := hV
  have zV : V.heap.size = U.heap.size := by rw [hV]; simp
  have HBVw : Hid (Below W.heap.size W V) := by
    rw [hV]
    have b0 : Below W.heap.size W U := HB1.out.trans (HBU.out.mono HB1.out.size)
    repeat (first | refine Below.setCell ?_ (by have := HB1.out.size; simp <;> omega) _ | exact b0)
  have HZV : Hid (Fr9 V (w.heap.size + 1)) := HZ.out.below HBVw.out (by omega)
  have HBV : Hid (Below w.heap.size w V) := HBW.out.trans (HBVw.out.mono HBW.out.size)
  have HGV : Hid (V.rangeAt w1.heap.size 0 C.toList ∧ ∀ j, V.frozen? ⟨w1.heap.size, j, none⟩ = false) := by
    rw [hV]
    exact ⟨range_other (range_other (range_other (range_other (range_other HRU.out.1 (by omega)) (by omega)) (by omega)) (by omega)) (by omega), fun j => by simp only [World.frozen?_setCell]; exact HRU.out.2 j⟩
  have HMV : Hid (∀ b, b < w1.heap.size → V.heap[b]? = w1.heap[b]?) := fun b hb => by
    have hs1 : ∀ (y : World) (o : Nat) (v : Value), (y.setCell ⟨w1.heap.size + 1, o, none⟩ v).heap[b]? = y.heap[b]? := fun y o v => RowKit.Below.heap_setCell _ _ _ _ (show b ≠ w1.heap.size + 1 by omega)
    have hs2 : ∀ (y : World) (o : Nat) (v : Value), (y.setCell ⟨w1.heap.size + 1 + 1, o, none⟩ v).heap[b]? = y.heap[b]? := fun y o v => RowKit.Below.heap_setCell _ _ _ _ (show b ≠ w1.heap.size + 1 + 1 by omega)
    rw [hV, hs2, hs2, hs2, hs1, hs1]
    exact HBU.out.block b hb
  clear hb hCa hU hV hC0 HRU HC
  by_cases h0 : c = 0
  case neg =>
    have HE : Hid (R = (c, false, vZ, 0)) := by show R = _; rw [HR.out.1, HR.out.2]; exact fs_bad (by rw [← HR.out.2]; exact h0)
    have h0' : (c != 0) = true := by simpa using h0
    have HTr : Hid (V.there (w.heap.size + 1) 0 9) := HZV.out.there
    have HTs : Hid (V.there (w.heap.size + 1) 0 (frL (c, false, vZ, 0)).toArray.size) := by rw [show (frL (c, false, vZ, 0)).toArray.size = 9 from rfl]; exact HTr.out
    clear HR h0 HC0 HZV HGV HMV HBU HB1
    go_wp2_with (first | (refine wpList_store_mid rfl 82 _ _ rfl w1.heap.size 0 C rfl rfl HT.out (by rw [infoGl, hCs]) HCa.out ?_; rw [← HU.out]; clear HT) | (refine wpList_store_mid rfl 43 _ _ rfl (w.heap.size + 1) 0 (frL (c, false, vZ, 0)).toArray rfl rfl (by rw [← HV.out]; exact HTs.out) (by rw [infoFr]; rfl) (frL_one _) ?_; rw [← HV.out]))
    exact bodyPost_ret (v := FR (c, false, vZ, 0)) (resFR rfl _ V (w.heap.size + 1) (c, false, vZ, 0) HTr.out rfl) rfl ⟨by rw [HE.out], below_setCells HBV.out (by omega) _ _⟩
  subst h0
  have HCZ : Hid (0 = codeSF l s t) := HR.out.2
  obtain ⟨hxs, hms, b, hbb, hGl, hMp, hNd⟩ := HC0.out (by first | rfl | trivial)
  have hask : askG l s = 0 := by
    have h := HCZ.out
    unfold codeSF at h
    by_cases h1 : askG l s = 0
    · exact h1
    · rw [if_pos h1] at h; exact h.symm
  have hmem : memC t = 0 := by
    have h := HCZ.out
    unfold codeSF at h
    rw [if_neg (by simpa using hask)] at h
    by_cases h1 : memC t = 0
    · exact h1
    · rw [if_pos h1] at h; exact h.symm
  obtain ⟨_, hsy, _, hfine⟩ := ask_fine hask
  have HGX : Hid (∀ u, Below V.heap.size V u → GlAt u w1.heap.size b (l.map rwOf)) := fun u hu => by
    refine GlAt.below (w := V) ?_ hu
    have hbl : b < w1.heap.size := hMp.lt
    exact ⟨by omega, hMp.keep (HMV.out b hbl), hNd, HGV.out.2, C.toList, HGV.out.1, hGl⟩
  have HXs : Hid (x = nW s ∧ symL s.data.toList = true ∧ GFine l l.length ∧ m = mryOf t ∧ memC t = 0) := ⟨hxs, hsy, hfine, hms, hmem⟩
  clear hbb hGl hMp hNd hxs hms hsy hfine hask hmem HC0
  go_wp2_with (refine wpList_store_mid rfl 82 _ _ rfl w1.heap.size 0 C rfl rfl HT.out (by rw [infoGl, hCs]) HCa.out ?_; rw [← HU.out]; clear HT)
  rw [← HV.out]
  clear u0 u1 uf v0 v1 v2 vf HU HV HCa HBU HB1
  cases hat : atG l s with
  | none =>
    have HE : Hid (R = (4, false, vZ, 0)) := by show R = _; rw [HR.out.1]; exact fs_none HCZ.out.symm hat
    have HF : Hid (Calls Try.prog 58 #[.pointer (some ⟨w1.heap.size, 0, none⟩), x.val, m.val] V fun e w' => e = .returned (.tuple #[Mry.val ⟨0, ⟨0, 0⟩⟩, .bool false, .int .i64 4]) ∧ Below V.heap.size V w') := by
      have hm := names_miss l l.length s HXs.out.2.2.1 (Nat.le_refl _) HXs.out.2.1 (by rw [List.take_length]; exact hat)
      rw [List.take_length] at hm
      exact fetch_any w1.heap.size x m rwZ false V (fun u hu => by
        rw [HXs.out.1]
        exact find_miss _ b (l.map rwOf) (nW s) u (HGX.out u hu) (nW_fit HXs.out.2.1) hm)
    clear hat HCZ HR HXs HGX
    refine HF.out.mono ?_
    rintro e w2 ⟨rfl, b2⟩
    have B2 : Hid (Below w.heap.size w w2) := HBV.out.trans (b2.mono HBV.out.size)
    have z2 : w.heap.size + 1 < w2.heap.size := by have := b2.size; omega
    have HTr : Hid (∀ o, (w2.alloc o).there (w.heap.size + 1) 0 9) := fun o => World.there_alloc (HZV.out.below b2 (by omega)).there o
    clear b2 HF
    go_wp2_with (refine wpList_store_mid rfl 43 _ _ rfl (w.heap.size + 1) 0 (frL (4, false, vZ, 0)).toArray rfl rfl (HTr.out _) (by rw [infoFr]; rfl) (frL_one _) ?_)
    exact bodyPost_ret (v := FR (4, false, vZ, 0)) (resFR rfl _ _ (w.heap.size + 1) (4, false, vZ, 0) (HTr.out _) rfl) rfl ⟨by rw [HE.out], below_setCells (B2.out.alloc (by omega) _) (by omega) _ _⟩
  | some k =>
    obtain ⟨hk, hnm, _⟩ := atG_some hat
    obtain ⟨hit, T, n, hR3, hv, hF⟩ : ∃ (hit : Bool) (v : Vlu) (n : Int), R = (0, hit, v, n) ∧ vfault v = 0 ∧ Calls Try.prog 58 #[.pointer (some ⟨w1.heap.size, 0, none⟩), x.val, m.val] V fun e w' => e = .returned (.tuple #[Mry.val ⟨n, wdOf v⟩, .bool hit, .int .i64 0]) ∧ Below V.heap.size V w' := by
      have hfs := fs_some HCZ.out.symm hat hk
      rw [← HR.out.1] at hfs
      have hf := fetch_any w1.heap.size x m (rwOf (l[k]'hk)) true V (fun u hu => by
        have h := find_hit _ b (l.map rwOf) k (by simpa using hk) u (HGX.out u hu)
        have e1 : (l.map rwOf)[k]'(by simpa using hk) = rwOf (l[k]'hk) := by rw [List.getElem_map]
        have e2 : (rwOf (l[k]'hk)).name = x := by rw [HXs.out.1]; show nW _ = nW s; rw [hnm]
        rw [e1, e2] at h
        exact h)
      rw [if_pos rfl] at hf
      have hkv := HXs.out.2.2.1.ver k hk hk
      by_cases he : (l[k]'hk).ver = t.ver
      · rw [if_pos he] at hfs
        have h0 : t.ver ≠ 0 := by omega
        have em : m = ⟨t.ver, wdOf t.value⟩ := by rw [HXs.out.2.2.2.1, mryOf, if_neg h0]
        have hvf : vfault t.value = 0 := by
          have h := HXs.out.2.2.2.2
          unfold memC at h
          rw [if_neg h0, if_pos (by omega)] at h
          exact h
        rw [if_pos (by rw [em]; exact he.symm)] at hf
        exact ⟨true, t.value, t.ver, hfs, hvf, by rw [em] at hf ⊢; exact hf⟩
      · rw [if_neg he] at hfs
        have hne : ¬ m.ver = (rwOf (l[k]'hk)).ver := by
          rw [HXs.out.2.2.2.1]
          unfold mryOf
          by_cases h0 : t.ver = 0
          · rw [if_pos h0]; show ¬ (0 : Int) = (l[k]'hk).ver; omega
          · rw [if_neg h0]; exact fun h => he h.symm
        rw [if_neg hne] at hf
        exact ⟨false, (l[k]'hk).value, (l[k]'hk).ver, hfs, HXs.out.2.2.1.val k hk hk, hf⟩
    have HE : Hid (R = (0, hit, T, n)) := hR3
    have HF : Hid (Calls Try.prog 58 #[.pointer (some ⟨w1.heap.size, 0, none⟩), x.val, m.val] V fun e w' => e = .returned (.tuple #[Mry.val ⟨n, wdOf T⟩, .bool hit, .int .i64 0]) ∧ Below V.heap.size V w') := hF
    have HVl : Hid (∀ u, Calls Try.prog 59 #[(wdOf T).val] u fun e w' => e = .returned T.val ∧ Below u.heap.size u w') := fun u => value_any T u hv
    obtain ⟨y, hy⟩ : ∃ y, y = wdOf T := ⟨_, rfl⟩
    rw [← hy] at HF HVl
    clear hat HCZ HR HXs HGX hk hnm hR3 hF hv hy
    refine HF.out.mono ?_
    rintro e w2 ⟨rfl, b2⟩
    have B2 : Hid (Below w.heap.size w w2) := HBV.out.trans (b2.mono HBV.out.size)
    have z2 : w.heap.size + 1 < w2.heap.size := by have := b2.size; omega
    obtain ⟨G2, hG2⟩ : ∃ G, G = w2.alloc (.cells #[.int .i64 n, .int .u8 y.tag, .int .u64 y.rest] 100) := ⟨_, rfl⟩
    have HG2 : Hid (G2 = w2.alloc (.cells #[.int .i64 n, .int .u8 y.tag, .int .u64 y.rest] 100)) := hG2
    have HBG : Hid (Below w2.heap.size w2 G2) := by rw [hG2]; exact (Below.refl _ _).alloc (Nat.le_refl _) _
    have HFr : Hid (Fr9 G2 (w.heap.size + 1)) := (HZV.out.below b2 (by omega)).below HBG.out (by omega)
    have HBGw : Hid (Below w.heap.size w G2) := B2.out.trans (HBG.out.mono B2.out.size)
    have HN2 : Hid (G2.cell? ⟨w2.heap.size, 0, none⟩ = some (.int .i64 n) ∧ G2.cell? ⟨w2.heap.size, 1, none⟩ = some (.int .u8 y.tag) ∧ G2.cell? ⟨w2.heap.size, 2, none⟩ = some (.int .u64 y.rest)) := by
      rw [hG2]
      exact ⟨by rw [World.cell?_alloc_at _ _ _ _ rfl]; rfl, by rw [World.cell?_alloc_at _ _ _ _ rfl]; rfl, by rw [World.cell?_alloc_at _ _ _ _ rfl]; rfl⟩
    have zG : w2.heap.size < G2.heap.size := lt_of_cell HN2.out.1
    clear b2 HF hG2 HZV HBV
    go_wp2_with fail
    rw [← HG2.out]
    refine wp_region_facts (by kernel_rfl) 11 (fun v' => Below G2.heap.size G2 v') (fun u v => Below u.heap.size u v) (fun i v u => match i with | 0 => (fun v' u => v' = .bool hit) v u | 1 => (fun v' u => v' = Value.pointer (some ⟨w2.heap.size, 1, none⟩)) v u | 2 => (fun v' u => v' = y.val) v u | 3 => (fun v' u => v' = T.val) v u | 4 => (fun v' u => v' = Value.pointer (some ⟨w2.heap.size, 0, none⟩)) v u | 5 => (fun v' u => v' = .int .i64 n) v u | 6 => (fun v' u => v' = Value.pointer (some ⟨w2.heap.size, 1, none⟩)) v u | 7 => (fun v' u => v' = y.val) v u | 8 => (fun v' u => v' = T.val) v u | 9 => (fun v' u => v' = .agg #[.int .i64 n, .int .i64 T.kind, .int .i64 T.num, .string T.name]) v u | 10 => (fun v' u => v' = FR (0, hit, T, n)) v u | _ => True) (by kernel_rfl) [0, 1, 2, 3, 4, 5, 6, 7, 8, 9, 10] (by kernel_rfl) ?b0 ?bk ?fk ⟨?s0, ?s1, ?s2, ?s3, ?s4, ?s5, ?s6, ?s7, ?s8, ?s9, ?s10, trivial⟩ _ rfl [(0, some 37), (1, some 38), (2, some 39), (3, some 40), (4, some 41), (5, some 42), (6, some 43), (7, some 44), (8, some 45), (9, some 46), (10, some 47)] (by kernel_rfl) ?last
    case b0 => exact Below.drew (Below.refl _ _)
    case bk => exact fun u v' h hb => h.trans (hb.mono h.size)
    case fk => intro i v u u' h hb; match i, h with | 0, h => exact (h) | 1, h => exact (h) | 2, h => exact (h) | 3, h => exact (h) | 4, h => exact (h) | 5, h => exact (h) | 6, h => exact (h) | 7, h => exact (h) | 8, h => exact (h) | 9, h => exact (h) | 10, h => exact (h) | _ + 11, _ => exact trivial
    case s0 =>
      refine StepF.of rfl [] (by kernel_rfl) ?_
      intro vs u hB hf K hK
      clear hf
      simp only [putsA, List.foldl_nil, Act.put, List.setIfInBounds_toArray] at hK ⊢
      rw [if_pos (by rfl)]
      go_simp
      exact hK.out _ _ (Below.refl _ _) rfl
    case s1 =>
      refine StepF.of rfl [] (by kernel_rfl) ?_
      intro vs u hB hf K hK
      clear hf
      simp only [putsA, List.foldl_nil, Act.put, List.setIfInBounds_toArray] at hK ⊢
      rw [if_pos (by rfl)]
      go_simp
      exact hK.out _ _ (Below.refl _ _) rfl
    case s2 =>
      refine StepF.of rfl [(1, some 38)] (by kernel_rfl) ?_
      intro vs u hB hf K hK
      have f1 : (fun v' u => v' = Value.pointer (some ⟨w2.heap.size, 1, none⟩)) (vs 1) u := hf.1
      clear hf
      simp only [putsA, List.foldl_cons, List.foldl_nil, Act.put, List.setIfInBounds_toArray, List.set_cons_zero, List.set_cons_succ] at hK ⊢
      generalize vs 1 = v1 at f1 hK ⊢
      rw [if_pos (by rfl)]
      subst f1
      have d0 := cell_keep hB HN2.out.2.1
      have d1 := cell_keep hB HN2.out.2.2
      go_simp
      exact hK.out _ _ (Below.refl _ _) rfl
    case s3 =>
      refine StepF.of rfl [(2, some 39)] (by kernel_rfl) ?_
      intro vs u hB hf K hK
      have f2 : (fun v' u => v' = y.val) (vs 2) u := hf.1
      clear hf
      simp only [putsA, List.foldl_cons, List.foldl_nil, Act.put, List.setIfInBounds_toArray, List.set_cons_zero, List.set_cons_succ] at hK ⊢
      generalize vs 2 = v2 at f2 hK ⊢
      rw [if_pos (by rfl)]
      subst f2
      go_simp
      refine (HVl.out _).mono ?_
      rintro e w4 ⟨rfl, b4⟩
      exact hK.out _ _ b4 rfl
    case s4 =>
      refine StepF.of rfl [] (by kernel_rfl) ?_
      intro vs u hB hf K hK
      clear hf
      simp only [putsA, List.foldl_nil, Act.put, List.setIfInBounds_toArray] at hK ⊢
      rw [if_pos (by rfl)]
      go_simp
      exact hK.out _ _ (Below.refl _ _) rfl
    case s5 =>
      refine StepF.of rfl [(4, some 41)] (by kernel_rfl) ?_
      intro vs u hB hf K hK
      have f4 : (fun v' u => v' = Value.pointer (some ⟨w2.heap.size, 0, none⟩)) (vs 4) u := hf.1
      clear hf
      simp only [putsA, List.foldl_cons, List.foldl_nil, Act.put, List.setIfInBounds_toArray, List.set_cons_zero, List.set_cons_succ] at hK ⊢
      generalize vs 4 = v4 at f4 hK ⊢
      rw [if_pos (by rfl)]
      subst f4
      have d0 := cell_keep hB HN2.out.1
      go_simp
      exact hK.out _ _ (Below.refl _ _) rfl
    case s6 =>
      refine StepF.of rfl [] (by kernel_rfl) ?_
      intro vs u hB hf K hK
      clear hf
      simp only [putsA, List.foldl_nil, Act.put, List.setIfInBounds_toArray] at hK ⊢
      rw [if_pos (by rfl)]
      go_simp
      exact hK.out _ _ (Below.refl _ _) rfl
    case s7 =>
      refine StepF.of rfl [(6, some 43)] (by kernel_rfl) ?_
      intro vs u hB hf K hK
      have f6 : (fun v' u => v' = Value.pointer (some ⟨w2.heap.size, 1, none⟩)) (vs 6) u := hf.1
      clear hf
      simp only [putsA, List.foldl_cons, List.foldl_nil, Act.put, List.setIfInBounds_toArray, List.set_cons_zero, List.set_cons_succ] at hK ⊢
      generalize vs 6 = v6 at f6 hK ⊢
      rw [if_pos (by rfl)]
      subst f6
      have d0 := cell_keep hB HN2.out.2.1
      have d1 := cell_keep hB HN2.out.2.2
      go_simp
      exact hK.out _ _ (Below.refl _ _) rfl
    case s8 =>
      refine StepF.of rfl [(3, some 40), (7, some 44)] (by kernel_rfl) ?_
      intro vs u hB hf K hK
      have f3 : (fun v' u => v' = T.val) (vs 3) u := hf.1
      have f7 : (fun v' u => v' = y.val) (vs 7) u := hf.2.1
      clear hf
      simp only [putsA, List.foldl_cons, List.foldl_nil, Act.put, List.setIfInBounds_toArray, List.set_cons_zero, List.set_cons_succ] at hK ⊢
      generalize vs 3 = v3 at f3 hK ⊢
      generalize vs 7 = v7 at f7 hK ⊢
      rw [if_pos (by rfl)]
      subst f7
      clear f3
      go_simp
      refine (HVl.out _).mono ?_
      rintro e w4 ⟨rfl, b4⟩
      exact hK.out _ _ b4 rfl
    case s9 =>
      refine StepF.of rfl [(5, some 42), (8, some 45)] (by kernel_rfl) ?_
      intro vs u hB hf K hK
      have f5 : (fun v' u => v' = .int .i64 n) (vs 5) u := hf.1
      have f8 : (fun v' u => v' = T.val) (vs 8) u := hf.2.1
      clear hf
      simp only [putsA, List.foldl_cons, List.foldl_nil, Act.put, List.setIfInBounds_toArray, List.set_cons_zero, List.set_cons_succ] at hK ⊢
      generalize vs 5 = v5 at f5 hK ⊢
      generalize vs 8 = v8 at f8 hK ⊢
      rw [if_pos (by rfl)]
      subst f5 f8
      go_simp
      exact hK.out _ _ (Below.refl _ _) rfl
    case s10 =>
      refine StepF.of rfl [(0, some 37), (3, some 40), (9, some 46)] (by kernel_rfl) ?_
      intro vs u hB hf K hK
      have f0 : (fun v' u => v' = .bool hit) (vs 0) u := hf.1
      have f3 : (fun v' u => v' = T.val) (vs 3) u := hf.2.1
      have f9 : (fun v' u => v' = .agg #[.int .i64 n, .int .i64 T.kind, .int .i64 T.num, .string T.name]) (vs 9) u := hf.2.2.1
      clear hf
      simp only [putsA, List.foldl_cons, List.foldl_nil, Act.put, List.setIfInBounds_toArray, List.set_cons_zero, List.set_cons_succ] at hK ⊢
      generalize vs 0 = v0 at f0 hK ⊢
      generalize vs 3 = v3 at f3 hK ⊢
      generalize vs 9 = v9 at f9 hK ⊢
      rw [if_pos (by rfl)]
      subst f0 f3 f9
      go_simp
      exact hK.out _ _ (Below.refl _ _) rfl
    case last =>
      intro vs u hB hf K hK
      have f0 : (fun v' u => v' = .bool hit) (vs 0) u := hf.1
      have f1 : (fun v' u => v' = Value.pointer (some ⟨w2.heap.size, 1, none⟩)) (vs 1) u := hf.2.1
      have f2 : (fun v' u => v' = y.val) (vs 2) u := hf.2.2.1
      have f3 : (fun v' u => v' = T.val) (vs 3) u := hf.2.2.2.1
      have f4 : (fun v' u => v' = Value.pointer (some ⟨w2.heap.size, 0, none⟩)) (vs 4) u := hf.2.2.2.2.1
      have f5 : (fun v' u => v' = .int .i64 n) (vs 5) u := hf.2.2.2.2.2.1
      have f6 : (fun v' u => v' = Value.pointer (some ⟨w2.heap.size, 1, none⟩)) (vs 6) u := hf.2.2.2.2.2.2.1
      have f7 : (fun v' u => v' = y.val) (vs 7) u := hf.2.2.2.2.2.2.2.1
      have f8 : (fun v' u => v' = T.val) (vs 8) u := hf.2.2.2.2.2.2.2.2.1
      have f9 : (fun v' u => v' = .agg #[.int .i64 n, .int .i64 T.kind, .int .i64 T.num, .string T.name]) (vs 9) u := hf.2.2.2.2.2.2.2.2.2.1
      have f10 : (fun v' u => v' = FR (0, hit, T, n)) (vs 10) u := hf.2.2.2.2.2.2.2.2.2.2.1
      clear hf
      simp only [putsA, List.foldl_cons, List.foldl_nil, Act.put, List.setIfInBounds_toArray, List.set_cons_zero, List.set_cons_succ]
      generalize vs 0 = v0 at f0 ⊢
      generalize vs 1 = v1 at f1 ⊢
      generalize vs 2 = v2 at f2 ⊢
      generalize vs 3 = v3 at f3 ⊢
      generalize vs 4 = v4 at f4 ⊢
      generalize vs 5 = v5 at f5 ⊢
      generalize vs 6 = v6 at f6 ⊢
      generalize vs 7 = v7 at f7 ⊢
      generalize vs 8 = v8 at f8 ⊢
      generalize vs 9 = v9 at f9 ⊢
      generalize vs 10 = v10 at f10 ⊢
      rw [if_pos (by rfl)]
      subst f10
      clear f0 f1 f2 f3 f4 f5 f6 f7 f8 f9
      have HTr : Hid (u.there (w.heap.size + 1) 0 9) := (HFr.out.below hB (by omega)).there
      have HBu : Hid (Below w.heap.size w u) := HBGw.out.trans (hB.mono HBGw.out.size)
      refine wp_store_mid 43 _ _ rfl (w.heap.size + 1) 0 (frL (0, hit, T, n)).toArray rfl rfl HTr.out (by rw [infoFr]; rfl) (frL_one _) ?_
      refine hK.out _ _ ?_
      clear hK
      go_wp2
      exact bodyPost_ret (v := FR (0, hit, T, n)) (resFR rfl _ u (w.heap.size + 1) (0, hit, T, n) HTr.out rfl) rfl ⟨by rw [HE.out], below_setCells HBu.out (by omega) _ _⟩
end Go.Proofs.Ytlamkbggfbancaa
