/-
  The model's l12List and ListSegs, the program's ListSegs: all items, in a new row; nothing that was there is turned.
-/
import Derived.Test.YtdohpfckiahlcaaSgSpecF
import Derived.Test.YtdohpfckiahlcaaSgImplF
namespace Go.Proofs.Ytdohpfckiahlcaa
open Go.RowKit Go.Extern.Stop Go.Stop Go.Extern Num Go.Lib

theorem oneI (l : List Int) : ∀ u ∈ cellsI l, u.oneCell' = true := fun u hu => by
  unfold cellsI at hu
  obtain ⟨x, -, rfl⟩ := List.mem_map.1 hu
  rfl
theorem newsSee {w : World} {b off : Nat} {l : List Int} (h : ∀ (k : Nat) (h : k < l.length), w.cell? ⟨b, off + k, none⟩ = some (.int .i64 l[k])) : ∀ j u, (cellsI l)[j]? = some u → w.cell? ((⟨b, off, none⟩ : Addr).add j) = some u := fun j u hj => by
  have ha : ∀ j, (⟨b, off, none⟩ : Addr).add j = ⟨b, off + j, none⟩ := fun j => by unfold Addr.add; split <;> simp_all
  rw [ha]
  have hj' : j < l.length := by
    rcases Nat.lt_or_ge j l.length with q | q
    · exact q
    · rw [List.getElem?_eq_none (by rw [cellsI_length]; exact q)] at hj; cases hj
  rw [h j hj']
  simp only [cellsI, List.getElem?_map, List.getElem?_eq_getElem hj', Option.map_some] at hj
  exact hj
theorem emptyIk (w : World) : (w.alloc (.cells #[] 2)).ownsRow w.heap.size 2 1 (.slice (some ⟨w.heap.size, 0, none⟩) 0 0) 0 (cellsI []) :=
  ⟨rfl, .inr ⟨w.heap.size, 0, #[], rfl, Nat.le_refl _, heap_alloc_new _ _, Nat.le_refl _, by simp, by simp, by simp [cellsI]⟩⟩
set_option maxRecDepth 100000 in
set_option maxHeartbeats 2000000 in
theorem l12List_any (b : Nat) (size : Int) (v : Value) (ps : List (List Int)) (w : World) (hf : FineS size ps) (hb : SegAt w b size v) (h : SeeP w v ps) :
    Calls Try.prog 16 #[.pointer (some ⟨b, 0, none⟩)] w fun e w' => ∃ x, e = .returned x ∧ w'.ownsRow w.heap.size 2 1 x ps.flatten.length (cellsI ps.flatten) ∧ Below w.heap.size w w' := by
  have hl := hf.len
  have HF : Hid (FineS size ps) := hf
  have HA : Hid (∀ u, Below w.heap.size w u → SegAt u b size v ∧ SeeP u v ps) := fun u hu => ⟨hb.below hu, h.below hu⟩
  obtain ⟨i0, hi, hz0, hz1, hz2⟩ := info_parts infoI
  obtain ⟨a, c, rfl, -⟩ := id h
  clear h hb hf
  go_enter Try.func16, Try.ntmps16
  go_wp2_with fail
  go_loopw [3, 4] (fun x i wr => ∃ (k n : Nat) (am : Option Addr) (cm : Nat), k ≤ ps.length ∧ n ≤ 4000 ∧ x = .slice am n cm ∧ i = .int .i64 (k : Int) ∧ Hid (n = (ps.take k).flatten.length) ∧ Hid (wr.ownsRow w.heap.size 2 1 (.slice am n cm) n (cellsI (ps.take k).flatten)) ∧ Hid (Below w.heap.size w wr)) (fun _ i _ => ps.length - (RowKit.intOf i).toNat)
  case atStart => exact ⟨0, 0, _, _, Nat.zero_le _, by omega, rfl, rfl, by show _ = _; simp, emptyIk w, (Below.refl _ _).alloc (Nat.le_refl _) _⟩
  case round =>
    obtain ⟨k, n, am, cm, hk, hn, rfl, rfl, HN, HM, HB⟩ := hrel
    obtain ⟨⟨c0, c1⟩, a', c', e', hc⟩ := HA.out wr HB.out
    obtain ⟨rfl, rfl⟩ : a = a' ∧ c = c' := by simp at e'; exact e'
    have HC : Hid (0 < ps.length → ∃ b off, a = some ⟨b, off, none⟩ ∧ ∀ (k : Nat) (h : k < ps.length), ∃ u, wr.cell? ⟨b, off + k, none⟩ = some u ∧ SeeI wr u ps[k]) := hc
    clear hc e'
    by_cases hlt : k < ps.length
    · obtain ⟨g, off, rfl, h2⟩ := HC.out (by omega)
      obtain ⟨u, cz, ai, ci, rfl, hi2⟩ := h2 k hlt
      have hp := (HF.out.parts.at k hlt).1
      obtain ⟨bi, oi, rfl, hcells⟩ := hi2 (by omega)
      have HNw : Hid (∀ j u, (cellsI (ps[k]'hlt))[j]? = some u → wr.cell? ((⟨bi, oi, none⟩ : Addr).add j) = some u) := newsSee hcells
      have HN1 : Hid ((ps.take (k + 1)).flatten = (ps.take k).flatten ++ (ps[k]'hlt)) := flat_next ps k hlt
      have hup : n + (ps[k]'hlt).length ≤ 4000 := by
        have h1 := flat_le ps (k + 1)
        have h2 := HF.out.many
        rw [HN1.out, List.length_append, ← HN.out] at h1
        omega
      obtain ⟨t, ht⟩ : ∃ t, t = (ps[k]'hlt) := ⟨_, rfl⟩
      rw [← ht] at cz hp HNw HN1 hup
      have hz3 : w.heap.size ≤ wr.heap.size := HB.out.size
      clear h2 hcells ht HC
      go_wp2_with (at_builtin; refine wpList_append_lies _ rfl (.tmp 15) (.tmp 23) 42 rfl w.heap.size 2 i0 _ 1 8 Try.underlying42 hi hz0 hz1 hz2 rfl (by decide) _ n (cellsI (ps.take k).flatten) rfl HM.out ⟨bi, oi, none⟩ t.length ci (cellsI t) rfl (by rw [cellsI_length]; omega) HNw.out (oneI t) hp ?c3 ?c4 ?c5 _ rfl ?_)
      case c3 => unfold maxLen; omega
      case c4 => omega
      case c5 => omega
      intro g' cap' w4 hown4 hgrow4 _ _
      have HM4 : Hid (w4.ownsRow w.heap.size 2 1 (.slice (some ⟨g', 0, none⟩) (n + t.length) cap') (n + t.length) (cellsI (ps.take (k + 1)).flatten)) := by rw [HN1.out, cellsI_append]; exact hown4
      have HB4 : Hid (Below w.heap.size w w4) := HB.out.grown hgrow4 (by omega) (fun q hq => (HM.out.lt q hq).1)
      have HN4 : Hid (n + t.length = (ps.take (k + 1)).flatten.length) := by show _ = _; rw [HN1.out, List.length_append, ← HN.out]
      clear hown4 hgrow4 c0 c1 cz
      go_wp2
      exact ⟨⟨k + 1, n + t.length, some ⟨g', 0, none⟩, cap', by omega, hup, rfl, by go_num, HN4.out, HM4.out, HB4.out⟩, by simp [RowKit.intOf]; omega⟩
    · have HM2 : Hid (wr.ownsRow w.heap.size 2 1 (.slice am n cm) ps.flatten.length (cellsI ps.flatten)) := by
        have h1 := HM.out; have h2 := HN.out
        rw [List.take_of_length_le (by omega)] at h1 h2
        rw [← h2]; exact h1
      clear HM HN HC
      go_wp2
      go_ret
      exact ⟨_, rfl, HM2.out, HB.out⟩
def listC (size : Int) (ps : List (List Int)) : List Int := if faultS size ps = 0 then ps.flatten else []
def AnsL (R : Int) (L : List Int) (w : World) (e : Ending) (w' : World) : Prop := ∃ v, e = .returned (.agg #[.int .i64 R, v]) ∧ w'.ownsRow w.heap.size 2 1 v L.length (cellsI L) ∧ Below w.heap.size w w'
theorem own_nil (w : World) (B : Nat) (T : TypeId) (n : Nat) : w.ownsRow B T n (.slice none 0 0) 0 [] := ⟨by simp, .inl ⟨rfl, rfl⟩⟩
set_option maxRecDepth 100000 in
set_option maxHeartbeats 2000000 in
theorem allItems_any (size : Int) (v : Value) (ps : List (List Int)) (w : World) (hF : FineS size ps) (h : SeeP w v ps) :
    Calls Try.prog 28 #[segV size v] w fun e w' => ∃ x, e = .returned x ∧ w'.ownsRow w.heap.size 2 1 x ps.flatten.length (cellsI ps.flatten) ∧ Below w.heap.size w w' := by
  have HF : Hid (FineS size ps) := hF
  have hl := HF.out.len
  have HT : Hid (∀ u, Below w.heap.size w u → SeeP u v ps) := fun u hu => h.below hu
  obtain ⟨i0, hi, hz0, hz1, hz2⟩ := info_parts infoI
  obtain ⟨a, c, rfl, -⟩ := id h
  obtain ⟨w1, hw1⟩ : ∃ w1, w1 = w.alloc (.cells #[.int .i64 size, .slice a ps.length c] 28) := ⟨_, rfl⟩
  have HB : Hid (Below w.heap.size w w1) := by rw [hw1]; exact (Below.refl _ _).alloc (Nat.le_refl _) _
  have HBw : Hid (Below w.heap.size w (w.alloc (.cells #[.int .i64 size, .slice a ps.length c] 28))) := (Below.refl _ _).alloc (Nat.le_refl _) _
  clear h hF hw1
  go_enter Try.func28, Try.ntmps28
  go_wp2_with fail
  go_loopw [3, 9] (fun x i wr => ∃ (k n : Nat) (am : Option Addr) (cm : Nat), k ≤ ps.length ∧ n ≤ 4000 ∧ x = .slice am n cm ∧ i = .int .i64 (k : Int) ∧ Hid (n = (ps.take k).flatten.length) ∧ Hid (wr.ownsRow w.heap.size 2 1 (.slice am n cm) n (cellsI (ps.take k).flatten)) ∧ Hid (Below w.heap.size w wr)) (fun _ i _ => ps.length - (RowKit.intOf i).toNat)
  case atStart => exact ⟨0, 0, _, _, Nat.zero_le _, by omega, rfl, rfl, by show _ = _; simp, own_nil _ _ _ _, HBw.out⟩
  case round =>
    obtain ⟨k, n, am, cm, hk, hn, rfl, rfl, HN, HM, HBr⟩ := hrel
    by_cases hlt : k < ps.length
    · obtain ⟨a', c', e', hc⟩ := HT.out wr HBr.out
      obtain ⟨rfl, rfl⟩ : a = a' ∧ c = c' := by simp at e'; exact e'
      obtain ⟨g, off, rfl, h2⟩ := hc (by omega)
      obtain ⟨u, cz, ai, ci, rfl, hi2⟩ := h2 k hlt
      have hp := (HF.out.parts.at k hlt).1
      obtain ⟨bi, oi, rfl, hcells⟩ := hi2 (by omega)
      have HNw : Hid (∀ x, Below wr.heap.size wr x → ∀ j u, (cellsI (ps[k]'hlt))[j]? = some u → x.cell? ((⟨bi, oi, none⟩ : Addr).add j) = some u) := fun x hx j u hj => cell_keep hx (newsSee hcells j u hj)
      have HN1 : Hid ((ps.take (k + 1)).flatten = (ps.take k).flatten ++ (ps[k]'hlt)) := flat_next ps k hlt
      have hup : n + (ps[k]'hlt).length ≤ 4000 := by
        have h1 := flat_le ps (k + 1)
        have h2 := HF.out.many
        rw [HN1.out, List.length_append, ← HN.out] at h1
        omega
      obtain ⟨t, ht⟩ : ∃ t, t = (ps[k]'hlt) := ⟨_, rfl⟩
      rw [← ht] at cz hp HNw HN1 hup
      have hz3 : w.heap.size ≤ wr.heap.size := HBr.out.size
      clear h2 hcells ht hc e'
      go_wp2_with (at_builtin; refine wpList_append_lies _ rfl (.tmp 13) (.tmp 15) 42 rfl w.heap.size 2 i0 _ 1 8 Try.underlying42 hi hz0 hz1 hz2 rfl (by decide) _ n (cellsI (ps.take k).flatten) rfl (HM.out.alloc _) ⟨bi, oi, none⟩ t.length ci (cellsI t) rfl (by rw [cellsI_length]; omega) (HNw.out _ ((Below.refl _ _).alloc (Nat.le_refl _) _)) (oneI t) hp ?c3 ?c4 ?c5 _ rfl ?_)
      case c3 => unfold maxLen; omega
      case c4 => omega
      case c5 => simp; omega
      intro g' cap' w4 hown4 hgrow4 _ _
      have HM4 : Hid (w4.ownsRow w.heap.size 2 1 (.slice (some ⟨g', 0, none⟩) (n + t.length) cap') (n + t.length) (cellsI (ps.take (k + 1)).flatten)) := by rw [HN1.out, cellsI_append]; exact hown4
      have HB4 : Hid (Below w.heap.size w w4) := (HBr.out.alloc hz3 _).grown hgrow4 (by simp; omega) (fun q hq => (HM.out.lt q hq).1)
      have HN4 : Hid (n + t.length = (ps.take (k + 1)).flatten.length) := by show _ = _; rw [HN1.out, List.length_append, ← HN.out]
      clear hown4 hgrow4 cz
      go_wp2
      exact ⟨⟨k + 1, n + t.length, some ⟨g', 0, none⟩, cap', by omega, hup, rfl, by go_num, HN4.out, HM4.out, HB4.out⟩, by simp [RowKit.intOf]; omega⟩
    · have HM2 : Hid (wr.ownsRow w.heap.size 2 1 (.slice am n cm) ps.flatten.length (cellsI ps.flatten)) := by
        have h1 := HM.out; have h2 := HN.out
        rw [List.take_of_length_le (by omega)] at h1 h2
        rw [← h2]; exact h1
      clear HM HN
      go_wp2
      go_ret
      exact ⟨_, rfl, HM2.out, HBr.out⟩
set_option maxRecDepth 100000 in
set_option maxHeartbeats 2000000 in
theorem implLs_any (size : Int) (v : Value) (ps : List (List Int)) (w : World) (hs : SmallS ps) (h : SeeP w v ps) :
    Calls Try.prog 18 #[segV size v] w fun e w' => AnsL (faultS size ps) (listC size ps) w e w' := by
  obtain ⟨R, hR⟩ : ∃ R : Int, R = faultS size ps := ⟨_, rfl⟩
  obtain ⟨L, hL⟩ : ∃ L, L = listC size ps := ⟨_, rfl⟩
  have HL : Hid (L = if R = 0 then ps.flatten else []) := by show L = _; rw [hL, hR]; rfl
  have HFi : Hid (R = 0 → FineS size ps) := fun h0 => faultS_fine (hR ▸ h0)
  rw [← hR, ← hL]
  have HS1 : Hid (∀ u, Below w.heap.size w u → Calls Try.prog 27 #[segV size v] u fun e w' => e = .returned (.int .i64 R) ∧ Below u.heap.size u w') := fun u hu => by rw [hR]; exact implSF_any size v ps u hs (h.below hu)
  have HI : Hid (FineS size ps → ∀ u, Below w.heap.size w u → Calls Try.prog 28 #[segV size v] u fun e w' => ∃ x, e = .returned x ∧ w'.ownsRow u.heap.size 2 1 x ps.flatten.length (cellsI ps.flatten) ∧ Below u.heap.size u w') := fun hF u hu => allItems_any size v ps u hF (h.below hu)
  obtain ⟨a, c, rfl, -⟩ := id h
  clear h hs hR hL
  go_enter Try.func18, Try.ntmps18
  go_wp2_with fail
  refine (HS1.out _ (by repeat (first | exact Below.refl _ _ | refine Below.alloc ?_ (by simp <;> omega) _))).mono ?_
  rintro e w1 ⟨rfl, b1⟩
  have HB : Hid (Below w.heap.size w w1) := Below.trans (by repeat (first | exact Below.refl _ _ | refine Below.alloc ?_ (by simp <;> omega) _)) (b1.mono (by simp <;> omega))
  obtain ⟨hc1, hf1⟩ := bcell b1
  have d1 : w1.cell? ⟨w.heap.size, 1, none⟩ = some (.slice a ps.length c) := by rw [hc1 _ _ (by simp; omega)]; simp [go_sem]
  have d0 : w1.cell? ⟨w.heap.size, 0, none⟩ = some (.int .i64 size) := by rw [hc1 _ _ (by simp; omega)]; simp [go_sem]
  have r0 : w1.cell? ⟨w.heap.size + 1, 0, none⟩ = some (.int .i64 0) := by rw [hc1 _ _ (by simp)]; simp [go_sem]
  have r1 : w1.cell? ⟨w.heap.size + 1, 1, none⟩ = some (.slice none 0 0) := by rw [hc1 _ _ (by simp)]; simp [go_sem]
  have g5 : ∀ j, w1.frozen? ⟨w.heap.size + 1, j, none⟩ = false := fun j => by rw [hf1 _ _ (by simp)]; simp [go_sem]
  have hs1 : w.heap.size + 1 < w1.heap.size := by have := b1.size; simp at this; omega
  clear b1 hc1 hf1
  by_cases hc : R = 0
  · have HV : Hid (L = ps.flatten) := by show L = _; rw [HL.out, if_pos hc]
    have HI2 : Hid (∀ u, Below w.heap.size w u → Calls Try.prog 28 #[segV size (.slice a ps.length c)] u fun e w' => ∃ x, e = .returned x ∧ w'.ownsRow u.heap.size 2 1 x ps.flatten.length (cellsI ps.flatten) ∧ Below u.heap.size u w') := HI.out (HFi.out hc)
    clear HL HFi HI
    subst hc
    go_wp2_with fail
    refine (HI2.out _ HB.out).mono ?_
    rintro e w2 ⟨x, rfl, o2, b2⟩
    have HB2 : Hid (Below w.heap.size w w2) := HB.out.trans (b2.mono HB.out.size)
    have HO2 : Hid (w2.ownsRow (w.heap.size + 2) 2 1 x ps.flatten.length (cellsI ps.flatten)) := own_base o2 (by omega)
    obtain ⟨hc1, hf1⟩ := bcell b2
    have r0' : w2.cell? ⟨w.heap.size + 1, 0, none⟩ = some (.int .i64 0) := by rw [hc1 _ _ hs1]; exact r0
    have r1' : w2.cell? ⟨w.heap.size + 1, 1, none⟩ = some (.slice none 0 0) := by rw [hc1 _ _ hs1]; exact r1
    have g5' : ∀ j, w2.frozen? ⟨w.heap.size + 1, j, none⟩ = false := fun j => by rw [hf1 _ _ hs1]; exact g5 j
    have hs2 : w.heap.size + 1 < w2.heap.size := Nat.lt_of_lt_of_le hs1 b2.size
    obtain ⟨ax, cx, rfl⟩ := own_form o2
    clear b2 hc1 hf1 r0 r1 g5 hs1 o2 d0 d1
    obtain ⟨M, hM⟩ : ∃ M, M = ps.flatten := ⟨_, rfl⟩
    rw [← hM] at HO2 HV ⊢
    clear hM
    go_wp2
    refine bodyPost_ret (v := .agg #[.int .i64 0, .slice ax M.length cx]) (by simp [results, Try.results18, go_sem, r0', r1']) rfl ⟨_, rfl, ?_, by repeat (first | refine Below.setCell ?_ (by simp) _ | exact HB2.out)⟩
    rw [HV.out]
    refine own_base (base := w.heap.size + 2) ?_ (by omega)
    repeat (first | refine own_set_low ?_ (by omega) _ | exact HO2.out)
  · have hcn : (R != 0) = true := by rw [bne_iff_ne]; exact hc
    have HV : Hid (L = []) := by show L = []; rw [HL.out, if_neg hc]
    clear hc HL d0 d1
    go_wp2
    refine bodyPost_ret (v := .agg #[.int .i64 R, .slice none 0 0]) (by simp [results, Try.results18, go_sem, r0, r1]) rfl ⟨_, rfl, ?_, by repeat (first | refine Below.setCell ?_ (by simp) _ | exact HB.out)⟩
    rw [HV.out]
    exact own_nil _ _ _ _
end Go.Proofs.Ytdohpfckiahlcaa
