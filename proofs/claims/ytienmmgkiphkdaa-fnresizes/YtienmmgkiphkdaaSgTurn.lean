/-
  The library's slices.Clone at int64, the program's copyItems, segPartOf, turnEach at parts, piecesIn and segsOf: parts copied, or handed over; nothing that was there is turned.
-/
import Derived.Test.YtienmmgkiphkdaaSgPushI
import Derived.Test.YtienmmgkiphkdaaSgOpenM
import Derived.Laws.EntriesVeiled
import Derived.Lib.SliceRun
namespace Go.Proofs.Ytienmmgkiphkdaa
open Go.RowKit Go.Extern.Stop Go.Stop Go.Extern Num Go.Lib

set_option maxRecDepth 100000 in
set_option maxHeartbeats 1000000 in
theorem cloneI_any (v : Value) (l : List Int) (w : World) (h0 : 0 < l.length) (hl : l.length ≤ 1048576) (h : SeeI w v l) :
    Calls Try.prog 78 #[v] w fun e w' => ∃ x, e = .returned x ∧ w'.ownsRow w.heap.size 2 1 x l.length (cellsI l) ∧ Below w.heap.size w w' := by
  obtain ⟨a, c, rfl, hc⟩ := h
  obtain ⟨b, off, rfl, hcell⟩ := hc h0
  obtain ⟨i0, hi, hz0, hz1, hz2⟩ := info_parts infoI
  have HNw : Hid (∀ x, Below w.heap.size w x → ∀ j u, (cellsI l)[j]? = some u → x.cell? ((⟨b, off, none⟩ : Addr).add j) = some u) := fun x hx j u hj => cell_keep hx (newsSee hcell j u hj)
  have qT : ∀ (w : World) (a : Option Addr) (n c n' c' : Nat), (binOp .eql 33 (.slice a n c) (.slice none n' c')).run Try.prog w = .ok (.bool a.isNone) w := fun w a n c n' c' => Go.Lib.run_eql_slice_nil w _ _ a n c n' c' Try.underlying33
  clear hc hcell
  go_enter Try.func78, Try.ntmps78
  go_wp2_with (at_builtin; refine wpList_append_lies _ rfl (.tmp 5) (.tmp 6) 33 rfl w.heap.size 2 i0 _ 1 8 Try.underlying33 hi hz0 hz1 hz2 rfl (by decide) _ 0 (cellsI []) rfl (emptyIk w) ⟨b, off, none⟩ l.length c (cellsI l) rfl (by rw [cellsI_length]; omega) (HNw.out _ ((Below.refl _ _).alloc (Nat.le_refl _) _)) (oneI l) h0 ?c3 ?c4 ?c5 _ rfl ?_)
  case c3 => unfold maxLen; omega
  case c4 => omega
  case c5 => simp
  intro g' cap' w4 hown4 hgrow4 _ _
  have HO : Hid (w4.ownsRow w.heap.size 2 1 (.slice (some ⟨g', 0, none⟩) l.length cap') l.length (cellsI l)) := hown4
  have HB : Hid (Below w.heap.size w w4) := ((Below.refl _ _).alloc (Nat.le_refl _) _).grown hgrow4 (by simp) (fun q hq => ((emptyIk w).lt q hq).1)
  clear hown4 hgrow4
  go_wp2
  go_ret
  exact ⟨_, rfl, HO.out, HB.out⟩
theorem copyItems_any (v : Value) (l : List Int) (w : World) (h0 : 0 < l.length) (hl : l.length ≤ 1048576) (h : SeeI w v l) :
    Calls Try.prog 73 #[.agg #[v]] w fun e w' => ∃ x, e = .returned x ∧ w'.ownsRow w.heap.size 2 1 x l.length (cellsI l) ∧ Below w.heap.size w w' := by
  have HC : Hid (∀ u, Below w.heap.size w u → Calls Try.prog 78 #[v] u fun e w' => ∃ x, e = .returned x ∧ w'.ownsRow u.heap.size 2 1 x l.length (cellsI l) ∧ Below u.heap.size u w') := fun u hu => cloneI_any v l u h0 hl (h.below hu)
  obtain ⟨a, c, rfl, -⟩ := h
  go_enter Try.func73, Try.ntmps73
  go_wp2_with fail
  refine (HC.out _ ((Below.refl _ _).alloc (Nat.le_refl _) _)).mono ?_
  rintro e w1 ⟨x, rfl, o1, b1⟩
  have HO : Hid (w1.ownsRow w.heap.size 2 1 x l.length (cellsI l)) := own_base o1 (by simp)
  have HB : Hid (Below w.heap.size w w1) := ((Below.refl _ _).alloc (Nat.le_refl _) _).trans (b1.mono (by simp))
  clear o1 b1
  go_wp2
  go_ret
  exact ⟨_, rfl, HO.out, HB.out⟩
theorem segPartOf_any (v : Value) (l : List Int) (B : Nat) (w : World) (h : w.ownsRow B 2 1 v l.length (cellsI l)) :
    Calls Try.prog 76 #[v] w fun e w' => e = .returned (.agg #[v]) ∧ Below w.heap.size w w' := by
  obtain ⟨a, c, rfl⟩ := own_form h
  clear h
  go_enter Try.func76, Try.ntmps76
  go_wp2
  exact bodyPost_ret (v := .agg #[.slice a l.length c]) (by simp [results, Try.results76, go_sem]) rfl ⟨rfl, by repeat (first | exact Below.refl _ _ | refine Below.setCell ?_ (by simp) _ | refine Below.alloc ?_ (by simp <;> omega) _)⟩
set_option maxRecDepth 100000 in
set_option maxHeartbeats 1000000 in
theorem turnIn_any (v : Value) (ps : List (List Int)) (w : World) (hs : SmallS ps) (hp : ∀ (k : Nat) (h : k < ps.length), 0 < ps[k].length) (h : SeeP w v ps) :
    Calls Try.prog 72 #[v, .func (.func 73) #[] #[]] w fun e w' => ∃ x P, e = .returned x ∧ PV 33 w' w.heap.size x P ∧ P.map Prod.fst = ps ∧ Below w.heap.size w w' := by
  have hl := hs.len
  have HT : Hid (∀ u, Below w.heap.size w u → SeeP u v ps) := fun u hu => h.below hu
  have HZ : Hid (∀ (k : Nat) (h : k < ps.length), 0 < ps[k].length ∧ ps[k].length ≤ 1048576) := fun k h => ⟨hp k h, hs.part k h⟩
  obtain ⟨j0, hj, hy0, hy1, hy2⟩ := info_parts infoIS
  obtain ⟨a, c, rfl, -⟩ := id h
  clear h hs hp
  go_enter Try.func72, Try.ntmps72
  go_wp2_with fail
  go_loopw [5, 10] (fun x i wr => ∃ (k : Nat) (am : Option Addr) (cm : Nat), k ≤ ps.length ∧ x = .slice am k cm ∧ i = .int .i64 (k : Int) ∧ Hid (∃ P, PV 33 wr w.heap.size (.slice am k cm) P ∧ P.map Prod.fst = ps.take k) ∧ Hid (Below w.heap.size w wr)) (fun _ i _ => ps.length - (RowKit.intOf i).toNat)
  case atStart => exact ⟨0, none, 0, Nat.zero_le _, rfl, rfl, ⟨[], pv_nil _ _ _, rfl⟩, Below.refl _ _⟩
  case round =>
    obtain ⟨k, am, cm, hk, rfl, rfl, HM, HB⟩ := hrel
    by_cases hlt : k < ps.length
    · obtain ⟨a', c', e', hc⟩ := HT.out wr HB.out
      obtain ⟨rfl, rfl⟩ : a = a' ∧ c = c' := by simp at e'; exact e'
      obtain ⟨g, off, rfl, h2⟩ := hc (by omega)
      obtain ⟨u, cz, hu⟩ := h2 k hlt
      have HCp : Hid (∀ x, Below wr.heap.size wr x → Calls Try.prog 73 #[.agg #[u]] x fun e w' => ∃ y, e = .returned y ∧ w'.ownsRow x.heap.size 2 1 y (ps[k]'hlt).length (cellsI (ps[k]'hlt)) ∧ Below x.heap.size x w') := fun x hx => copyItems_any u _ x (HZ.out k hlt).1 (HZ.out k hlt).2 (hu.below hx)
      obtain ⟨ai, ci, rfl, -⟩ := hu
      obtain ⟨P, hpv, hmp⟩ := HM.out
      have hPl : P.length = k := by rw [map_len hmp, List.length_take]; omega
      have HPl : Hid (k = P.length) := hPl.symm
      have HPv : Hid (PV 33 wr w.heap.size (.slice am k cm) P) := hpv
      obtain ⟨t, ht⟩ : ∃ t, t = ps[k]'hlt := ⟨_, rfl⟩
      have HMp : Hid (∀ y, (P ++ [(t, y)]).map Prod.fst = ps.take (k + 1)) := fun y => by rw [List.map_append, hmp, List.take_add_one, List.getElem?_eq_getElem hlt, ht]; rfl
      rw [← ht] at HCp cz
      clear hc h2 e' hpv hmp hPl HM ht
      go_wp2_with fail
      refine (HCp.out _ ((Below.refl _ _).alloc (Nat.le_refl _) _)).mono ?_
      rintro e w3 ⟨y, rfl, o3, b3⟩
      obtain ⟨ay, cy, rfl⟩ := own_form o3
      have hb3 : Below wr.heap.size wr w3 := ((Below.refl _ _).alloc (Nat.le_refl _) _).trans (b3.mono (by simp))
      have HO3 : Hid (w3.ownsRow wr.heap.size 2 1 (.slice ay t.length cy) t.length (cellsI t)) := own_base o3 (by simp)
      have HI3 : Hid (IV w3 w.heap.size (P ++ [(t, .slice ay t.length cy)])) := HPv.out.iv.snoc hb3 HB.out.size HO3.out
      have HP3 : Hid (PV 33 w3 w.heap.size (.slice am k cm) P) := HPv.out.below hb3
      have HB3 : Hid (Below w.heap.size w w3) := HB.out.trans (hb3.mono HB.out.size)
      have HR3 : Hid (∀ o, (w3.alloc o).ownsRow w.heap.size 33 1 (.slice am k cm) k (P.map Prod.snd)) := fun o => by
        have := (HP3.out.below ((Below.refl _ _).alloc (Nat.le_refl _) o)).row
        rw [← HPl.out] at this; exact this
      have hz3 : w.heap.size ≤ w3.heap.size := HB3.out.size
      clear b3 o3 hb3 cz
      go_wp2_with (at_builtin; refine wpList_append_lies _ rfl (.tmp 14) (.tmp 18) 65 rfl w.heap.size 33 j0 _ 1 24 Try.underlying65 hj hy0 hy1 hy2 rfl (by decide) _ k (P.map Prod.snd) rfl (HR3.out _) ⟨_, 0, none⟩ 1 1 [.slice ay t.length cy] rfl rfl ?c1 ?c2 (by decide) ?c3 ?c4 ?c5 _ rfl ?_)
      case c1 => exact World.news_of_block (cs := #[.slice ay t.length cy]) (t := 33) (fr := (0, 0)) (heap_new' _ _ _ (by simp))
      case c2 => intro u hu; simp at hu; subst hu; rfl
      case c3 => unfold maxLen; omega
      case c4 => omega
      case c5 => simp; omega
      intro g' cap' w4 hown4 hgrow4 _ _
      have HM4 : Hid (∃ P, PV 33 w4 w.heap.size (.slice (some ⟨g', 0, none⟩) (k + 1) cap') P ∧ P.map Prod.fst = ps.take (k + 1)) := ⟨_, (HP3.out.below ((Below.refl _ _).alloc (Nat.le_refl _) _)).snoc (by decide) HPl.out (HI3.out.below ((Below.refl _ _).alloc (Nat.le_refl _) _)) hown4 hgrow4, HMp.out _⟩
      have HB4 : Hid (Below w.heap.size w w4) := (HB3.out.alloc hz3 _).grown hgrow4 (by simp; omega) (fun q hq => ((HR3.out (.cells #[] 0)).lt q hq).1)
      clear hown4 hgrow4 HPv HP3 HI3 HR3 HPl HMp
      go_wp2
      exact ⟨⟨k + 1, some ⟨g', 0, none⟩, cap', by omega, rfl, by go_num, HM4.out, HB4.out⟩, by simp [RowKit.intOf]; omega⟩
    · have HM2 : Hid (∃ P, PV 33 wr w.heap.size (.slice am k cm) P ∧ P.map Prod.fst = ps) := by
        obtain ⟨P, h1, h2⟩ := HM.out
        rw [List.take_of_length_le (by omega)] at h2
        exact ⟨P, h1, h2⟩
      clear HM
      go_wp2
      go_ret
      obtain ⟨P, h1, h2⟩ := HM2.out
      exact ⟨_, P, rfl, h1, h2, HB.out⟩
set_option maxRecDepth 100000 in
set_option maxHeartbeats 1000000 in
/-- The rows of the parts are handed over. -/
theorem turnOut_any (v : Value) (P : List (List Int × Value)) (B : Nat) (w : World) (hB : B ≤ w.heap.size) (hl : P.length ≤ 1048576) (h : PV 33 w B v P) :
    Calls Try.prog 75 #[v, .func (.func 76) #[] #[]] w fun e w' => ∃ x, e = .returned x ∧ PV 78 w' B x P ∧ Below w.heap.size w w' := by
  have HT : Hid (∀ u, Below w.heap.size w u → PV 33 u B v P) := fun u hu => h.below hu
  obtain ⟨j0, hj, hy0, hy1, hy2⟩ := info_parts infoSp
  obtain ⟨a, c, rfl⟩ := h.form
  clear h
  go_enter Try.func75, Try.ntmps75
  go_wp2_with fail
  go_loopw [5, 10] (fun x i wr => ∃ (k : Nat) (am : Option Addr) (cm : Nat), k ≤ P.length ∧ x = .slice am k cm ∧ i = .int .i64 (k : Int) ∧ Hid (wr.ownsRow w.heap.size 78 1 (.slice am k cm) k ((P.map Prod.snd).take k)) ∧ Hid (Below w.heap.size w wr)) (fun _ i _ => P.length - (RowKit.intOf i).toNat)
  case atStart => exact ⟨0, none, 0, Nat.zero_le _, rfl, rfl, own_nil _ _ _ _, Below.refl _ _⟩
  case round =>
    obtain ⟨k, am, cm, hk, rfl, rfl, HM, HB⟩ := hrel
    by_cases hlt : k < P.length
    · have hpv := HT.out wr HB.out
      obtain ⟨g, c', hv, _, _⟩ := hpv.row.form (by omega)
      obtain ⟨rfl, rfl⟩ : a = some ⟨g, 0, none⟩ ∧ c = c' := by simp at hv; exact hv
      have cz := rowP_at hpv.row k hlt
      have hit := hpv.iv.items k hlt
      obtain ⟨ai, ci, hvi⟩ := own_form hit
      obtain ⟨t, ht⟩ : ∃ t, t = P[k].1.length := ⟨_, rfl⟩
      have HTk : Hid ((P.map Prod.snd).take (k + 1) = (P.map Prod.snd).take k ++ [.slice ai t ci]) := by show _ = _; rw [List.take_add_one, List.getElem?_map, List.getElem?_eq_getElem hlt, ht, ← hvi]; rfl
      have HCp : Hid (∀ x, Below wr.heap.size wr x → Calls Try.prog 76 #[.slice ai t ci] x fun e w' => e = .returned (.agg #[.slice ai t ci]) ∧ Below x.heap.size x w') := fun x hx => by
        have := segPartOf_any P[k].2 P[k].1 B x (own_below hit hx)
        rw [hvi, ← ht] at this
        exact this
      rw [hvi, ← ht] at cz
      clear hpv hv hit hvi ht
      go_wp2_with fail
      refine (HCp.out _ (Below.refl _ _)).mono ?_
      rintro e w3 ⟨rfl, b3⟩
      have HB3 : Hid (Below w.heap.size w w3) := HB.out.trans (b3.mono HB.out.size)
      have HM3 : Hid (w3.ownsRow w.heap.size 78 1 (.slice am k cm) k ((P.map Prod.snd).take k)) := own_below HM.out b3
      have hz3 : w.heap.size ≤ w3.heap.size := HB3.out.size
      clear b3 cz
      go_wp2_with (at_builtin; refine wpList_append_lies _ rfl (.tmp 14) (.tmp 18) 24 rfl w.heap.size 78 j0 _ 1 24 Try.underlying24 hj hy0 hy1 hy2 rfl (by decide) _ k ((P.map Prod.snd).take k) rfl (HM3.out.alloc _) ⟨_, 0, none⟩ 1 1 [.slice ai t ci] rfl rfl ?c1 ?c2 (by decide) ?c3 ?c4 ?c5 _ rfl ?_)
      case c1 => exact World.news_of_block (cs := #[.slice ai t ci]) (t := 78) (fr := (0, 0)) (heap_new' _ _ _ (by simp))
      case c2 => intro u hu; simp at hu; subst hu; rfl
      case c3 => unfold maxLen; omega
      case c4 => omega
      case c5 => simp; omega
      intro g' cap' w4 hown4 hgrow4 _ _
      have HM4 : Hid (w4.ownsRow w.heap.size 78 1 (.slice (some ⟨g', 0, none⟩) (k + 1) cap') (k + 1) ((P.map Prod.snd).take (k + 1))) := by rw [HTk.out]; exact hown4
      have HB4 : Hid (Below w.heap.size w w4) := (HB3.out.alloc hz3 _).grown hgrow4 (by simp; omega) (fun q hq => (HM3.out.lt q hq).1)
      clear hown4 hgrow4
      go_wp2
      exact ⟨⟨k + 1, some ⟨g', 0, none⟩, cap', by omega, rfl, by go_num, HM4.out, HB4.out⟩, by simp [RowKit.intOf]; omega⟩
    · have HM2 : Hid (PV 78 wr B (.slice am k cm) P) := by
        have h1 := HM.out
        have hkl : k = P.length := by omega
        rw [List.take_of_length_le (by rw [List.length_map]; omega)] at h1
        rw [hkl] at h1 ⊢
        exact ⟨own_base h1 hB, (HT.out wr HB.out).iv⟩
      clear HM
      go_wp2
      go_ret
      exact ⟨_, rfl, HM2.out, HB.out⟩
set_option maxRecDepth 100000 in
set_option maxHeartbeats 1000000 in
theorem piecesIn_any (size : Int) (v : Value) (ps : List (List Int)) (w : World) (hs : SmallS ps) (hp : ∀ (k : Nat) (h : k < ps.length), 0 < ps[k].length) (h : SeeP w v ps) :
    Calls Try.prog 48 #[segV size v] w fun e w' => ∃ x P, e = .returned (segV size x) ∧ PV 33 w' w.heap.size x P ∧ P.map Prod.fst = ps ∧ Below w.heap.size w w' := by
  have HC : Hid (∀ u, Below w.heap.size w u → Calls Try.prog 72 #[v, .func (.func 73) #[] #[]] u fun e w' => ∃ x P, e = .returned x ∧ PV 33 w' u.heap.size x P ∧ P.map Prod.fst = ps ∧ Below u.heap.size u w') := fun u hu => turnIn_any v ps u hs hp (h.below hu)
  obtain ⟨a, c, rfl, -⟩ := id h
  obtain ⟨n, hn⟩ : ∃ n, n = ps.length := ⟨_, rfl⟩
  rw [← hn] at HC ⊢
  clear h hs hp hn
  have HA : Hid (∀ u, Below ((w.alloc (.cells #[.int .i64 size, .slice a n c] 26)).alloc (.cells #[.int .i64 0, .slice none 0 0] 67)).heap.size ((w.alloc (.cells #[.int .i64 size, .slice a n c] 26)).alloc (.cells #[.int .i64 0, .slice none 0 0] 67)) u → SegAt u w.heap.size size (.slice a n c) ∧ u.cell? ⟨w.heap.size + 1, 0, none⟩ = some (.int .i64 0) ∧ u.cell? ⟨w.heap.size + 1, 1, none⟩ = some (.slice none 0 0) ∧ (∀ j, u.frozen? ⟨w.heap.size + 1, j, none⟩ = false) ∧ w.heap.size + 2 ≤ u.heap.size) := fun u hu => by
    have hz : ((w.alloc (.cells #[.int .i64 size, .slice a n c] 26)).alloc (.cells #[.int .i64 0, .slice none 0 0] 67)).heap.size = w.heap.size + 2 := by simp
    refine ⟨(SegAt.new w size _ _).below (((Below.refl _ _).alloc (Nat.le_refl _) _).trans (hu.mono (by simp))), ?_, ?_, fun j => ?_, by have := hu.size; omega⟩
    · exact cell_keep hu (by simp [go_sem])
    · exact cell_keep hu (by simp [go_sem])
    · rw [(bcell hu).2 _ _ (by simp)]; simp [go_sem]
  have H0 : Hid (∀ u, Below ((w.alloc (.cells #[.int .i64 size, .slice a n c] 26)).alloc (.cells #[.int .i64 0, .slice none 0 0] 67)).heap.size ((w.alloc (.cells #[.int .i64 size, .slice a n c] 26)).alloc (.cells #[.int .i64 0, .slice none 0 0] 67)) u → Below w.heap.size w u) := fun u hu => (((Below.refl _ _).alloc (Nat.le_refl _) _).alloc (by simp) _).trans (hu.mono (by simp; omega))
  have HBk : Hid (∀ u, Below ((w.alloc (.cells #[.int .i64 size, .slice a n c] 26)).alloc (.cells #[.int .i64 0, .slice none 0 0] 67)).heap.size ((w.alloc (.cells #[.int .i64 size, .slice a n c] 26)).alloc (.cells #[.int .i64 0, .slice none 0 0] 67)) u → u.heap[w.heap.size + 1]? = some (.cells #[.int .i64 0, .slice none 0 0] 67)) := fun u hu => by
    rw [hu.block _ (by simp)]
    exact heap_new' _ _ _ (by simp)
  go_enter Try.func48, Try.ntmps48
  go_wp2_with fail
  refine wp_region_facts (by kernel_rfl) 6 (fun v => Below ((w.alloc (.cells #[.int .i64 size, .slice a n c] 26)).alloc (.cells #[.int .i64 0, .slice none 0 0] 67)).heap.size ((w.alloc (.cells #[.int .i64 size, .slice a n c] 26)).alloc (.cells #[.int .i64 0, .slice none 0 0] 67)) v) (fun u v => Below u.heap.size u v) (fun i v u => match i with | 0 => (fun v u => v = .pointer (some ⟨w.heap.size, 0, none⟩)) v u | 1 => (fun v u => v = .int .i64 size) v u | 2 => (fun v u => v = .pointer (some ⟨w.heap.size, 1, none⟩)) v u | 3 => (fun v u => v = .slice a n c) v u | 4 => (fun v u => ∃ P, PV 33 u (w.heap.size + 2) v P ∧ P.map Prod.fst = ps) v u | 5 => (fun v u => ∃ x, v = segV size x ∧ (fun v u => ∃ P, PV 33 u (w.heap.size + 2) v P ∧ P.map Prod.fst = ps) x u) v u | _ => True) (by kernel_rfl) [0, 1, 2, 3, 4, 5] (by kernel_rfl) ?b0 ?bk ?fk ⟨?s0, ?s1, ?s2, ?s3, ?s4, ?s5, trivial⟩ _ rfl [(0, some 3), (1, some 4), (2, some 5), (3, some 6), (4, some 7), (5, some 8)] (by kernel_rfl) ?last
  case b0 => exact Below.drew (Below.refl _ _)
  case bk => exact fun u v h hb => h.trans (hb.mono h.size)
  case fk => intro i v u u' h hb; match i, h with | 0, h => exact (h) | 1, h => exact (h) | 2, h => exact (h) | 3, h => exact (h) | 4, h => exact (let ⟨P, o, m⟩ := h; ⟨P, o.below hb, m⟩) | 5, h => exact (let ⟨x, e, o⟩ := h; ⟨x, e, (by have h := o; exact (let ⟨P, o, m⟩ := h; ⟨P, o.below hb, m⟩))⟩) | _ + 6, _ => exact trivial
  case s0 =>
    refine StepF.of rfl [] (by kernel_rfl) ?_
    intro vs u hB hf K hK
    clear hf
    simp only [putsA, List.foldl_nil, Act.put, List.setIfInBounds_toArray] at hK ⊢
    rw [if_pos (by rfl)]
    go_simp
    exact hK.out _ _ (Below.refl _ _) rfl
  case s1 =>
    refine StepF.of rfl [(0, some 3)] (by kernel_rfl) ?_
    intro vs u hB hf K hK
    have f0 : (fun v u => v = .pointer (some ⟨w.heap.size, 0, none⟩)) (vs 0) u := hf.1
    clear hf
    simp only [putsA, List.foldl_cons, List.foldl_nil, Act.put, List.setIfInBounds_toArray, List.set_cons_zero, List.set_cons_succ] at hK ⊢
    generalize vs 0 = v0 at f0 hK ⊢
    rw [if_pos (by rfl)]
    subst f0
    obtain ⟨⟨c0', c1'⟩, -⟩ := HA.out u hB
    go_simp
    exact hK.out _ _ (Below.refl _ _) rfl
  case s2 =>
    refine StepF.of rfl [] (by kernel_rfl) ?_
    intro vs u hB hf K hK
    clear hf
    simp only [putsA, List.foldl_nil, Act.put, List.setIfInBounds_toArray] at hK ⊢
    rw [if_pos (by rfl)]
    go_simp
    exact hK.out _ _ (Below.refl _ _) rfl
  case s3 =>
    refine StepF.of rfl [(2, some 5)] (by kernel_rfl) ?_
    intro vs u hB hf K hK
    have f2 : (fun v u => v = .pointer (some ⟨w.heap.size, 1, none⟩)) (vs 2) u := hf.1
    clear hf
    simp only [putsA, List.foldl_cons, List.foldl_nil, Act.put, List.setIfInBounds_toArray, List.set_cons_zero, List.set_cons_succ] at hK ⊢
    generalize vs 2 = v2 at f2 hK ⊢
    rw [if_pos (by rfl)]
    subst f2
    obtain ⟨⟨c0', c1'⟩, -⟩ := HA.out u hB
    go_simp
    exact hK.out _ _ (Below.refl _ _) rfl
  case s4 =>
    refine StepF.of rfl [(3, some 6)] (by kernel_rfl) ?_
    intro vs u hB hf K hK
    have f3 : (fun v u => v = .slice a n c) (vs 3) u := hf.1
    clear hf
    simp only [putsA, List.foldl_cons, List.foldl_nil, Act.put, List.setIfInBounds_toArray, List.set_cons_zero, List.set_cons_succ] at hK ⊢
    generalize vs 3 = v3 at f3 hK ⊢
    rw [if_pos (by rfl)]
    subst f3
    go_simp
    refine (HC.out u (H0.out u hB)).mono ?_
    rintro e w4 ⟨x, P, rfl, o4, m4, b4⟩
    exact hK.out _ _ b4 ⟨P, o4.base (by have := (HA.out u hB).2.2.2.2; omega), m4⟩
  case s5 =>
    refine StepF.of rfl [(1, some 4), (4, some 7)] (by kernel_rfl) ?_
    intro vs u hB hf K hK
    have f1 : (fun v u => v = .int .i64 size) (vs 1) u := hf.1
    have f4 : (fun v u => ∃ P, PV 33 u (w.heap.size + 2) v P ∧ P.map Prod.fst = ps) (vs 4) u := hf.2.1
    clear hf
    simp only [putsA, List.foldl_cons, List.foldl_nil, Act.put, List.setIfInBounds_toArray, List.set_cons_zero, List.set_cons_succ] at hK ⊢
    generalize vs 1 = v1 at f1 hK ⊢
    generalize vs 4 = v4 at f4 hK ⊢
    rw [if_pos (by rfl)]
    subst f1
    obtain ⟨ax, nx, cx, hx⟩ : ∃ ax nx cx, v4 = .slice ax nx cx := by obtain ⟨P, o, -⟩ := f4; obtain ⟨ax, cx, e⟩ := o.form; exact ⟨ax, _, cx, e⟩
    subst hx
    go_simp
    exact hK.out _ _ (Below.refl _ _) ⟨_, rfl, f4⟩
  case last =>
    intro vs u hB hf K hK
    have f0 : (fun v u => v = .pointer (some ⟨w.heap.size, 0, none⟩)) (vs 0) u := hf.1
    have f1 : (fun v u => v = .int .i64 size) (vs 1) u := hf.2.1
    have f2 : (fun v u => v = .pointer (some ⟨w.heap.size, 1, none⟩)) (vs 2) u := hf.2.2.1
    have f3 : (fun v u => v = .slice a n c) (vs 3) u := hf.2.2.2.1
    have f4 : (fun v u => ∃ P, PV 33 u (w.heap.size + 2) v P ∧ P.map Prod.fst = ps) (vs 4) u := hf.2.2.2.2.1
    have f5 : (fun v u => ∃ x, v = segV size x ∧ (fun v u => ∃ P, PV 33 u (w.heap.size + 2) v P ∧ P.map Prod.fst = ps) x u) (vs 5) u := hf.2.2.2.2.2.1
    clear hf
    simp only [putsA, List.foldl_cons, List.foldl_nil, Act.put, List.setIfInBounds_toArray, List.set_cons_zero, List.set_cons_succ]
    generalize vs 0 = v0 at f0 ⊢
    generalize vs 1 = v1 at f1 ⊢
    generalize vs 2 = v2 at f2 ⊢
    generalize vs 3 = v3 at f3 ⊢
    generalize vs 4 = v4 at f4 ⊢
    generalize vs 5 = v5 at f5 ⊢
    rw [if_pos (by rfl)]
    clear f0 f1 f2 f3 f4
    obtain ⟨x, rfl, hx⟩ := f5
    obtain ⟨-, r0, r1, rf, hz⟩ := HA.out u hB
    have HBu : Hid (Below w.heap.size w u) := H0.out u hB
    have hrl : w.heap.size + 1 < u.heap.size := by omega
    obtain ⟨P, o, m⟩ := hx
    have HO : Hid (PV 33 u (w.heap.size + 2) x P) := o
    have HM : Hid (P.map Prod.fst = ps) := m
    obtain ⟨ax, cx, rfl⟩ := o.form
    generalize P.length = pl at HO ⊢
    clear o m hB
    go_simp
    refine hK.out _ _ ?_
    go_wp2
    refine bodyPost_ret (v := segV size (.slice ax pl cx)) (by simp [results, Try.results48, go_sem, r0, r1]) rfl ⟨_, P, rfl, ?_, HM.out, ?_⟩
    · refine PV.base (B := w.heap.size + 2) ?_ (by omega)
      repeat (first | exact HO.out | refine PV.setLow ?_ (by omega))
    · repeat (first | exact HBu.out | refine Below.setCell ?_ (by simp <;> omega) _)
set_option maxRecDepth 100000 in
set_option maxHeartbeats 1000000 in
theorem segsOf_any (size : Int) (v : Value) (P : List (List Int × Value)) (B : Nat) (w : World) (hB0 : B ≤ w.heap.size) (hl : P.length ≤ 1048576) (h : PV 33 w B v P) :
    Calls Try.prog 50 #[segV size v] w fun e w' => ∃ x, e = .returned (segV size x) ∧ PV 78 w' B x P ∧ Below w.heap.size w w' := by
  have HC : Hid (∀ u, Below w.heap.size w u → Calls Try.prog 75 #[v, .func (.func 76) #[] #[]] u fun e w' => ∃ x, e = .returned x ∧ PV 78 w' B x P ∧ Below u.heap.size u w') := fun u hu => turnOut_any v P B u (Nat.le_trans hB0 hu.size) hl (h.below hu)
  obtain ⟨a, c, rfl⟩ := h.form
  obtain ⟨n, hn⟩ : ∃ n, n = P.length := ⟨_, rfl⟩
  rw [← hn] at HC ⊢
  clear h hl hn
  have HA : Hid (∀ u, Below ((w.alloc (.cells #[.int .i64 size, .slice a n c] 67)).alloc (.cells #[.int .i64 0, .slice none 0 0] 26)).heap.size ((w.alloc (.cells #[.int .i64 size, .slice a n c] 67)).alloc (.cells #[.int .i64 0, .slice none 0 0] 26)) u → SegAt u w.heap.size size (.slice a n c) ∧ u.cell? ⟨w.heap.size + 1, 0, none⟩ = some (.int .i64 0) ∧ u.cell? ⟨w.heap.size + 1, 1, none⟩ = some (.slice none 0 0) ∧ (∀ j, u.frozen? ⟨w.heap.size + 1, j, none⟩ = false) ∧ w.heap.size + 2 ≤ u.heap.size) := fun u hu => by
    have hz : ((w.alloc (.cells #[.int .i64 size, .slice a n c] 67)).alloc (.cells #[.int .i64 0, .slice none 0 0] 26)).heap.size = w.heap.size + 2 := by simp
    refine ⟨(SegAt.new w size _ _).below (((Below.refl _ _).alloc (Nat.le_refl _) _).trans (hu.mono (by simp))), ?_, ?_, fun j => ?_, by have := hu.size; omega⟩
    · exact cell_keep hu (by simp [go_sem])
    · exact cell_keep hu (by simp [go_sem])
    · rw [(bcell hu).2 _ _ (by simp)]; simp [go_sem]
  have H0 : Hid (∀ u, Below ((w.alloc (.cells #[.int .i64 size, .slice a n c] 67)).alloc (.cells #[.int .i64 0, .slice none 0 0] 26)).heap.size ((w.alloc (.cells #[.int .i64 size, .slice a n c] 67)).alloc (.cells #[.int .i64 0, .slice none 0 0] 26)) u → Below w.heap.size w u) := fun u hu => (((Below.refl _ _).alloc (Nat.le_refl _) _).alloc (by simp) _).trans (hu.mono (by simp; omega))
  have HBk : Hid (∀ u, Below ((w.alloc (.cells #[.int .i64 size, .slice a n c] 67)).alloc (.cells #[.int .i64 0, .slice none 0 0] 26)).heap.size ((w.alloc (.cells #[.int .i64 size, .slice a n c] 67)).alloc (.cells #[.int .i64 0, .slice none 0 0] 26)) u → u.heap[w.heap.size + 1]? = some (.cells #[.int .i64 0, .slice none 0 0] 26)) := fun u hu => by
    rw [hu.block _ (by simp)]
    exact heap_new' _ _ _ (by simp)
  go_enter Try.func50, Try.ntmps50
  go_wp2_with fail
  refine wp_region_facts (by kernel_rfl) 6 (fun v => Below ((w.alloc (.cells #[.int .i64 size, .slice a n c] 67)).alloc (.cells #[.int .i64 0, .slice none 0 0] 26)).heap.size ((w.alloc (.cells #[.int .i64 size, .slice a n c] 67)).alloc (.cells #[.int .i64 0, .slice none 0 0] 26)) v) (fun u v => Below u.heap.size u v) (fun i v u => match i with | 0 => (fun v u => v = .pointer (some ⟨w.heap.size, 0, none⟩)) v u | 1 => (fun v u => v = .int .i64 size) v u | 2 => (fun v u => v = .pointer (some ⟨w.heap.size, 1, none⟩)) v u | 3 => (fun v u => v = .slice a n c) v u | 4 => (fun v u => PV 78 u B v P) v u | 5 => (fun v u => ∃ x, v = segV size x ∧ (fun v u => PV 78 u B v P) x u) v u | _ => True) (by kernel_rfl) [0, 1, 2, 3, 4, 5] (by kernel_rfl) ?b0 ?bk ?fk ⟨?s0, ?s1, ?s2, ?s3, ?s4, ?s5, trivial⟩ _ rfl [(0, some 3), (1, some 4), (2, some 5), (3, some 6), (4, some 7), (5, some 8)] (by kernel_rfl) ?last
  case b0 => exact Below.drew (Below.refl _ _)
  case bk => exact fun u v h hb => h.trans (hb.mono h.size)
  case fk => intro i v u u' h hb; match i, h with | 0, h => exact (h) | 1, h => exact (h) | 2, h => exact (h) | 3, h => exact (h) | 4, h => exact (h.below hb) | 5, h => exact (let ⟨x, e, o⟩ := h; ⟨x, e, (by have h := o; exact (h.below hb))⟩) | _ + 6, _ => exact trivial
  case s0 =>
    refine StepF.of rfl [] (by kernel_rfl) ?_
    intro vs u hB hf K hK
    clear hf
    simp only [putsA, List.foldl_nil, Act.put, List.setIfInBounds_toArray] at hK ⊢
    rw [if_pos (by rfl)]
    go_simp
    exact hK.out _ _ (Below.refl _ _) rfl
  case s1 =>
    refine StepF.of rfl [(0, some 3)] (by kernel_rfl) ?_
    intro vs u hB hf K hK
    have f0 : (fun v u => v = .pointer (some ⟨w.heap.size, 0, none⟩)) (vs 0) u := hf.1
    clear hf
    simp only [putsA, List.foldl_cons, List.foldl_nil, Act.put, List.setIfInBounds_toArray, List.set_cons_zero, List.set_cons_succ] at hK ⊢
    generalize vs 0 = v0 at f0 hK ⊢
    rw [if_pos (by rfl)]
    subst f0
    obtain ⟨⟨c0', c1'⟩, -⟩ := HA.out u hB
    go_simp
    exact hK.out _ _ (Below.refl _ _) rfl
  case s2 =>
    refine StepF.of rfl [] (by kernel_rfl) ?_
    intro vs u hB hf K hK
    clear hf
    simp only [putsA, List.foldl_nil, Act.put, List.setIfInBounds_toArray] at hK ⊢
    rw [if_pos (by rfl)]
    go_simp
    exact hK.out _ _ (Below.refl _ _) rfl
  case s3 =>
    refine StepF.of rfl [(2, some 5)] (by kernel_rfl) ?_
    intro vs u hB hf K hK
    have f2 : (fun v u => v = .pointer (some ⟨w.heap.size, 1, none⟩)) (vs 2) u := hf.1
    clear hf
    simp only [putsA, List.foldl_cons, List.foldl_nil, Act.put, List.setIfInBounds_toArray, List.set_cons_zero, List.set_cons_succ] at hK ⊢
    generalize vs 2 = v2 at f2 hK ⊢
    rw [if_pos (by rfl)]
    subst f2
    obtain ⟨⟨c0', c1'⟩, -⟩ := HA.out u hB
    go_simp
    exact hK.out _ _ (Below.refl _ _) rfl
  case s4 =>
    refine StepF.of rfl [(3, some 6)] (by kernel_rfl) ?_
    intro vs u hB hf K hK
    have f3 : (fun v u => v = .slice a n c) (vs 3) u := hf.1
    clear hf
    simp only [putsA, List.foldl_cons, List.foldl_nil, Act.put, List.setIfInBounds_toArray, List.set_cons_zero, List.set_cons_succ] at hK ⊢
    generalize vs 3 = v3 at f3 hK ⊢
    rw [if_pos (by rfl)]
    subst f3
    go_simp
    refine (HC.out u (H0.out u hB)).mono ?_
    rintro e w4 ⟨x, rfl, o4, b4⟩
    exact hK.out _ _ b4 o4
  case s5 =>
    refine StepF.of rfl [(1, some 4), (4, some 7)] (by kernel_rfl) ?_
    intro vs u hB hf K hK
    have f1 : (fun v u => v = .int .i64 size) (vs 1) u := hf.1
    have f4 : (fun v u => PV 78 u B v P) (vs 4) u := hf.2.1
    clear hf
    simp only [putsA, List.foldl_cons, List.foldl_nil, Act.put, List.setIfInBounds_toArray, List.set_cons_zero, List.set_cons_succ] at hK ⊢
    generalize vs 1 = v1 at f1 hK ⊢
    generalize vs 4 = v4 at f4 hK ⊢
    rw [if_pos (by rfl)]
    subst f1
    obtain ⟨ax, nx, cx, hx⟩ : ∃ ax nx cx, v4 = .slice ax nx cx := by obtain ⟨ax, cx, e⟩ := f4.form; exact ⟨ax, _, cx, e⟩
    subst hx
    go_simp
    exact hK.out _ _ (Below.refl _ _) ⟨_, rfl, f4⟩
  case last =>
    intro vs u hB hf K hK
    have f0 : (fun v u => v = .pointer (some ⟨w.heap.size, 0, none⟩)) (vs 0) u := hf.1
    have f1 : (fun v u => v = .int .i64 size) (vs 1) u := hf.2.1
    have f2 : (fun v u => v = .pointer (some ⟨w.heap.size, 1, none⟩)) (vs 2) u := hf.2.2.1
    have f3 : (fun v u => v = .slice a n c) (vs 3) u := hf.2.2.2.1
    have f4 : (fun v u => PV 78 u B v P) (vs 4) u := hf.2.2.2.2.1
    have f5 : (fun v u => ∃ x, v = segV size x ∧ (fun v u => PV 78 u B v P) x u) (vs 5) u := hf.2.2.2.2.2.1
    clear hf
    simp only [putsA, List.foldl_cons, List.foldl_nil, Act.put, List.setIfInBounds_toArray, List.set_cons_zero, List.set_cons_succ]
    generalize vs 0 = v0 at f0 ⊢
    generalize vs 1 = v1 at f1 ⊢
    generalize vs 2 = v2 at f2 ⊢
    generalize vs 3 = v3 at f3 ⊢
    generalize vs 4 = v4 at f4 ⊢
    generalize vs 5 = v5 at f5 ⊢
    rw [if_pos (by rfl)]
    clear f0 f1 f2 f3 f4
    obtain ⟨x, rfl, hx⟩ := f5
    obtain ⟨-, r0, r1, rf, hz⟩ := HA.out u hB
    have HBu : Hid (Below w.heap.size w u) := H0.out u hB
    have hrl : w.heap.size + 1 < u.heap.size := by omega
    have HO : Hid (PV 78 u B x P) := hx
    have HSt : Hid (∀ (b : Nat) (j : Nat) (y : Value) (z : World), (∀ q, footP x P q → q ≠ b) → PV 78 z B x P → PV 78 (z.setCell ⟨b, j, none⟩ y) B x P) := fun b j y z hq hz => ⟨own_set' hz.row (fun g hg => hq g (.inl hg)) y, fun i hi => own_set' (hz.iv.items i hi) (fun g hg => hq g (.inr ⟨i, hi, hg⟩)) y, hz.iv.apart⟩
    have hfar : ∀ q, footP x P q → q ≠ w.heap.size + 1 := fun q hq => by
      rcases hq with e | ⟨i, hi, e⟩
      · exact blk_ne (HBk.out u hB) hx.row (by decide) q e
      · exact blk_ne (HBk.out u hB) (hx.iv.items i hi) (by decide) q e
    obtain ⟨ax, cx, rfl⟩ := hx.form
    generalize P.length = pl at HO HSt hfar ⊢
    clear hx hB
    go_simp
    refine hK.out _ _ ?_
    go_wp2
    refine bodyPost_ret (v := segV size (.slice ax pl cx)) (by simp [results, Try.results50, go_sem, r0, r1]) rfl ⟨_, rfl, ?_, ?_⟩
    · repeat (first | exact HO.out | refine HSt.out _ _ _ _ hfar ?_)
    · repeat (first | exact HBu.out | refine Below.setCell ?_ (by simp <;> omega) _)
end Go.Proofs.Ytienmmgkiphkdaa
