/-
  The program's turnEach over slices of int64, at segPartOf: parts as they are handed out; nothing that was there is turned.
-/
import Derived.Test.YtdohpfckiahlcaaSgPcPts
import Derived.Test.YtdohpfckiahlcaaFactsP
namespace Go.Proofs.Ytdohpfckiahlcaa
open Go.RowKit Go.Extern.Stop Go.Stop Go.Extern Num Go.Lib

theorem infoIS : (Try.prog.info? 42).map (fun i => (i.zero, i.size, i.bytes)) = some (some (.slice none 0 0), 1, 24) := by kernel_rfl
theorem segPartOf_any (v : Value) (l : List Int) (B : Nat) (w : World) (h : w.ownsRow B 2 1 v l.length (cellsI l)) :
    Calls Try.prog 45 #[v] w fun e w' => e = .returned (.agg #[v]) ∧ Below w.heap.size w w' := by
  obtain ⟨a, c, rfl⟩ := own_form h
  clear h
  go_enter Try.func45, Try.ntmps45
  go_wp2
  exact bodyPost_ret (v := .agg #[.slice a l.length c]) (by simp [results, Try.results45, go_sem]) rfl ⟨rfl, by repeat (first | exact Below.refl _ _ | refine Below.setCell ?_ (by simp) _ | refine Below.alloc ?_ (by simp <;> omega) _)⟩
set_option maxRecDepth 100000 in
set_option maxHeartbeats 1000000 in
/-- The rows of the parts are handed over. -/
theorem turnOut_any (v : Value) (P : List (List Int × Value)) (B : Nat) (w : World) (hB : B ≤ w.heap.size) (hl : P.length ≤ 1048576) (h : PV 42 w B v P) :
    Calls Try.prog 43 #[v, .func (.func 45) #[] #[]] w fun e w' => ∃ x, e = .returned x ∧ PV 54 w' B x P ∧ Below w.heap.size w w' := by
  have HT : Hid (∀ u, Below w.heap.size w u → PV 42 u B v P) := fun u hu => h.below hu
  obtain ⟨j0, hj, hy0, hy1, hy2⟩ := info_parts infoSp
  obtain ⟨a, c, rfl⟩ := h.form
  clear h
  go_enter Try.func43, Try.ntmps43
  go_wp2_with fail
  go_loopw [5, 10] (fun x i wr => ∃ (k : Nat) (am : Option Addr) (cm : Nat), k ≤ P.length ∧ x = .slice am k cm ∧ i = .int .i64 (k : Int) ∧ Hid (wr.ownsRow w.heap.size 54 1 (.slice am k cm) k ((P.map Prod.snd).take k)) ∧ Hid (Below w.heap.size w wr)) (fun _ i _ => P.length - (RowKit.intOf i).toNat)
  case atStart => exact ⟨0, none, 0, Nat.zero_le _, rfl, rfl, own_nil _ _ _ _, Below.refl _ _⟩
  case round =>
    obtain ⟨k, am, cm, hk, rfl, rfl, HM, HB⟩ := hrel
    by_cases hlt : k < P.length
    · have hpv := HT.out wr HB.out
      obtain ⟨g, c', hv, _, _⟩ := hpv.row.form (by omega)
      obtain ⟨rfl, rfl⟩ : a = some ⟨g, 0, none⟩ ∧ c = c' := by simp at hv; exact hv
      have cz := rowP_at hpv.row k hlt
      have hit := hpv.iv.items k hlt
      obtain ⟨ai, ci, hvi⟩ := own_form hit
      obtain ⟨t, ht⟩ : ∃ t, t = P[k].1.length := ⟨_, rfl⟩
      have HTk : Hid ((P.map Prod.snd).take (k + 1) = (P.map Prod.snd).take k ++ [.slice ai t ci]) := by show _ = _; rw [List.take_add_one, List.getElem?_map, List.getElem?_eq_getElem hlt, ht, ← hvi]; rfl
      have HCp : Hid (∀ x, Below wr.heap.size wr x → Calls Try.prog 45 #[.slice ai t ci] x fun e w' => e = .returned (.agg #[.slice ai t ci]) ∧ Below x.heap.size x w') := fun x hx => by
        have := segPartOf_any P[k].2 P[k].1 B x (own_below hit hx)
        rw [hvi, ← ht] at this
        exact this
      rw [hvi, ← ht] at cz
      clear hpv hv hit hvi ht
      go_wp2_with fail
      refine (HCp.out _ (Below.refl _ _)).mono ?_
      rintro e w3 ⟨rfl, b3⟩
      have HB3 : Hid (Below w.heap.size w w3) := HB.out.trans (b3.mono HB.out.size)
      have HM3 : Hid (w3.ownsRow w.heap.size 54 1 (.slice am k cm) k ((P.map Prod.snd).take k)) := own_below HM.out b3
      have hz3 : w.heap.size ≤ w3.heap.size := HB3.out.size
      clear b3 cz
      go_wp2_with (at_builtin; refine wpList_append_lies _ rfl (.tmp 14) (.tmp 18) 26 rfl w.heap.size 54 j0 _ 1 24 Try.underlying26 hj hy0 hy1 hy2 rfl (by decide) _ k ((P.map Prod.snd).take k) rfl (HM3.out.alloc _) ⟨_, 0, none⟩ 1 1 [.slice ai t ci] rfl rfl ?c1 ?c2 (by decide) ?c3 ?c4 ?c5 _ rfl ?_)
      case c1 => exact World.news_of_block (cs := #[.slice ai t ci]) (t := 54) (fr := (0, 0)) (heap_new' _ _ _ (by simp))
      case c2 => intro u hu; simp at hu; subst hu; rfl
      case c3 => unfold maxLen; omega
      case c4 => omega
      case c5 => simp; omega
      intro g' cap' w4 hown4 hgrow4 _ _
      have HM4 : Hid (w4.ownsRow w.heap.size 54 1 (.slice (some ⟨g', 0, none⟩) (k + 1) cap') (k + 1) ((P.map Prod.snd).take (k + 1))) := by rw [HTk.out]; exact hown4
      have HB4 : Hid (Below w.heap.size w w4) := (HB3.out.alloc hz3 _).grown hgrow4 (by simp; omega) (fun q hq => (HM3.out.lt q hq).1)
      clear hown4 hgrow4
      go_wp2
      exact ⟨⟨k + 1, some ⟨g', 0, none⟩, cap', by omega, rfl, by go_num, HM4.out, HB4.out⟩, by simp [RowKit.intOf]; omega⟩
    · have HM2 : Hid (PV 54 wr B (.slice am k cm) P) := by
        have h1 := HM.out
        have hkl : k = P.length := by omega
        rw [List.take_of_length_le (by rw [List.length_map]; omega)] at h1
        rw [hkl] at h1 ⊢
        exact ⟨own_base h1 hB, (HT.out wr HB.out).iv⟩
      clear HM
      go_wp2
      go_ret
      exact ⟨_, rfl, HM2.out, HB.out⟩
end Go.Proofs.Ytdohpfckiahlcaa
