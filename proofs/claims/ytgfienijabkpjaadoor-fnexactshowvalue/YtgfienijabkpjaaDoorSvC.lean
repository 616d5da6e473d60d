/-
  Parts of the proof laid into one text, one behind the other; each says at its head what is proved in it.
-/
import Derived.Test.YtgfienijabkpjaaDoorShowMath
import Derived.Test.YtgfienijabkpjaaDoorSvH
import Derived.Test.YtgfienijabkpjaaDoorShowW
import Derived.Test.YtgfienijabkpjaaDoorSvD
import Derived.Test.YtgfienijabkpjaaDoorFactsP
import Derived.Test.YtgfienijabkpjaaDoorSvE
import Derived.Test.YtgfienijabkpjaaDoorTexts
import Derived.Test.YtgfienijabkpjaaDoorSvA
import Derived.Test.YtgfienijabkpjaaDoorLawHF
import Derived.Test.YtgfienijabkpjaaDoorEqText
import Derived.Test.YtgfienijabkpjaaDoorBoxLay
import Derived.Test.YtgfienijabkpjaaDoorFacts
/-
  The program's word.text: the text of a value that is no pair (what NumText answers is asked of the caller); nothing that was there is turned.
-/
namespace Go.Proofs.YtgfienijabkpjaaDoor
open Go.RowKit Go.Extern.Stop Go.Stop Go.Extern Num Go.Lib

theorem wboolText (n : Int) (c d : UInt8) (hn : n = 0 ∧ c = 35 ∧ d = 102 ∨ n = 1 ∧ c = 35 ∧ d = 116) (w : World) : Calls Tryd.prog 105 #[.int .i64 n] w fun e w' => e = .returned (.agg #[.int .i64 0, .string ⟨#[c, d]⟩]) ∧ Below w.heap.size w w' := by
  rcases hn with ⟨rfl, rfl, rfl⟩ | ⟨rfl, rfl, rfl⟩
  all_goals
    go_enter Tryd.func105, Tryd.ntmps105
    go_wp2
    refine bodyPost_ret (v := .agg #[.int .i64 0, .string _]) (by simp [results, Tryd.results105, go_sem]) rfl ⟨rfl, ?_⟩
    repeat (first | refine Below.setCell ?_ (by simp <;> omega) _ | refine Below.alloc ?_ (by simp <;> omega) _ | exact Below.refl _ _)
theorem fieldW (k n : Int) (z : ByteArray) (u : World) : (Instr.field 38 (.agg #[.int .i64 k, .int .i64 n, .string z]) 1).run Tryd.prog u = .ok (.int .i64 n) u := by kernel_rfl
theorem fieldN (k n : Int) (z : ByteArray) (u : World) : (Instr.field 38 (.agg #[.int .i64 k, .int .i64 n, .string z]) 2).run Tryd.prog u = .ok (.string z) u := by kernel_rfl
theorem fieldS (c : Int) (z : ByteArray) (u : World) : (Instr.field 29 (.agg #[.int .i64 c, .string z]) 1).run Tryd.prog u = .ok (.string z) u := by kernel_rfl
theorem wd_tagW {t : Vlu} (h : vfault t = 0) : (wdOf t).tag = t.kind := by unfold wdOf; rw [if_pos h]
theorem wt_nil (x : Wd) (hx : x.tag = 3) (w : World) :
    Calls Tryd.prog 93 #[x.val] w fun e w' => e = .returned (.string ⟨#[40, 41]⟩) ∧ Below w.heap.size w w' := by
  obtain ⟨tg, rs⟩ := x
  simp only at hx
  subst hx
  go_enter Tryd.func93, Tryd.ntmps93
  go_wp2
  go_ret
  exact ⟨rfl, (Below.refl _ _).alloc (Nat.le_refl _) _⟩
theorem wt_proc (x : Wd) (hx : x.tag = 6) (w : World) :
    Calls Tryd.prog 93 #[x.val] w fun e w' => e = .returned (.string ⟨#[35, 112, 114, 111, 99]⟩) ∧ Below w.heap.size w w' := by
  obtain ⟨tg, rs⟩ := x
  simp only at hx
  subst hx
  go_enter Tryd.func93, Tryd.ntmps93
  go_wp2
  go_ret
  exact ⟨rfl, (Below.refl _ _).alloc (Nat.le_refl _) _⟩
theorem wt_cont (x : Wd) (hx : x.tag = 7) (w : World) :
    Calls Tryd.prog 93 #[x.val] w fun e w' => e = .returned (.string ⟨#[35, 99, 111, 110, 116]⟩) ∧ Below w.heap.size w w' := by
  obtain ⟨tg, rs⟩ := x
  simp only at hx
  subst hx
  go_enter Tryd.func93, Tryd.ntmps93
  go_wp2
  go_ret
  exact ⟨rfl, (Below.refl _ _).alloc (Nat.le_refl _) _⟩
theorem wt_prim (x : Wd) (hx : x.tag = 8) (w : World) :
    Calls Tryd.prog 93 #[x.val] w fun e w' => e = .returned (.string ⟨#[35, 112, 114, 105, 109]⟩) ∧ Below w.heap.size w w' := by
  obtain ⟨tg, rs⟩ := x
  simp only at hx
  subst hx
  go_enter Tryd.func93, Tryd.ntmps93
  go_wp2
  go_ret
  exact ⟨rfl, (Below.refl _ _).alloc (Nat.le_refl _) _⟩
theorem wt_none (x : Wd) (hx : x.tag = 9) (w : World) :
    Calls Tryd.prog 93 #[x.val] w fun e w' => e = .returned (.string ⟨#[35, 110, 111, 110, 101]⟩) ∧ Below w.heap.size w w' := by
  obtain ⟨tg, rs⟩ := x
  simp only at hx
  subst hx
  go_enter Tryd.func93, Tryd.ntmps93
  go_wp2
  go_ret
  exact ⟨rfl, (Below.refl _ _).alloc (Nat.le_refl _) _⟩
theorem wt_sym (x : Wd) (hx : x.tag = 4) (n : Int) (z : ByteArray) (HV : ∀ u, Calls Tryd.prog 59 #[x.val] u fun e w' => e = .returned (.agg #[.int .i64 4, .int .i64 n, .string z]) ∧ Below u.heap.size u w') (w : World) :
    Calls Tryd.prog 93 #[x.val] w fun e w' => e = .returned (.string z) ∧ Below w.heap.size w w' := by
  obtain ⟨tg, rs⟩ := x
  simp only at hx
  subst hx
  have HW : Hid (∀ u, Calls Tryd.prog 59 #[.agg #[.int .u8 4, .int .u64 rs]] u fun e w' => e = .returned (.agg #[.int .i64 4, .int .i64 n, .string z]) ∧ Below u.heap.size u w') := HV
  clear HV
  have r1 := fieldW
  have r2 := fieldN
  have r3 := fieldS
  go_enter Tryd.func93, Tryd.ntmps93
  go_wp2_with fail
  refine (HW.out _).mono ?_
  rintro e w1 ⟨rfl, b1⟩
  have B1 : Hid (Below w.heap.size w w1) := ((Below.refl _ _).alloc (Nat.le_refl _) _).trans (b1.mono (by simp))
  clear b1
  go_wp2
  go_ret
  exact ⟨rfl, B1.out⟩
theorem wt_num (x : Wd) (hx : x.tag = 1) (n : Int) (z s : ByteArray) (HV : ∀ u, Calls Tryd.prog 59 #[x.val] u fun e w' => e = .returned (.agg #[.int .i64 1, .int .i64 n, .string z]) ∧ Below u.heap.size u w') (w : World) (HN : ∀ u, Below w.heap.size w u → Calls Tryd.prog 104 #[.int .i64 n] u fun e w' => e = .returned (.agg #[.int .i64 0, .string s]) ∧ Below u.heap.size u w') :
    Calls Tryd.prog 93 #[x.val] w fun e w' => e = .returned (.string s) ∧ Below w.heap.size w w' := by
  obtain ⟨tg, rs⟩ := x
  simp only at hx
  subst hx
  have HW : Hid (∀ u, Calls Tryd.prog 59 #[.agg #[.int .u8 1, .int .u64 rs]] u fun e w' => e = .returned (.agg #[.int .i64 1, .int .i64 n, .string z]) ∧ Below u.heap.size u w') := HV
  have HT : Hid (∀ u, Below w.heap.size w u → Calls Tryd.prog 104 #[.int .i64 n] u fun e w' => e = .returned (.agg #[.int .i64 0, .string s]) ∧ Below u.heap.size u w') := HN
  clear HN
  clear HV
  have r1 := fieldW
  have r2 := fieldN
  have r3 := fieldS
  go_enter Tryd.func93, Tryd.ntmps93
  go_wp2_with fail
  refine (HW.out _).mono ?_
  rintro e w1 ⟨rfl, b1⟩
  have B1 : Hid (Below w.heap.size w w1) := ((Below.refl _ _).alloc (Nat.le_refl _) _).trans (b1.mono (by simp))
  clear b1
  go_wp2_with fail
  refine (HT.out _ B1.out).mono ?_
  rintro e w2 ⟨rfl, b2⟩
  have B2 : Hid (Below w.heap.size w w2) := B1.out.trans (b2.mono B1.out.size)
  clear b2
  go_wp2
  go_ret
  exact ⟨rfl, B2.out⟩
theorem wt_bool (x : Wd) (hx : x.tag = 2) (n : Int) (z s : ByteArray) (HV : ∀ u, Calls Tryd.prog 59 #[x.val] u fun e w' => e = .returned (.agg #[.int .i64 2, .int .i64 n, .string z]) ∧ Below u.heap.size u w') (w : World) (HN : ∀ u, Below w.heap.size w u → Calls Tryd.prog 105 #[.int .i64 n] u fun e w' => e = .returned (.agg #[.int .i64 0, .string s]) ∧ Below u.heap.size u w') :
    Calls Tryd.prog 93 #[x.val] w fun e w' => e = .returned (.string s) ∧ Below w.heap.size w w' := by
  obtain ⟨tg, rs⟩ := x
  simp only at hx
  subst hx
  have HW : Hid (∀ u, Calls Tryd.prog 59 #[.agg #[.int .u8 2, .int .u64 rs]] u fun e w' => e = .returned (.agg #[.int .i64 2, .int .i64 n, .string z]) ∧ Below u.heap.size u w') := HV
  have HT : Hid (∀ u, Below w.heap.size w u → Calls Tryd.prog 105 #[.int .i64 n] u fun e w' => e = .returned (.agg #[.int .i64 0, .string s]) ∧ Below u.heap.size u w') := HN
  clear HN
  clear HV
  have r1 := fieldW
  have r2 := fieldN
  have r3 := fieldS
  go_enter Tryd.func93, Tryd.ntmps93
  go_wp2_with fail
  refine (HW.out _).mono ?_
  rintro e w1 ⟨rfl, b1⟩
  have B1 : Hid (Below w.heap.size w w1) := ((Below.refl _ _).alloc (Nat.le_refl _) _).trans (b1.mono (by simp))
  clear b1
  go_wp2_with fail
  refine (HT.out _ B1.out).mono ?_
  rintro e w2 ⟨rfl, b2⟩
  have B2 : Hid (Below w.heap.size w w2) := B1.out.trans (b2.mono B1.out.size)
  clear b2
  go_wp2
  go_ret
  exact ⟨rfl, B2.out⟩
/-- The text of a value that is no pair. -/
theorem wtext_any (t : Vlu) (w : World) (h : vfault t = 0) (h5 : t.kind ≠ 5) (HN : ∀ u, Below w.heap.size w u → Calls Tryd.prog 104 #[.int .i64 t.num] u fun e w' => e = .returned (.agg #[.int .i64 0, .string ⟨(itoa t.num).toArray⟩]) ∧ Below u.heap.size u w') :
    Calls Tryd.prog 93 #[(wdOf t).val] w fun e w' => e = .returned (.string ⟨(leafV t).toArray⟩) ∧ Below w.heap.size w w' := by
  have hg := wd_tagW h
  have hk := kind_in h
  have HV := fun u => value_any t u h
  obtain ⟨k, n, z⟩ := t
  simp only at h5 hk hg HN
  have hc : k = 1 ∨ k = 2 ∨ k = 3 ∨ k = 4 ∨ k = 6 ∨ k = 7 ∨ k = 8 ∨ k = 9 := by omega
  rcases hc with rfl | rfl | rfl | rfl | rfl | rfl | rfl | rfl
  · exact wt_num _ hg n z _ HV w HN
  · have h2 := bool_in h rfl
    simp only at h2
    have hc : n = 0 ∨ n = 1 := by omega
    rcases hc with rfl | rfl
    · exact wt_bool _ hg 0 z ⟨#[35, 102]⟩ HV w (fun u _ => wboolText 0 35 102 (.inl ⟨rfl, rfl, rfl⟩) u)
    · exact wt_bool _ hg 1 z ⟨#[35, 116]⟩ HV w (fun u _ => wboolText 1 35 116 (.inr ⟨rfl, rfl, rfl⟩) u)
  · exact wt_nil _ hg w
  · have e : leafV ⟨4, n, z⟩ = z.data.toList := by simp [leafV]
    rw [e]
    exact wt_sym _ hg n z HV w
  · exact wt_proc _ hg w
  · exact wt_cont _ hg w
  · exact wt_prim _ hg w
  · exact wt_none _ hg w
end Go.Proofs.YtgfienijabkpjaaDoor
/-
  What a shower writes: a leaf; the texts that are still to come, in plain words. Nothing is turned but the shower's blocks.
-/
namespace Go.Proofs.YtgfienijabkpjaaDoor
open Go.RowKit Go.Extern.Stop Go.Stop Go.Extern Num Go.Lib Go.Shelf

theorem ShwV.below {n₀ b h : Nat} {v : Value} {bs : List Value} {w w' : World} (H : ShwV n₀ b h v bs w) (hb : Below w.heap.size w w') : ShwV n₀ b h v bs w' := by
  have hl := H.lt
  obtain ⟨h1, h2, h3, h4⟩ := H
  exact ⟨h1, (hb.block b hl).trans h2, own_below h3 hb, h4⟩
theorem ShwV.same {n₀ b h : Nat} {v : Value} {bs : List Value} {w w' : World} (H : ShwV n₀ b h v bs w) (hs : ∀ k, Ms b w k → w'.heap[k]? = w.heap[k]?) : ShwV n₀ b h v bs w' := by
  have hm := fun k => H.ms (k := k)
  obtain ⟨h1, h2, h3, h4⟩ := H
  refine ⟨h1, (hs b (.inl rfl)).trans h2, ⟨h3.1, ?_⟩, h4⟩
  rcases h3.2 with hn | ⟨g, cap, cur, rfl, hbg, hgg, rest⟩
  · exact .inl hn
  · exact .inr ⟨g, cap, cur, rfl, hbg, (hs g ((hm g).2 (.inr rfl))).trans hgg, rest⟩
theorem ShwV.cells {n₀ b h : Nat} {v : Value} {bs : List Value} {w : World} (H : ShwV n₀ b h v bs w) {k : Nat} (hk : Ms b w k) : n₀ ≤ k ∧ ∃ o : Obj, w.heap[k]? = some o ∧ o.isCells = true := by
  rcases H.ms.1 hk with rfl | e
  · exact ⟨H.1, _, H.2.1, rfl⟩
  · rcases H.2.2.1.2 with ⟨hv, _⟩ | ⟨g, cap, cur, rfl, hbg, hgg, _⟩
    · rw [hv] at e; cases e
    · have : g = k := by simpa [Value.ownBlock] using e
      subst this
      exact ⟨hbg, _, hgg, rfl⟩
/-- What the shower's blocks are of a type, none else is of the shower's. -/
theorem ShwV.not {n₀ b h : Nat} {v : Value} {bs : List Value} {w : World} (H : ShwV n₀ b h v bs w) {k : Nat} {cs : Array Value} {T : TypeId} {fz : Nat × Nat} (hk : w.heap[k]? = some (.cells cs T fz)) (h1 : T ≠ 114) (h2 : T ≠ 5) : ¬ Ms b w k := fun hm => by
  rcases H.ms.1 hm with rfl | e
  · rw [H.2.1] at hk
    injection hk with hk
    injection hk with _ hT
    exact h1 hT.symm
  · rcases H.2.2.1.2 with ⟨hv, _⟩ | ⟨g, cap, cur, rfl, hbg, hgg, _⟩
    · rw [hv] at e; cases e
    · have : g = k := by simpa [Value.ownBlock] using e
      subst this
      rw [hgg] at hk
      injection hk with hk
      injection hk with _ hT
      exact h2 hT.symm
theorem Ms.read {b : Nat} {W W' : World} (h : W'.heap[b]? = W.heap[b]?) {k : Nat} (hm : Ms b W' k) : Ms b W k := by
  rcases hm with hm | ⟨p, v, fr, h1, h2⟩
  · exact .inl hm
  · exact .inr ⟨p, v, fr, by rw [← h]; exact h1, h2⟩
theorem kq_ms {n₀ b : Nat} {W W' : World} (hb : Below W.heap.size W W') (hn : n₀ ≤ W.heap.size) (hlt : b < W.heap.size) : Kq n₀ (Ms b) W W' :=
  ⟨hb.mono hn, fun k hk _ => hb.block k hk, fun _ _ hm => Ms.read (hb.block b hlt) hm⟩
theorem str_app (s t : ByteArray) : strCells s ++ strCells t = strCells ⟨(s.data.toList ++ t.data.toList).toArray⟩ := by simp [strCells]
theorem size_list (s : ByteArray) : s.data.toList.length = s.size := by rw [Array.length_toList]; rfl
theorem size_app (s t : ByteArray) : (ByteArray.mk (s.data.toList ++ t.data.toList).toArray).size = s.size + t.size := by
  show ((s.data.toList ++ t.data.toList).toArray).size = _
  rw [List.size_toArray, List.length_append, size_list, size_list]
/-- What show and showPair do: the text behind what is there, as far as 120 bytes tell. -/
def ShDone (n₀ b h : Nat) (s : ByteArray) (x : List UInt8) (f : Nat) (u : World) (e : Ending) (w' : World) : Prop :=
  e = .returned (.tuple #[]) ∧ ∃ v' s', ShwV n₀ b h v' (strCells s') w' ∧ Cut120 s'.data.toList (s.data.toList ++ x) ∧ s'.size ≤ max s.size 122 + 100 * f ∧ Kq n₀ (Ms b) u w'
/-- A text written. -/
theorem swrite_s (n₀ b h : Nat) (v : Value) (s t : ByteArray) (w : World) (H : ShwV n₀ b h v (strCells s) w) (hlen : s.size + t.size ≤ 140737488355328) (hn : n₀ ≤ w.heap.size) :
    Calls Tryd.prog 92 #[.pointer (some ⟨b, 0, none⟩), .string t] w fun e w' => e = .returned (.tuple #[]) ∧ ∃ v', ShwV n₀ b h v' (strCells ⟨(s.data.toList ++ t.data.toList).toArray⟩) w' ∧ Kq n₀ (Ms b) w w' := by
  refine (shwrite_any n₀ b h v (strCells s) t w H (by rw [strCells_length]; exact hlen) hn).mono ?_
  rintro e w' ⟨rfl, v', h1, h2⟩
  rw [str_app] at h1
  exact ⟨rfl, v', h1, h2⟩
set_option maxRecDepth 100000 in
set_option maxHeartbeats 1000000 in
theorem show_leaf (l : List Pai) (n₀ b h f : Nat) (v : Value) (s : ByteArray) (t : Vlu) (u : World) (ht : vfault t = 0) (h5 : t.kind ≠ 5) (hs : s.size ≤ 10000000) (H : ShwV n₀ b h v (strCells s) u) (hn : n₀ ≤ u.heap.size)
    (HN : ∀ q, Below u.heap.size u q → Calls Tryd.prog 104 #[.int .i64 t.num] q fun e w' => e = .returned (.agg #[.int .i64 0, .string ⟨(itoa t.num).toArray⟩]) ∧ Below q.heap.size q w') :
    Calls Tryd.prog 64 #[.pointer (some ⟨b, 0, none⟩), (wdOf t).val] u fun e w' => ShDone n₀ b h s (showF l (f + 1) false t) (f + 1) u e w' := by
  have hlt := H.lt
  have htag : ((wdOf t).tag == 5) = false := by rw [wd_tagW ht]; simpa using h5
  have hll := leafV_len ht
  obtain ⟨W, hW⟩ : ∃ W, W = u.alloc (.cells #[.int .u8 (wdOf t).tag, .int .u64 (wdOf t).rest] 74) := ⟨_, rfl⟩
  have HW : Hid (W = u.alloc (.cells #[.int .u8 (wdOf t).tag, .int .u64 (wdOf t).rest] 74)) := hW
  have HBW : Hid (Below u.heap.size u W) := by rw [hW]; exact (Below.refl _ _).alloc (Nat.le_refl _) _
  have HTx : Hid (Calls Tryd.prog 93 #[(wdOf t).val] W fun e w' => e = .returned (.string ⟨(leafV t).toArray⟩) ∧ Below W.heap.size W w') := wtext_any t W ht h5 (fun q hq => HN q (HBW.out.trans (hq.mono HBW.out.size)))
  have HSh : Hid (ShwV n₀ b h v (strCells s) u) := H
  obtain ⟨x, hx⟩ : ∃ x, x = wdOf t := ⟨_, rfl⟩
  have HL : Hid (showF l (f + 1) false t = leafV t) := showF_leaf h5
  rw [HL.out]
  obtain ⟨L, hL⟩ : ∃ L : ByteArray, L = ⟨(leafV t).toArray⟩ := ⟨_, rfl⟩
  have HLe : Hid (L.data.toList = leafV t ∧ L.size ≤ 20) := ⟨by rw [hL], by rw [hL]; show (leafV t).toArray.size ≤ 20; rw [List.size_toArray]; exact hll⟩
  rw [← hL] at HTx
  rw [← hx] at htag HW HTx ⊢
  clear H hW hx hL h5 HL hll HN
  go_enter Tryd.func64, Tryd.ntmps64
  go_wp2_with fail
  rw [← HW.out]
  refine HTx.out.mono ?_
  rintro e w1 ⟨rfl, b1⟩
  have HB1 : Hid (Below u.heap.size u w1) := HBW.out.trans (b1.mono HBW.out.size)
  clear b1
  go_wp2_with fail
  refine (swrite_s n₀ b h v s L w1 (HSh.out.below HB1.out) (by have := HLe.out.2; omega) (Nat.le_trans hn HB1.out.size)).mono ?_
  rintro e w2 ⟨rfl, v', h1, h2⟩
  have HD : Hid (ShDone n₀ b h s (leafV t) (f + 1) u (.returned (.tuple #[])) w2) := ⟨rfl, v', _, h1, by rw [← HLe.out.1]; exact Cut120.refl _, by rw [size_app]; have := HLe.out.2; omega, (kq_ms HB1.out hn hlt).trans h2⟩
  clear h1 h2
  go_wp2
  exact bodyPost_end (v := .tuple #[]) (by simp [results, Tryd.results64]) rfl HD.out
/-- show at a pair is showPair at it. -/
theorem show_on (l : List Pai) (n₀ b h f : Nat) (v : Value) (s : ByteArray) (t : Vlu) (u : World) (ht : vfault t = 0) (h5 : t.kind = 5) (H : ShwV n₀ b h v (strCells s) u) (hn : n₀ ≤ u.heap.size)
    (HP : ∀ q, Below u.heap.size u q → Calls Tryd.prog 91 #[.pointer (some ⟨b, 0, none⟩), (wdOf t).val] q fun e w' => ShDone n₀ b h s (showF l f false t) f q e w') :
    Calls Tryd.prog 64 #[.pointer (some ⟨b, 0, none⟩), (wdOf t).val] u fun e w' => ShDone n₀ b h s (showF l f false t) f u e w' := by
  have hlt := H.lt
  have htag : (wdOf t).tag = 5 := by rw [wd_tagW ht]; exact h5
  obtain ⟨W, hW⟩ : ∃ W, W = u.alloc (.cells #[.int .u8 (wdOf t).tag, .int .u64 (wdOf t).rest] 74) := ⟨_, rfl⟩
  have HBW : Hid (Below u.heap.size u W) := by rw [hW]; exact (Below.refl _ _).alloc (Nat.le_refl _) _
  have HP2 : Hid (Calls Tryd.prog 91 #[.pointer (some ⟨b, 0, none⟩), (wdOf t).val] W fun e w' => ShDone n₀ b h s (showF l f false t) f W e w') := HP W HBW.out
  have HW : Hid (W = u.alloc (.cells #[.int .u8 (wdOf t).tag, .int .u64 (wdOf t).rest] 74)) := hW
  generalize hxx : showF l f false t = x at HP2 ⊢
  clear hW H HP hxx
  obtain ⟨⟨tg, rs⟩, hx⟩ : ∃ x : Wd, x = wdOf t := ⟨_, rfl⟩
  rw [← hx] at htag HW HP2 ⊢
  simp only at htag
  subst htag
  clear hx
  go_enter Tryd.func64, Tryd.ntmps64
  go_wp2_with fail
  rw [← HW.out]
  refine HP2.out.mono ?_
  rintro e w1 ⟨rfl, v', s', h1, h2, h3, h4⟩
  have HD : Hid (ShDone n₀ b h s x f u (.returned (.tuple #[])) w1) := ⟨rfl, v', s', h1, h2, h3, (kq_ms HBW.out hn hlt).trans h4⟩
  clear h1 h2 h3 h4
  go_wp2
  exact bodyPost_end (v := .tuple #[]) (by simp [results, Tryd.results64]) rfl HD.out
/-- What is still to come of a list, from a value on. -/
def toC (l : List Pai) (j : Nat) (first : Bool) (v : Vlu) : List UInt8 :=
  if v.kind = 5 then (if first then [40] else [32]) ++ showF l j true v else if v.kind = 3 then [41] else [32, 46, 32] ++ leafV v ++ [41]
theorem toC_step {l : List Pai} {j k : Nat} {v : Vlu} (first : Bool) (hk : k < l.length) (h5 : v.kind = 5) (hn : v.num = (k : Int)) :
    toC l (j + 1) first v = (if first then [40] else [32]) ++ (showF l j false (l[k]'hk).head ++ toC l j false (l[k]'hk).tail) := by
  have e : v.num.toNat = k := by omega
  unfold toC
  rw [if_pos h5]
  congr 1
  have hk' : v.num.toNat < l.length := by omega
  have ek : l[v.num.toNat]'hk' = l[k]'hk := by congr 1
  by_cases t5 : (l[k]'hk).tail.kind = 5
  · rw [if_pos t5, showF_on hk' (by rw [ek]; exact t5), ek]; rfl
  · by_cases t3 : (l[k]'hk).tail.kind = 3
    · rw [if_neg t5, if_pos t3, showF_nil hk' (by rw [ek]; exact t3), ek]
    · rw [if_neg t5, if_neg t3, showF_dot hk' (by rw [ek]; exact t3) (by rw [ek]; exact t5), ek]
end Go.Proofs.YtgfienijabkpjaaDoor
/-
  The program's showPair, by fuel: the pairs from a word on, one behind the other, until the text is long enough; nothing is turned but the shower's blocks.
-/
namespace Go.Proofs.YtgfienijabkpjaaDoor
open Go.RowKit Go.Extern.Stop Go.Stop Go.Extern Num Go.Lib Go.Shelf
attribute [local go_sem] Oper.semAt_some

theorem two_cellsS {u : World} {x T : Nat} {v0 v1 : Value} (h : u.heap[x]? = some (.cells #[v0, v1] T (0, 0))) : u.cell? ⟨x, 0, none⟩ = some v0 ∧ u.cell? ⟨x, 1, none⟩ = some v1 ∧ ∀ o, u.frozen? ⟨x, o, none⟩ = false := by
  simp [World.cell?, World.frozen?, h]
theorem one_cellS {u : World} {x T : Nat} {v0 : Value} (h : u.heap[x]? = some (.cells #[v0] T (0, 0))) : u.cell? ⟨x, 0, none⟩ = some v0 ∧ ∀ o, u.frozen? ⟨x, o, none⟩ = false := by
  simp [World.cell?, World.frozen?, h]
theorem cellsFromS_any (p : Option Addr) (x : Wd) (w : World) :
    Calls Tryd.prog 102 #[.pointer p, x.val] w fun e w' => e = .returned (.func (.func 109) #[] #[.pointer (some ⟨w.heap.size + 1, 0, none⟩), .pointer (some ⟨w.heap.size, 0, none⟩)]) ∧ w' = (w.alloc (.cells #[.pointer p] 66)).alloc (.cells #[.int .u8 x.tag, .int .u64 x.rest] 74) := by
  go_enter Tryd.func102, Tryd.ntmps102
  go_wp2
  go_ret
  exact ⟨rfl, rfl⟩
/-- The blocks of a text that were laid from n on. -/
def StB (n : Nat) (u : World) (q : Nat) (s : ByteArray) : Prop := n ≤ q ∧ u.heap[q]? = some (.cells #[.string s] 9 (0, 0))
def SpG (n : Nat) (u v : World) : Prop := Below n u v ∧ (∀ q s, StB n u q s → StB n v q s ∨ StB n v q ⟨#[40]⟩) ∧ ∀ q cs, n ≤ q → u.heap[q]? = some (.cells cs 74 (0, 0)) → v.heap[q]? = u.heap[q]?
theorem SpG.of_below {n : Nat} {u v : World} (h : Below u.heap.size u v) (hn : n ≤ u.heap.size) : SpG n u v :=
  ⟨h.mono hn, fun _ _ hq => .inl ⟨hq.1, (h.block _ (Array.getElem?_eq_some_iff.1 hq.2).1).trans hq.2⟩, fun _ _ _ hc => h.block _ (Array.getElem?_eq_some_iff.1 hc).1⟩
def SpB (W1 : World) (p : Nat) (u : World) : Prop := Below W1.heap.size W1 u ∧ (p = 0 → ∀ q s, ¬ StB W1.heap.size u q s) ∧ ∀ q s q' s', StB W1.heap.size u q s → StB W1.heap.size u q' s' → q = q'
theorem heap_snd {w : World} {o : Obj} {q : Nat} {x : Obj} (h : (w.alloc o).heap[q]? = some x) : w.heap[q]? = some x ∨ (q = w.heap.size ∧ x = o) := by
  by_cases e : q = w.heap.size
  · subst e
    rw [heap_alloc_new] at h
    exact .inr ⟨rfl, (Option.some.inj h).symm⟩
  · by_cases hl : q < w.heap.size
    · rw [Below.heap_alloc _ _ _ hl] at h; exact .inl h
    · rw [Array.getElem?_eq_none (by simp; omega)] at h; cases h
/-- The state between two rounds. -/
structure SpI (n₀ : Nat) (u : World) (b h pp pa pr qh : Nat) (l : List Pai) (t : Vlu) (X : List UInt8) (f C i : Nat) (W : World) : Prop where
  pb : W.heap[pp]? = some (.cells #[.pointer (some ⟨b, 0, none⟩)] 138 (0, 0))
  ab : W.heap[pa]? = some (.cells #[.string (if i = 0 then ⟨#[40]⟩ else ⟨#[32]⟩)] 9 (0, 0))
  rb : W.heap[pr]? = some (.cells #[.int .u8 (wdOf (goV l i t)).tag, .int .u64 (wdOf (goV l i t)).rest] 74 (0, 0))
  nb : W.heap[qh]? = some (.cells #[.pointer (some ⟨h, 0, none⟩)] 66 (0, 0))
  sh : ∃ v s j, ShwV n₀ b h v (strCells s) W ∧ j ≤ f ∧ ((goV l i t).kind = 5 → needF true (goV l i t) ≤ j) ∧ Cut120 (s.data.toList ++ toC l j (i == 0) (goV l i t)) X ∧ s.size ≤ C
  kq : Kq n₀ (Ms b) u W
/-- Where a round left: the text is long enough. -/
def SpE (n₀ : Nat) (u : World) (b h : Nat) (X : List UInt8) (C : Nat) (W : World) : Prop :=
  (∃ v s, ShwV n₀ b h v (strCells s) W ∧ Cut120 s.data.toList X ∧ s.size ≤ C) ∧ Kq n₀ (Ms b) u W
/-- The blocks that a round owns. -/
def Msp (b pa pr : Nat) (W : World) (k : Nat) : Prop := Ms b W k ∨ k = pa ∨ k = pr
theorem spi_own (n₀ : Nat) (u : World) (b h pp pa pr qh : Nat) (l : List Pai) (t : Vlu) (X : List UInt8) (f C B : Nat) (h1 : u.heap.size ≤ B) (h2 : pp < B) (h3 : qh < B) (hb : b < u.heap.size) : OwnM (β := List Nat) n₀ B (Msp b pa pr) (fun pre W => SpI n₀ u b h pp pa pr qh l t X f C pre.length W) := by
  refine ⟨fun s W W' H hbl hlow hM => ?_, fun s W W' H hM k hm => ?_, fun s W k H hm => ?_⟩
  · obtain ⟨v, y, j, e1, e2, e3, e4, e5⟩ := H.sh
    refine ⟨(hlow _ h2).trans H.pb, (hM _ (.inr (.inl rfl))).trans H.ab, (hM _ (.inr (.inr rfl))).trans H.rb, (hlow _ h3).trans H.nb, ⟨v, y, j, e1.same (fun k hk => hM k (.inl hk)), e2, e3, e4, e5⟩, ?_⟩
    exact ⟨H.kq.1.trans hbl, fun k hk hm => (hlow k (by omega)).trans (H.kq.2.1 k hk hm), fun k hk hm => H.kq.2.2 k hk (Ms.read (hlow b (by omega)) hm)⟩
  · rcases hm with hm | hm
    · exact .inl (Ms.read (hM b (.inl (.inl rfl))) hm)
    · exact .inr hm
  · rcases hm with hm | rfl | rfl
    · obtain ⟨v, y, j, e1, _⟩ := H.sh
      exact (e1.cells hm).2
    · exact ⟨_, H.ab, rfl⟩
    · exact ⟨_, H.rb, rfl⟩
theorem SpI.next {n₀ : Nat} {u : World} {b h pp pa pr qh : Nat} {l : List Pai} {t : Vlu} {X : List UInt8} {f C i : Nat} {W W4 : World} (H : SpI n₀ u b h pp pa pr qh l t X f C i W) (k4 : Kq n₀ (Ms b) W W4) {v : Value} {s : ByteArray} {j : Nat} (S : ShwV n₀ b h v (strCells s) W4) (tl : Vlu) (hgo : goV l (i + 1) t = tl) (hj : j ≤ f) (hnd : tl.kind = 5 → needF true tl ≤ j) (hcut : Cut120 (s.data.toList ++ toC l j false tl) X) (hs : s.size ≤ C)
    (hne : pa ≠ pr) (ha : u.heap.size ≤ pa) (hr : u.heap.size ≤ pr) (hn : n₀ ≤ u.heap.size) (hp1 : pp ≠ pa) (hp2 : pp ≠ pr) (hq1 : qh ≠ pa) (hq2 : qh ≠ pr) (hb : b < u.heap.size) :
    Kq n₀ (Msp b pa pr) W (((W4.setCell ⟨pa, 0, none⟩ (.string ⟨#[32]⟩)).setCell ⟨pr, 0, none⟩ (.int .u8 (wdOf tl).tag)).setCell ⟨pr, 1, none⟩ (.int .u64 (wdOf tl).rest)) ∧ SpI n₀ u b h pp pa pr qh l t X f C (i + 1) (((W4.setCell ⟨pa, 0, none⟩ (.string ⟨#[32]⟩)).setCell ⟨pr, 0, none⟩ (.int .u8 (wdOf tl).tag)).setCell ⟨pr, 1, none⟩ (.int .u64 (wdOf tl).rest)) := by
  obtain ⟨v0, s0, j0, S0, _⟩ := H.sh
  have la := (Array.getElem?_eq_some_iff.1 H.ab).1
  have lr := (Array.getElem?_eq_some_iff.1 H.rb).1
  have lp := (Array.getElem?_eq_some_iff.1 H.pb).1
  have lq := (Array.getElem?_eq_some_iff.1 H.nb).1
  have a4 := (k4.2.1 pa la (S0.not H.ab (by decide) (by decide))).trans H.ab
  have r4 := (k4.2.1 pr lr (S0.not H.rb (by decide) (by decide))).trans H.rb
  have p4 := (k4.2.1 pp lp (S0.not H.pb (by decide) (by decide))).trans H.pb
  have q4 := (k4.2.1 qh lq (S0.not H.nb (by decide) (by decide))).trans H.nb
  have s1 := heap_setCell_same W4 pa 0 _ _ (.string ⟨#[32]⟩) a4
  have r5 := (heap_setCell_other W4 ⟨pa, 0, none⟩ pr (.string ⟨#[32]⟩) (fun e => hne e.symm)).trans r4
  have s2 := heap_setCell_same _ pr 0 _ _ (.int .u8 (wdOf tl).tag) r5
  have s3 := heap_setCell_same _ pr 1 _ _ (.int .u64 (wdOf tl).rest) s2
  have oth : ∀ q, q ≠ pa → q ≠ pr → (((W4.setCell ⟨pa, 0, none⟩ (.string ⟨#[32]⟩)).setCell ⟨pr, 0, none⟩ (.int .u8 (wdOf tl).tag)).setCell ⟨pr, 1, none⟩ (.int .u64 (wdOf tl).rest)).heap[q]? = W4.heap[q]? := fun q h1 h2 => (heap_setCell_other _ _ q _ h2).trans ((heap_setCell_other _ _ q _ h2).trans (heap_setCell_other _ _ q _ h1))
  have a5 : (((W4.setCell ⟨pa, 0, none⟩ (.string ⟨#[32]⟩)).setCell ⟨pr, 0, none⟩ (.int .u8 (wdOf tl).tag)).setCell ⟨pr, 1, none⟩ (.int .u64 (wdOf tl).rest)).heap[pa]? = some (.cells #[.string ⟨#[32]⟩] 9 (0, 0)) := (heap_setCell_other _ _ pa _ hne).trans ((heap_setCell_other _ _ pa _ hne).trans s1)
  have bel : Below n₀ W (((W4.setCell ⟨pa, 0, none⟩ (.string ⟨#[32]⟩)).setCell ⟨pr, 0, none⟩ (.int .u8 (wdOf tl).tag)).setCell ⟨pr, 1, none⟩ (.int .u64 (wdOf tl).rest)) := ((k4.1.setCell (show n₀ ≤ pa by omega) _).setCell (show n₀ ≤ pr by omega) _).setCell (show n₀ ≤ pr by omega) _
  have na : ¬ Ms b W4 pa := S.not a4 (by decide) (by decide)
  have nr : ¬ Ms b W4 pr := S.not r4 (by decide) (by decide)
  have S' : ShwV n₀ b h v (strCells s) (((W4.setCell ⟨pa, 0, none⟩ (.string ⟨#[32]⟩)).setCell ⟨pr, 0, none⟩ (.int .u8 (wdOf tl).tag)).setCell ⟨pr, 1, none⟩ (.int .u64 (wdOf tl).rest)) := S.same (fun q hq => oth q (fun e => na (e ▸ hq)) (fun e => nr (e ▸ hq)))
  have hbb := oth b (by omega) (by omega)
  refine ⟨⟨bel, fun q h1 h2 => (oth q (fun e => h2 (.inr (.inl e))) (fun e => h2 (.inr (.inr e)))).trans (k4.2.1 q h1 (fun m => h2 (.inl m))), fun q h1 h2 => h2.elim (fun m => .inl (k4.2.2 q h1 (Ms.read hbb m))) .inr⟩, ?_⟩
  refine ⟨(oth pp hp1 hp2).trans p4, ?_, ?_, (oth qh hq1 hq2).trans q4, ⟨v, s, j, S', hj, ?_, ?_, hs⟩, ?_⟩
  · rw [if_neg (by omega)]; exact a5
  · rw [hgo]; exact s3
  · rw [hgo]; exact hnd
  · rw [hgo]; exact hcut
  · have hsz := H.kq.size
    exact ⟨H.kq.1.trans bel, fun q h1 h2 => (oth q (by omega) (by omega)).trans ((k4.2.1 q (by omega) (fun m => h2 (H.kq.2.2 q h1 m))).trans (H.kq.2.1 q h1 h2)), fun q h1 m => H.kq.2.2 q h1 (k4.2.2 q (by omega) (Ms.read hbb m))⟩
/-- A loop's own block is turned. -/
theorem sp_put {n₀ : Nat} {u : World} {b h : Nat} {v : Value} {bs : List Value} {W : World} (S : ShwV n₀ b h v bs W) (k : Kq n₀ (Ms b) u W) {D : Nat} {o : Obj} (ho : W.heap[D]? = some o) (hc : o.isCells = false) (hu : u.heap.size ≤ D) (hn : n₀ ≤ u.heap.size) (o' : Obj) : ShwV n₀ b h v bs (W.putObj D o') ∧ Kq n₀ (Ms b) u (W.putObj D o') := by
  have hd : ∀ q, Ms b W q → q ≠ D := fun q hq e => by
    obtain ⟨o2, h1, h2⟩ := (S.cells hq).2
    rw [e, ho] at h1
    obtain rfl := Option.some.inj h1
    rw [hc] at h2; cases h2
  refine ⟨S.same (fun q hq => World.putObj_heap_other (hd q hq)), k.1.trans (below_put _ _ _ _ (by omega)), fun q h1 h2 => (World.putObj_heap_other (by omega)).trans (k.2.1 q h1 h2), fun q h1 m => k.2.2 q h1 (Ms.read (World.putObj_heap_other (hd b (.inl rfl))) m)⟩
theorem sp_def {n₀ b h : Nat} {v : Value} {bs : List Value} {W W' : World} {D : Nat} {o : Obj} (S : ShwV n₀ b h v bs W) (k : Kq n₀ (Ms b) W W') (ho : W.heap[D]? = some o) (hc : o.isCells = false) : W'.heap[D]? = some o := by
  refine (k.2.1 D (Array.getElem?_eq_some_iff.1 ho).1 (fun m => ?_)).trans ho
  obtain ⟨o2, h1, h2⟩ := (S.cells m).2
  rw [ho] at h1
  obtain rfl := Option.some.inj h1
  rw [hc] at h2; cases h2
theorem fine_in {v : Vlu} (h : vfault v = 0) : inB v.num = true := by
  by_cases h1 : v.kind = 1
  · exact num_in h h1
  · rw [inB_iff]
    unfold vfault at h
    rw [if_neg h1] at h
    repeat' split at h
    all_goals omega
/-- The temporaries of a round. -/
abbrev actP (b pp pw pa pr h wb hb : Nat) (x : Value) (q q' v0 v1 v2 : Value) : Act := { tmps := #[.pointer (some ⟨b, 0, none⟩), x, .pointer (some ⟨pp, 0, none⟩), .pointer (some ⟨pw, 0, none⟩), .pointer (some ⟨pa, 0, none⟩), .pointer (some ⟨pr, 0, none⟩), q, x, v0, v1, v2, .pointer (some ⟨h, 0, none⟩), x, .func (.func 109) #[] #[.pointer (some ⟨wb, 0, none⟩), .pointer (some ⟨hb, 0, none⟩)], q', undef, undef, undef, undef, undef, undef, undef, undef, undef, undef, undef, undef, undef, undef, undef, undef, undef, undef, undef, undef, undef, undef, undef, undef, undef], defers := [] }
/-- What show owes with so much fuel. -/
def ShP (l : List Pai) (w0 : World) (h f : Nat) : Prop :=
  ∀ (t : Vlu) (b : Nat) (v : Value) (s : ByteArray) (u : World), aheadV l.length t → needF false t ≤ f → s.size ≤ 122 → Below w0.heap.size w0 u → ShwV w0.heap.size b h v (strCells s) u →
    Calls Tryd.prog 64 #[.pointer (some ⟨b, 0, none⟩), (wdOf t).val] u fun e w' => ShDone w0.heap.size b h s (showF l f false t) f u e w'
set_option maxRecDepth 100000 in
set_option maxHeartbeats 8000000 in
theorem showPair_of (l : List Pai) (hh : heapFault l = 0) (w0 : World) (B h : Nat) (vq : Value) (bs : List Nat) (HKK : HpAt w0 B h vq bs (wordsP l)) (f : Nat) (hf : f ≤ 9000) (IH : ∀ j, j < f + 1 → ShP l w0 h j)
    (HN : ∀ (n : Int) q, inB n = true → Below w0.heap.size w0 q → Calls Tryd.prog 104 #[.int .i64 n] q fun e w' => e = .returned (.agg #[.int .i64 0, .string ⟨(itoa n).toArray⟩]) ∧ Below q.heap.size q w')
    (t : Vlu) (b : Nat) (v : Value) (s : ByteArray) (u : World) (hah : aheadV l.length t) (h5 : t.kind = 5) (hnd : needF true t ≤ f) (hs : s.size ≤ 122) (hu : Below w0.heap.size w0 u) (H : ShwV w0.heap.size b h v (strCells s) u) :
    Calls Tryd.prog 91 #[.pointer (some ⟨b, 0, none⟩), (wdOf t).val] u fun e w' => ShDone w0.heap.size b h s (showF l (f + 1) false t) (f + 1) u e w' := by
  have hlt := H.lt
  have hF : ∀ f, Fence.wide.fn f := fun _ => trivial
  have hmx : Tryd.prog.follows .mixedOrders = true := by kernel_rfl
  obtain ⟨XX, hXX⟩ : ∃ XX, XX = s.data.toList ++ showF l (f + 1) false t := ⟨_, rfl⟩
  have HX0 : Hid (Cut120 (s.data.toList ++ toC l f true t) XX) := by
    rw [hXX, showF_pair h5]
    unfold toC
    rw [if_pos h5]
    exact Cut120.refl _
  have HFin : Hid (∀ (e : Ending) w', (e = .returned (.tuple #[]) ∧ ∃ v' s', ShwV w0.heap.size b h v' (strCells s') w' ∧ Cut120 s'.data.toList XX ∧ s'.size ≤ max s.size 122 + 100 * (f + 1) ∧ Kq w0.heap.size (Ms b) u w') → ShDone w0.heap.size b h s (showF l (f + 1) false t) (f + 1) u e w') := fun e w' hh => by
    unfold ShDone; rw [← hXX]; exact hh
  generalize hpost : ShDone w0.heap.size b h s (showF l (f + 1) false t) (f + 1) u = POST at HFin ⊢
  clear hpost hXX
  obtain ⟨W1, hW1⟩ : ∃ W1, W1 = (u.alloc (.cells #[.pointer (some ⟨b, 0, none⟩)] 138)).alloc (.cells #[.int .u8 (wdOf t).tag, .int .u64 (wdOf t).rest] 74) := ⟨_, rfl⟩
  have HW1 : Hid (W1 = (u.alloc (.cells #[.pointer (some ⟨b, 0, none⟩)] 138)).alloc (.cells #[.int .u8 (wdOf t).tag, .int .u64 (wdOf t).rest] 74)) := hW1
  have zW1 : W1.heap.size = u.heap.size + 2 := by rw [hW1]; simp
  have HB1 : Hid (Below u.heap.size u W1) := by rw [hW1]; exact ((Below.refl _ _).alloc (Nat.le_refl _) _).alloc (by simp) _
  have HP1 : Hid (W1.heap[u.heap.size]? = some (.cells #[.pointer (some ⟨b, 0, none⟩)] 138 (0, 0)) ∧ W1.heap[u.heap.size + 1]? = some (.cells #[.int .u8 (wdOf t).tag, .int .u64 (wdOf t).rest] 74 (0, 0))) := by
    rw [hW1]
    exact ⟨by rw [Below.heap_alloc _ _ _ (by simp), heap_alloc_new], by exact heap_new' _ _ _ (by simp)⟩
  have HSh : Hid (ShwV w0.heap.size b h v (strCells s) u) := H
  have HU : Hid (Below w0.heap.size w0 u) := hu
  have hn : w0.heap.size ≤ u.heap.size := hu.size
  clear H hW1 hu
  refine (callsIn_wide (n := 10)).1 ?_
  refine callsIn_of_wp_marks Tryd.func91 rfl trivial ?_ rfl
  simp only [Tryd.ntmps91, List.size_toArray, List.length_cons, List.length_nil, Nat.reduceAdd, Nat.reduceSub, Array.replicate_succ, Array.replicate_zero, List.push_toArray, List.append_toArray, List.nil_append, List.cons_append]
  gi_wp2_with fail
  rw [← HW1.out]
  refine (wpIn_wide).2 ?_
  refine wp_region_factsP (by kernel_rfl) 4 (fun i => if i = 1 then 1 else 0) 1 (fun p q => SpB W1 p q) (fun q r => SpG W1.heap.size q r) (fun i a u => match i with | 0 => (fun a q => a = (wdOf t).val) a u | 1 => (fun a q => ∃ (pa : Nat) (y : ByteArray), a = .pointer (some ⟨pa, 0, none⟩) ∧ StB W1.heap.size q pa y) a u | 2 => (fun a q => ∃ pr : Nat, a = .pointer (some ⟨pr, 0, none⟩) ∧ W1.heap.size ≤ pr ∧ q.heap[pr]? = some (.cells #[.int .u8 0, .int .u64 0] 74 (0, 0))) a u | 3 => (fun _ q => ∃ pa : Nat, StB W1.heap.size q pa ⟨#[40]⟩) a u | _ => True) (by kernel_rfl) (by kernel_rfl) [0, 1, 2, 3] (by kernel_rfl) ?b0 ?fk ⟨?s0, ?s1, ?s2, ?s3, trivial⟩ _ rfl [(0, some 7), (1, some 4), (2, some 5), (3, none)] (by kernel_rfl) ?last
  case b0 => exact ⟨(Below.refl _ _).drew, fun _ _ _ hq => absurd (Array.getElem?_eq_some_iff.1 hq.2).1 (Nat.not_lt.2 hq.1), fun _ _ _ _ hq _ => absurd (Array.getElem?_eq_some_iff.1 hq.2).1 (Nat.not_lt.2 hq.1)⟩
  case fk => intro i a u u' h hb; match i, h with | 0, h => exact (h) | 1, h => exact (let ⟨pa, y, e, h1⟩ := h; (hb.2.1 pa y h1).elim (fun h2 => ⟨pa, y, e, h2⟩) (fun h2 => ⟨pa, _, e, h2⟩)) | 2, h => exact (let ⟨pr, e, h1, h2⟩ := h; ⟨pr, e, h1, (hb.2.2 pr _ h1 h2).trans h2⟩) | 3, h => exact (let ⟨pa, h1⟩ := h; (hb.2.1 pa _ h1).elim (fun h2 => ⟨pa, h2⟩) (fun h2 => ⟨pa, h2⟩)) | _ + 4, _ => exact trivial
  case s0 =>
    refine StepP.of rfl [] (by kernel_rfl) 0 (by rfl) ?_
    intro vs q9 p hp hB hf K hK
    clear hf
    simp only [putsA, List.foldl_nil, Act.put, List.setIfInBounds_toArray] at hK ⊢
    rw [if_pos (by rfl)]
    have c0 := cell_keep hB.1 (two_cellsS HP1.out.2).1
    have c1 := cell_keep hB.1 (two_cellsS HP1.out.2).2.1
    go_simp
    exact hK.out _ _ ⟨hB.1, hB.2.1, hB.2.2⟩ (SpG.of_below (Below.refl _ _) hB.1.size) rfl
  case s1 =>
    refine StepP.of rfl [] (by kernel_rfl) 1 (by rfl) ?_
    intro vs q9 p hp hB hf K hK
    clear hf
    simp only [putsA, List.foldl_nil, Act.put, List.setIfInBounds_toArray] at hK ⊢
    rw [if_pos (by rfl)]
    have hp0 : p = 0 := by omega
    go_simp
    refine hK.out _ _ ⟨hB.1.alloc hB.1.size _, fun e => by omega, fun q1 s1 q2 s2 h1 h2 => ?_⟩ (SpG.of_below ((Below.refl _ _).alloc (Nat.le_refl _) _) hB.1.size) ⟨q9.heap.size, _, rfl, hB.1.size, heap_alloc_new _ _⟩
    rcases heap_snd h1.2 with e1 | ⟨e1, _⟩
    · exact absurd ⟨h1.1, e1⟩ (hB.2.1 hp0 q1 s1)
    · rcases heap_snd h2.2 with e2 | ⟨e2, _⟩
      · exact absurd ⟨h2.1, e2⟩ (hB.2.1 hp0 q2 s2)
      · rw [e1, e2]
  case s2 =>
    refine StepP.of rfl [] (by kernel_rfl) 0 (by rfl) ?_
    intro vs q9 p hp hB hf K hK
    clear hf
    simp only [putsA, List.foldl_nil, Act.put, List.setIfInBounds_toArray] at hK ⊢
    rw [if_pos (by rfl)]
    go_simp
    have key : ∀ q1 s1, StB W1.heap.size (q9.alloc (.cells #[.int .u8 0, .int .u64 0] 74)) q1 s1 → StB W1.heap.size q9 q1 s1 := fun q1 s1 h1 => by
      rcases heap_snd h1.2 with e1 | ⟨_, e1⟩
      · exact ⟨h1.1, e1⟩
      · injection e1 with _ e3; exact absurd e3 (by decide)
    exact hK.out _ _ ⟨hB.1.alloc hB.1.size _, fun e q1 s1 h1 => hB.2.1 e q1 s1 (key q1 s1 h1), fun q1 s1 q2 s2 h1 h2 => hB.2.2 q1 s1 q2 s2 (key _ _ h1) (key _ _ h2)⟩ (SpG.of_below ((Below.refl _ _).alloc (Nat.le_refl _) _) hB.1.size) ⟨_, rfl, hB.1.size, heap_alloc_new _ _⟩
  case s3 =>
    refine StepP.of rfl [(1, some 4), (2, some 5)] (by kernel_rfl) 0 (by rfl) ?_
    intro vs q9 p hp hB hf K hK
    have f1 : (fun a q => ∃ (pa : Nat) (y : ByteArray), a = .pointer (some ⟨pa, 0, none⟩) ∧ StB W1.heap.size q pa y) (vs 1) q9 := hf.1
    have f2 : (fun a q => ∃ pr : Nat, a = .pointer (some ⟨pr, 0, none⟩) ∧ W1.heap.size ≤ pr ∧ q.heap[pr]? = some (.cells #[.int .u8 0, .int .u64 0] 74 (0, 0))) (vs 2) q9 := hf.2.1
    clear hf
    simp only [putsA, List.foldl_cons, List.foldl_nil, Act.put, List.setIfInBounds_toArray, List.set_cons_zero, List.set_cons_succ] at hK ⊢
    generalize vs 1 = v1 at f1 hK ⊢
    generalize vs 2 = v2 at f2 hK ⊢
    rw [if_pos (by rfl)]
    obtain ⟨pa, y, rfl, hpa⟩ := f1
    clear f2
    have c0 := (one_cellS hpa.2).1
    have cf := (one_cellS hpa.2).2
    go_simp
    have hse := heap_setCell_same q9 pa 0 _ _ (.string ⟨#[40]⟩) hpa.2
    have hso : ∀ q, q ≠ pa → (q9.setCell ⟨pa, 0, none⟩ (.string ⟨#[40]⟩)).heap[q]? = q9.heap[q]? := fun q hq => heap_setCell_other _ _ _ _ hq
    have key : ∀ q1 s1, StB W1.heap.size (q9.setCell ⟨pa, 0, none⟩ (.string ⟨#[40]⟩)) q1 s1 → ∃ s2, StB W1.heap.size q9 q1 s2 := fun q1 s1 h1 => by
      by_cases e : q1 = pa
      · subst e; exact ⟨y, hpa⟩
      · exact ⟨s1, h1.1, (hso q1 e).symm.trans h1.2⟩
    refine hK.out undef _ ⟨hB.1.setCell hpa.1 _, fun e q1 s1 h1 => ?_, fun q1 s1 q2 s2 h1 h2 => ?_⟩ ⟨(Below.refl _ _).setCell hpa.1 _, fun q1 s1 h1 => ?_, fun q1 cs hq hc => hso q1 (fun e => ?_)⟩ ⟨pa, hpa.1, hse⟩
    · obtain ⟨s2, h2⟩ := key q1 s1 h1; exact hB.2.1 e q1 s2 h2
    · obtain ⟨s3, h3⟩ := key q1 s1 h1; obtain ⟨s4, h4⟩ := key q2 s2 h2; exact hB.2.2 q1 s3 q2 s4 h3 h4
    · by_cases e : q1 = pa
      · subst e; exact .inr ⟨h1.1, hse⟩
      · exact .inl ⟨h1.1, (hso q1 e).trans h1.2⟩
    · subst e; rw [hpa.2] at hc; injection hc with hc; injection hc with _ hc; exact absurd hc (by decide)
  case last =>
    intro vs u9 p hp hB hf K hK
    have f0 : (fun a q => a = (wdOf t).val) (vs 0) u9 := hf.1
    have f1 : (fun a q => ∃ (pa : Nat) (y : ByteArray), a = .pointer (some ⟨pa, 0, none⟩) ∧ StB W1.heap.size q pa y) (vs 1) u9 := hf.2.1
    have f2 : (fun a q => ∃ pr : Nat, a = .pointer (some ⟨pr, 0, none⟩) ∧ W1.heap.size ≤ pr ∧ q.heap[pr]? = some (.cells #[.int .u8 0, .int .u64 0] 74 (0, 0))) (vs 2) u9 := hf.2.2.1
    have f3 : (fun _ q => ∃ pa : Nat, StB W1.heap.size q pa ⟨#[40]⟩) (vs 3) u9 := hf.2.2.2.1
    clear hf
    simp only [putsA, List.foldl_cons, List.foldl_nil, Act.put, List.setIfInBounds_toArray, List.set_cons_zero, List.set_cons_succ]
    generalize vs 0 = v0 at f0 ⊢
    generalize vs 1 = v1 at f1 ⊢
    generalize vs 2 = v2 at f2 ⊢
    generalize vs 3 = v3 at f3 ⊢
    rw [if_pos (by rfl)]
    subst f0
    obtain ⟨pa, y, rfl, hpa⟩ := f1
    obtain ⟨pr, rfl, hpr, hprb⟩ := f2
    obtain ⟨pa', hpa'⟩ := f3
    obtain rfl : pa = pa' := hB.2.2 _ _ _ _ hpa hpa'
    have r0 := (two_cellsS hprb).1
    have r1 := (two_cellsS hprb).2.1
    have rf := (two_cellsS hprb).2.2
    have HBu : Hid (Below W1.heap.size W1 u9) := hB.1
    clear hpa hB
    go_simp
    refine hK.out _ _ ?_
    clear hK r0 r1 rf
    obtain ⟨V, hV⟩ : ∃ V, V = (u9.setCell ⟨pr, 0, none⟩ (.int .u8 (wdOf t).tag)).setCell ⟨pr, 1, none⟩ (.int .u64 (wdOf t).rest) := ⟨_, rfl⟩
    rw [← hV]
    have hne : pa ≠ pr := fun e => by have h1 := hpa'.2; rw [e, hprb] at h1; injection h1 with h1; injection h1 with _ h1; exact absurd h1 (by decide)
    have sv1 := heap_setCell_same u9 pr 0 _ _ (.int .u8 (wdOf t).tag) hprb
    have sv2 := heap_setCell_same _ pr 1 _ _ (.int .u64 (wdOf t).rest) sv1
    have HVo : Hid (∀ q, q ≠ pr → V.heap[q]? = u9.heap[q]?) := fun q hq => by rw [hV]; exact (heap_setCell_other _ _ _ _ hq).trans (heap_setCell_other _ _ _ _ hq)
    have HVr : Hid (V.heap[pr]? = some (.cells #[.int .u8 (wdOf t).tag, .int .u64 (wdOf t).rest] 74 (0, 0))) := by rw [hV]; exact sv2
    have HVa : Hid (V.heap[pa]? = some (.cells #[.string ⟨#[40]⟩] 9 (0, 0))) := (HVo.out pa hne).trans hpa'.2
    have HBV : Hid (Below W1.heap.size W1 V) := by rw [hV]; exact (HBu.out.setCell hpr _).setCell hpr _
    have hpa1 : W1.heap.size ≤ pa := hpa'.1
    have HVp : Hid (V.heap[u.heap.size]? = some (.cells #[.pointer (some ⟨b, 0, none⟩)] 138 (0, 0)) ∧ V.heap[u.heap.size + 1]? = some (.cells #[.int .u8 (wdOf t).tag, .int .u64 (wdOf t).rest] 74 (0, 0))) := ⟨(HBV.out.block _ (by omega)).trans HP1.out.1, (HBV.out.block _ (by omega)).trans HP1.out.2⟩
    have HuV : Hid (Below u.heap.size u V) := HB1.out.trans (HBV.out.mono (by omega))
    have HSV : Hid (ShwV w0.heap.size b h v (strCells s) V) := HSh.out.below HuV.out
    clear hV sv1 sv2 hpa' hprb HBu HVo HBV
    gi_wp2_with fail
    refine (wpIn_wide).2 ?_
    refine wp_region_facts (by kernel_rfl) 5 (fun q => Below V.heap.size V q) (fun u v => Below u.heap.size u v) (fun i a u => match i with | 0 => (fun a q => a = Value.pointer (some ⟨b, 0, none⟩)) a u | 1 => (fun a q => a = Value.pointer (some ⟨b, 0, none⟩)) a u | 2 => (fun a q => a = Value.pointer (some ⟨b, 0, none⟩)) a u | 3 => (fun a q => a = Value.pointer (some ⟨h, 0, none⟩)) a u | 4 => (fun a q => a = (wdOf t).val) a u | _ => True) (by kernel_rfl) [0, 1, 2, 3, 4] (by kernel_rfl) ?b0 ?bk ?fk ⟨?s0, ?s1, ?s2, ?s3, ?s4, trivial⟩ _ rfl [(0, some 8), (1, some 9), (2, some 10), (3, some 11), (4, some 12)] (by kernel_rfl) ?last
    case b0 => exact Below.drew (Below.refl _ _)
    case bk => exact fun u v h hb => h.trans (hb.mono h.size)
    case fk => intro i a u u' h hb; match i, h with | 0, h => exact (h) | 1, h => exact (h) | 2, h => exact (h) | 3, h => exact (h) | 4, h => exact (h) | _ + 5, _ => exact trivial
    case s0 =>
      refine StepF.of rfl [] (by kernel_rfl) ?_
      intro vs q8 hB hf K hK
      clear hf
      simp only [putsA, List.foldl_nil, Act.put, List.setIfInBounds_toArray] at hK ⊢
      rw [if_pos (by rfl)]
      have c0 := cell_keep hB (one_cellS HVp.out.1).1
      go_simp
      exact hK.out _ _ (Below.refl _ _) rfl
    case s1 =>
      refine StepF.of rfl [(0, some 8)] (by kernel_rfl) ?_
      intro vs q8 hB hf K hK
      have f0 : (fun a q => a = Value.pointer (some ⟨b, 0, none⟩)) (vs 0) q8 := hf.1
      clear hf
      simp only [putsA, List.foldl_cons, List.foldl_nil, Act.put, List.setIfInBounds_toArray, List.set_cons_zero, List.set_cons_succ] at hK ⊢
      generalize vs 0 = v0 at f0 hK ⊢
      rw [if_pos (by rfl)]
      subst f0
      go_simp
      exact hK.out _ _ (Below.refl _ _) rfl
    case s2 =>
      refine StepF.of rfl [(1, some 9)] (by kernel_rfl) ?_
      intro vs q8 hB hf K hK
      have f1 : (fun a q => a = Value.pointer (some ⟨b, 0, none⟩)) (vs 1) q8 := hf.1
      clear hf
      simp only [putsA, List.foldl_cons, List.foldl_nil, Act.put, List.setIfInBounds_toArray, List.set_cons_zero, List.set_cons_succ] at hK ⊢
      generalize vs 1 = v1 at f1 hK ⊢
      rw [if_pos (by rfl)]
      subst f1
      go_simp
      exact hK.out _ _ (Below.refl _ _) rfl
    case s3 =>
      refine StepF.of rfl [(2, some 10)] (by kernel_rfl) ?_
      intro vs q8 hB hf K hK
      have f2 : (fun a q => a = Value.pointer (some ⟨b, 0, none⟩)) (vs 2) q8 := hf.1
      clear hf
      simp only [putsA, List.foldl_cons, List.foldl_nil, Act.put, List.setIfInBounds_toArray, List.set_cons_zero, List.set_cons_succ] at hK ⊢
      generalize vs 2 = v2 at f2 hK ⊢
      rw [if_pos (by rfl)]
      subst f2
      have c0 := cell_keep hB (two_cellsS HSV.out.2.1).1
      go_simp
      exact hK.out _ _ (Below.refl _ _) rfl
    case s4 =>
      refine StepF.of rfl [] (by kernel_rfl) ?_
      intro vs q8 hB hf K hK
      clear hf
      simp only [putsA, List.foldl_nil, Act.put, List.setIfInBounds_toArray] at hK ⊢
      rw [if_pos (by rfl)]
      have c0 := cell_keep hB (two_cellsS HVp.out.2).1
      have c1 := cell_keep hB (two_cellsS HVp.out.2).2.1
      go_simp
      exact hK.out _ _ (Below.refl _ _) rfl
    case last =>
      intro vs u8 hB hf K hK
      have f0 : (fun a q => a = Value.pointer (some ⟨b, 0, none⟩)) (vs 0) u8 := hf.1
      have f1 : (fun a q => a = Value.pointer (some ⟨b, 0, none⟩)) (vs 1) u8 := hf.2.1
      have f2 : (fun a q => a = Value.pointer (some ⟨b, 0, none⟩)) (vs 2) u8 := hf.2.2.1
      have f3 : (fun a q => a = Value.pointer (some ⟨h, 0, none⟩)) (vs 3) u8 := hf.2.2.2.1
      have f4 : (fun a q => a = (wdOf t).val) (vs 4) u8 := hf.2.2.2.2.1
      clear hf
      simp only [putsA, List.foldl_cons, List.foldl_nil, Act.put, List.setIfInBounds_toArray, List.set_cons_zero, List.set_cons_succ]
      generalize vs 0 = v0 at f0 ⊢
      generalize vs 1 = v1 at f1 ⊢
      generalize vs 2 = v2 at f2 ⊢
      generalize vs 3 = v3 at f3 ⊢
      generalize vs 4 = v4 at f4 ⊢
      rw [if_pos (by rfl)]
      subst f3 f4
      clear f0 f1 f2
      have HBY : Hid (Below V.heap.size V u8) := hB
      clear hB
      go_simp
      refine (cellsFromS_any _ (wdOf t) _).mono ?_
      rintro e wz ⟨rfl, hwz⟩
      replace hwz := hwz.symm
      refine hK.out _ _ ?_
      clear hK
      obtain ⟨Y, hY⟩ : ∃ Y, Y = wz := ⟨_, rfl⟩
      rw [← hY]
      have hYz := hwz.trans hY.symm
      clear hY hwz
      gi_wp2_with fail
      have zY : Y.heap.size = u8.heap.size + 2 := by rw [← hYz]; simp
      have hV8 := HBY.out.size
      have HVY : Hid (Below V.heap.size V Y) := by rw [← hYz]; exact (HBY.out.alloc hV8 _).alloc (by simp; omega) _
      have qh : Y.heap[u8.heap.size]? = some (.cells #[.pointer (some ⟨h, 0, none⟩)] 66 (0, 0)) := by rw [← hYz, Below.heap_alloc _ _ _ (by simp), heap_alloc_new]
      have qw : Y.heap[u8.heap.size + 1]? = some (.cells #[.int .u8 (wdOf t).tag, .int .u64 (wdOf t).rest] 74 (0, 0)) := by rw [← hYz]; exact heap_new' _ _ _ (by simp)
      clear hYz
      have hla := (Array.getElem?_eq_some_iff.1 HVa.out).1
      have hlr := (Array.getElem?_eq_some_iff.1 HVr.out).1
      have hlp := (Array.getElem?_eq_some_iff.1 HVp.out.1).1
      have HuY : Hid (Below u.heap.size u Y) := HuV.out.trans (HVY.out.mono HuV.out.size)
      have hbu : b < u.heap.size := hlt
      have I0 : SpI w0.heap.size u b h u.heap.size pa pr u8.heap.size l t XX f (max s.size 122 + 100 * (f - 1)) 0 Y := ⟨(HVY.out.block _ hlp).trans HVp.out.1, (HVY.out.block _ hla).trans HVa.out, (HVY.out.block _ hlr).trans HVr.out, qh, ⟨v, s, f, HSV.out.below HVY.out, Nat.le_refl _, fun _ => hnd, HX0.out, by omega⟩, kq_ms HuY.out hn hlt⟩
      have xw : WBox (u8.heap.size + 1) (wdOf t) Y := ⟨(two_cellsS qw).1, (two_cellsS qw).2.1, (two_cellsS qw).2.2⟩
      have hnY : w0.heap.size ≤ Y.heap.size := by omega
      have hlen : bs.length = l.length := by rw [HKK.len, wordsP_len]
      have hbks : ∀ (k : Nat) (hk : k < bs.length), bs[k] < w0.heap.size := fun k hk => lt_of_cell (HKK.each k hk (by rw [wordsP_len]; omega)).c0
      clear qw HVr HVa HVp HSV HBY
      refine range_L (by decide) rfl (fun _ _ => rfl) (Msp b pa pr) (fun q => q = u8.heap.size) (cells_seqL l t hh hah w0.heap.size B h (u8.heap.size + 1) u8.heap.size vq bs Y (fun q hq => HKK.keep ((HU.out.trans (HuY.out.mono hn)).trans hq)) hnY xw (one_cellS qh).1 _ _ rfl hbks) (Below.refl _ _) hnY (fun _ => rfl)
        (fun pre W => SpI w0.heap.size u b h u.heap.size pa pr u8.heap.size l t XX f (max s.size 122 + 100 * (f - 1)) pre.length W) (fun W => SpE w0.heap.size u b h XX (max s.size 122 + 100 * (f - 1)) W) ?hE (spi_own _ _ _ _ _ _ _ _ _ _ _ _ _ _ (by omega) (by omega) (by omega) hlt) ?hN I0
        (fun x a' _ => a' = actP b u.heap.size (u.heap.size + 1) pa pr h (u8.heap.size + 1) u8.heap.size (wdOf t).val (.pointer (some ⟨bs.getD x 0, 0, none⟩)) (.pointer (some ⟨bs.getD x 0, 0, none⟩)) v0 v1 v2) (fun _ _ _ _ _ _ h _ _ _ => h) ?assign ?body ?done ?stop
      case hE =>
        rintro W o o' ⟨⟨v9, s9, S9, h1, h2⟩, h3⟩ ho hc
        obtain ⟨g1, g2⟩ := sp_put S9 h3 ho hc (by omega) hn o'
        exact ⟨⟨v9, s9, g1, h1, h2⟩, g2⟩
      case hN =>
        rintro pre W H q rfl hm
        obtain ⟨v9, s9, j9, S9, _⟩ := H.sh
        rcases hm with hm | hm | hm
        · exact S9.not H.nb (by decide) (by decide) hm
        · omega
        · omega
      case assign =>
        rintro l' pre x X K hI _ _ hK
        gi_wp2
        exact hK _ _ (Kq.refl _ _ _) hI rfl
      case body =>
        rintro l' pre k a' X hI rfl hpx hs2
        obtain ⟨hkl, hpre, hk5, hnum, hgo, hhd⟩ := idx_step hh hah hpx
        have hFr : ∀ f, (Fence.wide.inRound l').fn f := fun _ => trivial
        obtain ⟨i, hi⟩ : ∃ i, i = pre.length := ⟨_, rfl⟩
        rw [← hi] at hI hk5 hnum hgo
        have HJ : Hid ((pre ++ [k]).length = i + 1) := by show _ = _; rw [List.length_append, ← hi]; rfl
        obtain ⟨v1', s1, j1, S1, hj1, hneed, hcut, hsz⟩ := hI.sh
        have hne1 := hneed hk5
        obtain ⟨j0, rfl⟩ : ∃ j0, j1 = j0 + 1 := ⟨j1 - 1, by unfold needF at hne1; simp only at hne1; omega⟩
        have ek : (goV l i t).num.toNat = k := by omega
        obtain ⟨p, hp⟩ : ∃ p, p = l[k]'hkl := ⟨_, rfl⟩
        have hkl' : (goV l i t).num.toNat < l.length := by omega
        have ep : l[(goV l i t).num.toNat]'hkl' = p := by rw [hp]; congr 1
        have hhead : needF false p.head ≤ j0 := by have := need_head hh hkl' hne1; rwa [ep] at this
        have htail : p.tail.kind = 5 → needF true p.tail ≤ j0 := fun h5' => by have := need_tail hh hkl' hne1 (by rw [ep]; exact h5'); rwa [ep] at this
        have hstep := toC_step (l := l) (j := j0) (k := k) (i == 0) hkl hk5 hnum
        have hph := pair_ahead hh k hkl
        rw [← hp] at hstep hgo hph
        have hahh : aheadV l.length p.head := hph.1.mono (by omega)
        obtain ⟨A, hA⟩ : ∃ A : ByteArray, A = (if i = 0 then ⟨#[40]⟩ else ⟨#[32]⟩) := ⟨_, rfl⟩
        have hAl : A.data.toList = if (i == 0) = true then [40] else [32] := by rw [hA]; by_cases e : i = 0 <;> simp [e]
        have hAs : A.size = 1 := by rw [hA]; by_cases e : i = 0 <;> simp [e] <;> rfl
        have hab := hI.ab
        rw [← hA] at hab
        obtain ⟨s2', hs2'⟩ : ∃ s2' : ByteArray, s2' = ⟨(s1.data.toList ++ A.data.toList).toArray⟩ := ⟨_, rfl⟩
        have hz2 : s2'.size = s1.size + 1 := by rw [hs2', size_app, hAs]
        have HCut : Hid (∀ s3 : ByteArray, Cut120 s3.data.toList (s2'.data.toList ++ showF l j0 false p.head) → Cut120 (s3.data.toList ++ toC l j0 false p.tail) XX) := fun s3 h3 => (h3.app _).trans (by
          rw [hstep] at hcut
          rw [hs2']
          simp only [hAl, List.append_assoc]
          exact hcut)
        have HFull : Hid (120 ≤ s1.size → SpE w0.heap.size u b h XX (max s.size 122 + 100 * (f - 1)) X) := fun h120 => ⟨⟨v1', s1, S1, (Cut120.full (by rw [size_list]; exact h120) _).trans hcut, hsz⟩, hI.kq⟩
        have hkb : k < bs.length := by omega
        have hgd : bs.getD k 0 = bs[k] := by simp [hkb]
        have hca : CellAt bs[k] (wdOf p.head, wdOf p.tail) X := by
          have hkw : k < (wordsP l).length := by rw [wordsP_len]; exact hkl
          have e1 : (wordsP l)[k]'hkw = (wdOf p.head, wdOf p.tail) := by rw [hp]; simp [wordsP]
          have := (HKK.keep (HU.out.trans hI.kq.1)).each k hkb hkw
          rwa [e1] at this
        have hbk := hbks k hkb
        have HIH : Hid (∀ (v2 : Value) (W : World), Below w0.heap.size w0 W → ShwV w0.heap.size b h v2 (strCells s2') W → s2'.size ≤ 122 → Calls Tryd.prog 64 #[.pointer (some ⟨b, 0, none⟩), .agg #[.int .u8 (wdOf p.head).tag, .int .u64 (wdOf p.head).rest]] W fun e w' => ShDone w0.heap.size b h s2' (showF l j0 false p.head) j0 W e w') := fun v2 W h1 h2 h3 => IH j0 (by omega) p.head b v2 s2' W hahh hhead h3 h1 h2
        have HI : Hid (SpI w0.heap.size u b h u.heap.size pa pr u8.heap.size l t XX f (max s.size 122 + 100 * (f - 1)) i X) := hI
        have HS1 : Hid (ShwV w0.heap.size b h v1' (strCells s1) X) := S1
        have HW0 : Hid (Below w0.heap.size w0 X) := HU.out.trans hI.kq.1
        have cp := one_cellS hI.pb
        have ca := one_cellS hab
        have cr := two_cellsS hI.rb
        have lp := (Array.getElem?_eq_some_iff.1 hI.pb).1
        have la := (Array.getElem?_eq_some_iff.1 hI.ab).1
        have lr := (Array.getElem?_eq_some_iff.1 hI.rb).1
        have hXs : w0.heap.size ≤ X.heap.size := HW0.out.size
        have HNp : Hid (¬ Ms b X u.heap.size ∧ ¬ Ms b X pa ∧ ¬ Ms b X pr) := ⟨S1.not hI.pb (by decide) (by decide), S1.not hab (by decide) (by decide), S1.not hI.rb (by decide) (by decide)⟩
        have HG : Hid (goV l (i + 1) t = p.tail ∧ j0 + 1 ≤ f ∧ (p.tail.kind = 5 → needF true p.tail ≤ j0)) := ⟨hgo, by omega, htail⟩
        have hsl : (strCells s1).length = s1.size := strCells_length s1
        have HFl : Hid (Calls Tryd.prog 103 #[.pointer (some ⟨b, 0, none⟩)] X fun e w' => e = .returned (.bool (decide (120 ≤ s1.size))) ∧ w' = X) := by
          have := isFull_any w0.heap.size b h v1' (strCells s1) X S1 (by rw [hsl]; omega)
          rwa [hsl] at this
        have HWr : Hid (Calls Tryd.prog 92 #[.pointer (some ⟨b, 0, none⟩), .string A] X fun e w' => e = .returned (.tuple #[]) ∧ ∃ v', ShwV w0.heap.size b h v' (strCells s2') w' ∧ Kq w0.heap.size (Ms b) X w') := by
          rw [hs2']
          exact swrite_s w0.heap.size b h v1' s1 A X S1 (by omega) hXs
        rw [hgd]
        generalize bs[k] = bk at hca hbk
        obtain ⟨d0, d1, d2, d3⟩ := hca
        simp only at d0 d1 d2 d3
        have cp0 := cp.1
        have ca0 := ca.1
        clear hgo hhd hk5 hnum hpre hi hp hpx hgd hcut hstep hneed hne1 hI S1 hph hahh hab hA hAl hs2' cp ca cr hsl hhead htail ek ep
        by_cases h120 : 120 ≤ s1.size
        · have hd : decide (120 ≤ s1.size) = true := by simpa using h120
          rw [hd] at HFl
          gi_wp2_with (gi_at_call 103; refine (((callsIn_wide (n := 10 - 1 - 1 - 1)).2 HFl.out).inRound l').mono ?_; rintro r X' ⟨rfl, e'⟩; replace e' := e'.symm; subst e')
          exact ⟨Kq.refl _ _ _, HFull.out h120⟩
        have hd : decide (120 ≤ s1.size) = false := by simpa using h120
        rw [hd] at HFl
        gi_wp2_with (gi_at_call 103; refine (((callsIn_wide (n := 10 - 1 - 1 - 1)).2 HFl.out).inRound l').mono ?_; rintro r X' ⟨rfl, e'⟩; replace e' := e'.symm; subst e')
        refine (((callsIn_wide (n := 10 - 1 - 1 - 1)).2 HWr.out).inRound l').mono ?_
        rintro r X1 ⟨rfl, v2', S2, k2⟩
        have HCP : Hid (X.cell? ⟨u.heap.size, 0, none⟩ = some (.pointer (some ⟨b, 0, none⟩))) := cp0
        have HD0 : Hid (X.cell? ⟨bk, 0, none⟩ = some (.int .u8 (wdOf p.head).tag) ∧ X.cell? ⟨bk, 1, none⟩ = some (.int .u64 (wdOf p.head).rest)) := ⟨d0, d1⟩
        have HS2 : Hid (ShwV w0.heap.size b h v2' (strCells s2') X1) := S2
        have HK2 : Hid (Kq w0.heap.size (Ms b) X X1) := k2
        have e0 : X1.cell? ⟨u.heap.size, 0, none⟩ = some (.pointer (some ⟨b, 0, none⟩)) := (k2.cell lp HNp.out.1).trans cp0
        have e1 : X1.cell? ⟨bk, 0, none⟩ = some (.int .u8 (wdOf p.head).tag) := (k2.1.cell (p := ⟨bk, 0, none⟩) hbk).trans d0
        have e2 : X1.cell? ⟨bk, 1, none⟩ = some (.int .u64 (wdOf p.head).rest) := (k2.1.cell (p := ⟨bk, 1, none⟩) hbk).trans d1
        clear S2 k2 HFl HWr HFull cp0 ca0 d0 d1
        have hS0 : (fun q : World => q.cell? ⟨u.heap.size, 0, none⟩ = some (.pointer (some ⟨b, 0, none⟩)) ∧ q.cell? ⟨bk, 0, none⟩ = some (.int .u8 (wdOf p.head).tag) ∧ q.cell? ⟨bk, 1, none⟩ = some (.int .u64 (wdOf p.head).rest)) X1.drew := ⟨e0, e1, e2⟩
        gi_wp2_with fail
        refine region_anyH (z := 5) (S := fun q : World => q.cell? ⟨u.heap.size, 0, none⟩ = some (.pointer (some ⟨b, 0, none⟩)) ∧ q.cell? ⟨bk, 0, none⟩ = some (.int .u8 (wdOf p.head).tag) ∧ q.cell? ⟨bk, 1, none⟩ = some (.int .u64 (wdOf p.head).rest)) hmx ?_
        refine anyH_take hFr (by kernel_rfl) (i := 0) (v := ?_) (d := some 20) (by kernel_rfl) rfl rfl (by kernel_rfl) (by kernel_rfl) (by kernel_rfl) (fun _ _ _ h => h) hS0 (Or.inl ⟨by rfl, fun w hSw => ?_⟩) ?_
        rotate_left
        · obtain ⟨s0, s1, s2⟩ := hSw
          go_simp
          all_goals (try (first | with_reducible rfl | omega))
        try simp only [Act.put]
        try simp only [List.setIfInBounds_toArray]
        try simp only [List.set_cons_zero, List.set_cons_succ]
        refine anyH_one (i := 1) (by kernel_rfl) (op_plain rfl (by rfl) (by simp) ?_)
        go_simp
        try simp only [Act.put]
        try simp only [List.setIfInBounds_toArray]
        try simp only [List.set_cons_zero, List.set_cons_succ]
        refine anyH_one (i := 2) (by kernel_rfl) (op_plain rfl (by rfl) (by simp) ?_)
        go_simp
        try simp only [Act.put]
        try simp only [List.setIfInBounds_toArray]
        try simp only [List.set_cons_zero, List.set_cons_succ]
        refine anyH_one (i := 3) (by kernel_rfl) (op_plain rfl (by rfl) (by simp) ?_)
        go_simp
        try simp only [Act.put]
        try simp only [List.setIfInBounds_toArray]
        try simp only [List.set_cons_zero, List.set_cons_succ]
        refine anyH_one (i := 4) (by kernel_rfl) (op_plain rfl (by rfl) (by simp) ?_)
        go_simp
        try simp only [Act.put]
        try simp only [List.setIfInBounds_toArray]
        try simp only [List.set_cons_zero, List.set_cons_succ]
        refine anyH_one (i := 5) (by kernel_rfl) (op_plain rfl (by rfl) (by simp) ?_)
        go_simp
        have B1 : Below X1.heap.size X1 X1.drew := (Below.refl _ _).drew
        refine (HIH.out v2' _ (HW0.out.trans (HK2.out.1.trans (B1.mono (Nat.le_trans hXs HK2.out.1.size)))) (HS2.out.below B1) (by omega)).mono ?_
        rintro r X3 ⟨rfl, v3', s3, S3, c3, z3, k3⟩
        have HK3 : Hid (Kq w0.heap.size (Ms b) X X3) := HK2.out.trans ((kq_ms B1 (Nat.le_trans hXs HK2.out.1.size) (HS2.out.lt)).trans k3)
        have HS3 : Hid (ShwV w0.heap.size b h v3' (strCells s3) X3) := S3
        have HC3 : Hid (Cut120 (s3.data.toList ++ toC l j0 false p.tail) XX) := HCut.out s3 c3
        have HZ3 : Hid (s3.size ≤ max s2'.size 122 + 100 * j0) := z3
        have hX3 := HK3.out.size
        clear S3 c3 z3 k3
        have hS3 : (fun q : World => q.cell? ⟨u.heap.size, 0, none⟩ = some (.pointer (some ⟨b, 0, none⟩)) ∧ q.cell? ⟨bk, 0, none⟩ = some (.int .u8 (wdOf p.head).tag) ∧ q.cell? ⟨bk, 1, none⟩ = some (.int .u64 (wdOf p.head).rest)) X3 := ⟨(HK3.out.cell lp HNp.out.1).trans HCP.out, (HK3.out.1.cell (p := ⟨bk, 0, none⟩) hbk).trans HD0.out.1, (HK3.out.1.cell (p := ⟨bk, 1, none⟩) hbk).trans HD0.out.2⟩
        simp only
        try simp only [List.setIfInBounds_toArray]
        try simp only [List.set_cons_zero, List.set_cons_succ]
        refine anyH_done (by kernel_rfl) ?_ _
        have f2 : X3.cell? ⟨bk, 2, none⟩ = some (.int .u8 (wdOf p.tail).tag) := (HK3.out.1.cell (p := ⟨bk, 2, none⟩) hbk).trans d2
        have f3 : X3.cell? ⟨bk, 3, none⟩ = some (.int .u64 (wdOf p.tail).rest) := (HK3.out.1.cell (p := ⟨bk, 3, none⟩) hbk).trans d3
        have a3 := one_cellS ((HK3.out.2.1 pa la HNp.out.2.1).trans HI.out.ab)
        have r3 := two_cellsS ((HK3.out.2.1 pr lr HNp.out.2.2).trans HI.out.rb)
        have ga := a3.1
        have gaf := a3.2
        have gr0 := r3.1
        have gr1 := r3.2.1
        have grf := r3.2.2
        have hxa : bk ≠ pa := by omega
        have hxr : bk ≠ pr := by omega
        clear a3 r3 hS3 hS0 e0 e1 e2 d2 d3 B1
        have HNx : Hid (Kq w0.heap.size (Msp b pa pr) X (((X3.drew.setCell ⟨pa, 0, none⟩ (.string ⟨#[32]⟩)).setCell ⟨pr, 0, none⟩ (.int .u8 (wdOf p.tail).tag)).setCell ⟨pr, 1, none⟩ (.int .u64 (wdOf p.tail).rest)) ∧ SpI w0.heap.size u b h u.heap.size pa pr u8.heap.size l t XX f (max s.size 122 + 100 * (f - 1)) (i + 1) (((X3.drew.setCell ⟨pa, 0, none⟩ (.string ⟨#[32]⟩)).setCell ⟨pr, 0, none⟩ (.int .u8 (wdOf p.tail).tag)).setCell ⟨pr, 1, none⟩ (.int .u64 (wdOf p.tail).rest))) := HI.out.next (W4 := X3.drew) (HK3.out.trans (kq_ms (Below.refl _ _).drew (by omega) HS3.out.lt)) (HS3.out.below (Below.refl _ _).drew) p.tail HG.out.1 (Nat.le_of_succ_le HG.out.2.1) HG.out.2.2 HC3.out (by have := HZ3.out; have := HG.out.2.1; omega) hne (by omega) (by omega) hn (by omega) (by omega) (by omega) (by omega) hlt
        have hS0 : (fun q : World => q.cell? ⟨bk, 2, none⟩ = some (.int .u8 (wdOf p.tail).tag) ∧ q.cell? ⟨bk, 3, none⟩ = some (.int .u64 (wdOf p.tail).rest) ∧ True) X3.drew := ⟨f2, f3, trivial⟩
        gi_wp2_with fail
        refine region_anyH (z := 5) (S := fun q : World => q.cell? ⟨bk, 2, none⟩ = some (.int .u8 (wdOf p.tail).tag) ∧ q.cell? ⟨bk, 3, none⟩ = some (.int .u64 (wdOf p.tail).rest) ∧ True) hmx ?_
        refine anyH_take hFr (by kernel_rfl) (i := 0) (v := ?_) (d := some 26) (by kernel_rfl) rfl rfl (by kernel_rfl) (by kernel_rfl) (by kernel_rfl) (fun _ _ _ h => h) hS0 (Or.inl ⟨by rfl, fun w hSw => ?_⟩) ?_
        rotate_left
        · obtain ⟨s0, s1, s2⟩ := hSw
          go_simp
          all_goals (try (first | with_reducible rfl | omega))
        try simp only [Act.put]
        try simp only [List.setIfInBounds_toArray]
        try simp only [List.set_cons_zero, List.set_cons_succ]
        refine anyH_take hFr (by kernel_rfl) (i := 1) (v := ?_) (d := some 27) (by kernel_rfl) rfl rfl (by kernel_rfl) (by kernel_rfl) (by kernel_rfl) (fun _ _ _ h => h) hS0 (Or.inl ⟨by rfl, fun w hSw => ?_⟩) ?_
        rotate_left
        · obtain ⟨s0, s1, s2⟩ := hSw
          go_simp
          all_goals (try (first | with_reducible rfl | omega))
        try simp only [Act.put]
        try simp only [List.setIfInBounds_toArray]
        try simp only [List.set_cons_zero, List.set_cons_succ]
        refine anyH_take hFr (by kernel_rfl) (i := 2) (v := ?_) (d := some 28) (by kernel_rfl) rfl rfl (by kernel_rfl) (by kernel_rfl) (by kernel_rfl) (fun _ _ _ h => h) hS0 (Or.inl ⟨by rfl, fun w hSw => ?_⟩) ?_
        rotate_left
        · obtain ⟨s0, s1, s2⟩ := hSw
          go_simp
          all_goals (try (first | with_reducible rfl | omega))
        try simp only [Act.put]
        try simp only [List.setIfInBounds_toArray]
        try simp only [List.set_cons_zero, List.set_cons_succ]
        refine anyH_take hFr (by kernel_rfl) (i := 3) (v := ?_) (d := some 29) (by kernel_rfl) rfl rfl (by kernel_rfl) (by kernel_rfl) (by kernel_rfl) (fun _ _ _ h => h) hS0 (Or.inl ⟨by rfl, fun w hSw => ?_⟩) ?_
        rotate_left
        · obtain ⟨s0, s1, s2⟩ := hSw
          go_simp
          all_goals (try (first | with_reducible rfl | omega))
        try simp only [Act.put]
        try simp only [List.setIfInBounds_toArray]
        try simp only [List.set_cons_zero, List.set_cons_succ]
        refine anyH_one (i := 4) (by kernel_rfl) (op_plain rfl (by rfl) (by simp) ?_)
        go_simp
        try simp only [Act.put]
        try simp only [List.setIfInBounds_toArray]
        try simp only [List.set_cons_zero, List.set_cons_succ]
        refine anyH_one (i := 5) (by kernel_rfl) (op_plain rfl (by rfl) (by simp) ?_)
        go_simp
        refine anyH_done (by kernel_rfl) ?_ _
        gi_wp2
        exact ⟨HNx.out.1, by show SpI w0.heap.size u b h u.heap.size pa pr u8.heap.size l t XX f (max s.size 122 + 100 * (f - 1)) (pre ++ [k]).length _; rw [HJ.out]; exact HNx.out.2⟩
      case stop =>
        rintro X ⟨⟨v9, s9, S9, h1, h2⟩, h3⟩ hs2 hK
        obtain ⟨g1, g2⟩ := sp_put S9 h3 hK rfl (by omega) hn (.deferred none)
        have HE : Hid (POST (.returned (.tuple #[])) (X.putObj Y.heap.size (.deferred none))) := HFin.out _ _ ⟨rfl, v9, s9, g1, h1, by omega, g2⟩
        clear S9 h1 h2 h3 g1 g2
        gi_wp2
        refine ⟨by simp, .inl ⟨_, _, rfl, run_takeDeferred hK, ?_⟩⟩
        refine ⟨.tuple #[], ?_, HE.out⟩
        simp [results, Tryd.f91, go_sem]
      case done =>
        rintro X hI hs2 hK
        have hf2 : 2 ≤ f := by have := hnd; unfold needF at this; simp only at this; omega
        have hk5 := allI_done hh hah
        obtain ⟨i, hi⟩ : ∃ i, i = (allI l t).length := ⟨_, rfl⟩
        have hI' : SpI w0.heap.size u b h u.heap.size pa pr u8.heap.size l t XX f (max s.size 122 + 100 * (f - 1)) i X := by rw [hi]; exact hI
        rw [← hi] at hk5
        obtain ⟨v1', s1, j1, S1, hj1, _, hcut, hsz⟩ := hI'.sh
        have hvf := (goV_ahead hh i l.length t (Nat.le_refl _) hah).1.1
        obtain ⟨g, hg⟩ : ∃ g, g = goV l i t := ⟨_, rfl⟩
        have hrb := hI'.rb
        rw [← hg] at hk5 hvf hcut hrb
        have HPb : Hid (X.heap[u.heap.size]? = some (.cells #[.pointer (some ⟨b, 0, none⟩)] 138 (0, 0))) := hI'.pb
        have HRb : Hid (X.heap[pr]? = some (.cells #[.int .u8 (wdOf g).tag, .int .u64 (wdOf g).rest] 74 (0, 0))) := hrb
        have HKu : Hid (Kq w0.heap.size (Ms b) u X) := hI'.kq
        have HW0 : Hid (Below w0.heap.size w0 X) := HU.out.trans hI'.kq.1
        have hXs : w0.heap.size ≤ X.heap.size := HW0.out.size
        have HS1 : Hid (ShwV w0.heap.size b h v1' (strCells s1) X) := S1
        have HSz : Hid (s1.size ≤ (max s.size 122 + 100 * (f - 1))) := hsz
        have HNp : Hid (¬ Ms b X u.heap.size ∧ ¬ Ms b X pr) := ⟨S1.not HPb.out (by decide) (by decide), S1.not hrb (by decide) (by decide)⟩
        have lp := (Array.getElem?_eq_some_iff.1 HPb.out).1
        have lr := (Array.getElem?_eq_some_iff.1 HRb.out).1
        have cp0 := (one_cellS HPb.out).1
        have cr0 := (two_cellsS hrb).1
        have cr1 := (two_cellsS hrb).2.1
        have htag := wd_tag hvf
        have HKd : Hid (X.heap[Y.heap.size]? = some (.deferred (some []))) := hK
        have HEnd : Hid (∀ (X9 : World) v9 s9, ShwV w0.heap.size b h v9 (strCells s9) X9 → Kq w0.heap.size (Ms b) X X9 → Cut120 s9.data.toList XX → s9.size ≤ max s.size 122 + 100 * (f + 1) → X9.heap[Y.heap.size]? = some (.deferred (some [])) ∧ POST (.returned (.tuple #[])) (X9.putObj Y.heap.size (.deferred none))) := fun X9 v9 s9 h1 h2 h3 h4 => by
          have hd := sp_def HS1.out h2 HKd.out rfl
          obtain ⟨g1, g2⟩ := sp_put h1 (HKu.out.trans h2) hd rfl (by omega) hn (.deferred none)
          exact ⟨hd, HFin.out _ _ ⟨rfl, v9, s9, g1, h3, h4, g2⟩⟩
        have HCt : Hid (Cut120 (s1.data.toList ++ toC l j1 (i == 0) g) XX) := hcut
        have HLf : Hid (∀ (v9 : Value) (s9 : ByteArray) (W : World), Below w0.heap.size w0 W → s9.size ≤ 10000000 → ShwV w0.heap.size b h v9 (strCells s9) W → Calls Tryd.prog 64 #[.pointer (some ⟨b, 0, none⟩), .agg #[.int .u8 (wdOf g).tag, .int .u64 (wdOf g).rest]] W fun e w' => ShDone w0.heap.size b h s9 (leafV g) 1 W e w') := fun v9 s9 W h1 h2 h3 => by
          have := show_leaf l w0.heap.size b h 0 v9 s9 g W hvf hk5 h2 h3 h1.size (fun q hq => HN g.num q (fine_in hvf) (h1.trans (hq.mono h1.size)))
          rwa [showF_leaf hk5] at this
        clear hI hI' hi hg hcut hrb S1 hsz hvf hK
        by_cases h3 : g.kind = 3
        · have HC3 : Hid (Cut120 (s1.data.toList ++ [41]) XX) := by
            have := HCt.out
            unfold toC at this
            rwa [if_neg hk5, if_pos h3] at this
          rw [htag, h3] at cr0
          clear HCt htag HLf HRb
          gi_wp2_with fail
          refine ((callsIn_wide (n := 10 - 1)).2 (swrite_s w0.heap.size b h v1' s1 ⟨#[41]⟩ X HS1.out (by have := HSz.out; have e : (ByteArray.mk #[41]).size = 1 := rfl; omega) hXs)).mono ?_
          rintro e X1 ⟨rfl, v2', S2, k2⟩
          have HE := HEnd.out X1 v2' _ S2 k2 HC3.out (by rw [size_app]; have := HSz.out; have e : (ByteArray.mk #[41]).size = 1 := rfl; omega)
          rw [zY] at HE
          have HE1 : Hid (POST (.returned (.tuple #[])) (X1.putObj (u8.heap.size + 2) (.deferred none))) := HE.2
          have HE2 := HE.1
          clear HE S2 k2
          gi_wp2
          refine ⟨by simp, .inl ⟨_, _, rfl, run_takeDeferred HE2, ?_⟩⟩
          refine ⟨.tuple #[], ?_, HE1.out⟩
          simp [results, Tryd.f91, go_sem]
        · have HC3 : Hid (Cut120 (s1.data.toList ++ ([32, 46, 32] ++ leafV g ++ [41])) XX) := by
            have := HCt.out
            unfold toC at this
            rwa [if_neg hk5, if_neg h3] at this
          have hn3 : ((wdOf g).tag != 3) = true := by rw [htag]; simpa using h3
          have hn4 : (wdOf g).tag ≠ 3 := by rw [htag]; exact h3
          clear HCt htag
          gi_wp2_with fail
          refine ((callsIn_wide (n := 10 - 1)).2 (swrite_s w0.heap.size b h v1' s1 ⟨#[32, 46, 32]⟩ X HS1.out (by have := HSz.out; have e : (ByteArray.mk #[32, 46, 32]).size = 3 := rfl; omega) hXs)).mono ?_
          rintro e X1 ⟨rfl, v2', S2, k2⟩
          have p1 : X1.cell? ⟨u.heap.size, 0, none⟩ = some (.pointer (some ⟨b, 0, none⟩)) := (k2.cell lp HNp.out.1).trans cp0
          have q0 : X1.cell? ⟨pr, 0, none⟩ = some (.int .u8 (wdOf g).tag) := (k2.cell lr HNp.out.2).trans cr0
          have q1 : X1.cell? ⟨pr, 1, none⟩ = some (.int .u64 (wdOf g).rest) := (k2.cell lr HNp.out.2).trans cr1
          obtain ⟨s2', hs2'⟩ : ∃ s2' : ByteArray, s2' = ⟨(s1.data.toList ++ (ByteArray.mk #[32, 46, 32]).data.toList).toArray⟩ := ⟨_, rfl⟩
          have HS2' : Hid (s2'.size = s1.size + 3 ∧ s2'.data.toList = s1.data.toList ++ [32, 46, 32]) := ⟨by rw [hs2', size_app]; rfl, by rw [hs2']⟩
          rw [← hs2'] at S2
          have HS2 : Hid (ShwV w0.heap.size b h v2' (strCells s2') X1) := S2
          have HK2 : Hid (Kq w0.heap.size (Ms b) X X1) := k2
          clear S2 k2 hs2' cp0 cr0 cr1 hn3 hn4
          gi_wp2_with fail
          refine ((callsIn_wide (n := 10 - 1)).2 (HLf.out v2' s2' X1 (HW0.out.trans HK2.out.1) (by have := HSz.out; have := HS2'.out.1; omega) HS2.out)).mono ?_
          rintro e X2 ⟨rfl, v3', s3, S3, c3, z3, k3⟩
          have HK3 : Hid (Kq w0.heap.size (Ms b) X X2) := HK2.out.trans k3
          have HS3 : Hid (ShwV w0.heap.size b h v3' (strCells s3) X2) := S3
          have HC4 : Hid (Cut120 (s3.data.toList ++ [41]) XX) := (c3.app _).trans (by rw [HS2'.out.2]; simpa [List.append_assoc] using HC3.out)
          have p2 : X2.cell? ⟨u.heap.size, 0, none⟩ = some (.pointer (some ⟨b, 0, none⟩)) := (HK3.out.cell lp HNp.out.1).trans (one_cellS HPb.out).1
          have HZ3 : Hid (s3.size ≤ max s2'.size 122 + 100 * 1) := z3
          have hX2 : w0.heap.size ≤ X2.heap.size := Nat.le_trans hXs HK3.out.size
          clear S3 k3 c3 z3 p1 q0 q1
          gi_wp2_with fail
          refine ((callsIn_wide (n := 10 - 1)).2 (swrite_s w0.heap.size b h v3' s3 ⟨#[41]⟩ X2 HS3.out (by have := HSz.out; have := HZ3.out; have := HS2'.out.1; have e : (ByteArray.mk #[41]).size = 1 := rfl; omega) hX2)).mono ?_
          rintro e X9 ⟨rfl, v9, S9, k9⟩
          have HE := HEnd.out X9 v9 _ S9 (HK3.out.trans k9) HC4.out (by rw [size_app]; have := HSz.out; have := HZ3.out; have := HS2'.out.1; have e : (ByteArray.mk #[41]).size = 1 := rfl; omega)
          rw [zY] at HE
          have HE1 : Hid (POST (.returned (.tuple #[])) (X9.putObj (u8.heap.size + 2) (.deferred none))) := HE.2
          have HE2 := HE.1
          clear HE S9 k9
          gi_wp2
          refine ⟨by simp, .inl ⟨_, _, rfl, run_takeDeferred HE2, ?_⟩⟩
          refine ⟨.tuple #[], ?_, HE1.out⟩
          simp [results, Tryd.f91, go_sem]
end Go.Proofs.YtgfienijabkpjaaDoor
/-
  The program's heap.show: the first 120 bytes of what the shower wrote (what show does is asked of the caller); nothing that was there is turned.
-/
namespace Go.Proofs.YtgfienijabkpjaaDoor
open Go.RowKit Go.Extern.Stop Go.Stop Go.Extern Num Go.Lib Go.Shelf

/-- The cells of a row of bytes. -/
theorem strAt {w : World} {base g cap : Nat} {s : ByteArray} (h : w.ownsRow base 5 1 (.slice (some ⟨g, 0, none⟩) (strCells s).length cap) (strCells s).length (strCells s)) (j : Nat) (u : Value) (hj : (strCells s)[j]? = some u) : w.cell? ((⟨g, 0, none⟩ : Addr).add j) = some u := h.cells (g := g) rfl j u hj
set_option maxRecDepth 100000 in
set_option maxHeartbeats 1000000 in
theorem hshow_of (h : Nat) (x : Wd) (X : List UInt8) (hX : 0 < X.length) (w : World)
    (hS : ∀ (u : World) (b : Nat), Below w.heap.size w u → w.heap.size ≤ b → ShwV w.heap.size b h (.slice none 0 0) [] u → Calls Tryd.prog 64 #[.pointer (some ⟨b, 0, none⟩), x.val] u fun e w' => e = .returned (.tuple #[]) ∧ ∃ v' s, ShwV w.heap.size b h v' (strCells s) w' ∧ Cut120 s.data.toList X ∧ s.size ≤ 1000000 ∧ Kq w.heap.size (Ms b) u w') :
    Calls Tryd.prog 35 #[.pointer (some ⟨h, 0, none⟩), x.val] w fun e w' => e = .returned (.string ⟨(X.take 120).toArray⟩) ∧ Below w.heap.size w w' := by
  have HS : Hid (∀ (u : World) (b : Nat), Below w.heap.size w u → w.heap.size ≤ b → ShwV w.heap.size b h (.slice none 0 0) [] u → Calls Tryd.prog 64 #[.pointer (some ⟨b, 0, none⟩), x.val] u fun e w' => e = .returned (.tuple #[]) ∧ ∃ v' s, ShwV w.heap.size b h v' (strCells s) w' ∧ Cut120 s.data.toList X ∧ s.size ≤ 1000000 ∧ Kq w.heap.size (Ms b) u w') := hS
  have HX : Hid (0 < X.length) := hX
  obtain ⟨R, hR⟩ : ∃ R : ByteArray, R = ⟨(X.take 120).toArray⟩ := ⟨_, rfl⟩
  have HR : Hid (R = ⟨(X.take 120).toArray⟩) := hR
  rw [← hR]
  clear hR hS hX
  go_enter Tryd.func35, Tryd.ntmps35
  go_wp2_with fail
  have bb : Below w.heap.size w ((w.alloc (.cells #[.int .u8 x.tag, .int .u64 x.rest] 74)).alloc (.cells #[.pointer (some ⟨h, 0, none⟩), .slice none 0 0] 114)) := ((Below.refl _ _).alloc (Nat.le_refl _) _).alloc (by simp) _
  refine (HS.out _ (w.heap.size + 1) bb (by omega) ⟨by omega, ?_, ⟨by simp, .inl ⟨rfl, rfl⟩⟩, by simp [Value.ownBlock]⟩).mono ?_
  · rw [heap_new' _ _ _ (by simp)]
  rintro e w2 ⟨rfl, v', s, hv, hc, hs, hq⟩
  have HB : Hid (Below w.heap.size w w2) := bb.trans (hq.1)
  have hs0 : 0 < s.size := by
    have := HX.out
    have e : s.data.toList.length = s.size := by rw [Array.length_toList]; rfl
    rcases hc with h1 | h1
    · rw [h1] at e; omega
    · omega
  obtain ⟨hb1, hb2, hown, hne⟩ := hv
  have hl := strCells_length s
  obtain ⟨g, cap, rfl, _, _⟩ := hown.form (by omega)
  have HC : Hid (∀ (j : Nat) (u : Value), (strCells s)[j]? = some u → w2.cell? ((⟨g, 0, none⟩ : Addr).add j) = some u) := fun j u hj => strAt hown j u hj
  have hcap : s.size ≤ cap := by
    rcases hown.2 with ⟨hv, _⟩ | ⟨g', cap', cur, hv, _, _, h5, _⟩
    · cases hv
    · have : g = g' ∧ cap = cap' := by simpa using hv
      omega
  rw [hl] at hb2
  have c1 : w2.cell? ⟨w.heap.size + 1, 1, none⟩ = some (.slice (some ⟨g, 0, none⟩) s.size cap) := by rw [cell_of_heap hb2]; rfl
  clear hb2 hown hne hb1 hq bb HS hl
  have e0 : s.data.toList.length = s.size := by rw [Array.length_toList]; rfl
  have hL : X.take 120 = s.data.toList.take 120 := hc.take.symm
  have hLl : (X.take 120).length = min 120 s.size := by rw [hL, List.length_take, e0]
  have hcv : (convert 22 9 (.slice (some ⟨g, 0, none⟩) (X.take 120).length cap)).run Tryd.prog w2 = .ok (.string R) w2 := by
    rw [HR.out]
    refine run_convert_bytes_back w2 _ _ _ ⟨g, 0, none⟩ cap (X.take 120) Tryd.underlying22 Tryd.underlying5 Tryd.underlying9 (fun j hj => ?_)
    refine HC.out j _ ?_
    unfold strCells
    have hj2 : j < s.data.toList.length := by omega
    rw [List.getElem?_map, List.getElem?_eq_getElem hj2]
    simp [hL]
  by_cases h120 : s.size ≤ 120
  · rw [hLl, show min 120 s.size = s.size by omega] at hcv
    have hm : min (s.size : Int) 120 = (s.size : Int) := by omega
    clear hL hLl hc e0 HC
    go_wp2
    go_ret
    exact ⟨rfl, HB.out⟩
  · rw [hLl, show min 120 s.size = 120 by omega] at hcv
    have hm : min (s.size : Int) 120 = 120 := by omega
    have hc2 : 120 ≤ cap := by omega
    clear hL hLl hc e0 HC
    go_wp2
    go_ret
    exact ⟨rfl, HB.out⟩
end Go.Proofs.YtgfienijabkpjaaDoor
/-
  The program's ShowValue: a code, and what is shown of a value (what heap.show answers is asked of the caller); nothing that was there is turned.
-/
namespace Go.Proofs.YtgfienijabkpjaaDoor
open Go.RowKit Go.Extern.Stop Go.Stop Go.Extern Num Go.Lib

theorem tsW_size (w : World) (t : Vlu) : (tsW w t).heap.size = w.heap.size + 2 := by simp [tsW]
theorem ts_two {u : World} {x T : Nat} {v0 v1 : Value} (h : u.heap[x]? = some (.cells #[v0, v1] T (0, 0))) : u.cell? ⟨x, 0, none⟩ = some v0 ∧ u.cell? ⟨x, 1, none⟩ = some v1 ∧ ∀ o, u.frozen? ⟨x, o, none⟩ = false := ⟨by rw [cell_of_heap h]; rfl, by rw [cell_of_heap h]; rfl, fun o => frozen_of_heap h o⟩
set_option maxRecDepth 100000 in
set_option maxHeartbeats 2000000 in
theorem implShow_of (ao : Option Addr) (cap g : Nat) (l : List Pai) (t : Vlu) (w : World) (hl : l.length ≤ 1048576) (hao : 0 < l.length → ao = some ⟨g, 0, none⟩) (hr : RowP w g l) (hz : ableL l) (ht : t.name.size ≤ 9223372036854775807)
    (hS : heapFault l = 0 → aheadV l.length t → ∀ (u : World) (B h : Nat), Below w.heap.size w u → Heap u B h (wordsP l) → Calls Tryd.prog 35 #[.pointer (some ⟨h, 0, none⟩), (wdOf t).val] u fun e w' => e = .returned (.string (shownV l t)) ∧ Below u.heap.size u w') :
    Calls Tryd.prog 17 #[.slice ao l.length cap, t.val] w fun e w' => e = .returned (.agg #[.int .i64 (askV l t), .string (textSV l t)]) ∧ Below w.heap.size w w' := by
  have HW : Hid (Calls Tryd.prog 34 #[.slice ao l.length cap, t.val] (tsW w t) fun e w' => (∃ p, ∃ x : Wd, e = .returned (.tuple #[.pointer p, x.val, .int .i64 (askV l t)]) ∧ (askV l t = 0 → x = wdOf t ∧ ∃ h, p = some ⟨h, 0, none⟩ ∧ Heap w' (tsW w t).heap.size h (wordsP l))) ∧ Below (tsW w t).heap.size (tsW w t) w') := heapWith_any ao cap g l t (tsW w t) hl hao (hr.below (ts_old w t)) hz ht
  have HL : Hid (∀ w1, Below (tsW w t).heap.size (tsW w t) w1 → w1.heap[w.heap.size + 1]? = some (.cells #[.int .i64 0, .string ⟨#[]⟩] 29 (0, 0)) ∧ Below w.heap.size w w1) := fun w1 hb => ⟨(hb.block _ (by rw [tsW_size]; omega)).trans (by unfold tsW; exact heap_new' _ _ _ (by simp)), (ts_old w t).trans (hb.mono (by rw [tsW_size]; omega))⟩
  clear hao hr hz ht
  by_cases h0 : askV l t = 0
  case neg =>
    have h0' : (askV l t != 0) = true := by simpa using h0
    have e2 : textSV l t = ⟨#[]⟩ := by unfold textSV; rw [if_neg h0]
    rw [e2]
    have HW3 : Hid (Calls Tryd.prog 34 #[.slice ao l.length cap, t.val] (tsW w t) fun e w' => (∃ p, ∃ x : Wd, e = .returned (.tuple #[.pointer p, x.val, .int .i64 (askV l t)])) ∧ Below (tsW w t).heap.size (tsW w t) w') := by
      refine HW.out.mono ?_
      rintro e w1 ⟨⟨p, x, rfl, _⟩, hb⟩
      exact ⟨⟨p, x, rfl⟩, hb⟩
    clear e2 h0 HW hS
    generalize askV l t = c at h0' HW3
    unfold tsW at HW3
    go_enter Tryd.func17, Tryd.ntmps17
    go_wp2_with fail
    refine HW3.out.mono ?_
    rintro e w1 ⟨⟨p, x, rfl⟩, hb⟩
    obtain ⟨hblk, hold⟩ := HL.out w1 hb
    obtain ⟨r0, r1, rf⟩ := ts_two hblk
    have HOl : Hid (Below w.heap.size w w1) := hold
    have z1 : w.heap.size + 1 < w1.heap.size := (Array.getElem?_eq_some_iff.1 hblk).1
    clear hb hold hblk
    go_wp2
    refine bodyPost_ret (v := .agg #[.int .i64 c, .string ⟨#[]⟩]) (by simp [results, Tryd.results17, go_sem, r0, r1, z1, World.cell?_alloc_lt]) rfl ⟨rfl, ?_⟩
    repeat (first | refine Below.setCell ?_ (by simp <;> omega) _ | refine Below.alloc ?_ (by have := HOl.out.size; simp <;> omega) _ | exact HOl.out)
  obtain ⟨hh, hi0⟩ := askV_zero h0
  have HS : Hid (∀ (u : World) (B h : Nat), Below w.heap.size w u → Heap u B h (wordsP l) → Calls Tryd.prog 35 #[.pointer (some ⟨h, 0, none⟩), .agg #[.int .u8 (wdOf t).tag, .int .u64 (wdOf t).rest]] u fun e w' => e = .returned (.string (textSV l t)) ∧ Below u.heap.size u w') := fun u B h hb hH => by
    have e2 : textSV l t = shownV l t := by unfold textSV; rw [if_pos h0]
    rw [e2]
    exact hS hh (aheadV_of hi0) u B h hb hH
  have HW2 : Hid (Calls Tryd.prog 34 #[.slice ao l.length cap, .agg #[.int .i64 t.kind, .int .i64 t.num, .string t.name]] (tsW w t) fun e w1 => ∃ h, e = .returned (.tuple #[.pointer (some ⟨h, 0, none⟩), .agg #[.int .u8 (wdOf t).tag, .int .u64 (wdOf t).rest], .int .i64 0]) ∧ Heap w1 (tsW w t).heap.size h (wordsP l) ∧ Below (tsW w t).heap.size (tsW w t) w1) := by
    refine HW.out.mono ?_
    rintro e w1 ⟨⟨p, x, rfl, hx⟩, hb⟩
    obtain ⟨rfl, h, rfl, hH⟩ := hx h0
    exact ⟨h, by rw [h0], hH, hb⟩
  rw [h0]
  generalize textSV l t = R at HS ⊢
  clear HW h0 hi0 hS hh
  unfold tsW at HW2
  go_enter Tryd.func17, Tryd.ntmps17
  go_wp2_with fail
  refine HW2.out.mono ?_
  rintro e w1 ⟨h, rfl, hH, hb⟩
  obtain ⟨hblk, hold⟩ := HL.out w1 hb
  have HB1 : Hid (Below w.heap.size w (w1.alloc (.cells #[.int .u8 (wdOf t).tag, .int .u64 (wdOf t).rest] 74))) := hold.alloc hold.size _
  have HBK : Hid (w1.heap[w.heap.size + 1]? = some (.cells #[.int .i64 0, .string ⟨#[]⟩] 29 (0, 0))) := hblk
  have hhp := hH.lay (.cells #[.int .u8 (wdOf t).tag, .int .u64 (wdOf t).rest] 74)
  have HH : Hid (Heap (w1.alloc (.cells #[.int .u8 (wdOf t).tag, .int .u64 (wdOf t).rest] 74)) _ h (wordsP l)) := hhp
  clear hhp hH hb hold hblk HW2
  go_wp2_with fail
  refine (HS.out _ _ h HB1.out HH.out).mono ?_
  rintro e w2 ⟨rfl, b2⟩
  have hblk2 : w2.heap[w.heap.size + 1]? = some (.cells #[.int .i64 0, .string ⟨#[]⟩] 29 (0, 0)) := by
    have hlt := (Array.getElem?_eq_some_iff.1 HBK.out).1
    rw [b2.block _ (by simp; omega), heap_alloc_old _ _ hlt]
    exact HBK.out
  obtain ⟨r0, r1, rf⟩ := ts_two hblk2
  have HB2 : Hid (Below w.heap.size w w2) := HB1.out.trans (b2.mono HB1.out.size)
  clear b2 hblk2
  go_wp2
  refine bodyPost_ret (v := .agg #[.int .i64 0, .string R]) (by simp [results, Tryd.results17, go_sem, r0, r1]) rfl ⟨rfl, ?_⟩
  repeat (first | exact HB2.out | refine Below.setCell ?_ (by simp <;> omega) _)
end Go.Proofs.YtgfienijabkpjaaDoor
/-
  The program's show by fuel, heap.show and ShowValue: the text as the model's, the fault's code; nothing that was there is turned.
-/
namespace Go.Proofs.YtgfienijabkpjaaDoor
open Go.RowKit Go.Extern.Stop Go.Stop Go.Extern Num Go.Lib Go.Shelf

theorem show_fuel (l : List Pai) (hh : heapFault l = 0) (w0 : World) (B h : Nat) (vq : Value) (bs : List Nat) (HKK : HpAt w0 B h vq bs (wordsP l))
    (HN : ∀ (n : Int) q, inB n = true → Below w0.heap.size w0 q → Calls Tryd.prog 104 #[.int .i64 n] q fun e w' => e = .returned (.agg #[.int .i64 0, .string ⟨(itoa n).toArray⟩]) ∧ Below q.heap.size q w') :
    ∀ f, f ≤ 9001 → ShP l w0 h f := by
  intro f
  induction f using Nat.strongRecOn with
  | _ f ih =>
    intro hf t b v s u hah hnd hs hu H
    have hn : w0.heap.size ≤ u.heap.size := hu.size
    cases f with
    | zero => exfalso; unfold needF at hnd; simp only at hnd; split at hnd <;> omega
    | succ f =>
      by_cases h5 : t.kind = 5
      · have hnd' : needF true t ≤ f := by
          unfold needF at hnd ⊢
          simp only at hnd ⊢
          rw [if_pos h5] at hnd
          omega
        refine show_on l w0.heap.size b h (f + 1) v s t u hah.1 h5 H hn (fun q hq => ?_)
        exact showPair_of l hh w0 B h vq bs HKK f (by omega) (fun j hj => ih j hj (by omega)) HN t b v s q hah h5 hnd' hs (hu.trans (hq.mono hn)) (H.below hq)
      · exact show_leaf l w0.heap.size b h f v s t u hah.1 h5 (by omega) H hn (fun q hq => HN t.num q (fine_in hah.1) (hu.trans (hq.mono hn)))
theorem leafV_pos {v : Vlu} (h : vfault v = 0) : 0 < (leafV v).length := by
  unfold leafV
  split
  · obtain ⟨c, r, e, _⟩ := itoa_head v.num
    rw [e]; simp
  · split
    · split <;> simp
    · split
      · simp
      · split
        · rename_i h4
          have := sym_in h h4
          unfold symL at this
          simp only [Bool.and_eq_true, decide_eq_true_eq] at this
          omega
        · split
          · simp
          · split
            · simp
            · split <;> simp
theorem showV_pos {l : List Pai} {v : Vlu} (h : vfault v = 0) : 0 < (showV l v).length := by
  unfold showV
  by_cases h5 : v.kind = 5
  · rw [showF_pair h5]; simp
  · rw [showF_leaf h5]; exact leafV_pos h
set_option maxRecDepth 100000 in
theorem implShow_any (ao : Option Addr) (cap g : Nat) (l : List Pai) (t : Vlu) (w : World) (hl : l.length ≤ 1048576) (hao : 0 < l.length → ao = some ⟨g, 0, none⟩) (hr : RowP w g l) (hz : ableL l) (ht : t.name.size ≤ 9223372036854775807) (hL : LT w) :
    Calls Tryd.prog 17 #[.slice ao l.length cap, t.val] w fun e w' => e = .returned (.agg #[.int .i64 (askV l t), .string (textSV l t)]) ∧ Below w.heap.size w w' := by
  refine implShow_of ao cap g l t w hl hao hr hz ht (fun hh hah u B h hb hH => ?_)
  obtain ⟨vq, bs, HK⟩ := hH
  have h4 := fault_len hh
  refine hshow_of h (wdOf t) (showV l t) (showV_pos hah.1) u (fun q b hq hbb hS => ?_)
  have hP := show_fuel l hh u B h vq bs HK (fun n q' hi hq' => implText_yes n q' hi ((hL.below hb).below hq')) (2 * l.length + 3) (by omega)
  refine (hP t b (.slice none 0 0) ⟨#[]⟩ q hah (need_all hah) (by show 0 ≤ 122; omega) hq hS).mono ?_
  rintro e w' ⟨rfl, v', s', h1, h2, h3, h5⟩
  refine ⟨rfl, v', s', h1, ?_, ?_, h5⟩
  · show Cut120 _ (showF l (2 * l.length + 3) false t)
    simpa using h2
  · have e0 : (ByteArray.mk #[]).size = 0 := rfl
    have e1 : max 0 122 = 122 := rfl
    rw [e0, e1] at h3
    clear hP
    omega
end Go.Proofs.YtgfienijabkpjaaDoor
/-
  The exact law of ShowValue answers true at all pairs and values; nothing that was there is turned.
-/
namespace Go.Proofs.YtgfienijabkpjaaDoor
open Go.RowKit Go.Extern.Stop Go.Stop Go.Extern Num Go.Lib

/-- The box of the argument, and what was there. -/
structure VVS (w : World) (A : Vlu) (u : World) : Prop where
  b0 : VBox w.heap.size A u
  old : Below w.heap.size w u
theorem VVS.below {w u v : World} {A : Vlu} (h : VVS w A u) (hb : Below u.heap.size u v) : VVS w A v := ⟨h.b0.below hb, h.old.trans (hb.mono h.old.size)⟩
theorem VVS.size {w u : World} {A : Vlu} (h : VVS w A u) : w.heap.size + 1 ≤ u.heap.size := lt_of_cell h.b0.c0
theorem VVS.set {w u : World} {A : Vlu} {x o : Nat} {y : Value} (h : VVS w A u) (hx : w.heap.size + 1 ≤ x) : VVS w A (u.setCell ⟨x, o, none⟩ y) := by
  have e : ∀ j, (u.setCell ⟨x, o, none⟩ y).cell? ⟨w.heap.size, j, none⟩ = u.cell? ⟨w.heap.size, j, none⟩ := fun j => World.cell?_setCell_other _ _ _ _ (fun e => by have := congrArg Addr.block e; simp only at this; omega)
  exact ⟨⟨(e 0).trans h.b0.c0, (e 1).trans h.b0.c1, (e 2).trans h.b0.c2⟩, h.old.setCell (show w.heap.size ≤ x by omega) _⟩
/-- The box of a text's answer. -/
def BoxZT (n x : Nat) (u : World) : Prop := n ≤ x ∧ u.heap[x]? = some (.cells #[.int .i64 0, .string ⟨#[]⟩] 29 (0, 0))
theorem BoxZT.below {n x : Nat} {u v : World} (h : BoxZT n x u) (hb : Below u.heap.size u v) : BoxZT n x v := ⟨h.1, (hb.block x (lt_of_block h.2)).trans h.2⟩
set_option maxRecDepth 100000 in
set_option maxHeartbeats 8000000 in
theorem lawSV_any (w : World) (hL : LT w) (a : Option Addr) (cp : Nat) (l : List Pai) (hl : l.length ≤ 9223372036854775807) (h : MemP w a l) (hz : ∀ (k : Nat) (h : k < l.length), l[k].able) (A : Vlu) (hA : A.name.size ≤ 9223372036854775807) :
    Calls Tryd.prog 4 #[.slice a l.length cp, A.val] w fun e w' => e = .returned (.bool true) ∧ Below w.heap.size w w' := by
  have HS : Hid (∀ u, Below w.heap.size w u → Calls Tryd.prog 12 #[.slice a l.length cp, .int .i64 1048576] u fun e w' => SZP l u e w') := fun u hu => szPS_any a cp l u 1048576 (Nat.le_refl _) hl (h.below hu) hz
  have HT : Hid (MemP w a l) := h
  have HLT : Hid (∀ u, Below w.heap.size w u → LT u) := fun u hu => hL.below hu
  have HV : Hid (∀ (t : Vlu) (u : World), Calls Tryd.prog 16 #[t.val] u fun e w' => e = .returned t.val ∧ Below u.heap.size u w') := fun t u => toV_any t u
  have V0 : Hid (VVS w A (w.alloc (.cells #[.int .i64 A.kind, .int .i64 A.num, .string A.name] 43))) := ⟨(box1 w A 43).1, (box1 w A 43).2⟩
  clear h hz hl hL
  go_enter Tryd.func4, Tryd.ntmps4
  go_wp2_with fail
  refine (HS.out _ V0.out.old).mono ?_
  rintro e w1 ⟨h1, b1⟩
  have V1 : Hid (VVS w A w1) := V0.out.below b1
  clear b1 V0 HS
  rcases h1 with rfl | ⟨q0, hq0, rfl, hl, hz⟩
  · go_wp2
    go_ret
    exact ⟨rfl, V1.out.old⟩
  have HZ : Hid (ableL l) := able_of hz
  have HN : Hid (l.length ≤ 1048576) := hl
  have HU : Hid (∀ wx, Below w.heap.size w wx → Calls Tryd.prog 15 #[.slice a l.length cp] wx fun e w' => ∃ g, e = .returned (.slice (some ⟨g, 0, none⟩) l.length l.length) ∧ World.ownsRow w' wx.heap.size 85 6 (.slice (some ⟨g, 0, none⟩) l.length l.length) l.length (cellsP l) ∧ Below wx.heap.size wx w') := fun wx hx => toPS_any a cp l wx hl (HT.out.below hx)
  have HP : Hid (∀ (u : World) (g base : Nat), World.ownsRow u base 85 6 (.slice (some ⟨g, 0, none⟩) l.length l.length) l.length (cellsP l) → Calls Tryd.prog 14 #[.slice (some ⟨g, 0, none⟩) l.length l.length, A.val] u fun e w' => e = .returned (.agg #[.int .i64 (askV l A), .string (textSV l A)]) ∧ Below u.heap.size u w') := fun u g base ho => specShow_any l.length base g l A u hl ho HZ.out hA
  have HI : Hid (∀ (u : World) (g base : Nat), World.ownsRow u base 85 6 (.slice (some ⟨g, 0, none⟩) l.length l.length) l.length (cellsP l) → LT u → Calls Tryd.prog 17 #[.slice (some ⟨g, 0, none⟩) l.length l.length, A.val] u fun e w' => e = .returned (.agg #[.int .i64 (askV l A), .string (textSV l A)]) ∧ Below u.heap.size u w') := fun u g base ho hu => implShow_any _ l.length g l A u hl (fun _ => rfl) (RowP.of ho) HZ.out hA hu
  generalize askV l A = c0 at HP HI
  generalize textSV l A = S at HP HI
  clear hz hl
  have a0 := V1.out.b0.c0
  have a1 := V1.out.b0.c1
  have a2 := V1.out.b0.c2
  by_cases hf : q0 < A.name.size
  · have HZ1 : Hid (∀ w, Calls Tryd.prog 13 #[A.val, .int .i64 (q0 : Int)] w fun e w' => e = .returned (.int .i64 (-1)) ∧ Below w.heap.size w w') := fun w => szV_far A q0 w hA hq0 hf
    clear hf
    go_wp2_with fail
    refine (HZ1.out _).mono ?_
    rintro e w2 ⟨rfl, b2⟩
    go_wp2
    go_ret
    exact ⟨rfl, V1.out.old.trans (b2.mono V1.out.old.size)⟩
  obtain ⟨q1, hqe⟩ : ∃ q : Nat, q = q0 - A.name.size := ⟨_, rfl⟩
  have HZ1 : Hid (∀ w, Calls Tryd.prog 13 #[A.val, .int .i64 (q0 : Int)] w fun e w' => e = .returned (.int .i64 (q1 : Int)) ∧ Below w.heap.size w w') := fun w => by rw [hqe]; exact szV_near A q0 w hq0 (by omega)
  have hq1 : q1 ≤ 1048576 := by omega
  clear hf hqe
  go_wp2_with fail
  refine (HZ1.out _).mono ?_
  rintro e w2 ⟨rfl, b2⟩
  replace V1 : Hid (VVS w A w2) := V1.out.below b2
  clear b2 a0 a1 a2 HZ1
  clear hA hq0 hq1
  go_wp2_with fail
  refine wp_region_facts (by kernel_rfl) 6 (fun v => Below w2.heap.size w2 v) (fun u v => Below u.heap.size u v) (fun i v u => match i with | 0 => (fun v u => v = .slice a l.length cp) v u | 1 => (fun v u => ∃ g, v = .slice (some ⟨g, 0, none⟩) l.length l.length ∧ World.ownsRow u w2.heap.size 85 6 (.slice (some ⟨g, 0, none⟩) l.length l.length) l.length (cellsP l)) v u | 2 => (fun v u => v = A.val) v u | 3 => (fun v u => v = A.val) v u | 4 => (fun v u => v = .agg #[.int .i64 c0, .string S]) v u | 5 => (fun v u => ∃ x, v = .pointer (some ⟨x, 0, none⟩) ∧ BoxZT w2.heap.size x u) v u | _ => True) (by kernel_rfl) [0, 1, 2, 3, 4, 5] (by kernel_rfl) ?b0 ?bk ?fk ⟨?s0, ?s1, ?s2, ?s3, ?s4, ?s5, trivial⟩ _ rfl [(0, some 19), (1, some 20), (2, some 21), (3, some 22), (4, some 23), (5, some 6)] (by kernel_rfl) ?last
  case b0 => exact Below.drew (Below.refl _ _)
  case bk => exact fun u v h hb => h.trans (hb.mono h.size)
  case fk => intro i v u u' h hb; match i, h with | 0, h => exact (h) | 1, h => exact (let ⟨g, e, o⟩ := h; ⟨g, e, own_below o hb⟩) | 2, h => exact (h) | 3, h => exact (h) | 4, h => exact (h) | 5, h => exact (let ⟨x, e, o⟩ := h; ⟨x, e, o.below hb⟩) | _ + 6, _ => exact trivial
  case s0 =>
    refine StepF.of rfl [] (by kernel_rfl) ?_
    intro vs u hB hf K hK
    clear hf
    simp only [putsA, List.foldl_nil, Act.put, List.setIfInBounds_toArray] at hK ⊢
    rw [if_pos (by rfl)]
    go_simp
    exact hK.out _ _ (Below.refl _ _) rfl
  case s1 =>
    refine StepF.of rfl [(0, some 19)] (by kernel_rfl) ?_
    intro vs u hB hf K hK
    have f0 : (fun v u => v = .slice a l.length cp) (vs 0) u := hf.1
    clear hf
    simp only [putsA, List.foldl_cons, List.foldl_nil, Act.put, List.setIfInBounds_toArray, List.set_cons_zero, List.set_cons_succ] at hK ⊢
    generalize vs 0 = v0 at f0 hK ⊢
    rw [if_pos (by rfl)]
    subst f0
    go_simp
    refine (HU.out _ (V1.out.below hB).old).mono ?_
    rintro e w4 ⟨g4, rfl, o4, b4⟩
    exact hK.out _ _ b4 ⟨g4, rfl, own_base o4 hB.size⟩
  case s2 =>
    refine StepF.of rfl [] (by kernel_rfl) ?_
    intro vs u hB hf K hK
    clear hf
    simp only [putsA, List.foldl_nil, Act.put, List.setIfInBounds_toArray] at hK ⊢
    rw [if_pos (by rfl)]
    have c0' := (V1.out.below hB).b0.c0
    have c1' := (V1.out.below hB).b0.c1
    have c2' := (V1.out.below hB).b0.c2
    go_simp
    exact hK.out _ _ (Below.refl _ _) rfl
  case s3 =>
    refine StepF.of rfl [(1, some 20), (2, some 21)] (by kernel_rfl) ?_
    intro vs u hB hf K hK
    have f1 : (fun v u => ∃ g, v = .slice (some ⟨g, 0, none⟩) l.length l.length ∧ World.ownsRow u w2.heap.size 85 6 (.slice (some ⟨g, 0, none⟩) l.length l.length) l.length (cellsP l)) (vs 1) u := hf.1
    have f2 : (fun v u => v = A.val) (vs 2) u := hf.2.1
    clear hf
    simp only [putsA, List.foldl_cons, List.foldl_nil, Act.put, List.setIfInBounds_toArray, List.set_cons_zero, List.set_cons_succ] at hK ⊢
    generalize vs 1 = v1 at f1 hK ⊢
    generalize vs 2 = v2 at f2 hK ⊢
    rw [if_pos (by rfl)]
    subst f2
    clear f1
    go_simp
    refine (HV.out _ _).mono ?_
    rintro e w4 ⟨rfl, b4⟩
    exact hK.out _ _ b4 rfl
  case s4 =>
    refine StepF.of rfl [(1, some 20), (3, some 22)] (by kernel_rfl) ?_
    intro vs u hB hf K hK
    have f1 : (fun v u => ∃ g, v = .slice (some ⟨g, 0, none⟩) l.length l.length ∧ World.ownsRow u w2.heap.size 85 6 (.slice (some ⟨g, 0, none⟩) l.length l.length) l.length (cellsP l)) (vs 1) u := hf.1
    have f3 : (fun v u => v = A.val) (vs 3) u := hf.2.1
    clear hf
    simp only [putsA, List.foldl_cons, List.foldl_nil, Act.put, List.setIfInBounds_toArray, List.set_cons_zero, List.set_cons_succ] at hK ⊢
    generalize vs 1 = v1 at f1 hK ⊢
    generalize vs 3 = v3 at f3 hK ⊢
    rw [if_pos (by rfl)]
    subst f3
    obtain ⟨g4, rfl, o4⟩ := f1
    go_simp
    refine (HP.out _ g4 _ o4).mono ?_
    rintro e w7 ⟨rfl, b7⟩
    exact hK.out _ _ b7 rfl
  case s5 =>
    refine StepF.of rfl [] (by kernel_rfl) ?_
    intro vs u hB hf K hK
    clear hf
    simp only [putsA, List.foldl_nil, Act.put, List.setIfInBounds_toArray] at hK ⊢
    rw [if_pos (by rfl)]
    go_simp
    exact hK.out _ _ ((Below.refl _ _).alloc (Nat.le_refl _) _) ⟨_, rfl, hB.size, heap_alloc_new _ _⟩
  case last =>
    intro vs u hB hf K hK
    have f0 : (fun v u => v = .slice a l.length cp) (vs 0) u := hf.1
    have f1 : (fun v u => ∃ g, v = .slice (some ⟨g, 0, none⟩) l.length l.length ∧ World.ownsRow u w2.heap.size 85 6 (.slice (some ⟨g, 0, none⟩) l.length l.length) l.length (cellsP l)) (vs 1) u := hf.2.1
    have f2 : (fun v u => v = A.val) (vs 2) u := hf.2.2.1
    have f3 : (fun v u => v = A.val) (vs 3) u := hf.2.2.2.1
    have f4 : (fun v u => v = .agg #[.int .i64 c0, .string S]) (vs 4) u := hf.2.2.2.2.1
    have f5 : (fun v u => ∃ x, v = .pointer (some ⟨x, 0, none⟩) ∧ BoxZT w2.heap.size x u) (vs 5) u := hf.2.2.2.2.2.1
    clear hf
    simp only [putsA, List.foldl_cons, List.foldl_nil, Act.put, List.setIfInBounds_toArray, List.set_cons_zero, List.set_cons_succ]
    generalize vs 0 = v0 at f0 ⊢
    generalize vs 1 = v1 at f1 ⊢
    generalize vs 2 = v2 at f2 ⊢
    generalize vs 3 = v3 at f3 ⊢
    generalize vs 4 = v4 at f4 ⊢
    generalize vs 5 = v5 at f5 ⊢
    rw [if_pos (by rfl)]
    subst f4
    obtain ⟨x, rfl, hx⟩ := f5
    clear f0 f1 f2 f3
    obtain ⟨z0, z1, zf⟩ := ts_two hx.2
    go_simp
    refine hK.out _ _ ?_
    clear hK z0 z1 zf
    have s1 := heap_setCell_same u x 0 _ _ (.int .i64 c0) hx.2
    have s2 := heap_setCell_same _ x 1 _ _ (.string S) s1
    have V4 : Hid (VVS w A ((u.setCell ⟨x, 0, none⟩ (.int .i64 c0)).setCell ⟨x, 1, none⟩ (.string S))) := ((V1.out.below hB).set (Nat.le_trans V1.out.size hx.1)).set (Nat.le_trans V1.out.size hx.1)
    generalize (u.setCell ⟨x, 0, none⟩ (.int .i64 c0)).setCell ⟨x, 1, none⟩ (.string S) = u1 at s2 V4 ⊢
    have X4 : Hid (u1.heap[x]? = some (.cells #[.int .i64 c0, .string S] 29 (0, 0))) := s2
    clear s1 s2 hx hB V1 HP u
    go_wp2_with fail
    refine (HU.out _ V4.out.old).mono ?_
    rintro e w5 ⟨g5, rfl, o5, b5⟩
    have O5 : Hid (World.ownsRow w5 u1.heap.size 85 6 (.slice (some ⟨g5, 0, none⟩) l.length l.length) l.length (cellsP l)) := o5
    have V5 : Hid (VVS w A w5) := V4.out.below b5
    have X5 : Hid (w5.heap[x]? = some (.cells #[.int .i64 c0, .string S] 29 (0, 0))) := (b5.block x (lt_of_block X4.out)).trans X4.out
    clear o5 b5 V4 X4
    have a0 := V5.out.b0.c0
    have a1 := V5.out.b0.c1
    have a2 := V5.out.b0.c2
    go_wp2_with fail
    clear a0 a1 a2
    refine (HV.out _ _).mono ?_
    rintro e w6 ⟨rfl, b6⟩
    have V6 : Hid (VVS w A w6) := V5.out.below b6
    have O6 : Hid (World.ownsRow w6 u1.heap.size 85 6 (.slice (some ⟨g5, 0, none⟩) l.length l.length) l.length (cellsP l)) := own_below O5.out b6
    have X6 : Hid (w6.heap[x]? = some (.cells #[.int .i64 c0, .string S] 29 (0, 0))) := (b6.block x (lt_of_block X5.out)).trans X5.out
    clear b6 V5 O5 X5
    go_wp2_with fail
    refine (HI.out _ g5 _ O6.out (HLT.out _ V6.out.old)).mono ?_
    rintro e w7 ⟨rfl, b7⟩
    have V7 : Hid (VVS w A w7) := V6.out.below b7
    have O7 : Hid (World.ownsRow w7 u1.heap.size 85 6 (.slice (some ⟨g5, 0, none⟩) l.length l.length) l.length (cellsP l)) := own_below O6.out b7
    have X7 : Hid (w7.heap[x]? = some (.cells #[.int .i64 c0, .string S] 29 (0, 0))) := (b7.block x (lt_of_block X6.out)).trans X6.out
    clear b7 V6 O6 X6
    have p0 := (ts_two X7.out).1
    have p1 := (ts_two X7.out).2.1
    have hxl := lt_of_block X7.out
    go_wp2_with fail
    clear p0 p1
    refine (eqText_same _ _ _).mono ?_
    rintro e w8 ⟨rfl, b8⟩
    have V8 : Hid (VVS w A w8) := (V7.out.below ((Below.refl _ _).alloc (Nat.le_refl _) _)).below b8
    have O8 : Hid (World.ownsRow w8 u1.heap.size 85 6 (.slice (some ⟨g5, 0, none⟩) l.length l.length) l.length (cellsP l)) := own_below (own_below O7.out ((Below.refl _ _).alloc (Nat.le_refl _) _)) b8
    clear b8 V7 O7 X7
    go_wp2_with fail
    refine (HU.out _ V8.out.old).mono ?_
    rintro e w9 ⟨g9, rfl, o9, b9⟩
    have O9 : Hid (World.ownsRow w9 w8.heap.size 85 6 (.slice (some ⟨g9, 0, none⟩) l.length l.length) l.length (cellsP l)) := o9
    have V9 : Hid (VVS w A w9) := V8.out.below b9
    have O9x : Hid (World.ownsRow w9 u1.heap.size 85 6 (.slice (some ⟨g5, 0, none⟩) l.length l.length) l.length (cellsP l)) := own_below O8.out b9
    clear o9 b9 V8 O8
    go_wp2_with fail
    refine (eqPS_same _ _ _ _ l w9 HN.out O9x.out O9.out).mono ?_
    rintro e w10 ⟨rfl, b10⟩
    have V10 : Hid (VVS w A w10) := V9.out.below b10
    clear b10
    go_wp2
    go_ret
    exact ⟨rfl, V10.out.old⟩
end Go.Proofs.YtgfienijabkpjaaDoor
