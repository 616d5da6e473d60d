/-
  The program's parts of pieces, given what slices.Reverse does at slices of int64; nothing that was there is turned.
-/
import Derived.Test.YtdohpfckiahlcaaSgPcLay
namespace Go.Proofs.Ytdohpfckiahlcaa
open Go.RowKit Go.Extern.Stop Go.Stop Go.Extern Num Go.Lib

theorem infoPt : (Try.prog.info? 42).map (fun i => (i.zero, i.size, i.bytes)) = some (some (.slice none 0 0), 1, 24) := by kernel_rfl
/-- The slices of the parts, the highest one first. -/
def valsP (C : List Fp) (top : List Int) (tv : Value) : List Value := (if top = [] then [] else [tv]) ++ C.map Fp.val
def lenV : Value → Nat
  | .slice _ n _ => n
  | _ => 0
/-- What Reverse is to do. -/
def RevOk : Prop := ∀ (u : World) (B g c : Nat) (xs : List Value), 0 < xs.length → xs.length ≤ 1048576 → (∀ v ∈ xs, ∃ a n c, v = Value.slice a n c) → u.ownsRow B 42 1 (.slice (some ⟨g, 0, none⟩) xs.length c) xs.length xs →
  Calls Try.prog 49 #[.slice (some ⟨g, 0, none⟩) xs.length c] u fun e w' => e = .returned (.tuple #[]) ∧ w'.ownsRow B 42 1 (.slice (some ⟨g, 0, none⟩) xs.length c) xs.length xs.reverse ∧ u.grownBy w' (some g)
theorem rev_nil (a : Option Addr) (c : Nat) (w : World) : Calls Try.prog 49 #[.slice a 0 c] w fun e w' => e = .returned (.tuple #[]) ∧ Below w.heap.size w w' := by
  go_enter Try.func49, Try.ntmps49
  go_wp2_with fail
  go_loopw [2, 3] (fun i j wr => i = .int .i64 0 ∧ j = .int .i64 (-1) ∧ Hid (Below w.heap.size w wr)) (fun _ _ _ => 0)
  case atStart => exact ⟨rfl, rfl, Below.refl _ _⟩
  case round =>
    obtain ⟨rfl, rfl, HB⟩ := hrel
    go_wp2
    go_end0
    exact ⟨rfl, HB.out⟩
set_option maxRecDepth 100000 in
set_option maxHeartbeats 2000000 in
theorem partsOf_any (hRv : RevOk) (w : World) (b B n : Nat) (cnt : Int) (top : List Int) (tv bp : Value) (C : List Fp) (hP : Pcs w b B (n : Int) cnt top tv bp C) (hC : C.length ≤ 4000) :
    Calls Try.prog 44 #[.pointer (some ⟨b, 0, none⟩)] w fun e w' => ∃ v, e = .returned v ∧ w'.ownsRow w.heap.size 42 1 v (valsP C top tv).length (valsP C top tv).reverse ∧ Below w.heap.size w w' := by
  obtain ⟨at_, ct, rfl⟩ := own_form hP.row
  obtain ⟨bo, rfl⟩ := hP.chn.form
  obtain ⟨b0, b1, b2, b3⟩ := hP.cell
  have HC : Hid (Chn w B (.pointer bo) C) := hP.chn
  have HSl : Hid (∀ v ∈ valsP C top (.slice at_ top.length ct), ∃ a n c, v = Value.slice a n c) := fun v hv => by
    unfold valsP at hv
    rcases List.mem_append.1 hv with h1 | h1
    · by_cases h2 : top = []
      · rw [if_pos h2] at h1; cases h1
      · rw [if_neg h2] at h1; rw [List.mem_singleton.1 h1]; exact ⟨_, _, _, rfl⟩
    · obtain ⟨y, hy, rfl⟩ := List.mem_map.1 h1
      obtain ⟨a, c, e⟩ := own_form (Chn.at C _ hP.chn y hy).2.1
      exact ⟨a, _, c, e⟩
  have HR : Hid RevOk := hRv
  obtain ⟨j0, hj, hy0, hy1, hy2⟩ := info_parts infoPt
  clear hP hRv
  obtain ⟨tv, htv⟩ : ∃ tv, tv = Value.slice at_ top.length ct := ⟨_, rfl⟩
  have HE0 : Hid (∀ (m : Nat) (C1 C2 : List Fp), C = C1 ++ C2 → m = (valsP C1 top tv).length → m ≤ 4001) := fun m C1 C2 h1 h2 => by
    rw [h2, valsP, List.length_append, List.length_map]
    have h3 : C1.length ≤ C.length := by rw [h1, List.length_append]; omega
    split <;> simp <;> omega
  have HS : Hid (∀ (C1 : List Fp) (y : Fp), valsP (C1 ++ [y]) top tv = valsP C1 top tv ++ [y.val]) := fun C1 y => by unfold valsP; simp
  have HT0 : Hid (top = [] → valsP [] top tv = []) := fun h => by unfold valsP; rw [if_pos h]; rfl
  have HT1 : Hid (top ≠ [] → valsP [] top tv = [tv]) := fun h => by unfold valsP; rw [if_neg h]; rfl
  rw [← htv] at HSl ⊢
  have HTv : Hid (tv = Value.slice at_ top.length ct) := htv
  clear htv
  by_cases h0 : top = []
  case' pos =>
    have HX : Hid (∀ u : World, u.ownsRow w.heap.size 42 1 (.slice none 0 0) 0 (valsP [] top tv) ∧ 0 = (valsP [] top tv).length) := fun u => by rw [HT0.out h0]; exact ⟨World.ownsRow_nil _ _ _ _, rfl⟩
    have hp : top.length = 0 := by rw [h0]; rfl
    rw [hp] at b2
    clear h0
    go_enter Try.func44, Try.ntmps44
    go_wp2_with fail
    have HZ : Hid (∃ (am : Option Addr) (m cm : Nat), (Value.slice none 0 0) = .slice am m cm ∧ w.ownsRow w.heap.size 42 1 (.slice am m cm) m (valsP [] top tv) ∧ m = (valsP [] top tv).length ∧ Below w.heap.size w w) := ⟨_, _, _, rfl, (HX.out w).1, (HX.out w).2, Below.refl _ _⟩
  case' neg =>
    have hp : 0 < top.length := List.length_pos_iff.2 h0
    have HX : Hid (valsP [] top tv = [.slice at_ top.length ct]) := by show _ = _; rw [HT1.out h0, HTv.out]
    clear h0
    go_enter Try.func44, Try.ntmps44
    go_wp2_with (at_builtin; refine wpList_append_lies _ rfl (.tmp 11) (.tmp 16) 72 rfl w.heap.size 42 j0 _ 1 24 Try.underlying72 hj hy0 hy1 hy2 rfl (by decide) _ 0 [] rfl (World.ownsRow_nil _ _ _ _) ⟨_, 0, none⟩ 1 1 [.slice at_ top.length ct] rfl rfl ?c1 ?c2 (by decide) ?c3 ?c4 ?c5 _ rfl ?_)
    case c1 => exact newsX (heap_new' _ _ _ (by simp))
    case c2 => intro u hu; simp at hu; rcases hu with rfl; rfl
    case c3 => unfold maxLen; omega
    case c4 => omega
    case c5 => simp
    intro g' c' w4 hown hgrow _ _
    have HB4 : Hid (Below w.heap.size w w4) := ((Below.refl _ w).alloc (Nat.le_refl _) _).grown hgrow (by simp) (fun k hk => by cases hk)
    have HO4 : Hid (w4.ownsRow w.heap.size 42 1 (.slice (some ⟨g', 0, none⟩) 1 c') 1 (valsP [] top tv)) := by show World.ownsRow _ _ _ _ _ _ _; rw [HX.out]; simpa using hown
    have HL4 : Hid (1 = (valsP [] top tv).length) := by rw [HX.out]; rfl
    clear hown hgrow
    have b3' := cell_keep HB4.out b3
    clear b0 b1 b2 b3
    go_wp2_with fail
    have HZ : Hid (∃ (am : Option Addr) (m cm : Nat), (Value.slice (some ⟨g', 0, none⟩) 1 c') = .slice am m cm ∧ w4.ownsRow w.heap.size 42 1 (.slice am m cm) m (valsP [] top tv) ∧ m = (valsP [] top tv).length ∧ Below w.heap.size w w4) := ⟨_, _, _, rfl, HO4.out, HL4.out, HB4.out⟩
  all_goals
    go_loopw [3, 4] (fun v p wr => ∃ (am : Option Addr) (m cm : Nat) (bq : Option Addr) (C1 C2 : List Fp), v = .slice am m cm ∧ p = .pointer bq ∧ m ≤ 4001 ∧ Hid (C = C1 ++ C2) ∧ Hid (m = (valsP C1 top tv).length) ∧ Hid (wr.ownsRow w.heap.size 42 1 (.slice am m cm) m (valsP C1 top tv)) ∧ Hid (Chn w B (.pointer bq) C2) ∧ Hid (Below w.heap.size w wr)) (fun v _ _ => 4002 - lenV v)
    case atStart =>
      obtain ⟨am, m, cm, e, ho, hm, hb⟩ := HZ.out
      exact ⟨am, m, cm, bo, [], C, e, rfl, HE0.out m [] C rfl hm, rfl, hm, ho, HC.out, hb⟩
    case round =>
      obtain ⟨am, m, cm, bq, C1, C2, rfl, rfl, hm, HC12, HM, HO, HCh, HB⟩ := hrel
      have hzr : w.heap.size ≤ wr.heap.size := HB.out.size
      cases C2 with
      | nil =>
        have hbq : bq = none := by have h9 : Value.pointer bq = .pointer none := HCh.out; injection h9
        subst hbq
        have HCe : Hid (valsP C top tv = valsP C1 top tv) := by show _ = _; rw [HC12.out, List.append_nil]
        by_cases hm0 : m = 0
        · subst hm0
          have HR0 : Hid (∀ u, Calls Try.prog 49 #[.slice am 0 cm] u fun e w' => e = .returned (.tuple #[]) ∧ Below u.heap.size u w') := fun u => rev_nil am cm u
          have HN : Hid (valsP C1 top tv = []) := List.length_eq_zero_iff.1 HM.out.symm
          go_wp2_with fail
          refine (HR0.out _).mono ?_
          rintro e w5 ⟨rfl, b5⟩
          have HB5 : Hid (Below w.heap.size w w5) := HB.out.trans (b5.mono hzr)
          have HO5 : Hid (w5.ownsRow w.heap.size 42 1 (.slice am 0 cm) 0 (valsP C1 top tv)) := own_below HO.out b5
          clear b5
          go_wp2
          go_ret
          refine ⟨_, rfl, ?_, HB5.out⟩
          rw [HCe.out, HN.out]
          have := HO5.out
          rw [HN.out] at this
          exact this
        · obtain ⟨g, c', hv, _, _⟩ := HO.out.form (by omega)
          obtain ⟨rfl, rfl⟩ : am = some ⟨g, 0, none⟩ ∧ cm = c' := by simp at hv; exact hv
          have HR1 : Hid (Calls Try.prog 49 #[.slice (some ⟨g, 0, none⟩) m cm] wr fun e w' => e = .returned (.tuple #[]) ∧ w'.ownsRow w.heap.size 42 1 (.slice (some ⟨g, 0, none⟩) m cm) m (valsP C1 top tv).reverse ∧ wr.grownBy w' (some g)) := by
            have h9 := HO.out
            rw [HM.out] at h9
            have h8 := HR.out wr w.heap.size g cm (valsP C1 top tv) (by have := HM.out; omega) (by have := HM.out; omega) (by rw [← HCe.out]; exact HSl.out) h9
            rw [← HM.out] at h8
            exact h8
          have hgl := (HO.out.lt g rfl).1
          clear hv
          go_wp2_with fail
          refine HR1.out.mono ?_
          rintro e w5 ⟨rfl, o5, g5⟩
          have HB5 : Hid (Below w.heap.size w w5) := HB.out.trans (below_of_grown g5 hzr (fun k hk => by simp at hk; omega))
          have HO5 : Hid (w5.ownsRow w.heap.size 42 1 (.slice (some ⟨g, 0, none⟩) m cm) m (valsP C1 top tv).reverse) := o5
          clear o5 g5 HR1
          go_wp2
          go_ret
          refine ⟨_, rfl, ?_, HB5.out⟩
          rw [HCe.out, ← HM.out]
          exact HO5.out
      | cons y r =>
        obtain ⟨q, e1, e2, e3, e4, e5⟩ := HCh.out
        obtain rfl : bq = some ⟨y.at_, 0, none⟩ := by injection e1
        obtain ⟨bq2, rfl⟩ := e5.form
        have hyl : y.at_ < w.heap.size := (Array.getElem?_eq_some_iff.1 e3).1
        have hyh : wr.heap[y.at_]? = some (.cells #[y.val, .pointer bq2] 79) := by rw [HB.out.block y.at_ hyl]; exact e3
        obtain ⟨ai, ci, hyv⟩ := own_form e4
        have c0 : wr.cell? ⟨y.at_, 0, none⟩ = some (.slice ai y.items.length ci) := by rw [cell_of_heap hyh, ← hyv]; rfl
        have HNx : Hid (∀ u : World, Below w.heap.size w u → u.cell? ⟨y.at_, 1, none⟩ = some (.pointer bq2)) := fun u hu => by
          have h9 : u.heap[y.at_]? = some (.cells #[y.val, .pointer bq2] 79) := by rw [hu.block y.at_ hyl]; exact e3
          rw [cell_of_heap h9]; rfl
        have HCn : Hid (Chn w B (.pointer bq2) r) := e5
        have HSy : Hid (valsP (C1 ++ [y]) top tv = valsP C1 top tv ++ [.slice ai y.items.length ci]) := by show _ = _; rw [HS.out, hyv]
        have HC3 : Hid (C = (C1 ++ [y]) ++ r) := by show _ = _; rw [HC12.out]; simp
        clear e1 e2 e3 e4 e5 hyh hyv HCh HZ
        go_wp2_with (at_builtin; refine wpList_append_lies _ rfl (.tmp 28) (.tmp 33) 72 rfl w.heap.size 42 j0 _ 1 24 Try.underlying72 hj hy0 hy1 hy2 rfl (by decide) _ m (valsP C1 top tv) rfl (HO.out.alloc _) ⟨_, 0, none⟩ 1 1 [.slice ai y.items.length ci] rfl rfl ?c1 ?c2 (by decide) ?c3 ?c4 ?c5 _ rfl ?_)
        case c1 => exact newsX (heap_new' _ _ _ (by simp))
        case c2 => intro u hu; simp at hu; rcases hu with rfl; rfl
        case c3 => unfold maxLen; omega
        case c4 => omega
        case c5 => simp; omega
        intro g' c' w4 hown hgrow _ _
        have HB4 : Hid (Below w.heap.size w w4) := (HB.out.alloc hzr _).grown hgrow (by simp; omega) (fun k hk => (HO.out.lt k hk).1)
        have HO4 : Hid (w4.ownsRow w.heap.size 42 1 (.slice (some ⟨g', 0, none⟩) (m + 1) c') (m + 1) (valsP (C1 ++ [y]) top tv)) := by show World.ownsRow _ _ _ _ _ _ _; rw [HSy.out]; exact hown
        have HL4 : Hid (m + 1 = (valsP (C1 ++ [y]) top tv).length) := by show _ = _; rw [HSy.out, List.length_append, ← HM.out]; rfl
        have hm4 := HE0.out (m + 1) (C1 ++ [y]) r HC3.out HL4.out
        have c1 := HNx.out w4 HB4.out
        clear hown hgrow c0
        go_wp2
        exact ⟨⟨_, m + 1, c', bq2, C1 ++ [y], r, rfl, rfl, hm4, HC3.out, HL4.out, HO4.out, HCn.out, HB4.out⟩, by simp [lenV]; omega⟩
end Go.Proofs.Ytdohpfckiahlcaa
