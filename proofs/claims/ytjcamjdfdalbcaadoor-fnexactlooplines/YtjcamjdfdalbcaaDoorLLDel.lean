/-
  slices.IndexFunc and slices.DeleteFunc over a row of texts, at the program's isBlank: what is left is what is not blank; nothing but the row itself is turned.
-/
import Derived.Test.YtjcamjdfdalbcaaDoorLLBlank
import Derived.Test.YtjcamjdfdalbcaaDoorStStr
import Derived.Lib.SliceRun
namespace Go.Proofs.YtjcamjdfdalbcaaDoor
open Go.RowKit Go.Extern.Stop Go.Stop Go.Extern Num Go.Lib

def nbB (x : ByteArray) : Bool := !blankB x
theorem own_setCells {B g n cap i : Nat} : ∀ (vs : List Value) (o : Nat) (w : World) (xs : List Value), w.ownsRow B 9 1 (.slice (some ⟨g, 0, none⟩) n cap) n xs → i ≤ o → ∃ ys, (w.setCells g o vs).ownsRow B 9 1 (.slice (some ⟨g, 0, none⟩) n cap) n ys ∧ ys.take i = xs.take i
  | [], _, _, xs, h, _ => ⟨xs, h, rfl⟩
  | v :: vs, o, w, xs, h, hi => by
    obtain ⟨ys, h1, h2⟩ := own_setCells (i := i) vs (o + 1) (w.setCell ⟨g, o, none⟩ v) _ (own_put h o v) (by omega)
    exact ⟨ys, h1, by rw [h2, List.take_set_of_le hi]⟩
theorem gb_setCells {g : Nat} {w : World} : ∀ (vs : List Value) (o : Nat) (a : World), w.grownBy a (some g) → w.grownBy (a.setCells g o vs) (some g)
  | [], _, _, h => h
  | v :: vs, o, a, h => gb_setCells vs (o + 1) (a.setCell ⟨g, o, none⟩ v) (gb_set h v)
theorem own_takeS {w : World} {B g n cap k : Nat} {xs : List Value} (h : w.ownsRow B 9 1 (.slice (some ⟨g, 0, none⟩) n cap) n xs) (hk : k ≤ n) : w.ownsRow B 9 1 (.slice (some ⟨g, 0, none⟩) k cap) k (xs.take k) := by
  obtain ⟨h0, ⟨h1, -⟩ | ⟨g', cap', cur, h1, h2, h3, h4, h5, h6, h7⟩⟩ := h
  · cases h1
  · obtain ⟨rfl, rfl⟩ : g = g' ∧ cap = cap' := by simp at h1; exact h1
    refine ⟨by rw [List.length_take]; omega, .inr ⟨g, cap, cur, rfl, h2, h3, by omega, h5, h6, ?_⟩⟩
    rw [← h7, List.take_take]
    congr 1
    omega
/-- What IndexFunc tells. -/
def IdxA (l : List ByteArray) (k : Int) : Prop :=
  (k = -1 ∧ ∀ (j : Nat) (h : j < l.length), blankB l[j] = false) ∨ ∃ (i : Nat) (h : i < l.length), k = i ∧ blankB l[i] = true ∧ ∀ (j : Nat) (h : j < l.length), j < i → blankB l[j] = false
set_option maxRecDepth 100000 in
set_option maxHeartbeats 1000000 in
theorem indexS_any (l : List ByteArray) (g B c : Nat) (w : World) (hl : l.length ≤ 1048576) (hO : w.ownsRow B 9 1 (.slice (some ⟨g, 0, none⟩) l.length c) l.length (cellsT l)) (hz : ∀ (k : Nat) (h : k < l.length), l[k].size ≤ 1048576) :
    Calls Tryd.prog 20 #[.slice (some ⟨g, 0, none⟩) l.length c, .func (.func 14) #[] #[]] w fun e w' => (∃ k : Int, e = .returned (.int .i64 k) ∧ IdxA l k) ∧ Below w.heap.size w w' := by
  have HO : Hid (w.ownsRow B 9 1 (.slice (some ⟨g, 0, none⟩) l.length c) l.length (cellsT l)) := hO
  have HF : Hid (∀ (k : Nat) (h : k < l.length) (u : World), Calls Tryd.prog 14 #[.string l[k]] u fun e w' => e = .returned (.bool (blankB l[k])) ∧ Below u.heap.size u w') := fun k h u => isBlank_any _ (hz k h) u
  clear hO hz
  go_enter Tryd.func20, Tryd.ntmps20
  go_wp2_with fail
  go_loopw [8] (fun i wr => ∃ j : Nat, j ≤ l.length ∧ i = .int .i64 (j : Int) ∧ Hid (∀ (k : Nat) (hk : k < l.length), k < j → blankB l[k] = false) ∧ Hid (Below w.heap.size w wr)) (fun i _ => l.length - (RowKit.intOf i).toNat)
  case atStart => exact ⟨0, Nat.zero_le _, rfl, fun k _ hk => by omega, Below.refl _ _⟩
  case round =>
    obtain ⟨j, hj, rfl, HJ, HB⟩ := hrel
    by_cases hlt : j < l.length
    · have q0 := rowT_at (own_below HO.out HB.out) j hlt
      have HX := HF.out j hlt wr
      obtain ⟨D, hD⟩ : ∃ D, blankB (l[j]'hlt) = D := ⟨_, rfl⟩
      have HD : Hid (blankB (l[j]'hlt) = D) := hD
      rw [hD] at HX
      have HX : Hid (Calls Tryd.prog 14 #[.string (l[j]'hlt)] wr fun e w' => e = .returned (.bool D) ∧ Below wr.heap.size wr w') := HX
      clear hD
      generalize hx : (l[j]'hlt) = x at q0 HX
      clear hx
      cases D
      · have HJ2 : Hid (∀ (k : Nat) (hk : k < l.length), k < j + 1 → blankB l[k] = false) := fun k hk hkj => by
          by_cases e : k < j
          · exact HJ.out k hk e
          · have : k = j := by omega
            subst this; exact HD.out
        clear HJ
        go_wp2_with fail
        refine HX.out.mono ?_
        rintro e w1 ⟨rfl, b1⟩
        have HB1 : Hid (Below w.heap.size w w1) := HB.out.trans (b1.mono HB.out.size)
        clear b1 HX q0
        go_wp2
        exact ⟨⟨j + 1, by omega, by go_num, HJ2.out, HB1.out⟩, by simp [RowKit.intOf]; omega⟩
      · have HA : Hid (IdxA l (j : Int)) := .inr ⟨j, hlt, rfl, HD.out, fun k hk hkj => HJ.out k hk hkj⟩
        go_wp2_with fail
        refine HX.out.mono ?_
        rintro e w1 ⟨rfl, b1⟩
        have HB1 : Hid (Below w.heap.size w w1) := HB.out.trans (b1.mono HB.out.size)
        clear b1 HX q0
        go_wp2
        go_ret
        exact ⟨⟨(j : Int), rfl, HA.out⟩, HB1.out⟩
    · have HA : Hid (IdxA l (-1)) := .inl ⟨rfl, fun k hk => HJ.out k hk (by omega)⟩
      clear HJ
      go_wp2
      go_ret
      exact ⟨⟨-1, rfl, HA.out⟩, HB.out⟩
/-- How far DeleteFunc is at the j-th one: i of those so far stay. -/
structure DelAt (w wr : World) (B g : Nat) (l : List ByteArray) (i j : Nat) : Prop where
  lt : i < j
  le : j ≤ l.length
  cnt : i = ((l.take j).filter nbB).length
  gb : w.grownBy wr (some g)
  row : ∃ X, wr.ownsRow B 9 1 (.slice (some ⟨g, 0, none⟩) l.length l.length) l.length X ∧ X.take i = cellsT ((l.take j).filter nbB) ∧ X.drop j = cellsT (l.drop j)
theorem filter_next (l : List ByteArray) (j : Nat) (h : j < l.length) : (l.take (j + 1)).filter nbB = (l.take j).filter nbB ++ if nbB l[j] = true then [l[j]] else [] := by
  rw [takeT l j h, List.filter_append]
  congr 1
  cases hn : nbB l[j] <;> simp [hn]
theorem DelAt.below {w wr w1 : World} {B g i j : Nat} {l : List ByteArray} (h : DelAt w wr B g l i j) (hb : Below wr.heap.size wr w1) : DelAt w w1 B g l i j := by
  obtain ⟨h1, h2, h3, h4, X, h5, h6, h7⟩ := h
  exact ⟨h1, h2, h3, gb_below h4 hb, X, own_below h5 hb, h6, h7⟩
theorem DelAt.skip {w wr : World} {B g i j : Nat} {l : List ByteArray} (h : DelAt w wr B g l i j) (hj : j < l.length) (hn : blankB l[j] = true) : DelAt w wr B g l i (j + 1) := by
  obtain ⟨h1, h2, h3, h4, X, h5, h6, h7⟩ := h
  have e := filter_next l j hj
  rw [show nbB l[j] = false by unfold nbB; rw [hn]; rfl, if_neg (by decide), List.append_nil] at e
  refine ⟨by omega, by omega, by rw [e]; exact h3, h4, X, h5, by rw [e]; exact h6, ?_⟩
  rw [← List.drop_drop, h7, cellsT, cellsT, ← List.map_drop, List.drop_drop]
theorem DelAt.keep {w wr : World} {B g i j : Nat} {l : List ByteArray} (h : DelAt w wr B g l i j) (hj : j < l.length) (hn : blankB l[j] = false) : DelAt w (wr.setCell ⟨g, i, none⟩ (.string l[j])) B g l (i + 1) (j + 1) := by
  obtain ⟨h1, h2, h3, h4, X, h5, h6, h7⟩ := h
  have e := filter_next l j hj
  rw [show nbB l[j] = true by unfold nbB; rw [hn]; rfl, if_pos rfl] at e
  have hX := h5.1
  refine ⟨by omega, by omega, by rw [e, List.length_append, ← h3]; rfl, gb_set h4 _, _, own_put h5 i _, ?_, ?_⟩
  · rw [putT X _ i _ h6 (by omega), e, cellsT_append]; rfl
  · rw [List.drop_set_of_lt (by omega), ← List.drop_drop, h7, cellsT, cellsT, ← List.map_drop, List.drop_drop]
theorem DelAt.at {w wr : World} {B g i j : Nat} {l : List ByteArray} (h : DelAt w wr B g l i j) (hj : j < l.length) : wr.cell? ⟨g, j, none⟩ = some (.string l[j]) := by
  obtain ⟨h1, h2, h3, h4, X, h5, h6, h7⟩ := h
  have ha : ∀ k, (⟨g, 0, none⟩ : Addr).add k = ⟨g, k, none⟩ := fun k => by unfold Addr.add; split <;> simp_all
  rw [← ha]
  refine h5.cells (g := g) rfl j _ ?_
  have : (X.drop j)[0]? = some (.string l[j]) := by rw [h7]; simp [cellsT, hj]
  rwa [List.getElem?_drop] at this
theorem DelAt.start {w : World} {B g i : Nat} {l : List ByteArray} (h : w.ownsRow B 9 1 (.slice (some ⟨g, 0, none⟩) l.length l.length) l.length (cellsT l)) (hi : i < l.length) (hb : blankB l[i] = true) (hn : ∀ (j : Nat) (h : j < l.length), j < i → blankB l[j] = false) : DelAt w w B g l i (i + 1) := by
  have e0 : (l.take i).filter nbB = l.take i := by
    rw [List.filter_eq_self]
    intro x hx
    obtain ⟨k, hk, rfl⟩ := List.mem_iff_getElem.1 hx
    have hk' : k < i := by rw [List.length_take] at hk; omega
    rw [List.getElem_take, nbB, hn k (by omega) hk']; rfl
  have e := filter_next l i hi
  rw [e0, show nbB l[i] = false by unfold nbB; rw [hb]; rfl, if_neg (by decide), List.append_nil] at e
  refine ⟨by omega, by omega, by rw [e, List.length_take]; omega, gb_refl _ _, _, h, ?_, ?_⟩
  · rw [e, cellsT, cellsT, List.map_take]
  · rw [cellsT, cellsT, List.map_drop]
/-- What DeleteFunc leaves. -/
def DelE (w w' : World) (B g : Nat) (l : List ByteArray) (e : Ending) : Prop :=
  ∃ M : List ByteArray, M = l.filter nbB ∧ e = .returned (.slice (some ⟨g, 0, none⟩) M.length l.length) ∧ w'.ownsRow B 9 1 (.slice (some ⟨g, 0, none⟩) M.length l.length) M.length (cellsT M) ∧ w.grownBy w' (some g)
set_option maxRecDepth 100000 in
set_option maxHeartbeats 1000000 in
theorem deleteS_any (l : List ByteArray) (g B : Nat) (w : World) (hl : l.length ≤ 1048576) (hO : w.ownsRow B 9 1 (.slice (some ⟨g, 0, none⟩) l.length l.length) l.length (cellsT l)) (hz : ∀ (k : Nat) (h : k < l.length), l[k].size ≤ 1048576) :
    Calls Tryd.prog 11 #[.slice (some ⟨g, 0, none⟩) l.length l.length, .func (.func 14) #[] #[]] w fun e w' => DelE w w' B g l e := by
  have HO : Hid (w.ownsRow B 9 1 (.slice (some ⟨g, 0, none⟩) l.length l.length) l.length (cellsT l)) := hO
  have HF : Hid (∀ (k : Nat) (h : k < l.length) (u : World), Calls Tryd.prog 14 #[.string l[k]] u fun e w' => e = .returned (.bool (blankB l[k])) ∧ Below u.heap.size u w') := fun k h u => isBlank_any _ (hz k h) u
  have HI : Hid (Calls Tryd.prog 20 #[.slice (some ⟨g, 0, none⟩) l.length l.length, .func (.func 14) #[] #[]] w fun e w' => (∃ k : Int, e = .returned (.int .i64 k) ∧ IdxA l k) ∧ Below w.heap.size w w') := indexS_any l g B _ w hl hO hz
  clear hO hz
  go_enter Tryd.func11, Tryd.ntmps11
  go_wp2_with fail
  refine HI.out.mono ?_
  rintro e w1 ⟨⟨k, rfl, hk⟩, b1⟩
  have HB1 : Hid (Below w.heap.size w w1) := b1
  clear b1 HI
  rcases hk with ⟨rfl, hn⟩ | ⟨i, hi, rfl, hb, hn⟩
  · have HM : Hid (l.filter nbB = l) := by
      show _ = _
      rw [List.filter_eq_self]
      intro x hx
      obtain ⟨k, hk, rfl⟩ := List.mem_iff_getElem.1 hx
      rw [nbB, hn k hk]; rfl
    clear hn
    go_wp2
    go_ret
    exact ⟨l, HM.out.symm, rfl, own_below HO.out HB1.out, gb_below (gb_refl _ _) HB1.out⟩
  · have HD0 : Hid (DelAt w w1 B g l i (i + 1)) := (DelAt.start HO.out hi hb hn).below HB1.out
    have hn1 : ((i : Int) == -1) = false := by rw [beq_eq_false_iff_ne]; omega
    clear hb hn
    go_wp2_with fail
    go_loopw [5, 6, 7] (fun a b _ wr => ∃ i j : Nat, j ≤ l.length ∧ i < j ∧ a = .int .i64 (i : Int) ∧ b = .int .i64 (j : Int) ∧ Hid (DelAt w wr B g l i j)) (fun _ b _ _ => l.length - (RowKit.intOf b).toNat)
    case atStart => exact ⟨i, i + 1, by omega, by omega, rfl, by go_num, HD0.out⟩
    case round =>
      obtain ⟨i, j, hj, hij, rfl, rfl, HD⟩ := hrel
      by_cases hlt : j < l.length
      · have q0 := HD.out.at hlt
        obtain ⟨D, hD⟩ : ∃ D, blankB (l[j]'hlt) = D := ⟨_, rfl⟩
        have HX : Hid (Calls Tryd.prog 14 #[.string (l[j]'hlt)] wr fun e w' => e = .returned (.bool D) ∧ Below wr.heap.size wr w') := by
          have := HF.out j hlt wr
          rw [hD] at this
          exact this
        cases D
        · have HK : Hid (∀ u, DelAt w u B g l i j → DelAt w (u.setCell ⟨g, i, none⟩ (.string (l[j]'hlt))) B g l (i + 1) (j + 1)) := fun u h => h.keep hlt hD
          clear hD
          generalize hx : (l[j]'hlt) = x at q0 HX HK
          clear hx
          go_wp2_with fail
          refine HX.out.mono ?_
          rintro e w2 ⟨rfl, b2⟩
          have HD2 : Hid (DelAt w w2 B g l i j) := HD.out.below b2
          clear b2 HX q0
          obtain ⟨X, hXo, -, -⟩ := HD2.out.row
          have ff : ∀ j, w2.frozen? ⟨g, j, none⟩ = false := own_frozen hXo
          obtain ⟨x0, e0⟩ := own_cell hXo i (by have := hXo.1; omega)
          clear hXo
          have hil : (i : Int) < (l.length : Int) := by omega
          have HR := HK.out w2 HD2.out
          have HR : Hid (DelAt w (w2.setCell ⟨g, i, none⟩ (.string x)) B g l (i + 1) (j + 1)) := HR
          go_wp2
          exact ⟨⟨i + 1, j + 1, by omega, by omega, by go_num, by go_num, HR.out⟩, by simp [RowKit.intOf]; omega⟩
        · have HK : Hid (∀ u, DelAt w u B g l i j → DelAt w u B g l i (j + 1)) := fun u h => h.skip hlt hD
          clear hD
          generalize hx : (l[j]'hlt) = x at q0 HX
          clear hx
          go_wp2_with fail
          refine HX.out.mono ?_
          rintro e w2 ⟨rfl, b2⟩
          have HR : Hid (DelAt w w2 B g l i (j + 1)) := HK.out _ (HD.out.below b2)
          clear b2 HX q0
          go_wp2
          exact ⟨⟨i, j + 1, by omega, by omega, rfl, by go_num, HR.out⟩, by simp [RowKit.intOf]; omega⟩
      · obtain rfl : j = l.length := by omega
        obtain ⟨X, hXo, hXt, -⟩ := HD.out.row
        rw [List.take_length] at hXt
        have hcn := HD.out.cnt
        rw [List.take_length] at hcn
        have ff : ∀ j, wr.frozen? ⟨g, j, none⟩ = false := own_frozen hXo
        have hzs : ∀ u, (zeroValue 9).run Tryd.prog u = .ok (.string ⟨#[]⟩) u := fun u => by simp [go_sem]
        obtain ⟨wz, hwz⟩ : ∃ wz, wz = wr.setCells g i (List.replicate (l.length - i) (.string ⟨#[]⟩)) := ⟨_, rfl⟩
        have hcl : (Builtin.clear_ #[22] 0 #[.slice (some ⟨g, i, none⟩) (l.length - i) (l.length - i)]).run Tryd.prog wr = .ok (.tuple #[]) wz := by
          rw [Lib.run_clear_slice wr 22 9 0 (.string ⟨#[]⟩) Tryd.underlying22 hzs rfl rfl g i (l.length - i) (l.length - i) (by omega) (fun j hj => ?_) (fun j hj => ?_), hwz]
          · obtain ⟨x0, e0⟩ := own_cell hXo (i + j) (by have := hXo.1; omega)
            rw [e0]; rfl
          · exact ff _
        obtain ⟨ys, hy, hyt⟩ := own_setCells (i := i) (List.replicate (l.length - i) (.string ⟨#[]⟩)) i wr X hXo (Nat.le_refl _)
        rw [← hwz] at hy
        have hT := own_takeS hy (k := i) (by omega)
        rw [hyt, hXt] at hT
        have HG : Hid (w.grownBy wz (some g)) := by rw [hwz]; exact gb_setCells _ _ _ HD.out.gb
        have HT : Hid (wz.ownsRow B 9 1 (.slice (some ⟨g, 0, none⟩) i l.length) i (cellsT (l.filter nbB))) := hT
        have HN : Hid (i = (l.filter nbB).length) := hcn
        have hil : (i : Int) < (l.length : Int) := by omega
        clear hXo hXt hcn hy hyt hT hwz ff hzs
        go_wp2
        go_ret
        exact ⟨_, rfl, by rw [← HN.out]; rfl, by rw [← HN.out]; exact HT.out, HG.out⟩
end Go.Proofs.YtjcamjdfdalbcaaDoor
