/-
  Parts of the proof laid into one text, one behind the other: HeldKit, ImplLink, ImplPl, ImplPf, ImplCf. Contracts of the program's and the model's functions, and what they are proved of, as their theorems say.
-/
import Derived.Test.YtoafolefecddmaaGreatDoorHjC
import Derived.Test.YtoafolefecddmaaGreatDoorHjD
import Derived.Test.YtoafolefecddmaaGreatDoorKeepKitHv
namespace Go.Proofs.YtoafolefecddmaaGreatDoor
open Go.RowKit Go.Extern.Stop Go.Stop Go.Extern Num Go.Lib
structure HItem where
  b : Blk
  a0 : Option Addr
  a1 : Option Addr
  co : Nat
  ch : Nat
  H : List Int
abbrev HItem.v0 (t : HItem) : Value := .slice t.a0 t.b.ops.length t.co
abbrev HItem.v1 (t : HItem) : Value := .slice t.a1 t.b.ops.length t.ch
def HItem.cells (t : HItem) (x : Int) : List Value := [.int .i64 t.b.args, t.v0, t.v1, .int .i64 x]
def HItem.held (t : HItem) (w : World) (B : Nat) : Prop := HeldR w B t.a0 t.a1 t.co t.ch t.b.ops t.H
def cellsH : List HItem → List Int → List Value
  | t :: r, a :: s => t.cells a ++ cellsH r s
  | _, _ => []
theorem cellsH_at : ∀ (L : List HItem) (A : List Int) (k : Nat) (hk : k < L.length) (hk' : k < A.length) (i : Nat), i < 4 → (cellsH L A)[k * 4 + i]? = (L[k].cells A[k])[i]?
  | [], _, k, hk, _, _, _ => by simp at hk
  | _ :: _, [], k, _, hk, _, _ => by simp at hk
  | t :: r, a :: s, 0, _, _, i, hi => by
    simp only [cellsH, Nat.zero_mul, Nat.zero_add]
    rw [List.getElem?_append_left (by simp [HItem.cells]; omega)]
    rfl
  | t :: r, a :: s, k + 1, hk, hk', i, hi => by
    have h4 : (t.cells a).length = 4 := rfl
    simp only [cellsH]
    rw [List.getElem?_append_right (by omega), show (k + 1) * 4 + i - (t.cells a).length = k * 4 + i by omega, cellsH_at r s k (by simpa using hk) (by simpa using hk') i hi]
    rfl
theorem cellsH_set : ∀ (L : List HItem) (A : List Int) (k : Nat) (x : Int), k < L.length → k < A.length → (cellsH L A).set (k * 4 + 3) (.int .i64 x) = cellsH L (A.set k x)
  | [], _, k, _, hk, _ => by simp at hk
  | _ :: _, [], k, _, _, hk => by simp at hk
  | t :: r, a :: s, 0, x, _, _ => by simp [cellsH, HItem.cells]
  | t :: r, a :: s, k + 1, x, hk, hk' => by
    have h4 : (t.cells a).length = 4 := rfl
    simp only [cellsH, List.set_cons_succ]
    rw [List.set_append_right _ _ (by omega), show (k + 1) * 4 + 3 - (t.cells a).length = k * 4 + 3 by omega, cellsH_set r s k x (by simpa using hk) (by simpa using hk')]
theorem cellsH_snoc : ∀ (L : List HItem) (A : List Int) (t : HItem) (x : Int), A.length = L.length → cellsH (L ++ [t]) (A ++ [x]) = cellsH L A ++ t.cells x
  | [], [], t, x, _ => by simp [cellsH]
  | u :: r, a :: s, t, x, h => by simp [cellsH, cellsH_snoc r s t x (by simpa using h)]
  | [], _ :: _, _, _, h => by simp at h
  | _ :: _, [], _, _, h => by simp at h
theorem infoH : (Tryz.prog.info? 176).map (fun i => (i.zero, i.size, i.bytes)) = some (some (.agg #[.int .i64 0, .slice none 0 0, .slice none 0 0, .int .i64 0]), 4, 64) := by kernel_rfl
structure HdL (w : World) (B : Nat) (ao : Option Addr) (cr : Nat) (L : List HItem) (A : List Int) : Prop where
  len : A.length = L.length
  row : w.ownsRow B 176 4 (.slice ao L.length cr) L.length (cellsH L A)
  items : ∀ (k : Nat) (h : k < L.length), (L[k]).held w B
theorem HdL.below {w w' : World} {B : Nat} {ao : Option Addr} {cr : Nat} {L : List HItem} {A : List Int} (h : HdL w B ao cr L A) (hb : Below w.heap.size w w') : HdL w' B ao cr L A := ⟨h.len, own_below h.row hb, fun k hk => (h.items k hk).below hb⟩
theorem HItem.held.apart {t : HItem} {w w' : World} {B : Nat} {r : Option Nat} (h : t.held w B) (hg : w.grownBy w' r) (h0 : ∀ g, t.v0.ownBlock = some g → r ≠ some g) (h1 : ∀ g, t.v1.ownBlock = some g → r ≠ some g) : t.held w' B := ⟨own_apart h.ops hg h0, own_apart h.hs hg h1⟩
theorem HdL.apart {w : World} {B : Nat} {ao : Option Addr} {cr : Nat} {L : List HItem} {A : List Int} (h : HdL w B ao cr L A) (k : Nat) (hk : k < L.length) : (∀ g, (L[k]).v0.ownBlock = some g → (Value.slice ao L.length cr).ownBlock ≠ some g) ∧ (∀ g, (L[k]).v1.ownBlock = some g → (Value.slice ao L.length cr).ownBlock ≠ some g) :=
  ⟨fun g hg => typ_ne (h.items k hk).ops h.row (by decide) g hg, fun g hg => typ_ne (h.items k hk).hs h.row (by decide) g hg⟩
theorem HdL.put {w : World} {B gr cr : Nat} {L : List HItem} {A : List Int} (h : HdL w B (some ⟨gr, 0, none⟩) cr L A) (k : Nat) (x : Int) (hk : k < L.length) : HdL (w.setCell ⟨gr, k * 4 + 3, none⟩ (.int .i64 x)) B (some ⟨gr, 0, none⟩) cr L (A.set k x) := by
  have hg : w.grownBy (w.setCell ⟨gr, k * 4 + 3, none⟩ (.int .i64 x)) (some gr) := gb_set (gb_refl _ _) _
  refine ⟨by rw [List.length_set]; exact h.len, ?_, fun j hj => ?_⟩
  · rw [← cellsH_set L A k x hk (by rw [h.len]; exact hk)]
    exact own_put h.row (k * 4 + 3) _
  · obtain ⟨a, b⟩ := h.apart j hj
    exact (h.items j hj).apart hg a b
theorem rowH_at {w : World} {B gr cr : Nat} {L : List HItem} {A : List Int} (h : HdL w B (some ⟨gr, 0, none⟩) cr L A) (k : Nat) (hk : k < L.length) :
    w.cell? ⟨gr, k * 4, none⟩ = some (.int .i64 (L[k]).b.args) ∧ w.cell? ⟨gr, k * 4 + 1, none⟩ = some (L[k]).v0 ∧ w.cell? ⟨gr, k * 4 + 2, none⟩ = some (L[k]).v1 ∧ w.cell? ⟨gr, k * 4 + 3, none⟩ = some (.int .i64 (A.getD k 0)) := by
  have ha : ∀ j, (⟨gr, 0, none⟩ : Addr).add j = ⟨gr, j, none⟩ := fun j => by unfold Addr.add; split <;> simp_all
  have hc := h.row.cells (g := gr) rfl
  have hkA : k < A.length := by rw [h.len]; exact hk
  have q := cellsH_at L A k hk hkA
  have e : A.getD k 0 = A[k] := by simp [hkA]
  rw [e]
  exact ⟨by rw [← ha]; exact hc _ _ (q 0 (by omega)), by rw [← ha]; exact hc _ _ (q 1 (by omega)), by rw [← ha]; exact hc _ _ (q 2 (by omega)), by rw [← ha]; exact hc _ _ (q 3 (by omega))⟩
theorem HdL.more {w y z : World} {B : Nat} {ao : Option Addr} {cr : Nat} {L : List HItem} {A : List Int} {t : HItem} {x : Int} {g' c' : Nat} (h : HdL w B ao cr L A) (hb : Below w.heap.size w y) (ht : t.held y B) (hg : y.grownBy z (Value.slice ao L.length cr).ownBlock)
    (ho : z.ownsRow B 176 4 (.slice (some ⟨g', 0, none⟩) (L.length + 1) c') (L.length + 1) (cellsH L A ++ t.cells x)) : HdL z B (some ⟨g', 0, none⟩) c' (L ++ [t]) (A ++ [x]) := by
  have hy := h.below hb
  refine ⟨by simp [h.len], ?_, fun k hk => ?_⟩
  · rw [cellsH_snoc L A t x h.len, List.length_append]; exact ho
  · by_cases e : k < L.length
    · rw [List.getElem_append_left e]
      obtain ⟨a, b⟩ := hy.apart k e
      exact (hy.items k e).apart hg a b
    · have : k = L.length := by simp at hk; omega
      subst this
      rw [List.getElem_append_right (Nat.le_refl _)]
      simp only [Nat.sub_self, List.getElem_singleton]
      exact ht.apart hg (fun g hgg => typ_ne ht.ops hy.row (by decide) g hgg) (fun g hgg => typ_ne ht.hs hy.row (by decide) g hgg)
theorem nilHdL (w : World) (B : Nat) : HdL w B none 0 [] [] := ⟨rfl, ⟨rfl, .inl ⟨rfl, rfl⟩⟩, fun k hk => absurd hk (Nat.not_lt_zero k)⟩
theorem link1_any (args x : Int) (v0 v1 : Value) (w : World) : Calls Tryz.prog 161 #[heldV args v0 v1 x] w fun e w' => e = .returned (.bool (x == -1)) ∧ Below w.heap.size w w' := by
  obtain ⟨R, hR⟩ : ∃ R, R = (x == -1) := ⟨_, rfl⟩
  rw [← hR]
  have HR : Hid (R = (x == -1)) := hR
  clear hR
  go_enter Tryz.func161, Tryz.ntmps161
  go_wp2
  go_ret
  exact ⟨by rw [HR.out]; rfl, by repeat (first | exact Below.refl _ _ | refine Below.alloc ?_ (by simp <;> omega) _)⟩
set_option maxRecDepth 100000 in
set_option maxHeartbeats 1000000 in
theorem indexH_any (L : List HItem) (A : List Int) (B gr cr c m : Nat) (a : Option Addr) (w : World) (hl : L.length ≤ 60) (hm : m + 1 = L.length) (ha : 0 < m → a = some ⟨gr, 4, none⟩) (hH : HdL w B (some ⟨gr, 0, none⟩) cr L A) :
    Calls Tryz.prog 204 #[.slice a m c, .func (.func 161) #[] #[]] w fun e w' => (∃ k : Int, e = .returned (.int .i64 k) ∧ decide (0 ≤ k) = gapA A) ∧ Below w.heap.size w w' := by
  have HH : Hid (HdL w B (some ⟨gr, 0, none⟩) cr L A) := hH
  have hm60 : m ≤ 60 := by omega
  have HM : Hid (m + 1 = L.length) := hm
  have HAl : Hid (A.length = L.length) := hH.len
  clear hH hm
  go_enter Tryz.func204, Tryz.ntmps204
  go_wp2_with fail
  go_loopw [8] (fun i wr => ∃ j : Nat, j ≤ m ∧ i = .int .i64 (j : Int) ∧ Hid (∀ k, 1 ≤ k → k < j + 1 → A.getD k 0 ≠ -1) ∧ Hid (Below w.heap.size w wr)) (fun i _ => m - (RowKit.intOf i).toNat)
  case atStart => exact ⟨0, Nat.zero_le _, rfl, fun k h1 h2 => by omega, Below.refl _ _⟩
  case round =>
    obtain ⟨j, hj, rfl, HJ, HB⟩ := hrel
    by_cases hlt : j < m
    · have hae := ha (by omega)
      subst hae
      have hjL : j + 1 < L.length := by have := HM.out; omega
      obtain ⟨q0, q1, q2, q3⟩ := rowH_at (HH.out.below HB.out) (j + 1) hjL
      obtain ⟨t, ht⟩ : ∃ t, t = L[j + 1]'hjL := ⟨_, rfl⟩
      rw [← ht] at q0 q1 q2
      obtain ⟨x, hx⟩ : ∃ x, x = A.getD (j + 1) 0 := ⟨_, rfl⟩
      rw [← hx] at q3
      rw [show (j + 1) * 4 = 4 + j * 4 by omega] at q0 q1 q2 q3
      have HXe : Hid (A.getD (j + 1) 0 = x) := hx.symm
      have HX : Hid (∀ u, Calls Tryz.prog 161 #[heldV t.b.args t.v0 t.v1 x] u fun e w' => e = .returned (.bool (x == -1)) ∧ Below u.heap.size u w') := fun u => link1_any t.b.args x t.v0 t.v1 u
      clear ht hx
      cases hD : (x == -1)
      · have HJ2 : Hid (∀ k, 1 ≤ k → k < j + 1 + 1 → A.getD k 0 ≠ -1) := fun k h1 h2 => by
          by_cases e : k < j + 1
          · exact HJ.out k h1 e
          · have : k = j + 1 := by omega
            subst this
            rw [HXe.out]; simpa using hD
        rw [hD] at HX
        clear HJ
        go_wp2_with fail
        refine (HX.out _).mono ?_
        rintro e w1 ⟨rfl, b1⟩
        have HB1 : Hid (Below w.heap.size w w1) := HB.out.trans (b1.mono HB.out.size)
        clear b1 HX q0 q1 q2 q3 hD
        go_wp2
        exact ⟨⟨j + 1, by omega, by go_num, HJ2.out, HB1.out⟩, by simp [RowKit.intOf]; omega⟩
      · have HA : Hid (gapA A = true) := gapA_hit (j + 1) (by omega) (by rw [HAl.out]; exact hjL) (by rw [HXe.out]; simpa using hD)
        rw [hD] at HX
        go_wp2_with fail
        refine (HX.out _).mono ?_
        rintro e w1 ⟨rfl, b1⟩
        have HB1 : Hid (Below w.heap.size w w1) := HB.out.trans (b1.mono HB.out.size)
        clear b1 HX q0 q1 q2 q3 hD
        go_wp2
        go_ret
        exact ⟨⟨(j : Int), rfl, by rw [HA.out]; simp⟩, HB1.out⟩
    · have HA : Hid (gapA A = false) := gapA_none (fun k h1 h2 => HJ.out k h1 (by have := HM.out; rw [HAl.out] at h2; omega))
      clear HJ
      go_wp2
      go_ret
      exact ⟨⟨-1, rfl, by rw [HA.out]; rfl⟩, HB.out⟩
set_option maxHeartbeats 1000000 in
theorem containsH_any (L : List HItem) (A : List Int) (B gr cr c m : Nat) (a : Option Addr) (w : World) (hl : L.length ≤ 60) (hm : m + 1 = L.length) (ha : 0 < m → a = some ⟨gr, 4, none⟩) (hH : HdL w B (some ⟨gr, 0, none⟩) cr L A) :
    Calls Tryz.prog 160 #[.slice a m c, .func (.func 161) #[] #[]] w fun e w' => e = .returned (.bool (gapA A)) ∧ Below w.heap.size w w' := by
  have HI2 : Hid (Calls Tryz.prog 204 #[.slice a m c, .func (.func 161) #[] #[]] w fun e w' => (∃ k : Int, e = .returned (.int .i64 k) ∧ decide (0 ≤ k) = gapA A) ∧ Below w.heap.size w w') := indexH_any L A B gr cr c m a w hl hm ha hH
  clear hH ha
  go_enter Tryz.func160, Tryz.ntmps160
  go_wp2_with fail
  refine HI2.out.mono ?_
  rintro e w1 ⟨⟨k, rfl, hk⟩, b1⟩
  have HK : Hid (decide (0 ≤ k) = gapA A) := hk
  have HB : Hid (Below w.heap.size w w1) := b1
  clear hk b1 HI2
  go_wp2
  go_ret
  exact ⟨by rw [← HK.out]; rfl, HB.out⟩
def linkR (l : List Blk) : Option (List Int) := (cloL l.length 0 l (List.replicate l.length (-1))).bind (fun A => if gapA A then none else some A)
def AnsLk (L : List HItem) (B gr cr : Nat) (w : World) (e : Ending) (w' : World) : Prop :=
  ∃ A, ((linkR (L.map HItem.b) = none ∧ e = .returned (.int .i64 1)) ∨ (linkR (L.map HItem.b) = some A ∧ e = .returned (.int .i64 0))) ∧ HdL w' B (some ⟨gr, 0, none⟩) cr L A ∧ Below B w w'
set_option maxRecDepth 100000 in
set_option maxHeartbeats 4000000 in
theorem linkBlocks_any (L : List HItem) (l : List Blk) (B gr cr : Nat) (w : World) (hLl : L.map HItem.b = l) (hl0 : 0 < L.length) (hl : L.length ≤ 60) (hf : ∀ (k : Nat) (h : k < L.length), blkFault (L[k]).b = 0) (hcr : L.length ≤ cr) (hcr2 : cr ≤ 9223372036854775807) (hH : HdL w B (some ⟨gr, 0, none⟩) cr L (List.replicate L.length (-1))) :
    Calls Tryz.prog 118 #[.slice (some ⟨gr, 0, none⟩) L.length cr] w fun e w' => AnsLk L B gr cr w e w' := by
  have HH : Hid (HdL w B (some ⟨gr, 0, none⟩) cr L (List.replicate L.length (-1))) := hH
  have HF : Hid (∀ (k : Nat) (h : k < L.length), blkFault (L[k]).b = 0) := hf
  have hln : l.length = L.length := by rw [← hLl]; simp
  have HLn : Hid (l.length = L.length) := hln
  have HLl : Hid (L.map HItem.b = l) := hLl
  obtain ⟨R, hR⟩ : ∃ R, R = cloL L.length 0 l (List.replicate L.length (-1)) := ⟨_, rfl⟩
  have HR : Hid (cloL L.length 0 l (List.replicate L.length (-1)) = R) := hR.symm
  have HNone : Hid (R = none → linkR (L.map HItem.b) = none) := fun h => by unfold linkR; rw [HLl.out, HLn.out, HR.out, h]; rfl
  have hlo : B ≤ gr := (hH.row.lt gr rfl).1
  clear hf hR hH hln hLl
  go_enter Tryz.func118, Tryz.ntmps118
  go_wp2_with fail
  go_loopw [10] (fun i wy => ∃ (j : Nat) (A : List Int), j ≤ L.length ∧ i = .int .i64 (j : Int) ∧ Hid (cloL L.length j (l.drop j) A = R ∧ ArI L.length A) ∧ Hid (HdL wy B (some ⟨gr, 0, none⟩) cr L A) ∧ Hid (Below B w wy)) (fun i _ => L.length - (RowKit.intOf i).toNat)
  case atStart => exact ⟨0, List.replicate L.length (-1), Nat.zero_le _, rfl, ⟨by rw [List.drop_zero]; exact HR.out, ArI.start _⟩, HH.out, Below.refl _ _⟩
  case round =>
    obtain ⟨j, A, hj, rfl, HA, HK, HB⟩ := hrel
    have hgs : gr < wr.heap.size := (HK.out.row.lt gr rfl).2
    by_cases hlt : j < L.length
    · obtain ⟨q0, q1, q2, q3⟩ := rowH_at HK.out j hlt
      have hit := HK.out.items j hlt
      obtain ⟨⟨b, a0, a1, co, ch, Hh⟩, ht⟩ : ∃ t, t = L[j]'hlt := ⟨_, rfl⟩
      have hf0 := HF.out j hlt
      rw [← ht] at q0 q1 q2 hit hf0
      replace q1 : wr.cell? ⟨gr, j * 4 + 1, none⟩ = some (.slice a0 b.ops.length co) := q1
      replace q2 : wr.cell? ⟨gr, j * 4 + 2, none⟩ = some (.slice a1 b.ops.length ch) := q2
      replace q0 : wr.cell? ⟨gr, j * 4, none⟩ = some (.int .i64 b.args) := q0
      replace hf0 : blkFault b = 0 := hf0
      have HTj : Hid (L[j]'hlt = ⟨b, a0, a1, co, ch, Hh⟩) := ht.symm
      have hlj : j < l.length := by rw [HLn.out]; exact hlt
      have HBj : Hid (l[j]? = some b) := by
        show _ = _
        rw [← HLl.out, List.getElem?_map, List.getElem?_eq_getElem hlt, ← ht]; rfl
      have HA2 : Hid ((cloB L.length j b.ops A).bind (cloL L.length (j + 1) (l.drop (j + 1))) = R ∧ ArI L.length A) := ⟨by rw [← cloL_drop j hlj b HBj.out]; exact HA.out.1, HA.out.2⟩
      have hol : b.ops.length ≤ 200 := (blk_ops hf0).1
      have HBd : Hid (∀ t' ∈ b.ops, OpBnd t') := fun t' ht' => opBnd ((blk_ops hf0).2.1 t' ht')
      obtain ⟨x9, hx9⟩ : ∃ x, x = A.getD j 0 := ⟨_, rfl⟩
      rw [← hx9] at q3
      obtain ⟨W1, hW1⟩ : ∃ W1, W1 = wr.alloc (.cells #[.int .i64 b.args, .slice a0 b.ops.length co, .slice a1 b.ops.length ch, .int .i64 x9] 176) := ⟨_, rfl⟩
      have r1 : W1.cell? ⟨wr.heap.size, 1, none⟩ = some (.slice a0 b.ops.length co) := by rw [hW1]; simp [go_sem]
      have HK1 : Hid (HdL W1 B (some ⟨gr, 0, none⟩) cr L A) := by rw [hW1]; exact HK.out.below (bnew _ _)
      have HB1 : Hid (Below B w W1) := by rw [hW1]; exact HB.out.alloc (by omega) _
      clear ht hf0 hlj hit hx9
      go_upto_region 4 with fail
      rw [← hW1]
      clear hW1 q0 q1 q2 q3 HK HB HA
      go_wp2_with fail
      clear r1
      go_loopw [18] (fun i wz => ∃ (k : Nat) (A : List Int), k ≤ b.ops.length ∧ i = .int .i64 (k : Int) ∧ Hid ((cloB L.length j (b.ops.drop k) A).bind (cloL L.length (j + 1) (l.drop (j + 1))) = R ∧ ArI L.length A) ∧ Hid (HdL wz B (some ⟨gr, 0, none⟩) cr L A) ∧ Hid (Below B w wz)) (fun i _ => b.ops.length - (RowKit.intOf i).toNat)
      case atStart => exact ⟨0, A, Nat.zero_le _, rfl, by rw [List.drop_zero]; exact HA2.out, HK1.out, HB1.out⟩
      case round =>
        obtain ⟨k, A, hk, rfl, HA, HK, HB⟩ := hrel
        have hgs : gr < wr.heap.size := (HK.out.row.lt gr rfl).2
        by_cases hlk : k < b.ops.length
        · have hit := HK.out.items j hlt
          rw [HTj.out] at hit
          have hops : wr.ownsRow B 184 6 (.slice a0 b.ops.length co) b.ops.length (cellsX b.ops) := hit.ops
          obtain ⟨go, c', hv, _, _⟩ := hops.form (by omega)
          obtain ⟨rfl, rfl⟩ : a0 = some ⟨go, 0, none⟩ ∧ co = c' := by simp at hv; exact hv
          obtain ⟨x0, x1, x2, x3, x4, x5⟩ := rowX_at hops k hlk
          obtain ⟨u, hu⟩ : ∃ u, u = b.ops[k]'hlk := ⟨_, rfl⟩
          rw [← hu] at x0 x1 x2 x3 x4 x5
          have hbt : OpBnd u := HBd.out u (by rw [hu]; exact List.getElem_mem hlk)
          have HD := cloB_drop (n := L.length) (i := j) (A := A) k hlk u (by rw [hu]; exact List.getElem?_eq_getElem hlk)
          have HBx : Hid (Below B w (wr.alloc (.cells #[.int .i64 u.kind, .string u.name, .int .i64 u.a, .int .i64 u.b, .int .i64 u.c, .int .i64 u.d] 184))) := HB.out.alloc (by omega) _
          have HKx : Hid (HdL (wr.alloc (.cells #[.int .i64 u.kind, .string u.name, .int .i64 u.a, .int .i64 u.b, .int .i64 u.c, .int .i64 u.d] 184)) B (some ⟨gr, 0, none⟩) cr L A) := HK.out.below (bnew _ _)
          clear hu hv hit hops
          cases k4 : (u.kind == 4)
          · have HA3 : Hid ((cloB L.length j (b.ops.drop (k + 1)) A).bind (cloL L.length (j + 1) (l.drop (j + 1))) = R ∧ ArI L.length A) := by
              rw [if_neg (by intro e; rw [e] at k4; cases k4)] at HD
              rw [← HD]; exact HA.out
            have k4' : (u.kind != 4) = true := by rw [bne, k4]; rfl
            clear HD HA k4
            go_wp2
            exact ⟨⟨k + 1, A, by omega, by go_num, HA3.out, HKx.out, HBx.out⟩, by simp [RowKit.intOf]; omega⟩
          · rw [if_pos (by simpa using k4)] at HD
            have k4' : (u.kind != 4) = false := by rw [bne, k4]; rfl
            have ha1 := hbt.a1
            have ha2 := hbt.a2
            obtain ⟨a, hae⟩ : ∃ a : Nat, u.a = (a : Int) := ⟨u.a.toNat, by omega⟩
            rw [hae] at x2 HD ha2 HBx HKx
            rw [Int.toNat_natCast] at HD
            clear hae ha1 k4
            by_cases hx : (a : Int) ≤ (j : Int)
            · have HX : Hid (AnsLk L B gr cr w (.returned (.int .i64 1)) (wr.alloc (.cells #[.int .i64 u.kind, .string u.name, .int .i64 (a : Int), .int .i64 u.b, .int .i64 u.c, .int .i64 u.d] 184))) := by
                rw [if_pos (.inl hx)] at HD
                exact ⟨A, .inl ⟨HNone.out (by rw [← HA.out.1, HD]; rfl), rfl⟩, HKx.out, HBx.out⟩
              clear HD HA
              go_wp2
              go_ret
              exact HX.out
            by_cases hy : (L.length : Int) ≤ (a : Int)
            · have HX : Hid (AnsLk L B gr cr w (.returned (.int .i64 1)) (wr.alloc (.cells #[.int .i64 u.kind, .string u.name, .int .i64 (a : Int), .int .i64 u.b, .int .i64 u.c, .int .i64 u.d] 184))) := by
                rw [if_pos (.inr (.inl hy))] at HD
                exact ⟨A, .inl ⟨HNone.out (by rw [← HA.out.1, HD]; rfl), rfl⟩, HKx.out, HBx.out⟩
              clear HD HA
              go_wp2
              go_ret
              exact HX.out
            have hal : a < L.length := by omega
            obtain ⟨-, -, -, y3⟩ := rowH_at HKx.out a hal
            have yf := own_frozen HKx.out.row (a * 4 + 3)
            obtain ⟨x, hxe⟩ : ∃ x, x = A.getD a 0 := ⟨_, rfl⟩
            rw [← hxe] at y3 HD
            have z3 : wr.cell? ⟨gr, a * 4 + 3, none⟩ = some (.int .i64 x) := by rw [hxe]; exact (rowH_at HK.out a hal).2.2.2
            have zf := own_frozen HK.out.row (a * 4 + 3)
            clear hxe
            by_cases hxm : x = -1
            · subst hxm
              rw [if_neg (by simp; omega)] at HD
              have HA3 : Hid ((cloB L.length j (b.ops.drop (k + 1)) (A.set a (j : Int))).bind (cloL L.length (j + 1) (l.drop (j + 1))) = R ∧ ArI L.length (A.set a (j : Int))) := ⟨by rw [← HD]; exact HA.out.1, HA.out.2.put (by omega)⟩
              have HK3 : Hid (∀ o : Obj, HdL ((wr.setCell ⟨gr, a * 4 + 3, none⟩ (.int .i64 (j : Int))).alloc o) B (some ⟨gr, 0, none⟩) cr L (A.set a (j : Int))) := fun o => (HK.out.put a (j : Int) hal).below (bnew _ _)
              have HB3 : Hid (∀ o : Obj, Below B w ((wr.setCell ⟨gr, a * 4 + 3, none⟩ (.int .i64 (j : Int))).alloc o)) := fun o => (HB.out.setCell hlo _).alloc (by simp; omega) _
              clear HD HA
              go_wp2
              exact ⟨⟨k + 1, A.set a (j : Int), by omega, by go_num, HA3.out, HK3.out _, HB3.out _⟩, by simp [RowKit.intOf]; omega⟩
            · have HX : Hid (AnsLk L B gr cr w (.returned (.int .i64 1)) (wr.alloc (.cells #[.int .i64 u.kind, .string u.name, .int .i64 (a : Int), .int .i64 u.b, .int .i64 u.c, .int .i64 u.d] 184))) := by
                rw [if_pos (.inr (.inr hxm))] at HD
                exact ⟨A, .inl ⟨HNone.out (by rw [← HA.out.1, HD]; rfl), rfl⟩, HKx.out, HBx.out⟩
              have hxn : (x != -1) = true := by rw [bne_iff_ne]; exact hxm
              clear HD HA hxm
              go_wp2
              go_ret
              exact HX.out
        · have HA3 : Hid (cloL L.length (j + 1) (l.drop (j + 1)) A = R ∧ ArI L.length A) := by
            have := HA.out
            rw [List.drop_of_length_le (by omega)] at this
            exact this
          clear HA
          go_wp2
          exact ⟨⟨j + 1, A, by omega, by go_num, HA3.out, HK.out, HB.out⟩, by simp [RowKit.intOf]; omega⟩
    · have e : j = L.length := by omega
      have HA2 : Hid (some A = R ∧ ArI L.length A) := by
        have := HA.out
        rw [e, List.drop_of_length_le (by rw [HLn.out]; exact Nat.le_refl _)] at this
        exact this
      clear HA
      have HCn : Hid (∀ (a : Option Addr) (c : Nat), (0 < L.length - 1 → a = some ⟨gr, 4, none⟩) → Calls Tryz.prog 160 #[.slice a (L.length - 1) c, .func (.func 161) #[] #[]] wr fun e w' => e = .returned (.bool (gapA A)) ∧ Below wr.heap.size wr w') := fun a c h => containsH_any L A B gr cr c (L.length - 1) a wr hl (by omega) h HK.out
      obtain ⟨G, hG⟩ : ∃ G, G = gapA A := ⟨_, rfl⟩
      rw [← hG] at HCn
      have HG : Hid (gapA A = G) := hG.symm
      have hBw : B ≤ wr.heap.size := by omega
      clear hG
      go_wp2_with fail
      all_goals
        refine (HCn.out _ _ (fun h => by first | rfl | (exfalso; omega))).mono ?_
        rintro e w1 ⟨rfl, b1⟩
        have HK1 : Hid (HdL w1 B (some ⟨gr, 0, none⟩) cr L A) := HK.out.below b1
        have HB1 : Hid (Below B w w1) := HB.out.trans (b1.mono hBw)
        have HLk : Hid (linkR (L.map HItem.b) = if G then none else some A) := by
          show _ = _
          unfold linkR
          rw [HLl.out, HLn.out, HR.out, ← HA2.out.1, Option.bind_some, HG.out]
        clear b1 HCn
        cases G
        · go_wp2
          go_ret
          exact ⟨A, .inr ⟨HLk.out, rfl⟩, HK1.out, HB1.out⟩
        · go_wp2
          go_ret
          exact ⟨A, .inl ⟨HLk.out, rfl⟩, HK1.out, HB1.out⟩
theorem argsF_fuel (l : List Blk) (A : List Int) (hA : ∀ k, 0 < k → k < l.length → 0 ≤ A.getD k 0 ∧ A.getD k 0 < (k : Int)) : ∀ (f f' b : Nat), b ≤ f → b ≤ f' → b < l.length → argsF l A f b = argsF l A f' b
  | 0, f', b, h, _, _ => by
    have : b = 0 := by omega
    subst this
    cases f' <;> simp [argsF]
  | f + 1, 0, b, _, h, _ => by
    have : b = 0 := by omega
    subst this
    simp [argsF]
  | f + 1, f' + 1, b, h, h', hb => by
    by_cases e : b = 0
    · subst e; simp [argsF]
    · have hq := hA b (by omega) hb
      simp only [argsF, if_neg e]
      rw [argsF_fuel l A hA f f' _ (by omega) (by omega) (by omega)]
theorem argsF_step (l : List Blk) (A : List Int) (hA : ∀ k, 0 < k → k < l.length → 0 ≤ A.getD k 0 ∧ A.getD k 0 < (k : Int)) (b m : Nat) (hb : 0 < b) (hl : b < l.length) (hm : A.getD b 0 = (m : Int)) : argsF l A b b = (l.getD b ⟨0, []⟩).args :: argsF l A m m := by
  have hq := hA b hb hl
  obtain ⟨f, hf⟩ : ∃ f, b = f + 1 := ⟨b - 1, by omega⟩
  have e : argsF l A (f + 1) b = (l.getD b ⟨0, []⟩).args :: argsF l A f (A.getD b 0).toNat := by rw [argsF, if_neg (by omega)]
  rw [← hf] at e
  rw [e, hm, Int.toNat_natCast, argsF_fuel l A hA f m m (by omega) (Nat.le_refl _) (by omega)]
def outM (M : List Int) (p : Int × Int) : Bool := match M[p.1.toNat]? with | none => true | some a => decide (a ≤ p.2)
theorem outM_eq (l : List Blk) (A : List Int) (hA : ∀ k, 0 < k → k < l.length → 0 ≤ A.getD k 0 ∧ A.getD k 0 < (k : Int)) (i : Nat) (hi : i < l.length) (p : Int × Int) : outM (argsF l A i i) p = outL l A i p := by
  unfold outM outL
  rw [argsF_at l A hA i i p.1.toNat (Nat.le_refl _) hi]
  by_cases e : upB A p.1.toNat i = 0
  · rw [if_pos e, e]; rfl
  · rw [if_neg e]
    have : (upB A p.1.toNat i == 0) = false := by rw [beq_eq_false_iff_ne]; exact e
    rw [this]; rfl
set_option maxRecDepth 100000 in
set_option maxHeartbeats 1000000 in
theorem argsAround_any (L : List HItem) (l : List Blk) (A : List Int) (B gr cr i : Nat) (w : World) (hLl : L.map HItem.b = l) (hl : L.length ≤ 60) (hi : i < L.length) (hA : ∀ k, 0 < k → k < l.length → 0 ≤ A.getD k 0 ∧ A.getD k 0 < (k : Int)) (hH : HdL w B (some ⟨gr, 0, none⟩) cr L A) :
    Calls Tryz.prog 162 #[.slice (some ⟨gr, 0, none⟩) L.length cr, .int .i64 (i : Int)] w fun e w' => ∃ ao c, e = .returned (.slice ao (argsF l A i i).length c) ∧ w'.ownsRow w.heap.size 2 1 (.slice ao (argsF l A i i).length c) (argsF l A i i).length (cellsI (argsF l A i i)) ∧ Below w.heap.size w w' := by
  have HH : Hid (HdL w B (some ⟨gr, 0, none⟩) cr L A) := hH
  have HA : Hid (∀ k, 0 < k → k < l.length → 0 ≤ A.getD k 0 ∧ A.getD k 0 < (k : Int)) := hA
  have HLl : Hid (L.map HItem.b = l) := hLl
  have HLn : Hid (l.length = L.length) := by show _ = _; rw [← hLl]; simp
  obtain ⟨T, hT⟩ : ∃ T, T = argsF l A i i := ⟨_, rfl⟩
  have hTl : T.length ≤ 60 := by rw [hT]; have := argsF_len l A i i; omega
  rw [← hT]
  have HT : Hid (argsF l A i i = T) := hT.symm
  have HTl : Hid (T.length ≤ 60) := hTl
  obtain ⟨i0, hi0, hz0, hz1, hz2⟩ := info_parts infoI
  clear hT hH hA hLl hTl
  go_enter Tryz.func162, Tryz.ntmps162
  go_wp2_with fail
  go_loopw [1, 5] (fun v u wr => ∃ (j : Nat) (M : List Int) (ao : Option Addr) (c : Nat), j < L.length ∧ v = .int .i64 (j : Int) ∧ u = .slice ao M.length c ∧ Hid (M ++ argsF l A j j = T) ∧ Hid (wr.ownsRow w.heap.size 2 1 (.slice ao M.length c) M.length (cellsI M)) ∧ Hid (Below w.heap.size w wr)) (fun v _ _ => (RowKit.intOf v).toNat)
  case atStart => exact ⟨i, [], none, 0, hi, rfl, rfl, HT.out, nilOwn _ _, Below.refl _ _⟩
  case round =>
    obtain ⟨j, M, ao, c, hj, rfl, rfl, HM, HO, HB⟩ := hrel
    have hMl : M.length ≤ 60 := by have h1 := congrArg List.length HM.out; have h2 := HTl.out; rw [List.length_append] at h1; omega
    have hzw : w.heap.size ≤ wr.heap.size := HB.out.size
    by_cases hz : j = 0
    · subst hz
      have HMe : Hid (M = T) := by show _ = _; have := HM.out; simpa [argsF] using this
      clear HM
      go_wp2
      go_ret
      exact ⟨ao, c, by rw [← HMe.out]; rfl, by rw [← HMe.out]; exact HO.out, HB.out⟩
    · obtain ⟨q0, -, -, q3⟩ := rowH_at (HH.out.below HB.out) j hj
      have hlj : j < l.length := by rw [HLn.out]; exact hj
      have hlow := HA.out j (by omega) hlj
      obtain ⟨m, hm⟩ : ∃ m : Nat, A.getD j 0 = (m : Int) := ⟨(A.getD j 0).toNat, by omega⟩
      have hst := argsF_step l A HA.out j m (by omega) hlj hm
      have hbe : (l.getD j ⟨0, []⟩).args = (L[j]'hj).b.args := by
        have : l[j]? = some (L[j]'hj).b := by rw [← HLl.out, List.getElem?_map, List.getElem?_eq_getElem hj]; rfl
        simp [this]
      rw [hbe] at hst
      rw [hm] at q3 hlow
      obtain ⟨x, hx⟩ : ∃ x, x = (L[j]'hj).b.args := ⟨_, rfl⟩
      rw [← hx] at q0 hst
      have HM2 : Hid ((M ++ [x]) ++ argsF l A m m = T) := by show _ = _; rw [← HM.out, hst]; simp
      obtain ⟨y, hy⟩ : ∃ y, j = y + 1 := ⟨j - 1, by omega⟩
      clear hx hbe hst hm hz HM
      subst hy
      go_wp2_with (at_builtin; refine wpList_append_lies _ rfl (.tmp 13) (.tmp 19) 78 rfl w.heap.size 2 i0 _ 1 8 Tryz.underlying78 hi0 hz0 hz1 hz2 rfl (by decide) _ M.length (cellsI M) rfl (HO.out.alloc _) ⟨_, 0, none⟩ 1 1 [.int .i64 x] rfl rfl ?c1 ?c2 (by decide) ?c3 ?c4 ?c5 _ rfl ?_)
      case c1 => exact newsI (heap_new' _ _ _ (by simp))
      case c2 => intro u hu; simp at hu; subst hu; rfl
      case c3 => unfold maxLen; omega
      case c4 => omega
      case c5 => simp; omega
      intro g' cap' w4 hown1 hgrow1 _ _
      have HO4 : Hid (w4.ownsRow w.heap.size 2 1 (.slice (some ⟨g', 0, none⟩) (M ++ [x]).length cap') (M ++ [x]).length (cellsI (M ++ [x]))) := by
        rw [cellsI_append, List.length_append]
        exact hown1
      have HB4 : Hid (Below w.heap.size w w4) := (HB.out.alloc hzw _).grown hgrow1 (by simp; omega) (fun k hk => (HO.out.lt k hk).1)
      have q3' : w4.cell? ⟨gr, (y + 1) * 4 + 3, none⟩ = some (.int .i64 (m : Int)) := by
        have hgl : gr < w.heap.size := (HH.out.row.lt gr rfl).2
        exact hgrow1.cell (cell_laid _ q3) (fun e => by have := (HO.out.lt gr e.symm).1; omega)
      clear hown1 hgrow1 q0 q3
      go_wp2
      exact ⟨⟨m, M ++ [x], some ⟨g', 0, none⟩, cap', by omega, rfl, by simp, HM2.out, HO4.out, HB4.out⟩, by simp [RowKit.intOf]; omega⟩
def ParAt (w : World) (ao : Option Addr) (P : List (Int × Int)) : Prop := 0 < P.length → ∃ g, ao = some ⟨g, 0, none⟩ ∧ ∀ (j : Nat) (h : j < P.length), w.cell? ⟨g, j * 2, none⟩ = some (.int .i64 P[j].1) ∧ w.cell? ⟨g, j * 2 + 1, none⟩ = some (.int .i64 P[j].2)
theorem ParAt.below {w w' : World} {ao : Option Addr} {P : List (Int × Int)} (h : ParAt w ao P) (hb : Below w.heap.size w w') : ParAt w' ao P := fun hl => by
  obtain ⟨g, e, hc⟩ := h hl
  exact ⟨g, e, fun j hj => ⟨cell_keep hb (hc j hj).1, cell_keep hb (hc j hj).2⟩⟩
set_option maxRecDepth 100000 in
set_option maxHeartbeats 1000000 in
theorem fetched_any (t : Opr) (w : World) (hb : OpBnd t) : Calls Tryz.prog 165 #[t.num] w fun e w' => ∃ ao c, e = .returned (.slice ao (locsO t).length c) ∧ ParAt w' ao (locsO t) ∧ Below w.heap.size w w' := by
  rcases hb.kinds with k | k | k | k | k | k | k | k | k | k | k | k | k | k | k | k
  · have hP : locsO t = [] := by unfold locsO; rw [k]; simp
    rw [hP]
    unfold Opr.num
    rw [k]
    clear hP k hb
    go_enter Tryz.func165, Tryz.ntmps165
    go_wp2
    go_ret
    exact ⟨none, 0, rfl, (fun h => by simp at h), by repeat (first | exact Below.refl _ _ | refine Below.alloc ?_ (by simp <;> omega) _)⟩
  · have hP : locsO t = [(t.a, t.b)] := by unfold locsO; rw [k]; simp
    rw [hP]
    unfold Opr.num
    rw [k]
    clear hP k hb
    go_enter Tryz.func165, Tryz.ntmps165
    go_wp2
    go_ret
    refine ⟨some ⟨w.heap.size + 1 + 1, 0, none⟩, 1, rfl, fun _ => ⟨w.heap.size + 1 + 1, rfl, fun j hj => ?_⟩, by repeat (first | exact Below.refl _ _ | refine Below.alloc ?_ (by simp <;> omega) _)⟩
    obtain rfl : j = 0 := by simp at hj; omega
    exact ⟨by simp [go_sem], by simp [go_sem]⟩
  · have hP : locsO t = [] := by unfold locsO; rw [k]; simp
    rw [hP]
    unfold Opr.num
    rw [k]
    clear hP k hb
    go_enter Tryz.func165, Tryz.ntmps165
    go_wp2
    go_ret
    exact ⟨none, 0, rfl, (fun h => by simp at h), by repeat (first | exact Below.refl _ _ | refine Below.alloc ?_ (by simp <;> omega) _)⟩
  · have hP : locsO t = [] := by unfold locsO; rw [k]; simp
    rw [hP]
    unfold Opr.num
    rw [k]
    clear hP k hb
    go_enter Tryz.func165, Tryz.ntmps165
    go_wp2
    go_ret
    exact ⟨none, 0, rfl, (fun h => by simp at h), by repeat (first | exact Below.refl _ _ | refine Below.alloc ?_ (by simp <;> omega) _)⟩
  · have hP : locsO t = [] := by unfold locsO; rw [k]; simp
    rw [hP]
    unfold Opr.num
    rw [k]
    clear hP k hb
    go_enter Tryz.func165, Tryz.ntmps165
    go_wp2
    go_ret
    exact ⟨none, 0, rfl, (fun h => by simp at h), by repeat (first | exact Below.refl _ _ | refine Below.alloc ?_ (by simp <;> omega) _)⟩
  · have hP : locsO t = [] := by unfold locsO; rw [k]; simp
    rw [hP]
    unfold Opr.num
    rw [k]
    clear hP k hb
    go_enter Tryz.func165, Tryz.ntmps165
    go_wp2
    go_ret
    exact ⟨none, 0, rfl, (fun h => by simp at h), by repeat (first | exact Below.refl _ _ | refine Below.alloc ?_ (by simp <;> omega) _)⟩
  · have hP : locsO t = [] := by unfold locsO; rw [k]; simp
    rw [hP]
    unfold Opr.num
    rw [k]
    clear hP k hb
    go_enter Tryz.func165, Tryz.ntmps165
    go_wp2
    go_ret
    exact ⟨none, 0, rfl, (fun h => by simp at h), by repeat (first | exact Below.refl _ _ | refine Below.alloc ?_ (by simp <;> omega) _)⟩
  · have hP : locsO t = [] := by unfold locsO; rw [k]; simp
    rw [hP]
    unfold Opr.num
    rw [k]
    clear hP k hb
    go_enter Tryz.func165, Tryz.ntmps165
    go_wp2
    go_ret
    exact ⟨none, 0, rfl, (fun h => by simp at h), by repeat (first | exact Below.refl _ _ | refine Below.alloc ?_ (by simp <;> omega) _)⟩
  · have hP : locsO t = [] := by unfold locsO; rw [k]; simp
    rw [hP]
    unfold Opr.num
    rw [k]
    clear hP k hb
    go_enter Tryz.func165, Tryz.ntmps165
    go_wp2
    go_ret
    exact ⟨none, 0, rfl, (fun h => by simp at h), by repeat (first | exact Below.refl _ _ | refine Below.alloc ?_ (by simp <;> omega) _)⟩
  · have hP : locsO t = [] := by unfold locsO; rw [k]; simp
    rw [hP]
    unfold Opr.num
    rw [k]
    clear hP k hb
    go_enter Tryz.func165, Tryz.ntmps165
    go_wp2
    go_ret
    exact ⟨none, 0, rfl, (fun h => by simp at h), by repeat (first | exact Below.refl _ _ | refine Below.alloc ?_ (by simp <;> omega) _)⟩
  · have hP : locsO t = [] := by unfold locsO; rw [k]; simp
    rw [hP]
    unfold Opr.num
    rw [k]
    clear hP k hb
    go_enter Tryz.func165, Tryz.ntmps165
    go_wp2
    go_ret
    exact ⟨none, 0, rfl, (fun h => by simp at h), by repeat (first | exact Below.refl _ _ | refine Below.alloc ?_ (by simp <;> omega) _)⟩
  · have hP : locsO t = [] := by unfold locsO; rw [k]; simp
    rw [hP]
    unfold Opr.num
    rw [k]
    clear hP k hb
    go_enter Tryz.func165, Tryz.ntmps165
    go_wp2
    go_ret
    exact ⟨none, 0, rfl, (fun h => by simp at h), by repeat (first | exact Below.refl _ _ | refine Below.alloc ?_ (by simp <;> omega) _)⟩
  · have hP : locsO t = [] := by unfold locsO; rw [k]; simp
    rw [hP]
    unfold Opr.num
    rw [k]
    clear hP k hb
    go_enter Tryz.func165, Tryz.ntmps165
    go_wp2
    go_ret
    exact ⟨none, 0, rfl, (fun h => by simp at h), by repeat (first | exact Below.refl _ _ | refine Below.alloc ?_ (by simp <;> omega) _)⟩
  · have hP : locsO t = [(t.a, t.b)] := by unfold locsO; rw [k]; simp
    rw [hP]
    unfold Opr.num
    rw [k]
    clear hP k hb
    go_enter Tryz.func165, Tryz.ntmps165
    go_wp2
    go_ret
    refine ⟨some ⟨w.heap.size + 1 + 1, 0, none⟩, 1, rfl, fun _ => ⟨w.heap.size + 1 + 1, rfl, fun j hj => ?_⟩, by repeat (first | exact Below.refl _ _ | refine Below.alloc ?_ (by simp <;> omega) _)⟩
    obtain rfl : j = 0 := by simp at hj; omega
    exact ⟨by simp [go_sem], by simp [go_sem]⟩
  · have hP : locsO t = [(t.a, t.b), (t.c, t.d)] := by unfold locsO; rw [k]; simp
    rw [hP]
    unfold Opr.num
    rw [k]
    clear hP k hb
    go_enter Tryz.func165, Tryz.ntmps165
    go_wp2
    go_ret
    refine ⟨some ⟨w.heap.size + 1 + 1, 0, none⟩, 2, rfl, fun _ => ⟨w.heap.size + 1 + 1, rfl, fun j hj => ?_⟩, by repeat (first | exact Below.refl _ _ | refine Below.alloc ?_ (by simp <;> omega) _)⟩
    rcases (show j = 0 ∨ j = 1 by simp at hj; omega) with rfl | rfl
    · exact ⟨by simp [go_sem], by simp [go_sem]⟩
    · exact ⟨by simp [go_sem], by simp [go_sem]⟩
  · have hP : locsO t = [(t.a, t.b)] := by unfold locsO; rw [k]; simp
    rw [hP]
    unfold Opr.num
    rw [k]
    clear hP k hb
    go_enter Tryz.func165, Tryz.ntmps165
    go_wp2
    go_ret
    refine ⟨some ⟨w.heap.size + 1 + 1, 0, none⟩, 1, rfl, fun _ => ⟨w.heap.size + 1 + 1, rfl, fun j hj => ?_⟩, by repeat (first | exact Below.refl _ _ | refine Below.alloc ?_ (by simp <;> omega) _)⟩
    obtain rfl : j = 0 := by simp at hj; omega
    exact ⟨by simp [go_sem], by simp [go_sem]⟩
set_option maxRecDepth 100000 in
set_option maxHeartbeats 1000000 in
theorem place1_any (M : List Int) (o x : Int) (bx c B : Nat) (ao : Option Addr) (w : World) (ho0 : 0 ≤ o) (ho1 : o ≤ 999) (hM : M.length ≤ 60) (hb : w.cell? ⟨bx, 0, none⟩ = some (.slice ao M.length c)) (hO : w.ownsRow B 2 1 (.slice ao M.length c) M.length (cellsI M)) :
    Calls Tryz.prog 163 #[.agg #[.int .i64 o, .int .i64 x], .pointer (some ⟨bx, 0, none⟩)] w fun e w' => e = .returned (.bool (outM M (o, x))) ∧ Below w.heap.size w w' := by
  obtain ⟨p, rfl⟩ : ∃ p : Nat, o = (p : Int) := ⟨o.toNat, by omega⟩
  obtain ⟨R, hR⟩ : ∃ R, R = outM M ((p : Int), x) := ⟨_, rfl⟩
  rw [← hR]
  have HR0 : Hid (R = match M[p]? with | none => true | some a => decide (a ≤ x)) := by show _ = _; rw [hR]; rfl
  obtain ⟨W, hW⟩ : ∃ W, W = w.alloc (.cells #[.int .i64 (p : Int), .int .i64 x] 240) := ⟨_, rfl⟩
  have HW : Hid (W = w.alloc (.cells #[.int .i64 (p : Int), .int .i64 x] 240)) := hW
  have HB0 : Hid (Below w.heap.size w W) := by rw [hW]; exact bnew _ _
  have a0 : ∀ q : BW W, q.x.cell? ⟨w.heap.size, 0, none⟩ = some (.int .i64 (p : Int)) := fun q => q.cell (by rw [hW]; simp [go_sem])
  have a1 : ∀ q : BW W, q.x.cell? ⟨w.heap.size, 1, none⟩ = some (.int .i64 x) := fun q => q.cell (by rw [hW]; simp [go_sem])
  have a2 : ∀ q : BW W, q.x.cell? ⟨bx, 0, none⟩ = some (.slice ao M.length c) := fun q => q.cell (cell_keep HB0.out hb)
  have hne := bw_some W
  by_cases hin : p < M.length
  · obtain ⟨g, c', hv, _, _⟩ := hO.form (by omega)
    obtain ⟨rfl, rfl⟩ : ao = some ⟨g, 0, none⟩ ∧ c = c' := by simp at hv; exact hv
    have a3 : ∀ q : BW W, q.x.cell? ⟨g, p, none⟩ = some (.int .i64 (M[p]'hin)) := fun q => q.cell (cell_keep HB0.out (rowI_at hO p hin))
    have HR : Hid (R = decide ((M[p]'hin) ≤ x)) := by show _ = _; rw [HR0.out, List.getElem?_eq_getElem hin]
    obtain ⟨y, hy⟩ : ∃ y, y = M[p]'hin := ⟨_, rfl⟩
    rw [← hy] at HR
    simp only [← hy] at a3
    have hd : decide (M.length ≤ p) = false := by simp; omega
    clear hR hW hb hO hv HR0 hy
    go_enter Tryz.func163, Tryz.ntmps163
    go_wp2_with fail
    rw [← HW.out]
    refine wp_region_below (by kernel_rfl) (by kernel_rfl) ?_
    repeat (go_big_quiet_step (fail))
    refine wpQuiet_nil ?_
    intro wq hw'
    obtain ⟨⟨_, bq⟩, rfl⟩ := hw'
    have HQ : Hid (Below w.heap.size w wq) := HB0.out.trans (bq.mono HB0.out.size)
    clear bq a0 a1 a2 a3 hne
    go_wp2
    go_ret
    exact ⟨by rw [HR.out]; rfl, HQ.out⟩
  · have HR : Hid (R = true) := by show _ = _; rw [HR0.out, List.getElem?_eq_none_iff.2 (by omega)]
    have hd : decide (M.length ≤ p) = true := by simp; omega
    clear hR hW hb hO HR0
    go_enter Tryz.func163, Tryz.ntmps163
    go_wp2_with fail
    rw [← HW.out]
    refine wp_region_below (by kernel_rfl) (by kernel_rfl) ?_
    repeat (go_big_quiet_step (fail))
    refine wpQuiet_nil ?_
    intro wq hw'
    obtain ⟨⟨_, bq⟩, rfl⟩ := hw'
    have HQ : Hid (Below w.heap.size w wq) := HB0.out.trans (bq.mono HB0.out.size)
    clear bq a0 a1 a2 hne
    go_wp2
    go_ret
    exact ⟨by rw [HR.out]; rfl, HQ.out⟩
set_option maxRecDepth 100000 in
set_option maxHeartbeats 1000000 in
theorem indexP_any (P : List (Int × Int)) (f : Int × Int → Bool) (ao : Option Addr) (c bx : Nat) (w : World) (hl : P.length ≤ 2) (hO : ParAt w ao P)
    (hf : ∀ (u : World) (j : Nat) (h : j < P.length), Below w.heap.size w u → Calls Tryz.prog 163 #[.agg #[.int .i64 P[j].1, .int .i64 P[j].2], .pointer (some ⟨bx, 0, none⟩)] u fun e w' => e = .returned (.bool (f P[j])) ∧ Below u.heap.size u w') :
    Calls Tryz.prog 205 #[.slice ao P.length c, .func (.func 163) #[] #[.pointer (some ⟨bx, 0, none⟩)]] w fun e w' => (∃ k : Int, e = .returned (.int .i64 k) ∧ decide (0 ≤ k) = P.any f) ∧ Below w.heap.size w w' := by
  have HO : Hid (ParAt w ao P) := hO
  have HF : Hid (∀ (u : World) (j : Nat) (h : j < P.length), Below w.heap.size w u → Calls Tryz.prog 163 #[.agg #[.int .i64 P[j].1, .int .i64 P[j].2], .pointer (some ⟨bx, 0, none⟩)] u fun e w' => e = .returned (.bool (f P[j])) ∧ Below u.heap.size u w') := hf
  clear hO hf
  go_enter Tryz.func205, Tryz.ntmps205
  go_wp2_with fail
  go_loopw [8] (fun i wr => ∃ j : Nat, j ≤ P.length ∧ i = .int .i64 (j : Int) ∧ Hid (∀ (k : Nat) (hk : k < P.length), k < j → f P[k] = false) ∧ Hid (Below w.heap.size w wr)) (fun i _ => P.length - (RowKit.intOf i).toNat)
  case atStart => exact ⟨0, Nat.zero_le _, rfl, fun k _ hk => by omega, Below.refl _ _⟩
  case round =>
    obtain ⟨j, hj, rfl, HJ, HB⟩ := hrel
    by_cases hlt : j < P.length
    · obtain ⟨g, rfl, hc⟩ := (HO.out.below HB.out) (by omega)
      obtain ⟨q0, q1⟩ := hc j hlt
      have HX := HF.out wr j hlt HB.out
      obtain ⟨t, ht⟩ : ∃ t, t = P[j]'hlt := ⟨_, rfl⟩
      rw [← ht] at q0 q1 HX
      have HX2 : Hid (Calls Tryz.prog 163 #[.agg #[.int .i64 t.1, .int .i64 t.2], .pointer (some ⟨bx, 0, none⟩)] wr fun e w' => e = .returned (.bool (f t)) ∧ Below wr.heap.size wr w') := HX
      obtain ⟨D, hD⟩ : ∃ D, D = f t := ⟨_, rfl⟩
      rw [← hD] at HX2
      have HD : Hid (f (P[j]'hlt) = D) := by show _ = _; rw [← ht, hD]
      clear ht hD hc HX
      cases D
      · have HJ2 : Hid (∀ (k : Nat) (hk : k < P.length), k < j + 1 → f P[k] = false) := fun k hk hkj => by
          by_cases e : k < j
          · exact HJ.out k hk e
          · have : k = j := by omega
            subst this; exact HD.out
        clear HJ
        go_wp2_with fail
        refine HX2.out.mono ?_
        rintro e w1 ⟨rfl, b1⟩
        have HB1 : Hid (Below w.heap.size w w1) := HB.out.trans (b1.mono HB.out.size)
        clear b1 HX2 q0 q1
        go_wp2
        exact ⟨⟨j + 1, by omega, by go_num, HJ2.out, HB1.out⟩, by simp [RowKit.intOf]; omega⟩
      · have HA : Hid (P.any f = true) := anyX_hit j hlt HD.out
        go_wp2_with fail
        refine HX2.out.mono ?_
        rintro e w1 ⟨rfl, b1⟩
        have HB1 : Hid (Below w.heap.size w w1) := HB.out.trans (b1.mono HB.out.size)
        clear b1 HX2 q0 q1
        go_wp2
        go_ret
        exact ⟨⟨(j : Int), rfl, by rw [HA.out]; simp⟩, HB1.out⟩
    · have HA : Hid (P.any f = false) := anyX_none (fun k hk _ => HJ.out k hk (by omega))
      clear HJ
      go_wp2
      go_ret
      exact ⟨⟨-1, rfl, by rw [HA.out]; rfl⟩, HB.out⟩
set_option maxHeartbeats 1000000 in
theorem containsP_any (P : List (Int × Int)) (f : Int × Int → Bool) (ao : Option Addr) (c bx : Nat) (w : World) (hl : P.length ≤ 2) (hO : ParAt w ao P)
    (hf : ∀ (u : World) (j : Nat) (h : j < P.length), Below w.heap.size w u → Calls Tryz.prog 163 #[.agg #[.int .i64 P[j].1, .int .i64 P[j].2], .pointer (some ⟨bx, 0, none⟩)] u fun e w' => e = .returned (.bool (f P[j])) ∧ Below u.heap.size u w') :
    Calls Tryz.prog 164 #[.slice ao P.length c, .func (.func 163) #[] #[.pointer (some ⟨bx, 0, none⟩)]] w fun e w' => e = .returned (.bool (P.any f)) ∧ Below w.heap.size w w' := by
  have HI2 : Hid (Calls Tryz.prog 205 #[.slice ao P.length c, .func (.func 163) #[] #[.pointer (some ⟨bx, 0, none⟩)]] w fun e w' => (∃ k : Int, e = .returned (.int .i64 k) ∧ decide (0 ≤ k) = P.any f) ∧ Below w.heap.size w w') := indexP_any P f ao c bx w hl hO hf
  clear hf hO
  go_enter Tryz.func164, Tryz.ntmps164
  go_wp2_with fail
  refine HI2.out.mono ?_
  rintro e w1 ⟨⟨k, rfl, hk⟩, b1⟩
  have HK : Hid (decide (0 ≤ k) = P.any f) := hk
  have HB : Hid (Below w.heap.size w w1) := b1
  clear hk b1 HI2
  go_wp2
  go_ret
  exact ⟨by rw [← HK.out]; rfl, HB.out⟩
theorem locs_in {t : Opr} (hb : OpBnd t) : (locsO t).length ≤ 2 ∧ ∀ p ∈ locsO t, 0 ≤ p.1 ∧ p.1 ≤ 999 := by
  unfold locsO
  split
  · refine ⟨by simp, fun p hp => ?_⟩
    simp at hp; subst hp; exact ⟨hb.a1, hb.a2⟩
  · split
    · refine ⟨by simp, fun p hp => ?_⟩
      simp at hp
      rcases hp with rfl | rfl
      · exact ⟨hb.a1, hb.a2⟩
      · exact ⟨hb.c1, hb.c2⟩
    · exact ⟨by simp, fun p hp => by simp at hp⟩
set_option maxRecDepth 100000 in
set_option maxHeartbeats 4000000 in
theorem placesFault_any (L : List HItem) (l : List Blk) (A : List Int) (B gr cr : Nat) (w : World) (hLl : L.map HItem.b = l) (hl : L.length ≤ 60) (hf : ∀ (k : Nat) (h : k < L.length), blkFault (L[k]).b = 0) (hA : ∀ k, 0 < k → k < l.length → 0 ≤ A.getD k 0 ∧ A.getD k 0 < (k : Int)) (hH : HdL w B (some ⟨gr, 0, none⟩) cr L A) :
    Calls Tryz.prog 119 #[.slice (some ⟨gr, 0, none⟩) L.length cr] w fun e w' => e = .returned (.int .i64 (firstC (blkLoc l A) (List.range L.length))) ∧ Below w.heap.size w w' := by
  have HH : Hid (HdL w B (some ⟨gr, 0, none⟩) cr L A) := hH
  have HF : Hid (∀ (k : Nat) (h : k < L.length), blkFault (L[k]).b = 0) := hf
  have HLn : Hid (l.length = L.length) := by show _ = _; rw [← hLl]; simp
  have HLl : Hid (L.map HItem.b = l) := hLl
  have HAl : Hid (∀ k, 0 < k → k < l.length → 0 ≤ A.getD k 0 ∧ A.getD k 0 < (k : Int)) := hA
  obtain ⟨R, hR⟩ : ∃ R, R = firstC (blkLoc l A) (List.range L.length) := ⟨_, rfl⟩
  rw [← hR]
  have HR : Hid (R = firstC (blkLoc l A) (List.range L.length)) := hR
  clear hf hR hH hLl hA
  go_enter Tryz.func119, Tryz.ntmps119
  go_wp2_with fail
  go_loopw [11] (fun i wy => ∃ j : Nat, j ≤ L.length ∧ i = .int .i64 (j : Int) ∧ Hid (∀ q, q < j → blkLoc l A q = 0) ∧ Hid (Below w.heap.size w wy)) (fun i _ => L.length - (RowKit.intOf i).toNat)
  case atStart => exact ⟨0, Nat.zero_le _, rfl, fun q hq => by omega, Below.refl _ _⟩
  case round =>
    obtain ⟨j, hj, rfl, HJ, HB⟩ := hrel
    by_cases hlt : j < L.length
    · obtain ⟨q0, q1, q2, q3⟩ := rowH_at (HH.out.below HB.out) j hlt
      have hit := HH.out.items j hlt
      obtain ⟨⟨b, a0, a1, co, ch, Hh⟩, ht⟩ : ∃ t, t = L[j]'hlt := ⟨_, rfl⟩
      have hf0 := HF.out j hlt
      rw [← ht] at q0 q1 q2 hit hf0
      replace q1 : wr.cell? ⟨gr, j * 4 + 1, none⟩ = some (.slice a0 b.ops.length co) := q1
      replace q2 : wr.cell? ⟨gr, j * 4 + 2, none⟩ = some (.slice a1 b.ops.length ch) := q2
      replace q0 : wr.cell? ⟨gr, j * 4, none⟩ = some (.int .i64 b.args) := q0
      replace hf0 : blkFault b = 0 := hf0
      have hlj : j < l.length := by rw [HLn.out]; exact hlt
      have HBj : Hid (l[j]? = some b) := by
        show _ = _
        rw [← HLl.out, List.getElem?_map, List.getElem?_eq_getElem hlt, ← ht]; rfl
      have HLoc : Hid (blkLoc l A j = firstC (opLoc l A j) b.ops) := blkLoc_at HBj.out
      have hol : b.ops.length ≤ 200 := (blk_ops hf0).1
      have HBd : Hid (∀ t' ∈ b.ops, OpBnd t') := fun t' ht' => opBnd ((blk_ops hf0).2.1 t' ht')
      have HOps : Hid (∀ u, Below w.heap.size w u → u.ownsRow B 184 6 (.slice a0 b.ops.length co) b.ops.length (cellsX b.ops)) := fun u hu => own_below hit.ops hu
      obtain ⟨x9, hx9⟩ : ∃ x, x = A.getD j 0 := ⟨_, rfl⟩
      rw [← hx9] at q3
      obtain ⟨W1, hW1⟩ : ∃ W1, W1 = wr.alloc (.cells #[.int .i64 b.args, .slice a0 b.ops.length co, .slice a1 b.ops.length ch, .int .i64 x9] 176) := ⟨_, rfl⟩
      have HR1 : Hid (W1.cell? ⟨wr.heap.size, 1, none⟩ = some (.slice a0 b.ops.length co)) := by show _ = _; rw [hW1]; simp [go_sem]
      have HB1 : Hid (Below w.heap.size w W1) := by rw [hW1]; exact HB.out.alloc HB.out.size _
      have HAa : Hid (Calls Tryz.prog 162 #[.slice (some ⟨gr, 0, none⟩) L.length cr, .int .i64 (j : Int)] W1 fun e w' => ∃ ao c, e = .returned (.slice ao (argsF l A j j).length c) ∧ w'.ownsRow W1.heap.size 2 1 (.slice ao (argsF l A j j).length c) (argsF l A j j).length (cellsI (argsF l A j j)) ∧ Below W1.heap.size W1 w') := argsAround_any L l A B gr cr j W1 HLl.out hl hlt HAl.out (HH.out.below HB1.out)
      have hMl : (argsF l A j j).length ≤ 60 := by have := argsF_len l A j j; omega
      have HOm : Hid (∀ p, outM (argsF l A j j) p = outL l A j p) := fun p => outM_eq l A HAl.out j hlj p
      obtain ⟨M, hM⟩ : ∃ M, M = argsF l A j j := ⟨_, rfl⟩
      rw [← hM] at HAa hMl HOm
      clear ht hf0 hlj hit hx9 hM
      go_upto_region 4 with fail
      rw [← hW1]
      clear hW1 q0 q1 q2 q3
      go_wp2_with fail
      refine HAa.out.mono ?_
      rintro e w2 ⟨ao, c, rfl, o2, b2⟩
      obtain ⟨W2, hW2⟩ : ∃ W2, W2 = w2.alloc (.cells #[.slice ao M.length c] 78) := ⟨_, rfl⟩
      have HB2 : Hid (Below w.heap.size w W2) := by rw [hW2]; exact (HB1.out.trans (b2.mono HB1.out.size)).alloc (by have := HB1.out.size; have := b2.size; omega) _
      have HC2 : Hid (W2.cell? ⟨w2.heap.size, 0, none⟩ = some (.slice ao M.length c)) := by show _ = _; rw [hW2]; simp [go_sem]
      have HO2 : Hid (W2.ownsRow W1.heap.size 2 1 (.slice ao M.length c) M.length (cellsI M)) := by rw [hW2]; exact o2.alloc _
      have HW2 : Hid (W2 = w2.alloc (.cells #[.slice ao M.length c] 78)) := hW2
      have s1 : w2.cell? ⟨wr.heap.size, 1, none⟩ = some (.slice a0 b.ops.length co) := cell_keep b2 HR1.out
      have s2 : W2.cell? ⟨wr.heap.size, 1, none⟩ = some (.slice a0 b.ops.length co) := by rw [hW2]; exact cell_laid _ s1
      clear o2 b2 HAa hW2
      go_upto_region 6 with fail
      rw [← HW2.out]
      clear HW2 s1
      go_wp2_with fail
      clear s2
      go_loopw [23] (fun i wz => ∃ k : Nat, k ≤ b.ops.length ∧ i = .int .i64 (k : Int) ∧ Hid (∀ (q : Nat) (h : q < b.ops.length), q < k → opLoc l A j b.ops[q] = 0) ∧ Hid (Below W2.heap.size W2 wz)) (fun i _ => b.ops.length - (RowKit.intOf i).toNat)
      case atStart => exact ⟨0, Nat.zero_le _, rfl, fun q _ hq => by omega, Below.refl _ _⟩
      case round =>
        obtain ⟨k, hk, rfl, HJ2, HB3⟩ := hrel
        have HBw : Hid (Below w.heap.size w wr) := HB2.out.trans (HB3.out.mono HB2.out.size)
        by_cases hlk : k < b.ops.length
        · have hops := HOps.out wr HBw.out
          obtain ⟨go, c', hv, _, _⟩ := hops.form (by omega)
          obtain ⟨rfl, rfl⟩ : a0 = some ⟨go, 0, none⟩ ∧ co = c' := by simp at hv; exact hv
          obtain ⟨x0, x1, x2, x3, x4, x5⟩ := rowX_at hops k hlk
          obtain ⟨u, hu⟩ : ∃ u, u = b.ops[k]'hlk := ⟨_, rfl⟩
          rw [← hu] at x0 x1 x2 x3 x4 x5
          have hbt : OpBnd u := HBd.out u (by rw [hu]; exact List.getElem_mem hlk)
          have HUe : Hid (b.ops[k]'hlk = u) := hu.symm
          have HFe : Hid (∀ y, Calls Tryz.prog 165 #[u.num] y fun e w' => ∃ ao c, e = .returned (.slice ao (locsO u).length c) ∧ ParAt w' ao (locsO u) ∧ Below y.heap.size y w') := fun y => fetched_any u y hbt
          obtain ⟨X, hX⟩ : ∃ X, X = wr.alloc (.cells #[.int .i64 u.kind, .string u.name, .int .i64 u.a, .int .i64 u.b, .int .i64 u.c, .int .i64 u.d] 184) := ⟨_, rfl⟩
          have HX : Hid (X = wr.alloc (.cells #[.int .i64 u.kind, .string u.name, .int .i64 u.a, .int .i64 u.b, .int .i64 u.c, .int .i64 u.d] 184)) := hX
          have HBX : Hid (Below wr.heap.size wr X) := by rw [hX]; exact bnew _ _
          have HX0 : Hid (∀ y, Below X.heap.size X y → y.cell? ⟨wr.heap.size, 0, none⟩ = some (.int .i64 u.kind)) := fun y hy => cell_keep hy (by rw [hX]; simp [go_sem])
          have hli := locs_in hbt
          obtain ⟨D, hD⟩ : ∃ D, D = (locsO u).any (outL l A j) := ⟨_, rfl⟩
          have HD : Hid ((locsO u).any (outL l A j) = D) := hD.symm
          have HAny : Hid ((locsO u).any (outM M) = D) := by
            show _ = _
            rw [hD]
            congr 1
            funext p
            exact HOm.out p
          clear hu hv hops hX hD
          go_wp2_with fail
          rw [← HX.out]
          clear HX x0 x1 x2 x3 x4 x5
          refine (HFe.out _).mono ?_
          rintro e w3 ⟨ap, cp, rfl, hp, b3⟩
          have HB4 : Hid (Below W2.heap.size W2 w3) := (HB3.out.trans (HBX.out.mono HB3.out.size)).trans (b3.mono (by have := HB3.out.size; have := HBX.out.size; omega))
          have HXB : Hid (Below X.heap.size X w3) := b3
          have HCt : Hid (Calls Tryz.prog 164 #[.slice ap (locsO u).length cp, .func (.func 163) #[] #[.pointer (some ⟨w2.heap.size, 0, none⟩)]] w3 fun e w' => e = .returned (.bool D) ∧ Below w3.heap.size w3 w') := by
            rw [← HAny.out]
            refine containsP_any (locsO u) (outM M) ap cp w2.heap.size w3 hli.1 hp (fun y q hq hy => ?_)
            have hin := hli.2 _ (List.getElem_mem hq)
            have hyy : Below W2.heap.size W2 y := HB4.out.trans (hy.mono HB4.out.size)
            exact place1_any M _ _ w2.heap.size c W1.heap.size ao y hin.1 hin.2 hMl (cell_keep hyy HC2.out) (own_below HO2.out hyy)
          clear hp b3 HFe hli
          go_wp2_with fail
          refine HCt.out.mono ?_
          rintro e w4 ⟨rfl, b4⟩
          have HB5 : Hid (Below W2.heap.size W2 w4) := HB4.out.trans (b4.mono HB4.out.size)
          have HBw5 : Hid (Below w.heap.size w w4) := HB2.out.trans (HB5.out.mono HB2.out.size)
          have y0 := HX0.out w4 (HXB.out.trans (b4.mono HXB.out.size))
          clear b4 HCt
          cases D
          · have HO0 : Hid (opLoc l A j u = if u.kind = 9 ∧ 0 < j then 1 else 0) := by show _ = _; unfold opLoc; rw [HD.out]; rfl
            by_cases h9 : u.kind = 9
            · have k9 : (u.kind == 9) = true := by rw [h9]; rfl
              by_cases hj0 : j = 0
              · subst hj0
                have HO1 : Hid (opLoc l A 0 u = 0) := by show _ = _; rw [HO0.out, if_neg (by omega)]
                have HJ3 : Hid (∀ (q : Nat) (h : q < b.ops.length), q < k + 1 → opLoc l A 0 b.ops[q] = 0) := fun q hq hqk => by
                  by_cases e : q < k
                  · exact HJ2.out q hq e
                  · have : q = k := by omega
                    subst this; rw [HUe.out]; exact HO1.out
                clear HJ2 h9 HO0
                go_wp2
                refine ⟨?qinv, ?qmeas⟩
                case qinv =>
                  repeat apply Exists.intro
                  refine ⟨?_, rfl⟩
                  exact ⟨k + 1, by omega, by go_num, HJ3.out, HB5.out⟩
                case qmeas => simp [RowKit.intOf]; omega
              · obtain ⟨y, hy⟩ : ∃ y, j = y + 1 := ⟨j - 1, by omega⟩
                have HFi : Hid (R = 1) := by
                  show _ = _
                  have h1 : opLoc l A j u = 1 := by rw [HO0.out, if_pos ⟨h9, by omega⟩]
                  have h2 : blkLoc l A j = 1 := by rw [HLoc.out, firstC_hit b.ops k hlk HJ2.out (by rw [HUe.out, h1]; decide), HUe.out, h1]
                  rw [HR.out, range_hit hlt HJ.out (by rw [h2]; decide), h2]
                clear HJ2 h9 HO0 HR HJ
                subst hy
                go_wp2
                go_ret
                exact ⟨by rw [HFi.out]; rfl, HBw5.out⟩
            · have k9 : (u.kind == 9) = false := by rw [beq_eq_false_iff_ne]; exact h9
              have HO1 : Hid (opLoc l A j u = 0) := by show _ = _; rw [HO0.out, if_neg (fun h => h9 h.1)]
              have HJ3 : Hid (∀ (q : Nat) (h : q < b.ops.length), q < k + 1 → opLoc l A j b.ops[q] = 0) := fun q hq hqk => by
                by_cases e : q < k
                · exact HJ2.out q hq e
                · have : q = k := by omega
                  subst this; rw [HUe.out]; exact HO1.out
              clear HJ2 h9 HO0
              go_wp2
              exact ⟨⟨k + 1, by omega, by go_num, HJ3.out, HB5.out⟩, by simp [RowKit.intOf]; omega⟩
          · have HFi : Hid (R = 3) := by
              show _ = _
              have h1 : opLoc l A j u = 3 := by unfold opLoc; rw [HD.out]; rfl
              have h2 : blkLoc l A j = 3 := by rw [HLoc.out, firstC_hit b.ops k hlk HJ2.out (by rw [HUe.out, h1]; decide), HUe.out, h1]
              rw [HR.out, range_hit hlt HJ.out (by rw [h2]; decide), h2]
            clear HJ2 HR HJ y0
            go_wp2
            go_ret
            exact ⟨by rw [HFi.out]; rfl, HBw5.out⟩
        · have HJ3 : Hid (∀ q, q < j + 1 → blkLoc l A q = 0) := fun q hq => by
            by_cases e : q < j
            · exact HJ.out q e
            · have : q = j := by omega
              subst this
              rw [HLoc.out]
              exact firstC_none b.ops (fun p hp _ => HJ2.out p hp (by omega))
          clear HJ2 HJ
          go_wp2
          exact ⟨⟨j + 1, by omega, by go_num, HJ3.out, HBw.out⟩, by simp [RowKit.intOf]; omega⟩
    · have HFi : Hid (R = 0) := by show _ = _; rw [HR.out]; exact range_none (fun q hq => HJ.out q (by omega))
      clear HJ HR
      go_wp2
      go_ret
      exact ⟨by rw [HFi.out]; rfl, HB.out⟩
structure HeldC (w : World) (B : Nat) (l : List Blk) (ok : Bool) (L : List HItem) (A : List Int) (gr cr : Nat) : Prop where
  map : L.map HItem.b = l
  row : HdL w B (some ⟨gr, 0, none⟩) cr L A
  around : aroundR ok l = some A
  holds : ∀ (k : Nat) (h : k < L.length), Holds (L[k]).b.ops (L[k]).H
def AnsHC (ok : Bool) (l : List Blk) (w : World) (e : Ending) (w' : World) : Prop :=
  ∃ ao n c, e = .returned (.tuple #[.slice ao n c, .int .i64 (codeF ok l)]) ∧ (codeF ok l = 0 → ∃ L A gr, ao = some ⟨gr, 0, none⟩ ∧ n = L.length ∧ HeldC w' w.heap.size l ok L A gr c) ∧ Below w.heap.size w w'
theorem own_capsH {w : World} {B g c n : Nat} {xs : List Value} (h : w.ownsRow B 176 4 (.slice (some ⟨g, 0, none⟩) n c) n xs) : n ≤ c ∧ c ≤ 9223372036854775807 := by
  rcases h.2 with ⟨e, _⟩ | ⟨g', cap', cur, e, _, _, hn, hm, _⟩
  · cases e
  · obtain ⟨rfl, rfl⟩ : g = g' ∧ c = cap' := by simp at e; exact e
    exact ⟨hn, by unfold maxLen at hm; omega⟩
set_option maxRecDepth 100000 in
set_option maxHeartbeats 4000000 in
theorem holdCode_any (g cap B : Nat) (l : List Blk) (ok : Bool) (w : World) (hl : l.length ≤ 1048576) (hz : ∀ (k : Nat) (h : k < l.length), l[k].small) (hB : RowBl w B g l) (hL : LT w) (hok : OkR l ok) :
    Calls Tryz.prog 83 #[.slice (some ⟨g, 0, none⟩) l.length cap] w fun e w' => AnsHC ok l w e w' := by
  have H9 : Hid (Calls Tryz.prog 63 #[.slice (some ⟨g, 0, none⟩) l.length cap] w fun e w' => e = .returned (.int .i64 (codeFault9 l)) ∧ Below w.heap.size w w') := blocksFault_any g cap B l w hl hz hB hL
  have HB : Hid (RowBl w B g l) := hB
  have HOk : Hid (OkR l ok) := hok
  have HNo : Hid (∀ c, codeF ok l = c → c ≠ 0 → ∀ (ao : Option Addr) (n q : Nat) (u : World), Below w.heap.size w u → AnsHC ok l w (.returned (.tuple #[.slice ao n q, .int .i64 c])) u) := fun c hc hn ao n q u hu => ⟨ao, n, q, by rw [hc], (fun h => absurd (by rw [← hc]; exact h) hn), hu⟩
  obtain ⟨R, hR⟩ : ∃ R, R = codeFault9 l := ⟨_, rfl⟩
  rw [← hR] at H9
  have HR : Hid (codeFault9 l = R) := hR.symm
  obtain ⟨i0, hi, hz0, hz1, hz2⟩ := info_parts infoH
  clear hB hz hok hR hL
  go_enter Tryz.func83, Tryz.ntmps83
  go_wp2_with fail
  refine H9.out.mono ?_
  rintro e w1 ⟨rfl, b1⟩
  have HB1 : Hid (Below w.heap.size w w1) := b1
  have hzw1 : w.heap.size ≤ w1.heap.size := b1.size
  clear b1 H9
  by_cases hc : R = 0
  · subst hc
    have h60 := (nine_all HR.out).1
    have HF : Hid (∀ (k : Nat) (hk : k < l.length), blkFault l[k] = 0) := (nine_all HR.out).2
    by_cases hl0 : l.length = 0
    · have HX : Hid (AnsHC ok l w (.returned (.tuple #[.slice none 0 0, .int .i64 1])) w1) := HNo.out 1 (codeF_head HR.out (by rw [List.length_eq_zero_iff.1 hl0]; rfl)) (by decide) none 0 0 w1 HB1.out
      have hl0' : ((l.length : Int) == 0) = true := by rw [hl0]; rfl
      clear HNo
      go_wp2
      exact bodyPost_ret (v := .tuple #[.slice none 0 0, .int .i64 1]) (by simp [results, Tryz.results83, go_sem]) rfl HX.out
    have hl1 : 0 < l.length := by omega
    have hl2 : ((l.length : Int) == 0) = false := by rw [beq_eq_false_iff_ne]; omega
    obtain ⟨p0, -, -, -⟩ := HB.out.below HB1.out 0 hl1
    rw [Nat.zero_mul] at p0
    obtain ⟨a, ha⟩ : ∃ a, a = (l[0]'hl1).args := ⟨_, rfl⟩
    rw [← ha] at p0
    have HH : Hid (headF l = (a != 0)) := by show _ = _; rw [headF_cons hl1, ha]
    clear ha
    cases ha0 : (a != 0)
    · rw [ha0] at HH
      go_wp2_with fail
      clear p0
      go_loopw [5, 28] (fun v i wr => ∃ (j : Nat) (L : List HItem) (ao : Option Addr) (c : Nat), j ≤ l.length ∧ v = .slice ao L.length c ∧ i = .int .i64 (j : Int) ∧ Hid (L.map HItem.b = l.take j ∧ L.length = j) ∧ Hid (∀ (k : Nat) (h : k < L.length), Holds (L[k]).b.ops (L[k]).H) ∧ Hid (HdL wr w.heap.size ao c L (List.replicate L.length (-1))) ∧ Hid (Below w.heap.size w wr)) (fun _ i _ => l.length - (RowKit.intOf i).toNat)
      case atStart => exact ⟨0, [], none, 0, Nat.zero_le _, rfl, rfl, ⟨by simp, rfl⟩, fun k h => absurd h (Nat.not_lt_zero k), nilHdL _ _, HB1.out⟩
      case round =>
        obtain ⟨j, L, ao, c, hj, rfl, rfl, HLt, HHo, HK, HBr⟩ := hrel
        have hzw : w.heap.size ≤ wr.heap.size := HBr.out.size
        have HLj : Hid (L.length = j) := HLt.out.2
        by_cases hlt : j < l.length
        · obtain ⟨p0, gx, p1, hio⟩ := HB.out.below HBr.out j hlt
          obtain ⟨b, hb⟩ : ∃ b, b = l[j]'hlt := ⟨_, rfl⟩
          have hf0 := HF.out j hlt
          rw [← hb] at p0 p1 hio hf0
          have HBe : Hid (l[j]'hlt = b) := hb.symm
          obtain ⟨cc, Hh, hr⟩ := HRel.some b
          have HC := hr.holds hf0
          obtain ⟨X, hX⟩ : ∃ X, X = wr.alloc (.cells #[.int .i64 b.args, .slice (some ⟨gx, 0, none⟩) b.ops.length b.ops.length] 85) := ⟨_, rfl⟩
          have HX : Hid (X = wr.alloc (.cells #[.int .i64 b.args, .slice (some ⟨gx, 0, none⟩) b.ops.length b.ops.length] 85)) := hX
          have HBX : Hid (Below wr.heap.size wr X) := by rw [hX]; exact bnew _ _
          have HHb : Hid (Calls Tryz.prog 117 #[b.val (.slice (some ⟨gx, 0, none⟩) b.ops.length b.ops.length)] X fun e w' => AnsHB b cc Hh X e w') := holdBlock_any b cc Hh gx B X hf0 (hio.below HBX.out).row hr
          have hLl : L.length ≤ 60 := by rw [HLj.out]; omega
          clear hb hf0 hr hio hX
          go_wp2_with fail
          rw [← HX.out]
          clear HX p0 p1
          refine HHb.out.mono ?_
          rintro e w2 ⟨hcase, b2⟩
          have HB2 : Hid (Below wr.heap.size wr w2) := HBX.out.trans (b2.mono HBX.out.size)
          have HXs : Hid (wr.heap.size ≤ X.heap.size) := HBX.out.size
          clear b2 HHb
          rcases hcase with ⟨hc1, rfl⟩ | ⟨hc0, a0, a1, co, ch, rfl, hh⟩
          · have HX1 : Hid (∀ o : Obj, AnsHC ok l w (.returned (.tuple #[.slice none 0 0, .int .i64 1])) (w2.alloc o)) := fun o => by
              have hno : ok = false := by
                rcases HC with ⟨h1, _⟩ | ⟨_, _, h3⟩
                · rw [hc1] at h1; cases h1
                · exact HOk.out.no j hlt (by rw [HBe.out]; exact h3)
              exact HNo.out 1 (codeF_none HR.out HH.out (by rw [hno]; rfl)) (by decide) none 0 0 _ ((HBr.out.trans (HB2.out.mono HBr.out.size)).alloc (by have := HB2.out.size; omega) _)
            clear hc1 HC HLt
            go_wp2
            exact bodyPost_ret (v := .tuple #[.slice none 0 0, .int .i64 1]) (by simp [results, Tryz.results83, go_sem]) rfl (HX1.out _)
          · have HHd : Hid (Holds b.ops Hh) := by
              rcases HC with ⟨_, h2⟩ | ⟨h1, _⟩
              · exact h2
              · rw [hc0] at h1; cases h1
            obtain ⟨Y, hY⟩ : ∃ Y, Y = w2.alloc (.cells #[.int .i64 b.args, .slice a0 b.ops.length co, .slice a1 b.ops.length ch, .int .i64 (-1)] 176) := ⟨_, rfl⟩
            have HY : Hid (Y = w2.alloc (.cells #[.int .i64 b.args, .slice a0 b.ops.length co, .slice a1 b.ops.length ch, .int .i64 (-1)] 176)) := hY
            have HBY : Hid (Below wr.heap.size wr Y) := by rw [hY]; exact HB2.out.alloc HB2.out.size _
            have HIt : Hid ((HItem.mk b a0 a1 co ch Hh).held Y w.heap.size) := by
              have h1 : HeldR Y X.heap.size a0 a1 co ch b.ops Hh := by rw [hY]; exact hh.below (bnew _ _)
              exact h1.base (by have := HXs.out; omega)
            have y0 : Y.cell? ⟨w2.heap.size, 0, none⟩ = some (.int .i64 b.args) := by rw [hY]; simp [go_sem]
            have y1 : Y.cell? ⟨w2.heap.size, 1, none⟩ = some (.slice a0 b.ops.length co) := by rw [hY]; simp [go_sem]
            have y2 : Y.cell? ⟨w2.heap.size, 2, none⟩ = some (.slice a1 b.ops.length ch) := by rw [hY]; simp [go_sem]
            have y3 : Y.cell? ⟨w2.heap.size, 3, none⟩ = some (.int .i64 (-1)) := by rw [hY]; simp [go_sem]
            clear hc0 HC hh hY
            go_upto_region 13 with fail
            rw [← HY.out]
            clear HY
            have HOY : Hid (Y.ownsRow w.heap.size 176 4 (.slice ao L.length c) L.length (cellsH L (List.replicate L.length (-1)))) := (HK.out.below HBY.out).row
            go_wp2_with (at_builtin; refine wpList_append_lies _ rfl (.tmp 40) (.tmp 42) 127 rfl w.heap.size 176 i0 _ 4 64 Tryz.underlying127 hi hz0 hz1 hz2 rfl (by decide) _ L.length (cellsH L (List.replicate L.length (-1))) rfl (HOY.out.alloc _) ⟨Y.heap.size, 0, none⟩ 1 1 [.int .i64 b.args, .slice a0 b.ops.length co, .slice a1 b.ops.length ch, .int .i64 (-1)] rfl rfl (World.news_of_block (cs := #[.int .i64 b.args, .slice a0 b.ops.length co, .slice a1 b.ops.length ch, .int .i64 (-1)]) (t := 176) (fr := (0, 0)) (heap_alloc_new _ _)) (by simp [Value.oneCell']) (by decide) ?c3 ?c4 ?c5 _ rfl ?_)
            case c3 => unfold maxLen; omega
            case c4 => omega
            case c5 => have := HBY.out.size; simp; omega
            intro g' cap' w4 hown1 hgrow1 _ _
            have HK4 : Hid (HdL w4 w.heap.size (some ⟨g', 0, none⟩) cap' (L ++ [⟨b, a0, a1, co, ch, Hh⟩]) (List.replicate L.length (-1) ++ [-1])) := HK.out.more (HBY.out.trans ((bnew _ _).mono HBY.out.size)) (HItem.held.apart HIt.out (World.grownBy_alloc _ _ none) (fun g _ e => by cases e) (fun g _ e => by cases e)) hgrow1 hown1
            have HB4 : Hid (Below w.heap.size w w4) := ((HBr.out.trans (HBY.out.mono HBr.out.size)).alloc (by have := HBY.out.size; omega) _).grown hgrow1 (by have := HBY.out.size; simp; omega) (fun k hk => (HOY.out.lt k hk).1)
            have HLt2 : Hid ((L ++ [(⟨b, a0, a1, co, ch, Hh⟩ : HItem)]).map HItem.b = l.take (j + 1) ∧ (L ++ [(⟨b, a0, a1, co, ch, Hh⟩ : HItem)]).length = j + 1) := ⟨by rw [List.map_append, HLt.out.1, List.take_add_one, List.getElem?_eq_getElem hlt, HBe.out]; rfl, by simp [HLj.out]⟩
            have HHo2 : Hid (∀ (k : Nat) (h : k < (L ++ [(⟨b, a0, a1, co, ch, Hh⟩ : HItem)]).length), Holds ((L ++ [(⟨b, a0, a1, co, ch, Hh⟩ : HItem)])[k]).b.ops ((L ++ [(⟨b, a0, a1, co, ch, Hh⟩ : HItem)])[k]).H) := fun k hk => by
              by_cases e : k < L.length
              · rw [List.getElem_append_left e]; exact HHo.out k e
              · have : k = L.length := by simp at hk; omega
                subst this
                rw [List.getElem_append_right (Nat.le_refl _)]
                simp only [Nat.sub_self, List.getElem_singleton]
                exact HHd.out
            have HK5 : Hid (HdL w4 w.heap.size (some ⟨g', 0, none⟩) cap' (L ++ [⟨b, a0, a1, co, ch, Hh⟩]) (List.replicate (L ++ [(⟨b, a0, a1, co, ch, Hh⟩ : HItem)]).length (-1))) := by
              have e : List.replicate (L ++ [(⟨b, a0, a1, co, ch, Hh⟩ : HItem)]).length (-1 : Int) = List.replicate L.length (-1) ++ [-1] := by rw [List.length_append]; exact List.replicate_succ'
              rw [e]; exact HK4.out
            clear hown1 hgrow1 y0 y1 y2 y3 HK4 HLt HHo
            go_wp2
            exact ⟨⟨j + 1, L ++ [(⟨b, a0, a1, co, ch, Hh⟩ : HItem)], some ⟨g', 0, none⟩, cap', by omega, by simp, by go_num, HLt2.out, HHo2.out, HK5.out, HB4.out⟩, by simp [RowKit.intOf]; omega⟩
        · have e : j = l.length := by omega
          have HM : Hid (L.map HItem.b = l ∧ L.length = l.length) := by
            obtain ⟨h1, h2⟩ := HLt.out
            rw [e, List.take_length] at h1
            exact ⟨h1, by omega⟩
          have hLl0 : 0 < L.length := by rw [HM.out.2]; exact hl1
          have hLl : L.length ≤ 60 := by rw [HM.out.2]; exact h60
          obtain ⟨gr, c', hv, _, _⟩ := HK.out.row.form hLl0
          obtain ⟨rfl, rfl⟩ : ao = some ⟨gr, 0, none⟩ ∧ c = c' := by simp at hv; exact hv
          obtain ⟨hc1, hc2⟩ := own_capsH HK.out.row
          have HFL : Hid (∀ (k : Nat) (h : k < L.length), blkFault (L[k]).b = 0) := fun k hk => by
            have h1 : l[k]'(by rw [← HM.out.2]; exact hk) = (L[k]).b := by
              have h2 : l[k]? = some (L[k]).b := by rw [← HM.out.1, List.getElem?_map, List.getElem?_eq_getElem hk]; rfl
              rw [List.getElem?_eq_getElem (by rw [← HM.out.2]; exact hk)] at h2
              exact Option.some.inj h2
            rw [← h1]; exact HF.out k _
          have HTr : Hid (ok = true) := HOk.out.yes (fun k hk _ => by
            have hk' : k < L.length := by rw [HM.out.2]; exact hk
            have h2 : l[k]? = some (L[k]).b := by rw [← HM.out.1, List.getElem?_map, List.getElem?_eq_getElem hk']; rfl
            rw [List.getElem?_eq_getElem hk] at h2
            rw [Option.some.inj h2]
            exact ⟨_, HHo.out k hk'⟩)
          have HLk : Hid (Calls Tryz.prog 118 #[.slice (some ⟨gr, 0, none⟩) L.length c] wr fun e w' => AnsLk L w.heap.size gr c wr e w') := linkBlocks_any L l w.heap.size gr c wr HM.out.1 hLl0 hLl HFL.out hc1 hc2 HK.out
          have HAe : Hid (aroundR ok l = linkR (L.map HItem.b)) := by show _ = _; rw [HTr.out, HM.out.1]; rfl
          clear HLt hv e hc1 hc2
          go_wp2_with fail
          refine HLk.out.mono ?_
          rintro e w2 ⟨A, hcase, hk2, b2⟩
          have HK2 : Hid (HdL w2 w.heap.size (some ⟨gr, 0, none⟩) c L A) := hk2
          have HB2 : Hid (Below w.heap.size w w2) := HBr.out.trans b2
          clear hk2 b2 HLk HK
          rcases hcase with ⟨hn, rfl⟩ | ⟨hs, rfl⟩
          · have HX1 : Hid (AnsHC ok l w (.returned (.tuple #[.slice none 0 0, .int .i64 1])) w2) := HNo.out 1 (codeF_none HR.out HH.out (by rw [HAe.out]; exact hn)) (by decide) none 0 0 w2 HB2.out
            clear hn HNo
            go_wp2
            exact bodyPost_ret (v := .tuple #[.slice none 0 0, .int .i64 1]) (by simp [results, Tryz.results83, go_sem]) rfl HX1.out
          · have HS : Hid (aroundR ok l = some A) := by show _ = _; rw [HAe.out]; exact hs
            obtain ⟨hcf, hgap, hArI, -⟩ := codeF_some HR.out HH.out HS.out
            have HPf : Hid (Calls Tryz.prog 119 #[.slice (some ⟨gr, 0, none⟩) L.length c] w2 fun e w' => e = .returned (.int .i64 (codeF ok l)) ∧ Below w2.heap.size w2 w') := by
              rw [hcf, ← HM.out.2]
              exact placesFault_any L l A w.heap.size gr c w2 HM.out.1 hLl HFL.out (fun k h1 h2 => gap_low hArI hgap k h1 h2) HK2.out
            obtain ⟨C, hC⟩ : ∃ C, C = codeF ok l := ⟨_, rfl⟩
            rw [← hC] at HPf
            have HC : Hid (codeF ok l = C) := hC.symm
            clear hs hcf hgap hArI hC
            go_wp2_with fail
            refine HPf.out.mono ?_
            rintro e w3 ⟨rfl, b3⟩
            have HX1 : Hid (AnsHC ok l w (.returned (.tuple #[.slice (some ⟨gr, 0, none⟩) L.length c, .int .i64 C])) w3) := ⟨some ⟨gr, 0, none⟩, L.length, c, by rw [HC.out], fun _ => ⟨L, A, gr, rfl, rfl, HM.out.1, HK2.out.below b3, HS.out, HHo.out⟩, HB2.out.trans (b3.mono HB2.out.size)⟩
            clear b3 HPf HNo
            go_wp2
            exact bodyPost_ret (v := .tuple #[.slice (some ⟨gr, 0, none⟩) L.length c, .int .i64 C]) (by simp [results, Tryz.results83, go_sem]) rfl HX1.out
    · rw [ha0] at HH
      have HX : Hid (AnsHC ok l w (.returned (.tuple #[.slice none 0 0, .int .i64 1])) w1) := HNo.out 1 (codeF_head HR.out HH.out) (by decide) none 0 0 w1 HB1.out
      clear HNo
      go_wp2
      exact bodyPost_ret (v := .tuple #[.slice none 0 0, .int .i64 1]) (by simp [results, Tryz.results83, go_sem]) rfl HX.out
  · have hcn : (R != 0) = true := by rw [bne_iff_ne]; exact hc
    have HX : Hid (AnsHC ok l w (.returned (.tuple #[.slice none 0 0, .int .i64 R])) w1) := HNo.out R (by rw [codeF_nine (by rw [HR.out]; exact hc)]; exact HR.out) hc none 0 0 w1 HB1.out
    clear hc HNo
    go_wp2
    exact bodyPost_ret (v := .tuple #[.slice none 0 0, .int .i64 R]) (by simp [results, Tryz.results83, go_sem]) rfl HX.out
set_option maxHeartbeats 1000000 in
theorem implCF_any (g cap B : Nat) (l : List Blk) (ok : Bool) (w : World) (hl : l.length ≤ 1048576) (hz : ∀ (k : Nat) (h : k < l.length), l[k].small) (hB : RowBl w B g l) (hL : LT w) (hok : OkR l ok) :
    Calls Tryz.prog 52 #[.slice (some ⟨g, 0, none⟩) l.length cap] w fun e w' => e = .returned (.int .i64 (codeF ok l)) ∧ Below w.heap.size w w' := by
  have HF : Hid (Calls Tryz.prog 83 #[.slice (some ⟨g, 0, none⟩) l.length cap] w fun e w' => AnsHC ok l w e w') := holdCode_any g cap B l ok w hl hz hB hL hok
  obtain ⟨C, hC⟩ : ∃ C, C = codeF ok l := ⟨_, rfl⟩
  rw [← hC]
  have HC : Hid (codeF ok l = C) := hC.symm
  clear hB hz hok hL hC
  go_enter Tryz.func52, Tryz.ntmps52
  go_wp2_with fail
  refine HF.out.mono ?_
  rintro e w1 ⟨ao, n, c, rfl, -, b1⟩
  have HB1 : Hid (Below w.heap.size w w1) := b1
  clear b1 HF
  rw [HC.out]
  go_wp2
  go_ret
  exact ⟨rfl, HB1.out⟩
end Go.Proofs.YtoafolefecddmaaGreatDoor
