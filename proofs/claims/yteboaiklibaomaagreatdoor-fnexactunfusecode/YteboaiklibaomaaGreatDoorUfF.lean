/-
  Parts of the proof laid into one text, one behind the other; each says at its head what is proved in it.
-/
import Derived.Test.YteboaiklibaomaaGreatDoorMkB
import Derived.Test.YteboaiklibaomaaGreatDoorUfE
import Derived.Test.YteboaiklibaomaaGreatDoorUfD
import Derived.Test.YteboaiklibaomaaGreatDoorTiC
/-
  Operations and blocks made anew for a call: all rows lie apart from one another.
-/
namespace Go.Proofs.YteboaiklibaomaaGreatDoor
open Go.RowKit Go.Extern.Stop Go.Stop Go.Extern Num Go.Lib

theorem apartO_snoc {P : List (Opr × Value)} (h : apartO P) {x : Opr × Value} (hx : ∀ (i : Nat) (hi : i < P.length), farV P[i].2 x.2) : apartO (P ++ [x]) := by
  have sym : ∀ a b : Value, farV a b → farV b a := fun a b hab g hg hg' => hab g hg' hg
  intro i j hi hj hn
  simp only [List.length_append, List.length_cons, List.length_nil] at hi hj
  by_cases ei : i < P.length <;> by_cases ej : j < P.length
  · rw [List.getElem_append_left ei, List.getElem_append_left ej]; exact h i j ei ej hn
  · have : j = P.length := by omega
    subst this
    rw [List.getElem_append_left ei]
    simp only [List.getElem_append_right (Nat.le_refl _), Nat.sub_self, List.getElem_cons_zero]
    exact hx i ei
  · have : i = P.length := by omega
    subst this
    rw [List.getElem_append_left ej]
    simp only [List.getElem_append_right (Nat.le_refl _), Nat.sub_self, List.getElem_cons_zero]
    exact sym _ _ (hx j ej)
  · omega
def IsOpA (w : World) (B g cap : Nat) (l : List Opr) : Prop := ∃ P : List (Opr × Value), P.map Prod.fst = l ∧ w.ownsRow B 66 7 (.slice (some ⟨g, 0, none⟩) l.length cap) l.length (cellsOp P) ∧ NestOp w B g P ∧ apartO P
theorem IsOpA.is {w : World} {B g cap : Nat} {l : List Opr} (h : IsOpA w B g cap l) : IsOp w B g cap l := by
  obtain ⟨P, h1, h2, h3, -⟩ := h
  exact ⟨P, h1, h2, h3⟩
theorem IsOpA.ov {w : World} {B g cap : Nat} {l : List Opr} (h : IsOpA w B g cap l) : ∃ P : List (Opr × Value), P.map Prod.fst = l ∧ P.length = l.length ∧ OV w B (.slice (some ⟨g, 0, none⟩) P.length cap) P ∧ apartO P := by
  obtain ⟨P, h1, h2, h3, h4⟩ := h
  have hl : P.length = l.length := by rw [← h1]; simp
  refine ⟨P, h1, hl, ⟨by rw [hl]; exact h2, fun i hi => ?_⟩, h4⟩
  obtain ⟨gk, q1, q2, q3⟩ := h3 P[i] (List.getElem_mem hi)
  rw [q1]; exact q3
theorem IsOpA.low {w : World} {B g cap : Nat} {l : List Opr} (h : IsOpA w B g cap l) {g0 : Nat} (hg : g0 < g) (j : Nat) (u : Value) : IsOpA (w.setCell ⟨g0, j, none⟩ u) B g cap l := by
  obtain ⟨P, h1, h2, h3, h4⟩ := h
  exact ⟨P, h1, own_set h2 (p := ⟨g0, j, none⟩) (by show g ≠ g0; omega) u, h3.low (by omega) j u, h4⟩
theorem IsOpA.base {w : World} {B B' g cap : Nat} {l : List Opr} (h : IsOpA w B g cap l) (hb : B' ≤ B) : IsOpA w B' g cap l := by
  obtain ⟨P, h1, h2, h3, h4⟩ := h
  exact ⟨P, h1, own_base h2 hb, (fun x hx => by obtain ⟨gk, q1, q2, q3⟩ := h3 x hx; exact ⟨gk, q1, q2, q3.base hb⟩), h4⟩
theorem IsOpA.below {w w' : World} {B g cap : Nat} {l : List Opr} (h : IsOpA w B g cap l) (hb : Below w.heap.size w w') : IsOpA w' B g cap l := by
  obtain ⟨P, h1, h2, h3, h4⟩ := h
  exact ⟨P, h1, own_below h2 hb, h3.below hb, h4⟩
set_option maxRecDepth 100000 in
set_option maxHeartbeats 2000000 in
theorem toOpSA_any (a : Option Addr) (c : Nat) (l : List Opr) (w : World) (hl : l.length ≤ 1048576) (hz : ∀ (k : Nat) (h : k < l.length), l[k].small) (h : MemOp w a l) :
    Calls Tryz.prog 45 #[.slice a l.length c] w fun e w' => e = .returned (.slice (some ⟨w.heap.size, 0, none⟩) l.length l.length) ∧ IsOpA w' w.heap.size w.heap.size l.length l ∧ Below w.heap.size w w' := by
  have HT : Hid (MemOp w a l) := h
  have HZ : Hid (∀ (k : Nat) (h : k < l.length), l[k].small) := hz
  have hmk := makeOp l.length hl
  have HM : Hid (∃ (P : List (Opr × Value)) (xs : List Value), P.map Prod.fst = l.take 0 ∧ (w.alloc (.cells (madeCells #[.int .i64 0, .int .i64 0, .int .i64 0, .int .i64 0, .int .i64 0, .string ⟨#[]⟩, .slice none 0 0] (l.length * 7)) 66)).ownsRow w.heap.size 66 7 (.slice (some ⟨w.heap.size, 0, none⟩) l.length l.length) l.length xs ∧ xs.take (0 * 7) = cellsOp P ∧ NestOp (w.alloc (.cells (madeCells #[.int .i64 0, .int .i64 0, .int .i64 0, .int .i64 0, .int .i64 0, .string ⟨#[]⟩, .slice none 0 0] (l.length * 7)) 66)) w.heap.size w.heap.size P ∧ apartO P) := ⟨[], _, rfl, madeOp l.length hl w, rfl, (fun x hx => by cases hx), (fun i j hi => by cases hi)⟩
  clear h hz
  go_enter Tryz.func45, Tryz.ntmps45
  go_wp2_with fail
  go_loopw [4] (fun i wr => ∃ k : Nat, k ≤ l.length ∧ i = .int .i64 (k : Int) ∧ Hid (∃ (P : List (Opr × Value)) (xs : List Value), P.map Prod.fst = l.take k ∧ wr.ownsRow w.heap.size 66 7 (.slice (some ⟨w.heap.size, 0, none⟩) l.length l.length) l.length xs ∧ xs.take (k * 7) = cellsOp P ∧ (NestOp wr w.heap.size w.heap.size P ∧ apartO P)) ∧ Below w.heap.size w wr) (fun i _ => l.length - (RowKit.intOf i).toNat)
  case atStart => exact ⟨0, Nat.zero_le _, rfl, HM.out, (Below.refl _ _).alloc (Nat.le_refl _) _⟩
  case round =>
    obtain ⟨k, hk, rfl, HX, hb⟩ := hrel
    have HB : Hid (Below w.heap.size w wr) := hb
    clear hb
    by_cases hlt : k < l.length
    · obtain ⟨b, off, rfl, hc⟩ := (HT.out.below HB.out) (by omega)
      obtain ⟨c0, c1, c2, c3, c4, c5, ao, cap, cz, hm⟩ := hc k hlt
      clear hc
      have HU : Hid (Calls Tryz.prog 68 #[(l[k]'hlt).val (.slice ao (l[k]'hlt).data.length cap)] wr fun e w' => ∃ g, e = .returned ((l[k]'hlt).val (.slice (some ⟨g, 0, none⟩) (l[k]'hlt).data.length (l[k]'hlt).data.length)) ∧ IsD w' (wr.heap.size + 2) g (l[k]'hlt).data.length (l[k]'hlt).data ∧ Below wr.heap.size wr w') := toOp_any _ ao cap wr (HZ.out k hlt) hm
      obtain ⟨P, xs, hP, hox, htx, hN, hAp⟩ := HX.out
      have HAp : Hid (apartO P) := hAp
      have HO : Hid (wr.ownsRow w.heap.size 66 7 (.slice (some ⟨w.heap.size, 0, none⟩) l.length l.length) l.length xs) := hox
      have HE : Hid (xs.take (k * 7) = cellsOp P) := htx
      have HP : Hid (P.map Prod.fst = l.take k) := hP
      have HN : Hid (NestOp wr w.heap.size w.heap.size P) := hN
      have hgl : w.heap.size < wr.heap.size := (hox.lt w.heap.size rfl).2
      have HL : Hid (xs.length = l.length * 7) := hox.1
      clear hox htx hP hN hm hAp
      go_wp2_with fail
      refine HU.out.mono ?_
      rintro e w1 ⟨gk, rfl, ho1, hb1⟩
      have HO1 : Hid (w1.ownsRow w.heap.size 66 7 (.slice (some ⟨w.heap.size, 0, none⟩) l.length l.length) l.length xs) := own_below HO.out hb1
      have HB1 : Hid (Below w.heap.size w w1) := HB.out.trans (hb1.mono HB.out.size)
      have HN1 : Hid (NestOp w1 w.heap.size w.heap.size (P ++ [(l[k]'hlt, .slice (some ⟨gk, 0, none⟩) (l[k]'hlt).data.length (l[k]'hlt).data.length)])) := fun x hx => by
        rcases List.mem_append.1 hx with hx | hx
        · exact HN.out.below hb1 x hx
        · obtain rfl : x = _ := by simpa using hx
          have := ho1.lt.1
          exact ⟨gk, rfl, by omega, ho1.base (by omega)⟩
      have HAp1 : Hid (apartO (P ++ [(l[k]'hlt, .slice (some ⟨gk, 0, none⟩) (l[k]'hlt).data.length (l[k]'hlt).data.length)])) := apartO_snoc HAp.out (fun i hi b hb => by
        obtain ⟨gi, q1, q2, q3⟩ := HN.out P[i] (List.getElem_mem hi)
        rw [q1] at hb
        have hb' : gi = b := by simpa [Value.ownBlock] using hb
        have h1 := q3.lt.2
        have h2 := ho1.lt.1
        intro e
        have e' : gk = b := by simpa [Value.ownBlock] using e
        omega)
      have hgl1 : w.heap.size < w1.heap.size := (HO1.out.lt w.heap.size rfl).2
      clear hb1 c0 c1 c2 c3 c4 c5 cz ho1
      obtain ⟨x0, e0⟩ := own_cell HO1.out (k * 7) (by have := HL.out; omega)
      obtain ⟨x1, e1⟩ := own_cell HO1.out (k * 7 + 1) (by have := HL.out; omega)
      obtain ⟨x2, e2⟩ := own_cell HO1.out (k * 7 + 2) (by have := HL.out; omega)
      obtain ⟨x3, e3⟩ := own_cell HO1.out (k * 7 + 3) (by have := HL.out; omega)
      obtain ⟨x4, e4⟩ := own_cell HO1.out (k * 7 + 4) (by have := HL.out; omega)
      obtain ⟨x5, e5⟩ := own_cell HO1.out (k * 7 + 5) (by have := HL.out; omega)
      obtain ⟨x6, e6⟩ := own_cell HO1.out (k * 7 + 6) (by have := HL.out; omega)
      have ff : ∀ j, w1.frozen? ⟨w.heap.size, j, none⟩ = false := own_frozen HO1.out
      go_wp2
      obtain ⟨ys, hy, hyt⟩ := putOp_next (t := l[k]'hlt) (v := .slice (some ⟨gk, 0, none⟩) (l[k]'hlt).data.length (l[k]'hlt).data.length) HO1.out HE.out hlt
      refine ⟨⟨k + 1, by omega, by go_num, ⟨P ++ [(l[k]'hlt, .slice (some ⟨gk, 0, none⟩) (l[k]'hlt).data.length (l[k]'hlt).data.length)], ys, ?_, hy, ?_, ?_, HAp1.out⟩, ?_⟩, by simp [RowKit.intOf]; omega⟩
      · rw [List.map_append, HP.out, takeOp l k hlt]; rfl
      · rw [hyt, cellsOp_append]; simp [cellsOp]
      · exact (((((((HN1.out.set _ _).set _ _).set _ _).set _ _).set _ _).set _ _).set _ _)
      · exact (((((((HB1.out.setCell (Nat.le_refl _) _).setCell (Nat.le_refl _) _).setCell (Nat.le_refl _) _).setCell (Nat.le_refl _) _).setCell (Nat.le_refl _) _).setCell (Nat.le_refl _) _).setCell (Nat.le_refl _) _)
    · have HF : Hid (IsOpA wr w.heap.size w.heap.size l.length l) := by
        obtain ⟨P, xs, hP, hox, htx, hN, hAp⟩ := HX.out
        have hkl : k = l.length := by omega
        rw [hkl, List.take_of_length_le (by rw [hox.1]; exact Nat.le_refl _)] at htx
        rw [hkl, List.take_length] at hP
        rw [htx] at hox
        exact ⟨P, hP, hox, hN, hAp⟩
      clear HX
      go_wp2
      go_ret
      exact ⟨rfl, HF.out, HB.out⟩

set_option maxHeartbeats 2000000 in
/-- One made anew: what it leads to lies in rows of its own. -/
theorem toBlA_any (t : Blk) (ao : Option Addr) (cap : Nat) (w : World) (ht : t.small) (hm : MemOp w ao t.ops) :
    Calls Tryz.prog 24 #[t.val (.slice ao t.ops.length cap)] w fun e w' => ∃ g, e = .returned (t.val (.slice (some ⟨g, 0, none⟩) t.ops.length t.ops.length)) ∧ IsOpA w' (w.heap.size + 2) g t.ops.length t.ops ∧ Below w.heap.size w w' := by
  have HS : Hid (∀ u, Below w.heap.size w u → Calls Tryz.prog 45 #[.slice ao t.ops.length cap] u fun e w' => ∃ g, e = .returned (.slice (some ⟨g, 0, none⟩) t.ops.length t.ops.length) ∧ IsOpA w' u.heap.size g t.ops.length t.ops ∧ Below u.heap.size u w') := fun u hu => (toOpSA_any ao cap t.ops u ht.len ht.names (hm.below hu)).mono fun e w' ⟨h1, h2, h3⟩ => ⟨_, h1, h2, h3⟩
  clear hm
  go_enter Tryz.func24, Tryz.ntmps24
  go_wp2_with fail
  refine (HS.out _ ((((Below.refl _ w).alloc (Nat.le_refl _) _).alloc (by simp) _).alloc (by simp; omega) _)).mono ?_
  rintro e w1 ⟨g, rfl, ho, hb⟩
  have HO : Hid (IsOpA w1 (w.heap.size + 1 + 1 + 1) g t.ops.length t.ops) := by have := ho; simp only [World.size_alloc] at this; exact this
  have hgl := HO.out.is.lt.1
  obtain ⟨hc1, hf1⟩ := bcell hb
  have HB : Hid (Below w.heap.size w w1) := ((((Below.refl _ w).alloc (Nat.le_refl _) _).alloc (by simp) _).alloc (by simp; omega) _).trans (hb.mono (by simp; omega))
  have hs1 : w.heap.size + 1 + 1 < w1.heap.size := by have := hb.size; simp at this; omega
  clear ho hb
  have d0 : w1.cell? ⟨w.heap.size + 1 + 1, 0, none⟩ = some (.int .i64 t.args) := by rw [hc1 _ _ (by simp)]; simp [go_sem]
  have d1 : w1.cell? ⟨w.heap.size + 1 + 1, 1, none⟩ = some (.slice none 0 0) := by rw [hc1 _ _ (by simp)]; simp [go_sem]
  have f5 : ∀ j, w1.frozen? ⟨w.heap.size + 1 + 1, j, none⟩ = false := fun j => by rw [hf1 _ _ (by simp)]; simp [go_sem]
  have r0 : w1.cell? ⟨w.heap.size + 1, 0, none⟩ = some (.int .i64 0) := by rw [hc1 _ _ (by simp)]; simp [go_sem]
  have r1 : w1.cell? ⟨w.heap.size + 1, 1, none⟩ = some (.slice none 0 0) := by rw [hc1 _ _ (by simp)]; simp [go_sem]
  have g5 : ∀ j, w1.frozen? ⟨w.heap.size + 1, j, none⟩ = false := fun j => by rw [hf1 _ _ (by simp)]; simp [go_sem]
  clear hc1 hf1
  go_wp2
  refine bodyPost_ret (v := t.val (.slice (some ⟨g, 0, none⟩) t.ops.length t.ops.length)) (by simp [results, Tryz.results24, go_sem, r0, r1]) rfl ⟨g, rfl, ?_, ?_⟩
  · refine IsOpA.base (B := w.heap.size + 1 + 1 + 1) ?_ (by omega)
    iterate 3 (refine IsOpA.low ?_ (by omega) _ _)
    exact HO.out
  · iterate 3 (refine Below.setCell ?_ (by simp <;> omega) _)
    exact HB.out
/-- Blocks as far as they are made: where each lies, all apart. -/
def ApB (w : World) (B g : Nat) (P : List (Blk × Value)) : Prop := ∃ R : List RB, R.map (fun r => (r.blk, r.v)) = P ∧ (∀ (i : Nat) (h : i < R.length), ∃ gk, g < gk ∧ R[i].v = .slice (some ⟨gk, 0, none⟩) R[i].P.length R[i].P.length ∧ NestOp w B gk R[i].P) ∧ (∀ (i : Nat) (h : i < R.length), OV w B R[i].v R[i].P) ∧ apartR R
theorem ApB.below {w w' : World} {B g : Nat} {P : List (Blk × Value)} (h : ApB w B g P) (hb : Below w.heap.size w w') : ApB w' B g P := by
  obtain ⟨R, h1, h2, h3, h4⟩ := h
  exact ⟨R, h1, (fun i hi => by obtain ⟨gk, q1, q2, q3⟩ := h2 i hi; exact ⟨gk, q1, q2, q3.below hb⟩), (fun i hi => (h3 i hi).below hb), h4⟩
theorem ApB.set {w : World} {B g : Nat} {P : List (Blk × Value)} (h : ApB w B g P) (j : Nat) (u : Value) : ApB (w.setCell ⟨g, j, none⟩ u) B g P := by
  obtain ⟨R, h1, h2, h3, h4⟩ := h
  refine ⟨R, h1, (fun i hi => by obtain ⟨gk, q1, q2, q3⟩ := h2 i hi; exact ⟨gk, q1, q2, q3.low (by omega) j u⟩), (fun i hi => ?_), h4⟩
  obtain ⟨gk, q1, q2, q3⟩ := h2 i hi
  refine ⟨own_set' (h3 i hi).row (fun b hb => by rw [q2] at hb; have : gk = b := (by simpa [Value.ownBlock] using hb); show b ≠ g; omega) u, fun m hm => own_set' ((h3 i hi).data m hm) (fun b hb => ?_) u⟩
  obtain ⟨gm, e1, e2, e3⟩ := q3 R[i].P[m] (List.getElem_mem hm)
  rw [e1] at hb
  have : gm = b := by simpa [Value.ownBlock] using hb
  show b ≠ g
  omega
theorem ApB.snoc {w w1 : World} {B g gk : Nat} {P : List (Blk × Value)} {t : Blk} (h : ApB w B g P) (hb : Below w.heap.size w w1) (hgk : g < gk) (hB : B ≤ w.heap.size + 2) (ho : IsOpA w1 (w.heap.size + 2) gk t.ops.length t.ops) : ApB w1 B g (P ++ [(t, .slice (some ⟨gk, 0, none⟩) t.ops.length t.ops.length)]) := by
  obtain ⟨R, h1, h2, h3, h4⟩ := h
  obtain ⟨Q, q1, q2, q3, q4⟩ := ho
  have ql : Q.length = t.ops.length := by rw [← q1]; simp
  have hblk : (⟨t.args, Q.map Prod.fst⟩ : Blk) = t := by rw [q1]
  have hov : OV w1 (w.heap.size + 2) (.slice (some ⟨gk, 0, none⟩) Q.length Q.length) Q := ⟨by rw [ql]; exact q2, fun i hi => by obtain ⟨gi, e1, e2, e3⟩ := q3 Q[i] (List.getElem_mem hi); rw [e1]; exact e3⟩
  have hfold : ∀ (i : Nat) (hi : i < R.length) (b : Nat), footO R[i].v R[i].P b → b < w.heap.size := fun i hi b hb => ((h3 i hi).foot hb).2
  have hfnew : ∀ b, footO (.slice (some ⟨gk, 0, none⟩) Q.length Q.length) Q b → w.heap.size + 2 ≤ b := fun b hb => (hov.foot hb).1
  have hat : ∀ (i : Nat) (hi : i < (R ++ [(⟨t.args, .slice (some ⟨gk, 0, none⟩) Q.length Q.length, Q⟩ : RB)]).length), (∃ hi' : i < R.length, (R ++ [(⟨t.args, .slice (some ⟨gk, 0, none⟩) Q.length Q.length, Q⟩ : RB)])[i] = R[i]) ∨ (i = R.length ∧ (R ++ [(⟨t.args, .slice (some ⟨gk, 0, none⟩) Q.length Q.length, Q⟩ : RB)])[i] = ⟨t.args, .slice (some ⟨gk, 0, none⟩) Q.length Q.length, Q⟩) := fun i hi => by
    by_cases e : i < R.length
    · exact .inl ⟨e, List.getElem_append_left e⟩
    · simp only [List.length_append, List.length_cons, List.length_nil] at hi
      have : i = R.length := by omega
      subst this
      exact .inr ⟨rfl, by simp⟩
  refine ⟨R ++ [⟨t.args, .slice (some ⟨gk, 0, none⟩) Q.length Q.length, Q⟩], ?_, ?_, ?_, ?_⟩
  · rw [List.map_append, h1, ← ql]
    show P ++ [((⟨t.args, Q.map Prod.fst⟩ : Blk), _)] = _
    rw [hblk]
  · intro i hi
    rcases hat i hi with ⟨hi', e⟩ | ⟨-, e⟩
    · rw [e]
      obtain ⟨gi, e1, e2, e3⟩ := h2 i hi'
      exact ⟨gi, e1, e2, e3.below hb⟩
    · rw [e]
      exact ⟨gk, hgk, rfl, fun x hx => by obtain ⟨gi, e1, e2, e3⟩ := q3 x hx; exact ⟨gi, e1, e2, e3.base hB⟩⟩
  · intro i hi
    rcases hat i hi with ⟨hi', e⟩ | ⟨-, e⟩
    · rw [e]; exact (h3 i hi').below hb
    · rw [e]; exact hov.base hB
  · refine ⟨?_, ?_, ?_⟩
    · intro i j hi hj hn b hb hb'
      rcases hat i hi with ⟨hi', e⟩ | ⟨hie, e⟩ <;> rcases hat j hj with ⟨hj', e'⟩ | ⟨hje, e'⟩
      · rw [e] at hb; rw [e'] at hb'; exact h4.rows i j hi' hj' hn b hb hb'
      · rw [e] at hb; rw [e'] at hb'
        have := hfold i hi' b (.inl hb); have := hfnew b (.inl hb'); omega
      · rw [e] at hb; rw [e'] at hb'
        have := hfold j hj' b (.inl hb'); have := hfnew b (.inl hb); omega
      · omega
    · intro i j hi hj hn m n hm hm' b hb hb'
      rcases hat i hi with ⟨hi', e⟩ | ⟨hie, e⟩ <;> rcases hat j hj with ⟨hj', e'⟩ | ⟨hje, e'⟩
      · simp only [e] at hm hb; simp only [e'] at hm' hb'; exact h4.data i j hi' hj' hn m n hm hm' b hb hb'
      · simp only [e] at hm hb; simp only [e'] at hm' hb'
        have := hfold i hi' b (.inr ⟨m, hm, hb⟩); have := hfnew b (.inr ⟨n, hm', hb'⟩); omega
      · simp only [e] at hm hb; simp only [e'] at hm' hb'
        have := hfold j hj' b (.inr ⟨n, hm', hb'⟩); have := hfnew b (.inr ⟨m, hm, hb⟩); omega
      · omega
    · intro i hi
      rcases hat i hi with ⟨hi', e⟩ | ⟨-, e⟩
      · rw [e]; exact h4.each i hi'
      · rw [e]; exact q4
def IsBlA (w : World) (B g cap : Nat) (l : List Blk) : Prop := ∃ P : List (Blk × Value), P.map Prod.fst = l ∧ w.ownsRow B 51 2 (.slice (some ⟨g, 0, none⟩) l.length cap) l.length (cellsBl P) ∧ ApB w B g P
theorem cellsBl_R : ∀ R : List RB, cellsBl (R.map (fun r => (r.blk, r.v))) = cellsR R
  | [] => rfl
  | r :: s => by simp only [List.map_cons, cellsBl, cellsR, cellsBl_R s]; rfl
theorem IsBlA.is {w : World} {B g cap : Nat} {l : List Blk} (h : IsBlA w B g cap l) : IsBl w B g cap l := by
  obtain ⟨P, h1, h2, R, r1, r2, r3, r4⟩ := h
  refine ⟨P, h1, h2, fun x hx => ?_⟩
  rw [← r1] at hx
  obtain ⟨r, hr, rfl⟩ := List.mem_map.1 hx
  obtain ⟨i, hi, rfl⟩ := List.getElem_of_mem hr
  obtain ⟨gk, q1, q2, q3⟩ := r2 i hi
  have hl : R[i].blk.ops.length = R[i].P.length := by simp [RB.blk]
  refine ⟨gk, by rw [hl]; exact q2, q1, R[i].P, rfl, ?_, q3⟩
  have := (r3 i hi).row
  rw [q2] at this
  rw [hl]; exact this
theorem IsBlA.bv {w : World} {B g cap : Nat} {l : List Blk} (h : IsBlA w B g cap l) : ∃ R : List RB, R.map RB.blk = l ∧ BV w B (.slice (some ⟨g, 0, none⟩) l.length cap) R ∧ apartR R := by
  obtain ⟨P, h1, h2, R, r1, r2, r3, r4⟩ := h
  have hl : R.length = l.length := by rw [← h1, ← r1]; simp
  refine ⟨R, by rw [← h1, ← r1, List.map_map]; rfl, ⟨?_, r3⟩, r4⟩
  rw [← cellsBl_R, r1, hl]; exact h2
set_option maxRecDepth 100000 in
set_option maxHeartbeats 2000000 in
theorem toBlSA_any (a : Option Addr) (c : Nat) (l : List Blk) (w : World) (hl : l.length ≤ 1048576) (hz : ∀ (k : Nat) (h : k < l.length), l[k].small) (h : MemBl w a l) :
    Calls Tryz.prog 8 #[.slice a l.length c] w fun e w' => e = .returned (.slice (some ⟨w.heap.size, 0, none⟩) l.length l.length) ∧ IsBlA w' w.heap.size w.heap.size l.length l ∧ Below w.heap.size w w' := by
  have HT : Hid (MemBl w a l) := h
  have HZ : Hid (∀ (k : Nat) (h : k < l.length), l[k].small) := hz
  have hmk := makeBl l.length hl
  have HM : Hid (∃ (P : List (Blk × Value)) (xs : List Value), P.map Prod.fst = l.take 0 ∧ (w.alloc (.cells (madeCells #[.int .i64 0, .slice none 0 0] (l.length * 2)) 51)).ownsRow w.heap.size 51 2 (.slice (some ⟨w.heap.size, 0, none⟩) l.length l.length) l.length xs ∧ xs.take (0 * 2) = cellsBl P ∧ ApB (w.alloc (.cells (madeCells #[.int .i64 0, .slice none 0 0] (l.length * 2)) 51)) w.heap.size w.heap.size P) := ⟨[], _, rfl, madeBl l.length hl w, rfl, ⟨[], rfl, fun i h => absurd h (Nat.not_lt_zero i), (fun i h => absurd h (Nat.not_lt_zero i)), (fun i j h => absurd h (Nat.not_lt_zero i)), (fun i j h => absurd h (Nat.not_lt_zero i)), (fun i h => absurd h (Nat.not_lt_zero i))⟩⟩
  clear h hz
  go_enter Tryz.func8, Tryz.ntmps8
  go_wp2_with fail
  go_loopw [4] (fun i wr => ∃ k : Nat, k ≤ l.length ∧ i = .int .i64 (k : Int) ∧ Hid (∃ (P : List (Blk × Value)) (xs : List Value), P.map Prod.fst = l.take k ∧ wr.ownsRow w.heap.size 51 2 (.slice (some ⟨w.heap.size, 0, none⟩) l.length l.length) l.length xs ∧ xs.take (k * 2) = cellsBl P ∧ ApB wr w.heap.size w.heap.size P) ∧ Below w.heap.size w wr) (fun i _ => l.length - (RowKit.intOf i).toNat)
  case atStart => exact ⟨0, Nat.zero_le _, rfl, HM.out, (Below.refl _ _).alloc (Nat.le_refl _) _⟩
  case round =>
    obtain ⟨k, hk, rfl, HX, hb⟩ := hrel
    have HB : Hid (Below w.heap.size w wr) := hb
    clear hb
    by_cases hlt : k < l.length
    · obtain ⟨b, off, rfl, hc⟩ := (HT.out.below HB.out) (by omega)
      obtain ⟨c0, ao, cap, cz, hm⟩ := hc k hlt
      clear hc
      have HU : Hid (Calls Tryz.prog 24 #[(l[k]'hlt).val (.slice ao (l[k]'hlt).ops.length cap)] wr fun e w' => ∃ g, e = .returned ((l[k]'hlt).val (.slice (some ⟨g, 0, none⟩) (l[k]'hlt).ops.length (l[k]'hlt).ops.length)) ∧ IsOpA w' (wr.heap.size + 2) g (l[k]'hlt).ops.length (l[k]'hlt).ops ∧ Below wr.heap.size wr w') := toBlA_any _ ao cap wr (HZ.out k hlt) hm
      obtain ⟨P, xs, hP, hox, htx, hN⟩ := HX.out
      have HO : Hid (wr.ownsRow w.heap.size 51 2 (.slice (some ⟨w.heap.size, 0, none⟩) l.length l.length) l.length xs) := hox
      have HE : Hid (xs.take (k * 2) = cellsBl P) := htx
      have HP : Hid (P.map Prod.fst = l.take k) := hP
      have HN : Hid (ApB wr w.heap.size w.heap.size P) := hN
      have hgl : w.heap.size < wr.heap.size := (hox.lt w.heap.size rfl).2
      have HL : Hid (xs.length = l.length * 2) := hox.1
      clear hox htx hP hN hm
      go_wp2_with fail
      refine HU.out.mono ?_
      rintro e w1 ⟨gk, rfl, ho1, hb1⟩
      have HO1 : Hid (w1.ownsRow w.heap.size 51 2 (.slice (some ⟨w.heap.size, 0, none⟩) l.length l.length) l.length xs) := own_below HO.out hb1
      have HB1 : Hid (Below w.heap.size w w1) := HB.out.trans (hb1.mono HB.out.size)
      have HN1 : Hid (ApB w1 w.heap.size w.heap.size (P ++ [(l[k]'hlt, .slice (some ⟨gk, 0, none⟩) (l[k]'hlt).ops.length (l[k]'hlt).ops.length)])) := HN.out.snoc hb1 (by have := ho1.is.lt.1; omega) (by omega) ho1
      have hgl1 : w.heap.size < w1.heap.size := (HO1.out.lt w.heap.size rfl).2
      clear hb1 c0 cz ho1
      obtain ⟨x0, e0⟩ := own_cell HO1.out (k * 2) (by have := HL.out; omega)
      obtain ⟨x1, e1⟩ := own_cell HO1.out (k * 2 + 1) (by have := HL.out; omega)
      have ff : ∀ j, w1.frozen? ⟨w.heap.size, j, none⟩ = false := own_frozen HO1.out
      go_wp2
      obtain ⟨ys, hy, hyt⟩ := putBl_next (t := l[k]'hlt) (v := .slice (some ⟨gk, 0, none⟩) (l[k]'hlt).ops.length (l[k]'hlt).ops.length) HO1.out HE.out hlt
      refine ⟨⟨k + 1, by omega, by go_num, ⟨P ++ [(l[k]'hlt, .slice (some ⟨gk, 0, none⟩) (l[k]'hlt).ops.length (l[k]'hlt).ops.length)], ys, ?_, hy, ?_, ?_⟩, ?_⟩, by simp [RowKit.intOf]; omega⟩
      · rw [List.map_append, HP.out, takeBl l k hlt]; rfl
      · rw [hyt, cellsBl_append]; simp [cellsBl]
      · exact ((HN1.out.set _ _).set _ _)
      · exact ((HB1.out.setCell (Nat.le_refl _) _).setCell (Nat.le_refl _) _)
    · have HF : Hid (IsBlA wr w.heap.size w.heap.size l.length l) := by
        obtain ⟨P, xs, hP, hox, htx, hN⟩ := HX.out
        have hkl : k = l.length := by omega
        rw [hkl, List.take_of_length_le (by rw [hox.1]; exact Nat.le_refl _)] at htx
        rw [hkl, List.take_length] at hP
        rw [htx] at hox
        exact ⟨P, hP, hox, hN⟩
      clear HX
      go_wp2
      go_ret
      exact ⟨rfl, HF.out, HB.out⟩

end Go.Proofs.YteboaiklibaomaaGreatDoor
/-
  The exact law of UnfuseCode answers true at every code; nothing that was there is turned.
-/
namespace Go.Proofs.YteboaiklibaomaaGreatDoor
open Go.RowKit Go.Extern.Stop Go.Stop Go.Extern Num Go.Lib

/-- A box of two cells. -/
structure Cu (b : Nat) (v0 v1 : Value) (u : World) : Prop where
  c0 : u.cell? ⟨b, 0, none⟩ = some v0
  c1 : u.cell? ⟨b, 1, none⟩ = some v1
theorem Cu.below {b : Nat} {v0 v1 : Value} {u u' : World} (h : Cu b v0 v1 u) (hb : Below u.heap.size u u') : Cu b v0 v1 u' := ⟨cell_keep hb h.c0, cell_keep hb h.c1⟩
theorem Cu.keeps {F : Nat → Prop} {b : Nat} {v0 v1 : Value} {u u' : World} (h : Cu b v0 v1 u) (hk : Keeps F u u') (hn : ¬ F b) : Cu b v0 v1 u' := ⟨hk.cell h.c0 hn, hk.cell h.c1 hn⟩
theorem Cu.new (u : World) (v0 v1 : Value) (T : TypeId) : Cu u.heap.size v0 v1 (u.alloc (.cells #[v0, v1] T)) := ⟨by rw [World.cell?_alloc_at _ _ _ _ rfl]; rfl, by rw [World.cell?_alloc_at _ _ _ _ rfl]; rfl⟩
theorem keepsB {F : Nat → Prop} {B : Nat} {a w w' : World} (h : Below B a w) (hB : B ≤ w.heap.size) (hk : Keeps F w w') (hf : ∀ b, F b → B ≤ b) : Below B a w' :=
  ⟨hk.os.trans h.os, hk.tape.trans h.tape, hk.output.trans h.output, Nat.le_trans h.size hk.size, fun k hk' => (hk.block k (by omega) (fun q => by have := hf k q; omega)).trans (h.block k hk')⟩
theorem smallR_of {R : List RB} {L : List Blk} (h : R.map RB.blk = L) (hl : L.length ≤ 1048576) (hz : ∀ (k : Nat) (h : k < L.length), L[k].small) : smallR R := by
  subst h
  refine ⟨by simpa using hl, fun r hr => ?_⟩
  obtain ⟨i, hi, rfl⟩ := List.getElem_of_mem hr
  have hs := hz i (by simpa using hi)
  rw [List.getElem_map] at hs
  refine ⟨by simpa [RB.blk] using hs.len, fun x hx => ?_⟩
  obtain ⟨j, hj, rfl⟩ := List.getElem_of_mem hx
  have := hs.names j (by simpa [RB.blk] using hj)
  have e : R[i].blk.ops[j]'(by simpa [RB.blk] using hj) = R[i].P[j].1 := by simp [RB.blk]
  rw [e] at this
  exact this.len
theorem endR_pos {R : List RB} (hz : smallR R) : endR 1 R ≤ 4620000000000000000 := by
  have h1 := endR_le R 1 hz.2
  have h4 : R.length * 4398052802561 ≤ 1048576 * 4398052802561 := Nat.mul_le_mul_right _ hz.1
  omega
def smallR_of_l (l : List Blk) : Prop := ∀ R : List RB, R.map RB.blk = l → smallR R
set_option maxRecDepth 100000 in
set_option maxHeartbeats 4000000 in
theorem lawUc_any (w : World) (hG : LT w ∧ FU w) (a : Option Addr) (cp : Nat) (l : List Blk) (hl : l.length ≤ 9223372036854775807) (h : MemBl w a l) (hz : ∀ (k : Nat) (h : k < l.length), l[k].able) :
    Calls Tryz.prog 4 #[.slice a l.length cp] w fun e w' => e = .returned (.bool true) ∧ Below w.heap.size w w' := by
  have HS : Hid (Calls Tryz.prog 6 #[.slice a l.length cp, .int .i64 1048576] w fun e w' => SZBl l w e w') := szBlS_any a cp l w 1048576 (Nat.le_refl _) hl h hz
  have HT : Hid (MemBl w a l) := h
  have HG : Hid (∀ u, Below w.heap.size w u → LT u ∧ FU u) := fun u hu => ⟨hG.1.below hu, hG.2.below hu⟩
  obtain ⟨ok, hok⟩ := okR_some l
  have HOk : Hid (OkR l ok) := hok
  clear hok h hz hG hl
  go_enter Tryz.func4, Tryz.ntmps4
  go_wp2_with fail
  refine HS.out.mono ?_
  rintro e w1 ⟨h1, b1⟩
  have B1 : Hid (Below w.heap.size w w1) := b1
  clear b1
  rcases h1 with rfl | ⟨q, hq, rfl, hl, hz⟩
  · go_wp2
    go_ret
    exact ⟨rfl, B1.out⟩
  have HZ : Hid (∀ (k : Nat) (h : k < l.length), l[k].small) := hz
  have HN : Hid (l.length ≤ 1048576) := hl
  have HU : Hid (∀ wx, Below w.heap.size w wx → Calls Tryz.prog 8 #[.slice a l.length cp] wx fun e w' => ∃ g, e = .returned (.slice (some ⟨g, 0, none⟩) l.length l.length) ∧ IsBlA w' wx.heap.size g l.length l ∧ Below wx.heap.size wx w') := fun wx hx => (toBlSA_any a cp l wx hl hz (HT.out.below hx)).mono fun e w' ⟨h1, h2, h3⟩ => ⟨_, h1, h2, h3⟩
  have HSp : Hid (∀ (u : World) (g B : Nat), IsBl u B g l.length l → Calls Tryz.prog 15 #[.slice (some ⟨g, 0, none⟩) l.length l.length] u fun e w' => AnsC (codeU ok l) (blksU ok l) u e w') := fun u g B hi => specUc_any g _ B l ok u hl hz hi.row HOk.out
  have HIm : Hid (∀ (u : World) (g B : Nat), Below w.heap.size w u → IsBl u B g l.length l → Calls Tryz.prog 16 #[.slice (some ⟨g, 0, none⟩) l.length l.length] u fun e w' => AnsI (codeU ok l) (blksU ok l) u e w') := fun u g B hu hi => implUc_any g _ B l ok u hl hz hi.row (HG.out u hu).1 (HG.out u hu).2 HOk.out
  have hbs := blksU_small (ok := ok) HOk.out hz
  obtain ⟨c, hc⟩ : ∃ c, c = codeU ok l := ⟨_, rfl⟩
  obtain ⟨L, hL⟩ : ∃ L, L = blksU ok l := ⟨_, rfl⟩
  rw [← hc, ← hL] at HSp HIm
  rw [← hL] at hbs
  have HLs : Hid (L.length ≤ 1048576 ∧ ∀ (k : Nat) (h : k < L.length), L[k].small) := ⟨by have := hbs.1; omega, hbs.2⟩
  have HSm : Hid (smallR_of_l l) := fun R hR => smallR_of hR hl hz
  clear hz hl hc hL hbs
  go_wp2_with fail
  refine (HU.out _ B1.out).mono ?_
  rintro e w2 ⟨g2, rfl, o2, b2⟩
  have O2 : Hid (IsBl w2 w1.heap.size g2 l.length l) := o2.is
  have B2 : Hid (Below w.heap.size w w2) := B1.out.trans (b2.mono B1.out.size)
  clear o2 b2 B1
  go_wp2_with fail
  refine (HSp.out w2 g2 _ O2.out).mono ?_
  rintro e w3 ⟨vw, rfl, hsee, b3⟩
  have B3 : Hid (Below w.heap.size w w3) := B2.out.trans (b3.mono B2.out.size)
  have hz3 : w.heap.size ≤ w3.heap.size := B3.out.size
  obtain ⟨u3, hu3⟩ : ∃ u, u = w3.alloc (.cells #[.int .i64 c, vw] 26) := ⟨_, rfl⟩
  have HU3 : Hid (u3 = w3.alloc (.cells #[.int .i64 c, vw] 26)) := hu3
  have hs3 : w3.heap.size < u3.heap.size := by rw [hu3]; simp
  have BU3 : Hid (Below w.heap.size w u3) := by rw [hu3]; exact B3.out.alloc B3.out.size _
  have HX : Hid (∀ u, Below u3.heap.size u3 u → Cu w3.heap.size (.int .i64 c) vw u ∧ SeeB u vw L) := fun u hu => by
    have h1 : Cu w3.heap.size (.int .i64 c) vw u3 := by rw [hu3]; exact Cu.new _ _ _ _
    have h2 : SeeB u3 vw L := by rw [hu3]; exact hsee.below (bnewK _ _)
    exact ⟨h1.below hu, h2.below hu⟩
  obtain ⟨aw, cw, rfl, -⟩ := id hsee
  clear hu3 hsee b3 O2 B2 B3
  go_wp2_with fail
  rw [← HU3.out]
  clear HU3
  refine (HU.out _ BU3.out).mono ?_
  rintro e w4 ⟨g4, rfl, o4, b4⟩
  have HI4 : Hid (IsBl w4 u3.heap.size g4 l.length l) := o4.is
  obtain ⟨R4, hR4, hv4, ha4⟩ := o4.bv
  have HV4 : Hid (BV w4 u3.heap.size (.slice (some ⟨g4, 0, none⟩) l.length l.length) R4) := hv4
  have HA4 : Hid (apartR R4) := ha4
  have HS4 : Hid (smallR R4) := HSm.out R4 hR4
  have HF4 : Hid (∀ b, footR (.slice (some ⟨g4, 0, none⟩) l.length l.length) R4 b → u3.heap.size ≤ b ∧ b < w4.heap.size) := fun b hb => hv4.foot hb
  have B4 : Hid (Below u3.heap.size u3 w4) := b4
  have hs4 : u3.heap.size ≤ w4.heap.size := b4.size
  clear o4 hR4 hv4 ha4 b4
  go_wp2_with fail
  refine (HIm.out w4 g4 _ (BU3.out.trans (B4.out.mono BU3.out.size)) HI4.out).mono ?_
  rintro e w5 ⟨vg, Rg, rfl, hvg, hmg, hag, b5⟩
  obtain ⟨u5, hu5⟩ : ∃ u, u = w5.alloc (.cells #[.int .i64 c, vg] 26) := ⟨_, rfl⟩
  have HU5 : Hid (u5 = w5.alloc (.cells #[.int .i64 c, vg] 26)) := hu5
  have hs5 : w5.heap.size < u5.heap.size := by rw [hu5]; simp
  have hb5 : Below w4.heap.size w4 u5 := by rw [hu5]; exact b5.alloc b5.size _
  have hs45 : w4.heap.size ≤ w5.heap.size := b5.size
  have HB5 : Hid (Below w4.heap.size w4 u5) := hb5
  have HVg : Hid (BV u5 w4.heap.size vg Rg) := by rw [hu5]; exact hvg.below (bnewK _ _)
  have HCg : Hid (Cu w5.heap.size (.int .i64 c) vg u5) := by rw [hu5]; exact Cu.new _ _ _ _
  have HFg : Hid (∀ b, footR vg Rg b → w4.heap.size ≤ b ∧ b < w5.heap.size) := fun b hb => hvg.foot hb
  have HMg : Hid (Rg.map RB.blk = L) := hmg
  have HAg : Hid (apartR Rg) := hag
  have HSg : Hid (smallR Rg) := smallR_of hmg HLs.out.1 HLs.out.2
  have BX5 : Hid (Below u3.heap.size u3 u5) := B4.out.trans (hb5.mono B4.out.size)
  have HI5 : Hid (IsBl u5 u3.heap.size g4 l.length l) := HI4.out.below hb5
  have HV5 : Hid (BV u5 u3.heap.size (.slice (some ⟨g4, 0, none⟩) l.length l.length) R4) := HV4.out.below hb5
  obtain ⟨ag, cg, rfl⟩ := own_form hvg.row
  obtain ⟨ng, hng⟩ : ∃ ng, ng = Rg.length := ⟨_, rfl⟩
  rw [← hng] at HU5 HVg HCg HFg ⊢
  have HLg : Hid (L.length = ng) := by show _ = _; rw [hng, ← hmg]; simp
  clear hng hu5 hvg hmg hag b5 hb5 HV4 HI4 B4
  have q0 := HCg.out.c0
  have q1 := HCg.out.c1
  obtain ⟨⟨p0, p1⟩, hse5⟩ := HX.out u5 BX5.out
  have HSe5 : Hid (SeeB u5 (.slice aw L.length cw) L) := hse5
  clear hse5
  rw [HU5.out] at q0 q1 p0 p1
  go_wp2_with fail
  rw [← HU5.out]
  clear q0 q1 p0 p1 HU5
  have HEq : Hid (∀ u, BV u w4.heap.size (.slice ag ng cg) Rg → Below u3.heap.size u3 u → Calls Tryz.prog 10 #[.agg #[.int .i64 c, .slice ag ng cg], .agg #[.int .i64 c, .slice aw L.length cw]] u fun e w' => e = .returned (.bool true) ∧ Below u.heap.size u w') := fun u hv hu => eqCodeR_same c _ _ L u HLs.out.1 HLs.out.2 (by have := hv.see; rw [HMg.out] at this; exact this) (HX.out u hu).2
  refine (HEq.out _ HVg.out BX5.out).mono ?_
  rintro e w6 ⟨rfl, b6⟩
  have HB6 : Hid (Below u5.heap.size u5 w6) := b6
  have BX6 : Hid (Below u3.heap.size u3 w6) := BX5.out.trans (b6.mono BX5.out.size)
  have BW6 : Hid (Below w.heap.size w w6) := BU3.out.trans (BX6.out.mono BU3.out.size)
  clear b6 HSe5
  go_wp2_with fail
  refine (HU.out _ BW6.out).mono ?_
  rintro e w7 ⟨g7, rfl, o7, b7⟩
  have HI7 : Hid (IsBl w7 w6.heap.size g7 l.length l) := o7.is
  have HB7 : Hid (Below u5.heap.size u5 w7) := HB6.out.trans (b7.mono HB6.out.size)
  clear o7 b7
  go_wp2_with fail
  refine (eqBlS_same _ _ _ _ _ _ l w7 HN.out HZ.out (HI5.out.below HB7.out).row HI7.out.row).mono ?_
  rintro e w8 ⟨rfl, b8⟩
  have HB8 : Hid (Below u5.heap.size u5 w8) := HB7.out.trans (b8.mono HB7.out.size)
  have BX8 : Hid (Below u3.heap.size u3 w8) := BX5.out.trans (HB8.out.mono BX5.out.size)
  have hs8 : u5.heap.size ≤ w8.heap.size := HB8.out.size
  clear b8 HB6 HB7 HI7 BX6 BW6
  go_wp2_with fail
  refine (markBls_any R4 _ _ w8 HS4.out (HV5.out.below HB8.out) HA4.out).mono ?_
  rintro e w9 ⟨rfl, -, hk9⟩
  have hE4 := endR_pos HS4.out
  obtain ⟨E4, hE⟩ : ∃ E, E = endR 1 R4 := ⟨_, rfl⟩
  rw [← hE] at hE4 ⊢
  clear hE
  have BX9 : Hid (Below u3.heap.size u3 w9) := keepsB BX8.out (by omega) hk9 (fun b hb => (HF4.out b hb).1)
  have HV9 : Hid (BV w9 w4.heap.size (.slice ag ng cg) Rg) := (HVg.out.below HB8.out).keeps hk9 (fun b hb hb' => by have h1 := HFg.out b hb; have h2 := HF4.out b hb'; omega)
  have HC9 : Hid (Cu w5.heap.size (.int .i64 c) (.slice ag ng cg) w9) := (HCg.out.below HB8.out).keeps hk9 (fun hb => by have h2 := HF4.out _ hb; omega)
  have hs9 : w8.heap.size ≤ w9.heap.size := hk9.size
  clear hk9 BX8 HB8 HVg HCg HV5 HI5 HF4
  have q0 := HC9.out.c0
  have q1 := HC9.out.c1
  obtain ⟨⟨p0, p1⟩, -⟩ := HX.out w9 BX9.out
  go_wp2_with fail
  clear q0 q1 p0 p1
  refine (HEq.out _ HV9.out BX9.out).mono ?_
  rintro e w10 ⟨rfl, b10⟩
  have BX10 : Hid (Below u3.heap.size u3 w10) := BX9.out.trans (b10.mono BX9.out.size)
  have HV10 : Hid (BV w10 w4.heap.size (.slice ag ng cg) Rg) := HV9.out.below b10
  have HC10 : Hid (Cu w5.heap.size (.int .i64 c) (.slice ag ng cg) w10) := HC9.out.below b10
  have hs10 : w9.heap.size ≤ w10.heap.size := b10.size
  clear b10 BX9 HV9 HC9
  have q0 := HC10.out.c0
  have q1 := HC10.out.c1
  go_wp2_with fail
  clear q0 q1
  refine (markCodeR_any c Rg _ _ w10 HSg.out HV10.out HAg.out).mono ?_
  rintro e w11 ⟨rfl, hv11, hk11⟩
  have HEg : Hid (∀ u, BV u w4.heap.size (.slice ag ng cg) (marksR 1 Rg) → Calls Tryz.prog 14 #[.agg #[.int .i64 c, .slice ag ng cg], .int .i64 1] u fun e w' => e = .returned (.int .i64 ((endR 1 Rg : Nat) : Int)) ∧ Below u.heap.size u w') := fun u hu => heldCodeR_any c Rg _ _ u HSg.out hu
  have hEg := endR_pos HSg.out
  obtain ⟨Eg, hE⟩ : ∃ E, E = endR 1 Rg := ⟨_, rfl⟩
  rw [← hE] at hEg HEg ⊢
  clear hE
  have BX11 : Hid (Below u3.heap.size u3 w11) := keepsB BX10.out (by omega) hk11 (fun b hb => by have := HFg.out b hb; omega)
  have HV11 : Hid (BV w11 w4.heap.size (.slice ag ng cg) (marksR 1 Rg)) := hv11
  have HC11 : Hid (Cu w5.heap.size (.int .i64 c) (.slice ag ng cg) w11) := HC10.out.keeps hk11 (fun hb => by have h2 := HFg.out _ hb; omega)
  have hkn : ((Eg : Int) != (Eg : Int)) = false := by simp
  clear hv11 hk11 BX10 HV10 HC10
  have q0 := HC11.out.c0
  have q1 := HC11.out.c1
  go_wp2_with fail
  clear q0 q1
  refine (HEg.out _ HV11.out).mono ?_
  rintro e w12 ⟨rfl, b12⟩
  have BX12 : Hid (Below u3.heap.size u3 w12) := BX11.out.trans (b12.mono BX11.out.size)
  have HV12 : Hid (BV w12 w4.heap.size (.slice ag ng cg) (marksR 1 Rg)) := HV11.out.below b12
  have HC12 : Hid (Cu w5.heap.size (.int .i64 c) (.slice ag ng cg) w12) := HC11.out.below b12
  have BW12 : Hid (Below w.heap.size w w12) := BU3.out.trans (BX12.out.mono BU3.out.size)
  clear b12 BX11 HV11 HC11
  go_wp2_with fail
  refine (HU.out _ BW12.out).mono ?_
  rintro e w13 ⟨g13, rfl, o13, b13⟩
  have HI13 : Hid (IsBl w13 w12.heap.size g13 l.length l) := o13.is
  have HB13 : Hid (Below w12.heap.size w12 w13) := b13
  have BW13 : Hid (Below w.heap.size w w13) := BW12.out.trans (b13.mono BW12.out.size)
  clear o13 b13
  go_wp2_with fail
  refine (HIm.out w13 g13 _ BW13.out HI13.out).mono ?_
  rintro e w14 ⟨vh, Rh, rfl, hvh, hmh, -, b14⟩
  obtain ⟨u14, hu14⟩ : ∃ u, u = w14.alloc (.cells #[.int .i64 c, vh] 26) := ⟨_, rfl⟩
  have HU14 : Hid (u14 = w14.alloc (.cells #[.int .i64 c, vh] 26)) := hu14
  have hb14 : Below w12.heap.size w12 u14 := by rw [hu14]; exact (HB13.out.trans (b14.mono HB13.out.size)).alloc (Nat.le_trans HB13.out.size b14.size) _
  have HSh : Hid (SeeB u14 vh L) := by rw [hu14]; have := (hvh.below (bnewK w14 (.cells #[.int .i64 c, vh] 26))).see; rw [hmh] at this; exact this
  have HCh : Hid (Cu w14.heap.size (.int .i64 c) vh u14) := by rw [hu14]; exact Cu.new _ _ _ _
  have BX14 : Hid (Below u3.heap.size u3 u14) := BX12.out.trans (hb14.mono BX12.out.size)
  have HV14 : Hid (BV u14 w4.heap.size (.slice ag ng cg) (marksR 1 Rg)) := HV12.out.below hb14
  have HC14 : Hid (Cu w5.heap.size (.int .i64 c) (.slice ag ng cg) u14) := HC12.out.below hb14
  obtain ⟨ah, ch, rfl⟩ := own_form hvh.row
  obtain ⟨nh, hnh⟩ : ∃ nh, nh = Rh.length := ⟨_, rfl⟩
  rw [← hnh] at HU14 HSh HCh ⊢
  clear hnh hu14 hvh hmh b14 hb14 HV12 HC12 BX12 HI13 HB13 BW13 BW12
  have q0 := HCh.out.c0
  have q1 := HCh.out.c1
  obtain ⟨⟨p0, p1⟩, hse⟩ := HX.out u14 BX14.out
  have HSe : Hid (SeeB u14 (.slice aw L.length cw) L) := hse
  clear hse
  rw [HU14.out] at q0 q1 p0 p1
  go_wp2_with fail
  rw [← HU14.out]
  clear q0 q1 p0 p1 HU14
  refine (eqCodeR_same c _ _ L u14 HLs.out.1 HLs.out.2 HSh.out HSe.out).mono ?_
  rintro e w15 ⟨rfl, b15⟩
  have HV15 : Hid (BV w15 w4.heap.size (.slice ag ng cg) (marksR 1 Rg)) := HV14.out.below b15
  have HC15 : Hid (Cu w5.heap.size (.int .i64 c) (.slice ag ng cg) w15) := HC14.out.below b15
  have BX15 : Hid (Below u3.heap.size u3 w15) := BX14.out.trans (b15.mono BX14.out.size)
  clear b15 HV14 HC14 BX14 HSh HSe HCh
  have q0 := HC15.out.c0
  have q1 := HC15.out.c1
  go_wp2_with fail
  clear q0 q1
  refine (HEg.out _ HV15.out).mono ?_
  rintro e w16 ⟨rfl, b16⟩
  have BW16 : Hid (Below w.heap.size w w16) := BU3.out.trans ((BX15.out.trans (b16.mono BX15.out.size)).mono BU3.out.size)
  clear b16
  go_wp2
  go_ret
  exact ⟨rfl, BW16.out⟩
end Go.Proofs.YteboaiklibaomaaGreatDoor
