/-
  Parts of the proof laid into one text, one behind the other: ToA, LawUc. Contracts of the program's and the model's functions, and what they are proved of, as their theorems say.
-/
import Derived.Test.YtoafolefecddmaaGreatDoorMkB
import Derived.Test.YtoafolefecddmaaGreatDoorUfE
import Derived.Test.YtoafolefecddmaaGreatDoorUfD
import Derived.Test.YtoafolefecddmaaGreatDoorTiC
namespace Go.Proofs.YtoafolefecddmaaGreatDoor
open Go.RowKit Go.Extern.Stop Go.Stop Go.Extern Num Go.Lib
theorem apartO_snoc {P : List (Opr × Value)} (h : apartO P) {x : Opr × Value} (hx : ∀ (i : Nat) (hi : i < P.length), farV P[i].2 x.2) : apartO (P ++ [x]) := by
  have sym : ∀ a b : Value, farV a b → farV b a := fun a b hab g hg hg' => hab g hg' hg
  intro i j hi hj hn
  simp only [List.length_append, List.length_cons, List.length_nil] at hi hj
  by_cases ei : i < P.length <;> by_cases ej : j < P.length
  · rw [List.getElem_append_left ei, List.getElem_append_left ej]; exact h i j ei ej hn
  · have : j = P.length := by omega
    subst this
    rw [List.getElem_append_left ei]
    simp only [List.getElem_append_right (Nat.le_refl _), Nat.sub_self, List.getElem_cons_zero]
    exact hx i ei
  · have : i = P.length := by omega
    subst this
    rw [List.getElem_append_left ej]
    simp only [List.getElem_append_right (Nat.le_refl _), Nat.sub_self, List.getElem_cons_zero]
    exact sym _ _ (hx j ej)
  · omega
def IsOpA (w : World) (B g cap : Nat) (l : List Opr) : Prop := ∃ P : List (Opr × Value), P.map Prod.fst = l ∧ w.ownsRow B 100 7 (.slice (some ⟨g, 0, none⟩) l.length cap) l.length (cellsOp P) ∧ NestOp w B g P ∧ apartO P
theorem IsOpA.is {w : World} {B g cap : Nat} {l : List Opr} (h : IsOpA w B g cap l) : IsOp w B g cap l := by
  obtain ⟨P, h1, h2, h3, -⟩ := h
  exact ⟨P, h1, h2, h3⟩
theorem IsOpA.low {w : World} {B g cap : Nat} {l : List Opr} (h : IsOpA w B g cap l) {g0 : Nat} (hg : g0 < g) (j : Nat) (u : Value) : IsOpA (w.setCell ⟨g0, j, none⟩ u) B g cap l := by
  obtain ⟨P, h1, h2, h3, h4⟩ := h
  exact ⟨P, h1, own_set h2 (p := ⟨g0, j, none⟩) (by show g ≠ g0; omega) u, h3.low (by omega) j u, h4⟩
theorem IsOpA.base {w : World} {B B' g cap : Nat} {l : List Opr} (h : IsOpA w B g cap l) (hb : B' ≤ B) : IsOpA w B' g cap l := by
  obtain ⟨P, h1, h2, h3, h4⟩ := h
  exact ⟨P, h1, own_base h2 hb, (fun x hx => by obtain ⟨gk, q1, q2, q3⟩ := h3 x hx; exact ⟨gk, q1, q2, q3.base hb⟩), h4⟩
set_option maxRecDepth 100000 in
set_option maxHeartbeats 2000000 in
theorem toOpSA_any (a : Option Addr) (c : Nat) (l : List Opr) (w : World) (hl : l.length ≤ 1048576) (hz : ∀ (k : Nat) (h : k < l.length), l[k].small) (h : MemOp w a l) :
    Calls Tryz.prog 82 #[.slice a l.length c] w fun e w' => e = .returned (.slice (some ⟨w.heap.size, 0, none⟩) l.length l.length) ∧ IsOpA w' w.heap.size w.heap.size l.length l ∧ Below w.heap.size w w' := by
  have HT : Hid (MemOp w a l) := h
  have HZ : Hid (∀ (k : Nat) (h : k < l.length), l[k].small) := hz
  have hmk := makeOp l.length hl
  have HM : Hid (∃ (P : List (Opr × Value)) (xs : List Value), P.map Prod.fst = l.take 0 ∧ (w.alloc (.cells (madeCells #[.int .i64 0, .int .i64 0, .int .i64 0, .int .i64 0, .int .i64 0, .string ⟨#[]⟩, .slice none 0 0] (l.length * 7)) 100)).ownsRow w.heap.size 100 7 (.slice (some ⟨w.heap.size, 0, none⟩) l.length l.length) l.length xs ∧ xs.take (0 * 7) = cellsOp P ∧ NestOp (w.alloc (.cells (madeCells #[.int .i64 0, .int .i64 0, .int .i64 0, .int .i64 0, .int .i64 0, .string ⟨#[]⟩, .slice none 0 0] (l.length * 7)) 100)) w.heap.size w.heap.size P ∧ apartO P) := ⟨[], _, rfl, madeOp l.length hl w, rfl, (fun x hx => by cases hx), (fun i j hi => by cases hi)⟩
  clear h hz
  go_enter Tryz.func82, Tryz.ntmps82
  go_wp2_with fail
  go_loopw [4] (fun i wr => ∃ k : Nat, k ≤ l.length ∧ i = .int .i64 (k : Int) ∧ Hid (∃ (P : List (Opr × Value)) (xs : List Value), P.map Prod.fst = l.take k ∧ wr.ownsRow w.heap.size 100 7 (.slice (some ⟨w.heap.size, 0, none⟩) l.length l.length) l.length xs ∧ xs.take (k * 7) = cellsOp P ∧ (NestOp wr w.heap.size w.heap.size P ∧ apartO P)) ∧ Below w.heap.size w wr) (fun i _ => l.length - (RowKit.intOf i).toNat)
  case atStart => exact ⟨0, Nat.zero_le _, rfl, HM.out, (Below.refl _ _).alloc (Nat.le_refl _) _⟩
  case round =>
    obtain ⟨k, hk, rfl, HX, hb⟩ := hrel
    have HB : Hid (Below w.heap.size w wr) := hb
    clear hb
    by_cases hlt : k < l.length
    · obtain ⟨b, off, rfl, hc⟩ := (HT.out.below HB.out) (by omega)
      obtain ⟨c0, c1, c2, c3, c4, c5, ao, cap, cz, hm⟩ := hc k hlt
      clear hc
      have HU : Hid (Calls Tryz.prog 116 #[(l[k]'hlt).val (.slice ao (l[k]'hlt).data.length cap)] wr fun e w' => ∃ g, e = .returned ((l[k]'hlt).val (.slice (some ⟨g, 0, none⟩) (l[k]'hlt).data.length (l[k]'hlt).data.length)) ∧ IsD w' (wr.heap.size + 2) g (l[k]'hlt).data.length (l[k]'hlt).data ∧ Below wr.heap.size wr w') := toOp_any _ ao cap wr (HZ.out k hlt) hm
      obtain ⟨P, xs, hP, hox, htx, hN, hAp⟩ := HX.out
      have HAp : Hid (apartO P) := hAp
      have HO : Hid (wr.ownsRow w.heap.size 100 7 (.slice (some ⟨w.heap.size, 0, none⟩) l.length l.length) l.length xs) := hox
      have HE : Hid (xs.take (k * 7) = cellsOp P) := htx
      have HP : Hid (P.map Prod.fst = l.take k) := hP
      have HN : Hid (NestOp wr w.heap.size w.heap.size P) := hN
      have hgl : w.heap.size < wr.heap.size := (hox.lt w.heap.size rfl).2
      have HL : Hid (xs.length = l.length * 7) := hox.1
      clear hox htx hP hN hm hAp
      go_wp2_with fail
      refine HU.out.mono ?_
      rintro e w1 ⟨gk, rfl, ho1, hb1⟩
      have HO1 : Hid (w1.ownsRow w.heap.size 100 7 (.slice (some ⟨w.heap.size, 0, none⟩) l.length l.length) l.length xs) := own_below HO.out hb1
      have HB1 : Hid (Below w.heap.size w w1) := HB.out.trans (hb1.mono HB.out.size)
      have HN1 : Hid (NestOp w1 w.heap.size w.heap.size (P ++ [(l[k]'hlt, .slice (some ⟨gk, 0, none⟩) (l[k]'hlt).data.length (l[k]'hlt).data.length)])) := fun x hx => by
        rcases List.mem_append.1 hx with hx | hx
        · exact HN.out.below hb1 x hx
        · obtain rfl : x = _ := by simpa using hx
          have := ho1.lt.1
          exact ⟨gk, rfl, by omega, ho1.base (by omega)⟩
      have HAp1 : Hid (apartO (P ++ [(l[k]'hlt, .slice (some ⟨gk, 0, none⟩) (l[k]'hlt).data.length (l[k]'hlt).data.length)])) := apartO_snoc HAp.out (fun i hi b hb => by
        obtain ⟨gi, q1, q2, q3⟩ := HN.out P[i] (List.getElem_mem hi)
        rw [q1] at hb
        have hb' : gi = b := by simpa [Value.ownBlock] using hb
        have h1 := q3.lt.2
        have h2 := ho1.lt.1
        intro e
        have e' : gk = b := by simpa [Value.ownBlock] using e
        omega)
      have hgl1 : w.heap.size < w1.heap.size := (HO1.out.lt w.heap.size rfl).2
      clear hb1 c0 c1 c2 c3 c4 c5 cz ho1
      obtain ⟨x0, e0⟩ := own_cell HO1.out (k * 7) (by have := HL.out; omega)
      obtain ⟨x1, e1⟩ := own_cell HO1.out (k * 7 + 1) (by have := HL.out; omega)
      obtain ⟨x2, e2⟩ := own_cell HO1.out (k * 7 + 2) (by have := HL.out; omega)
      obtain ⟨x3, e3⟩ := own_cell HO1.out (k * 7 + 3) (by have := HL.out; omega)
      obtain ⟨x4, e4⟩ := own_cell HO1.out (k * 7 + 4) (by have := HL.out; omega)
      obtain ⟨x5, e5⟩ := own_cell HO1.out (k * 7 + 5) (by have := HL.out; omega)
      obtain ⟨x6, e6⟩ := own_cell HO1.out (k * 7 + 6) (by have := HL.out; omega)
      have ff : ∀ j, w1.frozen? ⟨w.heap.size, j, none⟩ = false := own_frozen HO1.out
      go_wp2
      obtain ⟨ys, hy, hyt⟩ := putOp_next (t := l[k]'hlt) (v := .slice (some ⟨gk, 0, none⟩) (l[k]'hlt).data.length (l[k]'hlt).data.length) HO1.out HE.out hlt
      refine ⟨⟨k + 1, by omega, by go_num, ⟨P ++ [(l[k]'hlt, .slice (some ⟨gk, 0, none⟩) (l[k]'hlt).data.length (l[k]'hlt).data.length)], ys, ?_, hy, ?_, ?_, HAp1.out⟩, ?_⟩, by simp [RowKit.intOf]; omega⟩
      · rw [List.map_append, HP.out, takeOp l k hlt]; rfl
      · rw [hyt, cellsOp_append]; simp [cellsOp]
      · exact (((((((HN1.out.set _ _).set _ _).set _ _).set _ _).set _ _).set _ _).set _ _)
      · exact (((((((HB1.out.setCell (Nat.le_refl _) _).setCell (Nat.le_refl _) _).setCell (Nat.le_refl _) _).setCell (Nat.le_refl _) _).setCell (Nat.le_refl _) _).setCell (Nat.le_refl _) _).setCell (Nat.le_refl _) _)
    · have HF : Hid (IsOpA wr w.heap.size w.heap.size l.length l) := by
        obtain ⟨P, xs, hP, hox, htx, hN, hAp⟩ := HX.out
        have hkl : k = l.length := by omega
        rw [hkl, List.take_of_length_le (by rw [hox.1]; exact Nat.le_refl _)] at htx
        rw [hkl, List.take_length] at hP
        rw [htx] at hox
        exact ⟨P, hP, hox, hN, hAp⟩
      clear HX
      go_wp2
      go_ret
      exact ⟨rfl, HF.out, HB.out⟩
set_option maxHeartbeats 2000000 in
theorem toBlA_any (t : Blk) (ao : Option Addr) (cap : Nat) (w : World) (ht : t.small) (hm : MemOp w ao t.ops) :
    Calls Tryz.prog 50 #[t.val (.slice ao t.ops.length cap)] w fun e w' => ∃ g, e = .returned (t.val (.slice (some ⟨g, 0, none⟩) t.ops.length t.ops.length)) ∧ IsOpA w' (w.heap.size + 2) g t.ops.length t.ops ∧ Below w.heap.size w w' := by
  have HS : Hid (∀ u, Below w.heap.size w u → Calls Tryz.prog 82 #[.slice ao t.ops.length cap] u fun e w' => ∃ g, e = .returned (.slice (some ⟨g, 0, none⟩) t.ops.length t.ops.length) ∧ IsOpA w' u.heap.size g t.ops.length t.ops ∧ Below u.heap.size u w') := fun u hu => (toOpSA_any ao cap t.ops u ht.len ht.names (hm.below hu)).mono fun e w' ⟨h1, h2, h3⟩ => ⟨_, h1, h2, h3⟩
  clear hm
  go_enter Tryz.func50, Tryz.ntmps50
  go_wp2_with fail
  refine (HS.out _ ((((Below.refl _ w).alloc (Nat.le_refl _) _).alloc (by simp) _).alloc (by simp; omega) _)).mono ?_
  rintro e w1 ⟨g, rfl, ho, hb⟩
  have HO : Hid (IsOpA w1 (w.heap.size + 1 + 1 + 1) g t.ops.length t.ops) := by have := ho; simp only [World.size_alloc] at this; exact this
  have hgl := HO.out.is.lt.1
  obtain ⟨hc1, hf1⟩ := bcell hb
  have HB : Hid (Below w.heap.size w w1) := ((((Below.refl _ w).alloc (Nat.le_refl _) _).alloc (by simp) _).alloc (by simp; omega) _).trans (hb.mono (by simp; omega))
  have hs1 : w.heap.size + 1 + 1 < w1.heap.size := by have := hb.size; simp at this; omega
  clear ho hb
  have d0 : w1.cell? ⟨w.heap.size + 1 + 1, 0, none⟩ = some (.int .i64 t.args) := by rw [hc1 _ _ (by simp)]; simp [go_sem]
  have d1 : w1.cell? ⟨w.heap.size + 1 + 1, 1, none⟩ = some (.slice none 0 0) := by rw [hc1 _ _ (by simp)]; simp [go_sem]
  have f5 : ∀ j, w1.frozen? ⟨w.heap.size + 1 + 1, j, none⟩ = false := fun j => by rw [hf1 _ _ (by simp)]; simp [go_sem]
  have r0 : w1.cell? ⟨w.heap.size + 1, 0, none⟩ = some (.int .i64 0) := by rw [hc1 _ _ (by simp)]; simp [go_sem]
  have r1 : w1.cell? ⟨w.heap.size + 1, 1, none⟩ = some (.slice none 0 0) := by rw [hc1 _ _ (by simp)]; simp [go_sem]
  have g5 : ∀ j, w1.frozen? ⟨w.heap.size + 1, j, none⟩ = false := fun j => by rw [hf1 _ _ (by simp)]; simp [go_sem]
  clear hc1 hf1
  go_wp2
  refine bodyPost_ret (v := t.val (.slice (some ⟨g, 0, none⟩) t.ops.length t.ops.length)) (by simp [results, Tryz.results50, go_sem, r0, r1]) rfl ⟨g, rfl, ?_, ?_⟩
  · refine IsOpA.base (B := w.heap.size + 1 + 1 + 1) ?_ (by omega)
    iterate 3 (refine IsOpA.low ?_ (by omega) _ _)
    exact HO.out
  · iterate 3 (refine Below.setCell ?_ (by simp <;> omega) _)
    exact HB.out
def ApB (w : World) (B g : Nat) (P : List (Blk × Value)) : Prop := ∃ R : List RB, R.map (fun r => (r.blk, r.v)) = P ∧ (∀ (i : Nat) (h : i < R.length), ∃ gk, g < gk ∧ R[i].v = .slice (some ⟨gk, 0, none⟩) R[i].P.length R[i].P.length ∧ NestOp w B gk R[i].P) ∧ (∀ (i : Nat) (h : i < R.length), OV w B R[i].v R[i].P) ∧ apartR R
theorem ApB.set {w : World} {B g : Nat} {P : List (Blk × Value)} (h : ApB w B g P) (j : Nat) (u : Value) : ApB (w.setCell ⟨g, j, none⟩ u) B g P := by
  obtain ⟨R, h1, h2, h3, h4⟩ := h
  refine ⟨R, h1, (fun i hi => by obtain ⟨gk, q1, q2, q3⟩ := h2 i hi; exact ⟨gk, q1, q2, q3.low (by omega) j u⟩), (fun i hi => ?_), h4⟩
  obtain ⟨gk, q1, q2, q3⟩ := h2 i hi
  refine ⟨own_set' (h3 i hi).row (fun b hb => by rw [q2] at hb; have : gk = b := (by simpa [Value.ownBlock] using hb); show b ≠ g; omega) u, fun m hm => own_set' ((h3 i hi).data m hm) (fun b hb => ?_) u⟩
  obtain ⟨gm, e1, e2, e3⟩ := q3 R[i].P[m] (List.getElem_mem hm)
  rw [e1] at hb
  have : gm = b := by simpa [Value.ownBlock] using hb
  show b ≠ g
  omega
theorem ApB.snoc {w w1 : World} {B g gk : Nat} {P : List (Blk × Value)} {t : Blk} (h : ApB w B g P) (hb : Below w.heap.size w w1) (hgk : g < gk) (hB : B ≤ w.heap.size + 2) (ho : IsOpA w1 (w.heap.size + 2) gk t.ops.length t.ops) : ApB w1 B g (P ++ [(t, .slice (some ⟨gk, 0, none⟩) t.ops.length t.ops.length)]) := by
  obtain ⟨R, h1, h2, h3, h4⟩ := h
  obtain ⟨Q, q1, q2, q3, q4⟩ := ho
  have ql : Q.length = t.ops.length := by rw [← q1]; simp
  have hblk : (⟨t.args, Q.map Prod.fst⟩ : Blk) = t := by rw [q1]
  have hov : OV w1 (w.heap.size + 2) (.slice (some ⟨gk, 0, none⟩) Q.length Q.length) Q := ⟨by rw [ql]; exact q2, fun i hi => by obtain ⟨gi, e1, e2, e3⟩ := q3 Q[i] (List.getElem_mem hi); rw [e1]; exact e3⟩
  have hfold : ∀ (i : Nat) (hi : i < R.length) (b : Nat), footO R[i].v R[i].P b → b < w.heap.size := fun i hi b hb => ((h3 i hi).foot hb).2
  have hfnew : ∀ b, footO (.slice (some ⟨gk, 0, none⟩) Q.length Q.length) Q b → w.heap.size + 2 ≤ b := fun b hb => (hov.foot hb).1
  have hat : ∀ (i : Nat) (hi : i < (R ++ [(⟨t.args, .slice (some ⟨gk, 0, none⟩) Q.length Q.length, Q⟩ : RB)]).length), (∃ hi' : i < R.length, (R ++ [(⟨t.args, .slice (some ⟨gk, 0, none⟩) Q.length Q.length, Q⟩ : RB)])[i] = R[i]) ∨ (i = R.length ∧ (R ++ [(⟨t.args, .slice (some ⟨gk, 0, none⟩) Q.length Q.length, Q⟩ : RB)])[i] = ⟨t.args, .slice (some ⟨gk, 0, none⟩) Q.length Q.length, Q⟩) := fun i hi => by
    by_cases e : i < R.length
    · exact .inl ⟨e, List.getElem_append_left e⟩
    · simp only [List.length_append, List.length_cons, List.length_nil] at hi
      have : i = R.length := by omega
      subst this
      exact .inr ⟨rfl, by simp⟩
  refine ⟨R ++ [⟨t.args, .slice (some ⟨gk, 0, none⟩) Q.length Q.length, Q⟩], ?_, ?_, ?_, ?_⟩
  · rw [List.map_append, h1, ← ql]
    show P ++ [((⟨t.args, Q.map Prod.fst⟩ : Blk), _)] = _
    rw [hblk]
  · intro i hi
    rcases hat i hi with ⟨hi', e⟩ | ⟨-, e⟩
    · rw [e]
      obtain ⟨gi, e1, e2, e3⟩ := h2 i hi'
      exact ⟨gi, e1, e2, e3.below hb⟩
    · rw [e]
      exact ⟨gk, hgk, rfl, fun x hx => by obtain ⟨gi, e1, e2, e3⟩ := q3 x hx; exact ⟨gi, e1, e2, e3.base hB⟩⟩
  · intro i hi
    rcases hat i hi with ⟨hi', e⟩ | ⟨-, e⟩
    · rw [e]; exact (h3 i hi').below hb
    · rw [e]; exact hov.base hB
  · refine ⟨?_, ?_, ?_⟩
    · intro i j hi hj hn b hb hb'
      rcases hat i hi with ⟨hi', e⟩ | ⟨hie, e⟩ <;> rcases hat j hj with ⟨hj', e'⟩ | ⟨hje, e'⟩
      · rw [e] at hb; rw [e'] at hb'; exact h4.rows i j hi' hj' hn b hb hb'
      · rw [e] at hb; rw [e'] at hb'
        have := hfold i hi' b (.inl hb); have := hfnew b (.inl hb'); omega
      · rw [e] at hb; rw [e'] at hb'
        have := hfold j hj' b (.inl hb'); have := hfnew b (.inl hb); omega
      · omega
    · intro i j hi hj hn m n hm hm' b hb hb'
      rcases hat i hi with ⟨hi', e⟩ | ⟨hie, e⟩ <;> rcases hat j hj with ⟨hj', e'⟩ | ⟨hje, e'⟩
      · simp only [e] at hm hb; simp only [e'] at hm' hb'; exact h4.data i j hi' hj' hn m n hm hm' b hb hb'
      · simp only [e] at hm hb; simp only [e'] at hm' hb'
        have := hfold i hi' b (.inr ⟨m, hm, hb⟩); have := hfnew b (.inr ⟨n, hm', hb'⟩); omega
      · simp only [e] at hm hb; simp only [e'] at hm' hb'
        have := hfold j hj' b (.inr ⟨n, hm', hb'⟩); have := hfnew b (.inr ⟨m, hm, hb⟩); omega
      · omega
    · intro i hi
      rcases hat i hi with ⟨hi', e⟩ | ⟨-, e⟩
      · rw [e]; exact h4.each i hi'
      · rw [e]; exact q4
def IsBlA (w : World) (B g cap : Nat) (l : List Blk) : Prop := ∃ P : List (Blk × Value), P.map Prod.fst = l ∧ w.ownsRow B 85 2 (.slice (some ⟨g, 0, none⟩) l.length cap) l.length (cellsBl P) ∧ ApB w B g P
theorem cellsBl_R : ∀ R : List RB, cellsBl (R.map (fun r => (r.blk, r.v))) = cellsR R
  | [] => rfl
  | r :: s => by simp only [List.map_cons, cellsBl, cellsR, cellsBl_R s]; rfl
theorem IsBlA.is {w : World} {B g cap : Nat} {l : List Blk} (h : IsBlA w B g cap l) : IsBl w B g cap l := by
  obtain ⟨P, h1, h2, R, r1, r2, r3, r4⟩ := h
  refine ⟨P, h1, h2, fun x hx => ?_⟩
  rw [← r1] at hx
  obtain ⟨r, hr, rfl⟩ := List.mem_map.1 hx
  obtain ⟨i, hi, rfl⟩ := List.getElem_of_mem hr
  obtain ⟨gk, q1, q2, q3⟩ := r2 i hi
  have hl : R[i].blk.ops.length = R[i].P.length := by simp [RB.blk]
  refine ⟨gk, by rw [hl]; exact q2, q1, R[i].P, rfl, ?_, q3⟩
  have := (r3 i hi).row
  rw [q2] at this
  rw [hl]; exact this
theorem IsBlA.bv {w : World} {B g cap : Nat} {l : List Blk} (h : IsBlA w B g cap l) : ∃ R : List RB, R.map RB.blk = l ∧ BV w B (.slice (some ⟨g, 0, none⟩) l.length cap) R ∧ apartR R := by
  obtain ⟨P, h1, h2, R, r1, r2, r3, r4⟩ := h
  have hl : R.length = l.length := by rw [← h1, ← r1]; simp
  refine ⟨R, by rw [← h1, ← r1, List.map_map]; rfl, ⟨?_, r3⟩, r4⟩
  rw [← cellsBl_R, r1, hl]; exact h2
set_option maxRecDepth 100000 in
set_option maxHeartbeats 2000000 in
theorem toBlSA_any (a : Option Addr) (c : Nat) (l : List Blk) (w : World) (hl : l.length ≤ 1048576) (hz : ∀ (k : Nat) (h : k < l.length), l[k].small) (h : MemBl w a l) :
    Calls Tryz.prog 18 #[.slice a l.length c] w fun e w' => e = .returned (.slice (some ⟨w.heap.size, 0, none⟩) l.length l.length) ∧ IsBlA w' w.heap.size w.heap.size l.length l ∧ Below w.heap.size w w' := by
  have HT : Hid (MemBl w a l) := h
  have HZ : Hid (∀ (k : Nat) (h : k < l.length), l[k].small) := hz
  have hmk := makeBl l.length hl
  have HM : Hid (∃ (P : List (Blk × Value)) (xs : List Value), P.map Prod.fst = l.take 0 ∧ (w.alloc (.cells (madeCells #[.int .i64 0, .slice none 0 0] (l.length * 2)) 85)).ownsRow w.heap.size 85 2 (.slice (some ⟨w.heap.size, 0, none⟩) l.length l.length) l.length xs ∧ xs.take (0 * 2) = cellsBl P ∧ ApB (w.alloc (.cells (madeCells #[.int .i64 0, .slice none 0 0] (l.length * 2)) 85)) w.heap.size w.heap.size P) := ⟨[], _, rfl, madeBl l.length hl w, rfl, ⟨[], rfl, fun i h => absurd h (Nat.not_lt_zero i), (fun i h => absurd h (Nat.not_lt_zero i)), (fun i j h => absurd h (Nat.not_lt_zero i)), (fun i j h => absurd h (Nat.not_lt_zero i)), (fun i h => absurd h (Nat.not_lt_zero i))⟩⟩
  clear h hz
  go_enter Tryz.func18, Tryz.ntmps18
  go_wp2_with fail
  go_loopw [4] (fun i wr => ∃ k : Nat, k ≤ l.length ∧ i = .int .i64 (k : Int) ∧ Hid (∃ (P : List (Blk × Value)) (xs : List Value), P.map Prod.fst = l.take k ∧ wr.ownsRow w.heap.size 85 2 (.slice (some ⟨w.heap.size, 0, none⟩) l.length l.length) l.length xs ∧ xs.take (k * 2) = cellsBl P ∧ ApB wr w.heap.size w.heap.size P) ∧ Below w.heap.size w wr) (fun i _ => l.length - (RowKit.intOf i).toNat)
  case atStart => exact ⟨0, Nat.zero_le _, rfl, HM.out, (Below.refl _ _).alloc (Nat.le_refl _) _⟩
  case round =>
    obtain ⟨k, hk, rfl, HX, hb⟩ := hrel
    have HB : Hid (Below w.heap.size w wr) := hb
    clear hb
    by_cases hlt : k < l.length
    · obtain ⟨b, off, rfl, hc⟩ := (HT.out.below HB.out) (by omega)
      obtain ⟨c0, ao, cap, cz, hm⟩ := hc k hlt
      clear hc
      have HU : Hid (Calls Tryz.prog 50 #[(l[k]'hlt).val (.slice ao (l[k]'hlt).ops.length cap)] wr fun e w' => ∃ g, e = .returned ((l[k]'hlt).val (.slice (some ⟨g, 0, none⟩) (l[k]'hlt).ops.length (l[k]'hlt).ops.length)) ∧ IsOpA w' (wr.heap.size + 2) g (l[k]'hlt).ops.length (l[k]'hlt).ops ∧ Below wr.heap.size wr w') := toBlA_any _ ao cap wr (HZ.out k hlt) hm
      obtain ⟨P, xs, hP, hox, htx, hN⟩ := HX.out
      have HO : Hid (wr.ownsRow w.heap.size 85 2 (.slice (some ⟨w.heap.size, 0, none⟩) l.length l.length) l.length xs) := hox
      have HE : Hid (xs.take (k * 2) = cellsBl P) := htx
      have HP : Hid (P.map Prod.fst = l.take k) := hP
      have HN : Hid (ApB wr w.heap.size w.heap.size P) := hN
      have hgl : w.heap.size < wr.heap.size := (hox.lt w.heap.size rfl).2
      have HL : Hid (xs.length = l.length * 2) := hox.1
      clear hox htx hP hN hm
      go_wp2_with fail
      refine HU.out.mono ?_
      rintro e w1 ⟨gk, rfl, ho1, hb1⟩
      have HO1 : Hid (w1.ownsRow w.heap.size 85 2 (.slice (some ⟨w.heap.size, 0, none⟩) l.length l.length) l.length xs) := own_below HO.out hb1
      have HB1 : Hid (Below w.heap.size w w1) := HB.out.trans (hb1.mono HB.out.size)
      have HN1 : Hid (ApB w1 w.heap.size w.heap.size (P ++ [(l[k]'hlt, .slice (some ⟨gk, 0, none⟩) (l[k]'hlt).ops.length (l[k]'hlt).ops.length)])) := HN.out.snoc hb1 (by have := ho1.is.lt.1; omega) (by omega) ho1
      have hgl1 : w.heap.size < w1.heap.size := (HO1.out.lt w.heap.size rfl).2
      clear hb1 c0 cz ho1
      obtain ⟨x0, e0⟩ := own_cell HO1.out (k * 2) (by have := HL.out; omega)
      obtain ⟨x1, e1⟩ := own_cell HO1.out (k * 2 + 1) (by have := HL.out; omega)
      have ff : ∀ j, w1.frozen? ⟨w.heap.size, j, none⟩ = false := own_frozen HO1.out
      go_wp2
      obtain ⟨ys, hy, hyt⟩ := putBl_next (t := l[k]'hlt) (v := .slice (some ⟨gk, 0, none⟩) (l[k]'hlt).ops.length (l[k]'hlt).ops.length) HO1.out HE.out hlt
      refine ⟨⟨k + 1, by omega, by go_num, ⟨P ++ [(l[k]'hlt, .slice (some ⟨gk, 0, none⟩) (l[k]'hlt).ops.length (l[k]'hlt).ops.length)], ys, ?_, hy, ?_, ?_⟩, ?_⟩, by simp [RowKit.intOf]; omega⟩
      · rw [List.map_append, HP.out, takeBl l k hlt]; rfl
      · rw [hyt, cellsBl_append]; simp [cellsBl]
      · exact ((HN1.out.set _ _).set _ _)
      · exact ((HB1.out.setCell (Nat.le_refl _) _).setCell (Nat.le_refl _) _)
    · have HF : Hid (IsBlA wr w.heap.size w.heap.size l.length l) := by
        obtain ⟨P, xs, hP, hox, htx, hN⟩ := HX.out
        have hkl : k = l.length := by omega
        rw [hkl, List.take_of_length_le (by rw [hox.1]; exact Nat.le_refl _)] at htx
        rw [hkl, List.take_length] at hP
        rw [htx] at hox
        exact ⟨P, hP, hox, hN⟩
      clear HX
      go_wp2
      go_ret
      exact ⟨rfl, HF.out, HB.out⟩
structure Cu (b : Nat) (v0 v1 : Value) (u : World) : Prop where
  c0 : u.cell? ⟨b, 0, none⟩ = some v0
  c1 : u.cell? ⟨b, 1, none⟩ = some v1
theorem Cu.below {b : Nat} {v0 v1 : Value} {u u' : World} (h : Cu b v0 v1 u) (hb : Below u.heap.size u u') : Cu b v0 v1 u' := ⟨cell_keep hb h.c0, cell_keep hb h.c1⟩
theorem Cu.keeps {F : Nat → Prop} {b : Nat} {v0 v1 : Value} {u u' : World} (h : Cu b v0 v1 u) (hk : Keeps F u u') (hn : ¬ F b) : Cu b v0 v1 u' := ⟨hk.cell h.c0 hn, hk.cell h.c1 hn⟩
theorem Cu.new (u : World) (v0 v1 : Value) (T : TypeId) : Cu u.heap.size v0 v1 (u.alloc (.cells #[v0, v1] T)) := ⟨by rw [World.cell?_alloc_at _ _ _ _ rfl]; rfl, by rw [World.cell?_alloc_at _ _ _ _ rfl]; rfl⟩
theorem keepsB {F : Nat → Prop} {B : Nat} {a w w' : World} (h : Below B a w) (hB : B ≤ w.heap.size) (hk : Keeps F w w') (hf : ∀ b, F b → B ≤ b) : Below B a w' :=
  ⟨hk.os.trans h.os, hk.tape.trans h.tape, hk.output.trans h.output, Nat.le_trans h.size hk.size, fun k hk' => (hk.block k (by omega) (fun q => by have := hf k q; omega)).trans (h.block k hk')⟩
theorem smallR_of {R : List RB} {L : List Blk} (h : R.map RB.blk = L) (hl : L.length ≤ 1048576) (hz : ∀ (k : Nat) (h : k < L.length), L[k].small) : smallR R := by
  subst h
  refine ⟨by simpa using hl, fun r hr => ?_⟩
  obtain ⟨i, hi, rfl⟩ := List.getElem_of_mem hr
  have hs := hz i (by simpa using hi)
  rw [List.getElem_map] at hs
  refine ⟨by simpa [RB.blk] using hs.len, fun x hx => ?_⟩
  obtain ⟨j, hj, rfl⟩ := List.getElem_of_mem hx
  have := hs.names j (by simpa [RB.blk] using hj)
  have e : R[i].blk.ops[j]'(by simpa [RB.blk] using hj) = R[i].P[j].1 := by simp [RB.blk]
  rw [e] at this
  exact this.len
theorem endR_pos {R : List RB} (hz : smallR R) : endR 1 R ≤ 4620000000000000000 := by
  have h1 := endR_le R 1 hz.2
  have h4 : R.length * 4398052802561 ≤ 1048576 * 4398052802561 := Nat.mul_le_mul_right _ hz.1
  omega
def smallR_of_l (l : List Blk) : Prop := ∀ R : List RB, R.map RB.blk = l → smallR R
end Go.Proofs.YtoafolefecddmaaGreatDoor
