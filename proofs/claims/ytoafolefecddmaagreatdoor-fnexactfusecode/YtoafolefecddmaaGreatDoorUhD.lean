/-
  Parts of the proof laid into one text, one behind the other: SpecFz, SpecFc. Contracts of the program's and the model's functions, and what they are proved of, as their theorems say.
-/
import Derived.Test.YtoafolefecddmaaGreatDoorSpecTwHv
import Derived.Test.YtoafolefecddmaaGreatDoorUfD
import Derived.Test.YtoafolefecddmaaGreatDoorUfC
import Derived.Deep.CutRange
import Derived.Lib.SmallJoins
namespace Go.Proofs.YtoafolefecddmaaGreatDoor
open Go.RowKit Go.Extern.Stop Go.Stop Go.Extern Num Go.Lib
theorem put7_at {V : World} {b : Nat} {T : TypeId} {x0 x1 x2 x3 x4 x5 x6 y0 y1 y2 y3 y4 y5 y6 : Value} (h : V.heap[b]? = some (.cells #[x0, x1, x2, x3, x4, x5, x6] T)) : (((((((V.setCell ⟨b, 0, none⟩ y0).setCell ⟨b, 1, none⟩ y1).setCell ⟨b, 2, none⟩ y2).setCell ⟨b, 3, none⟩ y3).setCell ⟨b, 4, none⟩ y4).setCell ⟨b, 5, none⟩ y5).setCell ⟨b, 6, none⟩ y6).heap[b]? = some (.cells #[y0, y1, y2, y3, y4, y5, y6] T) := by
  have h0 := (heap_setCell_same V b 0 _ T y0 h)
  have h1 := (heap_setCell_same _ b 1 _ T y1 h0)
  have h2 := (heap_setCell_same _ b 2 _ T y2 h1)
  have h3 := (heap_setCell_same _ b 3 _ T y3 h2)
  have h4 := (heap_setCell_same _ b 4 _ T y4 h3)
  have h5 := (heap_setCell_same _ b 5 _ T y5 h4)
  have h6 := (heap_setCell_same _ b 6 _ T y6 h5)
  rw [h6]; rfl
theorem put7_below {B b : Nat} {a V : World} {y0 y1 y2 y3 y4 y5 y6 : Value} (h : Below B a V) (hb : B ≤ b) : Below B a (((((((V.setCell ⟨b, 0, none⟩ y0).setCell ⟨b, 1, none⟩ y1).setCell ⟨b, 2, none⟩ y2).setCell ⟨b, 3, none⟩ y3).setCell ⟨b, 4, none⟩ y4).setCell ⟨b, 5, none⟩ y5).setCell ⟨b, 6, none⟩ y6) :=
  ((((((h.setCell hb _).setCell hb _).setCell hb _).setCell hb _).setCell hb _).setCell hb _).setCell hb _
theorem put7_cell {b g o : Nat} {x : Value} {V : World} {y0 y1 y2 y3 y4 y5 y6 : Value} (h : V.cell? ⟨g, o, none⟩ = some x) (hn : g ≠ b) : (((((((V.setCell ⟨b, 0, none⟩ y0).setCell ⟨b, 1, none⟩ y1).setCell ⟨b, 2, none⟩ y2).setCell ⟨b, 3, none⟩ y3).setCell ⟨b, 4, none⟩ y4).setCell ⟨b, 5, none⟩ y5).setCell ⟨b, 6, none⟩ y6).cell? ⟨g, o, none⟩ = some x :=
  cell_other (cell_other (cell_other (cell_other (cell_other (cell_other (cell_other h hn) hn) hn) hn) hn) hn) hn
theorem runF_plain {tb : Int} {l : List Opr} {n j : Nat} {a : Opr} (hj : (runF tb l n).2.length = j) (h : l[j]? = some a) (hp : ∀ b, l[j + 1]? = some b → pairs tb l j a b = false) : runF tb l (n + 1) = putF (runF tb l n) 1 [a] := by
  show stepF tb l (runF tb l n) = _
  unfold stepF
  rw [hj, h]
  cases e : l[j + 1]? with
  | none => rfl
  | some b =>
    show (if pairs tb l j a b then _ else _) = _
    rw [hp b e]; rfl
theorem runF_pair {tb : Int} {l : List Opr} {n j : Nat} {a b : Opr} (hj : (runF tb l n).2.length = j) (h : l[j]? = some a) (h2 : l[j + 1]? = some b) (hp : pairs tb l j a b = true) : runF tb l (n + 1) = putF (runF tb l n) 2 [joinO a b (twoK tb a.kind b.kind)] := by
  show stepF tb l (runF tb l n) = _
  unfold stepF
  rw [hj, h]
  show (match l[j + 1]? with | none => _ | some b => _) = _
  rw [h2]
  show (if pairs tb l j a b then _ else _) = _
  rw [hp]; rfl
def AnsFz (tb : Int) (P : List (Opr × Value)) (B : Nat) (w : World) (e : Ending) (w' : World) : Prop := ∃ v' P', e = .returned v' ∧ OV w' B v' P' ∧ P'.map Prod.fst = fuseO tb (P.map Prod.fst) ∧ Below w.heap.size w w'
set_option maxRecDepth 100000 in
set_option maxHeartbeats 1500000 in
theorem l11Fuse_any (tb : Int) (ht1 : 0 ≤ tb) (ht2 : tb ≤ 15) (P : List (Opr × Value)) (g o B cv : Nat) (av : Option Addr) (w : World) (hP : P.length ≤ 200) (hf : ∀ x ∈ P, fine1 P.length x.1) (p1 : w.cell? ⟨g, o + 1, none⟩ = some (.slice av P.length cv)) (ho : OV w B (.slice av P.length cv) P) (hB : B ≤ w.heap.size) :
    Calls Tryz.prog 81 #[.pointer (some ⟨g, o, none⟩), .int .i64 tb] w fun e w' => AnsFz tb P B w e w' := by
  have HO : Hid (OV w B (.slice av P.length cv) P) := ho
  have HP1 : Hid (w.cell? ⟨g, o + 1, none⟩ = some (.slice av P.length cv)) := p1
  have hmix : Tryz.prog.follows .mixedOrders = true := by kernel_rfl
  obtain ⟨l, hl⟩ : ∃ l, l = P.map Prod.fst := ⟨_, rfl⟩
  have hll : l.length = P.length := by rw [hl]; simp
  have HL : Hid (∀ (k : Nat) (h : k < P.length), l[k]? = some P[k].1) := fun k hk => by rw [hl]; simp [hk]
  have hfl : ∀ t ∈ l, fine1 l.length t := fun t ht => by
    rw [hl] at ht
    obtain ⟨x, hx, rfl⟩ := List.mem_map.1 ht
    rw [hll]; exact hf x hx
  have HI : Hid (∀ n, FInv l 1 (runF tb l n)) := fun n => runF_inv hfl n
  have HE : Hid (P.map Prod.fst = l) := hl.symm
  have HLl : Hid (l.length = P.length) := hll
  have HTt : Hid (∀ (u : World) (gk c : Nat) (x : Int), u.cell? ⟨g, o + 1, none⟩ = some (.slice (some ⟨gk, 0, none⟩) P.length c) → OV u B (.slice (some ⟨gk, 0, none⟩) P.length c) P → Calls Tryz.prog 114 #[.pointer (some ⟨g, o, none⟩), .int .i64 x] u fun e w' => e = .returned (.bool (isT l x)) ∧ w' = u) := fun u gk c x hc hov => by
    refine l9IsTargetG_any l x g o gk c u (by omega) (by rw [hll]; exact hc) (fun k hk => ?_)
    have hk' : k < P.length := by omega
    have e : l[k] = P[k].1 := by simp only [hl]; simp
    obtain ⟨c0, c1, c2, c3, -⟩ := hov.at k hk'
    rw [e]; exact ⟨c0, c1, c3⟩
  obtain ⟨i0, hi, hz0, hz1, hz2⟩ := info_parts infoI
  obtain ⟨i1, hi1, hy0, hy1, hy2⟩ := info_parts infoOp
  clear ho p1 hl hf hfl hll
  go_enter Tryz.func81, Tryz.ntmps81
  go_wp2_with fail
  go_loopw [5, 6, 7] (fun vo vp i wr => ∃ (j n : Nat) (M : List (Opr × Value)) (Q : List Int) (am ap : Option Addr) (cm cp : Nat), j ≤ P.length ∧ vo = .slice am M.length cm ∧ vp = .slice ap Q.length cp ∧ i = .int .i64 (j : Int) ∧ Hid (OV wr B (.slice am M.length cm) M ∧ wr.ownsRow w.heap.size 100 7 (.slice am M.length cm) M.length (cellsOp M)) ∧ Hid (wr.ownsRow w.heap.size 2 1 (.slice ap Q.length cp) Q.length (cellsI Q)) ∧ Hid ((runF tb l n).1 = M.map Prod.fst ∧ (runF tb l n).2 = Q ∧ Q.length = j) ∧ Hid (Below w.heap.size w wr)) (fun _ _ i _ => P.length - (RowKit.intOf i).toNat)
  case atStart =>
    refine ⟨0, 0, [], [], some ⟨w.heap.size, 0, none⟩, some ⟨w.heap.size + 1, 0, none⟩, 0, 0, Nat.zero_le _, rfl, rfl, rfl, ?_, ?_, ⟨rfl, rfl, rfl⟩, ?_⟩
    · have h1 := own_below (emptyOk w) (bnewK (w.alloc (.cells #[] 100)) (.cells #[] 2))
      exact ⟨⟨own_base h1 hB, fun i hi => by simp at hi⟩, h1⟩
    · have h1 := emptyIk (w.alloc (.cells #[] 100))
      have e : (w.alloc (.cells #[] 100)).heap.size = w.heap.size + 1 := by simp
      rw [e] at h1
      exact own_base h1 (by omega)
    · exact ((Below.refl _ w).alloc (Nat.le_refl _) _).alloc (by simp) _
  case round =>
    obtain ⟨j, n, M, Q, am, ap, cm, cp, hj, rfl, rfl, rfl, HM, HQ, HU0, HW⟩ := hrel
    have hws : w.heap.size ≤ wr.heap.size := HW.out.size
    have q1 : wr.cell? ⟨g, o + 1, none⟩ = some (.slice av P.length cv) := cell_keep HW.out HP1.out
    have hib := HI.out n
    have HU : Hid ((runF tb l n).1 = M.map Prod.fst ∧ (runF tb l n).2 = Q) := ⟨HU0.out.1, HU0.out.2.1⟩
    have HQj : Hid (Q.length = j) := HU0.out.2.2
    have hMl : M.length ≤ 200 := by have h1 := hib.news; rw [HU.out.1, HU.out.2, HQj.out] at h1; simp at h1; omega
    have hQl : Q.length ≤ 200 := by rw [HQj.out]; omega
    by_cases hlt : j < P.length
    · obtain ⟨gp, c', hv, _, _⟩ := HO.out.row.form (by omega)
      obtain ⟨rfl, rfl⟩ : av = some ⟨gp, 0, none⟩ ∧ cv = c' := by simp at hv; exact hv
      obtain ⟨t, htt⟩ : ∃ t, t = P[j].1 := ⟨_, rfl⟩
      obtain ⟨-, -, -, -, -, -, ad, cd, -, hx2, -⟩ := HO.out.at j hlt
      rw [← htt] at hx2
      have HC : Hid (∀ u, Below w.heap.size w u → u.cell? ⟨gp, j * 7, none⟩ = some (.int .i64 t.kind) ∧ u.cell? ⟨gp, j * 7 + 1, none⟩ = some (.int .i64 t.a) ∧ u.cell? ⟨gp, j * 7 + 2, none⟩ = some (.int .i64 t.b) ∧ u.cell? ⟨gp, j * 7 + 3, none⟩ = some (.int .i64 t.c) ∧ u.cell? ⟨gp, j * 7 + 4, none⟩ = some (.int .i64 t.d) ∧ u.cell? ⟨gp, j * 7 + 5, none⟩ = some (.string t.name) ∧ u.cell? ⟨gp, j * 7 + 6, none⟩ = some (.slice ad t.data.length cd)) := fun u hu => by
        obtain ⟨c0, c1, c2, c3, c4, c5, ad', cd', c6, hx', -⟩ := (HO.out.below hu).at j hlt
        rw [← htt] at c0 c1 c2 c3 c4 c5 c6 hx'
        obtain ⟨rfl, rfl⟩ : ad = ad' ∧ cd = cd' := by rw [hx2] at hx'; simp at hx'; exact hx'
        exact ⟨c0, c1, c2, c3, c4, c5, c6⟩
      have HDt : Hid (∀ u, Below w.heap.size w u → u.ownsRow B 196 4 (.slice ad t.data.length cd) t.data.length (cellsD t.data)) := fun u hu => by
        have := own_below (HO.out.data j hlt) hu
        rw [hx2, ← htt] at this; exact this
      have HLj : Hid (l[j]? = some t) := by show _ = _; rw [HL.out j hlt, htt]
      clear htt hv hib hx2
      go_wp2_with (at_builtin; refine wpList_append_lies _ rfl (.tmp 21) (.tmp 24) 78 rfl w.heap.size 2 i0 _ 1 8 Tryz.underlying78 hi hz0 hz1 hz2 rfl (by decide) _ Q.length (cellsI Q) rfl (own_below HQ.out (bnewK _ _)) ⟨_, 0, none⟩ 1 1 [.int .i64 (M.length : Int)] rfl rfl ?f1 ?f2 (by decide) ?f3 ?f4 ?f5 _ rfl ?_)
      case f1 => exact newsI (heap_new' _ _ _ (by simp))
      case f2 => intro u hu; simp at hu; subst hu; rfl
      case f3 => unfold maxLen; omega
      case f4 => omega
      case f5 => simp; omega
      intro g1 cp1 w2 hown2 hgrow2 _ _
      have HB2 : Hid (Below w.heap.size w w2) := (HW.out.alloc HW.out.size _).grown hgrow2 (by simp; omega) (fun k hk => (HQ.out.lt k hk).1)
      have HM2 : Hid (OV w2 B (.slice am M.length cm) M ∧ w2.ownsRow w.heap.size 100 7 (.slice am M.length cm) M.length (cellsOp M)) := by
        have hq := own_below HQ.out (bnewK wr (.cells #[.int .i64 (M.length : Int)] 2))
        have hm := own_below HM.out.2 (bnewK wr (.cells #[.int .i64 (M.length : Int)] 2))
        exact ⟨(HM.out.1.below (bnewK _ _)).aside hq hgrow2 (by decide) (by decide), own_apart hm hgrow2 (fun g hg => typ_ne hm hq (by decide) g hg)⟩
      obtain ⟨Q', hQ'⟩ : ∃ Q', Q' = Q ++ [(M.length : Int)] := ⟨_, rfl⟩
      have hQ'l : Q'.length = Q.length + 1 := by rw [hQ']; simp
      have HQ2 : Hid (w2.ownsRow w.heap.size 2 1 (.slice (some ⟨g1, 0, none⟩) (Q.length + 1) cp1) (Q.length + 1) (cellsI Q')) := by rw [hQ', show cellsI (Q ++ [(M.length : Int)]) = cellsI Q ++ [.int .i64 (M.length : Int)] by simp [cellsI]]; exact hown2
      have HQe : Hid (Q' = Q ++ [(M.length : Int)]) := hQ'
      have HQl : Hid (Q'.length = Q.length + 1) := hQ'l
      have q2 : w2.cell? ⟨g, o + 1, none⟩ = some (.slice (some ⟨gp, 0, none⟩) P.length cv) := cell_keep HB2.out HP1.out
      have hw2 : w.heap.size ≤ w2.heap.size := HB2.out.size
      have HQs : Hid (Q'.length = j + 1) := by show _ = _; rw [hQ'l, HQj.out]
      clear hown2 hgrow2 hQ' q1 hQ'l HM HQ HW hws HU0
      by_cases hlt2 : j + 1 < P.length
      · obtain ⟨t2, htt2⟩ : ∃ t2, t2 = P[j + 1].1 := ⟨_, rfl⟩
        have HLk : Hid (l[j + 1]? = some t2) := by show _ = _; rw [HL.out (j + 1) hlt2, htt2]
        have hlz : (j : Int) + 1 < (P.length : Int) := by omega
        have HTg : Hid (Calls Tryz.prog 114 #[.pointer (some ⟨g, o, none⟩), .int .i64 ((j : Int) + 1)] w2 fun e w' => e = .returned (.bool (isT l ((j : Int) + 1))) ∧ w' = w2) := HTt.out w2 gp cv _ q2 (HO.out.below HB2.out)
        have hwj : IntKind.i64.wrap ((j : Int) + 1) = (j : Int) + 1 := by rw [IntKind.wrap_i64]; omega
        cases hT : isT l ((j : Int) + 1) with
        | true =>
          have HSt : Hid (runF tb l (n + 1) = putF (runF tb l n) 1 [t]) := runF_plain (by rw [HU.out.2]; exact HQj.out) HLj.out (fun b _ => by unfold pairs; rw [hT]; simp)
          rw [hT] at HTg
          clear hT HLk htt2 HTt
          go_wp2_with fail
          refine HTg.out.mono ?_
          rintro e w' ⟨rfl, e1⟩
          replace e1 := e1.symm
          subst e1
          have HDx : Hid (w2.ownsRow B 196 4 (.slice ad t.data.length cd) t.data.length (cellsD t.data)) := HDt.out w2 HB2.out
          obtain ⟨e0, e1, e2, e3, e4, e5, e6⟩ := HC.out w2 HB2.out
          go_wp2_with (at_builtin; refine wpList_append_lies _ rfl (.tmp 72) (.tmp 80) 83 rfl w.heap.size 100 i1 _ 7 80 Tryz.underlying83 hi1 hy0 hy1 hy2 rfl (by decide) _ M.length (cellsOp M) rfl (own_below HM2.out.2 (bnewK _ _)) ⟨_, 0, none⟩ 1 1 [.int .i64 t.kind, .int .i64 t.a, .int .i64 t.b, .int .i64 t.c, .int .i64 t.d, .string t.name, .slice ad t.data.length cd] rfl rfl ?f1 ?f2 (by decide) ?f3 ?f4 ?f5 _ rfl ?_)
          try (case f1 => exact World.news_of_block (cs := #[.int .i64 t.kind, .int .i64 t.a, .int .i64 t.b, .int .i64 t.c, .int .i64 t.d, .string t.name, .slice ad t.data.length cd]) (t := 100) (fr := (0, 0)) (heap_new' _ _ _ (by simp)))
          case f2 => first | (intro u hu; simp at hu; rcases hu with rfl | rfl | rfl | rfl | rfl | rfl | rfl <;> rfl) | exact ⟨rfl, rfl, rfl, rfl, rfl, rfl, rfl⟩
          case f3 => unfold maxLen; omega
          case f4 => omega
          case f5 => first | omega | (simp; omega)
          intro g2 cm2 w4 hown4 hgrow4 _ _
          have HBw4 : Hid (Below w.heap.size w w4) := (HB2.out.alloc HB2.out.size _).grown hgrow4 (by simp; omega) (fun k hk => (HM2.out.2.lt k hk).1)
          obtain ⟨M', hM1⟩ : ∃ M', M' = M ++ [(t, .slice ad t.data.length cd)] := ⟨_, rfl⟩
          have hM1l : M'.length = M.length + 1 := by rw [hM1]; simp
          have HMw4 : Hid (OV w4 B (.slice (some ⟨g2, 0, none⟩) M'.length cm2) M' ∧ w4.ownsRow w.heap.size 100 7 (.slice (some ⟨g2, 0, none⟩) M'.length cm2) M'.length (cellsOp M')) := by
            have h1 : w4.ownsRow w.heap.size 100 7 (.slice (some ⟨g2, 0, none⟩) M'.length cm2) M'.length (cellsOp M') := by rw [hM1l, hM1, cellsOp_append]; exact hown4
            refine ⟨?_, h1⟩
            rw [hM1l, hM1]
            exact OV.more (HM2.out.1.below (bnewK _ _)) (N := [(t, .slice ad t.data.length cd)]) rfl (fun y hy => by simp at hy; subst hy; exact own_below HDx.out (bnewK _ _)) (own_base hown4 hB) hgrow4
          have HQw4 : Hid (w4.ownsRow w.heap.size 2 1 (.slice (some ⟨g1, 0, none⟩) Q'.length cp1) Q'.length (cellsI Q')) := by
            have hq := own_below HQ2.out (bnewK w2 (.cells #[.int .i64 t.kind, .int .i64 t.a, .int .i64 t.b, .int .i64 t.c, .int .i64 t.d, .string t.name, .slice ad t.data.length cd] 100))
            rw [HQl.out]
            exact own_apart hq hgrow4 (fun g hg => typ_ne hq (own_below HM2.out.2 (bnewK w2 (.cells #[.int .i64 t.kind, .int .i64 t.a, .int .i64 t.b, .int .i64 t.c, .int .i64 t.d, .string t.name, .slice ad t.data.length cd] 100))) (by decide) g hg)
          have HMe : Hid (M' = M ++ [(t, .slice ad t.data.length cd)]) := hM1
          have HMl : Hid (M'.length = M.length + 1) := hM1l
          clear hown4 hgrow4 hM1 hM1l
          have HU4 : Hid ((runF tb l (n + 1)).1 = M'.map Prod.fst ∧ (runF tb l (n + 1)).2 = Q') := by
            rw [HSt.out]
            refine ⟨?_, ?_⟩
            · show (runF tb l n).1 ++ [t] = _
              rw [HMe.out, List.map_append, HU.out.1]; rfl
            · show (runF tb l n).2 ++ List.replicate 1 ((runF tb l n).1.length : Int) = _
              rw [HU.out.2, HU.out.1, HQe.out]; simp
          clear HMe e0 e1 e2 e3 e4 e5 e6 HDx
          go_wp2
          exact ⟨⟨j + 1, n + 1, M', Q', some ⟨g2, 0, none⟩, some ⟨g1, 0, none⟩, cm2, cp1, by omega, by rw [HMl.out], by rw [HQl.out], by go_num, HMw4.out, HQw4.out, ⟨HU4.out.1, HU4.out.2, HQs.out⟩, HBw4.out⟩, by simp [RowKit.intOf]; omega⟩
        | false =>
          rw [hT] at HTg
          have HP : Hid (∀ b, l[j + 1]? = some b → b = t2) := fun b hb => by have := HLk.out; rw [hb] at this; exact Option.some.inj this
          have HPr : Hid (pairs tb l j t t2 = (twoK tb t.kind t2.kind != 0)) := by show _ = _; unfold pairs; rw [hT]; simp
          obtain ⟨q, hq⟩ : ∃ q, q = (twoK tb t.kind t2.kind != 0) := ⟨_, rfl⟩
          have Hq : Hid (q = (twoK tb t.kind t2.kind != 0)) := hq
          have HTw0 : Hid (∀ u, Below w.heap.size w u → Calls Tryz.prog 115 #[.pointer (some ⟨gp, j * 7, none⟩), .pointer (some ⟨gp, (j + 1) * 7, none⟩), .int .i64 tb] u fun e w' => AnsTw t t2 tb (.slice ad t.data.length cd) u e w') := fun u hu => by
            obtain ⟨c0, c1, c2, c3, c4, c5, c6⟩ := HC.out u hu
            obtain ⟨y0, y1, y2, -⟩ := (HO.out.below hu).at (j + 1) hlt2
            rw [← htt2] at y0 y1 y2
            exact l11Two_any t t2 tb gp (j * 7) gp ((j + 1) * 7) cd ad u ht1 ht2 c0 c1 c2 c6 y0 y1 y2
          clear hT htt2 HTt hq
          go_wp2_with fail
          refine HTg.out.mono ?_
          rintro e w' ⟨rfl, e1⟩
          replace e1 := e1.symm
          subst e1
          obtain ⟨Y, hY⟩ : ∃ Y, Y = w2.drew := ⟨_, rfl⟩
          have HBY : Hid (Below w2.heap.size w2 Y) := by rw [hY]; exact (Below.refl _ _).drew
          have HTw : Hid (∀ u, Below Y.heap.size Y u → Calls Tryz.prog 115 #[.pointer (some ⟨gp, j * 7, none⟩), .pointer (some ⟨gp, (j + 1) * 7, none⟩), .int .i64 tb] u fun e w' => ∃ (o : Opr) (ao : Option Addr) (cap : Nat), e = .returned (.tuple #[o.val (.slice ao o.data.length cap), .bool q]) ∧ (twoK tb t.kind t2.kind ≠ 0 → o = joinO t t2 (twoK tb t.kind t2.kind) ∧ ((o.data = t.data ∧ Value.slice ao o.data.length cap = .slice ad t.data.length cd) ∨ (o.data = [] ∧ ao = none ∧ cap = 0))) ∧ Below u.heap.size u w') := fun u hu => by
            rw [Hq.out]
            exact HTw0.out u (HB2.out.trans ((HBY.out.trans (hu.mono HBY.out.size)).mono HB2.out.size))
          have HS0 : Hid (Y.cell? ⟨g, o + 1, none⟩ = some (.slice (some ⟨gp, 0, none⟩) P.length cv)) := cell_keep HBY.out q2
          have hFr : ∀ f, Fence.wide.fn f := fun _ => trivial
          have hj0 : 0 ≤ (j : Int) := by omega
          have hj1 : (j : Int) < (P.length : Int) := by omega
          have hj2 : 0 ≤ (j : Int) + 1 := by omega
          go_upto_region 8 with fail
          go_cut [8, 9] from 12 to 81 (fun v8 v9 wx => ∃ (b : Nat) (oo : Opr) (ao : Option Addr) (cao : Nat), v8 = .pointer (some ⟨b, 0, none⟩) ∧ v9 = .bool q ∧ Hid (wx.heap[b]? = some (.cells #[.int .i64 oo.kind, .int .i64 oo.a, .int .i64 oo.b, .int .i64 oo.c, .int .i64 oo.d, .string oo.name, .slice ao oo.data.length cao] 100)) ∧ Hid (twoK tb t.kind t2.kind ≠ 0 → oo = joinO t t2 (twoK tb t.kind t2.kind) ∧ ((oo.data = t.data ∧ Value.slice ao oo.data.length cao = .slice ad t.data.length cd) ∨ (oo.data = [] ∧ ao = none ∧ cao = 0))) ∧ Hid (Below w2.heap.size w2 wx))
          case first =>
            clear HC HDt HTw0 HM2 HQ2 HU HI HL HE HLl HLj HLk HPr HP Hq HO HQe HQl HQs HQj q2
            refine (wpIn_wide (n := 0)).1 ?_
            refine region_anyH (z := 20) (S := fun u : World => u.cell? ⟨g, o + 1, none⟩ = some (.slice (some ⟨gp, 0, none⟩) P.length cv)) (by kernel_rfl) ?_
            rw [← hY]
            clear hY
            refine anyH_take hFr (by kernel_rfl) (i := 0) (v := ?_) (d := some 42) (by kernel_rfl) rfl rfl (by kernel_rfl) (by kernel_rfl) (by kernel_rfl) (fun _ _ _ h => h) HS0.out (Or.inl ⟨by rfl, fun w hSw => ?_⟩) ?_
            rotate_left
            · have s0 := hSw
              go_simp
              all_goals (try (first | with_reducible rfl | omega))
            try simp only [Act.put]
            try simp only [List.setIfInBounds_toArray]
            try simp only [List.set_cons_zero, List.set_cons_succ]
            refine anyH_take hFr (by kernel_rfl) (i := 1) (v := ?_) (d := some 43) (by kernel_rfl) rfl rfl (by kernel_rfl) (by kernel_rfl) (by kernel_rfl) (fun _ _ _ h => h) HS0.out (Or.inl ⟨by rfl, fun w hSw => ?_⟩) ?_
            rotate_left
            · have s0 := hSw
              go_simp
              all_goals (try (first | with_reducible rfl | omega))
            try simp only [Act.put]
            try simp only [List.setIfInBounds_toArray]
            try simp only [List.set_cons_zero, List.set_cons_succ]
            refine anyH_take hFr (by kernel_rfl) (i := 2) (v := ?_) (d := some 44) (by kernel_rfl) rfl rfl (by kernel_rfl) (by kernel_rfl) (by kernel_rfl) (fun _ _ _ h => h) HS0.out (Or.inl ⟨by rfl, fun w hSw => ?_⟩) ?_
            rotate_left
            · have s0 := hSw
              go_simp
              all_goals (try (first | with_reducible rfl | omega))
            try simp only [Act.put]
            try simp only [List.setIfInBounds_toArray]
            try simp only [List.set_cons_zero, List.set_cons_succ]
            refine anyH_take hFr (by kernel_rfl) (i := 3) (v := ?_) (d := some 45) (by kernel_rfl) rfl rfl (by kernel_rfl) (by kernel_rfl) (by kernel_rfl) (fun _ _ _ h => h) HS0.out (Or.inl ⟨by rfl, fun w hSw => ?_⟩) ?_
            rotate_left
            · have s0 := hSw
              go_simp
              all_goals (try (first | with_reducible rfl | omega))
            try simp only [Act.put]
            try simp only [List.setIfInBounds_toArray]
            try simp only [List.set_cons_zero, List.set_cons_succ]
            refine anyH_take hFr (by kernel_rfl) (i := 4) (v := ?_) (d := some 46) (by kernel_rfl) rfl rfl (by kernel_rfl) (by kernel_rfl) (by kernel_rfl) (fun _ _ _ h => h) HS0.out (Or.inl ⟨by rfl, fun w hSw => ?_⟩) ?_
            rotate_left
            · have s0 := hSw
              go_simp
              all_goals (try (first | with_reducible rfl | omega))
            try simp only [Act.put]
            try simp only [List.setIfInBounds_toArray]
            try simp only [List.set_cons_zero, List.set_cons_succ]
            refine anyH_take hFr (by kernel_rfl) (i := 5) (v := ?_) (d := some 47) (by kernel_rfl) rfl rfl (by kernel_rfl) (by kernel_rfl) (by kernel_rfl) (fun _ _ _ h => h) HS0.out (Or.inl ⟨by rfl, fun w hSw => ?_⟩) ?_
            rotate_left
            · have s0 := hSw
              go_simp
              all_goals (try (first | with_reducible rfl | omega))
            try simp only [Act.put]
            try simp only [List.setIfInBounds_toArray]
            try simp only [List.set_cons_zero, List.set_cons_succ]
            refine anyH_take hFr (by kernel_rfl) (i := 6) (v := ?_) (d := some 48) (by kernel_rfl) rfl rfl (by kernel_rfl) (by kernel_rfl) (by kernel_rfl) (fun _ _ _ h => h) HS0.out (Or.inl ⟨by rfl, fun w hSw => ?_⟩) ?_
            rotate_left
            · have s0 := hSw
              go_simp
              all_goals (try (first | with_reducible rfl | omega))
            try simp only [Act.put]
            try simp only [List.setIfInBounds_toArray]
            try simp only [List.set_cons_zero, List.set_cons_succ]
            refine anyH_take hFr (by kernel_rfl) (i := 7) (v := ?_) (d := some 49) (by kernel_rfl) rfl rfl (by kernel_rfl) (by kernel_rfl) (by kernel_rfl) (fun _ _ _ h => h) HS0.out (Or.inl ⟨by rfl, fun w hSw => ?_⟩) ?_
            rotate_left
            · have s0 := hSw
              go_simp
              all_goals (try (first | with_reducible rfl | omega))
            try simp only [Act.put]
            try simp only [List.setIfInBounds_toArray]
            try simp only [List.set_cons_zero, List.set_cons_succ]
            refine anyH_take hFr (by kernel_rfl) (i := 8) (v := ?_) (d := some 50) (by kernel_rfl) rfl rfl (by kernel_rfl) (by kernel_rfl) (by kernel_rfl) (fun _ _ _ h => h) HS0.out (Or.inl ⟨by rfl, fun w hSw => ?_⟩) ?_
            rotate_left
            · have s0 := hSw
              go_simp
              all_goals (try (first | with_reducible rfl | omega))
            try simp only [Act.put]
            try simp only [List.setIfInBounds_toArray]
            try simp only [List.set_cons_zero, List.set_cons_succ]
            refine anyH_take hFr (by kernel_rfl) (i := 9) (v := ?_) (d := some 51) (by kernel_rfl) rfl rfl (by kernel_rfl) (by kernel_rfl) (by kernel_rfl) (fun _ _ _ h => h) HS0.out (Or.inl ⟨by rfl, fun w hSw => ?_⟩) ?_
            rotate_left
            · have s0 := hSw
              go_simp
              all_goals (try (first | with_reducible rfl | omega))
            try simp only [Act.put]
            try simp only [List.setIfInBounds_toArray]
            try simp only [List.set_cons_zero, List.set_cons_succ]
            refine anyH_take hFr (by kernel_rfl) (i := 10) (v := ?_) (d := some 52) (by kernel_rfl) rfl rfl (by kernel_rfl) (by kernel_rfl) (by kernel_rfl) (fun _ _ _ h => h) HS0.out (Or.inl ⟨by rfl, fun w hSw => ?_⟩) ?_
            rotate_left
            · have s0 := hSw
              go_simp
              all_goals (try (first | with_reducible rfl | omega))
            try simp only [Act.put]
            try simp only [List.setIfInBounds_toArray]
            try simp only [List.set_cons_zero, List.set_cons_succ]
            refine anyH_take hFr (by kernel_rfl) (i := 11) (v := ?_) (d := some 53) (by kernel_rfl) rfl rfl (by kernel_rfl) (by kernel_rfl) (by kernel_rfl) (fun _ _ _ h => h) HS0.out (Or.inl ⟨by rfl, fun w hSw => ?_⟩) ?_
            rotate_left
            · have s0 := hSw
              go_simp
              all_goals (try (first | with_reducible rfl | omega))
            try simp only [Act.put]
            try simp only [List.setIfInBounds_toArray]
            try simp only [List.set_cons_zero, List.set_cons_succ]
            refine anyH_take hFr (by kernel_rfl) (i := 12) (v := ?_) (d := some 54) (by kernel_rfl) rfl rfl (by kernel_rfl) (by kernel_rfl) (by kernel_rfl) (fun _ _ _ h => h) HS0.out (Or.inl ⟨by rfl, fun w hSw => ?_⟩) ?_
            rotate_left
            · have s0 := hSw
              go_simp
              all_goals (try (first | with_reducible rfl | omega))
            try simp only [Act.put]
            try simp only [List.setIfInBounds_toArray]
            try simp only [List.set_cons_zero, List.set_cons_succ]
            refine anyH_take hFr (by kernel_rfl) (i := 13) (v := ?_) (d := some 55) (by kernel_rfl) rfl rfl (by kernel_rfl) (by kernel_rfl) (by kernel_rfl) (fun _ _ _ h => h) HS0.out (Or.inl ⟨by rfl, fun w hSw => ?_⟩) ?_
            rotate_left
            · have s0 := hSw
              go_simp
              all_goals (try (first | with_reducible rfl | omega))
            try simp only [Act.put]
            try simp only [List.setIfInBounds_toArray]
            try simp only [List.set_cons_zero, List.set_cons_succ]
            refine anyH_two (i := 14) (j := 18) (by kernel_rfl) (op_plainW rfl (by rfl) (by simp) ?_) (op_plainW rfl (by rfl) (by simp) ?_)
            · go_simp
              refine (HTw.out Y (Below.refl _ _)).mono ?_
              rintro e w3 ⟨oo, ao, cao, rfl, hoo, b3⟩
              have HB3 : Hid (Below Y.heap.size Y w3) := b3
              have HS3 : Hid (w3.cell? ⟨g, o + 1, none⟩ = some (.slice (some ⟨gp, 0, none⟩) P.length cv)) := cell_keep b3 HS0.out
              have HOo : Hid (twoK tb t.kind t2.kind ≠ 0 → oo = joinO t t2 (twoK tb t.kind t2.kind) ∧ ((oo.data = t.data ∧ Value.slice ao oo.data.length cao = .slice ad t.data.length cd) ∨ (oo.data = [] ∧ ao = none ∧ cao = 0))) := hoo
              have HY3 : Hid (Below w2.heap.size w2 w3) := HBY.out.trans (b3.mono HBY.out.size)
              clear b3 hoo
              (first | refine ⟨fun _ => HS3.out, ?_⟩ | refine ⟨HS3.out, ?_⟩ | skip)
              try simp only [Act.put]
              try simp only [List.setIfInBounds_toArray]
              try simp only [List.set_cons_zero, List.set_cons_succ]
              refine anyH_take hFr (by kernel_rfl) (i := 15) (v := ?_) (d := some 41) (by kernel_rfl) rfl rfl (by kernel_rfl) (by kernel_rfl) (by kernel_rfl) (fun _ _ _ h => h) HS3.out (Or.inl ⟨by rfl, fun w hSw => ?_⟩) ?_
              rotate_left
              · have s0 := hSw
                go_simp
                all_goals (try (first | with_reducible rfl | omega))
              try simp only [Act.put]
              try simp only [List.setIfInBounds_toArray]
              try simp only [List.set_cons_zero, List.set_cons_succ]
              refine anyH_take hFr (by kernel_rfl) (i := 16) (v := ?_) (d := some 57) (by kernel_rfl) rfl rfl (by kernel_rfl) (by kernel_rfl) (by kernel_rfl) (fun _ _ _ h => h) HS3.out (Or.inl ⟨by rfl, fun w hSw => ?_⟩) ?_
              rotate_left
              · have s0 := hSw
                go_simp
                all_goals (try (first | with_reducible rfl | omega))
              try simp only [Act.put]
              try simp only [List.setIfInBounds_toArray]
              try simp only [List.set_cons_zero, List.set_cons_succ]
              refine anyH_take hFr (by kernel_rfl) (i := 17) (v := ?_) (d := some 58) (by kernel_rfl) rfl rfl (by kernel_rfl) (by kernel_rfl) (by kernel_rfl) (fun _ _ _ h => h) HS3.out (Or.inl ⟨by rfl, fun w hSw => ?_⟩) ?_
              rotate_left
              · have s0 := hSw
                go_simp
                all_goals (try (first | with_reducible rfl | omega))
              try simp only [Act.put]
              try simp only [List.setIfInBounds_toArray]
              try simp only [List.set_cons_zero, List.set_cons_succ]
              refine anyH_one (i := 18) (by kernel_rfl) (op_plainW rfl (by rfl) (by simp) ?_)
              go_simp
              obtain ⟨y7, hy7⟩ : ∃ y7, y7 = w3.alloc (.cells #[.int .i64 0, .int .i64 0, .int .i64 0, .int .i64 0, .int .i64 0, .string ⟨#[]⟩, .slice none 0 0] 100) := ⟨_, rfl⟩
              have HB7 : Hid (Below w3.heap.size w3 y7) := by rw [hy7]; exact bnewK _ _
              have HS7 : Hid (y7.cell? ⟨g, o + 1, none⟩ = some (.slice (some ⟨gp, 0, none⟩) P.length cv)) := cell_keep HB7.out HS3.out
              have HZ : Hid (y7.heap[w3.heap.size]? = some (.cells #[.int .i64 0, .int .i64 0, .int .i64 0, .int .i64 0, .int .i64 0, .string ⟨#[]⟩, .slice none 0 0] 100)) := by show _ = _; rw [hy7]; exact heap_alloc_new _ _
              have HY7 : Hid (Below w2.heap.size w2 y7) := HY3.out.trans (HB7.out.mono HY3.out.size)
              rw [← hy7]
              clear hy7
              (first | refine ⟨fun _ => HS7.out, ?_⟩ | refine ⟨HS7.out, ?_⟩ | skip)
              try simp only [Act.put]
              try simp only [List.setIfInBounds_toArray]
              try simp only [List.set_cons_zero, List.set_cons_succ]
              have hz := HZ.out
              have z0 : y7.cell? ⟨w3.heap.size, 0, none⟩ = some (.int .i64 0) := by rw [cell_of_row y7 _ 0 _ _ _ hz]; rfl
              have z1 : y7.cell? ⟨w3.heap.size, 1, none⟩ = some (.int .i64 0) := by rw [cell_of_row y7 _ 1 _ _ _ hz]; rfl
              have z2 : y7.cell? ⟨w3.heap.size, 2, none⟩ = some (.int .i64 0) := by rw [cell_of_row y7 _ 2 _ _ _ hz]; rfl
              have z3 : y7.cell? ⟨w3.heap.size, 3, none⟩ = some (.int .i64 0) := by rw [cell_of_row y7 _ 3 _ _ _ hz]; rfl
              have z4 : y7.cell? ⟨w3.heap.size, 4, none⟩ = some (.int .i64 0) := by rw [cell_of_row y7 _ 4 _ _ _ hz]; rfl
              have z5 : y7.cell? ⟨w3.heap.size, 5, none⟩ = some (.string ⟨#[]⟩) := by rw [cell_of_row y7 _ 5 _ _ _ hz]; rfl
              have z6 : y7.cell? ⟨w3.heap.size, 6, none⟩ = some (.slice none 0 0) := by rw [cell_of_row y7 _ 6 _ _ _ hz]; rfl
              have zf : ∀ j, y7.frozen? ⟨w3.heap.size, j, none⟩ = false := fun j => by simp [World.frozen?, hz]
              have zl := (Array.getElem?_eq_some_iff.1 hz).1
              have hgb : g ≠ w3.heap.size := fun e => by have h1 := lt_of_cell HP1.out; have h2 := HB2.out.size; have h3 := HBY.out.size; have h4 := HB3.out.size; simp only at h1; omega
              refine anyH_one (i := 19) (by kernel_rfl) (op_plainW rfl (by rfl) (by simp) ?_)
              go_simp
              refine ⟨HS7.out, ?_⟩
              obtain ⟨U, hU⟩ : ∃ U, U = (((((((y7.setCell ⟨w3.heap.size, 0, none⟩ (.int .i64 oo.kind)).setCell ⟨w3.heap.size, 1, none⟩ (.int .i64 oo.a)).setCell ⟨w3.heap.size, 2, none⟩ (.int .i64 oo.b)).setCell ⟨w3.heap.size, 3, none⟩ (.int .i64 oo.c)).setCell ⟨w3.heap.size, 4, none⟩ (.int .i64 oo.d)).setCell ⟨w3.heap.size, 5, none⟩ (.string oo.name)).setCell ⟨w3.heap.size, 6, none⟩ (.slice ao oo.data.length cao)) := ⟨_, rfl⟩
              have HNU : Hid (U.heap[w3.heap.size]? = some (.cells #[.int .i64 oo.kind, .int .i64 oo.a, .int .i64 oo.b, .int .i64 oo.c, .int .i64 oo.d, .string oo.name, .slice ao oo.data.length cao] 100)) := by show _ = _; rw [hU]; exact put7_at hz
              have HSU : Hid (U.cell? ⟨g, o + 1, none⟩ = some (.slice (some ⟨gp, 0, none⟩) P.length cv)) := by show _ = _; rw [hU]; exact put7_cell HS7.out hgb
              have hwb : w2.heap.size ≤ w3.heap.size := by have h3 := HBY.out.size; have h4 := HB3.out.size; omega
              have HBU : Hid (Below w2.heap.size w2 U) := by rw [hU]; exact put7_below HY7.out hwb
              rw [← hU]
              clear hU hz z0 z1 z2 z3 z4 z5 z6 zf zl hgb HZ
              try simp only [Act.put]
              try simp only [List.setIfInBounds_toArray]
              try simp only [List.set_cons_zero, List.set_cons_succ]
              refine anyH_one (i := 20) (by kernel_rfl) (op_plainW rfl (by rfl) (by simp) ?_)
              go_simp
              (first | refine ⟨by kernel_rfl, ?_⟩ | skip)
              try simp only [Act.put]
              try simp only [List.setIfInBounds_toArray]
              try simp only [List.set_cons_zero, List.set_cons_succ]
              (first | refine anyH_done (by kernel_rfl) ?_ _ | skip)
              rename_i hKm
              refine hKm _ _ ?_
              clear hKm
              go_meet
              exact ⟨_, oo, ao, cao, rfl, rfl, HNU.out, HOo.out, HBU.out⟩
            · go_simp
              obtain ⟨y7, hy7⟩ : ∃ y7, y7 = Y.alloc (.cells #[.int .i64 0, .int .i64 0, .int .i64 0, .int .i64 0, .int .i64 0, .string ⟨#[]⟩, .slice none 0 0] 100) := ⟨_, rfl⟩
              have HB7 : Hid (Below Y.heap.size Y y7) := by rw [hy7]; exact bnewK _ _
              have HS7 : Hid (y7.cell? ⟨g, o + 1, none⟩ = some (.slice (some ⟨gp, 0, none⟩) P.length cv)) := cell_keep HB7.out HS0.out
              have HN7 : Hid (y7.heap[Y.heap.size]? = some (.cells #[.int .i64 0, .int .i64 0, .int .i64 0, .int .i64 0, .int .i64 0, .string ⟨#[]⟩, .slice none 0 0] 100)) := by show _ = _; rw [hy7]; exact heap_alloc_new _ _
              rw [← hy7]
              clear hy7
              (first | refine ⟨fun _ => HS7.out, ?_⟩ | refine ⟨HS7.out, ?_⟩ | skip)
              try simp only [Act.put]
              try simp only [List.setIfInBounds_toArray]
              try simp only [List.set_cons_zero, List.set_cons_succ]
              refine anyH_one (i := 14) (by kernel_rfl) (op_plainW rfl (by rfl) (by simp) ?_)
              go_simp
              refine (HTw.out y7 HB7.out).mono ?_
              rintro e w3 ⟨oo, ao, cao, rfl, hoo, b3⟩
              have HB3 : Hid (Below y7.heap.size y7 w3) := b3
              have HS3 : Hid (w3.cell? ⟨g, o + 1, none⟩ = some (.slice (some ⟨gp, 0, none⟩) P.length cv)) := cell_keep b3 HS7.out
              have HOo : Hid (twoK tb t.kind t2.kind ≠ 0 → oo = joinO t t2 (twoK tb t.kind t2.kind) ∧ ((oo.data = t.data ∧ Value.slice ao oo.data.length cao = .slice ad t.data.length cd) ∨ (oo.data = [] ∧ ao = none ∧ cao = 0))) := hoo
              have HY3 : Hid (Below w2.heap.size w2 w3) := (HBY.out.trans (HB7.out.mono HBY.out.size)).trans (b3.mono (Nat.le_trans HBY.out.size HB7.out.size))
              have HZ : Hid (w3.heap[Y.heap.size]? = some (.cells #[.int .i64 0, .int .i64 0, .int .i64 0, .int .i64 0, .int .i64 0, .string ⟨#[]⟩, .slice none 0 0] 100)) := by show _ = _; rw [b3.block _ (Array.getElem?_eq_some_iff.1 HN7.out).1]; exact HN7.out
              clear b3 hoo
              (first | refine ⟨fun _ => HS3.out, ?_⟩ | refine ⟨HS3.out, ?_⟩ | skip)
              try simp only [Act.put]
              try simp only [List.setIfInBounds_toArray]
              try simp only [List.set_cons_zero, List.set_cons_succ]
              refine anyH_take hFr (by kernel_rfl) (i := 15) (v := ?_) (d := some 41) (by kernel_rfl) rfl rfl (by kernel_rfl) (by kernel_rfl) (by kernel_rfl) (fun _ _ _ h => h) HS3.out (Or.inl ⟨by rfl, fun w hSw => ?_⟩) ?_
              rotate_left
              · have s0 := hSw
                go_simp
                all_goals (try (first | with_reducible rfl | omega))
              try simp only [Act.put]
              try simp only [List.setIfInBounds_toArray]
              try simp only [List.set_cons_zero, List.set_cons_succ]
              refine anyH_take hFr (by kernel_rfl) (i := 16) (v := ?_) (d := some 57) (by kernel_rfl) rfl rfl (by kernel_rfl) (by kernel_rfl) (by kernel_rfl) (fun _ _ _ h => h) HS3.out (Or.inl ⟨by rfl, fun w hSw => ?_⟩) ?_
              rotate_left
              · have s0 := hSw
                go_simp
                all_goals (try (first | with_reducible rfl | omega))
              try simp only [Act.put]
              try simp only [List.setIfInBounds_toArray]
              try simp only [List.set_cons_zero, List.set_cons_succ]
              refine anyH_take hFr (by kernel_rfl) (i := 17) (v := ?_) (d := some 58) (by kernel_rfl) rfl rfl (by kernel_rfl) (by kernel_rfl) (by kernel_rfl) (fun _ _ _ h => h) HS3.out (Or.inl ⟨by rfl, fun w hSw => ?_⟩) ?_
              rotate_left
              · have s0 := hSw
                go_simp
                all_goals (try (first | with_reducible rfl | omega))
              try simp only [Act.put]
              try simp only [List.setIfInBounds_toArray]
              try simp only [List.set_cons_zero, List.set_cons_succ]
              have hz := HZ.out
              have z0 : w3.cell? ⟨Y.heap.size, 0, none⟩ = some (.int .i64 0) := by rw [cell_of_row w3 _ 0 _ _ _ hz]; rfl
              have z1 : w3.cell? ⟨Y.heap.size, 1, none⟩ = some (.int .i64 0) := by rw [cell_of_row w3 _ 1 _ _ _ hz]; rfl
              have z2 : w3.cell? ⟨Y.heap.size, 2, none⟩ = some (.int .i64 0) := by rw [cell_of_row w3 _ 2 _ _ _ hz]; rfl
              have z3 : w3.cell? ⟨Y.heap.size, 3, none⟩ = some (.int .i64 0) := by rw [cell_of_row w3 _ 3 _ _ _ hz]; rfl
              have z4 : w3.cell? ⟨Y.heap.size, 4, none⟩ = some (.int .i64 0) := by rw [cell_of_row w3 _ 4 _ _ _ hz]; rfl
              have z5 : w3.cell? ⟨Y.heap.size, 5, none⟩ = some (.string ⟨#[]⟩) := by rw [cell_of_row w3 _ 5 _ _ _ hz]; rfl
              have z6 : w3.cell? ⟨Y.heap.size, 6, none⟩ = some (.slice none 0 0) := by rw [cell_of_row w3 _ 6 _ _ _ hz]; rfl
              have zf : ∀ j, w3.frozen? ⟨Y.heap.size, j, none⟩ = false := fun j => by simp [World.frozen?, hz]
              have zl := (Array.getElem?_eq_some_iff.1 hz).1
              have hgb : g ≠ Y.heap.size := fun e => by have h1 := lt_of_cell HP1.out; have h2 := HB2.out.size; have h3 := HBY.out.size; simp only at h1; omega
              refine anyH_one (i := 19) (by kernel_rfl) (op_plainW rfl (by rfl) (by simp) ?_)
              go_simp
              refine ⟨HS3.out, ?_⟩
              obtain ⟨U, hU⟩ : ∃ U, U = (((((((w3.setCell ⟨Y.heap.size, 0, none⟩ (.int .i64 oo.kind)).setCell ⟨Y.heap.size, 1, none⟩ (.int .i64 oo.a)).setCell ⟨Y.heap.size, 2, none⟩ (.int .i64 oo.b)).setCell ⟨Y.heap.size, 3, none⟩ (.int .i64 oo.c)).setCell ⟨Y.heap.size, 4, none⟩ (.int .i64 oo.d)).setCell ⟨Y.heap.size, 5, none⟩ (.string oo.name)).setCell ⟨Y.heap.size, 6, none⟩ (.slice ao oo.data.length cao)) := ⟨_, rfl⟩
              have HNU : Hid (U.heap[Y.heap.size]? = some (.cells #[.int .i64 oo.kind, .int .i64 oo.a, .int .i64 oo.b, .int .i64 oo.c, .int .i64 oo.d, .string oo.name, .slice ao oo.data.length cao] 100)) := by show _ = _; rw [hU]; exact put7_at hz
              have HSU : Hid (U.cell? ⟨g, o + 1, none⟩ = some (.slice (some ⟨gp, 0, none⟩) P.length cv)) := by show _ = _; rw [hU]; exact put7_cell HS3.out hgb
              have hwb : w2.heap.size ≤ Y.heap.size := by have h3 := HBY.out.size; omega
              have HBU : Hid (Below w2.heap.size w2 U) := by rw [hU]; exact put7_below HY3.out hwb
              rw [← hU]
              clear hU hz z0 z1 z2 z3 z4 z5 z6 zf zl hgb HZ
              try simp only [Act.put]
              try simp only [List.setIfInBounds_toArray]
              try simp only [List.set_cons_zero, List.set_cons_succ]
              refine anyH_one (i := 20) (by kernel_rfl) (op_plainW rfl (by rfl) (by simp) ?_)
              go_simp
              (first | refine ⟨by kernel_rfl, ?_⟩ | skip)
              try simp only [Act.put]
              try simp only [List.setIfInBounds_toArray]
              try simp only [List.set_cons_zero, List.set_cons_succ]
              (first | refine anyH_done (by kernel_rfl) ?_ _ | skip)
              rename_i hKm
              refine hKm _ _ ?_
              clear hKm
              go_meet
              exact ⟨_, oo, ao, cao, rfl, rfl, HNU.out, HOo.out, HBU.out⟩
          case rest =>
            obtain ⟨b, oo, ao, cao, rfl, rfl, HN, HOo, HBc⟩ := hcut
            clear HTw HS0 HBY hY HTw0 HTg hFr
            have HBw3 : Hid (Below w.heap.size w wc) := HB2.out.trans (HBc.out.mono HB2.out.size)
            have HM3 : Hid (OV wc B (.slice am M.length cm) M ∧ wc.ownsRow w.heap.size 100 7 (.slice am M.length cm) M.length (cellsOp M)) := ⟨HM2.out.1.below HBc.out, own_below HM2.out.2 HBc.out⟩
            have HQ3 : Hid (wc.ownsRow w.heap.size 2 1 (.slice (some ⟨g1, 0, none⟩) (Q.length + 1) cp1) (Q.length + 1) (cellsI Q')) := own_below HQ2.out HBc.out
            have q3 : wc.cell? ⟨g, o + 1, none⟩ = some (.slice (some ⟨gp, 0, none⟩) P.length cv) := cell_keep HBw3.out HP1.out
            have hwc : w.heap.size ≤ wc.heap.size := HBw3.out.size
            clear HM2 HQ2 q2
            cases q with
            | true =>
              have hne : twoK tb t.kind t2.kind ≠ 0 := by have := Hq.out; intro e; rw [e] at this; simp at this
              have HSt : Hid (runF tb l (n + 1) = putF (runF tb l n) 2 [joinO t t2 (twoK tb t.kind t2.kind)]) := runF_pair (by rw [HU.out.2]; exact HQj.out) HLj.out HLk.out (by rw [HPr.out, ← Hq.out])
              obtain ⟨hoo, hdat⟩ := HOo.out hne
              have HOe : Hid (oo = joinO t t2 (twoK tb t.kind t2.kind)) := hoo
              have HDx : Hid (wc.ownsRow B 196 4 (.slice ao oo.data.length cao) oo.data.length (cellsD oo.data)) := by
                rcases hdat with ⟨d1, d2⟩ | ⟨d1, d2, d3⟩
                · rw [d2, d1]; exact HDt.out wc HBw3.out
                · show World.ownsRow _ _ _ _ _ _ _
                  rw [d1, d2, d3]; exact ⟨rfl, .inl ⟨rfl, rfl⟩⟩
              have hz := HN.out
              have e0 : wc.cell? ⟨b, 0, none⟩ = some (.int .i64 oo.kind) := by rw [cell_of_row wc _ 0 _ _ _ hz]; rfl
              have e1 : wc.cell? ⟨b, 1, none⟩ = some (.int .i64 oo.a) := by rw [cell_of_row wc _ 1 _ _ _ hz]; rfl
              have e2 : wc.cell? ⟨b, 2, none⟩ = some (.int .i64 oo.b) := by rw [cell_of_row wc _ 2 _ _ _ hz]; rfl
              have e3 : wc.cell? ⟨b, 3, none⟩ = some (.int .i64 oo.c) := by rw [cell_of_row wc _ 3 _ _ _ hz]; rfl
              have e4 : wc.cell? ⟨b, 4, none⟩ = some (.int .i64 oo.d) := by rw [cell_of_row wc _ 4 _ _ _ hz]; rfl
              have e5 : wc.cell? ⟨b, 5, none⟩ = some (.string oo.name) := by rw [cell_of_row wc _ 5 _ _ _ hz]; rfl
              have e6 : wc.cell? ⟨b, 6, none⟩ = some (.slice ao oo.data.length cao) := by rw [cell_of_row wc _ 6 _ _ _ hz]; rfl
              clear hz hoo hdat hne HN HOo
              go_wp2_with (at_builtin; refine wpList_append_lies _ rfl (.tmp 60) (.tmp 62) 83 rfl w.heap.size 100 i1 _ 7 80 Tryz.underlying83 hi1 hy0 hy1 hy2 rfl (by decide) _ M.length (cellsOp M) rfl (own_below HM3.out.2 (bnewK _ _)) ⟨_, 0, none⟩ 1 1 [.int .i64 oo.kind, .int .i64 oo.a, .int .i64 oo.b, .int .i64 oo.c, .int .i64 oo.d, .string oo.name, .slice ao oo.data.length cao] rfl rfl ?f1 ?f2 (by decide) ?f3 ?f4 ?f5 _ rfl ?_)
              try (case f1 => exact World.news_of_block (cs := #[.int .i64 oo.kind, .int .i64 oo.a, .int .i64 oo.b, .int .i64 oo.c, .int .i64 oo.d, .string oo.name, .slice ao oo.data.length cao]) (t := 100) (fr := (0, 0)) (heap_new' _ _ _ (by simp)))
              case f2 => first | (intro u hu; simp at hu; rcases hu with rfl | rfl | rfl | rfl | rfl | rfl | rfl <;> rfl) | exact ⟨rfl, rfl, rfl, rfl, rfl, rfl, rfl⟩
              case f3 => unfold maxLen; omega
              case f4 => omega
              case f5 => first | omega | (simp; omega)
              intro g2 cm2 w5 hown4 hgrow4 _ _
              have HBw5 : Hid (Below w.heap.size w w5) := (HBw3.out.alloc HBw3.out.size _).grown hgrow4 (by simp; omega) (fun k hk => (HM3.out.2.lt k hk).1)
              obtain ⟨M', hM1⟩ : ∃ M', M' = M ++ [(oo, .slice ao oo.data.length cao)] := ⟨_, rfl⟩
              have hM1l : M'.length = M.length + 1 := by rw [hM1]; simp
              have HMw5 : Hid (OV w5 B (.slice (some ⟨g2, 0, none⟩) M'.length cm2) M' ∧ w5.ownsRow w.heap.size 100 7 (.slice (some ⟨g2, 0, none⟩) M'.length cm2) M'.length (cellsOp M')) := by
                have h1 : w5.ownsRow w.heap.size 100 7 (.slice (some ⟨g2, 0, none⟩) M'.length cm2) M'.length (cellsOp M') := by rw [hM1l, hM1, cellsOp_append]; exact hown4
                refine ⟨?_, h1⟩
                rw [hM1l, hM1]
                exact OV.more (HM3.out.1.below (bnewK _ _)) (N := [(oo, .slice ao oo.data.length cao)]) rfl (fun y hy => by simp at hy; subst hy; exact own_below HDx.out (bnewK _ _)) (own_base hown4 hB) hgrow4
              have HQw5 : Hid (w5.ownsRow w.heap.size 2 1 (.slice (some ⟨g1, 0, none⟩) Q'.length cp1) Q'.length (cellsI Q')) := by
                have hq := own_below HQ3.out (bnewK wc (.cells #[.int .i64 oo.kind, .int .i64 oo.a, .int .i64 oo.b, .int .i64 oo.c, .int .i64 oo.d, .string oo.name, .slice ao oo.data.length cao] 100))
                rw [HQl.out]
                exact own_apart hq hgrow4 (fun g hg => typ_ne hq (own_below HM3.out.2 (bnewK wc (.cells #[.int .i64 oo.kind, .int .i64 oo.a, .int .i64 oo.b, .int .i64 oo.c, .int .i64 oo.d, .string oo.name, .slice ao oo.data.length cao] 100))) (by decide) g hg)
              have HMe : Hid (M' = M ++ [(oo, .slice ao oo.data.length cao)]) := hM1
              have HMl : Hid (M'.length = M.length + 1) := hM1l
              clear hown4 hgrow4 hM1 hM1l
              have HQ5 : Hid (w5.ownsRow w.heap.size 2 1 (.slice (some ⟨g1, 0, none⟩) (Q.length + 1) cp1) (Q.length + 1) (cellsI Q')) := by have := HQw5.out; rw [HQl.out] at this; exact this
              have hw5 : w.heap.size ≤ w5.heap.size := HBw5.out.size
              clear e0 e1 e2 e3 e4 e5 e6 HDx HM3 HQ3 q3 HQw5
              go_wp2_with (at_builtin; refine wpList_append_lies _ rfl (.tmp 64) (.tmp 68) 78 rfl w.heap.size 2 i0 _ 1 8 Tryz.underlying78 hi hz0 hz1 hz2 rfl (by decide) _ (Q.length + 1) (cellsI Q') rfl (own_below HQ5.out (bnewK _ _)) ⟨_, 0, none⟩ 1 1 [.int .i64 (M.length : Int)] rfl rfl ?f1 ?f2 (by decide) ?f3 ?f4 ?f5 _ rfl ?_)
              try (case f1 => exact newsI (heap_new' _ _ _ (by simp)))
              case f2 => first | (intro u hu; simp at hu; subst hu; rfl) | rfl
              case f3 => unfold maxLen; omega
              case f4 => omega
              case f5 => first | omega | (simp; omega)
              intro g3 cp3 w6 hown6 hgrow6 _ _
              have HB6 : Hid (Below w.heap.size w w6) := (HBw5.out.alloc HBw5.out.size _).grown hgrow6 (by simp; omega) (fun k hk => (HQ5.out.lt k hk).1)
              have HM6 : Hid (OV w6 B (.slice (some ⟨g2, 0, none⟩) M'.length cm2) M' ∧ w6.ownsRow w.heap.size 100 7 (.slice (some ⟨g2, 0, none⟩) M'.length cm2) M'.length (cellsOp M')) := by
                have hq := own_below HQ5.out (bnewK w5 (.cells #[.int .i64 (M.length : Int)] 2))
                have hm := own_below HMw5.out.2 (bnewK w5 (.cells #[.int .i64 (M.length : Int)] 2))
                exact ⟨(HMw5.out.1.below (bnewK _ _)).aside hq hgrow6 (by decide) (by decide), own_apart hm hgrow6 (fun g hg => typ_ne hm hq (by decide) g hg)⟩
              obtain ⟨Q2, hQ2⟩ : ∃ Q2, Q2 = Q' ++ [(M.length : Int)] := ⟨_, rfl⟩
              have hQ2l : Q2.length = Q.length + 1 + 1 := by rw [hQ2, List.length_append, HQl.out]; rfl
              have HQ6 : Hid (w6.ownsRow w.heap.size 2 1 (.slice (some ⟨g3, 0, none⟩) Q2.length cp3) Q2.length (cellsI Q2)) := by rw [hQ2l, hQ2, show cellsI (Q' ++ [(M.length : Int)]) = cellsI Q' ++ [.int .i64 (M.length : Int)] by simp [cellsI]]; exact hown6
              have HU6 : Hid ((runF tb l (n + 1)).1 = M'.map Prod.fst ∧ (runF tb l (n + 1)).2 = Q2 ∧ Q2.length = j + 2) := by
                rw [HSt.out]
                refine ⟨?_, ?_, by rw [hQ2l, HQj.out]⟩
                · show (runF tb l n).1 ++ [_] = _
                  rw [HMe.out, List.map_append, HU.out.1, HOe.out]; rfl
                · show (runF tb l n).2 ++ List.replicate 2 ((runF tb l n).1.length : Int) = _
                  rw [HU.out.2, HU.out.1, hQ2, HQe.out]; simp
              have HQ2l : Hid (Q2.length = Q.length + 1 + 1) := hQ2l
              clear hown6 hgrow6 hQ2 hQ2l HMe HMw5 HQ5
              go_wp2
              exact ⟨⟨j + 2, n + 1, M', Q2, some ⟨g2, 0, none⟩, some ⟨g3, 0, none⟩, cm2, cp3, by omega, by rw [HMl.out], by rw [HQ2l.out], by go_num, HM6.out, HQ6.out, HU6.out, HB6.out⟩, by simp [RowKit.intOf]; omega⟩
            | false =>
              have HSt : Hid (runF tb l (n + 1) = putF (runF tb l n) 1 [t]) := runF_plain (by rw [HU.out.2]; exact HQj.out) HLj.out (fun b hb => by rw [HP.out b hb, HPr.out, ← Hq.out])
              clear HN HOo
              have HDx : Hid (wc.ownsRow B 196 4 (.slice ad t.data.length cd) t.data.length (cellsD t.data)) := HDt.out wc HBw3.out
              obtain ⟨e0, e1, e2, e3, e4, e5, e6⟩ := HC.out wc HBw3.out
              go_wp2_with (at_builtin; refine wpList_append_lies _ rfl (.tmp 72) (.tmp 80) 83 rfl w.heap.size 100 i1 _ 7 80 Tryz.underlying83 hi1 hy0 hy1 hy2 rfl (by decide) _ M.length (cellsOp M) rfl (own_below HM3.out.2 (bnewK _ _)) ⟨_, 0, none⟩ 1 1 [.int .i64 t.kind, .int .i64 t.a, .int .i64 t.b, .int .i64 t.c, .int .i64 t.d, .string t.name, .slice ad t.data.length cd] rfl rfl ?f1 ?f2 (by decide) ?f3 ?f4 ?f5 _ rfl ?_)
              try (case f1 => exact World.news_of_block (cs := #[.int .i64 t.kind, .int .i64 t.a, .int .i64 t.b, .int .i64 t.c, .int .i64 t.d, .string t.name, .slice ad t.data.length cd]) (t := 100) (fr := (0, 0)) (heap_new' _ _ _ (by simp)))
              case f2 => first | (intro u hu; simp at hu; rcases hu with rfl | rfl | rfl | rfl | rfl | rfl | rfl <;> rfl) | exact ⟨rfl, rfl, rfl, rfl, rfl, rfl, rfl⟩
              case f3 => unfold maxLen; omega
              case f4 => omega
              case f5 => first | omega | (simp; omega)
              intro g2 cm2 w4 hown4 hgrow4 _ _
              have HBw4 : Hid (Below w.heap.size w w4) := (HBw3.out.alloc HBw3.out.size _).grown hgrow4 (by simp; omega) (fun k hk => (HM3.out.2.lt k hk).1)
              obtain ⟨M', hM1⟩ : ∃ M', M' = M ++ [(t, .slice ad t.data.length cd)] := ⟨_, rfl⟩
              have hM1l : M'.length = M.length + 1 := by rw [hM1]; simp
              have HMw4 : Hid (OV w4 B (.slice (some ⟨g2, 0, none⟩) M'.length cm2) M' ∧ w4.ownsRow w.heap.size 100 7 (.slice (some ⟨g2, 0, none⟩) M'.length cm2) M'.length (cellsOp M')) := by
                have h1 : w4.ownsRow w.heap.size 100 7 (.slice (some ⟨g2, 0, none⟩) M'.length cm2) M'.length (cellsOp M') := by rw [hM1l, hM1, cellsOp_append]; exact hown4
                refine ⟨?_, h1⟩
                rw [hM1l, hM1]
                exact OV.more (HM3.out.1.below (bnewK _ _)) (N := [(t, .slice ad t.data.length cd)]) rfl (fun y hy => by simp at hy; subst hy; exact own_below HDx.out (bnewK _ _)) (own_base hown4 hB) hgrow4
              have HQw4 : Hid (w4.ownsRow w.heap.size 2 1 (.slice (some ⟨g1, 0, none⟩) Q'.length cp1) Q'.length (cellsI Q')) := by
                have hq := own_below HQ3.out (bnewK wc (.cells #[.int .i64 t.kind, .int .i64 t.a, .int .i64 t.b, .int .i64 t.c, .int .i64 t.d, .string t.name, .slice ad t.data.length cd] 100))
                rw [HQl.out]
                exact own_apart hq hgrow4 (fun g hg => typ_ne hq (own_below HM3.out.2 (bnewK wc (.cells #[.int .i64 t.kind, .int .i64 t.a, .int .i64 t.b, .int .i64 t.c, .int .i64 t.d, .string t.name, .slice ad t.data.length cd] 100))) (by decide) g hg)
              have HMe : Hid (M' = M ++ [(t, .slice ad t.data.length cd)]) := hM1
              have HMl : Hid (M'.length = M.length + 1) := hM1l
              clear hown4 hgrow4 hM1 hM1l
              have HU4 : Hid ((runF tb l (n + 1)).1 = M'.map Prod.fst ∧ (runF tb l (n + 1)).2 = Q') := by
                rw [HSt.out]
                refine ⟨?_, ?_⟩
                · show (runF tb l n).1 ++ [t] = _
                  rw [HMe.out, List.map_append, HU.out.1]; rfl
                · show (runF tb l n).2 ++ List.replicate 1 ((runF tb l n).1.length : Int) = _
                  rw [HU.out.2, HU.out.1, HQe.out]; simp
              clear HMe e0 e1 e2 e3 e4 e5 e6 HDx
              go_wp2
              exact ⟨⟨j + 1, n + 1, M', Q', some ⟨g2, 0, none⟩, some ⟨g1, 0, none⟩, cm2, cp1, by omega, by rw [HMl.out], by rw [HQl.out], by go_num, HMw4.out, HQw4.out, ⟨HU4.out.1, HU4.out.2, HQs.out⟩, HBw4.out⟩, by simp [RowKit.intOf]; omega⟩
      · have HSt : Hid (runF tb l (n + 1) = putF (runF tb l n) 1 [t]) := runF_plain (by rw [HU.out.2]; exact HQj.out) HLj.out (fun b hb => by
          have : j + 1 < l.length := by
            rcases Nat.lt_or_ge (j + 1) l.length with q | q
            · exact q
            · rw [List.getElem?_eq_none_iff.2 q] at hb; cases hb
          rw [HLl.out] at this; exact absurd this hlt2)
        have hlz : ¬ ((j : Int) + 1 < (P.length : Int)) := by omega
        have HDx : Hid (w2.ownsRow B 196 4 (.slice ad t.data.length cd) t.data.length (cellsD t.data)) := HDt.out w2 HB2.out
        obtain ⟨e0, e1, e2, e3, e4, e5, e6⟩ := HC.out w2 HB2.out
        go_wp2_with (at_builtin; refine wpList_append_lies _ rfl (.tmp 72) (.tmp 80) 83 rfl w.heap.size 100 i1 _ 7 80 Tryz.underlying83 hi1 hy0 hy1 hy2 rfl (by decide) _ M.length (cellsOp M) rfl (own_below HM2.out.2 (bnewK _ _)) ⟨_, 0, none⟩ 1 1 [.int .i64 t.kind, .int .i64 t.a, .int .i64 t.b, .int .i64 t.c, .int .i64 t.d, .string t.name, .slice ad t.data.length cd] rfl rfl ?f1 ?f2 (by decide) ?f3 ?f4 ?f5 _ rfl ?_)
        try (case f1 => exact World.news_of_block (cs := #[.int .i64 t.kind, .int .i64 t.a, .int .i64 t.b, .int .i64 t.c, .int .i64 t.d, .string t.name, .slice ad t.data.length cd]) (t := 100) (fr := (0, 0)) (heap_new' _ _ _ (by simp)))
        case f2 => first | (intro u hu; simp at hu; rcases hu with rfl | rfl | rfl | rfl | rfl | rfl | rfl <;> rfl) | exact ⟨rfl, rfl, rfl, rfl, rfl, rfl, rfl⟩
        case f3 => unfold maxLen; omega
        case f4 => omega
        case f5 => first | omega | (simp; omega)
        intro g2 cm2 w4 hown4 hgrow4 _ _
        have HBw4 : Hid (Below w.heap.size w w4) := (HB2.out.alloc HB2.out.size _).grown hgrow4 (by simp; omega) (fun k hk => (HM2.out.2.lt k hk).1)
        obtain ⟨M', hM1⟩ : ∃ M', M' = M ++ [(t, .slice ad t.data.length cd)] := ⟨_, rfl⟩
        have hM1l : M'.length = M.length + 1 := by rw [hM1]; simp
        have HMw4 : Hid (OV w4 B (.slice (some ⟨g2, 0, none⟩) M'.length cm2) M' ∧ w4.ownsRow w.heap.size 100 7 (.slice (some ⟨g2, 0, none⟩) M'.length cm2) M'.length (cellsOp M')) := by
          have h1 : w4.ownsRow w.heap.size 100 7 (.slice (some ⟨g2, 0, none⟩) M'.length cm2) M'.length (cellsOp M') := by rw [hM1l, hM1, cellsOp_append]; exact hown4
          refine ⟨?_, h1⟩
          rw [hM1l, hM1]
          exact OV.more (HM2.out.1.below (bnewK _ _)) (N := [(t, .slice ad t.data.length cd)]) rfl (fun y hy => by simp at hy; subst hy; exact own_below HDx.out (bnewK _ _)) (own_base hown4 hB) hgrow4
        have HQw4 : Hid (w4.ownsRow w.heap.size 2 1 (.slice (some ⟨g1, 0, none⟩) Q'.length cp1) Q'.length (cellsI Q')) := by
          have hq := own_below HQ2.out (bnewK w2 (.cells #[.int .i64 t.kind, .int .i64 t.a, .int .i64 t.b, .int .i64 t.c, .int .i64 t.d, .string t.name, .slice ad t.data.length cd] 100))
          rw [HQl.out]
          exact own_apart hq hgrow4 (fun g hg => typ_ne hq (own_below HM2.out.2 (bnewK w2 (.cells #[.int .i64 t.kind, .int .i64 t.a, .int .i64 t.b, .int .i64 t.c, .int .i64 t.d, .string t.name, .slice ad t.data.length cd] 100))) (by decide) g hg)
        have HMe : Hid (M' = M ++ [(t, .slice ad t.data.length cd)]) := hM1
        have HMl : Hid (M'.length = M.length + 1) := hM1l
        clear hown4 hgrow4 hM1 hM1l
        have HU4 : Hid ((runF tb l (n + 1)).1 = M'.map Prod.fst ∧ (runF tb l (n + 1)).2 = Q') := by
          rw [HSt.out]
          refine ⟨?_, ?_⟩
          · show (runF tb l n).1 ++ [t] = _
            rw [HMe.out, List.map_append, HU.out.1]; rfl
          · show (runF tb l n).2 ++ List.replicate 1 ((runF tb l n).1.length : Int) = _
            rw [HU.out.2, HU.out.1, HQe.out]; simp
        clear HMe e0 e1 e2 e3 e4 e5 e6 HDx
        go_wp2
        exact ⟨⟨j + 1, n + 1, M', Q', some ⟨g2, 0, none⟩, some ⟨g1, 0, none⟩, cm2, cp1, by omega, by rw [HMl.out], by rw [HQl.out], by go_num, HMw4.out, HQw4.out, ⟨HU4.out.1, HU4.out.2, HQs.out⟩, HBw4.out⟩, by simp [RowKit.intOf]; omega⟩
    · have hje : j = P.length := by omega
      have HTg : Hid (∀ x ∈ M, hasT x.1 = true → 0 ≤ tgtO x.1 ∧ tgtO x.1 < (Q.length : Int)) := fun x hx hh => by
        have h1 := hib.ops x.1 (by rw [HU.out.1]; exact List.mem_map.2 ⟨x, hx, rfl⟩)
        have := h1.2.1 hh
        rw [HLl.out] at this
        have := HQj.out
        omega
      have HTu : Hid (Calls Tryz.prog 96 #[.slice am M.length cm, .slice ap Q.length cp] wr fun e w' => e = .returned (.slice am M.length cm) ∧ OV w' B (.slice am M.length cm) (turnP Q M) ∧ wr.grownBy w' (Value.slice am M.length cm).ownBlock) := l11Turn_any M Q B w.heap.size cm cp am ap wr (by omega) (by omega) HM.out.1 HQ.out HTg.out
      have HR : Hid ((turnP Q M).map Prod.fst = fuseO tb (P.map Prod.fst)) := by
        show _ = _
        rw [turnP_fst, HE.out]
        show _ = ((runF tb l l.length).1).map (turnO (runF tb l l.length).2)
        rw [← runF_end n (by rw [HU.out.2, HQj.out, HLl.out]; omega), HU.out.1, HU.out.2]
      clear hib HTg hje
      go_wp2_with fail
      refine HTu.out.mono ?_
      rintro e w3 ⟨rfl, h3, hg3⟩
      have HB3 : Hid (Below w.heap.size w w3) := HW.out.grown hg3 (by omega) (fun k hk => (HM.out.2.lt k hk).1)
      have HO3 : Hid (OV w3 B (.slice am M.length cm) (turnP Q M)) := h3
      clear h3 hg3
      go_wp2
      go_ret
      exact ⟨_, _, rfl, HO3.out, HR.out, HB3.out⟩
set_option maxRecDepth 100000 in
set_option maxHeartbeats 1500000 in
theorem l11FuseAll_any (tb : Int) (ht1 : 0 ≤ tb) (ht2 : tb ≤ 15) (g cap B : Nat) (l : List Blk) (w : World) (h60 : l.length ≤ 60) (hfine : ∀ (k : Nat) (h : k < l.length), FineB l[k]) (hz : ∀ (k : Nat) (h : k < l.length), l[k].small) (hB : RowBl w B g l) :
    Calls Tryz.prog 49 #[.slice (some ⟨g, 0, none⟩) l.length cap, .int .i64 tb] w fun e w' => ∃ v R, e = .returned v ∧ BV w' w.heap.size v R ∧ R.map RB.blk = l.map (fuseB tb) ∧ Below w.heap.size w w' := by
  have HFn : Hid (∀ (k : Nat) (h : k < l.length), FineB l[k]) := hfine
  have HCp : Hid (Calls Tryz.prog 60 #[.slice (some ⟨g, 0, none⟩) l.length cap] w fun e w' => ∃ v R, e = .returned v ∧ BV w' w.heap.size v R ∧ R.map RB.blk = l ∧ Below w.heap.size w w') := l9Copy_any g cap B l w h60 (fun k hk => (hfine k hk).len) hz hB
  clear hfine hz hB
  go_enter Tryz.func49, Tryz.ntmps49
  go_wp2_with fail
  refine HCp.out.mono ?_
  rintro e w2 ⟨v, R0, rfl, hv, hR0, b2⟩
  have HB2 : Hid (Below w.heap.size w w2) := b2
  have HV : Hid (BV w2 w.heap.size v R0) := hv
  have HR0 : Hid (R0.map RB.blk = l) := hR0
  have HL0 : Hid (R0.length = l.length) := by show _ = _; rw [← hR0]; simp
  obtain ⟨av, cv, rfl⟩ := own_form hv.row
  have hv2 : Value.slice av R0.length cv = .slice av l.length cv := by rw [HL0.out]
  rw [hv2] at HV ⊢
  clear hv hR0 b2 HCp hv2
  go_wp2_with fail
  go_loopw [6] (fun u wr => ∃ (i : Nat) (R : List RB), i ≤ l.length ∧ u = .int .i64 (i : Int) ∧ Hid (BV wr w.heap.size (.slice av l.length cv) R) ∧ Hid (R.map RB.blk = (l.take i).map (fuseB tb) ++ l.drop i) ∧ Hid (Below w.heap.size w wr)) (fun u _ => l.length - (RowKit.intOf u).toNat)
  case atStart => exact ⟨0, R0, Nat.zero_le _, rfl, HV.out, by show _ = _; simp [HR0.out], HB2.out⟩
  case round =>
    obtain ⟨i, R, hi, rfl, HVr, HM, HBr⟩ := hrel
    have HRl : Hid (R.length = l.length) := by
      show _ = _
      have := congrArg List.length HM.out
      simp at this; omega
    by_cases hlt : i < l.length
    · have hiR : i < R.length := by have := HRl.out; omega
      have hVr' : BV wr w.heap.size (.slice av R.length cv) R := by rw [HRl.out]; exact HVr.out
      obtain ⟨gv, c', hform, _, _⟩ := hVr'.row.form (by omega)
      obtain ⟨rfl, rfl⟩ : av = some ⟨gv, 0, none⟩ ∧ cv = c' := by simp at hform; exact hform
      obtain ⟨c0, ao, cj, c1, hve⟩ := hVr'.at i hiR
      have hop := hVr'.ops i hiR
      have hRi : R[i].blk = l[i] := by
        have e1 : (R.map RB.blk)[i]'(by simpa using hiR) = R[i].blk := by simp
        rw [← e1]
        simp only [HM.out]
        exact midB_at (fuseB tb) l i hlt _
      have hfb := HFn.out i hlt
      rw [← hRi] at hfb
      rw [hve] at hop
      obtain ⟨P, hP⟩ : ∃ P, P = R[i].P := ⟨_, rfl⟩
      have hPl : P.length ≤ 200 := by have := hfb.len; rw [hP]; simpa [RB.blk] using this
      have hfP : ∀ x ∈ P, fine1 P.length x.1 := fun x hx => by
        have := hfb.ops x.1 (by show x.1 ∈ R[i].P.map Prod.fst; rw [← hP]; exact List.mem_map.2 ⟨x, hx, rfl⟩)
        have e : R[i].blk.ops.length = P.length := by rw [hP]; simp [RB.blk]
        rw [e] at this; exact this
      have HPo : Hid (P.map Prod.fst = l[i].ops) := by show _ = _; rw [hP, ← hRi]; rfl
      have HAr : Hid (R[i].args = l[i].args) := by show _ = _; rw [← hRi]; rfl
      rw [← hP] at c1 hop
      have HUn : Hid (Calls Tryz.prog 81 #[.pointer (some ⟨gv, i * 2, none⟩), .int .i64 tb] wr fun e w' => AnsFz tb P w.heap.size wr e w') := l11Fuse_any tb ht1 ht2 P gv (i * 2) w.heap.size cj ao wr hPl hfP c1 hop HBr.out.size
      have HVR : Hid (BV wr w.heap.size (.slice (some ⟨gv, 0, none⟩) R.length cv) R) := hVr'
      have hgw : w.heap.size ≤ gv := (hVr'.row.lt gv rfl).1
      clear hfP hop hfb hve hP hform hRi c0 c1 hVr' hPl
      go_wp2_with fail
      refine HUn.out.mono ?_
      rintro e w3 ⟨v3, P3, rfl, h3, hP3, b3⟩
      obtain ⟨a3, c3, rfl⟩ := own_form h3.row
      have HB3 : Hid (Below w.heap.size w w3) := HBr.out.trans (b3.mono HBr.out.size)
      have HV3 : Hid (BV w3 w.heap.size (.slice (some ⟨gv, 0, none⟩) R.length cv) R) := HVR.out.below b3
      have HO3 : Hid (OV w3 w.heap.size (.slice a3 P3.length c3) P3) := h3
      have HP3 : Hid (P3.map Prod.fst = fuseO tb l[i].ops) := by show _ = _; rw [hP3, HPo.out]
      clear h3 hP3 b3
      have hb4 := HV3.out.putOps hiR HO3.out
      obtain ⟨R', hR'⟩ : ∃ R', R' = R.set i ⟨R[i].args, .slice a3 P3.length c3, P3⟩ := ⟨_, rfl⟩
      have HV4 : Hid (BV (w3.setCell ⟨gv, i * 2 + 1, none⟩ (.slice a3 P3.length c3)) w.heap.size (.slice (some ⟨gv, 0, none⟩) l.length cv) R') := by rw [hR', ← HRl.out]; exact hb4
      have HM4 : Hid (R'.map RB.blk = (l.take (i + 1)).map (fuseB tb) ++ l.drop (i + 1)) := by
        show _ = _
        rw [hR', List.map_set, HM.out, ← take_set_drop (fuseB tb) l i hlt]
        congr 1
        show (⟨R[i].args, P3.map Prod.fst⟩ : Blk) = fuseB tb l[i]
        rw [HP3.out, HAr.out]; rfl
      have HB4 : Hid (Below w.heap.size w (w3.setCell ⟨gv, i * 2 + 1, none⟩ (.slice a3 P3.length c3))) := HB3.out.setCell hgw _
      obtain ⟨-, am0, cm0, k1, -⟩ := HV3.out.at i hiR
      have kf : ∀ j, w3.frozen? ⟨gv, j, none⟩ = false := fun j => own_frozen HV3.out.row j
      clear hb4 hR' HVR HUn HPo HAr HM
      go_wp2
      exact ⟨⟨i + 1, R', by omega, by go_num, HV4.out, HM4.out, HB4.out⟩, by simp [RowKit.intOf]; omega⟩
    · have hie : i = l.length := by omega
      have HR : Hid (R.map RB.blk = l.map (fuseB tb)) := by
        show _ = _
        rw [HM.out, hie, List.take_length, List.drop_length, List.append_nil]
      clear hie HM
      go_wp2
      go_ret
      exact ⟨_, R, rfl, HVr.out, HR.out, HBr.out⟩
theorem l1InF_any (x a b : Int) (w : World) : Calls Tryz.prog 80 #[.int .i64 x, .int .i64 a, .int .i64 b] w fun e w' => e = .returned (.bool (decide (a ≤ x) && decide (x ≤ b))) ∧ w' = w := by
  by_cases h1 : a ≤ x <;> by_cases h2 : x ≤ b <;> (go_enter Tryz.func80, Tryz.ntmps80; go_wp2; go_ret; exact ⟨by simp [h1, h2], rfl⟩)
theorem l11TableF_any (x : Int) (w : World) : Calls Tryz.prog 48 #[.int .i64 x] w fun e w' => e = .returned (.bool (decide (0 ≤ x) && decide (x ≤ 15))) ∧ w' = w := by
  go_enter Tryz.func48, Tryz.ntmps48
  go_wp2_with (go_at_call 80; refine (l1InF_any _ _ _ _).mono ?_; rintro e w' ⟨rfl, hw'⟩; replace hw' := hw'.symm; subst hw')
  go_ret
  exact ⟨rfl, rfl⟩
theorem tabF_zero {tb : Int} (h : tabF tb = 0) : 0 ≤ tb ∧ tb ≤ 15 := by
  unfold tabF at h
  split at h
  · assumption
  · cases h
theorem tabF_three {tb : Int} (h : ¬ tabF tb = 0) : tabF tb = 3 ∧ (decide (0 ≤ tb) && decide (tb ≤ 15)) = false := by
  unfold tabF at h ⊢
  split
  · rename_i h1; rw [if_pos h1] at h; exact absurd rfl h
  · rename_i h1
    refine ⟨rfl, ?_⟩
    cases e : (decide (0 ≤ tb) && decide (tb ≤ 15)) with
    | false => rfl
    | true => simp at e; exact absurd e h1
set_option maxRecDepth 100000 in
set_option maxHeartbeats 1500000 in
theorem specFc_any (g cap B : Nat) (l : List Blk) (ok : Bool) (tb : Int) (w : World) (hl : l.length ≤ 1048576) (hz : ∀ (k : Nat) (h : k < l.length), l[k].small) (hB : RowBl w B g l) (hok : OkR l ok) :
    Calls Tryz.prog 17 #[.slice (some ⟨g, 0, none⟩) l.length cap, .int .i64 tb] w fun e w' => AnsC (codeFu ok tb l) (blksFu ok tb l) w e w' := by
  obtain ⟨W, hW⟩ : ∃ W, W = w.alloc (.cells #[.int .i64 0, .slice none 0 0] 39) := ⟨_, rfl⟩
  have HW : Hid (W = w.alloc (.cells #[.int .i64 0, .slice none 0 0] 39)) := hW
  have hb0 : Below w.heap.size w W := by rw [hW]; exact bnewK _ _
  have r0 : W.cell? ⟨w.heap.size, 0, none⟩ = some (.int .i64 0) := by rw [hW]; simp [go_sem]
  have r1 : W.cell? ⟨w.heap.size, 1, none⟩ = some (.slice none 0 0) := by rw [hW]; simp [go_sem]
  have rf : ∀ j, W.frozen? ⟨w.heap.size, j, none⟩ = false := fun j => by rw [hW]; simp [go_sem]
  have rl : w.heap.size < W.heap.size := by rw [hW]; simp
  have HQ : Hid (∀ u, Below W.heap.size W u → u.cell? ⟨w.heap.size, 0, none⟩ = some (.int .i64 0) ∧ u.cell? ⟨w.heap.size, 1, none⟩ = some (.slice none 0 0) ∧ (∀ j, u.frozen? ⟨w.heap.size, j, none⟩ = false) ∧ w.heap.size < u.heap.size) := fun u hu => ⟨cell_keep hu r0, cell_keep hu r1, fun j => by rw [(bcell hu).2 _ _ rl]; exact rf j, Nat.lt_of_lt_of_le rl hu.size⟩
  have HB0 : Hid (Below w.heap.size w W) := hb0
  have HB : Hid (RowBl W B g l) := hB.below hb0
  have HF : Hid (Calls Tryz.prog 47 #[.slice (some ⟨g, 0, none⟩) l.length cap] W fun e w' => AnsF ok l W e w') := l10Fault_any g cap B l ok W hl hz (hB.below hb0) hok
  have HFi : Hid (codeF ok l = 0 → l.length ≤ 60 ∧ ∀ (k : Nat) (h : k < l.length), FineB l[k]) := fun h0 => fineB_of h0 hok hz
  have HZ : Hid (∀ (k : Nat) (h : k < l.length), l[k].small) := hz
  have HTb : Hid (∀ u, Calls Tryz.prog 48 #[.int .i64 tb] u fun e w' => e = .returned (.bool (decide (0 ≤ tb) && decide (tb ≤ 15))) ∧ w' = u) := fun u => l11TableF_any tb u
  obtain ⟨C, hC⟩ : ∃ C, C = codeFu ok tb l := ⟨_, rfl⟩
  obtain ⟨V, hV⟩ : ∃ V, V = blksFu ok tb l := ⟨_, rfl⟩
  rw [← hC, ← hV]
  have HC : Hid (C = codeFu ok tb l ∧ V = blksFu ok tb l) := ⟨hC, hV⟩
  clear hC hV hB hz hok hW r0 r1 rf rl hb0
  go_enter Tryz.func17, Tryz.ntmps17
  go_wp2_with fail
  rw [← HW.out]
  refine HF.out.mono ?_
  rintro e w1 ⟨hcase, b1⟩
  have HB1 : Hid (Below W.heap.size W w1) := b1
  have HBw : Hid (∀ u, Below W.heap.size W u → Below w.heap.size w u) := fun u hu => HB0.out.trans (hu.mono HB0.out.size)
  clear b1 HF HW
  rcases hcase with ⟨hn, rfl⟩ | ⟨h0, A, gA, cA, -, rfl, -⟩
  · obtain ⟨D, hD⟩ : ∃ D, D = codeF ok l := ⟨_, rfl⟩
    have HE : Hid (C = D ∧ V = []) := ⟨by rw [HC.out.1]; unfold codeFu; rw [if_pos hn, hD], by rw [HC.out.2]; unfold blksFu; rw [if_pos hn]⟩
    rw [← hD] at hn ⊢
    have hcn : (D != 0) = true := by rw [bne_iff_ne]; exact hn
    obtain ⟨q0, q1, qf, ql⟩ := HQ.out w1 HB1.out
    have HBx : Hid (Below w.heap.size w w1) := HBw.out _ HB1.out
    clear hn HQ hD
    go_wp2
    refine bodyPost_ret (v := .agg #[.int .i64 D, .slice none 0 0]) (by simp [results, Tryz.results17, go_sem, q0, q1]) rfl ⟨.slice none 0 0, by rw [HE.out.1], by rw [HE.out.2]; exact seeNil _, ?_⟩
    repeat (first | refine Below.setCell ?_ (by simp) _ | exact HBx.out)
  · obtain ⟨h60, hfine⟩ := HFi.out h0
    have HC2 : Hid (C = tabF tb ∧ V = if tabF tb ≠ 0 then [] else l.map (fuseB tb)) := ⟨by rw [HC.out.1]; unfold codeFu; rw [if_neg (by simp [h0])], by rw [HC.out.2]; unfold blksFu; rw [if_neg (by simp [h0])]⟩
    by_cases ht : tabF tb = 0
    · obtain ⟨ht1, ht2⟩ := tabF_zero ht
      have e1 : (decide (0 ≤ tb) && decide (tb ≤ 15)) = true := by simp [ht1, ht2]
      have HE : Hid (C = 0 ∧ V = l.map (fuseB tb)) := by
        have := HC2.out
        rw [ht] at this
        exact ⟨this.1, by rw [this.2]; simp⟩
      have HFa : Hid (Calls Tryz.prog 49 #[.slice (some ⟨g, 0, none⟩) l.length cap, .int .i64 tb] w1 fun e w' => ∃ v R, e = .returned v ∧ BV w' w1.heap.size v R ∧ R.map RB.blk = l.map (fuseB tb) ∧ Below w1.heap.size w1 w') := l11FuseAll_any tb ht1 ht2 g cap B l w1 h60 hfine HZ.out (HB.out.below HB1.out)
      rw [e1] at HTb
      have HLl : Hid (∀ R : List RB, R.map RB.blk = l.map (fuseB tb) → R.length = l.length) := fun R h => by have := congrArg List.length h; simpa using this
      obtain ⟨M, hM⟩ : ∃ M, M = l.map (fuseB tb) := ⟨_, rfl⟩
      rw [← hM] at HFa HE HLl
      clear hfine h0 HC HC2 HFi e1 ht1 ht2 ht hM
      go_wp2_with fail
      refine (HTb.out _).mono ?_
      rintro e w' ⟨rfl, e2⟩
      replace e2 := e2.symm
      subst e2
      go_wp2_with fail
      refine HFa.out.mono ?_
      rintro e w2 ⟨v, R, rfl, hv, hR, b2⟩
      obtain ⟨av, cv, rfl⟩ := own_form hv.row
      have HV2 : Hid (BV w2 w1.heap.size (.slice av R.length cv) R) := hv
      have HR2 : Hid (R.map RB.blk = M) := hR
      have HBW2 : Hid (Below W.heap.size W w2) := HB1.out.trans (b2.mono HB1.out.size)
      obtain ⟨q0, q1, qf, ql⟩ := HQ.out w2 HBW2.out
      have HBx : Hid (Below w.heap.size w w2) := HBw.out _ HBW2.out
      have hne : ∀ b, footR (.slice av R.length cv) R b → b ≠ w.heap.size := fun b hb e => by have h1 := (HV2.out.foot hb).1; have h2 := HB1.out.size; have h3 := (HQ.out W (Below.refl _ _)).2.2.2; omega
      have HSet : Hid (∀ (u : World), BV u w1.heap.size (.slice av R.length cv) R → ∀ j x, BV (u.setCell ⟨w.heap.size, j, none⟩ x) w1.heap.size (.slice av R.length cv) R) := fun u h j x => ⟨own_set' h.row (fun b hb => hne b (.inl hb)) x, fun k hk => ⟨own_set' (h.ops k hk).row (fun b hb => hne b (.inr ⟨k, hk, .inl hb⟩)) x, fun m hm => own_set' ((h.ops k hk).data m hm) (fun b hb => hne b (.inr ⟨k, hk, .inr ⟨m, hm, hb⟩⟩)) x⟩⟩
      clear hne hv hR b2 HFa
      obtain ⟨n, hn⟩ : ∃ n, n = R.length := ⟨_, rfl⟩
      have HSee : Hid (∀ u, BV u w1.heap.size (.slice av R.length cv) R → SeeB u (.slice av n cv) M) := fun u hu => by have := hu.see; rw [HR2.out, ← hn] at this; exact this
      rw [← hn]
      clear hn
      go_wp2
      refine bodyPost_ret (v := .agg #[.int .i64 0, .slice av n cv]) (by simp [results, Tryz.results17, go_sem, q0, q1]) rfl ⟨.slice av n cv, by rw [HE.out.1], by rw [HE.out.2]; exact HSee.out _ (HSet.out _ (HSet.out _ HV2.out _ _) _ _), ?_⟩
      repeat (first | refine Below.setCell ?_ (by simp) _ | exact HBx.out)
    · obtain ⟨t3, e1⟩ := tabF_three ht
      have HE : Hid (C = 3 ∧ V = []) := ⟨by rw [HC2.out.1, t3], by rw [HC2.out.2, if_pos ht]⟩
      rw [e1] at HTb
      obtain ⟨q0, q1, qf, ql⟩ := HQ.out w1 HB1.out
      have HBx : Hid (Below w.heap.size w w1) := HBw.out _ HB1.out
      clear hfine h0 HC HC2 HFi e1 ht t3 HQ
      go_wp2_with (go_at_call 48; refine (HTb.out _).mono ?_; rintro e w' ⟨rfl, e2⟩; replace e2 := e2.symm; subst e2)
      refine bodyPost_ret (v := .agg #[.int .i64 3, .slice none 0 0]) (by simp [results, Tryz.results17, go_sem, q0, q1]) rfl ⟨.slice none 0 0, by rw [HE.out.1], by rw [HE.out.2]; exact seeNil _, ?_⟩
      repeat (first | refine Below.setCell ?_ (by simp) _ | exact HBx.out)
end Go.Proofs.YtoafolefecddmaaGreatDoor
