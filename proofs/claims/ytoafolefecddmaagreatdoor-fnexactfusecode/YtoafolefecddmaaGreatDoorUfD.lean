/-
  Parts of the proof laid into one text, one behind the other: BvKit, SpecSp, SpecTu, SpecUn, SpecCp, SpecUc. Contracts of the program's and the model's functions, and what they are proved of, as their theorems say.
-/
import Derived.Test.YtoafolefecddmaaGreatDoorMkB
import Derived.Deep.Upon
import Derived.Test.YtoafolefecddmaaGreatDoorUfA
import Derived.Test.YtoafolefecddmaaGreatDoorUfC
import Derived.Test.YtoafolefecddmaaGreatDoorHjD
namespace Go.Proofs.YtoafolefecddmaaGreatDoor
open Go.RowKit Go.Extern.Stop Go.Stop Go.Extern Num Go.Lib
theorem emptyBk (w : World) : (w.alloc (.cells #[] 85)).ownsRow w.heap.size 85 2 (.slice (some ⟨w.heap.size, 0, none⟩) 0 0) 0 (cellsR []) :=
  ⟨rfl, .inr ⟨w.heap.size, 0, #[], rfl, Nat.le_refl _, heap_alloc_new _ _, Nat.le_refl _, by simp, by simp, by simp [cellsR]⟩⟩
theorem emptyOk (w : World) : (w.alloc (.cells #[] 100)).ownsRow w.heap.size 100 7 (.slice (some ⟨w.heap.size, 0, none⟩) 0 0) 0 (cellsOp []) :=
  ⟨rfl, .inr ⟨w.heap.size, 0, #[], rfl, Nat.le_refl _, heap_alloc_new _ _, Nat.le_refl _, by simp, by simp, by simp [cellsOp]⟩⟩
theorem emptyDk (w : World) : (w.alloc (.cells #[] 196)).ownsRow w.heap.size 196 4 (.slice (some ⟨w.heap.size, 0, none⟩) 0 0) 0 (cellsD []) :=
  ⟨rfl, .inr ⟨w.heap.size, 0, #[], rfl, Nat.le_refl _, heap_alloc_new _ _, Nat.le_refl _, by simp, by simp, by simp [cellsD]⟩⟩
theorem emptyIk (w : World) : (w.alloc (.cells #[] 2)).ownsRow w.heap.size 2 1 (.slice (some ⟨w.heap.size, 0, none⟩) 0 0) 0 (cellsI []) :=
  ⟨rfl, .inr ⟨w.heap.size, 0, #[], rfl, Nat.le_refl _, heap_alloc_new _ _, Nat.le_refl _, by simp, by simp, by simp [cellsI]⟩⟩
theorem emptyD' (w : World) (n : Nat) (h : w.heap.size = n) : (w.alloc (.cells #[] 196)).ownsRow n 196 4 (.slice (some ⟨n, 0, none⟩) 0 0) 0 (cellsD []) := by subst h; exact emptyDk w
theorem bnewK (u : World) (o : Obj) : Below u.heap.size u (u.alloc o) := (Below.refl _ _).alloc (Nat.le_refl _) _
theorem OV.aside {w w' : World} {B B' size n : Nat} {T : TypeId} {v v' : Value} {xs : List Value} {P : List (Opr × Value)} (h : OV w B v P) (ho : w.ownsRow B' T size v' n xs) (hg : w.grownBy w' v'.ownBlock) (h1 : 100 ≠ T) (h2 : 196 ≠ T) : OV w' B v P :=
  ⟨own_apart h.row hg (fun g hg' => typ_ne h.row ho h1 g hg'), fun i hi => own_apart (h.data i hi) hg (fun g hg' => typ_ne (h.data i hi) ho h2 g hg')⟩
theorem OV.setLow {w : World} {B b j : Nat} {v x : Value} {P : List (Opr × Value)} (h : OV w B v P) (hb : b < B) : OV (w.setCell ⟨b, j, none⟩ x) B v P := ⟨own_set_low h.row hb x, fun i hi => own_set_low (h.data i hi) hb x⟩
theorem OV.snoc {w w' : World} {B n cap' g' : Nat} {am : Option Addr} {cm : Nat} {t : Opr} {x : Value} {P : List (Opr × Value)} (h : OV w B (.slice am n cm) P) (hn : n = P.length) (hd : w.ownsRow B 196 4 x t.data.length (cellsD t.data)) (ho : w'.ownsRow B 100 7 (.slice (some ⟨g', 0, none⟩) (n + 1) cap') (n + 1) (cellsOp P ++ t.cells x)) (hg : w.grownBy w' (Value.slice am n cm).ownBlock) : OV w' B (.slice (some ⟨g', 0, none⟩) (n + 1) cap') (P ++ [(t, x)]) := by
  subst hn
  refine ⟨?_, fun i hi => ?_⟩
  · have e : cellsOp (P ++ [(t, x)]) = cellsOp P ++ t.cells x := by rw [cellsOp_append]; simp [cellsOp]
    rw [e, List.length_append]; exact ho
  · rw [List.length_append] at hi
    by_cases q : i < P.length
    · rw [List.getElem_append_left q]
      exact own_apart (h.data i q) hg (fun g hg' => typ_ne (h.data i q) h.row (by decide) g hg')
    · have e : i = P.length := by simp at hi; omega
      subst e
      simp only [List.getElem_append_right (Nat.le_refl _), Nat.sub_self, List.getElem_cons_zero]
      exact own_apart hd hg (fun g hg' => typ_ne hd h.row (by decide) g hg')
theorem BV.snoc {w w' : World} {B n cap' g' : Nat} {am : Option Addr} {cm : Nat} {args : Int} {v : Value} {P : List (Opr × Value)} {R : List RB} (h : BV w B (.slice am n cm) R) (hn : n = R.length) (hv : OV w B v P) (ho : w'.ownsRow B 85 2 (.slice (some ⟨g', 0, none⟩) (n + 1) cap') (n + 1) (cellsR R ++ [.int .i64 args, v])) (hg : w.grownBy w' (Value.slice am n cm).ownBlock) : BV w' B (.slice (some ⟨g', 0, none⟩) (n + 1) cap') (R ++ [⟨args, v, P⟩]) := by
  subst hn
  refine ⟨?_, fun i hi => ?_⟩
  · have e : cellsR (R ++ [⟨args, v, P⟩]) = cellsR R ++ [.int .i64 args, v] := by rw [cellsR_append]; rfl
    rw [e, List.length_append]; exact ho
  · rw [List.length_append] at hi
    by_cases q : i < R.length
    · rw [List.getElem_append_left q]
      exact (h.ops i q).aside h.row hg (by decide) (by decide)
    · have e : i = R.length := by simp at hi; omega
      subst e
      simp only [List.getElem_append_right (Nat.le_refl _), Nat.sub_self, List.getElem_cons_zero]
      exact hv.aside h.row hg (by decide) (by decide)
set_option maxHeartbeats 1000000 in
theorem wpList_copyD {ops : Array Oper} {rest : List Oper} {o : Oper} {a : Act} {Q : Exit → Act → World → Prop} {w : World} (hgd : o.guard = none) (s x : Operand) (ho : o.op = .call { callee := .builtin .append, args := #[s, x], argTypes := #[98, 98] }) (base g0 : Nat) (hs : a.eval s = .slice (some ⟨g0, 0, none⟩) 0 0) (hown : w.ownsRow base 196 4 (.slice (some ⟨g0, 0, none⟩) 0 0) 0 (cellsD []))
    (T : List Dat) (ad : Option Addr) (cd N : Nat) (hx : a.eval x = .slice ad T.length cd) (ht : w.ownsRow N 196 4 (.slice ad T.length cd) T.length (cellsD T)) (hT : T.length ≤ 1048576) (hb : base ≤ w.heap.size)
    (h : ∀ av cv w', w'.ownsRow base 196 4 (.slice av T.length cv) T.length (cellsD T) → w.grownBy w' (some g0) → wpList Tryz.prog ops Q rest (a.put o.dst (.slice av T.length cv)) w') : wpList Tryz.prog ops Q (o :: rest) a w := by
  obtain ⟨i0, hi, hy0, hy1, hy2⟩ := info_parts infoD
  by_cases h0 : T = []
  · subst h0
    refine wpList_plain hgd fun K hK => ?_
    have hsrc : Src Tryz.prog i0.size 98 (.slice ad ([] : List Dat).length cd) 0 [] w := by
      cases ad with
      | none => exact Src.ofNil w Tryz.underlying98 cd
      | some p => exact Src.ofSlice w Tryz.underlying98 p 0 cd [] (by simp) (fun j u hj => by simp at hj) (fun u hu => by cases hu)
    have hr := run_append_nothing (P := Tryz.prog) w 98 98 o.type 196 i0 Tryz.underlying98 hi (some ⟨g0, 0, none⟩) 0 0 (Nat.le_refl _) _ hsrc
    unfold Oper.wp execOp
    simp only [ho, resolve, invoke, builtin, Sem.run_bind, Sem.run_pure, Result.andThen_ok, List.map_toArray, List.map_cons, List.map_nil, hs, hx, hr]
    exact hK _ _ (h _ _ w hown (gb_refl _ _))
  · have hp : 0 < T.length := List.length_pos_iff.2 h0
    obtain ⟨g, c', hv, _, _⟩ := ht.form hp
    obtain ⟨rfl, rfl⟩ : ad = some ⟨g, 0, none⟩ ∧ cd = c' := by simp at hv; exact hv
    refine wpList_append_lies _ hgd s x 98 ho base 196 i0 _ 4 40 Tryz.underlying98 hi hy0 hy1 hy2 rfl (by decide) _ 0 (cellsD []) hs hown ⟨g, 0, none⟩ T.length cd (cellsD T) hx (by simp [cellsD_length]) (ht.cells (g := g) rfl) (cellsD_one T) hp (by unfold maxLen; omega) (by omega) hb _ rfl ?_
    intro g' cap' w' hown' hgrow _ _
    rw [Nat.zero_add] at hown' ⊢
    exact h _ _ w' hown' hgrow
theorem ownNewO (u : World) (n q m : Nat) (cs : List Value) (hq : u.heap.size = q) (hn : n ≤ q) (hm : m ≤ 1000) (hl : cs.length = m * 7) : (u.alloc (.cells cs.toArray 100)).ownsRow n 100 7 (.slice (some ⟨q, 0, none⟩) m m) m cs := by
  subst hq
  exact ⟨hl, .inr ⟨u.heap.size, m, cs.toArray, rfl, hn, heap_alloc_new _ _, Nat.le_refl _, by unfold maxLen; omega, by simp [hl], by rw [← hl]; simp⟩⟩
theorem cellsOp_set1 : ∀ (P : List (Opr × Value)) (k : Nat) (hk : k < P.length) (x : Int), (cellsOp P).set (k * 7 + 1) (.int .i64 x) = cellsOp (P.set k ({ P[k].1 with a := x }, P[k].2))
  | [], k, hk, _ => absurd hk (Nat.not_lt_zero k)
  | p :: r, 0, _, x => rfl
  | p :: r, k + 1, hk, x => by
    have ih := cellsOp_set1 r k (by simpa using hk) x
    have e : ∀ (ys : List Value) (j : Nat) (u : Value), (p.1.cells p.2 ++ ys).set (j + 7) u = p.1.cells p.2 ++ ys.set j u := fun ys j u => by
      rw [List.set_append_right _ _ (by simp [Opr.cells])]; simp [Opr.cells]
    show (p.1.cells p.2 ++ cellsOp r).set ((k + 1) * 7 + 1) _ = _
    rw [show (k + 1) * 7 + 1 = k * 7 + 1 + 7 by omega, e, ih]
    rfl
theorem cellsOp_set3 : ∀ (P : List (Opr × Value)) (k : Nat) (hk : k < P.length) (x : Int), (cellsOp P).set (k * 7 + 3) (.int .i64 x) = cellsOp (P.set k ({ P[k].1 with c := x }, P[k].2))
  | [], k, hk, _ => absurd hk (Nat.not_lt_zero k)
  | p :: r, 0, _, x => rfl
  | p :: r, k + 1, hk, x => by
    have ih := cellsOp_set3 r k (by simpa using hk) x
    have e : ∀ (ys : List Value) (j : Nat) (u : Value), (p.1.cells p.2 ++ ys).set (j + 7) u = p.1.cells p.2 ++ ys.set j u := fun ys j u => by
      rw [List.set_append_right _ _ (by simp [Opr.cells])]; simp [Opr.cells]
    show (p.1.cells p.2 ++ cellsOp r).set ((k + 1) * 7 + 3) _ = _
    rw [show (k + 1) * 7 + 3 = k * 7 + 3 + 7 by omega, e, ih]
    rfl
theorem OV.putAt {w : World} {B g n cap k off : Nat} {P : List (Opr × Value)} {t : Opr} {x : Int} (h : OV w B (.slice (some ⟨g, 0, none⟩) n cap) P) (hn : n = P.length) (hk : k < P.length) (hd : t.data = P[k].1.data) (hc : (cellsOp P).set off (.int .i64 x) = cellsOp (P.set k (t, P[k].2))) : OV (w.setCell ⟨g, off, none⟩ (.int .i64 x)) B (.slice (some ⟨g, 0, none⟩) n cap) (P.set k (t, P[k].2)) := by
  subst hn
  refine ⟨?_, fun i hi => ?_⟩
  · rw [← hc, List.length_set]; exact own_put h.row off _
  · rw [List.length_set] at hi
    have far : ∀ b, P[i].2.ownBlock = some b → b ≠ g := fun b hb e => typ_ne (h.data i hi) h.row (by decide) b hb (by rw [e]; rfl)
    have hs : (w.setCell ⟨g, off, none⟩ (.int .i64 x)).ownsRow B 196 4 P[i].2 P[i].1.data.length (cellsD P[i].1.data) := own_set' (h.data i hi) far _
    by_cases e : k = i
    · subst e
      rw [List.getElem_set_self]
      show (w.setCell ⟨g, off, none⟩ (.int .i64 x)).ownsRow B 196 4 P[k].2 t.data.length (cellsD t.data)
      rw [hd]; exact hs
    · rw [List.getElem_set_ne e]; exact hs
def midT (Q : List Int) (P : List (Opr × Value)) (j : Nat) : List (Opr × Value) := turnP Q (P.take j) ++ P.drop j
theorem midT_len (Q : List Int) (P : List (Opr × Value)) (j : Nat) : (midT Q P j).length = P.length := by
  simp only [midT, List.length_append, turnP_len, List.length_take, List.length_drop]; omega
theorem midT_at (Q : List Int) (P : List (Opr × Value)) (j : Nat) (hj : j < P.length) : (midT Q P j)[j]'(by rw [midT_len]; exact hj) = P[j] := by
  unfold midT
  rw [List.getElem_append_right (by rw [turnP_len, List.length_take]; omega)]
  simp [turnP_len, Nat.min_eq_left (Nat.le_of_lt hj)]
theorem midT_next (Q : List Int) (P : List (Opr × Value)) (j : Nat) (hj : j < P.length) : (midT Q P j).set j (turnO Q P[j].1, P[j].2) = midT Q P (j + 1) := by
  unfold midT
  have hl : (turnP Q (P.take j)).length = j := by rw [turnP_len]; simp; omega
  rw [List.set_append_right _ _ (by omega), hl, Nat.sub_self, List.drop_eq_getElem_cons hj, List.set_cons_zero, List.take_add_one, List.getElem?_eq_getElem hj]
  simp only [turnP, List.map_append, Option.toList, List.map_cons, List.map_nil, List.append_assoc, List.cons_append, List.nil_append]
theorem midT_end (Q : List Int) (P : List (Opr × Value)) : midT Q P P.length = turnP Q P := by simp [midT]
theorem OV.cast {w : World} {B : Nat} {v : Value} {P P' : List (Opr × Value)} (h : OV w B v P) (e : P = P') : OV w B v P' := e ▸ h
set_option maxRecDepth 100000 in
set_option maxHeartbeats 2000000 in
theorem l11Turn_any (P : List (Opr × Value)) (Q : List Int) (B BQ cv cq : Nat) (av ap : Option Addr) (w : World) (hl : P.length ≤ 1000) (hQl : Q.length ≤ 1000) (ho : OV w B (.slice av P.length cv) P) (hq : w.ownsRow BQ 2 1 (.slice ap Q.length cq) Q.length (cellsI Q)) (ht : ∀ x ∈ P, hasT x.1 = true → 0 ≤ tgtO x.1 ∧ tgtO x.1 < (Q.length : Int)) :
    Calls Tryz.prog 96 #[.slice av P.length cv, .slice ap Q.length cq] w fun e w' => e = .returned (.slice av P.length cv) ∧ OV w' B (.slice av P.length cv) (turnP Q P) ∧ w.grownBy w' (Value.slice av P.length cv).ownBlock := by
  have HO : Hid (OV w B (.slice av P.length cv) P) := ho
  have HQ : Hid (∀ u, w.grownBy u (Value.slice av P.length cv).ownBlock → u.ownsRow BQ 2 1 (.slice ap Q.length cq) Q.length (cellsI Q)) := fun u hu => own_apart hq hu (fun g hg => typ_ne hq ho.row (by decide) g hg)
  have HT : Hid (∀ x ∈ P, hasT x.1 = true → 0 ≤ tgtO x.1 ∧ tgtO x.1 < (Q.length : Int)) := ht
  clear ho hq ht
  go_enter Tryz.func96, Tryz.ntmps96
  go_wp2_with fail
  go_loopw [5] (fun i wr => ∃ j : Nat, j ≤ P.length ∧ i = .int .i64 (j : Int) ∧ Hid (OV wr B (.slice av P.length cv) (midT Q P j)) ∧ Hid (w.grownBy wr (Value.slice av P.length cv).ownBlock)) (fun i _ => P.length - (RowKit.intOf i).toNat)
  case atStart => exact ⟨0, Nat.zero_le _, rfl, by show OV _ _ _ _; simpa [midT, turnP] using HO.out, gb_refl _ _⟩
  case round =>
    obtain ⟨j, hj, rfl, HM, HG⟩ := hrel
    by_cases hlt : j < P.length
    · obtain ⟨g, c', hv, _, _⟩ := HO.out.row.form (by omega)
      obtain ⟨rfl, rfl⟩ : av = some ⟨g, 0, none⟩ ∧ cv = c' := by simp at hv; exact hv
      have hml : P.length = (midT Q P j).length := (midT_len Q P j).symm
      have hjm : j < (midT Q P j).length := by omega
      have HM1 : Hid (OV wr B (.slice (some ⟨g, 0, none⟩) (midT Q P j).length cv) (midT Q P j)) := by rw [midT_len]; exact HM.out
      obtain ⟨c0, c1, -, c3, -, -, -⟩ := HM1.out.at j hjm
      have hmj := midT_at Q P j hlt
      have hTt := HT.out P[j] (List.getElem_mem hlt)
      have HNx : Hid (∀ (off : Nat) (x : Int), (cellsOp (midT Q P j)).set off (.int .i64 x) = cellsOp ((midT Q P j).set j (turnO Q P[j].1, P[j].2)) → OV (wr.setCell ⟨g, off, none⟩ (.int .i64 x)) B (.slice (some ⟨g, 0, none⟩) P.length cv) (midT Q P (j + 1))) := fun off x hx => by
        have h2 : (midT Q P j)[j].2 = P[j].2 := by rw [hmj]
        have h1 : (turnO Q P[j].1).data = ((midT Q P j)[j]).1.data := by rw [hmj]; exact (turnO_data Q P[j].1).1
        rw [← h2] at hx
        have := HM.out.putAt hml hjm h1 hx
        rw [h2, midT_next Q P j hlt] at this
        exact this
      have Hc1 := cellsOp_set1 (midT Q P j) j hjm
      have Hc3 := cellsOp_set3 (midT Q P j) j hjm
      have HSame : Hid (turnO Q P[j].1 = P[j].1 → midT Q P j = midT Q P (j + 1)) := fun e => by
        rw [← midT_next Q P j hlt, e]
        show _ = (midT Q P j).set j P[j]
        rw [← hmj]
        exact (List.set_getElem_self hjm).symm
      rw [hmj] at c0 c1 c3 Hc1 Hc3
      obtain ⟨t, htt⟩ : ∃ t, t = P[j].1 := ⟨_, rfl⟩
      obtain ⟨y, hyy⟩ : ∃ y, y = P[j].2 := ⟨_, rfl⟩
      rw [← htt] at c0 c1 c3 hTt Hc1 Hc3
      rw [← htt, ← hyy] at HNx
      rw [← hyy] at Hc1 Hc3
      rw [← htt] at HSame
      have hfz : ∀ k, wr.frozen? ⟨g, k, none⟩ = false := fun k => own_frozen HM1.out.row k
      have HC1 : Hid (∀ (x : Int), (cellsOp (midT Q P j)).set (j * 7 + 1) (.int .i64 x) = cellsOp ((midT Q P j).set j ({ t with a := x }, y))) := Hc1
      have HC3 : Hid (∀ (x : Int), (cellsOp (midT Q P j)).set (j * 7 + 3) (.int .i64 x) = cellsOp ((midT Q P j).set j ({ t with c := x }, y))) := Hc3
      have HOr : Hid (OV wr B (.slice (some ⟨g, 0, none⟩) P.length cv) (midT Q P j)) := HM.out
      have HGs : Hid (∀ off x, w.grownBy (wr.setCell ⟨g, off, none⟩ x) (Value.slice (some ⟨g, 0, none⟩) P.length cv).ownBlock) := fun off x => gb_set HG.out x
      clear Hc1 Hc3 hmj htt hyy hv hml hjm HM1 HM
      have HQr := HQ.out wr HG.out
      by_cases k5 : t.kind = 5 ∨ t.kind = 6
      · have hhT : hasT t = true := hasT_kind.2 (by rcases k5 with e | e <;> simp [e])
        have hte : tgtO t = t.a := by unfold tgtO; rw [if_pos k5]
        have hb := hTt hhT
        rw [hte] at hb
        obtain ⟨q, hqq⟩ : ∃ q : Nat, t.a = (q : Int) := ⟨t.a.toNat, by omega⟩
        have hqQ : q < Q.length := by omega
        obtain ⟨gq, c'', hv, _, _⟩ := HQr.form (by omega)
        obtain ⟨rfl, rfl⟩ : ap = some ⟨gq, 0, none⟩ ∧ cq = c'' := by simp at hv; exact hv
        obtain ⟨x, hx⟩ : ∃ x, x = Q.getD q 0 := ⟨_, rfl⟩
        have hqc : wr.cell? ⟨gq, q, none⟩ = some (.int .i64 x) := by rw [hx]; exact ArI.own rfl HQr q hqQ
        have HE : Hid (turnO Q t = { t with a := x }) := by show _ = _; unfold turnO; rw [if_pos k5, hqq, hx]; rfl
        have HNy : Hid (OV (wr.setCell ⟨g, j * 7 + 1, none⟩ (.int .i64 x)) B (.slice (some ⟨g, 0, none⟩) P.length cv) (midT Q P (j + 1))) := HNx.out (j * 7 + 1) x (by rw [HC1.out, HE.out])
        rw [hqq] at c1
        clear HE HNx hx hqq hte hTt hhT hv HQr hb HSame
        rcases k5 with k | k
        · rw [k] at c0
          clear k
          go_wp2
          exact ⟨⟨j + 1, by omega, by go_num, HNy.out, HGs.out _ _⟩, by simp [RowKit.intOf]; omega⟩
        · rw [k] at c0
          clear k
          go_wp2
          exact ⟨⟨j + 1, by omega, by go_num, HNy.out, HGs.out _ _⟩, by simp [RowKit.intOf]; omega⟩
      · by_cases k6 : t.kind = 16
        · have hhT : hasT t = true := hasT_kind.2 (.inr (.inr k6))
          have hte : tgtO t = t.c := by unfold tgtO; rw [if_neg k5, if_pos k6]
          have hb := hTt hhT
          rw [hte] at hb
          obtain ⟨q, hqq⟩ : ∃ q : Nat, t.c = (q : Int) := ⟨t.c.toNat, by omega⟩
          have hqQ : q < Q.length := by omega
          obtain ⟨gq, c'', hv, _, _⟩ := HQr.form (by omega)
          obtain ⟨rfl, rfl⟩ : ap = some ⟨gq, 0, none⟩ ∧ cq = c'' := by simp at hv; exact hv
          obtain ⟨x, hx⟩ : ∃ x, x = Q.getD q 0 := ⟨_, rfl⟩
          have hqc : wr.cell? ⟨gq, q, none⟩ = some (.int .i64 x) := by rw [hx]; exact ArI.own rfl HQr q hqQ
          have HE : Hid (turnO Q t = { t with c := x }) := by show _ = _; unfold turnO; rw [if_neg k5, if_pos k6, hqq, hx]; rfl
          have HNy : Hid (OV (wr.setCell ⟨g, j * 7 + 3, none⟩ (.int .i64 x)) B (.slice (some ⟨g, 0, none⟩) P.length cv) (midT Q P (j + 1))) := HNx.out (j * 7 + 3) x (by rw [HC3.out, HE.out])
          rw [hqq] at c3
          rw [k6] at c0
          clear HE HNx hx hqq hte hTt hhT hv HQr hb HSame k5 k6
          go_wp2
          exact ⟨⟨j + 1, by omega, by go_num, HNy.out, HGs.out _ _⟩, by simp [RowKit.intOf]; omega⟩
        · have HE : Hid (midT Q P j = midT Q P (j + 1)) := HSame.out (by unfold turnO; rw [if_neg k5, if_neg k6])
          have b5 : (t.kind == 5) = false := by rw [beq_eq_false_iff_ne]; exact fun e => k5 (.inl e)
          have b6 : (t.kind == 6) = false := by rw [beq_eq_false_iff_ne]; exact fun e => k5 (.inr e)
          have b7 : (t.kind == 16) = false := by rw [beq_eq_false_iff_ne]; exact k6
          clear HNx hTt HQr HSame k5 k6
          go_wp2
          exact ⟨⟨j + 1, by omega, by go_num, HOr.out.cast HE.out, HG.out⟩, by simp [RowKit.intOf]; omega⟩
    · have hje : j = P.length := by omega
      have HE : Hid (OV wr B (.slice av P.length cv) (turnP Q P)) := by have := HM.out; rw [hje, midT_end] at this; exact this
      clear HM hje
      go_wp2
      go_ret
      exact ⟨rfl, HE.out, HG.out⟩
theorem cellsOp_one' : ∀ (N : List (Opr × Value)), (∀ x ∈ N, x.2.oneCell' = true) → ∀ u ∈ cellsOp N, u.oneCell' = true
  | [], _, u, hu => by simp [cellsOp] at hu
  | x :: r, h, u, hu => by
    simp only [cellsOp, List.mem_append] at hu
    rcases hu with hu | hu
    · simp only [Opr.cells, List.mem_cons, List.not_mem_nil, or_false] at hu
      rcases hu with rfl | rfl | rfl | rfl | rfl | rfl | rfl <;> first | rfl | exact h x (by simp)
    · exact cellsOp_one' r (fun y hy => h y (by simp [hy])) u hu
theorem OV.more {w w' : World} {B m cap' g' : Nat} {am : Option Addr} {cm : Nat} {P N : List (Opr × Value)} (h : OV w B (.slice am P.length cm) P) (hm : m = N.length) (hd : ∀ x ∈ N, w.ownsRow B 196 4 x.2 x.1.data.length (cellsD x.1.data)) (ho : w'.ownsRow B 100 7 (.slice (some ⟨g', 0, none⟩) (P.length + m) cap') (P.length + m) (cellsOp P ++ cellsOp N)) (hg : w.grownBy w' (Value.slice am P.length cm).ownBlock) : OV w' B (.slice (some ⟨g', 0, none⟩) (P.length + m) cap') (P ++ N) := by
  subst hm
  refine ⟨?_, fun i hi => ?_⟩
  · rw [cellsOp_append, List.length_append]; exact ho
  · rw [List.length_append] at hi
    by_cases q : i < P.length
    · rw [List.getElem_append_left q]
      exact own_apart (h.data i q) hg (fun g hg' => typ_ne (h.data i q) h.row (by decide) g hg')
    · rw [List.getElem_append_right (by omega)]
      have hx := hd _ (List.getElem_mem (show i - P.length < N.length by omega))
      exact own_apart hx hg (fun g hg' => typ_ne hx h.row (by decide) g hg')
theorem turnP_fst (Q : List Int) (P : List (Opr × Value)) : (turnP Q P).map Prod.fst = (P.map Prod.fst).map (turnO Q) := by simp [turnP]
structure BoxB (w : World) (gb : Nat) (args : Int) (v : Value) (P : List (Opr × Value)) : Prop where
  c0 : w.cell? ⟨gb, 0, none⟩ = some (.int .i64 args)
  c1 : w.cell? ⟨gb, 1, none⟩ = some v
  fz : ∀ j, w.frozen? ⟨gb, j, none⟩ = false
  ov : OV w (gb + 1) v P
set_option maxRecDepth 100000 in
set_option maxHeartbeats 2000000 in
theorem l9Copy_any (g cap B : Nat) (l : List Blk) (w : World) (hl : l.length ≤ 60) (hn : ∀ (k : Nat) (h : k < l.length), l[k].ops.length ≤ 200) (hz : ∀ (k : Nat) (h : k < l.length), l[k].small) (hB : RowBl w B g l) :
    Calls Tryz.prog 60 #[.slice (some ⟨g, 0, none⟩) l.length cap] w fun e w' => ∃ v R, e = .returned v ∧ BV w' w.heap.size v R ∧ R.map RB.blk = l ∧ Below w.heap.size w w' := by
  have HB : Hid (RowBl w B g l) := hB
  have HN : Hid (∀ (k : Nat) (h : k < l.length), l[k].ops.length ≤ 200) := hn
  have HZ : Hid (∀ (k : Nat) (h : k < l.length), l[k].small) := hz
  obtain ⟨i0, hi, hz0, hz1, hz2⟩ := info_parts infoBl
  obtain ⟨i1, hi1, hy0, hy1, hy2⟩ := info_parts infoOp
  clear hB hn hz
  go_enter Tryz.func60, Tryz.ntmps60
  go_wp2_with fail
  go_loopw [3, 4] (fun v i wr => ∃ (R : List RB) (am : Option Addr) (cm : Nat), R.length ≤ l.length ∧ v = .slice am R.length cm ∧ i = .int .i64 (R.length : Int) ∧ Hid (BV wr w.heap.size (.slice am R.length cm) R) ∧ Hid (R.map RB.blk = l.take R.length) ∧ Hid (Below w.heap.size w wr)) (fun _ i _ => l.length - (RowKit.intOf i).toNat)
  case atStart => exact ⟨[], some ⟨w.heap.size, 0, none⟩, 0, Nat.zero_le _, rfl, rfl, ⟨emptyBk w, fun i hi => by simp at hi⟩, by show _ = _; simp, bnewK w _⟩
  case round =>
    obtain ⟨R, am, cm, hR, rfl, rfl, HV, HM, HW⟩ := hrel
    have hws : w.heap.size ≤ wr.heap.size := HW.out.size
    by_cases hlt : R.length < l.length
    · obtain ⟨p0, gk, p1, hio⟩ := HB.out.below HW.out R.length hlt
      have hbn := HN.out R.length hlt
      have hbs := HZ.out R.length hlt
      obtain ⟨b, hb⟩ : ∃ b, b = l[R.length]'hlt := ⟨_, rfl⟩
      rw [← hb] at p0 p1 hio hbn hbs
      have HTk : Hid (l.take (R.length + 1) = l.take R.length ++ [b]) := by show _ = _; rw [List.take_add_one, List.getElem?_eq_getElem hlt, hb]; rfl
      have HP : Hid (∀ u, Below wr.heap.size wr u → u.cell? ⟨g, R.length * 2 + 1, none⟩ = some (.slice (some ⟨gk, 0, none⟩) b.ops.length b.ops.length) ∧ RowOp u B gk b.ops) := fun u hu => ⟨cell_keep hu p1, (hio.below hu).row⟩
      have HS : Hid b.small := hbs
      have hgl : g < wr.heap.size := lt_of_cell p0
      clear hb hbs hio p1
      go_wp2_with fail
      obtain ⟨X, hX⟩ : ∃ X, X = (wr.alloc (.cells #[.int .i64 b.args, .slice none 0 0] 85)) := ⟨_, rfl⟩
      have HBX : Hid (Below wr.heap.size wr X) := by rw [hX]; exact bnewK wr _
      have HX : Hid (BoxB X wr.heap.size b.args (.slice none 0 0) []) := by rw [hX]; exact ⟨by simp [go_sem], by simp [go_sem], fun j => by simp [go_sem], ⟨⟨rfl, .inl ⟨rfl, rfl⟩⟩, fun i hi => by simp at hi⟩⟩
      have hlX : wr.heap.size < X.heap.size := by rw [hX]; simp
      try rw [← hX]
      clear hX
      obtain ⟨wo, hwo⟩ : ∃ wo, wo = wr := ⟨_, rfl⟩
      subst hwo
      go_loopw [6] (fun u wz => ∃ (P : List (Opr × Value)) (av : Option Addr) (cv : Nat), P.length ≤ b.ops.length ∧ u = .int .i64 (P.length : Int) ∧ Hid (BoxB wz wo.heap.size b.args (.slice av P.length cv) P) ∧ Hid (P.map Prod.fst = b.ops.take P.length) ∧ Hid (Below wo.heap.size wo wz) ∧ wo.heap.size < wz.heap.size) (fun u _ => b.ops.length - (RowKit.intOf u).toNat)
      case atStart => exact ⟨[], none, 0, Nat.zero_le _, rfl, HX.out, by show _ = _; simp, HBX.out, hlX⟩
      case round =>
        obtain ⟨P, av, cv, hP, rfl, HX2, HM2, HB2, hlz⟩ := hrel
        clear HX HBX hlX
        obtain ⟨q1, hro⟩ := HP.out wr HB2.out
        have x0 := HX2.out.c0
        have x1 := HX2.out.c1
        have xf := HX2.out.fz
        by_cases hlk : P.length < b.ops.length
        · obtain ⟨e0, e1, e2, e3, e4, e5, gy, e6, hdy⟩ := hro P.length hlk
          have hsm := HS.out.names P.length hlk
          obtain ⟨t, ht⟩ : ∃ t, t = b.ops[P.length]'hlk := ⟨_, rfl⟩
          rw [← ht] at e0 e1 e2 e3 e4 e5 e6 hdy hsm
          have HTo : Hid (b.ops.take (P.length + 1) = b.ops.take P.length ++ [t]) := by show _ = _; rw [List.take_add_one, List.getElem?_eq_getElem hlk, ht]; rfl
          have hdl : t.data.length ≤ 1048576 := hsm.len
          obtain ⟨go, hgo⟩ : ∃ go, go = wr.heap.size := ⟨_, rfl⟩
          have HDy : Hid (∀ u, Below wr.heap.size wr u → u.ownsRow B 196 4 (.slice (some ⟨gy, 0, none⟩) t.data.length t.data.length) t.data.length (cellsD t.data)) := fun u hu => own_below hdy hu
          clear ht hsm hdy hro HS HP
          have HBr : Hid (∀ u, Below wr.heap.size wr u → Below wo.heap.size wo u) := fun u hu => HB2.out.trans (hu.mono HB2.out.size)
          subst hgo
          go_wp2_with (at_builtin; refine wpList_copyD rfl (.tmp 39) (.tmp 41) rfl (wr.heap.size + 1) (wr.heap.size + 1) rfl (emptyD' _ _ (by simp)) t.data (some ⟨gy, 0, none⟩) t.data.length B rfl (HDy.out _ (by repeat (first | exact Below.refl _ _ | refine Below.alloc ?_ (by simp) _))) hdl (by simp) ?_)
          intro ad2 cd2 w3 hd3 hgrow3
          have hb3 : Below wr.heap.size wr w3 := (((Below.refl _ wr).alloc (Nat.le_refl _) _).alloc (by simp) _).grown hgrow3 (by simp; omega) (fun k hk => by have := Option.some.inj hk; omega)
          have o0 : w3.cell? ⟨wr.heap.size, 0, none⟩ = some (.int .i64 t.kind) := hgrow3.cell (by simp [go_sem]) (by simp)
          have o1 : w3.cell? ⟨wr.heap.size, 1, none⟩ = some (.int .i64 t.a) := hgrow3.cell (by simp [go_sem]) (by simp)
          have o2 : w3.cell? ⟨wr.heap.size, 2, none⟩ = some (.int .i64 t.b) := hgrow3.cell (by simp [go_sem]) (by simp)
          have o3 : w3.cell? ⟨wr.heap.size, 3, none⟩ = some (.int .i64 t.c) := hgrow3.cell (by simp [go_sem]) (by simp)
          have o4 : w3.cell? ⟨wr.heap.size, 4, none⟩ = some (.int .i64 t.d) := hgrow3.cell (by simp [go_sem]) (by simp)
          have o5 : w3.cell? ⟨wr.heap.size, 5, none⟩ = some (.string t.name) := hgrow3.cell (by simp [go_sem]) (by simp)
          have o6 : w3.cell? ⟨wr.heap.size, 6, none⟩ = some (.slice (some ⟨gy, 0, none⟩) t.data.length t.data.length) := hgrow3.cell (by simp [go_sem]) (by simp)
          have of' : ∀ j, w3.frozen? ⟨wr.heap.size, j, none⟩ = false := fun j => fz_of hgrow3 (by simp; omega) (by simp) (by simp [go_sem])
          have hs3 : wr.heap.size + 1 < w3.heap.size := by have := hgrow3.size; simp at this; omega
          have x1' : w3.cell? ⟨wo.heap.size, 1, none⟩ = some (.slice av P.length cv) := cell_keep hb3 x1
          have HB3 : Hid (Below wr.heap.size wr (w3.setCell ⟨wr.heap.size, 6, none⟩ (.slice ad2 t.data.length cd2))) := hb3.setCell (Nat.le_refl _) _
          have HD3 : Hid ((w3.setCell ⟨wr.heap.size, 6, none⟩ (.slice ad2 t.data.length cd2)).ownsRow (wr.heap.size + 1) 196 4 (.slice ad2 t.data.length cd2) t.data.length (cellsD t.data)) := own_set_low hd3 (by omega) _
          have HX3 : Hid (BoxB (w3.setCell ⟨wr.heap.size, 6, none⟩ (.slice ad2 t.data.length cd2)) wo.heap.size b.args (.slice av P.length cv) P) := ⟨cell_keep HB3.out x0, cell_keep HB3.out x1, fun j => by rw [(bcell HB3.out).2 _ _ hlz]; exact xf j, HX2.out.ov.below HB3.out⟩
          clear hgrow3 hd3 hb3 e0 e1 e2 e3 e4 e5 e6 x0 x1 xf q1 HDy
          go_wp2_with (at_builtin; refine wpList_append_lies _ rfl (.tmp 45) (.tmp 47) 83 rfl (wo.heap.size + 1) 100 i1 _ 7 80 Tryz.underlying83 hi1 hy0 hy1 hy2 rfl (by decide) _ P.length (cellsOp P) rfl (own_below HX3.out.ov.row (bnewK _ _)) ⟨_, 0, none⟩ 1 1 [.int .i64 t.kind, .int .i64 t.a, .int .i64 t.b, .int .i64 t.c, .int .i64 t.d, .string t.name, .slice ad2 t.data.length cd2] rfl rfl ?f1 ?f2 (by decide) ?f3 ?f4 ?f5 _ rfl ?_)
          case f1 => exact World.news_of_block (cs := #[.int .i64 t.kind, .int .i64 t.a, .int .i64 t.b, .int .i64 t.c, .int .i64 t.d, .string t.name, .slice ad2 t.data.length cd2]) (t := 100) (fr := (0, 0)) (heap_new' _ _ _ (by simp))
          case f2 => intro u hu; simp at hu; rcases hu with rfl | rfl | rfl | rfl | rfl | rfl | rfl <;> rfl
          case f3 => unfold maxLen; omega
          case f4 => omega
          case f5 => simp; omega
          intro g' cap' w5 hown5 hgrow5 _ _
          obtain ⟨Y, hY⟩ : ∃ Y, Y = (w3.setCell ⟨wr.heap.size, 6, none⟩ (.slice ad2 t.data.length cd2)).alloc (.cells #[.int .i64 t.kind, .int .i64 t.a, .int .i64 t.b, .int .i64 t.c, .int .i64 t.d, .string t.name, .slice ad2 t.data.length cd2] 100) := ⟨_, rfl⟩
          rw [← hY] at hgrow5
          have hbY : Below (w3.setCell ⟨wr.heap.size, 6, none⟩ (.slice ad2 t.data.length cd2)).heap.size (w3.setCell ⟨wr.heap.size, 6, none⟩ (.slice ad2 t.data.length cd2)) Y := by rw [hY]; exact bnewK _ _
          have hov := HX3.out.ov.below hbY
          have hne : (Value.slice av P.length cv).ownBlock ≠ some wo.heap.size := fun e => by have := (hov.row.lt _ e).1; omega
          have y0 : w5.cell? ⟨wo.heap.size, 0, none⟩ = some (.int .i64 b.args) := hgrow5.cell (cell_keep hbY HX3.out.c0) (Ne.symm hne)
          have y1 : w5.cell? ⟨wo.heap.size, 1, none⟩ = some (.slice av P.length cv) := hgrow5.cell (cell_keep hbY HX3.out.c1) (Ne.symm hne)
          have hlo : wo.heap.size < (w3.setCell ⟨wr.heap.size, 6, none⟩ (.slice ad2 t.data.length cd2)).heap.size := by simp; omega
          have yf : ∀ j, w5.frozen? ⟨wo.heap.size, j, none⟩ = false := fun j => fz_of hgrow5 (Nat.lt_of_lt_of_le hlo hbY.size) (Ne.symm hne) (by rw [(bcell hbY).2 _ _ hlo]; exact HX3.out.fz j)
          have hsn := OV.snoc hov rfl (own_below (own_base HD3.out (show wo.heap.size + 1 ≤ wr.heap.size + 1 by omega)) hbY) hown5 hgrow5
          obtain ⟨P', hP'⟩ : ∃ P', P' = P ++ [(t, Value.slice ad2 t.data.length cd2)] := ⟨_, rfl⟩
          have hl' : P'.length = P.length + 1 := by rw [hP']; simp
          rw [← hP'] at hsn
          have HX5 : Hid (BoxB (w5.setCell ⟨wo.heap.size, 1, none⟩ (.slice (some ⟨g', 0, none⟩) (P.length + 1) cap')) wo.heap.size b.args (.slice (some ⟨g', 0, none⟩) P'.length cap') P') := ⟨by simp [go_sem, y0], by rw [hl']; simp [go_sem, y1], fun j => by simp [yf], by rw [hl']; exact hsn.setLow (by omega)⟩
          have HM5 : Hid (P'.map Prod.fst = b.ops.take P'.length) := by show _ = _; rw [hl', HTo.out, hP', List.map_append, HM2.out]; rfl
          have HB5 : Hid (Below wo.heap.size wo (w5.setCell ⟨wo.heap.size, 1, none⟩ (.slice (some ⟨g', 0, none⟩) (P.length + 1) cap'))) := (((HBr.out _ HB3.out).trans (hbY.mono (by omega))).grown hgrow5 (by have := hbY.size; omega) (fun k hk => by have := (hov.row.lt k hk).1; omega)).setCell (Nat.le_refl _) _
          have hs5 : wo.heap.size < w5.heap.size := by have := hgrow5.size; have := hbY.size; omega
          clear hsn hov hbY hY hgrow5 hown5 hne y0 hP' o0 o1 o2 o3 o4 o5 o6 of'
          go_wp2
          exact ⟨⟨P', some ⟨g', 0, none⟩, cap', by omega, by rw [hl']; go_num, HX5.out, HM5.out, HB5.out, by simpa using hs5⟩, by simp [RowKit.intOf]; omega⟩
        · have hPe : P.length = b.ops.length := by omega
          have HBk : Hid (RB.blk ⟨b.args, .slice av P.length cv, P⟩ = b) := by show (⟨b.args, P.map Prod.fst⟩ : Blk) = b; rw [HM2.out, hPe, List.take_length]
          have HVr : Hid (BV wr w.heap.size (.slice am R.length cm) R) := HV.out.below HB2.out
          have HOr : Hid (OV wr w.heap.size (.slice av P.length cv) P) := HX2.out.ov.base (by omega)
          have HBr : Hid (Below w.heap.size w wr) := HW.out.trans (HB2.out.mono HW.out.size)
          clear hPe hro
          go_wp2_with (at_builtin; refine wpList_append_lies _ rfl (.tmp 50) (.tmp 52) 37 rfl w.heap.size 85 i0 _ 2 32 Tryz.underlying37 hi hz0 hz1 hz2 rfl (by decide) _ R.length (cellsR R) rfl (own_below HVr.out.row (bnewK _ _)) ⟨_, 0, none⟩ 1 1 [.int .i64 b.args, .slice av P.length cv] rfl rfl ?f1 ?f2 (by decide) ?f3 ?f4 ?f5 _ rfl ?_)
          case f1 => exact World.news_of_block (cs := #[.int .i64 b.args, .slice av P.length cv]) (t := 85) (fr := (0, 0)) (heap_new' _ _ _ (by simp))
          case f2 => intro u hu; simp at hu; rcases hu with rfl | rfl <;> rfl
          case f3 => unfold maxLen; omega
          case f4 => omega
          case f5 => simp; omega
          intro g' cap' w5 hown5 hgrow5 _ _
          have hsn := BV.snoc (HVr.out.below (bnewK _ _)) rfl (HOr.out.below (bnewK _ _)) hown5 hgrow5
          have HB5 : Hid (Below w.heap.size w w5) := (HBr.out.alloc HBr.out.size _).grown hgrow5 (by simp; omega) (fun k hk => (HVr.out.row.lt k hk).1)
          obtain ⟨R', hR'⟩ : ∃ R', R' = R ++ [⟨b.args, .slice av P.length cv, P⟩] := ⟨_, rfl⟩
          have hl' : R'.length = R.length + 1 := by rw [hR']; simp
          rw [← hR'] at hsn
          have HM5 : Hid (R'.map RB.blk = l.take R'.length) := by show _ = _; rw [hl', HTk.out, hR', List.map_append, HM.out]; simp only [List.map_cons, List.map_nil]; rw [HBk.out]
          have HV5 : Hid (BV w5 w.heap.size (.slice (some ⟨g', 0, none⟩) R'.length cap') R') := by rw [hl']; exact hsn
          clear hsn hgrow5 hown5 hR'
          go_wp2
          exact ⟨⟨R', some ⟨g', 0, none⟩, cap', by omega, by rw [hl'], by rw [hl']; go_num, HV5.out, HM5.out, HB5.out⟩, by simp [RowKit.intOf]; omega⟩
    · have HE : Hid (R.map RB.blk = l) := by
        show _ = _
        rw [HM.out, show R.length = l.length by omega, List.take_length]
      clear HM
      go_wp2
      go_ret
      exact ⟨_, R, rfl, HV.out, HE.out, HW.out⟩
theorem cellsR_set1 : ∀ (R : List RB) (k : Nat) (h : k < R.length) (v : Value) (P : List (Opr × Value)), (cellsR R).set (k * 2 + 1) v = cellsR (R.set k ⟨R[k].args, v, P⟩)
  | [], k, h, _, _ => absurd h (Nat.not_lt_zero k)
  | r :: s, 0, _, _, _ => rfl
  | r :: s, k + 1, h, v, P => by
    have := cellsR_set1 s k (by simpa using h) v P
    rw [show (k + 1) * 2 + 1 = k * 2 + 1 + 1 + 1 by omega]
    show .int .i64 r.args :: r.v :: (cellsR s).set (k * 2 + 1) _ = _
    rw [this]; rfl
theorem OV.setRow {w : World} {B B' g n cap off : Nat} {v x : Value} {P : List (Opr × Value)} {xs : List Value} (h : OV w B v P) (ho : w.ownsRow B' 85 2 (.slice (some ⟨g, 0, none⟩) n cap) n xs) : OV (w.setCell ⟨g, off, none⟩ x) B v P :=
  ⟨own_set' h.row (fun b hb e => typ_ne h.row ho (by decide) b hb (by rw [e]; rfl)) x, fun i hi => own_set' (h.data i hi) (fun b hb e => typ_ne (h.data i hi) ho (by decide) b hb (by rw [e]; rfl)) x⟩
theorem BV.putOps {w : World} {B g cap k : Nat} {v : Value} {P : List (Opr × Value)} {R : List RB} (h : BV w B (.slice (some ⟨g, 0, none⟩) R.length cap) R) (hk : k < R.length) (hv : OV w B v P) : BV (w.setCell ⟨g, k * 2 + 1, none⟩ v) B (.slice (some ⟨g, 0, none⟩) R.length cap) (R.set k ⟨R[k].args, v, P⟩) := by
  refine ⟨?_, fun i hi => ?_⟩
  · rw [← cellsR_set1 R k hk v P, List.length_set]; exact own_put h.row _ _
  · rw [List.length_set] at hi
    by_cases e : k = i
    · subst e
      rw [List.getElem_set_self]; exact hv.setRow h.row
    · rw [List.getElem_set_ne e]; exact (h.ops i hi).setRow h.row
def AnsC (c : Int) (l' : List Blk) (w : World) (e : Ending) (w' : World) : Prop := ∃ v, e = .returned (.agg #[.int .i64 c, v]) ∧ SeeB w' v l' ∧ Below w.heap.size w w'
theorem seeNil (w : World) : SeeB w (.slice none 0 0) [] := ⟨none, 0, rfl, fun h => absurd h (by simp)⟩
theorem take_set_drop {α : Type} (f : α → α) (l : List α) (i : Nat) (h : i < l.length) : ((l.take i).map f ++ l.drop i).set i (f l[i]) = (l.take (i + 1)).map f ++ l.drop (i + 1) := by
  have hl : ((l.take i).map f).length = i := by simp; omega
  rw [List.set_append_right _ _ (by omega), hl, Nat.sub_self, List.drop_eq_getElem_cons h, List.set_cons_zero, List.take_add_one, List.getElem?_eq_getElem h]
  simp only [List.map_append, Option.toList, List.map_cons, List.map_nil, List.append_assoc, List.cons_append, List.nil_append]
theorem midB_at {α : Type} (f : α → α) (l : List α) (i : Nat) (h : i < l.length) (h' : i < ((l.take i).map f ++ l.drop i).length) : ((l.take i).map f ++ l.drop i)[i] = l[i] := by
  rw [List.getElem_append_right (by simp; omega)]
  simp [Nat.min_eq_left (Nat.le_of_lt h)]
end Go.Proofs.YtoafolefecddmaaGreatDoor
