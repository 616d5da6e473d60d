/-
  Parts of the proof laid into one text, one behind the other; each says at its head what is proved in it.
-/
import Derived.Test.YteboaiklibaomaaGreatDoorMkB
import Derived.Deep.Upon
import Derived.Test.YteboaiklibaomaaGreatDoorUfA
import Derived.Test.YteboaiklibaomaaGreatDoorUfC
import Derived.Test.YteboaiklibaomaaGreatDoorHjD
/-
  Blocks and operations in rows of their own: what an append of one more leaves of them; copies of data by append.
-/
namespace Go.Proofs.YteboaiklibaomaaGreatDoor
open Go.RowKit Go.Extern.Stop Go.Stop Go.Extern Num Go.Lib

theorem emptyBk (w : World) : (w.alloc (.cells #[] 51)).ownsRow w.heap.size 51 2 (.slice (some ⟨w.heap.size, 0, none⟩) 0 0) 0 (cellsR []) :=
  ⟨rfl, .inr ⟨w.heap.size, 0, #[], rfl, Nat.le_refl _, heap_alloc_new _ _, Nat.le_refl _, by simp, by simp, by simp [cellsR]⟩⟩
theorem emptyOk (w : World) : (w.alloc (.cells #[] 66)).ownsRow w.heap.size 66 7 (.slice (some ⟨w.heap.size, 0, none⟩) 0 0) 0 (cellsOp []) :=
  ⟨rfl, .inr ⟨w.heap.size, 0, #[], rfl, Nat.le_refl _, heap_alloc_new _ _, Nat.le_refl _, by simp, by simp, by simp [cellsOp]⟩⟩
theorem emptyDk (w : World) : (w.alloc (.cells #[] 133)).ownsRow w.heap.size 133 4 (.slice (some ⟨w.heap.size, 0, none⟩) 0 0) 0 (cellsD []) :=
  ⟨rfl, .inr ⟨w.heap.size, 0, #[], rfl, Nat.le_refl _, heap_alloc_new _ _, Nat.le_refl _, by simp, by simp, by simp [cellsD]⟩⟩
theorem emptyIk (w : World) : (w.alloc (.cells #[] 2)).ownsRow w.heap.size 2 1 (.slice (some ⟨w.heap.size, 0, none⟩) 0 0) 0 (cellsI []) :=
  ⟨rfl, .inr ⟨w.heap.size, 0, #[], rfl, Nat.le_refl _, heap_alloc_new _ _, Nat.le_refl _, by simp, by simp, by simp [cellsI]⟩⟩
theorem emptyD' (w : World) (n : Nat) (h : w.heap.size = n) : (w.alloc (.cells #[] 133)).ownsRow n 133 4 (.slice (some ⟨n, 0, none⟩) 0 0) 0 (cellsD []) := by subst h; exact emptyDk w
theorem bnewK (u : World) (o : Obj) : Below u.heap.size u (u.alloc o) := (Below.refl _ _).alloc (Nat.le_refl _) _
/-- Operations lie as they lay where a row of another type grows. -/
theorem OV.aside {w w' : World} {B B' size n : Nat} {T : TypeId} {v v' : Value} {xs : List Value} {P : List (Opr × Value)} (h : OV w B v P) (ho : w.ownsRow B' T size v' n xs) (hg : w.grownBy w' v'.ownBlock) (h1 : 66 ≠ T) (h2 : 133 ≠ T) : OV w' B v P :=
  ⟨own_apart h.row hg (fun g hg' => typ_ne h.row ho h1 g hg'), fun i hi => own_apart (h.data i hi) hg (fun g hg' => typ_ne (h.data i hi) ho h2 g hg')⟩
theorem OV.asideD {w w' : World} {B : Nat} {v : Value} {P : List (Opr × Value)} {g0 : Nat} (h : OV w B v P) (hg : w.grownBy w' (some g0)) (hn : ∀ b, footO v P b → b ≠ g0) : OV w' B v P :=
  ⟨own_apart h.row hg (fun g hg' e => hn g (.inl hg') (Option.some.inj e).symm), fun i hi => own_apart (h.data i hi) hg (fun g hg' e => hn g (.inr ⟨i, hi, hg'⟩) (Option.some.inj e).symm)⟩
theorem OV.setLow {w : World} {B b j : Nat} {v x : Value} {P : List (Opr × Value)} (h : OV w B v P) (hb : b < B) : OV (w.setCell ⟨b, j, none⟩ x) B v P := ⟨own_set_low h.row hb x, fun i hi => own_set_low (h.data i hi) hb x⟩
/-- One operation more. -/
theorem OV.snoc {w w' : World} {B n cap' g' : Nat} {am : Option Addr} {cm : Nat} {t : Opr} {x : Value} {P : List (Opr × Value)} (h : OV w B (.slice am n cm) P) (hn : n = P.length) (hd : w.ownsRow B 133 4 x t.data.length (cellsD t.data)) (ho : w'.ownsRow B 66 7 (.slice (some ⟨g', 0, none⟩) (n + 1) cap') (n + 1) (cellsOp P ++ t.cells x)) (hg : w.grownBy w' (Value.slice am n cm).ownBlock) : OV w' B (.slice (some ⟨g', 0, none⟩) (n + 1) cap') (P ++ [(t, x)]) := by
  subst hn
  refine ⟨?_, fun i hi => ?_⟩
  · have e : cellsOp (P ++ [(t, x)]) = cellsOp P ++ t.cells x := by rw [cellsOp_append]; simp [cellsOp]
    rw [e, List.length_append]; exact ho
  · rw [List.length_append] at hi
    by_cases q : i < P.length
    · rw [List.getElem_append_left q]
      exact own_apart (h.data i q) hg (fun g hg' => typ_ne (h.data i q) h.row (by decide) g hg')
    · have e : i = P.length := by simp at hi; omega
      subst e
      simp only [List.getElem_append_right (Nat.le_refl _), Nat.sub_self, List.getElem_cons_zero]
      exact own_apart hd hg (fun g hg' => typ_ne hd h.row (by decide) g hg')
/-- One block more. -/
theorem BV.snoc {w w' : World} {B n cap' g' : Nat} {am : Option Addr} {cm : Nat} {args : Int} {v : Value} {P : List (Opr × Value)} {R : List RB} (h : BV w B (.slice am n cm) R) (hn : n = R.length) (hv : OV w B v P) (ho : w'.ownsRow B 51 2 (.slice (some ⟨g', 0, none⟩) (n + 1) cap') (n + 1) (cellsR R ++ [.int .i64 args, v])) (hg : w.grownBy w' (Value.slice am n cm).ownBlock) : BV w' B (.slice (some ⟨g', 0, none⟩) (n + 1) cap') (R ++ [⟨args, v, P⟩]) := by
  subst hn
  refine ⟨?_, fun i hi => ?_⟩
  · have e : cellsR (R ++ [⟨args, v, P⟩]) = cellsR R ++ [.int .i64 args, v] := by rw [cellsR_append]; rfl
    rw [e, List.length_append]; exact ho
  · rw [List.length_append] at hi
    by_cases q : i < R.length
    · rw [List.getElem_append_left q]
      exact (h.ops i q).aside h.row hg (by decide) (by decide)
    · have e : i = R.length := by simp at hi; omega
      subst e
      simp only [List.getElem_append_right (Nat.le_refl _), Nat.sub_self, List.getElem_cons_zero]
      exact hv.aside h.row hg (by decide) (by decide)
set_option maxHeartbeats 1000000 in
/-- append([]Datum{}, data...), also of none. -/
theorem wpList_copyD {ops : Array Oper} {rest : List Oper} {o : Oper} {a : Act} {Q : Exit → Act → World → Prop} {w : World} (hgd : o.guard = none) (s x : Operand) (ho : o.op = .call { callee := .builtin .append, args := #[s, x], argTypes := #[64, 64] }) (base g0 : Nat) (hs : a.eval s = .slice (some ⟨g0, 0, none⟩) 0 0) (hown : w.ownsRow base 133 4 (.slice (some ⟨g0, 0, none⟩) 0 0) 0 (cellsD []))
    (T : List Dat) (ad : Option Addr) (cd N : Nat) (hx : a.eval x = .slice ad T.length cd) (ht : w.ownsRow N 133 4 (.slice ad T.length cd) T.length (cellsD T)) (hT : T.length ≤ 1048576) (hb : base ≤ w.heap.size)
    (h : ∀ av cv w', w'.ownsRow base 133 4 (.slice av T.length cv) T.length (cellsD T) → w.grownBy w' (some g0) → wpList Tryz.prog ops Q rest (a.put o.dst (.slice av T.length cv)) w') : wpList Tryz.prog ops Q (o :: rest) a w := by
  obtain ⟨i0, hi, hy0, hy1, hy2⟩ := info_parts infoD
  by_cases h0 : T = []
  · subst h0
    refine wpList_plain hgd fun K hK => ?_
    have hsrc : Src Tryz.prog i0.size 64 (.slice ad ([] : List Dat).length cd) 0 [] w := by
      cases ad with
      | none => exact Src.ofNil w Tryz.underlying64 cd
      | some p => exact Src.ofSlice w Tryz.underlying64 p 0 cd [] (by simp) (fun j u hj => by simp at hj) (fun u hu => by cases hu)
    have hr := run_append_nothing (P := Tryz.prog) w 64 64 o.type 133 i0 Tryz.underlying64 hi (some ⟨g0, 0, none⟩) 0 0 (Nat.le_refl _) _ hsrc
    unfold Oper.wp execOp
    simp only [ho, resolve, invoke, builtin, Sem.run_bind, Sem.run_pure, Result.andThen_ok, List.map_toArray, List.map_cons, List.map_nil, hs, hx, hr]
    exact hK _ _ (h _ _ w hown (gb_refl _ _))
  · have hp : 0 < T.length := List.length_pos_iff.2 h0
    obtain ⟨g, c', hv, _, _⟩ := ht.form hp
    obtain ⟨rfl, rfl⟩ : ad = some ⟨g, 0, none⟩ ∧ cd = c' := by simp at hv; exact hv
    refine wpList_append_lies _ hgd s x 64 ho base 133 i0 _ 4 40 Tryz.underlying64 hi hy0 hy1 hy2 rfl (by decide) _ 0 (cellsD []) hs hown ⟨g, 0, none⟩ T.length cd (cellsD T) hx (by simp [cellsD_length]) (ht.cells (g := g) rfl) (cellsD_one T) hp (by unfold maxLen; omega) (by omega) hb _ rfl ?_
    intro g' cap' w' hown' hgrow _ _
    rw [Nat.zero_add] at hown' ⊢
    exact h _ _ w' hown' hgrow
end Go.Proofs.YteboaiklibaomaaGreatDoor
/-
  The model's l11Split: what an operation is alone, one or two; nothing that was there is turned.
-/
namespace Go.Proofs.YteboaiklibaomaaGreatDoor
open Go.RowKit Go.Extern.Stop Go.Stop Go.Extern Num Go.Lib

def nilV : Value := .slice none 0 0
/-- What an operation is alone, and where the data of each lie. -/
def splitV (t : Opr) (v : Value) : List (Opr × Value) :=
  if t.kind = 13 then [(opK 1 0 0 0 0 t.data, v), (opK 12 0 0 0 0 [], nilV)] else if t.kind = 14 then [(opK 2 t.a t.b 0 0 [], nilV), (opK 12 0 0 0 0 [], nilV)]
  else if t.kind = 15 then [(opK 2 t.a t.b 0 0 [], nilV), (opK 2 t.c t.d 0 0 [], nilV)] else if t.kind = 16 then [(opK 2 t.a t.b 0 0 [], nilV), (opK 6 t.c 0 0 0 [], nilV)] else [(t, v)]
theorem splitV_fst (t : Opr) (v : Value) : (splitV t v).map Prod.fst = splitO t := by
  unfold splitV splitO
  by_cases k1 : t.kind = 13
  · rw [if_pos k1, if_pos k1]; rfl
  rw [if_neg k1, if_neg k1]
  by_cases k2 : t.kind = 14
  · rw [if_pos k2, if_pos k2]; rfl
  rw [if_neg k2, if_neg k2]
  by_cases k3 : t.kind = 15
  · rw [if_pos k3, if_pos k3]; rfl
  rw [if_neg k3, if_neg k3]
  by_cases k4 : t.kind = 16
  · rw [if_pos k4, if_pos k4]; rfl
  rw [if_neg k4, if_neg k4]; rfl
theorem nil_own (w : World) (B : Nat) : w.ownsRow B 133 4 nilV 0 (cellsD []) := ⟨rfl, .inl ⟨rfl, rfl⟩⟩
theorem splitV_data {w : World} {B : Nat} {t : Opr} {v : Value} (h : w.ownsRow B 133 4 v t.data.length (cellsD t.data)) : ∀ x ∈ splitV t v, w.ownsRow B 133 4 x.2 x.1.data.length (cellsD x.1.data) := by
  intro x hx
  unfold splitV at hx
  by_cases k1 : t.kind = 13
  · rw [if_pos k1] at hx
    simp only [List.mem_cons, List.not_mem_nil, or_false] at hx
    rcases hx with rfl | rfl
    · exact h
    · exact nil_own w B
  rw [if_neg k1] at hx
  by_cases k2 : t.kind = 14
  · rw [if_pos k2] at hx
    simp only [List.mem_cons, List.not_mem_nil, or_false] at hx
    rcases hx with rfl | rfl <;> exact nil_own w B
  rw [if_neg k2] at hx
  by_cases k3 : t.kind = 15
  · rw [if_pos k3] at hx
    simp only [List.mem_cons, List.not_mem_nil, or_false] at hx
    rcases hx with rfl | rfl <;> exact nil_own w B
  rw [if_neg k3] at hx
  by_cases k4 : t.kind = 16
  · rw [if_pos k4] at hx
    simp only [List.mem_cons, List.not_mem_nil, or_false] at hx
    rcases hx with rfl | rfl <;> exact nil_own w B
  rw [if_neg k4] at hx
  simp only [List.mem_cons, List.not_mem_nil, or_false] at hx
  rw [hx]; exact h
/-- A row that is new. -/
theorem ownNewO (u : World) (n q m : Nat) (cs : List Value) (hq : u.heap.size = q) (hn : n ≤ q) (hm : m ≤ 1000) (hl : cs.length = m * 7) : (u.alloc (.cells cs.toArray 66)).ownsRow n 66 7 (.slice (some ⟨q, 0, none⟩) m m) m cs := by
  subst hq
  exact ⟨hl, .inr ⟨u.heap.size, m, cs.toArray, rfl, hn, heap_alloc_new _ _, Nat.le_refl _, by unfold maxLen; omega, by simp [hl], by rw [← hl]; simp⟩⟩
def AnsSp (t : Opr) (v : Value) (w : World) (e : Ending) (w' : World) : Prop := ∃ q n, e = .returned (.slice (some ⟨q, 0, none⟩) n n) ∧ n = (splitV t v).length ∧ w'.ownsRow w.heap.size 66 7 (.slice (some ⟨q, 0, none⟩) n n) n (cellsOp (splitV t v)) ∧ Below w.heap.size w w'
set_option maxRecDepth 100000 in
set_option maxHeartbeats 2000000 in
theorem l11Split_13 (t : Opr) (ad : Option Addr) (cd g o : Nat) (w : World) (hk : t.kind = 13) (p0 : w.cell? ⟨g, o, none⟩ = some (.int .i64 t.kind)) (p1 : w.cell? ⟨g, o + 1, none⟩ = some (.int .i64 t.a)) (p2 : w.cell? ⟨g, o + 2, none⟩ = some (.int .i64 t.b)) (p3 : w.cell? ⟨g, o + 3, none⟩ = some (.int .i64 t.c)) (p4 : w.cell? ⟨g, o + 4, none⟩ = some (.int .i64 t.d)) (p5 : w.cell? ⟨g, o + 5, none⟩ = some (.string t.name)) (p6 : w.cell? ⟨g, o + 6, none⟩ = some (.slice ad t.data.length cd)) :
    Calls Tryz.prog 58 #[.pointer (some ⟨g, o, none⟩)] w fun e w' => AnsSp t (.slice ad t.data.length cd) w e w' := by
  have HE : Hid (splitV t (.slice ad t.data.length cd) = [(opK 1 0 0 0 0 t.data, .slice ad t.data.length cd), (opK 12 0 0 0 0 [], nilV)]) := by show _ = _; unfold splitV; simp [hk]
  rw [hk] at p0
  clear hk
  have n0 := World.new_ne w _ p0
  have n1 := World.new_ne w _ p1
  have n2 := World.new_ne w _ p2
  have n3 := World.new_ne w _ p3
  have n4 := World.new_ne w _ p4
  have n5 := World.new_ne w _ p5
  have n6 := World.new_ne w _ p6
  go_enter Tryz.func58, Tryz.ntmps58
  go_wp2_with fail
  go_region_held3 (fun u => u.cell? ⟨g, o + 1, none⟩ = some (.int .i64 t.a) ∧ u.cell? ⟨g, o + 2, none⟩ = some (.int .i64 t.b)) (go_keep) (fail)
  all_goals
    obtain ⟨W, hW⟩ : ∃ W, W = (w.alloc (.cells #[.int .i64 2, .int .i64 t.a, .int .i64 t.b, .int .i64 0, .int .i64 0, .string ⟨#[]⟩, .slice none 0 0] 66)).drew := ⟨_, rfl⟩
    rw [← hW]
    have HBW : Hid (Below w.heap.size w W) := by rw [hW]; exact Below.drew ((Below.refl _ _).alloc (Nat.le_refl _) _)
    have hsW : W.heap.size = w.heap.size + 1 := by rw [hW]; simp
    have r0 : W.cell? ⟨w.heap.size, 0, none⟩ = some (.int .i64 2) := by rw [hW]; simp [go_sem]
    have r1 : W.cell? ⟨w.heap.size, 1, none⟩ = some (.int .i64 t.a) := by rw [hW]; simp [go_sem]
    have r2 : W.cell? ⟨w.heap.size, 2, none⟩ = some (.int .i64 t.b) := by rw [hW]; simp [go_sem]
    have r3 : W.cell? ⟨w.heap.size, 3, none⟩ = some (.int .i64 0) := by rw [hW]; simp [go_sem]
    have r4 : W.cell? ⟨w.heap.size, 4, none⟩ = some (.int .i64 0) := by rw [hW]; simp [go_sem]
    have r5 : W.cell? ⟨w.heap.size, 5, none⟩ = some (.string ⟨#[]⟩) := by rw [hW]; simp [go_sem]
    have r6 : W.cell? ⟨w.heap.size, 6, none⟩ = some (.slice none 0 0) := by rw [hW]; simp [go_sem]
    have q0 := cell_keep HBW.out p0
    have q1 := cell_keep HBW.out p1
    have q2 := cell_keep HBW.out p2
    have q3 := cell_keep HBW.out p3
    have q4 := cell_keep HBW.out p4
    have q5 := cell_keep HBW.out p5
    have q6 := cell_keep HBW.out p6
    clear hW p0 p1 p2 p3 p4 p5 p6 n0 n1 n2 n3 n4 n5 n6
    have HS : Hid (W.heap.size = w.heap.size + 1) := hsW
    clear hsW
    go_wp2
    go_ret
    refine ⟨W.heap.size, 2, rfl, by rw [HE.out]; rfl, by rw [HE.out]; exact ownNewO _ _ _ 2 _ rfl (by have := HS.out; omega) (by omega) (by rfl), ?_⟩
    repeat (first | exact HBW.out | refine Below.drew ?_ | refine Below.alloc ?_ HBW.out.size _)
set_option maxRecDepth 100000 in
set_option maxHeartbeats 2000000 in
theorem l11Split_14 (t : Opr) (ad : Option Addr) (cd g o : Nat) (w : World) (hk : t.kind = 14) (p0 : w.cell? ⟨g, o, none⟩ = some (.int .i64 t.kind)) (p1 : w.cell? ⟨g, o + 1, none⟩ = some (.int .i64 t.a)) (p2 : w.cell? ⟨g, o + 2, none⟩ = some (.int .i64 t.b)) (p3 : w.cell? ⟨g, o + 3, none⟩ = some (.int .i64 t.c)) (p4 : w.cell? ⟨g, o + 4, none⟩ = some (.int .i64 t.d)) (p5 : w.cell? ⟨g, o + 5, none⟩ = some (.string t.name)) (p6 : w.cell? ⟨g, o + 6, none⟩ = some (.slice ad t.data.length cd)) :
    Calls Tryz.prog 58 #[.pointer (some ⟨g, o, none⟩)] w fun e w' => AnsSp t (.slice ad t.data.length cd) w e w' := by
  have HE : Hid (splitV t (.slice ad t.data.length cd) = [(opK 2 t.a t.b 0 0 [], nilV), (opK 12 0 0 0 0 [], nilV)]) := by show _ = _; unfold splitV; simp [hk]
  rw [hk] at p0
  clear hk
  have n0 := World.new_ne w _ p0
  have n1 := World.new_ne w _ p1
  have n2 := World.new_ne w _ p2
  have n3 := World.new_ne w _ p3
  have n4 := World.new_ne w _ p4
  have n5 := World.new_ne w _ p5
  have n6 := World.new_ne w _ p6
  go_enter Tryz.func58, Tryz.ntmps58
  go_wp2_with fail
  go_region_held3 (fun u => u.cell? ⟨g, o + 1, none⟩ = some (.int .i64 t.a) ∧ u.cell? ⟨g, o + 2, none⟩ = some (.int .i64 t.b)) (go_keep) (fail)
  all_goals
    obtain ⟨W, hW⟩ : ∃ W, W = (w.alloc (.cells #[.int .i64 2, .int .i64 t.a, .int .i64 t.b, .int .i64 0, .int .i64 0, .string ⟨#[]⟩, .slice none 0 0] 66)).drew := ⟨_, rfl⟩
    rw [← hW]
    have HBW : Hid (Below w.heap.size w W) := by rw [hW]; exact Below.drew ((Below.refl _ _).alloc (Nat.le_refl _) _)
    have hsW : W.heap.size = w.heap.size + 1 := by rw [hW]; simp
    have r0 : W.cell? ⟨w.heap.size, 0, none⟩ = some (.int .i64 2) := by rw [hW]; simp [go_sem]
    have r1 : W.cell? ⟨w.heap.size, 1, none⟩ = some (.int .i64 t.a) := by rw [hW]; simp [go_sem]
    have r2 : W.cell? ⟨w.heap.size, 2, none⟩ = some (.int .i64 t.b) := by rw [hW]; simp [go_sem]
    have r3 : W.cell? ⟨w.heap.size, 3, none⟩ = some (.int .i64 0) := by rw [hW]; simp [go_sem]
    have r4 : W.cell? ⟨w.heap.size, 4, none⟩ = some (.int .i64 0) := by rw [hW]; simp [go_sem]
    have r5 : W.cell? ⟨w.heap.size, 5, none⟩ = some (.string ⟨#[]⟩) := by rw [hW]; simp [go_sem]
    have r6 : W.cell? ⟨w.heap.size, 6, none⟩ = some (.slice none 0 0) := by rw [hW]; simp [go_sem]
    have q0 := cell_keep HBW.out p0
    have q1 := cell_keep HBW.out p1
    have q2 := cell_keep HBW.out p2
    have q3 := cell_keep HBW.out p3
    have q4 := cell_keep HBW.out p4
    have q5 := cell_keep HBW.out p5
    have q6 := cell_keep HBW.out p6
    clear hW p0 p1 p2 p3 p4 p5 p6 n0 n1 n2 n3 n4 n5 n6
    have HS : Hid (W.heap.size = w.heap.size + 1) := hsW
    clear hsW
    go_wp2
    go_ret
    refine ⟨W.heap.size, 2, rfl, by rw [HE.out]; rfl, by rw [HE.out]; exact ownNewO _ _ _ 2 _ rfl (by have := HS.out; omega) (by omega) (by rfl), ?_⟩
    repeat (first | exact HBW.out | refine Below.drew ?_ | refine Below.alloc ?_ HBW.out.size _)
set_option maxRecDepth 100000 in
set_option maxHeartbeats 2000000 in
theorem l11Split_15 (t : Opr) (ad : Option Addr) (cd g o : Nat) (w : World) (hk : t.kind = 15) (p0 : w.cell? ⟨g, o, none⟩ = some (.int .i64 t.kind)) (p1 : w.cell? ⟨g, o + 1, none⟩ = some (.int .i64 t.a)) (p2 : w.cell? ⟨g, o + 2, none⟩ = some (.int .i64 t.b)) (p3 : w.cell? ⟨g, o + 3, none⟩ = some (.int .i64 t.c)) (p4 : w.cell? ⟨g, o + 4, none⟩ = some (.int .i64 t.d)) (p5 : w.cell? ⟨g, o + 5, none⟩ = some (.string t.name)) (p6 : w.cell? ⟨g, o + 6, none⟩ = some (.slice ad t.data.length cd)) :
    Calls Tryz.prog 58 #[.pointer (some ⟨g, o, none⟩)] w fun e w' => AnsSp t (.slice ad t.data.length cd) w e w' := by
  have HE : Hid (splitV t (.slice ad t.data.length cd) = [(opK 2 t.a t.b 0 0 [], nilV), (opK 2 t.c t.d 0 0 [], nilV)]) := by show _ = _; unfold splitV; simp [hk]
  rw [hk] at p0
  clear hk
  have n0 := World.new_ne w _ p0
  have n1 := World.new_ne w _ p1
  have n2 := World.new_ne w _ p2
  have n3 := World.new_ne w _ p3
  have n4 := World.new_ne w _ p4
  have n5 := World.new_ne w _ p5
  have n6 := World.new_ne w _ p6
  go_enter Tryz.func58, Tryz.ntmps58
  go_wp2_with fail
  go_region_held3 (fun u => u.cell? ⟨g, o + 1, none⟩ = some (.int .i64 t.a) ∧ u.cell? ⟨g, o + 2, none⟩ = some (.int .i64 t.b)) (go_keep) (fail)
  all_goals
    obtain ⟨W, hW⟩ : ∃ W, W = (w.alloc (.cells #[.int .i64 2, .int .i64 t.a, .int .i64 t.b, .int .i64 0, .int .i64 0, .string ⟨#[]⟩, .slice none 0 0] 66)).drew := ⟨_, rfl⟩
    rw [← hW]
    have HBW : Hid (Below w.heap.size w W) := by rw [hW]; exact Below.drew ((Below.refl _ _).alloc (Nat.le_refl _) _)
    have hsW : W.heap.size = w.heap.size + 1 := by rw [hW]; simp
    have r0 : W.cell? ⟨w.heap.size, 0, none⟩ = some (.int .i64 2) := by rw [hW]; simp [go_sem]
    have r1 : W.cell? ⟨w.heap.size, 1, none⟩ = some (.int .i64 t.a) := by rw [hW]; simp [go_sem]
    have r2 : W.cell? ⟨w.heap.size, 2, none⟩ = some (.int .i64 t.b) := by rw [hW]; simp [go_sem]
    have r3 : W.cell? ⟨w.heap.size, 3, none⟩ = some (.int .i64 0) := by rw [hW]; simp [go_sem]
    have r4 : W.cell? ⟨w.heap.size, 4, none⟩ = some (.int .i64 0) := by rw [hW]; simp [go_sem]
    have r5 : W.cell? ⟨w.heap.size, 5, none⟩ = some (.string ⟨#[]⟩) := by rw [hW]; simp [go_sem]
    have r6 : W.cell? ⟨w.heap.size, 6, none⟩ = some (.slice none 0 0) := by rw [hW]; simp [go_sem]
    have q0 := cell_keep HBW.out p0
    have q1 := cell_keep HBW.out p1
    have q2 := cell_keep HBW.out p2
    have q3 := cell_keep HBW.out p3
    have q4 := cell_keep HBW.out p4
    have q5 := cell_keep HBW.out p5
    have q6 := cell_keep HBW.out p6
    clear hW p0 p1 p2 p3 p4 p5 p6 n0 n1 n2 n3 n4 n5 n6
    have HS : Hid (W.heap.size = w.heap.size + 1) := hsW
    clear hsW
    go_wp2_with fail
    go_region_held3 (fun u => u.cell? ⟨g, o + 3, none⟩ = some (.int .i64 t.c) ∧ u.cell? ⟨g, o + 4, none⟩ = some (.int .i64 t.d) ∧ u.cell? ⟨w.heap.size, 0, none⟩ = some (.int .i64 2) ∧ u.cell? ⟨w.heap.size, 1, none⟩ = some (.int .i64 t.a) ∧ u.cell? ⟨w.heap.size, 2, none⟩ = some (.int .i64 t.b) ∧ u.cell? ⟨w.heap.size, 3, none⟩ = some (.int .i64 0) ∧ u.cell? ⟨w.heap.size, 4, none⟩ = some (.int .i64 0) ∧ u.cell? ⟨w.heap.size, 5, none⟩ = some (.string ⟨#[]⟩) ∧ u.cell? ⟨w.heap.size, 6, none⟩ = some (.slice none 0 0)) (go_keep) (fail)
    all_goals
      go_wp2
      go_ret
      refine ⟨W.heap.size, 2, rfl, by rw [HE.out]; rfl, by rw [HE.out]; exact ownNewO _ _ _ 2 _ rfl (by have := HS.out; omega) (by omega) (by rfl), ?_⟩
      repeat (first | exact HBW.out | refine Below.drew ?_ | refine Below.alloc ?_ HBW.out.size _)
set_option maxRecDepth 100000 in
set_option maxHeartbeats 2000000 in
theorem l11Split_16 (t : Opr) (ad : Option Addr) (cd g o : Nat) (w : World) (hk : t.kind = 16) (p0 : w.cell? ⟨g, o, none⟩ = some (.int .i64 t.kind)) (p1 : w.cell? ⟨g, o + 1, none⟩ = some (.int .i64 t.a)) (p2 : w.cell? ⟨g, o + 2, none⟩ = some (.int .i64 t.b)) (p3 : w.cell? ⟨g, o + 3, none⟩ = some (.int .i64 t.c)) (p4 : w.cell? ⟨g, o + 4, none⟩ = some (.int .i64 t.d)) (p5 : w.cell? ⟨g, o + 5, none⟩ = some (.string t.name)) (p6 : w.cell? ⟨g, o + 6, none⟩ = some (.slice ad t.data.length cd)) :
    Calls Tryz.prog 58 #[.pointer (some ⟨g, o, none⟩)] w fun e w' => AnsSp t (.slice ad t.data.length cd) w e w' := by
  have HE : Hid (splitV t (.slice ad t.data.length cd) = [(opK 2 t.a t.b 0 0 [], nilV), (opK 6 t.c 0 0 0 [], nilV)]) := by show _ = _; unfold splitV; simp [hk]
  rw [hk] at p0
  clear hk
  have n0 := World.new_ne w _ p0
  have n1 := World.new_ne w _ p1
  have n2 := World.new_ne w _ p2
  have n3 := World.new_ne w _ p3
  have n4 := World.new_ne w _ p4
  have n5 := World.new_ne w _ p5
  have n6 := World.new_ne w _ p6
  go_enter Tryz.func58, Tryz.ntmps58
  go_wp2_with fail
  go_region_held3 (fun u => u.cell? ⟨g, o + 1, none⟩ = some (.int .i64 t.a) ∧ u.cell? ⟨g, o + 2, none⟩ = some (.int .i64 t.b)) (go_keep) (fail)
  all_goals
    obtain ⟨W, hW⟩ : ∃ W, W = (w.alloc (.cells #[.int .i64 2, .int .i64 t.a, .int .i64 t.b, .int .i64 0, .int .i64 0, .string ⟨#[]⟩, .slice none 0 0] 66)).drew := ⟨_, rfl⟩
    rw [← hW]
    have HBW : Hid (Below w.heap.size w W) := by rw [hW]; exact Below.drew ((Below.refl _ _).alloc (Nat.le_refl _) _)
    have hsW : W.heap.size = w.heap.size + 1 := by rw [hW]; simp
    have r0 : W.cell? ⟨w.heap.size, 0, none⟩ = some (.int .i64 2) := by rw [hW]; simp [go_sem]
    have r1 : W.cell? ⟨w.heap.size, 1, none⟩ = some (.int .i64 t.a) := by rw [hW]; simp [go_sem]
    have r2 : W.cell? ⟨w.heap.size, 2, none⟩ = some (.int .i64 t.b) := by rw [hW]; simp [go_sem]
    have r3 : W.cell? ⟨w.heap.size, 3, none⟩ = some (.int .i64 0) := by rw [hW]; simp [go_sem]
    have r4 : W.cell? ⟨w.heap.size, 4, none⟩ = some (.int .i64 0) := by rw [hW]; simp [go_sem]
    have r5 : W.cell? ⟨w.heap.size, 5, none⟩ = some (.string ⟨#[]⟩) := by rw [hW]; simp [go_sem]
    have r6 : W.cell? ⟨w.heap.size, 6, none⟩ = some (.slice none 0 0) := by rw [hW]; simp [go_sem]
    have q0 := cell_keep HBW.out p0
    have q1 := cell_keep HBW.out p1
    have q2 := cell_keep HBW.out p2
    have q3 := cell_keep HBW.out p3
    have q4 := cell_keep HBW.out p4
    have q5 := cell_keep HBW.out p5
    have q6 := cell_keep HBW.out p6
    clear hW p0 p1 p2 p3 p4 p5 p6 n0 n1 n2 n3 n4 n5 n6
    have HS : Hid (W.heap.size = w.heap.size + 1) := hsW
    clear hsW
    go_wp2_with fail
    go_region_held3 (fun u => u.cell? ⟨g, o + 3, none⟩ = some (.int .i64 t.c) ∧ u.cell? ⟨g, o + 4, none⟩ = some (.int .i64 t.d) ∧ u.cell? ⟨w.heap.size, 0, none⟩ = some (.int .i64 2) ∧ u.cell? ⟨w.heap.size, 1, none⟩ = some (.int .i64 t.a) ∧ u.cell? ⟨w.heap.size, 2, none⟩ = some (.int .i64 t.b) ∧ u.cell? ⟨w.heap.size, 3, none⟩ = some (.int .i64 0) ∧ u.cell? ⟨w.heap.size, 4, none⟩ = some (.int .i64 0) ∧ u.cell? ⟨w.heap.size, 5, none⟩ = some (.string ⟨#[]⟩) ∧ u.cell? ⟨w.heap.size, 6, none⟩ = some (.slice none 0 0)) (go_keep) (fail)
    all_goals
      go_wp2
      go_ret
      refine ⟨W.heap.size, 2, rfl, by rw [HE.out]; rfl, by rw [HE.out]; exact ownNewO _ _ _ 2 _ rfl (by have := HS.out; omega) (by omega) (by rfl), ?_⟩
      repeat (first | exact HBW.out | refine Below.drew ?_ | refine Below.alloc ?_ HBW.out.size _)
set_option maxRecDepth 100000 in
set_option maxHeartbeats 2000000 in
theorem l11Split_0 (t : Opr) (ad : Option Addr) (cd g o : Nat) (w : World) (h1 : t.kind ≠ 13) (h2 : t.kind ≠ 14) (h3 : t.kind ≠ 15) (h4 : t.kind ≠ 16) (p0 : w.cell? ⟨g, o, none⟩ = some (.int .i64 t.kind)) (p1 : w.cell? ⟨g, o + 1, none⟩ = some (.int .i64 t.a)) (p2 : w.cell? ⟨g, o + 2, none⟩ = some (.int .i64 t.b)) (p3 : w.cell? ⟨g, o + 3, none⟩ = some (.int .i64 t.c)) (p4 : w.cell? ⟨g, o + 4, none⟩ = some (.int .i64 t.d)) (p5 : w.cell? ⟨g, o + 5, none⟩ = some (.string t.name)) (p6 : w.cell? ⟨g, o + 6, none⟩ = some (.slice ad t.data.length cd)) :
    Calls Tryz.prog 58 #[.pointer (some ⟨g, o, none⟩)] w fun e w' => AnsSp t (.slice ad t.data.length cd) w e w' := by
  have HE : Hid (splitV t (.slice ad t.data.length cd) = [(t, .slice ad t.data.length cd)]) := by show _ = _; unfold splitV; simp [h1, h2, h3, h4]
  have b1 : (t.kind == 13) = false := by rw [beq_eq_false_iff_ne]; exact h1
  have b2 : (t.kind == 14) = false := by rw [beq_eq_false_iff_ne]; exact h2
  have b3 : (t.kind == 15) = false := by rw [beq_eq_false_iff_ne]; exact h3
  have b4 : (t.kind == 16) = false := by rw [beq_eq_false_iff_ne]; exact h4
  clear h1 h2 h3 h4
  have n0 := World.new_ne w _ p0
  have n1 := World.new_ne w _ p1
  have n2 := World.new_ne w _ p2
  have n3 := World.new_ne w _ p3
  have n4 := World.new_ne w _ p4
  have n5 := World.new_ne w _ p5
  have n6 := World.new_ne w _ p6
  go_enter Tryz.func58, Tryz.ntmps58
  go_wp2_with fail
  go_region_held3 (fun u => u.cell? ⟨g, o + 1, none⟩ = some (.int .i64 t.a) ∧ u.cell? ⟨g, o + 2, none⟩ = some (.int .i64 t.b)) (go_keep) (fail)
  all_goals
    obtain ⟨W, hW⟩ : ∃ W, W = (w.alloc (.cells #[.int .i64 2, .int .i64 t.a, .int .i64 t.b, .int .i64 0, .int .i64 0, .string ⟨#[]⟩, .slice none 0 0] 66)).drew := ⟨_, rfl⟩
    rw [← hW]
    have HBW : Hid (Below w.heap.size w W) := by rw [hW]; exact Below.drew ((Below.refl _ _).alloc (Nat.le_refl _) _)
    have hsW : W.heap.size = w.heap.size + 1 := by rw [hW]; simp
    have r0 : W.cell? ⟨w.heap.size, 0, none⟩ = some (.int .i64 2) := by rw [hW]; simp [go_sem]
    have r1 : W.cell? ⟨w.heap.size, 1, none⟩ = some (.int .i64 t.a) := by rw [hW]; simp [go_sem]
    have r2 : W.cell? ⟨w.heap.size, 2, none⟩ = some (.int .i64 t.b) := by rw [hW]; simp [go_sem]
    have r3 : W.cell? ⟨w.heap.size, 3, none⟩ = some (.int .i64 0) := by rw [hW]; simp [go_sem]
    have r4 : W.cell? ⟨w.heap.size, 4, none⟩ = some (.int .i64 0) := by rw [hW]; simp [go_sem]
    have r5 : W.cell? ⟨w.heap.size, 5, none⟩ = some (.string ⟨#[]⟩) := by rw [hW]; simp [go_sem]
    have r6 : W.cell? ⟨w.heap.size, 6, none⟩ = some (.slice none 0 0) := by rw [hW]; simp [go_sem]
    have q0 := cell_keep HBW.out p0
    have q1 := cell_keep HBW.out p1
    have q2 := cell_keep HBW.out p2
    have q3 := cell_keep HBW.out p3
    have q4 := cell_keep HBW.out p4
    have q5 := cell_keep HBW.out p5
    have q6 := cell_keep HBW.out p6
    clear hW p0 p1 p2 p3 p4 p5 p6 n0 n1 n2 n3 n4 n5 n6
    have HS : Hid (W.heap.size = w.heap.size + 1) := hsW
    clear hsW
    go_wp2
    go_ret
    refine ⟨W.heap.size, 1, rfl, by rw [HE.out]; rfl, by rw [HE.out]; exact ownNewO _ _ _ 1 _ rfl (by have := HS.out; omega) (by omega) (by rfl), ?_⟩
    repeat (first | exact HBW.out | refine Below.drew ?_ | refine Below.alloc ?_ HBW.out.size _)
theorem l11Split_any (t : Opr) (ad : Option Addr) (cd g o : Nat) (w : World) (p0 : w.cell? ⟨g, o, none⟩ = some (.int .i64 t.kind)) (p1 : w.cell? ⟨g, o + 1, none⟩ = some (.int .i64 t.a)) (p2 : w.cell? ⟨g, o + 2, none⟩ = some (.int .i64 t.b)) (p3 : w.cell? ⟨g, o + 3, none⟩ = some (.int .i64 t.c)) (p4 : w.cell? ⟨g, o + 4, none⟩ = some (.int .i64 t.d)) (p5 : w.cell? ⟨g, o + 5, none⟩ = some (.string t.name)) (p6 : w.cell? ⟨g, o + 6, none⟩ = some (.slice ad t.data.length cd)) :
    Calls Tryz.prog 58 #[.pointer (some ⟨g, o, none⟩)] w fun e w' => AnsSp t (.slice ad t.data.length cd) w e w' := by
  by_cases k1 : t.kind = 13
  · exact l11Split_13 t ad cd g o w k1 p0 p1 p2 p3 p4 p5 p6
  by_cases k2 : t.kind = 14
  · exact l11Split_14 t ad cd g o w k2 p0 p1 p2 p3 p4 p5 p6
  by_cases k3 : t.kind = 15
  · exact l11Split_15 t ad cd g o w k3 p0 p1 p2 p3 p4 p5 p6
  by_cases k4 : t.kind = 16
  · exact l11Split_16 t ad cd g o w k4 p0 p1 p2 p3 p4 p5 p6
  exact l11Split_0 t ad cd g o w k1 k2 k3 k4 p0 p1 p2 p3 p4 p5 p6
end Go.Proofs.YteboaiklibaomaaGreatDoor
/-
  The model's l11Turn: targets are turned to where those operations stand, in place; nothing else is turned.
-/
namespace Go.Proofs.YteboaiklibaomaaGreatDoor
open Go.RowKit Go.Extern.Stop Go.Stop Go.Extern Num Go.Lib

theorem cellsOp_set1 : ∀ (P : List (Opr × Value)) (k : Nat) (hk : k < P.length) (x : Int), (cellsOp P).set (k * 7 + 1) (.int .i64 x) = cellsOp (P.set k ({ P[k].1 with a := x }, P[k].2))
  | [], k, hk, _ => absurd hk (Nat.not_lt_zero k)
  | p :: r, 0, _, x => rfl
  | p :: r, k + 1, hk, x => by
    have ih := cellsOp_set1 r k (by simpa using hk) x
    have e : ∀ (ys : List Value) (j : Nat) (u : Value), (p.1.cells p.2 ++ ys).set (j + 7) u = p.1.cells p.2 ++ ys.set j u := fun ys j u => by
      rw [List.set_append_right _ _ (by simp [Opr.cells])]; simp [Opr.cells]
    show (p.1.cells p.2 ++ cellsOp r).set ((k + 1) * 7 + 1) _ = _
    rw [show (k + 1) * 7 + 1 = k * 7 + 1 + 7 by omega, e, ih]
    rfl
theorem cellsOp_set3 : ∀ (P : List (Opr × Value)) (k : Nat) (hk : k < P.length) (x : Int), (cellsOp P).set (k * 7 + 3) (.int .i64 x) = cellsOp (P.set k ({ P[k].1 with c := x }, P[k].2))
  | [], k, hk, _ => absurd hk (Nat.not_lt_zero k)
  | p :: r, 0, _, x => rfl
  | p :: r, k + 1, hk, x => by
    have ih := cellsOp_set3 r k (by simpa using hk) x
    have e : ∀ (ys : List Value) (j : Nat) (u : Value), (p.1.cells p.2 ++ ys).set (j + 7) u = p.1.cells p.2 ++ ys.set j u := fun ys j u => by
      rw [List.set_append_right _ _ (by simp [Opr.cells])]; simp [Opr.cells]
    show (p.1.cells p.2 ++ cellsOp r).set ((k + 1) * 7 + 3) _ = _
    rw [show (k + 1) * 7 + 3 = k * 7 + 3 + 7 by omega, e, ih]
    rfl
/-- One operation is turned in place. -/
theorem OV.putAt {w : World} {B g n cap k off : Nat} {P : List (Opr × Value)} {t : Opr} {x : Int} (h : OV w B (.slice (some ⟨g, 0, none⟩) n cap) P) (hn : n = P.length) (hk : k < P.length) (hd : t.data = P[k].1.data) (hc : (cellsOp P).set off (.int .i64 x) = cellsOp (P.set k (t, P[k].2))) : OV (w.setCell ⟨g, off, none⟩ (.int .i64 x)) B (.slice (some ⟨g, 0, none⟩) n cap) (P.set k (t, P[k].2)) := by
  subst hn
  refine ⟨?_, fun i hi => ?_⟩
  · rw [← hc, List.length_set]; exact own_put h.row off _
  · rw [List.length_set] at hi
    have far : ∀ b, P[i].2.ownBlock = some b → b ≠ g := fun b hb e => typ_ne (h.data i hi) h.row (by decide) b hb (by rw [e]; rfl)
    have hs : (w.setCell ⟨g, off, none⟩ (.int .i64 x)).ownsRow B 133 4 P[i].2 P[i].1.data.length (cellsD P[i].1.data) := own_set' (h.data i hi) far _
    by_cases e : k = i
    · subst e
      rw [List.getElem_set_self]
      show (w.setCell ⟨g, off, none⟩ (.int .i64 x)).ownsRow B 133 4 P[k].2 t.data.length (cellsD t.data)
      rw [hd]; exact hs
    · rw [List.getElem_set_ne e]; exact hs
def midT (Q : List Int) (P : List (Opr × Value)) (j : Nat) : List (Opr × Value) := turnP Q (P.take j) ++ P.drop j
theorem midT_len (Q : List Int) (P : List (Opr × Value)) (j : Nat) : (midT Q P j).length = P.length := by
  simp only [midT, List.length_append, turnP_len, List.length_take, List.length_drop]; omega
theorem midT_at (Q : List Int) (P : List (Opr × Value)) (j : Nat) (hj : j < P.length) : (midT Q P j)[j]'(by rw [midT_len]; exact hj) = P[j] := by
  unfold midT
  rw [List.getElem_append_right (by rw [turnP_len, List.length_take]; omega)]
  simp [turnP_len, Nat.min_eq_left (Nat.le_of_lt hj)]
theorem midT_next (Q : List Int) (P : List (Opr × Value)) (j : Nat) (hj : j < P.length) : (midT Q P j).set j (turnO Q P[j].1, P[j].2) = midT Q P (j + 1) := by
  unfold midT
  have hl : (turnP Q (P.take j)).length = j := by rw [turnP_len]; simp; omega
  rw [List.set_append_right _ _ (by omega), hl, Nat.sub_self, List.drop_eq_getElem_cons hj, List.set_cons_zero, List.take_add_one, List.getElem?_eq_getElem hj]
  simp only [turnP, List.map_append, Option.toList, List.map_cons, List.map_nil, List.append_assoc, List.cons_append, List.nil_append]
theorem midT_end (Q : List Int) (P : List (Opr × Value)) : midT Q P P.length = turnP Q P := by simp [midT]
theorem OV.cast {w : World} {B : Nat} {v : Value} {P P' : List (Opr × Value)} (h : OV w B v P) (e : P = P') : OV w B v P' := e ▸ h
set_option maxRecDepth 100000 in
set_option maxHeartbeats 2000000 in
theorem l11Turn_any (P : List (Opr × Value)) (Q : List Int) (B BQ cv cq : Nat) (av ap : Option Addr) (w : World) (hl : P.length ≤ 1000) (hQl : Q.length ≤ 1000) (ho : OV w B (.slice av P.length cv) P) (hq : w.ownsRow BQ 2 1 (.slice ap Q.length cq) Q.length (cellsI Q)) (ht : ∀ x ∈ P, hasT x.1 = true → 0 ≤ tgtO x.1 ∧ tgtO x.1 < (Q.length : Int)) :
    Calls Tryz.prog 59 #[.slice av P.length cv, .slice ap Q.length cq] w fun e w' => e = .returned (.slice av P.length cv) ∧ OV w' B (.slice av P.length cv) (turnP Q P) ∧ w.grownBy w' (Value.slice av P.length cv).ownBlock := by
  have HO : Hid (OV w B (.slice av P.length cv) P) := ho
  have HQ : Hid (∀ u, w.grownBy u (Value.slice av P.length cv).ownBlock → u.ownsRow BQ 2 1 (.slice ap Q.length cq) Q.length (cellsI Q)) := fun u hu => own_apart hq hu (fun g hg => typ_ne hq ho.row (by decide) g hg)
  have HT : Hid (∀ x ∈ P, hasT x.1 = true → 0 ≤ tgtO x.1 ∧ tgtO x.1 < (Q.length : Int)) := ht
  clear ho hq ht
  go_enter Tryz.func59, Tryz.ntmps59
  go_wp2_with fail
  go_loopw [5] (fun i wr => ∃ j : Nat, j ≤ P.length ∧ i = .int .i64 (j : Int) ∧ Hid (OV wr B (.slice av P.length cv) (midT Q P j)) ∧ Hid (w.grownBy wr (Value.slice av P.length cv).ownBlock)) (fun i _ => P.length - (RowKit.intOf i).toNat)
  case atStart => exact ⟨0, Nat.zero_le _, rfl, by show OV _ _ _ _; simpa [midT, turnP] using HO.out, gb_refl _ _⟩
  case round =>
    obtain ⟨j, hj, rfl, HM, HG⟩ := hrel
    by_cases hlt : j < P.length
    · obtain ⟨g, c', hv, _, _⟩ := HO.out.row.form (by omega)
      obtain ⟨rfl, rfl⟩ : av = some ⟨g, 0, none⟩ ∧ cv = c' := by simp at hv; exact hv
      have hml : P.length = (midT Q P j).length := (midT_len Q P j).symm
      have hjm : j < (midT Q P j).length := by omega
      have HM1 : Hid (OV wr B (.slice (some ⟨g, 0, none⟩) (midT Q P j).length cv) (midT Q P j)) := by rw [midT_len]; exact HM.out
      obtain ⟨c0, c1, -, c3, -, -, -⟩ := HM1.out.at j hjm
      have hmj := midT_at Q P j hlt
      have hTt := HT.out P[j] (List.getElem_mem hlt)
      have HNx : Hid (∀ (off : Nat) (x : Int), (cellsOp (midT Q P j)).set off (.int .i64 x) = cellsOp ((midT Q P j).set j (turnO Q P[j].1, P[j].2)) → OV (wr.setCell ⟨g, off, none⟩ (.int .i64 x)) B (.slice (some ⟨g, 0, none⟩) P.length cv) (midT Q P (j + 1))) := fun off x hx => by
        have h2 : (midT Q P j)[j].2 = P[j].2 := by rw [hmj]
        have h1 : (turnO Q P[j].1).data = ((midT Q P j)[j]).1.data := by rw [hmj]; exact (turnO_data Q P[j].1).1
        rw [← h2] at hx
        have := HM.out.putAt hml hjm h1 hx
        rw [h2, midT_next Q P j hlt] at this
        exact this
      have Hc1 := cellsOp_set1 (midT Q P j) j hjm
      have Hc3 := cellsOp_set3 (midT Q P j) j hjm
      have HSame : Hid (turnO Q P[j].1 = P[j].1 → midT Q P j = midT Q P (j + 1)) := fun e => by
        rw [← midT_next Q P j hlt, e]
        show _ = (midT Q P j).set j P[j]
        rw [← hmj]
        exact (List.set_getElem_self hjm).symm
      rw [hmj] at c0 c1 c3 Hc1 Hc3
      obtain ⟨t, htt⟩ : ∃ t, t = P[j].1 := ⟨_, rfl⟩
      obtain ⟨y, hyy⟩ : ∃ y, y = P[j].2 := ⟨_, rfl⟩
      rw [← htt] at c0 c1 c3 hTt Hc1 Hc3
      rw [← htt, ← hyy] at HNx
      rw [← hyy] at Hc1 Hc3
      rw [← htt] at HSame
      have hfz : ∀ k, wr.frozen? ⟨g, k, none⟩ = false := fun k => own_frozen HM1.out.row k
      have HC1 : Hid (∀ (x : Int), (cellsOp (midT Q P j)).set (j * 7 + 1) (.int .i64 x) = cellsOp ((midT Q P j).set j ({ t with a := x }, y))) := Hc1
      have HC3 : Hid (∀ (x : Int), (cellsOp (midT Q P j)).set (j * 7 + 3) (.int .i64 x) = cellsOp ((midT Q P j).set j ({ t with c := x }, y))) := Hc3
      have HOr : Hid (OV wr B (.slice (some ⟨g, 0, none⟩) P.length cv) (midT Q P j)) := HM.out
      have HGs : Hid (∀ off x, w.grownBy (wr.setCell ⟨g, off, none⟩ x) (Value.slice (some ⟨g, 0, none⟩) P.length cv).ownBlock) := fun off x => gb_set HG.out x
      clear Hc1 Hc3 hmj htt hyy hv hml hjm HM1 HM
      have HQr := HQ.out wr HG.out
      by_cases k5 : t.kind = 5 ∨ t.kind = 6
      · have hhT : hasT t = true := hasT_kind.2 (by rcases k5 with e | e <;> simp [e])
        have hte : tgtO t = t.a := by unfold tgtO; rw [if_pos k5]
        have hb := hTt hhT
        rw [hte] at hb
        obtain ⟨q, hqq⟩ : ∃ q : Nat, t.a = (q : Int) := ⟨t.a.toNat, by omega⟩
        have hqQ : q < Q.length := by omega
        obtain ⟨gq, c'', hv, _, _⟩ := HQr.form (by omega)
        obtain ⟨rfl, rfl⟩ : ap = some ⟨gq, 0, none⟩ ∧ cq = c'' := by simp at hv; exact hv
        obtain ⟨x, hx⟩ : ∃ x, x = Q.getD q 0 := ⟨_, rfl⟩
        have hqc : wr.cell? ⟨gq, q, none⟩ = some (.int .i64 x) := by rw [hx]; exact ArI.own rfl HQr q hqQ
        have HE : Hid (turnO Q t = { t with a := x }) := by show _ = _; unfold turnO; rw [if_pos k5, hqq, hx]; rfl
        have HNy : Hid (OV (wr.setCell ⟨g, j * 7 + 1, none⟩ (.int .i64 x)) B (.slice (some ⟨g, 0, none⟩) P.length cv) (midT Q P (j + 1))) := HNx.out (j * 7 + 1) x (by rw [HC1.out, HE.out])
        rw [hqq] at c1
        clear HE HNx hx hqq hte hTt hhT hv HQr hb HSame
        rcases k5 with k | k
        · rw [k] at c0
          clear k
          go_wp2
          exact ⟨⟨j + 1, by omega, by go_num, HNy.out, HGs.out _ _⟩, by simp [RowKit.intOf]; omega⟩
        · rw [k] at c0
          clear k
          go_wp2
          exact ⟨⟨j + 1, by omega, by go_num, HNy.out, HGs.out _ _⟩, by simp [RowKit.intOf]; omega⟩
      · by_cases k6 : t.kind = 16
        · have hhT : hasT t = true := hasT_kind.2 (.inr (.inr k6))
          have hte : tgtO t = t.c := by unfold tgtO; rw [if_neg k5, if_pos k6]
          have hb := hTt hhT
          rw [hte] at hb
          obtain ⟨q, hqq⟩ : ∃ q : Nat, t.c = (q : Int) := ⟨t.c.toNat, by omega⟩
          have hqQ : q < Q.length := by omega
          obtain ⟨gq, c'', hv, _, _⟩ := HQr.form (by omega)
          obtain ⟨rfl, rfl⟩ : ap = some ⟨gq, 0, none⟩ ∧ cq = c'' := by simp at hv; exact hv
          obtain ⟨x, hx⟩ : ∃ x, x = Q.getD q 0 := ⟨_, rfl⟩
          have hqc : wr.cell? ⟨gq, q, none⟩ = some (.int .i64 x) := by rw [hx]; exact ArI.own rfl HQr q hqQ
          have HE : Hid (turnO Q t = { t with c := x }) := by show _ = _; unfold turnO; rw [if_neg k5, if_pos k6, hqq, hx]; rfl
          have HNy : Hid (OV (wr.setCell ⟨g, j * 7 + 3, none⟩ (.int .i64 x)) B (.slice (some ⟨g, 0, none⟩) P.length cv) (midT Q P (j + 1))) := HNx.out (j * 7 + 3) x (by rw [HC3.out, HE.out])
          rw [hqq] at c3
          rw [k6] at c0
          clear HE HNx hx hqq hte hTt hhT hv HQr hb HSame k5 k6
          go_wp2
          exact ⟨⟨j + 1, by omega, by go_num, HNy.out, HGs.out _ _⟩, by simp [RowKit.intOf]; omega⟩
        · have HE : Hid (midT Q P j = midT Q P (j + 1)) := HSame.out (by unfold turnO; rw [if_neg k5, if_neg k6])
          have b5 : (t.kind == 5) = false := by rw [beq_eq_false_iff_ne]; exact fun e => k5 (.inl e)
          have b6 : (t.kind == 6) = false := by rw [beq_eq_false_iff_ne]; exact fun e => k5 (.inr e)
          have b7 : (t.kind == 16) = false := by rw [beq_eq_false_iff_ne]; exact k6
          clear HNx hTt HQr HSame k5 k6
          go_wp2
          exact ⟨⟨j + 1, by omega, by go_num, HOr.out.cast HE.out, HG.out⟩, by simp [RowKit.intOf]; omega⟩
    · have hje : j = P.length := by omega
      have HE : Hid (OV wr B (.slice av P.length cv) (turnP Q P)) := by have := HM.out; rw [hje, midT_end] at this; exact this
      clear HM hje
      go_wp2
      go_ret
      exact ⟨rfl, HE.out, HG.out⟩
end Go.Proofs.YteboaiklibaomaaGreatDoor
/-
  The model's l11Unfuse: the operations of a block taken apart, in a row of their own; nothing that was there is turned.
-/
namespace Go.Proofs.YteboaiklibaomaaGreatDoor
open Go.RowKit Go.Extern.Stop Go.Stop Go.Extern Num Go.Lib

theorem cellsOp_one' : ∀ (N : List (Opr × Value)), (∀ x ∈ N, x.2.oneCell' = true) → ∀ u ∈ cellsOp N, u.oneCell' = true
  | [], _, u, hu => by simp [cellsOp] at hu
  | x :: r, h, u, hu => by
    simp only [cellsOp, List.mem_append] at hu
    rcases hu with hu | hu
    · simp only [Opr.cells, List.mem_cons, List.not_mem_nil, or_false] at hu
      rcases hu with rfl | rfl | rfl | rfl | rfl | rfl | rfl <;> first | rfl | exact h x (by simp)
    · exact cellsOp_one' r (fun y hy => h y (by simp [hy])) u hu
theorem own_oneS {w : World} {base : Nat} {e : TypeId} {size n : Nat} {v : Value} {xs : List Value} (h : w.ownsRow base e size v n xs) : v.oneCell' = true := by
  obtain ⟨ao, cap, rfl⟩ := own_form h; rfl
/-- Some operations more. -/
theorem OV.more {w w' : World} {B m cap' g' : Nat} {am : Option Addr} {cm : Nat} {P N : List (Opr × Value)} (h : OV w B (.slice am P.length cm) P) (hm : m = N.length) (hd : ∀ x ∈ N, w.ownsRow B 133 4 x.2 x.1.data.length (cellsD x.1.data)) (ho : w'.ownsRow B 66 7 (.slice (some ⟨g', 0, none⟩) (P.length + m) cap') (P.length + m) (cellsOp P ++ cellsOp N)) (hg : w.grownBy w' (Value.slice am P.length cm).ownBlock) : OV w' B (.slice (some ⟨g', 0, none⟩) (P.length + m) cap') (P ++ N) := by
  subst hm
  refine ⟨?_, fun i hi => ?_⟩
  · rw [cellsOp_append, List.length_append]; exact ho
  · rw [List.length_append] at hi
    by_cases q : i < P.length
    · rw [List.getElem_append_left q]
      exact own_apart (h.data i q) hg (fun g hg' => typ_ne (h.data i q) h.row (by decide) g hg')
    · rw [List.getElem_append_right (by omega)]
      have hx := hd _ (List.getElem_mem (show i - P.length < N.length by omega))
      exact own_apart hx hg (fun g hg' => typ_ne hx h.row (by decide) g hg')
theorem splitV_len (t : Opr) (v : Value) : 0 < (splitV t v).length ∧ (splitV t v).length ≤ 2 := by
  unfold splitV
  by_cases k1 : t.kind = 13
  · rw [if_pos k1]; simp
  rw [if_neg k1]
  by_cases k2 : t.kind = 14
  · rw [if_pos k2]; simp
  rw [if_neg k2]
  by_cases k3 : t.kind = 15
  · rw [if_pos k3]; simp
  rw [if_neg k3]
  by_cases k4 : t.kind = 16
  · rw [if_pos k4]; simp
  rw [if_neg k4]; simp
theorem unfS_succ {l : List Opr} {j : Nat} (h : j < l.length) : unfS l (j + 1) = putF (unfS l j) 1 (splitO l[j]) := by
  simp only [unfS]; rw [List.getElem?_eq_getElem h]
theorem turnP_fst (Q : List Int) (P : List (Opr × Value)) : (turnP Q P).map Prod.fst = (P.map Prod.fst).map (turnO Q) := by simp [turnP]
def AnsUn (P : List (Opr × Value)) (B : Nat) (w : World) (e : Ending) (w' : World) : Prop := ∃ v' P', e = .returned v' ∧ OV w' B v' P' ∧ P'.map Prod.fst = unfO (P.map Prod.fst) ∧ Below w.heap.size w w'
set_option maxRecDepth 100000 in
set_option maxHeartbeats 2000000 in
theorem l11Unfuse_any (P : List (Opr × Value)) (g o B cv : Nat) (av : Option Addr) (w : World) (hP : P.length ≤ 200) (hf : ∀ x ∈ P, fine1 P.length x.1) (p1 : w.cell? ⟨g, o + 1, none⟩ = some (.slice av P.length cv)) (ho : OV w B (.slice av P.length cv) P) (hB : B ≤ w.heap.size) :
    Calls Tryz.prog 35 #[.pointer (some ⟨g, o, none⟩)] w fun e w' => AnsUn P B w e w' := by
  have HO : Hid (OV w B (.slice av P.length cv) P) := ho
  have HP1 : Hid (w.cell? ⟨g, o + 1, none⟩ = some (.slice av P.length cv)) := p1
  obtain ⟨l, hl⟩ : ∃ l, l = P.map Prod.fst := ⟨_, rfl⟩
  have hll : l.length = P.length := by rw [hl]; simp
  have HL : Hid (∀ (k : Nat) (h : k < P.length), l[k]? = some P[k].1) := fun k hk => by rw [hl]; simp [hk]
  have hfl : ∀ t ∈ l, fine1 l.length t := fun t ht => by
    rw [hl] at ht
    obtain ⟨x, hx, rfl⟩ := List.mem_map.1 ht
    rw [hll]; exact hf x hx
  have HI : Hid (∀ k, k ≤ P.length → FInv l 2 (unfS l k) ∧ (unfS l k).2.length = k) := fun k hk => unfS_inv hfl k (by omega)
  have HE : Hid (P.map Prod.fst = l) := hl.symm
  obtain ⟨i0, hi, hz0, hz1, hz2⟩ := info_parts infoI
  obtain ⟨i1, hi1, hy0, hy1, hy2⟩ := info_parts infoOp
  clear ho p1 hl hf hfl
  go_enter Tryz.func35, Tryz.ntmps35
  go_wp2_with fail
  go_loopw [3, 4, 5] (fun vo vp i wr => ∃ (j : Nat) (M : List (Opr × Value)) (Q : List Int) (am ap : Option Addr) (cm cp : Nat), j ≤ P.length ∧ vo = .slice am M.length cm ∧ vp = .slice ap Q.length cp ∧ i = .int .i64 (j : Int) ∧ Hid (OV wr B (.slice am M.length cm) M ∧ wr.ownsRow w.heap.size 66 7 (.slice am M.length cm) M.length (cellsOp M)) ∧ Hid (wr.ownsRow w.heap.size 2 1 (.slice ap Q.length cp) Q.length (cellsI Q)) ∧ Hid ((unfS l j).1 = M.map Prod.fst ∧ (unfS l j).2 = Q) ∧ Hid (Below w.heap.size w wr)) (fun _ _ i _ => P.length - (RowKit.intOf i).toNat)
  case atStart =>
    refine ⟨0, [], [], some ⟨w.heap.size, 0, none⟩, some ⟨w.heap.size + 1, 0, none⟩, 0, 0, Nat.zero_le _, rfl, rfl, rfl, ?_, ?_, ⟨rfl, rfl⟩, ?_⟩
    · have h1 := own_below (emptyOk w) (bnewK (w.alloc (.cells #[] 66)) (.cells #[] 2))
      exact ⟨⟨own_base h1 hB, fun i hi => by simp at hi⟩, h1⟩
    · have h1 := emptyIk (w.alloc (.cells #[] 66))
      have e : (w.alloc (.cells #[] 66)).heap.size = w.heap.size + 1 := by simp
      rw [e] at h1
      exact own_base h1 (by omega)
    · exact ((Below.refl _ w).alloc (Nat.le_refl _) _).alloc (by simp) _
  case round =>
    obtain ⟨j, M, Q, am, ap, cm, cp, hj, rfl, rfl, rfl, HM, HQ, HU, HW⟩ := hrel
    have hws : w.heap.size ≤ wr.heap.size := HW.out.size
    have q1 : wr.cell? ⟨g, o + 1, none⟩ = some (.slice av P.length cv) := cell_keep HW.out HP1.out
    have hib := HI.out j hj
    have hMl : M.length ≤ 400 := by have h1 := hib.1.news; rw [HU.out.1, hib.2] at h1; simp at h1; omega
    have HQj : Hid (Q.length = j) := by show _ = _; rw [← HU.out.2]; exact hib.2
    have hQl : Q.length ≤ 200 := by rw [HQj.out]; omega
    by_cases hlt : j < P.length
    · obtain ⟨gp, c', hv, _, _⟩ := HO.out.row.form (by omega)
      obtain ⟨rfl, rfl⟩ : av = some ⟨gp, 0, none⟩ ∧ cv = c' := by simp at hv; exact hv
      obtain ⟨t, htt⟩ : ∃ t, t = P[j].1 := ⟨_, rfl⟩
      have HSp : Hid (∀ u, Below w.heap.size w u → ∃ ad cd, P[j].2 = .slice ad t.data.length cd ∧ Calls Tryz.prog 58 #[.pointer (some ⟨gp, j * 7, none⟩)] u fun e w' => AnsSp t (.slice ad t.data.length cd) u e w') := fun u hu => by
        obtain ⟨c0, c1, c2, c3, c4, c5, ad, cd, c6, hx, -⟩ := (HO.out.below hu).at j hlt
        rw [htt]
        exact ⟨ad, cd, hx, l11Split_any P[j].1 ad cd gp (j * 7) u c0 c1 c2 c3 c4 c5 c6⟩
      have HDt : Hid (∀ u, Below w.heap.size w u → u.ownsRow B 133 4 P[j].2 t.data.length (cellsD t.data)) := fun u hu => by rw [htt]; exact own_below (HO.out.data j hlt) hu
      have HUn : Hid (unfS l (j + 1) = putF (unfS l j) 1 (splitO t)) := by
        show _ = _
        have hjl : j < l.length := by omega
        have e : l[j] = t := by
          have := HL.out j hlt
          rw [List.getElem?_eq_getElem hjl] at this
          rw [htt]; exact Option.some.inj this
        rw [unfS_succ hjl, e]
      obtain ⟨ad, cd, hx2, -⟩ := HSp.out wr HW.out
      clear htt hv hib
      go_wp2_with (at_builtin; refine wpList_append_lies _ rfl (.tmp 17) (.tmp 20) 44 rfl w.heap.size 2 i0 _ 1 8 Tryz.underlying44 hi hz0 hz1 hz2 rfl (by decide) _ Q.length (cellsI Q) rfl (own_below HQ.out (bnewK _ _)) ⟨_, 0, none⟩ 1 1 [.int .i64 (M.length : Int)] rfl rfl ?f1 ?f2 (by decide) ?f3 ?f4 ?f5 _ rfl ?_)
      case f1 => exact newsI (heap_new' _ _ _ (by simp))
      case f2 => intro u hu; simp at hu; subst hu; rfl
      case f3 => unfold maxLen; omega
      case f4 => omega
      case f5 => simp; omega
      intro g1 cp1 w2 hown2 hgrow2 _ _
      have HB2 : Hid (Below w.heap.size w w2) := (HW.out.alloc HW.out.size _).grown hgrow2 (by simp; omega) (fun k hk => (HQ.out.lt k hk).1)
      have HM2 : Hid (OV w2 B (.slice am M.length cm) M ∧ w2.ownsRow w.heap.size 66 7 (.slice am M.length cm) M.length (cellsOp M)) := by
        have hq := own_below HQ.out (bnewK wr (.cells #[.int .i64 (M.length : Int)] 2))
        have hm := own_below HM.out.2 (bnewK wr (.cells #[.int .i64 (M.length : Int)] 2))
        exact ⟨(HM.out.1.below (bnewK _ _)).aside hq hgrow2 (by decide) (by decide), own_apart hm hgrow2 (fun g hg => typ_ne hm hq (by decide) g hg)⟩
      obtain ⟨Q', hQ'⟩ : ∃ Q', Q' = Q ++ [(M.length : Int)] := ⟨_, rfl⟩
      have hQ'l : Q'.length = Q.length + 1 := by rw [hQ']; simp
      have HQ2 : Hid (w2.ownsRow w.heap.size 2 1 (.slice (some ⟨g1, 0, none⟩) (Q.length + 1) cp1) (Q.length + 1) (cellsI Q')) := by rw [hQ', show cellsI (Q ++ [(M.length : Int)]) = cellsI Q ++ [.int .i64 (M.length : Int)] by simp [cellsI]]; exact hown2
      have HQe : Hid (Q' = Q ++ [(M.length : Int)]) := hQ'
      have q2 : w2.cell? ⟨g, o + 1, none⟩ = some (.slice (some ⟨gp, 0, none⟩) P.length cv) := cell_keep HB2.out HP1.out
      have HS2 : Hid (Calls Tryz.prog 58 #[.pointer (some ⟨gp, j * 7, none⟩)] w2 fun e w' => AnsSp t (.slice ad t.data.length cd) w2 e w') := by
        obtain ⟨ad', cd', hx', hc⟩ := HSp.out w2 HB2.out
        obtain ⟨rfl, rfl⟩ : ad = ad' ∧ cd = cd' := by rw [hx2] at hx'; simp at hx'; exact hx'
        exact hc
      have hw2 : w.heap.size ≤ w2.heap.size := HB2.out.size
      clear hown2 hgrow2 hQ' q1 HSp
      go_wp2_with fail
      refine HS2.out.mono ?_
      rintro e w3 ⟨qn, n, rfl, hn, hrow, b3⟩
      have HB3 : Hid (Below w.heap.size w w3) := HB2.out.trans (b3.mono HB2.out.size)
      have HM3 : Hid (OV w3 B (.slice am M.length cm) M ∧ w3.ownsRow w.heap.size 66 7 (.slice am M.length cm) M.length (cellsOp M)) := ⟨HM2.out.1.below b3, own_below HM2.out.2 b3⟩
      have HQ3 : Hid (w3.ownsRow w.heap.size 2 1 (.slice (some ⟨g1, 0, none⟩) (Q.length + 1) cp1) (Q.length + 1) (cellsI Q')) := own_below HQ2.out b3
      have HN3 : Hid (w3.ownsRow w2.heap.size 66 7 (.slice (some ⟨qn, 0, none⟩) n n) n (cellsOp (splitV t (.slice ad t.data.length cd)))) := hrow
      have HD3 : Hid (∀ x ∈ splitV t (.slice ad t.data.length cd), w3.ownsRow B 133 4 x.2 x.1.data.length (cellsD x.1.data)) := by
        have := HDt.out w3 HB3.out
        rw [hx2] at this
        exact splitV_data this
      have hnl := splitV_len t (.slice ad t.data.length cd)
      rw [← hn] at hnl
      have HSV : Hid ((splitV t (.slice ad t.data.length cd)).map Prod.fst = splitO t ∧ n = (splitV t (.slice ad t.data.length cd)).length) := ⟨splitV_fst _ _, hn⟩
      obtain ⟨N, hN⟩ : ∃ N, N = splitV t (.slice ad t.data.length cd) := ⟨_, rfl⟩
      rw [← hN] at HN3 HD3 HSV
      have hw3 : w2.heap.size ≤ w3.heap.size := b3.size
      clear hN hn hrow b3 HS2 HM2 HQ2 HB2 q2 HDt hx2
      go_wp2_with (at_builtin; refine wpList_append_lies _ rfl (.tmp 22) (.tmp 29) 49 rfl w.heap.size 66 i1 _ 7 80 Tryz.underlying49 hi1 hy0 hy1 hy2 rfl (by decide) _ M.length (cellsOp M) rfl HM3.out.2 ⟨qn, 0, none⟩ n n (cellsOp N) rfl HN3.out.1 (HN3.out.cells (g := qn) rfl) (cellsOp_one' N (fun x hx => own_oneS (HD3.out x hx))) hnl.1 ?f3 ?f4 ?f5 _ rfl ?_)
      case f3 => unfold maxLen; omega
      case f4 => omega
      case f5 => omega
      intro g2 cm2 w4 hown4 hgrow4 _ _
      have HB4 : Hid (Below w.heap.size w w4) := HB3.out.grown hgrow4 (by omega) (fun k hk => (HM3.out.2.lt k hk).1)
      obtain ⟨M', hM'⟩ : ∃ M', M' = M ++ N := ⟨_, rfl⟩
      have hM'l : M'.length = M.length + n := by rw [hM', HSV.out.2]; simp
      have HM4 : Hid (OV w4 B (.slice (some ⟨g2, 0, none⟩) M'.length cm2) M' ∧ w4.ownsRow w.heap.size 66 7 (.slice (some ⟨g2, 0, none⟩) M'.length cm2) M'.length (cellsOp M')) := by
        have h1 : w4.ownsRow w.heap.size 66 7 (.slice (some ⟨g2, 0, none⟩) M'.length cm2) M'.length (cellsOp M') := by rw [hM'l, hM', cellsOp_append]; exact hown4
        refine ⟨?_, h1⟩
        rw [hM'l, hM']
        exact OV.more HM3.out.1 HSV.out.2 HD3.out (own_base hown4 hB) hgrow4
      have HQ4 : Hid (w4.ownsRow w.heap.size 2 1 (.slice (some ⟨g1, 0, none⟩) Q'.length cp1) Q'.length (cellsI Q')) := by rw [hQ'l]; exact own_apart HQ3.out hgrow4 (fun g hg => typ_ne HQ3.out HM3.out.2 (by decide) g hg)
      have HU4 : Hid ((unfS l (j + 1)).1 = M'.map Prod.fst ∧ (unfS l (j + 1)).2 = Q') := by
        rw [HUn.out]
        refine ⟨?_, ?_⟩
        · show (unfS l j).1 ++ splitO t = _
          rw [hM', List.map_append, HU.out.1, HSV.out.1]
        · show (unfS l j).2 ++ List.replicate 1 ((unfS l j).1.length : Int) = _
          rw [HU.out.2, HU.out.1, HQe.out]; simp
      have hM'v : Value.slice (some ⟨g2, 0, none⟩) (M.length + n) cm2 = .slice (some ⟨g2, 0, none⟩) M'.length cm2 := by rw [hM'l]
      have hQ'v : Value.slice (some ⟨g1, 0, none⟩) (Q.length + 1) cp1 = .slice (some ⟨g1, 0, none⟩) Q'.length cp1 := by rw [hQ'l]
      have HMv : Hid (M'.length = M.length + n) := hM'l
      have HQv : Hid (Q'.length = Q.length + 1) := hQ'l
      clear hown4 hgrow4 hM' HU HM3 HQ3 HN3 HD3 HSV hM'v hQ'v hM'l hQ'l
      go_wp2
      exact ⟨⟨j + 1, M', Q', some ⟨g2, 0, none⟩, some ⟨g1, 0, none⟩, cm2, cp1, by omega, by rw [HMv.out], by rw [HQv.out], by go_num, HM4.out, HQ4.out, HU4.out, HB4.out⟩, by simp [RowKit.intOf]; omega⟩
    · have hje : j = P.length := by omega
      have HTg : Hid (∀ x ∈ M, hasT x.1 = true → 0 ≤ tgtO x.1 ∧ tgtO x.1 < (Q.length : Int)) := fun x hx hh => by
        have h1 := hib.1.ops x.1 (by rw [HU.out.1]; exact List.mem_map.2 ⟨x, hx, rfl⟩)
        have := h1.2.1 hh
        rw [hll] at this
        have := HQj.out
        omega
      have HTu : Hid (Calls Tryz.prog 59 #[.slice am M.length cm, .slice ap Q.length cp] wr fun e w' => e = .returned (.slice am M.length cm) ∧ OV w' B (.slice am M.length cm) (turnP Q M) ∧ wr.grownBy w' (Value.slice am M.length cm).ownBlock) := l11Turn_any M Q B w.heap.size cm cp am ap wr (by omega) (by omega) HM.out.1 HQ.out HTg.out
      have HR : Hid ((turnP Q M).map Prod.fst = unfO (P.map Prod.fst)) := by
        show _ = _
        rw [turnP_fst, HE.out]
        show _ = ((unfS l l.length).1).map (turnO (unfS l l.length).2)
        rw [hll, ← hje, HU.out.1, HU.out.2]
      clear hib HTg hje
      go_wp2_with fail
      refine HTu.out.mono ?_
      rintro e w3 ⟨rfl, h3, hg3⟩
      have HB3 : Hid (Below w.heap.size w w3) := HW.out.grown hg3 (by omega) (fun k hk => (HM.out.2.lt k hk).1)
      have HO3 : Hid (OV w3 B (.slice am M.length cm) (turnP Q M)) := h3
      clear h3 hg3
      go_wp2
      go_ret
      exact ⟨_, _, rfl, HO3.out, HR.out, HB3.out⟩
end Go.Proofs.YteboaiklibaomaaGreatDoor
/-
  The model's l9Copy: the same code in rows of its own; nothing that was there is turned.
-/
namespace Go.Proofs.YteboaiklibaomaaGreatDoor
open Go.RowKit Go.Extern.Stop Go.Stop Go.Extern Num Go.Lib

/-- A block under way: its box, and its operations so far. -/
structure BoxB (w : World) (gb : Nat) (args : Int) (v : Value) (P : List (Opr × Value)) : Prop where
  c0 : w.cell? ⟨gb, 0, none⟩ = some (.int .i64 args)
  c1 : w.cell? ⟨gb, 1, none⟩ = some v
  fz : ∀ j, w.frozen? ⟨gb, j, none⟩ = false
  ov : OV w (gb + 1) v P
set_option maxRecDepth 100000 in
set_option maxHeartbeats 2000000 in
theorem l9Copy_any (g cap B : Nat) (l : List Blk) (w : World) (hl : l.length ≤ 60) (hn : ∀ (k : Nat) (h : k < l.length), l[k].ops.length ≤ 200) (hz : ∀ (k : Nat) (h : k < l.length), l[k].small) (hB : RowBl w B g l) :
    Calls Tryz.prog 34 #[.slice (some ⟨g, 0, none⟩) l.length cap] w fun e w' => ∃ v R, e = .returned v ∧ BV w' w.heap.size v R ∧ R.map RB.blk = l ∧ Below w.heap.size w w' := by
  have HB : Hid (RowBl w B g l) := hB
  have HN : Hid (∀ (k : Nat) (h : k < l.length), l[k].ops.length ≤ 200) := hn
  have HZ : Hid (∀ (k : Nat) (h : k < l.length), l[k].small) := hz
  obtain ⟨i0, hi, hz0, hz1, hz2⟩ := info_parts infoBl
  obtain ⟨i1, hi1, hy0, hy1, hy2⟩ := info_parts infoOp
  clear hB hn hz
  go_enter Tryz.func34, Tryz.ntmps34
  go_wp2_with fail
  go_loopw [3, 4] (fun v i wr => ∃ (R : List RB) (am : Option Addr) (cm : Nat), R.length ≤ l.length ∧ v = .slice am R.length cm ∧ i = .int .i64 (R.length : Int) ∧ Hid (BV wr w.heap.size (.slice am R.length cm) R) ∧ Hid (R.map RB.blk = l.take R.length) ∧ Hid (Below w.heap.size w wr)) (fun _ i _ => l.length - (RowKit.intOf i).toNat)
  case atStart => exact ⟨[], some ⟨w.heap.size, 0, none⟩, 0, Nat.zero_le _, rfl, rfl, ⟨emptyBk w, fun i hi => by simp at hi⟩, by show _ = _; simp, bnewK w _⟩
  case round =>
    obtain ⟨R, am, cm, hR, rfl, rfl, HV, HM, HW⟩ := hrel
    have hws : w.heap.size ≤ wr.heap.size := HW.out.size
    by_cases hlt : R.length < l.length
    · obtain ⟨p0, gk, p1, hio⟩ := HB.out.below HW.out R.length hlt
      have hbn := HN.out R.length hlt
      have hbs := HZ.out R.length hlt
      obtain ⟨b, hb⟩ : ∃ b, b = l[R.length]'hlt := ⟨_, rfl⟩
      rw [← hb] at p0 p1 hio hbn hbs
      have HTk : Hid (l.take (R.length + 1) = l.take R.length ++ [b]) := by show _ = _; rw [List.take_add_one, List.getElem?_eq_getElem hlt, hb]; rfl
      have HP : Hid (∀ u, Below wr.heap.size wr u → u.cell? ⟨g, R.length * 2 + 1, none⟩ = some (.slice (some ⟨gk, 0, none⟩) b.ops.length b.ops.length) ∧ RowOp u B gk b.ops) := fun u hu => ⟨cell_keep hu p1, (hio.below hu).row⟩
      have HS : Hid b.small := hbs
      have hgl : g < wr.heap.size := lt_of_cell p0
      clear hb hbs hio p1
      go_wp2_with fail
      obtain ⟨X, hX⟩ : ∃ X, X = (wr.alloc (.cells #[.int .i64 b.args, .slice none 0 0] 51)) := ⟨_, rfl⟩
      have HBX : Hid (Below wr.heap.size wr X) := by rw [hX]; exact bnewK wr _
      have HX : Hid (BoxB X wr.heap.size b.args (.slice none 0 0) []) := by rw [hX]; exact ⟨by simp [go_sem], by simp [go_sem], fun j => by simp [go_sem], ⟨⟨rfl, .inl ⟨rfl, rfl⟩⟩, fun i hi => by simp at hi⟩⟩
      have hlX : wr.heap.size < X.heap.size := by rw [hX]; simp
      try rw [← hX]
      clear hX
      obtain ⟨wo, hwo⟩ : ∃ wo, wo = wr := ⟨_, rfl⟩
      subst hwo
      go_loopw [6] (fun u wz => ∃ (P : List (Opr × Value)) (av : Option Addr) (cv : Nat), P.length ≤ b.ops.length ∧ u = .int .i64 (P.length : Int) ∧ Hid (BoxB wz wo.heap.size b.args (.slice av P.length cv) P) ∧ Hid (P.map Prod.fst = b.ops.take P.length) ∧ Hid (Below wo.heap.size wo wz) ∧ wo.heap.size < wz.heap.size) (fun u _ => b.ops.length - (RowKit.intOf u).toNat)
      case atStart => exact ⟨[], none, 0, Nat.zero_le _, rfl, HX.out, by show _ = _; simp, HBX.out, hlX⟩
      case round =>
        obtain ⟨P, av, cv, hP, rfl, HX2, HM2, HB2, hlz⟩ := hrel
        clear HX HBX hlX
        obtain ⟨q1, hro⟩ := HP.out wr HB2.out
        have x0 := HX2.out.c0
        have x1 := HX2.out.c1
        have xf := HX2.out.fz
        by_cases hlk : P.length < b.ops.length
        · obtain ⟨e0, e1, e2, e3, e4, e5, gy, e6, hdy⟩ := hro P.length hlk
          have hsm := HS.out.names P.length hlk
          obtain ⟨t, ht⟩ : ∃ t, t = b.ops[P.length]'hlk := ⟨_, rfl⟩
          rw [← ht] at e0 e1 e2 e3 e4 e5 e6 hdy hsm
          have HTo : Hid (b.ops.take (P.length + 1) = b.ops.take P.length ++ [t]) := by show _ = _; rw [List.take_add_one, List.getElem?_eq_getElem hlk, ht]; rfl
          have hdl : t.data.length ≤ 1048576 := hsm.len
          obtain ⟨go, hgo⟩ : ∃ go, go = wr.heap.size := ⟨_, rfl⟩
          have HDy : Hid (∀ u, Below wr.heap.size wr u → u.ownsRow B 133 4 (.slice (some ⟨gy, 0, none⟩) t.data.length t.data.length) t.data.length (cellsD t.data)) := fun u hu => own_below hdy hu
          clear ht hsm hdy hro HS HP
          have HBr : Hid (∀ u, Below wr.heap.size wr u → Below wo.heap.size wo u) := fun u hu => HB2.out.trans (hu.mono HB2.out.size)
          subst hgo
          go_wp2_with (at_builtin; refine wpList_copyD rfl (.tmp 39) (.tmp 41) rfl (wr.heap.size + 1) (wr.heap.size + 1) rfl (emptyD' _ _ (by simp)) t.data (some ⟨gy, 0, none⟩) t.data.length B rfl (HDy.out _ (by repeat (first | exact Below.refl _ _ | refine Below.alloc ?_ (by simp) _))) hdl (by simp) ?_)
          intro ad2 cd2 w3 hd3 hgrow3
          have hb3 : Below wr.heap.size wr w3 := (((Below.refl _ wr).alloc (Nat.le_refl _) _).alloc (by simp) _).grown hgrow3 (by simp; omega) (fun k hk => by have := Option.some.inj hk; omega)
          have o0 : w3.cell? ⟨wr.heap.size, 0, none⟩ = some (.int .i64 t.kind) := hgrow3.cell (by simp [go_sem]) (by simp)
          have o1 : w3.cell? ⟨wr.heap.size, 1, none⟩ = some (.int .i64 t.a) := hgrow3.cell (by simp [go_sem]) (by simp)
          have o2 : w3.cell? ⟨wr.heap.size, 2, none⟩ = some (.int .i64 t.b) := hgrow3.cell (by simp [go_sem]) (by simp)
          have o3 : w3.cell? ⟨wr.heap.size, 3, none⟩ = some (.int .i64 t.c) := hgrow3.cell (by simp [go_sem]) (by simp)
          have o4 : w3.cell? ⟨wr.heap.size, 4, none⟩ = some (.int .i64 t.d) := hgrow3.cell (by simp [go_sem]) (by simp)
          have o5 : w3.cell? ⟨wr.heap.size, 5, none⟩ = some (.string t.name) := hgrow3.cell (by simp [go_sem]) (by simp)
          have o6 : w3.cell? ⟨wr.heap.size, 6, none⟩ = some (.slice (some ⟨gy, 0, none⟩) t.data.length t.data.length) := hgrow3.cell (by simp [go_sem]) (by simp)
          have of' : ∀ j, w3.frozen? ⟨wr.heap.size, j, none⟩ = false := fun j => fz_of hgrow3 (by simp; omega) (by simp) (by simp [go_sem])
          have hs3 : wr.heap.size + 1 < w3.heap.size := by have := hgrow3.size; simp at this; omega
          have x1' : w3.cell? ⟨wo.heap.size, 1, none⟩ = some (.slice av P.length cv) := cell_keep hb3 x1
          have HB3 : Hid (Below wr.heap.size wr (w3.setCell ⟨wr.heap.size, 6, none⟩ (.slice ad2 t.data.length cd2))) := hb3.setCell (Nat.le_refl _) _
          have HD3 : Hid ((w3.setCell ⟨wr.heap.size, 6, none⟩ (.slice ad2 t.data.length cd2)).ownsRow (wr.heap.size + 1) 133 4 (.slice ad2 t.data.length cd2) t.data.length (cellsD t.data)) := own_set_low hd3 (by omega) _
          have HX3 : Hid (BoxB (w3.setCell ⟨wr.heap.size, 6, none⟩ (.slice ad2 t.data.length cd2)) wo.heap.size b.args (.slice av P.length cv) P) := ⟨cell_keep HB3.out x0, cell_keep HB3.out x1, fun j => by rw [(bcell HB3.out).2 _ _ hlz]; exact xf j, HX2.out.ov.below HB3.out⟩
          clear hgrow3 hd3 hb3 e0 e1 e2 e3 e4 e5 e6 x0 x1 xf q1 HDy
          go_wp2_with (at_builtin; refine wpList_append_lies _ rfl (.tmp 45) (.tmp 47) 49 rfl (wo.heap.size + 1) 66 i1 _ 7 80 Tryz.underlying49 hi1 hy0 hy1 hy2 rfl (by decide) _ P.length (cellsOp P) rfl (own_below HX3.out.ov.row (bnewK _ _)) ⟨_, 0, none⟩ 1 1 [.int .i64 t.kind, .int .i64 t.a, .int .i64 t.b, .int .i64 t.c, .int .i64 t.d, .string t.name, .slice ad2 t.data.length cd2] rfl rfl ?f1 ?f2 (by decide) ?f3 ?f4 ?f5 _ rfl ?_)
          case f1 => exact World.news_of_block (cs := #[.int .i64 t.kind, .int .i64 t.a, .int .i64 t.b, .int .i64 t.c, .int .i64 t.d, .string t.name, .slice ad2 t.data.length cd2]) (t := 66) (fr := (0, 0)) (heap_new' _ _ _ (by simp))
          case f2 => intro u hu; simp at hu; rcases hu with rfl | rfl | rfl | rfl | rfl | rfl | rfl <;> rfl
          case f3 => unfold maxLen; omega
          case f4 => omega
          case f5 => simp; omega
          intro g' cap' w5 hown5 hgrow5 _ _
          obtain ⟨Y, hY⟩ : ∃ Y, Y = (w3.setCell ⟨wr.heap.size, 6, none⟩ (.slice ad2 t.data.length cd2)).alloc (.cells #[.int .i64 t.kind, .int .i64 t.a, .int .i64 t.b, .int .i64 t.c, .int .i64 t.d, .string t.name, .slice ad2 t.data.length cd2] 66) := ⟨_, rfl⟩
          rw [← hY] at hgrow5
          have hbY : Below (w3.setCell ⟨wr.heap.size, 6, none⟩ (.slice ad2 t.data.length cd2)).heap.size (w3.setCell ⟨wr.heap.size, 6, none⟩ (.slice ad2 t.data.length cd2)) Y := by rw [hY]; exact bnewK _ _
          have hov := HX3.out.ov.below hbY
          have hne : (Value.slice av P.length cv).ownBlock ≠ some wo.heap.size := fun e => by have := (hov.row.lt _ e).1; omega
          have y0 : w5.cell? ⟨wo.heap.size, 0, none⟩ = some (.int .i64 b.args) := hgrow5.cell (cell_keep hbY HX3.out.c0) (Ne.symm hne)
          have y1 : w5.cell? ⟨wo.heap.size, 1, none⟩ = some (.slice av P.length cv) := hgrow5.cell (cell_keep hbY HX3.out.c1) (Ne.symm hne)
          have hlo : wo.heap.size < (w3.setCell ⟨wr.heap.size, 6, none⟩ (.slice ad2 t.data.length cd2)).heap.size := by simp; omega
          have yf : ∀ j, w5.frozen? ⟨wo.heap.size, j, none⟩ = false := fun j => fz_of hgrow5 (Nat.lt_of_lt_of_le hlo hbY.size) (Ne.symm hne) (by rw [(bcell hbY).2 _ _ hlo]; exact HX3.out.fz j)
          have hsn := OV.snoc hov rfl (own_below (own_base HD3.out (show wo.heap.size + 1 ≤ wr.heap.size + 1 by omega)) hbY) hown5 hgrow5
          obtain ⟨P', hP'⟩ : ∃ P', P' = P ++ [(t, Value.slice ad2 t.data.length cd2)] := ⟨_, rfl⟩
          have hl' : P'.length = P.length + 1 := by rw [hP']; simp
          rw [← hP'] at hsn
          have HX5 : Hid (BoxB (w5.setCell ⟨wo.heap.size, 1, none⟩ (.slice (some ⟨g', 0, none⟩) (P.length + 1) cap')) wo.heap.size b.args (.slice (some ⟨g', 0, none⟩) P'.length cap') P') := ⟨by simp [go_sem, y0], by rw [hl']; simp [go_sem, y1], fun j => by simp [yf], by rw [hl']; exact hsn.setLow (by omega)⟩
          have HM5 : Hid (P'.map Prod.fst = b.ops.take P'.length) := by show _ = _; rw [hl', HTo.out, hP', List.map_append, HM2.out]; rfl
          have HB5 : Hid (Below wo.heap.size wo (w5.setCell ⟨wo.heap.size, 1, none⟩ (.slice (some ⟨g', 0, none⟩) (P.length + 1) cap'))) := (((HBr.out _ HB3.out).trans (hbY.mono (by omega))).grown hgrow5 (by have := hbY.size; omega) (fun k hk => by have := (hov.row.lt k hk).1; omega)).setCell (Nat.le_refl _) _
          have hs5 : wo.heap.size < w5.heap.size := by have := hgrow5.size; have := hbY.size; omega
          clear hsn hov hbY hY hgrow5 hown5 hne y0 hP' o0 o1 o2 o3 o4 o5 o6 of'
          go_wp2
          exact ⟨⟨P', some ⟨g', 0, none⟩, cap', by omega, by rw [hl']; go_num, HX5.out, HM5.out, HB5.out, by simpa using hs5⟩, by simp [RowKit.intOf]; omega⟩
        · have hPe : P.length = b.ops.length := by omega
          have HBk : Hid (RB.blk ⟨b.args, .slice av P.length cv, P⟩ = b) := by show (⟨b.args, P.map Prod.fst⟩ : Blk) = b; rw [HM2.out, hPe, List.take_length]
          have HVr : Hid (BV wr w.heap.size (.slice am R.length cm) R) := HV.out.below HB2.out
          have HOr : Hid (OV wr w.heap.size (.slice av P.length cv) P) := HX2.out.ov.base (by omega)
          have HBr : Hid (Below w.heap.size w wr) := HW.out.trans (HB2.out.mono HW.out.size)
          clear hPe hro
          go_wp2_with (at_builtin; refine wpList_append_lies _ rfl (.tmp 50) (.tmp 52) 24 rfl w.heap.size 51 i0 _ 2 32 Tryz.underlying24 hi hz0 hz1 hz2 rfl (by decide) _ R.length (cellsR R) rfl (own_below HVr.out.row (bnewK _ _)) ⟨_, 0, none⟩ 1 1 [.int .i64 b.args, .slice av P.length cv] rfl rfl ?f1 ?f2 (by decide) ?f3 ?f4 ?f5 _ rfl ?_)
          case f1 => exact World.news_of_block (cs := #[.int .i64 b.args, .slice av P.length cv]) (t := 51) (fr := (0, 0)) (heap_new' _ _ _ (by simp))
          case f2 => intro u hu; simp at hu; rcases hu with rfl | rfl <;> rfl
          case f3 => unfold maxLen; omega
          case f4 => omega
          case f5 => simp; omega
          intro g' cap' w5 hown5 hgrow5 _ _
          have hsn := BV.snoc (HVr.out.below (bnewK _ _)) rfl (HOr.out.below (bnewK _ _)) hown5 hgrow5
          have HB5 : Hid (Below w.heap.size w w5) := (HBr.out.alloc HBr.out.size _).grown hgrow5 (by simp; omega) (fun k hk => (HVr.out.row.lt k hk).1)
          obtain ⟨R', hR'⟩ : ∃ R', R' = R ++ [⟨b.args, .slice av P.length cv, P⟩] := ⟨_, rfl⟩
          have hl' : R'.length = R.length + 1 := by rw [hR']; simp
          rw [← hR'] at hsn
          have HM5 : Hid (R'.map RB.blk = l.take R'.length) := by show _ = _; rw [hl', HTk.out, hR', List.map_append, HM.out]; simp only [List.map_cons, List.map_nil]; rw [HBk.out]
          have HV5 : Hid (BV w5 w.heap.size (.slice (some ⟨g', 0, none⟩) R'.length cap') R') := by rw [hl']; exact hsn
          clear hsn hgrow5 hown5 hR'
          go_wp2
          exact ⟨⟨R', some ⟨g', 0, none⟩, cap', by omega, by rw [hl'], by rw [hl']; go_num, HV5.out, HM5.out, HB5.out⟩, by simp [RowKit.intOf]; omega⟩
    · have HE : Hid (R.map RB.blk = l) := by
        show _ = _
        rw [HM.out, show R.length = l.length by omega, List.take_length]
      clear HM
      go_wp2
      go_ret
      exact ⟨_, R, rfl, HV.out, HE.out, HW.out⟩
end Go.Proofs.YteboaiklibaomaaGreatDoor
/-
  The model's UnfuseCode: code taken apart, block by block; nothing that was there is turned.
-/
namespace Go.Proofs.YteboaiklibaomaaGreatDoor
open Go.RowKit Go.Extern.Stop Go.Stop Go.Extern Num Go.Lib

theorem cellsR_set1 : ∀ (R : List RB) (k : Nat) (h : k < R.length) (v : Value) (P : List (Opr × Value)), (cellsR R).set (k * 2 + 1) v = cellsR (R.set k ⟨R[k].args, v, P⟩)
  | [], k, h, _, _ => absurd h (Nat.not_lt_zero k)
  | r :: s, 0, _, _, _ => rfl
  | r :: s, k + 1, h, v, P => by
    have := cellsR_set1 s k (by simpa using h) v P
    rw [show (k + 1) * 2 + 1 = k * 2 + 1 + 1 + 1 by omega]
    show .int .i64 r.args :: r.v :: (cellsR s).set (k * 2 + 1) _ = _
    rw [this]; rfl
theorem OV.setRow {w : World} {B B' g n cap off : Nat} {v x : Value} {P : List (Opr × Value)} {xs : List Value} (h : OV w B v P) (ho : w.ownsRow B' 51 2 (.slice (some ⟨g, 0, none⟩) n cap) n xs) : OV (w.setCell ⟨g, off, none⟩ x) B v P :=
  ⟨own_set' h.row (fun b hb e => typ_ne h.row ho (by decide) b hb (by rw [e]; rfl)) x, fun i hi => own_set' (h.data i hi) (fun b hb e => typ_ne (h.data i hi) ho (by decide) b hb (by rw [e]; rfl)) x⟩
/-- The operations of a block are put in place of the old ones. -/
theorem BV.putOps {w : World} {B g cap k : Nat} {v : Value} {P : List (Opr × Value)} {R : List RB} (h : BV w B (.slice (some ⟨g, 0, none⟩) R.length cap) R) (hk : k < R.length) (hv : OV w B v P) : BV (w.setCell ⟨g, k * 2 + 1, none⟩ v) B (.slice (some ⟨g, 0, none⟩) R.length cap) (R.set k ⟨R[k].args, v, P⟩) := by
  refine ⟨?_, fun i hi => ?_⟩
  · rw [← cellsR_set1 R k hk v P, List.length_set]; exact own_put h.row _ _
  · rw [List.length_set] at hi
    by_cases e : k = i
    · subst e
      rw [List.getElem_set_self]; exact hv.setRow h.row
    · rw [List.getElem_set_ne e]; exact (h.ops i hi).setRow h.row
def AnsC (c : Int) (l' : List Blk) (w : World) (e : Ending) (w' : World) : Prop := ∃ v, e = .returned (.agg #[.int .i64 c, v]) ∧ SeeB w' v l' ∧ Below w.heap.size w w'
theorem seeNil (w : World) : SeeB w (.slice none 0 0) [] := ⟨none, 0, rfl, fun h => absurd h (by simp)⟩
theorem take_set_drop {α : Type} (f : α → α) (l : List α) (i : Nat) (h : i < l.length) : ((l.take i).map f ++ l.drop i).set i (f l[i]) = (l.take (i + 1)).map f ++ l.drop (i + 1) := by
  have hl : ((l.take i).map f).length = i := by simp; omega
  rw [List.set_append_right _ _ (by omega), hl, Nat.sub_self, List.drop_eq_getElem_cons h, List.set_cons_zero, List.take_add_one, List.getElem?_eq_getElem h]
  simp only [List.map_append, Option.toList, List.map_cons, List.map_nil, List.append_assoc, List.cons_append, List.nil_append]
theorem midB_at {α : Type} (f : α → α) (l : List α) (i : Nat) (h : i < l.length) (h' : i < ((l.take i).map f ++ l.drop i).length) : ((l.take i).map f ++ l.drop i)[i] = l[i] := by
  rw [List.getElem_append_right (by simp; omega)]
  simp [Nat.min_eq_left (Nat.le_of_lt h)]
set_option maxRecDepth 100000 in
set_option maxHeartbeats 2000000 in
theorem specUc_any (g cap B : Nat) (l : List Blk) (ok : Bool) (w : World) (hl : l.length ≤ 1048576) (hz : ∀ (k : Nat) (h : k < l.length), l[k].small) (hB : RowBl w B g l) (hok : OkR l ok) :
    Calls Tryz.prog 15 #[.slice (some ⟨g, 0, none⟩) l.length cap] w fun e w' => AnsC (codeU ok l) (blksU ok l) w e w' := by
  obtain ⟨W, hW⟩ : ∃ W, W = w.alloc (.cells #[.int .i64 0, .slice none 0 0] 26) := ⟨_, rfl⟩
  have HW : Hid (W = w.alloc (.cells #[.int .i64 0, .slice none 0 0] 26)) := hW
  have hb0 : Below w.heap.size w W := by rw [hW]; exact bnewK _ _
  have r0 : W.cell? ⟨w.heap.size, 0, none⟩ = some (.int .i64 0) := by rw [hW]; simp [go_sem]
  have r1 : W.cell? ⟨w.heap.size, 1, none⟩ = some (.slice none 0 0) := by rw [hW]; simp [go_sem]
  have rf : ∀ j, W.frozen? ⟨w.heap.size, j, none⟩ = false := fun j => by rw [hW]; simp [go_sem]
  have rl : w.heap.size < W.heap.size := by rw [hW]; simp
  have HQ : Hid (∀ u, Below W.heap.size W u → u.cell? ⟨w.heap.size, 0, none⟩ = some (.int .i64 0) ∧ u.cell? ⟨w.heap.size, 1, none⟩ = some (.slice none 0 0) ∧ (∀ j, u.frozen? ⟨w.heap.size, j, none⟩ = false) ∧ w.heap.size < u.heap.size) := fun u hu => ⟨cell_keep hu r0, cell_keep hu r1, fun j => by rw [(bcell hu).2 _ _ rl]; exact rf j, Nat.lt_of_lt_of_le rl hu.size⟩
  have HB0 : Hid (Below w.heap.size w W) := hb0
  have HB : Hid (RowBl W B g l) := hB.below hb0
  have HF : Hid (Calls Tryz.prog 21 #[.slice (some ⟨g, 0, none⟩) l.length cap] W fun e w' => AnsF ok l W e w') := l10Fault_any g cap B l ok W hl hz (hB.below hb0) hok
  have HFi : Hid (codeF ok l = 0 → l.length ≤ 60 ∧ ∀ (k : Nat) (h : k < l.length), FineB l[k]) := fun h0 => fineB_of h0 hok hz
  have HZ : Hid (∀ (k : Nat) (h : k < l.length), l[k].small) := hz
  obtain ⟨C, hC⟩ : ∃ C, C = codeU ok l := ⟨_, rfl⟩
  obtain ⟨V, hV⟩ : ∃ V, V = blksU ok l := ⟨_, rfl⟩
  rw [← hC, ← hV]
  have HC : Hid (C = codeU ok l ∧ V = blksU ok l) := ⟨hC, hV⟩
  clear hC hV hB hz hok hW r0 r1 rf rl hb0
  go_enter Tryz.func15, Tryz.ntmps15
  go_wp2_with fail
  rw [← HW.out]
  refine HF.out.mono ?_
  rintro e w1 ⟨hcase, b1⟩
  have HB1 : Hid (Below W.heap.size W w1) := b1
  have HBw : Hid (∀ u, Below W.heap.size W u → Below w.heap.size w u) := fun u hu => HB0.out.trans (hu.mono HB0.out.size)
  clear b1 HF HW
  rcases hcase with ⟨hn, rfl⟩ | ⟨h0, A, gA, cA, -, rfl, -⟩
  · obtain ⟨D, hD⟩ : ∃ D, D = codeF ok l := ⟨_, rfl⟩
    have HE : Hid (C = D ∧ V = []) := ⟨by rw [HC.out.1]; unfold codeU; rw [if_pos hn, hD], by rw [HC.out.2]; unfold blksU; rw [if_pos hn]⟩
    rw [← hD] at hn ⊢
    have hcn : (D != 0) = true := by rw [bne_iff_ne]; exact hn
    obtain ⟨q0, q1, qf, ql⟩ := HQ.out w1 HB1.out
    have HBx : Hid (Below w.heap.size w w1) := HBw.out _ HB1.out
    clear hn HQ hD
    go_wp2
    refine bodyPost_ret (v := .agg #[.int .i64 D, .slice none 0 0]) (by simp [results, Tryz.results15, go_sem, q0, q1]) rfl ⟨.slice none 0 0, by rw [HE.out.1], by rw [HE.out.2]; exact seeNil _, ?_⟩
    repeat (first | refine Below.setCell ?_ (by simp) _ | exact HBx.out)
  · obtain ⟨h60, hfine⟩ := HFi.out h0
    have HFn : Hid (∀ (k : Nat) (h : k < l.length), FineB l[k]) := hfine
    have HC2 : Hid (C = (if manyU l then 2 else 0) ∧ V = if manyU l then [] else l.map unfB) := ⟨by rw [HC.out.1]; unfold codeU; rw [if_neg (by simp [h0])], by rw [HC.out.2]; unfold blksU; rw [if_neg (by simp [h0])]⟩
    have HCp : Hid (Calls Tryz.prog 34 #[.slice (some ⟨g, 0, none⟩) l.length cap] w1 fun e w' => ∃ v R, e = .returned v ∧ BV w' w1.heap.size v R ∧ R.map RB.blk = l ∧ Below w1.heap.size w1 w') := l9Copy_any g cap B l w1 h60 (fun k hk => (hfine k hk).len) HZ.out (HB.out.below HB1.out)
    clear hfine h0 HC HFi
    go_wp2_with fail
    refine HCp.out.mono ?_
    rintro e w2 ⟨v, R0, rfl, hv, hR0, b2⟩
    have HB2 : Hid (Below w1.heap.size w1 w2) := b2
    have HV : Hid (BV w2 w1.heap.size v R0) := hv
    have HR0 : Hid (R0.map RB.blk = l) := hR0
    have HL0 : Hid (R0.length = l.length) := by show _ = _; rw [← hR0]; simp
    obtain ⟨av, cv, rfl⟩ := own_form hv.row
    have hv2 : Value.slice av R0.length cv = .slice av l.length cv := by rw [HL0.out]
    rw [hv2] at HV ⊢
    clear hv hR0 b2 HCp hv2
    go_wp2_with fail
    go_loopw [6] (fun u wr => ∃ (i : Nat) (R : List RB), i ≤ l.length ∧ u = .int .i64 (i : Int) ∧ Hid (BV wr w1.heap.size (.slice av l.length cv) R) ∧ Hid (R.map RB.blk = (l.take i).map unfB ++ l.drop i) ∧ Hid (∀ (k : Nat) (h : k < l.length), k < i → ¬ (200 < (unfO l[k].ops).length)) ∧ Hid (Below w1.heap.size w1 wr)) (fun u _ => l.length - (RowKit.intOf u).toNat)
    case atStart => exact ⟨0, R0, Nat.zero_le _, rfl, HV.out, by show _ = _; simp [HR0.out], fun k _ hk => by omega, HB2.out⟩
    case round =>
      obtain ⟨i, R, hi, rfl, HVr, HM, HNo, HBr⟩ := hrel
      have HRl : Hid (R.length = l.length) := by
        show _ = _
        have := congrArg List.length HM.out
        simp at this; omega
      have HBW : Hid (Below W.heap.size W wr) := HB1.out.trans (HBr.out.mono HB1.out.size)
      obtain ⟨q0, q1, qf, ql⟩ := HQ.out wr HBW.out
      have HBx : Hid (Below w.heap.size w wr) := HBw.out _ HBW.out
      by_cases hlt : i < l.length
      · have hiR : i < R.length := by have := HRl.out; omega
        have hVr' : BV wr w1.heap.size (.slice av R.length cv) R := by rw [HRl.out]; exact HVr.out
        obtain ⟨gv, c', hform, _, _⟩ := hVr'.row.form (by omega)
        obtain ⟨rfl, rfl⟩ : av = some ⟨gv, 0, none⟩ ∧ cv = c' := by simp at hform; exact hform
        obtain ⟨c0, ao, cj, c1, hve⟩ := hVr'.at i hiR
        have hop := hVr'.ops i hiR
        have hRi : R[i].blk = l[i] := by
          have e1 : (R.map RB.blk)[i]'(by simpa using hiR) = R[i].blk := by simp
          rw [← e1]
          simp only [HM.out]
          exact midB_at unfB l i hlt _
        have hfb := HFn.out i hlt
        rw [← hRi] at hfb
        rw [hve] at hop
        obtain ⟨P, hP⟩ : ∃ P, P = R[i].P := ⟨_, rfl⟩
        have hPl : P.length ≤ 200 := by have := hfb.len; rw [hP]; simpa [RB.blk] using this
        have hfP : ∀ x ∈ P, fine1 P.length x.1 := fun x hx => by
          have := hfb.ops x.1 (by show x.1 ∈ R[i].P.map Prod.fst; rw [← hP]; exact List.mem_map.2 ⟨x, hx, rfl⟩)
          have e : R[i].blk.ops.length = P.length := by rw [hP]; simp [RB.blk]
          rw [e] at this; exact this
        have HPo : Hid (P.map Prod.fst = l[i].ops) := by show _ = _; rw [hP, ← hRi]; rfl
        have HAr : Hid (R[i].args = l[i].args) := by show _ = _; rw [← hRi]; rfl
        rw [← hP] at c1 hop
        have HUn : Hid (Calls Tryz.prog 35 #[.pointer (some ⟨gv, i * 2, none⟩)] wr fun e w' => AnsUn P w1.heap.size wr e w') := l11Unfuse_any P gv (i * 2) w1.heap.size cj ao wr hPl hfP c1 hop HBr.out.size
        have HVR : Hid (BV wr w1.heap.size (.slice (some ⟨gv, 0, none⟩) R.length cv) R) := hVr'
        have hgw : w1.heap.size ≤ gv := (hVr'.row.lt gv rfl).1
        clear hfP hop hfb hve hP hform hRi c0 c1 hVr' hPl
        go_wp2_with fail
        refine HUn.out.mono ?_
        rintro e w3 ⟨v3, P3, rfl, h3, hP3, b3⟩
        obtain ⟨a3, c3, rfl⟩ := own_form h3.row
        have HB3 : Hid (Below w1.heap.size w1 w3) := HBr.out.trans (b3.mono HBr.out.size)
        have HV3 : Hid (BV w3 w1.heap.size (.slice (some ⟨gv, 0, none⟩) R.length cv) R) := HVR.out.below b3
        have HO3 : Hid (OV w3 w1.heap.size (.slice a3 P3.length c3) P3) := h3
        have HP3 : Hid (P3.map Prod.fst = unfO l[i].ops) := by show _ = _; rw [hP3, HPo.out]
        have HPl : Hid ((unfO l[i].ops).length = P3.length) := by show _ = _; rw [← HP3.out]; simp
        have HBW3 : Hid (Below W.heap.size W w3) := HBW.out.trans (b3.mono HBW.out.size)
        clear h3 hP3 b3 q0 q1 qf ql HBx
        obtain ⟨q0, q1, qf, ql⟩ := HQ.out w3 HBW3.out
        have HBx : Hid (Below w.heap.size w w3) := HBw.out _ HBW3.out
        by_cases h200 : 200 < P3.length
        · have HMy : Hid (C = 2 ∧ V = []) := by
            have hm : manyU l = true := by
              unfold manyU
              exact List.any_eq_true.2 ⟨l[i], List.getElem_mem hlt, by rw [HPl.out]; simpa using h200⟩
            have := HC2.out
            rw [hm] at this
            exact this
          clear HVR HUn HPo HAr
          go_wp2
          refine bodyPost_ret (v := .agg #[.int .i64 2, .slice none 0 0]) (by simp [results, Tryz.results15, go_sem, q0, q1]) rfl ⟨.slice none 0 0, by rw [HMy.out.1], by rw [HMy.out.2]; exact seeNil _, ?_⟩
          repeat (first | refine Below.setCell ?_ (by simp) _ | exact HBx.out)
        · have hb4 := HV3.out.putOps hiR HO3.out
          obtain ⟨R', hR'⟩ : ∃ R', R' = R.set i ⟨R[i].args, .slice a3 P3.length c3, P3⟩ := ⟨_, rfl⟩
          have HV4 : Hid (BV (w3.setCell ⟨gv, i * 2 + 1, none⟩ (.slice a3 P3.length c3)) w1.heap.size (.slice (some ⟨gv, 0, none⟩) l.length cv) R') := by rw [hR', ← HRl.out]; exact hb4
          have HM4 : Hid (R'.map RB.blk = (l.take (i + 1)).map unfB ++ l.drop (i + 1)) := by
            show _ = _
            rw [hR', List.map_set, HM.out, ← take_set_drop unfB l i hlt]
            congr 1
            show (⟨R[i].args, P3.map Prod.fst⟩ : Blk) = unfB l[i]
            rw [HP3.out, HAr.out]; rfl
          have HN4 : Hid (∀ (k : Nat) (h : k < l.length), k < i + 1 → ¬ (200 < (unfO l[k].ops).length)) := fun k hk hki => by
            by_cases e : k < i
            · exact HNo.out k hk e
            · have : k = i := by omega
              subst this
              rw [HPl.out]; exact h200
          have HB4 : Hid (Below w1.heap.size w1 (w3.setCell ⟨gv, i * 2 + 1, none⟩ (.slice a3 P3.length c3))) := HB3.out.setCell hgw _
          obtain ⟨-, am0, cm0, k1, -⟩ := HV3.out.at i hiR
          have kf : ∀ j, w3.frozen? ⟨gv, j, none⟩ = false := fun j => own_frozen HV3.out.row j
          clear hb4 hR' HVR HUn HPo HAr HM HNo
          go_wp2
          exact ⟨⟨i + 1, R', by omega, by go_num, HV4.out, HM4.out, HN4.out, HB4.out⟩, by simp [RowKit.intOf]; omega⟩
      · have hie : i = l.length := by omega
        have HMy : Hid (C = 0 ∧ V = R.map RB.blk) := by
          have hm : manyU l = false := by
            unfold manyU
            rw [List.any_eq_false]
            intro b hb
            obtain ⟨k, hk, rfl⟩ := List.getElem_of_mem hb
            simpa using HNo.out k hk (by omega)
          have h1 := HC2.out
          rw [hm] at h1
          refine ⟨h1.1, ?_⟩
          rw [HM.out, hie, List.take_length, List.drop_length, List.append_nil]
          exact h1.2
        have HSee : Hid (SeeB wr (.slice av l.length cv) (R.map RB.blk)) := HVr.out.see
        have hne : ∀ b, footR (.slice av l.length cv) R b → b ≠ w.heap.size := fun b hb e => by have h1 := (HVr.out.foot hb).1; have h2 := HB1.out.size; have h3 := (HQ.out W (Below.refl _ _)).2.2.2; omega
        have HSet : Hid (∀ (u : World), BV u w1.heap.size (.slice av l.length cv) R → ∀ j x, BV (u.setCell ⟨w.heap.size, j, none⟩ x) w1.heap.size (.slice av l.length cv) R) := fun u h j x => ⟨own_set' h.row (fun b hb => hne b (.inl hb)) x, fun k hk => ⟨own_set' (h.ops k hk).row (fun b hb => hne b (.inr ⟨k, hk, .inl hb⟩)) x, fun m hm => own_set' ((h.ops k hk).data m hm) (fun b hb => hne b (.inr ⟨k, hk, .inr ⟨m, hm, hb⟩⟩)) x⟩⟩
        clear hie hne HM HNo
        go_wp2
        refine bodyPost_ret (v := .agg #[.int .i64 0, .slice av l.length cv]) (by simp [results, Tryz.results15, go_sem, q0, q1]) rfl ⟨.slice av l.length cv, by rw [HMy.out.1], by rw [HMy.out.2]; exact (HSet.out _ (HSet.out _ HVr.out _ _) _ _).see, ?_⟩
        repeat (first | refine Below.setCell ?_ (by simp) _ | exact HBx.out)
end Go.Proofs.YteboaiklibaomaaGreatDoor
