/-
  Parts of the proof laid into one text, one behind the other: ImplTe, ImplTf, ImplTg, ImplTh, ImplTi, ImplTj, ImplTk. Contracts of the program's and the model's functions, and what they are proved of, as their theorems say.
-/
import Derived.Test.YtoafolefecddmaaGreatDoorMkB
import Derived.Test.YtoafolefecddmaaGreatDoorUgE
import Derived.Laws.EntriesVeiled
import Derived.Test.YtoafolefecddmaaGreatDoorUfA
import Derived.Test.YtoafolefecddmaaGreatDoorOpNumHv
import Derived.Test.YtoafolefecddmaaGreatDoorFacts
import Derived.Test.YtoafolefecddmaaGreatDoorTjB
import Derived.Test.YtoafolefecddmaaGreatDoorHjD
import Derived.Test.YtoafolefecddmaaGreatDoorHjC
import Derived.Test.YtoafolefecddmaaGreatDoorUfB
import Derived.Test.YtoafolefecddmaaGreatDoorCoB
import Derived.Laws.IdiomCopy
namespace Go.Proofs.YtoafolefecddmaaGreatDoor
open Go.RowKit Go.Extern.Stop Go.Stop Go.Extern Num Go.Lib
theorem bnewF (u : World) (o : Obj) : Below u.heap.size u (u.alloc o) := (Below.refl _ _).alloc (Nat.le_refl _) _
theorem copyDatum_any (t : Dat) (w : World) (ht : t.name.size ≤ 1048576) : Calls Tryz.prog 129 #[t.val] w fun e w' => e = .returned t.val ∧ Below w.heap.size w w' := by
  have HC : Hid (∀ u, Calls Tryz.prog 127 #[.string t.name] u fun e w' => e = .returned (.string t.name) ∧ Below u.heap.size u w') := fun u => clone_any t.name u (by omega)
  clear ht
  go_enter Tryz.func129, Tryz.ntmps129
  go_wp2_with fail
  refine (HC.out _).mono ?_
  rintro e w1 ⟨rfl, b1⟩
  obtain ⟨hc, hf⟩ := bcell b1
  have d0 : w1.cell? ⟨w.heap.size, 0, none⟩ = some (.int .i64 t.kind) := by rw [hc _ _ (by simp <;> omega)]; simp [go_sem]
  have d1 : w1.cell? ⟨w.heap.size, 1, none⟩ = some (.int .i64 t.parent) := by rw [hc _ _ (by simp <;> omega)]; simp [go_sem]
  have d2 : w1.cell? ⟨w.heap.size, 2, none⟩ = some (.int .i64 t.num) := by rw [hc _ _ (by simp <;> omega)]; simp [go_sem]
  have d3 : w1.cell? ⟨w.heap.size, 3, none⟩ = some (.string t.name) := by rw [hc _ _ (by simp <;> omega)]; simp [go_sem]
  have df : ∀ j, w1.frozen? ⟨w.heap.size, j, none⟩ = false := fun j => by rw [hf _ _ (by simp <;> omega)]; simp [go_sem]
  have r0 : w1.cell? ⟨w.heap.size + 1, 0, none⟩ = some (.int .i64 0) := by rw [hc _ _ (by simp)]; simp [go_sem]
  have r1 : w1.cell? ⟨w.heap.size + 1, 1, none⟩ = some (.int .i64 0) := by rw [hc _ _ (by simp)]; simp [go_sem]
  have r2 : w1.cell? ⟨w.heap.size + 1, 2, none⟩ = some (.int .i64 0) := by rw [hc _ _ (by simp)]; simp [go_sem]
  have r3 : w1.cell? ⟨w.heap.size + 1, 3, none⟩ = some (.string ⟨#[]⟩) := by rw [hc _ _ (by simp)]; simp [go_sem]
  have rf : ∀ j, w1.frozen? ⟨w.heap.size + 1, j, none⟩ = false := fun j => by rw [hf _ _ (by simp)]; simp [go_sem]
  have hs1 : w.heap.size + 1 < w1.heap.size := by have := b1.size; simp at this; omega
  have HB : Hid (Below w.heap.size w w1) := (((Below.refl _ w).alloc (Nat.le_refl _) _).alloc (by simp) _).trans (b1.mono (by simp; omega))
  clear hc hf b1
  go_wp2
  refine bodyPost_ret (v := t.val) (by simp [results, Tryz.results129, go_sem, r0, r1, r2, r3]) rfl ⟨rfl, ?_⟩
  repeat (first | refine Below.setCell ?_ (by simp) _ | exact HB.out)
set_option maxRecDepth 100000 in
set_option maxHeartbeats 2000000 in
theorem turnDD_any (ao : Option Addr) (cap B : Nat) (l : List Dat) (w : World) (hl : l.length ≤ 1048576) (hz : ∀ (k : Nat) (h : k < l.length), l[k].name.size ≤ 1048576) (ho : w.ownsRow B 196 4 (.slice ao l.length cap) l.length (cellsD l)) :
    Calls Tryz.prog 128 #[.slice ao l.length cap, .func (.func 129) #[] #[]] w fun e w' => ∃ v, e = .returned v ∧ w'.ownsRow w.heap.size 196 4 v l.length (cellsD l) ∧ Below w.heap.size w w' := by
  have HO : Hid (w.ownsRow B 196 4 (.slice ao l.length cap) l.length (cellsD l)) := ho
  have HZ : Hid (∀ (k : Nat) (h : k < l.length), l[k].name.size ≤ 1048576) := hz
  obtain ⟨i0, hi, hz0, hz1, hz2⟩ := info_parts infoD
  clear ho hz
  go_enter Tryz.func128, Tryz.ntmps128
  go_wp2_with fail
  go_loopw [5, 10] (fun v i wr => ∃ (k : Nat) (am : Option Addr) (cm : Nat), k ≤ l.length ∧ v = .slice am k cm ∧ i = .int .i64 (k : Int) ∧ Hid (wr.ownsRow w.heap.size 196 4 (.slice am k cm) k (cellsD (l.take k))) ∧ Hid (Below w.heap.size w wr)) (fun _ i _ => l.length - (RowKit.intOf i).toNat)
  case atStart => exact ⟨0, none, 0, Nat.zero_le _, rfl, rfl, ⟨rfl, .inl ⟨rfl, rfl⟩⟩, Below.refl _ _⟩
  case round =>
    obtain ⟨k, am, cm, hk, rfl, rfl, HM, HB⟩ := hrel
    by_cases hlt : k < l.length
    · obtain ⟨g, c', hv, _, _⟩ := HO.out.form (by omega)
      obtain ⟨rfl, rfl⟩ : ao = some ⟨g, 0, none⟩ ∧ cap = c' := by simp at hv; exact hv
      obtain ⟨c0, c1, c2, c3⟩ := rowD_at (own_below HO.out HB.out) k hlt
      obtain ⟨t, ht⟩ : ∃ t, t = l[k]'hlt := ⟨_, rfl⟩
      have HTk : Hid (l.take (k + 1) = l.take k ++ [t]) := by show _ = _; rw [List.take_add_one, List.getElem?_eq_getElem hlt, ht]; rfl
      have hsz := HZ.out k hlt
      rw [← ht] at c0 c1 c2 c3 hsz
      have HCp : Hid (∀ u, Calls Tryz.prog 129 #[t.val] u fun e w' => e = .returned t.val ∧ Below u.heap.size u w') := fun u => copyDatum_any t u hsz
      clear ht hsz hv
      go_wp2_with fail
      refine (HCp.out _).mono ?_
      rintro e w3 ⟨rfl, b3⟩
      have HB3 : Hid (Below wr.heap.size wr w3) := (bnewF wr _).trans (b3.mono (by simp))
      have HM3 : Hid (w3.ownsRow w.heap.size 196 4 (.slice am k cm) k (cellsD (l.take k))) := own_below HM.out HB3.out
      have hz3 : w.heap.size ≤ w3.heap.size := Nat.le_trans HB.out.size HB3.out.size
      clear b3 c0 c1 c2 c3
      go_wp2_with (at_builtin; refine wpList_append_lies _ rfl (.tmp 14) (.tmp 18) 98 rfl w.heap.size 196 i0 _ 4 40 Tryz.underlying98 hi hz0 hz1 hz2 rfl (by decide) _ k (cellsD (l.take k)) rfl (HM3.out.alloc _) ⟨_, 0, none⟩ 1 1 [.int .i64 t.kind, .int .i64 t.parent, .int .i64 t.num, .string t.name] rfl rfl ?c1 ?c2 (by decide) ?c3 ?c4 ?c5 _ rfl ?_)
      case c1 => exact World.news_of_block (cs := #[.int .i64 t.kind, .int .i64 t.parent, .int .i64 t.num, .string t.name]) (t := 196) (fr := (0, 0)) (heap_new' _ _ _ (by simp))
      case c2 => intro u hu; simp at hu; rcases hu with rfl | rfl | rfl | rfl <;> rfl
      case c3 => unfold maxLen; omega
      case c4 => omega
      case c5 => simp; omega
      intro g' cap' w4 hown4 hgrow4 _ _
      have HM4 : Hid (w4.ownsRow w.heap.size 196 4 (.slice (some ⟨g', 0, none⟩) (k + 1) cap') (k + 1) (cellsD (l.take (k + 1)))) := by rw [HTk.out, cellsD_append]; exact hown4
      have HB4 : Hid (Below w.heap.size w w4) := ((HB.out.trans (HB3.out.mono HB.out.size)).alloc hz3 _).grown hgrow4 (by simp; omega) (fun q hq => (HM3.out.lt q hq).1)
      clear hown4 hgrow4
      go_wp2
      exact ⟨⟨k + 1, some ⟨g', 0, none⟩, cap', by omega, rfl, by go_num, HM4.out, HB4.out⟩, by simp [RowKit.intOf]; omega⟩
    · have hkl : k = l.length := by omega
      have HM2 : Hid (wr.ownsRow w.heap.size 196 4 (.slice am k cm) l.length (cellsD l)) := by have := HM.out; rw [hkl, List.take_length] at this; rw [hkl]; exact this
      clear HM hkl
      go_wp2
      go_ret
      exact ⟨_, rfl, HM2.out, HB.out⟩
set_option maxRecDepth 100000 in
set_option maxHeartbeats 2000000 in
theorem copyOp_any (t : Opr) (ao : Option Addr) (cap B : Nat) (w : World) (ht : t.small) (ho : w.ownsRow B 196 4 (.slice ao t.data.length cap) t.data.length (cellsD t.data)) :
    Calls Tryz.prog 89 #[t.val (.slice ao t.data.length cap)] w fun e w' => ∃ v, e = .returned (t.val v) ∧ w'.ownsRow (w.heap.size + 2) 196 4 v t.data.length (cellsD t.data) ∧ Below w.heap.size w w' := by
  have HC : Hid (∀ u, Calls Tryz.prog 127 #[.string t.name] u fun e w' => e = .returned (.string t.name) ∧ Below u.heap.size u w') := fun u => clone_any t.name u (by have := ht.name; omega)
  have HD : Hid (∀ u, Below w.heap.size w u → Calls Tryz.prog 128 #[.slice ao t.data.length cap, .func (.func 129) #[] #[]] u fun e w' => ∃ v, e = .returned v ∧ w'.ownsRow u.heap.size 196 4 v t.data.length (cellsD t.data) ∧ Below u.heap.size u w') := fun u hu => turnDD_any ao cap B t.data u ht.len ht.names (own_below ho hu)
  clear ht ho
  go_enter Tryz.func89, Tryz.ntmps89
  go_wp2_with fail
  refine (HC.out _).mono ?_
  rintro e w1 ⟨rfl, b1⟩
  obtain ⟨hc, hf⟩ := bcell b1
  have p0 : w1.cell? ⟨w.heap.size, 0, none⟩ = some (.int .i64 t.kind) := by rw [hc _ _ (by simp <;> omega)]; simp [go_sem]
  have p1 : w1.cell? ⟨w.heap.size, 1, none⟩ = some (.int .i64 t.a) := by rw [hc _ _ (by simp <;> omega)]; simp [go_sem]
  have p2 : w1.cell? ⟨w.heap.size, 2, none⟩ = some (.int .i64 t.b) := by rw [hc _ _ (by simp <;> omega)]; simp [go_sem]
  have p3 : w1.cell? ⟨w.heap.size, 3, none⟩ = some (.int .i64 t.c) := by rw [hc _ _ (by simp <;> omega)]; simp [go_sem]
  have p4 : w1.cell? ⟨w.heap.size, 4, none⟩ = some (.int .i64 t.d) := by rw [hc _ _ (by simp <;> omega)]; simp [go_sem]
  have p5 : w1.cell? ⟨w.heap.size, 5, none⟩ = some (.string t.name) := by rw [hc _ _ (by simp <;> omega)]; simp [go_sem]
  have p6 : w1.cell? ⟨w.heap.size, 6, none⟩ = some (.slice ao t.data.length cap) := by rw [hc _ _ (by simp <;> omega)]; simp [go_sem]
  have pf : ∀ j, w1.frozen? ⟨w.heap.size, j, none⟩ = false := fun j => by rw [hf _ _ (by simp <;> omega)]; simp [go_sem]
  have r0 : w1.cell? ⟨w.heap.size + 1, 0, none⟩ = some (.int .i64 0) := by rw [hc _ _ (by simp)]; simp [go_sem]
  have r1 : w1.cell? ⟨w.heap.size + 1, 1, none⟩ = some (.int .i64 0) := by rw [hc _ _ (by simp)]; simp [go_sem]
  have r2 : w1.cell? ⟨w.heap.size + 1, 2, none⟩ = some (.int .i64 0) := by rw [hc _ _ (by simp)]; simp [go_sem]
  have r3 : w1.cell? ⟨w.heap.size + 1, 3, none⟩ = some (.int .i64 0) := by rw [hc _ _ (by simp)]; simp [go_sem]
  have r4 : w1.cell? ⟨w.heap.size + 1, 4, none⟩ = some (.int .i64 0) := by rw [hc _ _ (by simp)]; simp [go_sem]
  have r5 : w1.cell? ⟨w.heap.size + 1, 5, none⟩ = some (.string ⟨#[]⟩) := by rw [hc _ _ (by simp)]; simp [go_sem]
  have r6 : w1.cell? ⟨w.heap.size + 1, 6, none⟩ = some (.slice none 0 0) := by rw [hc _ _ (by simp)]; simp [go_sem]
  have rf : ∀ j, w1.frozen? ⟨w.heap.size + 1, j, none⟩ = false := fun j => by rw [hf _ _ (by simp)]; simp [go_sem]
  have hs1 : w.heap.size + 1 < w1.heap.size := by have := b1.size; simp at this; omega
  have HB : Hid (Below w.heap.size w w1) := (((Below.refl _ w).alloc (Nat.le_refl _) _).alloc (by simp) _).trans (b1.mono (by simp; omega))
  clear hc hf b1
  go_wp2_with fail
  refine (HD.out _ (by repeat (first | refine Below.setCell ?_ (by simp) _ | exact HB.out))).mono ?_
  rintro e w2 ⟨v, rfl, ho, b2⟩
  obtain ⟨hc, hf⟩ := bcell b2
  have s0 : w2.cell? ⟨w.heap.size, 0, none⟩ = some (.int .i64 t.kind) := by rw [hc _ _ (by simp; omega)]; simp [go_sem, p0]
  have s1 : w2.cell? ⟨w.heap.size, 1, none⟩ = some (.int .i64 t.a) := by rw [hc _ _ (by simp; omega)]; simp [go_sem, p1]
  have s2 : w2.cell? ⟨w.heap.size, 2, none⟩ = some (.int .i64 t.b) := by rw [hc _ _ (by simp; omega)]; simp [go_sem, p2]
  have s3 : w2.cell? ⟨w.heap.size, 3, none⟩ = some (.int .i64 t.c) := by rw [hc _ _ (by simp; omega)]; simp [go_sem, p3]
  have s4 : w2.cell? ⟨w.heap.size, 4, none⟩ = some (.int .i64 t.d) := by rw [hc _ _ (by simp; omega)]; simp [go_sem, p4]
  have s5 : w2.cell? ⟨w.heap.size, 5, none⟩ = some (.string t.name) := by rw [hc _ _ (by simp; omega)]; simp [go_sem, p5]
  have s6 : w2.cell? ⟨w.heap.size, 6, none⟩ = some (.slice ao t.data.length cap) := by rw [hc _ _ (by simp; omega)]; simp [go_sem, p6]
  have sf : ∀ j, w2.frozen? ⟨w.heap.size, j, none⟩ = false := fun j => by rw [hf _ _ (by simp; omega)]; simp [go_sem, pf]
  have q0 : w2.cell? ⟨w.heap.size + 1, 0, none⟩ = some (.int .i64 0) := by rw [hc _ _ (by simp; omega)]; simp [go_sem, r0]
  have q1 : w2.cell? ⟨w.heap.size + 1, 1, none⟩ = some (.int .i64 0) := by rw [hc _ _ (by simp; omega)]; simp [go_sem, r1]
  have q2 : w2.cell? ⟨w.heap.size + 1, 2, none⟩ = some (.int .i64 0) := by rw [hc _ _ (by simp; omega)]; simp [go_sem, r2]
  have q3 : w2.cell? ⟨w.heap.size + 1, 3, none⟩ = some (.int .i64 0) := by rw [hc _ _ (by simp; omega)]; simp [go_sem, r3]
  have q4 : w2.cell? ⟨w.heap.size + 1, 4, none⟩ = some (.int .i64 0) := by rw [hc _ _ (by simp; omega)]; simp [go_sem, r4]
  have q5 : w2.cell? ⟨w.heap.size + 1, 5, none⟩ = some (.string ⟨#[]⟩) := by rw [hc _ _ (by simp; omega)]; simp [go_sem, r5]
  have q6 : w2.cell? ⟨w.heap.size + 1, 6, none⟩ = some (.slice none 0 0) := by rw [hc _ _ (by simp; omega)]; simp [go_sem, r6]
  have qf : ∀ j, w2.frozen? ⟨w.heap.size + 1, j, none⟩ = false := fun j => by rw [hf _ _ (by simp; omega)]; simp [go_sem, rf]
  have hs2 : w1.heap.size ≤ w2.heap.size := by have := b2.size; simp at this; omega
  have HB2 : Hid (Below w.heap.size w w2) := Below.trans (b := w1.setCell ⟨w.heap.size, 5, none⟩ (.string t.name)) (by repeat (first | refine Below.setCell ?_ (by simp) _ | exact HB.out)) (b2.mono (by simp; omega))
  obtain ⟨av, cv, rfl⟩ := own_form ho
  have HO : Hid (w2.ownsRow (w.heap.size + 2) 196 4 (.slice av t.data.length cv) t.data.length (cellsD t.data)) := own_base ho (by simp; omega)
  clear hc hf b2 ho p0 p1 p2 p3 p4 p5 p6 pf r0 r1 r2 r3 r4 r5 r6 rf
  go_wp2
  refine bodyPost_ret (v := t.val (.slice av t.data.length cv)) (by simp [results, Tryz.results89, go_sem, q0, q1, q2, q3, q4, q5, q6]) rfl ⟨_, rfl, ?_, ?_⟩
  · iterate 8 (refine own_set_low ?_ (by omega) _)
    exact HO.out
  · repeat (first | refine Below.setCell ?_ (by simp) _ | exact HB2.out)
def leadO (t : Opr) (x : Int) : Opr := if t.kind = 16 then { t with c := x } else { t with a := x }
set_option maxRecDepth 100000 in
set_option maxHeartbeats 2000000 in
theorem leadingTo_any (t : Opr) (ao : Option Addr) (n cap : Nat) (x : Int) (w : World) : Calls Tryz.prog 132 #[t.val (.slice ao n cap), .int .i64 x] w fun e w' => e = .returned ((leadO t x).val (.slice ao n cap)) ∧ Below w.heap.size w w' := by
  by_cases k : t.kind = 16
  · have HL : Hid (leadO t x = { t with c := x }) := by show _ = _; unfold leadO; rw [if_pos k]
    have kb : (t.kind == 16) = true := by rw [k]; rfl
    rw [HL.out]
    clear k
    go_enter Tryz.func132, Tryz.ntmps132
    go_wp2
    refine bodyPost_ret (v := .agg #[.int .i64 t.kind, .int .i64 t.a, .int .i64 t.b, .int .i64 x, .int .i64 t.d, .string t.name, .slice ao n cap]) (by simp [results, Tryz.results132, go_sem]) rfl ⟨rfl, ?_⟩
    repeat (first | exact Below.refl _ _ | refine Below.setCell ?_ (by simp) _ | refine Below.alloc ?_ (by simp) _)
  · have HL : Hid (leadO t x = { t with a := x }) := by show _ = _; unfold leadO; rw [if_neg k]
    have kb : (t.kind == 16) = false := by rw [beq_eq_false_iff_ne]; exact k
    rw [HL.out]
    clear k
    go_enter Tryz.func132, Tryz.ntmps132
    go_wp2
    refine bodyPost_ret (v := .agg #[.int .i64 t.kind, .int .i64 x, .int .i64 t.b, .int .i64 t.c, .int .i64 t.d, .string t.name, .slice ao n cap]) (by simp [results, Tryz.results132, go_sem]) rfl ⟨rfl, ?_⟩
    repeat (first | exact Below.refl _ _ | refine Below.setCell ?_ (by simp) _ | refine Below.alloc ?_ (by simp) _)
theorem turn_lead (Q : List Int) (t : Opr) : turnO Q t = if hasT t then leadO t (Q.getD (tgtO t).toNat 0) else t := by
  unfold turnO hasT leadO tgtO
  by_cases k1 : t.kind = 5
  · simp [k1]
  by_cases k2 : t.kind = 6
  · simp [k2]
  by_cases k3 : t.kind = 16
  · simp [k3]
  simp [k1, k2, k3]
theorem tKeep {w u v : World} {t : Opr} {ao : Option Addr} {n cap bx rb gq q cq : Nat} {Q : List Int} {y : Int} (h : u.cell? ⟨w.heap.size, 0, none⟩ = some (.int .i64 t.kind) ∧ u.cell? ⟨w.heap.size, 1, none⟩ = some (.int .i64 t.a) ∧ u.cell? ⟨w.heap.size, 2, none⟩ = some (.int .i64 t.b) ∧ u.cell? ⟨w.heap.size, 3, none⟩ = some (.int .i64 t.c) ∧ u.cell? ⟨w.heap.size, 4, none⟩ = some (.int .i64 t.d) ∧ u.cell? ⟨w.heap.size, 5, none⟩ = some (.string t.name) ∧ u.cell? ⟨w.heap.size, 6, none⟩ = some (.slice ao n cap) ∧ u.cell? ⟨bx, 0, none⟩ = some (.pointer (some ⟨rb, 0, none⟩)) ∧ u.cell? ⟨rb, 1, none⟩ = some (.slice (some ⟨gq, 0, none⟩) Q.length cq) ∧ u.cell? ⟨gq, q, none⟩ = some (.int .i64 y)) (hb : Below u.heap.size u v) : v.cell? ⟨w.heap.size, 0, none⟩ = some (.int .i64 t.kind) ∧ v.cell? ⟨w.heap.size, 1, none⟩ = some (.int .i64 t.a) ∧ v.cell? ⟨w.heap.size, 2, none⟩ = some (.int .i64 t.b) ∧ v.cell? ⟨w.heap.size, 3, none⟩ = some (.int .i64 t.c) ∧ v.cell? ⟨w.heap.size, 4, none⟩ = some (.int .i64 t.d) ∧ v.cell? ⟨w.heap.size, 5, none⟩ = some (.string t.name) ∧ v.cell? ⟨w.heap.size, 6, none⟩ = some (.slice ao n cap) ∧ v.cell? ⟨bx, 0, none⟩ = some (.pointer (some ⟨rb, 0, none⟩)) ∧ v.cell? ⟨rb, 1, none⟩ = some (.slice (some ⟨gq, 0, none⟩) Q.length cq) ∧ v.cell? ⟨gq, q, none⟩ = some (.int .i64 y) := ⟨cell_keep hb h.1, cell_keep hb h.2.1, cell_keep hb h.2.2.1, cell_keep hb h.2.2.2.1, cell_keep hb h.2.2.2.2.1, cell_keep hb h.2.2.2.2.2.1, cell_keep hb h.2.2.2.2.2.2.1, cell_keep hb h.2.2.2.2.2.2.2.1, cell_keep hb h.2.2.2.2.2.2.2.2.1, cell_keep hb h.2.2.2.2.2.2.2.2.2⟩
set_option maxRecDepth 100000 in
set_option maxHeartbeats 2000000 in
theorem block1_any (t : Opr) (ao : Option Addr) (n cap bx rb cq BQ : Nat) (ap : Option Addr) (Q : List Int) (w : World) (h1 : w.cell? ⟨bx, 0, none⟩ = some (.pointer (some ⟨rb, 0, none⟩))) (h2 : w.cell? ⟨rb, 1, none⟩ = some (.slice ap Q.length cq)) (h3 : w.ownsRow BQ 2 1 (.slice ap Q.length cq) Q.length (cellsI Q)) (ht : hasT t = true → 0 ≤ tgtO t ∧ tgtO t < (Q.length : Int)) (hQ : Q.length ≤ 1000) :
    Calls Tryz.prog 131 #[t.val (.slice ao n cap), .pointer (some ⟨bx, 0, none⟩)] w fun e w' => e = .returned ((turnO Q t).val (.slice ao n cap)) ∧ Below w.heap.size w w' := by
  have HO : Hid (∀ u, Calls Tryz.prog 120 #[t.val (.slice ao n cap)] u fun e w' => e = .returned t.num ∧ Below u.heap.size u w') := fun u => operationOf_any t (.slice ao n cap) u
  have HG : Hid (∀ u, Calls Tryz.prog 121 #[t.num] u fun e w' => e = .returned (.tuple #[.int .i64 (if hasT t then tgtO t else 0), .bool (hasT t)]) ∧ Below u.heap.size u w') := fun u => target_any t u
  obtain ⟨W, hW⟩ : ∃ W, W = ((w.alloc (.cells #[.int .i64 t.kind, .int .i64 t.a, .int .i64 t.b, .int .i64 t.c, .int .i64 t.d, .string t.name, .slice ao n cap] 100)).alloc (.cells #[.int .i64 0, .int .i64 0, .int .i64 0, .int .i64 0, .int .i64 0, .string ⟨#[]⟩, .slice none 0 0] 100)) := ⟨_, rfl⟩
  have HW : Hid (W = ((w.alloc (.cells #[.int .i64 t.kind, .int .i64 t.a, .int .i64 t.b, .int .i64 t.c, .int .i64 t.d, .string t.name, .slice ao n cap] 100)).alloc (.cells #[.int .i64 0, .int .i64 0, .int .i64 0, .int .i64 0, .int .i64 0, .string ⟨#[]⟩, .slice none 0 0] 100))) := hW
  have HBW : Hid (Below w.heap.size w W) := by rw [hW]; exact ((Below.refl _ _).alloc (Nat.le_refl _) _).alloc (by simp) _
  have p0 : W.cell? ⟨w.heap.size, 0, none⟩ = some (.int .i64 t.kind) := by rw [hW]; simp [go_sem]
  have p1 : W.cell? ⟨w.heap.size, 1, none⟩ = some (.int .i64 t.a) := by rw [hW]; simp [go_sem]
  have p2 : W.cell? ⟨w.heap.size, 2, none⟩ = some (.int .i64 t.b) := by rw [hW]; simp [go_sem]
  have p3 : W.cell? ⟨w.heap.size, 3, none⟩ = some (.int .i64 t.c) := by rw [hW]; simp [go_sem]
  have p4 : W.cell? ⟨w.heap.size, 4, none⟩ = some (.int .i64 t.d) := by rw [hW]; simp [go_sem]
  have p5 : W.cell? ⟨w.heap.size, 5, none⟩ = some (.string t.name) := by rw [hW]; simp [go_sem]
  have p6 : W.cell? ⟨w.heap.size, 6, none⟩ = some (.slice ao n cap) := by rw [hW]; simp [go_sem]
  have r0 : W.cell? ⟨w.heap.size + 1, 0, none⟩ = some (.int .i64 0) := by rw [hW]; simp [go_sem]
  have r1 : W.cell? ⟨w.heap.size + 1, 1, none⟩ = some (.int .i64 0) := by rw [hW]; simp [go_sem]
  have r2 : W.cell? ⟨w.heap.size + 1, 2, none⟩ = some (.int .i64 0) := by rw [hW]; simp [go_sem]
  have r3 : W.cell? ⟨w.heap.size + 1, 3, none⟩ = some (.int .i64 0) := by rw [hW]; simp [go_sem]
  have r4 : W.cell? ⟨w.heap.size + 1, 4, none⟩ = some (.int .i64 0) := by rw [hW]; simp [go_sem]
  have r5 : W.cell? ⟨w.heap.size + 1, 5, none⟩ = some (.string ⟨#[]⟩) := by rw [hW]; simp [go_sem]
  have r6 : W.cell? ⟨w.heap.size + 1, 6, none⟩ = some (.slice none 0 0) := by rw [hW]; simp [go_sem]
  have rf : ∀ j, W.frozen? ⟨w.heap.size + 1, j, none⟩ = false := fun j => by rw [hW]; simp [go_sem]
  have hlW : w.heap.size + 1 < W.heap.size := by rw [hW]; simp
  have HRs : Hid (∀ u, Below W.heap.size W u → u.cell? ⟨w.heap.size + 1, 0, none⟩ = some (.int .i64 0) ∧ u.cell? ⟨w.heap.size + 1, 1, none⟩ = some (.int .i64 0) ∧ u.cell? ⟨w.heap.size + 1, 2, none⟩ = some (.int .i64 0) ∧ u.cell? ⟨w.heap.size + 1, 3, none⟩ = some (.int .i64 0) ∧ u.cell? ⟨w.heap.size + 1, 4, none⟩ = some (.int .i64 0) ∧ u.cell? ⟨w.heap.size + 1, 5, none⟩ = some (.string ⟨#[]⟩) ∧ u.cell? ⟨w.heap.size + 1, 6, none⟩ = some (.slice none 0 0) ∧ (∀ j, u.frozen? ⟨w.heap.size + 1, j, none⟩ = false) ∧ w.heap.size + 1 < u.heap.size) := fun u hu => ⟨cell_keep hu r0, cell_keep hu r1, cell_keep hu r2, cell_keep hu r3, cell_keep hu r4, cell_keep hu r5, cell_keep hu r6, (fun j => by rw [(bcell hu).2 _ _ hlW]; exact rf j), Nat.lt_of_lt_of_le hlW hu.size⟩
  have HPs : Hid (∀ u, Below W.heap.size W u → u.cell? ⟨w.heap.size, 0, none⟩ = some (.int .i64 t.kind) ∧ u.cell? ⟨w.heap.size, 1, none⟩ = some (.int .i64 t.a) ∧ u.cell? ⟨w.heap.size, 2, none⟩ = some (.int .i64 t.b) ∧ u.cell? ⟨w.heap.size, 3, none⟩ = some (.int .i64 t.c) ∧ u.cell? ⟨w.heap.size, 4, none⟩ = some (.int .i64 t.d) ∧ u.cell? ⟨w.heap.size, 5, none⟩ = some (.string t.name) ∧ u.cell? ⟨w.heap.size, 6, none⟩ = some (.slice ao n cap)) := fun u hu => ⟨cell_keep hu p0, cell_keep hu p1, cell_keep hu p2, cell_keep hu p3, cell_keep hu p4, cell_keep hu p5, cell_keep hu p6⟩
  obtain ⟨T, hT⟩ : ∃ T, T = turnO Q t := ⟨_, rfl⟩
  rw [← hT]
  have HT : Hid (T = if hasT t then leadO t (Q.getD (tgtO t).toNat 0) else t) := by show _ = _; rw [hT]; exact turn_lead Q t
  have H1 : Hid (w.cell? ⟨bx, 0, none⟩ = some (.pointer (some ⟨rb, 0, none⟩))) := h1
  have H2 : Hid (w.cell? ⟨rb, 1, none⟩ = some (.slice ap Q.length cq)) := h2
  have H3 : Hid (w.ownsRow BQ 2 1 (.slice ap Q.length cq) Q.length (cellsI Q)) := h3
  clear h1 h2 h3 hW hT p0 p1 p2 p3 p4 p5 p6 r0 r1 r2 r3 r4 r5 r6 rf hlW
  go_enter Tryz.func131, Tryz.ntmps131
  obtain ⟨p0, p1, p2, p3, p4, p5, p6⟩ := HPs.out W (Below.refl _ _)
  go_wp2_with fail
  refine (HO.out _).mono ?_
  rintro e w1 ⟨rfl, b1⟩
  rw [← HW.out] at b1
  have HB1 : Hid (Below W.heap.size W w1) := b1
  clear b1 HW
  go_wp2_with fail
  refine (HG.out _).mono ?_
  rintro e w2 ⟨rfl, b2⟩
  have HB2 : Hid (Below W.heap.size W w2) := HB1.out.trans (b2.mono HB1.out.size)
  clear b2 HB1 p0 p1 p2 p3 p4 p5 p6
  obtain ⟨p0, p1, p2, p3, p4, p5, p6⟩ := HPs.out w2 HB2.out
  have HBw : Hid (Below w.heap.size w w2) := HBW.out.trans (HB2.out.mono HBW.out.size)
  cases hh : hasT t
  · have HE : Hid (T = t) := by show _ = _; rw [HT.out, hh]; rfl
    obtain ⟨r0, r1, r2, r3, r4, r5, r6, rf, rl⟩ := HRs.out w2 HB2.out
    clear HT ht
    go_wp2
    refine bodyPost_ret (v := t.val (.slice ao n cap)) (by simp [results, Tryz.results131, go_sem, r0, r1, r2, r3, r4, r5, r6]) rfl ⟨by rw [HE.out], ?_⟩
    repeat (first | refine Below.setCell ?_ (by simp) _ | exact HBw.out)
  · obtain ⟨ht1, ht2⟩ := ht hh
    obtain ⟨q, hq⟩ : ∃ q : Nat, tgtO t = (q : Int) := ⟨(tgtO t).toNat, by omega⟩
    obtain ⟨y, hy⟩ : ∃ y, y = Q.getD q 0 := ⟨_, rfl⟩
    have HE : Hid (leadO t y = T) := by show _ = _; rw [HT.out, hh, hq, hy]; rfl
    have hqQ : q < Q.length := by omega
    obtain ⟨gq, c', hv, _, _⟩ := H3.out.form (by omega)
    obtain ⟨rfl, rfl⟩ : ap = some ⟨gq, 0, none⟩ ∧ cq = c' := by simp at hv; exact hv
    have hqc : w2.cell? ⟨gq, q, none⟩ = some (.int .i64 y) := by rw [hy]; exact ArI.own rfl (own_below H3.out HBw.out) q hqQ
    have HS0 : Hid (w2.cell? ⟨w.heap.size, 0, none⟩ = some (.int .i64 t.kind) ∧ w2.cell? ⟨w.heap.size, 1, none⟩ = some (.int .i64 t.a) ∧ w2.cell? ⟨w.heap.size, 2, none⟩ = some (.int .i64 t.b) ∧ w2.cell? ⟨w.heap.size, 3, none⟩ = some (.int .i64 t.c) ∧ w2.cell? ⟨w.heap.size, 4, none⟩ = some (.int .i64 t.d) ∧ w2.cell? ⟨w.heap.size, 5, none⟩ = some (.string t.name) ∧ w2.cell? ⟨w.heap.size, 6, none⟩ = some (.slice ao n cap) ∧ w2.cell? ⟨bx, 0, none⟩ = some (.pointer (some ⟨rb, 0, none⟩)) ∧ w2.cell? ⟨rb, 1, none⟩ = some (.slice (some ⟨gq, 0, none⟩) Q.length cq) ∧ w2.cell? ⟨gq, q, none⟩ = some (.int .i64 y)) := ⟨p0, p1, p2, p3, p4, p5, p6, cell_keep HBw.out H1.out, cell_keep HBw.out H2.out, hqc⟩
    have HL : Hid (∀ u, Calls Tryz.prog 132 #[t.val (.slice ao n cap), .int .i64 y] u fun e w' => e = .returned ((leadO t y).val (.slice ao n cap)) ∧ Below u.heap.size u w') := fun u => leadingTo_any t ao n cap y u
    rw [hq]
    rw [HE.out] at HL
    clear HT HE ht hy hv hq ht1 ht2 hh hqc p0 p1 p2 p3 p4 p5 p6
    go_wp2_with fail
    refine wp_region_facts (by kernel_rfl) 9 (fun v => Below w2.heap.size w2 v) (fun u v => Below u.heap.size u v) (fun i v u => match i with | 0 => (fun v _ => v = t.val (.slice ao n cap)) v u | 1 => (fun v _ => v = .pointer (some ⟨rb, 0, none⟩)) v u | 2 => (fun v _ => v = .pointer (some ⟨rb, 0, none⟩)) v u | 3 => (fun v _ => v = .pointer (some ⟨rb, 1, none⟩)) v u | 4 => (fun v _ => v = .slice (some ⟨gq, 0, none⟩) Q.length cq) v u | 5 => (fun v _ => v = .int .i64 (q : Int)) v u | 6 => (fun v _ => v = .pointer (some ⟨gq, q, none⟩)) v u | 7 => (fun v _ => v = .int .i64 y) v u | 8 => (fun v _ => v = T.val (.slice ao n cap)) v u | _ => True) (by kernel_rfl) [0, 1, 2, 3, 4, 5, 6, 7, 8] (by kernel_rfl) ?b0 ?bk ?fk ⟨?s0, ?s1, ?s2, ?s3, ?s4, ?s5, ?s6, ?s7, ?s8, trivial⟩ _ rfl [(0, some 13), (1, some 14), (2, some 15), (3, some 16), (4, some 17), (5, some 18), (6, some 19), (7, some 20), (8, some 21)] (by kernel_rfl) ?last
    case b0 => exact Below.drew (Below.refl _ _)
    case bk => exact fun u v h hb => h.trans (hb.mono h.size)
    case fk => intro i v u u' h hb; match i, h with | 0, h => exact h | 1, h => exact h | 2, h => exact h | 3, h => exact h | 4, h => exact h | 5, h => exact h | 6, h => exact h | 7, h => exact h | 8, h => exact h | _ + 9, _ => exact trivial
    case s0 =>
      refine StepF.of rfl [] (by kernel_rfl) ?_
      intro vs u hB hf K hK
      clear hf
      simp only [putsA, List.foldl_nil, Act.put, List.setIfInBounds_toArray] at hK ⊢
      rw [if_pos (by rfl)]
      have hS := tKeep HS0.out hB
      have p0 := hS.1
      have p1 := hS.2.1
      have p2 := hS.2.2.1
      have p3 := hS.2.2.2.1
      have p4 := hS.2.2.2.2.1
      have p5 := hS.2.2.2.2.2.1
      have p6 := hS.2.2.2.2.2.2.1
      go_simp
      exact hK.out _ _ (Below.refl _ _) rfl
    case s1 =>
      refine StepF.of rfl [] (by kernel_rfl) ?_
      intro vs u hB hf K hK
      clear hf
      simp only [putsA, List.foldl_nil, Act.put, List.setIfInBounds_toArray] at hK ⊢
      rw [if_pos (by rfl)]
      have hS := tKeep HS0.out hB
      have p7 := hS.2.2.2.2.2.2.2.1
      go_simp
      exact hK.out _ _ (Below.refl _ _) rfl
    case s2 =>
      refine StepF.of rfl [(1, some 14)] (by kernel_rfl) ?_
      intro vs u hB hf K hK
      have f1 : (fun v _ => v = .pointer (some ⟨rb, 0, none⟩)) (vs 1) u := hf.1
      clear hf
      simp only [putsA, List.foldl_cons, List.foldl_nil, Act.put, List.setIfInBounds_toArray, List.set_cons_zero, List.set_cons_succ] at hK ⊢
      generalize vs 1 = v1 at f1 hK ⊢
      subst f1
      rw [if_pos (by rfl)]
      go_simp
      exact hK.out _ _ (Below.refl _ _) rfl
    case s3 =>
      refine StepF.of rfl [(2, some 15)] (by kernel_rfl) ?_
      intro vs u hB hf K hK
      have f2 : (fun v _ => v = .pointer (some ⟨rb, 0, none⟩)) (vs 2) u := hf.1
      clear hf
      simp only [putsA, List.foldl_cons, List.foldl_nil, Act.put, List.setIfInBounds_toArray, List.set_cons_zero, List.set_cons_succ] at hK ⊢
      generalize vs 2 = v2 at f2 hK ⊢
      subst f2
      rw [if_pos (by rfl)]
      go_simp
      exact hK.out _ _ (Below.refl _ _) rfl
    case s4 =>
      refine StepF.of rfl [(3, some 16)] (by kernel_rfl) ?_
      intro vs u hB hf K hK
      have f3 : (fun v _ => v = .pointer (some ⟨rb, 1, none⟩)) (vs 3) u := hf.1
      clear hf
      simp only [putsA, List.foldl_cons, List.foldl_nil, Act.put, List.setIfInBounds_toArray, List.set_cons_zero, List.set_cons_succ] at hK ⊢
      generalize vs 3 = v3 at f3 hK ⊢
      subst f3
      rw [if_pos (by rfl)]
      have hS := tKeep HS0.out hB
      have p8 := hS.2.2.2.2.2.2.2.2.1
      go_simp
      exact hK.out _ _ (Below.refl _ _) rfl
    case s5 =>
      refine StepF.of rfl [] (by kernel_rfl) ?_
      intro vs u hB hf K hK
      clear hf
      simp only [putsA, List.foldl_nil, Act.put, List.setIfInBounds_toArray] at hK ⊢
      rw [if_pos (by rfl)]
      go_simp
      exact hK.out _ _ (Below.refl _ _) rfl
    case s6 =>
      refine StepF.of rfl [(4, some 17), (5, some 18)] (by kernel_rfl) ?_
      intro vs u hB hf K hK
      have f4 : (fun v _ => v = .slice (some ⟨gq, 0, none⟩) Q.length cq) (vs 4) u := hf.1
      have f5 : (fun v _ => v = .int .i64 (q : Int)) (vs 5) u := hf.2.1
      clear hf
      simp only [putsA, List.foldl_cons, List.foldl_nil, Act.put, List.setIfInBounds_toArray, List.set_cons_zero, List.set_cons_succ] at hK ⊢
      generalize vs 4 = v4 at f4 hK ⊢
      generalize vs 5 = v5 at f5 hK ⊢
      subst f4 f5
      rw [if_pos (by rfl)]
      go_simp
      exact hK.out _ _ (Below.refl _ _) rfl
    case s7 =>
      refine StepF.of rfl [(6, some 19)] (by kernel_rfl) ?_
      intro vs u hB hf K hK
      have f6 : (fun v _ => v = .pointer (some ⟨gq, q, none⟩)) (vs 6) u := hf.1
      clear hf
      simp only [putsA, List.foldl_cons, List.foldl_nil, Act.put, List.setIfInBounds_toArray, List.set_cons_zero, List.set_cons_succ] at hK ⊢
      generalize vs 6 = v6 at f6 hK ⊢
      subst f6
      rw [if_pos (by rfl)]
      have hS := tKeep HS0.out hB
      have p9 := hS.2.2.2.2.2.2.2.2.2
      go_simp
      exact hK.out _ _ (Below.refl _ _) rfl
    case s8 =>
      refine StepF.of rfl [(0, some 13), (7, some 20)] (by kernel_rfl) ?_
      intro vs u hB hf K hK
      have f0 : (fun v _ => v = t.val (.slice ao n cap)) (vs 0) u := hf.1
      have f7 : (fun v _ => v = .int .i64 y) (vs 7) u := hf.2.1
      clear hf
      simp only [putsA, List.foldl_cons, List.foldl_nil, Act.put, List.setIfInBounds_toArray, List.set_cons_zero, List.set_cons_succ] at hK ⊢
      generalize vs 0 = v0 at f0 hK ⊢
      generalize vs 7 = v7 at f7 hK ⊢
      subst f0 f7
      rw [if_pos (by rfl)]
      go_simp
      refine (HL.out _).mono ?_
      rintro e w4 ⟨rfl, b4⟩
      exact hK.out _ _ b4 rfl
    case last =>
      intro vs u hB hf K hK
      have f0 : (fun v _ => v = t.val (.slice ao n cap)) (vs 0) u := hf.1
      have f1 : (fun v _ => v = .pointer (some ⟨rb, 0, none⟩)) (vs 1) u := hf.2.1
      have f2 : (fun v _ => v = .pointer (some ⟨rb, 0, none⟩)) (vs 2) u := hf.2.2.1
      have f3 : (fun v _ => v = .pointer (some ⟨rb, 1, none⟩)) (vs 3) u := hf.2.2.2.1
      have f4 : (fun v _ => v = .slice (some ⟨gq, 0, none⟩) Q.length cq) (vs 4) u := hf.2.2.2.2.1
      have f5 : (fun v _ => v = .int .i64 (q : Int)) (vs 5) u := hf.2.2.2.2.2.1
      have f6 : (fun v _ => v = .pointer (some ⟨gq, q, none⟩)) (vs 6) u := hf.2.2.2.2.2.2.1
      have f7 : (fun v _ => v = .int .i64 y) (vs 7) u := hf.2.2.2.2.2.2.2.1
      have f8 : (fun v _ => v = T.val (.slice ao n cap)) (vs 8) u := hf.2.2.2.2.2.2.2.2.1
      clear hf
      simp only [putsA, List.foldl_cons, List.foldl_nil, Act.put, List.setIfInBounds_toArray, List.set_cons_zero, List.set_cons_succ]
      generalize vs 0 = v0 at f0 ⊢
      generalize vs 1 = v1 at f1 ⊢
      generalize vs 2 = v2 at f2 ⊢
      generalize vs 3 = v3 at f3 ⊢
      generalize vs 4 = v4 at f4 ⊢
      generalize vs 5 = v5 at f5 ⊢
      generalize vs 6 = v6 at f6 ⊢
      generalize vs 7 = v7 at f7 ⊢
      generalize vs 8 = v8 at f8 ⊢
      subst f0 f1 f2 f3 f4 f5 f6 f7 f8
      rw [if_pos (by rfl)]
      have hBu := HB2.out.trans (hB.mono HB2.out.size)
      obtain ⟨r0, r1, r2, r3, r4, r5, r6, rf, rl⟩ := HRs.out u hBu
      have HB4 : Hid (Below w.heap.size w u) := HBW.out.trans (hBu.mono HBW.out.size)
      clear hBu
      go_simp
      refine hK.out _ _ ?_
      clear hK hB
      go_wp2
      refine bodyPost_ret (v := T.val (.slice ao n cap)) (by simp [results, Tryz.results131, go_sem, r0, r1, r2, r3, r4, r5, r6]) rfl ⟨rfl, ?_⟩
      repeat (first | refine Below.setCell ?_ (by simp) _ | exact HB4.out)
def turnP (Q : List Int) (P : List (Opr × Value)) : List (Opr × Value) := P.map (fun x => (turnO Q x.1, x.2))
theorem turnP_len (Q : List Int) (P : List (Opr × Value)) : (turnP Q P).length = P.length := by simp [turnP]
theorem turnO_data (Q : List Int) (t : Opr) : (turnO Q t).data = t.data ∧ (turnO Q t).name = t.name ∧ (turnO Q t).kind = t.kind := by
  unfold turnO
  by_cases k1 : t.kind = 5 ∨ t.kind = 6
  · rw [if_pos k1]; exact ⟨rfl, rfl, rfl⟩
  rw [if_neg k1]
  by_cases k2 : t.kind = 16
  · rw [if_pos k2]; exact ⟨rfl, rfl, rfl⟩
  rw [if_neg k2]; exact ⟨rfl, rfl, rfl⟩
set_option maxRecDepth 100000 in
set_option maxHeartbeats 2000000 in
theorem turnOO_any (P : List (Opr × Value)) (v : Value) (B bx rb cq BQ : Nat) (ap : Option Addr) (Q : List Int) (w : World) (hl : P.length ≤ 1000) (hQ : Q.length ≤ 1000) (ho : OV w B v P) (h1 : w.cell? ⟨bx, 0, none⟩ = some (.pointer (some ⟨rb, 0, none⟩))) (h2 : w.cell? ⟨rb, 1, none⟩ = some (.slice ap Q.length cq)) (h3 : w.ownsRow BQ 2 1 (.slice ap Q.length cq) Q.length (cellsI Q)) (ht : ∀ x ∈ P, hasT x.1 = true → 0 ≤ tgtO x.1 ∧ tgtO x.1 < (Q.length : Int)) :
    Calls Tryz.prog 130 #[v, .func (.func 131) #[] #[.pointer (some ⟨bx, 0, none⟩)]] w fun e w' => ∃ v', e = .returned v' ∧ w'.ownsRow w.heap.size 100 7 v' P.length (cellsOp (turnP Q P)) ∧ Below w.heap.size w w' := by
  have HO : Hid (OV w B v P) := ho
  have HC : Hid (∀ (x : Opr × Value), x ∈ P → ∀ (ao : Option Addr) (n cap : Nat) (u : World), Below w.heap.size w u → Calls Tryz.prog 131 #[x.1.val (.slice ao n cap), .pointer (some ⟨bx, 0, none⟩)] u fun e w' => e = .returned ((turnO Q x.1).val (.slice ao n cap)) ∧ Below u.heap.size u w') := fun x hx ao n cap u hu => block1_any x.1 ao n cap bx rb cq BQ ap Q u (cell_keep hu h1) (cell_keep hu h2) (own_below h3 hu) (ht x hx) hQ
  obtain ⟨av, cv, rfl⟩ := own_form ho.row
  obtain ⟨i0, hi, hz0, hz1, hz2⟩ := info_parts infoOp
  clear ho h1 h2 h3 ht
  go_enter Tryz.func130, Tryz.ntmps130
  go_wp2_with fail
  go_loopw [5, 10] (fun v i wr => ∃ (k : Nat) (am : Option Addr) (cm : Nat), k ≤ P.length ∧ v = .slice am k cm ∧ i = .int .i64 (k : Int) ∧ Hid (wr.ownsRow w.heap.size 100 7 (.slice am k cm) k (cellsOp (turnP Q (P.take k)))) ∧ Hid (Below w.heap.size w wr)) (fun _ i _ => P.length - (RowKit.intOf i).toNat)
  case atStart => exact ⟨0, none, 0, Nat.zero_le _, rfl, rfl, ⟨rfl, .inl ⟨rfl, rfl⟩⟩, Below.refl _ _⟩
  case round =>
    obtain ⟨k, am, cm, hk, rfl, rfl, HM, HB⟩ := hrel
    by_cases hlt : k < P.length
    · obtain ⟨g, c', hv, _, _⟩ := HO.out.row.form (by omega)
      obtain ⟨rfl, rfl⟩ : av = some ⟨g, 0, none⟩ ∧ cv = c' := by simp at hv; exact hv
      obtain ⟨c0, c1, c2, c3, c4, c5, ao, cj, c6, hx2, -⟩ := (HO.out.below HB.out).at k hlt
      have hmem : P[k] ∈ P := List.getElem_mem hlt
      have HCk : Hid (∀ u, Below w.heap.size w u → Calls Tryz.prog 131 #[P[k].1.val (.slice ao P[k].1.data.length cj), .pointer (some ⟨bx, 0, none⟩)] u fun e w' => e = .returned ((turnO Q P[k].1).val (.slice ao P[k].1.data.length cj)) ∧ Below u.heap.size u w') := fun u hu => HC.out P[k] hmem ao _ cj u hu
      have HTk : Hid (cellsOp (turnP Q (P.take (k + 1))) = cellsOp (turnP Q (P.take k)) ++ (turnO Q P[k].1).cells (.slice ao P[k].1.data.length cj)) := by
        show _ = _
        rw [List.take_add_one, List.getElem?_eq_getElem hlt, ← hx2]
        unfold turnP
        rw [List.map_append, cellsOp_append]
        simp [cellsOp]
      obtain ⟨t, ht⟩ : ∃ t, t = P[k].1 := ⟨_, rfl⟩
      obtain ⟨n, hn⟩ : ∃ n, n = P[k].1.data.length := ⟨_, rfl⟩
      rw [← hn] at c6 HCk HTk
      rw [← ht] at c0 c1 c2 c3 c4 c5 HCk HTk
      obtain ⟨T, hT⟩ : ∃ T, T = turnO Q t := ⟨_, rfl⟩
      rw [← hT] at HCk HTk
      have hbk : w.heap.size ≤ wr.heap.size := HB.out.size
      clear ht hn hT hv hx2 hmem
      go_wp2_with fail
      refine (HCk.out _ (HB.out.alloc HB.out.size _)).mono ?_
      rintro e w3 ⟨rfl, b3⟩
      have HB3 : Hid (Below wr.heap.size wr w3) := (bnewF wr _).trans (b3.mono (by simp))
      have HM3 : Hid (w3.ownsRow w.heap.size 100 7 (.slice am k cm) k (cellsOp (turnP Q (P.take k)))) := own_below HM.out HB3.out
      have hz3 : w.heap.size ≤ w3.heap.size := Nat.le_trans HB.out.size HB3.out.size
      clear b3 c0 c1 c2 c3 c4 c5 c6
      go_wp2_with (at_builtin; refine wpList_append_lies _ rfl (.tmp 14) (.tmp 18) 83 rfl w.heap.size 100 i0 _ 7 80 Tryz.underlying83 hi hz0 hz1 hz2 rfl (by decide) _ k (cellsOp (turnP Q (P.take k))) rfl (HM3.out.alloc _) ⟨_, 0, none⟩ 1 1 [.int .i64 T.kind, .int .i64 T.a, .int .i64 T.b, .int .i64 T.c, .int .i64 T.d, .string T.name, .slice ao n cj] rfl rfl ?c1 ?c2 (by decide) ?c3 ?c4 ?c5 _ rfl ?_)
      case c1 => exact World.news_of_block (cs := #[.int .i64 T.kind, .int .i64 T.a, .int .i64 T.b, .int .i64 T.c, .int .i64 T.d, .string T.name, .slice ao n cj]) (t := 100) (fr := (0, 0)) (heap_new' _ _ _ (by simp))
      case c2 => intro u hu; simp at hu; rcases hu with rfl | rfl | rfl | rfl | rfl | rfl | rfl <;> rfl
      case c3 => unfold maxLen; omega
      case c4 => omega
      case c5 => simp; omega
      intro g' cap' w4 hown4 hgrow4 _ _
      have HM4 : Hid (w4.ownsRow w.heap.size 100 7 (.slice (some ⟨g', 0, none⟩) (k + 1) cap') (k + 1) (cellsOp (turnP Q (P.take (k + 1))))) := by rw [HTk.out]; exact hown4
      have HB4 : Hid (Below w.heap.size w w4) := ((HB.out.trans (HB3.out.mono HB.out.size)).alloc hz3 _).grown hgrow4 (by simp; omega) (fun q hq => (HM3.out.lt q hq).1)
      clear hown4 hgrow4
      go_wp2
      exact ⟨⟨k + 1, some ⟨g', 0, none⟩, cap', by omega, rfl, by go_num, HM4.out, HB4.out⟩, by simp [RowKit.intOf]; omega⟩
    · have hkl : k = P.length := by omega
      have HM2 : Hid (wr.ownsRow w.heap.size 100 7 (.slice am k cm) P.length (cellsOp (turnP Q P))) := by have := HM.out; rw [hkl, List.take_length] at this; rw [hkl]; exact this
      clear HM hkl
      go_wp2
      go_ret
      exact ⟨_, rfl, HM2.out, HB.out⟩
theorem OV.turn {w w' : World} {B B' : Nat} {v v' : Value} {P : List (Opr × Value)} {Q : List Int} (h : OV w B v P) (hb : Below w.heap.size w w') (ho : w'.ownsRow B' 100 7 v' P.length (cellsOp (turnP Q P))) (hB : B ≤ B') : OV w' B v' (turnP Q P) := by
  refine ⟨by rw [turnP_len]; exact own_base ho hB, fun i hi => ?_⟩
  rw [turnP_len] at hi
  have e : (turnP Q P)[i]'(by rw [turnP_len]; exact hi) = (turnO Q P[i].1, P[i].2) := by simp [turnP]
  rw [e]
  show w'.ownsRow B _ 4 P[i].2 (turnO Q P[i].1).data.length (cellsD (turnO Q P[i].1).data)
  rw [(turnO_data Q P[i].1).1]
  exact own_below (h.data i hi) hb
structure RbAt (w : World) (B rb : Nat) (P : List (Opr × Value)) (Q : List Int) : Prop where
  ops : ∃ v, w.cell? ⟨rb, 0, none⟩ = some v ∧ OV w B v P
  places : ∃ ap cq, w.cell? ⟨rb, 1, none⟩ = some (.slice ap Q.length cq) ∧ w.ownsRow B 2 1 (.slice ap Q.length cq) Q.length (cellsI Q)
theorem RbAt.below {w w' : World} {B rb : Nat} {P : List (Opr × Value)} {Q : List Int} (h : RbAt w B rb P Q) (hb : Below w.heap.size w w') : RbAt w' B rb P Q := by
  obtain ⟨⟨v, c0, ho⟩, ⟨ap, cq, c1, hp⟩⟩ := h
  exact ⟨⟨v, cell_keep hb c0, ho.below hb⟩, ⟨ap, cq, cell_keep hb c1, own_below hp hb⟩⟩
set_option maxHeartbeats 1000000 in
theorem block_any (P : List (Opr × Value)) (Q : List Int) (args : Int) (B rb : Nat) (w : World) (hl : P.length ≤ 1000) (hQ : Q.length ≤ 1000) (hr : RbAt w B rb P Q) (hB : B ≤ w.heap.size) (ht : ∀ x ∈ P, hasT x.1 = true → 0 ≤ tgtO x.1 ∧ tgtO x.1 < (Q.length : Int)) :
    Calls Tryz.prog 90 #[.pointer (some ⟨rb, 0, none⟩), .int .i64 args] w fun e w' => ∃ v', e = .returned (.agg #[.int .i64 args, v']) ∧ OV w' B v' (turnP Q P) ∧ (∀ b, v'.ownBlock = some b → w.heap.size ≤ b) ∧ Below w.heap.size w w' := by
  obtain ⟨⟨v, k0, ho⟩, ⟨ap, cq, k1, hp⟩⟩ := hr
  have HC : Hid (∀ u, Below w.heap.size w u → u.cell? ⟨w.heap.size, 0, none⟩ = some (.pointer (some ⟨rb, 0, none⟩)) → Calls Tryz.prog 130 #[v, .func (.func 131) #[] #[.pointer (some ⟨w.heap.size, 0, none⟩)]] u fun e w' => ∃ v', e = .returned v' ∧ w'.ownsRow u.heap.size 100 7 v' P.length (cellsOp (turnP Q P)) ∧ Below u.heap.size u w') := fun u hu hc => turnOO_any P v B w.heap.size rb cq B ap Q u hl hQ (ho.below hu) hc (cell_keep hu k1) (own_below hp hu) ht
  have HO : Hid (OV w B v P) := ho
  obtain ⟨av, cv, rfl⟩ := own_form ho.row
  have hrl : rb < w.heap.size := lt_of_cell k0
  clear ho hp ht
  go_enter Tryz.func90, Tryz.ntmps90
  go_wp2_with fail
  refine (HC.out _ ?ha ?hb).mono ?_
  case ha => exact ((Below.refl _ w).alloc (Nat.le_refl _) _).alloc (by simp) _
  case hb => simp [go_sem]
  rintro e w1 ⟨v', rfl, o1, b1⟩
  obtain ⟨hc, hf⟩ := bcell b1
  have r0 : w1.cell? ⟨w.heap.size + 1, 0, none⟩ = some (.int .i64 0) := by rw [hc _ _ (by simp)]; simp [go_sem]
  have r1 : w1.cell? ⟨w.heap.size + 1, 1, none⟩ = some (.slice none 0 0) := by rw [hc _ _ (by simp)]; simp [go_sem]
  have rf : ∀ j, w1.frozen? ⟨w.heap.size + 1, j, none⟩ = false := fun j => by rw [hf _ _ (by simp)]; simp [go_sem]
  have hs1 : w.heap.size + 1 < w1.heap.size := by have := b1.size; simp at this; omega
  have HB : Hid (Below w.heap.size w w1) := (((Below.refl _ w).alloc (Nat.le_refl _) _).alloc (by simp) _).trans (b1.mono (by simp; omega))
  obtain ⟨a', c', rfl⟩ := own_form o1
  have HLo : Hid (∀ b, (Value.slice a' P.length c').ownBlock = some b → w.heap.size + 2 ≤ b) := fun b hb => by have := (o1.lt b hb).1; simp at this; omega
  have HOV : Hid (OV w1 B (.slice a' P.length c') (turnP Q P)) := HO.out.turn HB.out o1 (by simp; omega)
  clear hc hf b1 o1
  go_wp2
  refine bodyPost_ret (v := .agg #[.int .i64 args, .slice a' P.length c']) (by simp [results, Tryz.results90, go_sem, r0, r1]) rfl ⟨_, rfl, ?_, (fun b hb => by have := HLo.out b hb; omega), ?_⟩
  · have hk : ∀ (u : World), OV u B (.slice a' P.length c') (turnP Q P) → (∀ b, footO (.slice a' P.length c') (turnP Q P) b → b ≠ w.heap.size + 1) → ∀ (j : Nat) (x : Value), OV (u.setCell ⟨w.heap.size + 1, j, none⟩ x) B (.slice a' P.length c') (turnP Q P) := fun u h hn j x => ⟨own_set' h.row (fun b hb => hn b (.inl hb)) x, fun i hi => own_set' (h.data i hi) (fun b hb => hn b (.inr ⟨i, hi, hb⟩)) x⟩
    have hn : ∀ b, footO (.slice a' P.length c') (turnP Q P) b → b ≠ w.heap.size + 1 := fun b hb => by
      rcases hb with e | ⟨i, hi, e⟩
      · have := HLo.out b e; omega
      · rw [turnP_len] at hi
        have h5 : ((turnP Q P)[i]'(by rw [turnP_len]; exact hi)).2 = P[i].2 := by simp [turnP]
        rw [h5] at e
        have := ((HO.out.data i hi).lt b e).2
        omega
    exact hk _ (hk _ HOV.out hn _ _) hn _ _
  · repeat (first | refine Below.setCell ?_ (by simp) _ | exact HB.out)
theorem gb_drew {w w' : World} {r : Option Nat} (h : w.drew.grownBy w' r) : w.grownBy w' r := ⟨h.os, h.tape, h.output, h.size, h.block⟩
theorem cellsI_snoc (Q : List Int) (x : Int) : cellsI (Q ++ [x]) = cellsI Q ++ [.int .i64 x] := by simp [cellsI]
def PutS (w : World) (B rb gn : Nat) (av : Option Addr) (cv : Nat) (P N : List (Opr × Value)) (u : World) : Prop := OV u B (.slice av P.length cv) P ∧ u.ownsRow B 100 7 (.slice (some ⟨gn, 0, none⟩) N.length N.length) N.length (cellsOp N) ∧ (∀ (i : Nat) (h : i < N.length), u.ownsRow B 196 4 N[i].2 N[i].1.data.length (cellsD N[i].1.data)) ∧ Below rb w u ∧ (∀ j, u.frozen? ⟨rb, j, none⟩ = false) ∧ B ≤ u.heap.size
theorem PutS.set {w : World} {B rb gn : Nat} {av : Option Addr} {cv : Nat} {P N : List (Opr × Value)} {u : World} (h : PutS w B rb gn av cv P N u) (hrb : rb < B) (j : Nat) (x : Value) : PutS w B rb gn av cv P N (u.setCell ⟨rb, j, none⟩ x) := by
  obtain ⟨h1, h2, h3, h4, h5, h6⟩ := h
  refine ⟨⟨own_set_low h1.row hrb x, fun i hi => own_set_low (h1.data i hi) hrb x⟩, own_set_low h2 hrb x, (fun i hi => own_set_low (h3 i hi) hrb x), h4.setCell (Nat.le_refl _) _, (fun k => ?_), by simpa using h6⟩
  simp [h5]
set_option maxRecDepth 100000 in
set_option maxHeartbeats 2000000 in
theorem put_any (old : Nat) (P N : List (Opr × Value)) (Q0 : List Int) (B rb gn : Nat) (w : World) (hold : old ≤ 2) (hN1 : 0 < N.length) (hN2 : N.length ≤ 2) (hP : P.length ≤ 1000) (hQ0 : Q0.length ≤ 1000) (hrb : rb < B) (hBw : B ≤ w.heap.size) (hr : RbAt w B rb P Q0) (hfz : ∀ j, w.frozen? ⟨rb, j, none⟩ = false)
    (hn : w.ownsRow B 100 7 (.slice (some ⟨gn, 0, none⟩) N.length N.length) N.length (cellsOp N)) (hd : ∀ (i : Nat) (h : i < N.length), w.ownsRow B 196 4 N[i].2 N[i].1.data.length (cellsD N[i].1.data)) (h1c : ∀ u ∈ cellsOp N, u.oneCell' = true) :
    Calls Tryz.prog 87 #[.pointer (some ⟨rb, 0, none⟩), .int .i64 (old : Int), .slice (some ⟨gn, 0, none⟩) N.length N.length] w fun e w' => e = .returned (.tuple #[]) ∧ RbAt w' B rb (P ++ N) (Q0 ++ List.replicate old (P.length : Int)) ∧ (∀ j, w'.frozen? ⟨rb, j, none⟩ = false) ∧ Below rb w w' := by
  obtain ⟨⟨v, k0, ho⟩, ⟨ap0, cq0, k1, hp⟩⟩ := hr
  obtain ⟨av, cv, rfl⟩ := own_form ho.row
  have HI : Hid (w.cell? ⟨rb, 0, none⟩ = some (.slice av P.length cv) ∧ (∃ (Q : List Int) (ap : Option Addr) (cq : Nat), Q = Q0 ++ List.replicate 0 (P.length : Int) ∧ w.cell? ⟨rb, 1, none⟩ = some (.slice ap Q.length cq) ∧ w.ownsRow B 2 1 (.slice ap Q.length cq) Q.length (cellsI Q)) ∧ PutS w B rb gn av cv P N w) := ⟨k0, ⟨Q0, ap0, cq0, by simp, k1, hp⟩, ho, hn, hd, Below.refl _ _, hfz, hBw⟩
  have H1c : Hid (∀ u ∈ cellsOp N, u.oneCell' = true) := h1c
  obtain ⟨i0, hi, hz0, hz1, hz2⟩ := info_parts infoI
  obtain ⟨i1, hi1, hy0, hy1, hy2⟩ := info_parts infoOp
  have hFr : ∀ f, Fence.wide.fn f := fun _ => trivial
  clear k0 k1 ho hp hn hd hfz h1c
  go_enter Tryz.func87, Tryz.ntmps87
  go_wp2_with fail
  go_loopw [7] (fun i wr => ∃ j : Nat, j ≤ old ∧ i = .int .i64 (j : Int) ∧ Hid (wr.cell? ⟨rb, 0, none⟩ = some (.slice av P.length cv) ∧ (∃ (Q : List Int) (ap : Option Addr) (cq : Nat), Q = Q0 ++ List.replicate j (P.length : Int) ∧ wr.cell? ⟨rb, 1, none⟩ = some (.slice ap Q.length cq) ∧ wr.ownsRow B 2 1 (.slice ap Q.length cq) Q.length (cellsI Q)) ∧ PutS w B rb gn av cv P N wr)) (fun i _ => old - (RowKit.intOf i).toNat)
  case atStart => exact ⟨0, Nat.zero_le _, rfl, HI.out⟩
  case round =>
    obtain ⟨j, hj, rfl, HX⟩ := hrel
    obtain ⟨k0, ⟨Q, ap, cq, hQ, k1, hp⟩, hps⟩ := HX.out
    have HQ : Hid (Q = Q0 ++ List.replicate j (P.length : Int)) := hQ
    have hQl : Q.length ≤ 1002 := by rw [hQ]; simp; omega
    have HPl : Hid (wr.ownsRow B 2 1 (.slice ap Q.length cq) Q.length (cellsI Q)) := hp
    have HRest : Hid (PutS w B rb gn av cv P N wr) := hps
    have hBr : B ≤ wr.heap.size := hps.2.2.2.2.2
    have HS0 : Hid (wr.cell? ⟨rb, 0, none⟩ = some (.slice av P.length cv) ∧ wr.cell? ⟨rb, 1, none⟩ = some (.slice ap Q.length cq)) := ⟨k0, k1⟩
    clear hQ hp hps HX HI
    by_cases hlt : j < old
    · clear k0 k1
      go_upto_region 2 with fail
      refine (wpIn_wide (n := 0)).1 ?_
      refine region_anyH (z := 14) (S := fun u : World => (u.cell? ⟨rb, 0, none⟩ = some (.slice av P.length cv) ∧ u.cell? ⟨rb, 1, none⟩ = some (.slice ap Q.length cq))) (by kernel_rfl) ?_
      refine anyH_take hFr (by kernel_rfl) (i := 0) (v := ?_) (d := some 9) (by kernel_rfl) rfl rfl (by kernel_rfl) (by kernel_rfl) (by kernel_rfl) (fun _ _ _ h => h) HS0.out (Or.inl ⟨by rfl, fun w hSw => ?_⟩) ?_
      rotate_left
      · obtain ⟨s0, s1⟩ := hSw
        go_simp
        all_goals (try (first | with_reducible rfl | omega))
      try simp only [Act.put]
      try simp only [List.setIfInBounds_toArray]
      try simp only [List.set_cons_zero, List.set_cons_succ]
      refine anyH_take hFr (by kernel_rfl) (i := 1) (v := ?_) (d := some 10) (by kernel_rfl) rfl rfl (by kernel_rfl) (by kernel_rfl) (by kernel_rfl) (fun _ _ _ h => h) HS0.out (Or.inl ⟨by rfl, fun w hSw => ?_⟩) ?_
      rotate_left
      · obtain ⟨s0, s1⟩ := hSw
        go_simp
        all_goals (try (first | with_reducible rfl | omega))
      try simp only [Act.put]
      try simp only [List.setIfInBounds_toArray]
      try simp only [List.set_cons_zero, List.set_cons_succ]
      refine anyH_take hFr (by kernel_rfl) (i := 2) (v := ?_) (d := some 11) (by kernel_rfl) rfl rfl (by kernel_rfl) (by kernel_rfl) (by kernel_rfl) (fun _ _ _ h => h) HS0.out (Or.inl ⟨by rfl, fun w hSw => ?_⟩) ?_
      rotate_left
      · obtain ⟨s0, s1⟩ := hSw
        go_simp
        all_goals (try (first | with_reducible rfl | omega))
      try simp only [Act.put]
      try simp only [List.setIfInBounds_toArray]
      try simp only [List.set_cons_zero, List.set_cons_succ]
      refine anyH_take hFr (by kernel_rfl) (i := 3) (v := ?_) (d := some 12) (by kernel_rfl) rfl rfl (by kernel_rfl) (by kernel_rfl) (by kernel_rfl) (fun _ _ _ h => h) HS0.out (Or.inl ⟨by rfl, fun w hSw => ?_⟩) ?_
      rotate_left
      · obtain ⟨s0, s1⟩ := hSw
        go_simp
        all_goals (try (first | with_reducible rfl | omega))
      try simp only [Act.put]
      try simp only [List.setIfInBounds_toArray]
      try simp only [List.set_cons_zero, List.set_cons_succ]
      refine anyH_take hFr (by kernel_rfl) (i := 4) (v := ?_) (d := some 13) (by kernel_rfl) rfl rfl (by kernel_rfl) (by kernel_rfl) (by kernel_rfl) (fun _ _ _ h => h) HS0.out (Or.inl ⟨by rfl, fun w hSw => ?_⟩) ?_
      rotate_left
      · obtain ⟨s0, s1⟩ := hSw
        go_simp
        all_goals (try (first | with_reducible rfl | omega))
      try simp only [Act.put]
      try simp only [List.setIfInBounds_toArray]
      try simp only [List.set_cons_zero, List.set_cons_succ]
      refine anyH_take hFr (by kernel_rfl) (i := 5) (v := ?_) (d := some 14) (by kernel_rfl) rfl rfl (by kernel_rfl) (by kernel_rfl) (by kernel_rfl) (fun _ _ _ h => h) HS0.out (Or.inl ⟨by rfl, fun w hSw => ?_⟩) ?_
      rotate_left
      · obtain ⟨s0, s1⟩ := hSw
        go_simp
        all_goals (try (first | with_reducible rfl | omega))
      try simp only [Act.put]
      try simp only [List.setIfInBounds_toArray]
      try simp only [List.set_cons_zero, List.set_cons_succ]
      refine anyH_take hFr (by kernel_rfl) (i := 6) (v := ?_) (d := some 15) (by kernel_rfl) rfl rfl (by kernel_rfl) (by kernel_rfl) (by kernel_rfl) (fun _ _ _ h => h) HS0.out (Or.inl ⟨by rfl, fun w hSw => ?_⟩) ?_
      rotate_left
      · obtain ⟨s0, s1⟩ := hSw
        go_simp
        all_goals (try (first | with_reducible rfl | omega))
      try simp only [Act.put]
      try simp only [List.setIfInBounds_toArray]
      try simp only [List.set_cons_zero, List.set_cons_succ]
      refine anyH_take hFr (by kernel_rfl) (i := 7) (v := ?_) (d := some 16) (by kernel_rfl) rfl rfl (by kernel_rfl) (by kernel_rfl) (by kernel_rfl) (fun _ _ _ h => h) HS0.out (Or.inl ⟨by rfl, fun w hSw => ?_⟩) ?_
      rotate_left
      · obtain ⟨s0, s1⟩ := hSw
        go_simp
        all_goals (try (first | with_reducible rfl | omega))
      try simp only [Act.put]
      try simp only [List.setIfInBounds_toArray]
      try simp only [List.set_cons_zero, List.set_cons_succ]
      refine anyH_take hFr (by kernel_rfl) (i := 8) (v := ?_) (d := some 17) (by kernel_rfl) rfl rfl (by kernel_rfl) (by kernel_rfl) (by kernel_rfl) (fun _ _ _ h => h) HS0.out (Or.inl ⟨by rfl, fun w hSw => ?_⟩) ?_
      rotate_left
      · obtain ⟨s0, s1⟩ := hSw
        go_simp
        all_goals (try (first | with_reducible rfl | omega))
      try simp only [Act.put]
      try simp only [List.setIfInBounds_toArray]
      try simp only [List.set_cons_zero, List.set_cons_succ]
      refine anyH_take hFr (by kernel_rfl) (i := 9) (v := ?_) (d := some 18) (by kernel_rfl) rfl rfl (by kernel_rfl) (by kernel_rfl) (by kernel_rfl) (fun _ _ _ h => h) HS0.out (Or.inl ⟨by rfl, fun w hSw => ?_⟩) ?_
      rotate_left
      · obtain ⟨s0, s1⟩ := hSw
        go_simp
        all_goals (try (first | with_reducible rfl | omega))
      try simp only [Act.put]
      try simp only [List.setIfInBounds_toArray]
      try simp only [List.set_cons_zero, List.set_cons_succ]
      refine anyH_one (i := 10) (by kernel_rfl) (op_plainW rfl (by rfl) (by simp) ?_)
      go_simp
      obtain ⟨y7, hy7⟩ : ∃ y7, y7 = wr.alloc (.cells #[.int .i64 (P.length : Int)] 2) := ⟨_, rfl⟩
      have HB7 : Hid (Below wr.heap.size wr y7) := by rw [hy7]; exact (Below.refl _ wr).alloc (Nat.le_refl _) _
      have HS7 : Hid (y7.cell? ⟨rb, 0, none⟩ = some (.slice av P.length cv) ∧ y7.cell? ⟨rb, 1, none⟩ = some (.slice ap Q.length cq)) := ⟨cell_keep HB7.out HS0.out.1, cell_keep HB7.out HS0.out.2⟩
      have HN7 : Hid (y7.heap[wr.heap.size]? = some (.cells #[.int .i64 (P.length : Int)] 2)) := by rw [hy7]; exact heap_new' _ _ _ rfl
      have HZ7 : Hid (wr.heap.size < y7.heap.size) := by rw [hy7]; show _ < (World.alloc _ _).heap.size; simp
      try simp only [World.drew_heap] at hy7 ⊢
      rw [← hy7]
      clear hy7
      refine ⟨by first | exact HS7.out | exact fun _ => HS7.out, ?_⟩
      try simp only [Act.put]
      try simp only [List.setIfInBounds_toArray]
      try simp only [List.set_cons_zero, List.set_cons_succ]
      have HO7 : Hid (y7.ownsRow B 2 1 (.slice ap Q.length cq) Q.length (cellsI Q)) := own_below HPl.out HB7.out
      refine anyH_one (i := 11) (by kernel_rfl) (op_plainW rfl (by rfl) (by simp) ?_)
      refine wp_append_lies _ (.tmp 13) (.tmp 19) 78 rfl B 2 i0 _ 1 8 Tryz.underlying78 hi hz0 hz1 hz2 rfl (by decide) _ Q.length (cellsI Q) rfl HO7.out ⟨wr.heap.size, 0, none⟩ 1 1 [.int .i64 (P.length : Int)] rfl rfl (World.news_of_block (cs := #[.int .i64 (P.length : Int)]) (t := 2) (fr := (0, 0)) HN7.out) (by simp [Value.oneCell']) (by decide) (by unfold maxLen; omega) (by omega) (Nat.le_trans hBr HB7.out.size) _ rfl ?_
      intro g' cap' w8 hown hgrow hat _
      replace hgrow : y7.grownBy w8 (Value.slice ap Q.length cq).ownBlock := gb_drew hgrow
      have HS8 : Hid (w8.cell? ⟨rb, 0, none⟩ = some (.slice av P.length cv) ∧ w8.cell? ⟨rb, 1, none⟩ = some (.slice ap Q.length cq)) := ⟨hgrow.cell HS7.out.1 (fun e => by have := (HO7.out.lt rb e.symm).1; omega), hgrow.cell HS7.out.2 (fun e => by have := (HO7.out.lt rb e.symm).1; omega)⟩
      have HX8 : Hid (∃ Q', Q' = Q ++ [(P.length : Int)] ∧ w8.ownsRow B 2 1 (.slice (some ⟨g', 0, none⟩) (Q.length + 1) cap') (Q.length + 1) (cellsI Q')) := ⟨_, rfl, by rw [cellsI_snoc]; exact hown⟩
      have HG8 : Hid (OV w8 B (.slice av P.length cv) P ∧ w8.ownsRow B 100 7 (.slice (some ⟨gn, 0, none⟩) N.length N.length) N.length (cellsOp N) ∧ (∀ (i : Nat) (h : i < N.length), w8.ownsRow B 196 4 N[i].2 N[i].1.data.length (cellsD N[i].1.data)) ∧ Below rb w w8 ∧ (∀ j, w8.frozen? ⟨rb, j, none⟩ = false) ∧ B ≤ w8.heap.size) := by
        have a1 := HRest.out.1.below HB7.out
        have far : ∀ (T : TypeId) (size n : Nat) (v : Value) (xs : List Value), y7.ownsRow B T size v n xs → T ≠ 2 → ∀ g, v.ownBlock = some g → (Value.slice ap Q.length cq).ownBlock ≠ some g := fun T size n v xs h hT g hg => typ_ne h HO7.out hT g hg
        refine ⟨⟨own_apart a1.row hgrow (far _ _ _ _ _ a1.row (by decide)), fun i hi => own_apart (a1.data i hi) hgrow (far _ _ _ _ _ (a1.data i hi) (by decide))⟩, own_apart (own_below HRest.out.2.1 HB7.out) hgrow (far _ _ _ _ _ (own_below HRest.out.2.1 HB7.out) (by decide)), fun i hi => own_apart (own_below (HRest.out.2.2.1 i hi) HB7.out) hgrow (far _ _ _ _ _ (own_below (HRest.out.2.2.1 i hi) HB7.out) (by decide)), ?_, ?_, ?_⟩
        · exact (HRest.out.2.2.2.1.trans (HB7.out.mono (by omega))).grown hgrow (by have := HB7.out.size; omega) (fun k hk => by have := (HO7.out.lt k hk).1; omega)
        · intro j
          have hlt : rb < wr.heap.size := by omega
          exact fz_of hgrow (Nat.lt_of_lt_of_le hlt HB7.out.size) (fun e => by have := (HO7.out.lt rb e.symm).1; omega) (by rw [(bcell HB7.out).2 _ _ hlt]; exact HRest.out.2.2.2.2.1 j)
        · have := HB7.out.size; have := hgrow.size; omega
      have k0 := HS8.out.1
      have k1 := HS8.out.2
      have kf : ∀ j, w8.frozen? ⟨rb, j, none⟩ = false := HG8.out.2.2.2.2.1
      clear hown hgrow hat
      refine ⟨by first | exact HS8.out | exact fun _ => HS8.out, ?_⟩
      try simp only [Act.put]
      try simp only [List.setIfInBounds_toArray]
      try simp only [List.set_cons_zero, List.set_cons_succ]
      refine anyH_one (i := 12) (by kernel_rfl) (op_plainW rfl (by rfl) (by simp) ?_)
      go_simp
      (first | refine ⟨HS8.out, ?_⟩ | skip)
      try simp only [Act.put]
      try simp only [List.setIfInBounds_toArray]
      try simp only [List.set_cons_zero, List.set_cons_succ]
      refine anyH_one (i := 13) (by kernel_rfl) (op_plainW rfl (by rfl) (by simp) ?_)
      go_simp
      (first | refine ⟨HS8.out, ?_⟩ | skip)
      try simp only [Act.put]
      try simp only [List.setIfInBounds_toArray]
      try simp only [List.set_cons_zero, List.set_cons_succ]
      refine anyH_one (i := 14) (by kernel_rfl) (op_plainW rfl (by rfl) (by simp) ?_)
      go_simp
      refine ⟨by kernel_rfl, ?_⟩
      try simp only [Act.put]
      try simp only [List.setIfInBounds_toArray]
      try simp only [List.set_cons_zero, List.set_cons_succ]
      have HQ2 : Hid (Q ++ [(P.length : Int)] = Q0 ++ List.replicate (j + 1) (P.length : Int)) := by show _ = _; rw [HQ.out, List.replicate_succ', List.append_assoc]
      have HF8 : Hid (PutS w B rb gn av cv P N (w8.setCell ⟨rb, 1, none⟩ (.slice (some ⟨g', 0, none⟩) (Q.length + 1) cap'))) := PutS.set HG8.out hrb _ _
      have HZ8 : Hid ((w8.setCell ⟨rb, 1, none⟩ (.slice (some ⟨g', 0, none⟩) (Q.length + 1) cap')).cell? ⟨rb, 0, none⟩ = some (.slice av P.length cv) ∧ (∃ (Q' : List Int) (ap : Option Addr) (cq : Nat), Q' = Q0 ++ List.replicate (j + 1) (P.length : Int) ∧ (w8.setCell ⟨rb, 1, none⟩ (.slice (some ⟨g', 0, none⟩) (Q.length + 1) cap')).cell? ⟨rb, 1, none⟩ = some (.slice ap Q'.length cq) ∧ (w8.setCell ⟨rb, 1, none⟩ (.slice (some ⟨g', 0, none⟩) (Q.length + 1) cap')).ownsRow B 2 1 (.slice ap Q'.length cq) Q'.length (cellsI Q'))) := by
        obtain ⟨Q', hQ', ho8⟩ := HX8.out
        have hl' : Q'.length = Q.length + 1 := by rw [hQ']; simp
        refine ⟨by simp [go_sem, k0], Q', some ⟨g', 0, none⟩, cap', by rw [hQ', HQ2.out], by rw [hl']; simp [go_sem, k1], by rw [hl']; exact own_set_low ho8 hrb _⟩
      generalize w8.setCell ⟨rb, 1, none⟩ (.slice (some ⟨g', 0, none⟩) (Q.length + 1) cap') = Z at HF8 HZ8 ⊢
      clear HG8 HX8 HS8 k0 k1 kf
      go_wp2
      exact ⟨⟨j + 1, by omega, by go_num, HZ8.out.1, HZ8.out.2, HF8.out⟩, by simp [RowKit.intOf]; omega⟩
    · have hjo : j = old := by omega
      have HQo : Hid (Q = Q0 ++ List.replicate old (P.length : Int)) := by rw [← hjo]; exact HQ.out
      have kf : ∀ j, wr.frozen? ⟨rb, j, none⟩ = false := HRest.out.2.2.2.2.1
      have HOr : Hid (wr.ownsRow B 100 7 (.slice av P.length cv) P.length (cellsOp P)) := HRest.out.1.row
      have HNr : Hid (wr.ownsRow B 100 7 (.slice (some ⟨gn, 0, none⟩) N.length N.length) N.length (cellsOp N)) := HRest.out.2.1
      have hrl : rb < wr.heap.size := by omega
      clear hjo HQ
      go_wp2_with (at_builtin; refine wpList_append_lies _ rfl (.tmp 28) (.tmp 29) 83 rfl B 100 i1 _ 7 80 Tryz.underlying83 hi1 hy0 hy1 hy2 rfl (by decide) _ P.length (cellsOp P) rfl HOr.out ⟨gn, 0, none⟩ N.length N.length (cellsOp N) rfl (cellsOp_length N) ?c1 H1c.out hN1 ?c3 ?c4 ?c5 _ rfl ?_)
      case c1 => exact HNr.out.cells (g := gn) rfl
      case c3 => unfold maxLen; omega
      case c4 => omega
      case c5 => exact hBr
      intro g' cap' w8 hown hgrow hat _
      have hnr : (Value.slice av P.length cv).ownBlock ≠ some rb := fun e => by have := (HOr.out.lt rb e).1; omega
      have q0 : w8.cell? ⟨rb, 0, none⟩ = some (.slice av P.length cv) := hgrow.cell k0 (Ne.symm hnr)
      have q1 : w8.cell? ⟨rb, 1, none⟩ = some (.slice ap Q.length cq) := hgrow.cell k1 (Ne.symm hnr)
      have qf : ∀ j, w8.frozen? ⟨rb, j, none⟩ = false := fun j => fz_of hgrow hrl (Ne.symm hnr) (kf j)
      have HRb : Hid (RbAt (w8.setCell ⟨rb, 0, none⟩ (.slice (some ⟨g', 0, none⟩) (P.length + N.length) cap')) B rb (P ++ N) Q) := by
        have far : ∀ (T : TypeId) (size n : Nat) (v : Value) (xs : List Value), wr.ownsRow B T size v n xs → T ≠ 100 → ∀ g, v.ownBlock = some g → (Value.slice av P.length cv).ownBlock ≠ some g := fun T size n v xs h hT g hg => typ_ne h HOr.out hT g hg
        refine ⟨⟨.slice (some ⟨g', 0, none⟩) (P.length + N.length) cap', by simp [go_sem, q0], ⟨?_, fun i hi => ?_⟩⟩, ⟨ap, cq, by simp [go_sem, q1], ?_⟩⟩
        · rw [cellsOp_append, List.length_append]; exact own_set_low hown hrb _
        · refine own_set_low ?_ hrb _
          by_cases e : i < P.length
          · rw [List.getElem_append_left e]
            exact own_apart (HRest.out.1.data i e) hgrow (far _ _ _ _ _ (HRest.out.1.data i e) (by decide))
          · rw [List.length_append] at hi
            rw [List.getElem_append_right (by omega)]
            have h5 := HRest.out.2.2.1 (i - P.length) (by omega)
            exact own_apart h5 hgrow (far _ _ _ _ _ h5 (by decide))
        · exact own_set_low (own_apart HPl.out hgrow (far _ _ _ _ _ HPl.out (by decide))) hrb _
      have HB8 : Hid (Below rb w (w8.setCell ⟨rb, 0, none⟩ (.slice (some ⟨g', 0, none⟩) (P.length + N.length) cap'))) := (HRest.out.2.2.2.1.grown hgrow (by omega) (fun k hk => by have := (HOr.out.lt k hk).1; omega)).setCell (Nat.le_refl _) _
      clear hown hgrow hat hnr
      go_wp2
      refine bodyPost_end (v := .tuple #[]) (by simp [results, Tryz.results87]) rfl ⟨rfl, ?_, ?_, HB8.out⟩
      · rw [← HQo.out]; exact HRb.out
      · intro j; simp [qf]
set_option maxHeartbeats 1000000 in
theorem ahead_1 (bit s both : Int) (w : World) : Calls Tryz.prog 125 #[.agg #[.int .i64 bit, .int .i64 1, .int .i64 s, .int .i64 both]] w fun e w' => e = .returned (.int .i64 0) ∧ Below w.heap.size w w' := by
  obtain ⟨sw, hsw⟩ : ∃ sw, sw = wordO 1 := ⟨_, rfl⟩
  obtain ⟨na, hna⟩ : ∃ na, na = namedO 1 := ⟨_, rfl⟩
  obtain ⟨co, hco⟩ : ∃ co, co = constO 1 := ⟨_, rfl⟩
  obtain ⟨ok, hok⟩ : ∃ ok, ok = inO 1 := ⟨_, rfl⟩
  have HS : Hid (∀ u, Calls Tryz.prog 168 #[.int .i64 1] u fun e w' => e = .returned (.tuple #[.agg #[.string sw, .int .i64 0, .bool na, .bool co], .bool ok]) ∧ Below u.heap.size u w') := fun u => by rw [hsw, hna, hco, hok]; exact shapeOf_any 1 u
  clear hsw hna hco hok
  go_enter Tryz.func125, Tryz.ntmps125
  go_wp2_with fail
  refine (HS.out _).mono ?_
  rintro e w1 ⟨rfl, b1⟩
  have HB : Hid (Below w.heap.size w w1) := ((Below.refl _ w).alloc (Nat.le_refl _) _).trans (b1.mono (by simp))
  clear b1 HS
  go_wp2
  go_ret
  exact ⟨rfl, by repeat (first | exact HB.out | refine Below.setCell ?_ HB.out.size _ | refine Below.alloc ?_ HB.out.size _)⟩
set_option maxHeartbeats 1000000 in
theorem ahead_2 (bit s both : Int) (w : World) : Calls Tryz.prog 125 #[.agg #[.int .i64 bit, .int .i64 2, .int .i64 s, .int .i64 both]] w fun e w' => e = .returned (.int .i64 2) ∧ Below w.heap.size w w' := by
  obtain ⟨sw, hsw⟩ : ∃ sw, sw = wordO 2 := ⟨_, rfl⟩
  obtain ⟨na, hna⟩ : ∃ na, na = namedO 2 := ⟨_, rfl⟩
  obtain ⟨co, hco⟩ : ∃ co, co = constO 2 := ⟨_, rfl⟩
  obtain ⟨ok, hok⟩ : ∃ ok, ok = inO 2 := ⟨_, rfl⟩
  have HS : Hid (∀ u, Calls Tryz.prog 168 #[.int .i64 2] u fun e w' => e = .returned (.tuple #[.agg #[.string sw, .int .i64 2, .bool na, .bool co], .bool ok]) ∧ Below u.heap.size u w') := fun u => by rw [hsw, hna, hco, hok]; exact shapeOf_any 2 u
  clear hsw hna hco hok
  go_enter Tryz.func125, Tryz.ntmps125
  go_wp2_with fail
  refine (HS.out _).mono ?_
  rintro e w1 ⟨rfl, b1⟩
  have HB : Hid (Below w.heap.size w w1) := ((Below.refl _ w).alloc (Nat.le_refl _) _).trans (b1.mono (by simp))
  clear b1 HS
  go_wp2
  go_ret
  exact ⟨rfl, by repeat (first | exact HB.out | refine Below.setCell ?_ HB.out.size _ | refine Below.alloc ?_ HB.out.size _)⟩
set_option maxRecDepth 100000 in
set_option maxHeartbeats 2000000 in
theorem opWith_any (k n0 n1 n2 n3 : Int) (ao : Option Addr) (cap B : Nat) (D : List Dat) (w : World) (hl : D.length ≤ 1048576) (hz : ∀ (k : Nat) (h : k < D.length), D[k].name.size ≤ 1048576) (ho : w.ownsRow B 196 4 (.slice ao D.length cap) D.length (cellsD D)) :
    Calls Tryz.prog 126 #[.int .i64 k, .agg #[.int .i64 n0, .int .i64 n1, .int .i64 n2, .int .i64 n3], .slice ao D.length cap] w fun e w' => ∃ v, e = .returned ((opK k n0 n1 n2 n3 D).val v) ∧ w'.ownsRow (w.heap.size + 2) 196 4 v D.length (cellsD D) ∧ Below w.heap.size w w' := by
  obtain ⟨W, hW⟩ : ∃ W, W = ((w.alloc (.cells #[.int .i64 n0, .int .i64 n1, .int .i64 n2, .int .i64 n3] 182)).alloc (.cells #[.int .i64 0, .int .i64 0, .int .i64 0, .int .i64 0, .int .i64 0, .string ⟨#[]⟩, .slice none 0 0] 100)) := ⟨_, rfl⟩
  have HW : Hid (W = ((w.alloc (.cells #[.int .i64 n0, .int .i64 n1, .int .i64 n2, .int .i64 n3] 182)).alloc (.cells #[.int .i64 0, .int .i64 0, .int .i64 0, .int .i64 0, .int .i64 0, .string ⟨#[]⟩, .slice none 0 0] 100))) := hW
  have HBW : Hid (Below w.heap.size w W) := by rw [hW]; exact ((Below.refl _ _).alloc (Nat.le_refl _) _).alloc (by simp) _
  have HWs : Hid (W.heap.size = w.heap.size + 2) := by show _ = _; rw [hW]; simp
  have HP0 : Hid (W.cell? ⟨w.heap.size, 0, none⟩ = some (.int .i64 n0)) := by show _ = _; rw [hW]; simp [go_sem]
  have HP1 : Hid (W.cell? ⟨w.heap.size, 1, none⟩ = some (.int .i64 n1)) := by show _ = _; rw [hW]; simp [go_sem]
  have HP2 : Hid (W.cell? ⟨w.heap.size, 2, none⟩ = some (.int .i64 n2)) := by show _ = _; rw [hW]; simp [go_sem]
  have HP3 : Hid (W.cell? ⟨w.heap.size, 3, none⟩ = some (.int .i64 n3)) := by show _ = _; rw [hW]; simp [go_sem]
  have r0 : W.cell? ⟨w.heap.size + 1, 0, none⟩ = some (.int .i64 0) := by rw [hW]; simp [go_sem]
  have r1 : W.cell? ⟨w.heap.size + 1, 1, none⟩ = some (.int .i64 0) := by rw [hW]; simp [go_sem]
  have r2 : W.cell? ⟨w.heap.size + 1, 2, none⟩ = some (.int .i64 0) := by rw [hW]; simp [go_sem]
  have r3 : W.cell? ⟨w.heap.size + 1, 3, none⟩ = some (.int .i64 0) := by rw [hW]; simp [go_sem]
  have r4 : W.cell? ⟨w.heap.size + 1, 4, none⟩ = some (.int .i64 0) := by rw [hW]; simp [go_sem]
  have r5 : W.cell? ⟨w.heap.size + 1, 5, none⟩ = some (.string ⟨#[]⟩) := by rw [hW]; simp [go_sem]
  have r6 : W.cell? ⟨w.heap.size + 1, 6, none⟩ = some (.slice none 0 0) := by rw [hW]; simp [go_sem]
  have rf : ∀ j, W.frozen? ⟨w.heap.size + 1, j, none⟩ = false := fun j => by rw [hW]; simp [go_sem]
  have hlW : w.heap.size + 1 < W.heap.size := by rw [hW]; simp
  have HRs : Hid (∀ u, Below W.heap.size W u → u.cell? ⟨w.heap.size + 1, 0, none⟩ = some (.int .i64 0) ∧ u.cell? ⟨w.heap.size + 1, 1, none⟩ = some (.int .i64 0) ∧ u.cell? ⟨w.heap.size + 1, 2, none⟩ = some (.int .i64 0) ∧ u.cell? ⟨w.heap.size + 1, 3, none⟩ = some (.int .i64 0) ∧ u.cell? ⟨w.heap.size + 1, 4, none⟩ = some (.int .i64 0) ∧ u.cell? ⟨w.heap.size + 1, 5, none⟩ = some (.string ⟨#[]⟩) ∧ u.cell? ⟨w.heap.size + 1, 6, none⟩ = some (.slice none 0 0) ∧ (∀ j, u.frozen? ⟨w.heap.size + 1, j, none⟩ = false) ∧ w.heap.size + 1 < u.heap.size) := fun u hu => ⟨cell_keep hu r0, cell_keep hu r1, cell_keep hu r2, cell_keep hu r3, cell_keep hu r4, cell_keep hu r5, cell_keep hu r6, (fun j => by rw [(bcell hu).2 _ _ hlW]; exact rf j), Nat.lt_of_lt_of_le hlW hu.size⟩
  have HD : Hid (∀ u, Below W.heap.size W u → Calls Tryz.prog 128 #[.slice ao D.length cap, .func (.func 129) #[] #[]] u fun e w' => ∃ v, e = .returned v ∧ w'.ownsRow u.heap.size 196 4 v D.length (cellsD D) ∧ Below u.heap.size u w') := fun u hu => turnDD_any ao cap B D u hl hz (own_below ho (HBW.out.trans (hu.mono HBW.out.size)))
  clear hW ho hz hl r0 r1 r2 r3 r4 r5 r6 rf hlW
  go_enter Tryz.func126, Tryz.ntmps126
  go_wp2_with fail
  rw [← HW.out]
  clear HW
  refine wp_region_facts (by kernel_rfl) 12 (fun v => Below W.heap.size W v) (fun u v => Below u.heap.size u v) (fun i v u => match i with | 0 => (fun v _ => v = .int .i64 k) v u | 1 => (fun v _ => v = .pointer (some ⟨w.heap.size, 0, none⟩)) v u | 2 => (fun v _ => v = .int .i64 n0) v u | 3 => (fun v _ => v = .pointer (some ⟨w.heap.size, 1, none⟩)) v u | 4 => (fun v _ => v = .int .i64 n1) v u | 5 => (fun v _ => v = .pointer (some ⟨w.heap.size, 2, none⟩)) v u | 6 => (fun v _ => v = .int .i64 n2) v u | 7 => (fun v _ => v = .pointer (some ⟨w.heap.size, 3, none⟩)) v u | 8 => (fun v _ => v = .int .i64 n3) v u | 9 => (fun v _ => v = .slice ao D.length cap) v u | 10 => (fun v u => ∃ av cv, v = .slice av D.length cv ∧ u.ownsRow (w.heap.size + 2) 196 4 (.slice av D.length cv) D.length (cellsD D)) v u | 11 => (fun v u => ∃ av cv, v = .agg #[.int .i64 k, .int .i64 n0, .int .i64 n1, .int .i64 n2, .int .i64 n3, .string ⟨#[]⟩, .slice av D.length cv] ∧ u.ownsRow (w.heap.size + 2) 196 4 (.slice av D.length cv) D.length (cellsD D)) v u | _ => True) (by kernel_rfl) [0, 1, 2, 3, 4, 5, 6, 7, 8, 9, 10, 11] (by kernel_rfl) ?b0 ?bk ?fk ⟨?s0, ?s1, ?s2, ?s3, ?s4, ?s5, ?s6, ?s7, ?s8, ?s9, ?s10, ?s11, trivial⟩ _ rfl [(0, some 7), (1, some 8), (2, some 9), (3, some 10), (4, some 11), (5, some 12), (6, some 13), (7, some 14), (8, some 15), (9, some 16), (10, some 17), (11, some 18)] (by kernel_rfl) ?last
  case b0 => exact Below.drew (Below.refl _ _)
  case bk => exact fun u v h hb => h.trans (hb.mono h.size)
  case fk => intro i v u u' h hb; match i, h with | 0, h => exact (h) | 1, h => exact (h) | 2, h => exact (h) | 3, h => exact (h) | 4, h => exact (h) | 5, h => exact (h) | 6, h => exact (h) | 7, h => exact (h) | 8, h => exact (h) | 9, h => exact (h) | 10, h => exact (by obtain ⟨av, cv, e1, e2⟩ := h; exact ⟨av, cv, e1, own_below e2 hb⟩) | 11, h => exact (by obtain ⟨av, cv, e1, e2⟩ := h; exact ⟨av, cv, e1, own_below e2 hb⟩) | _ + 12, _ => exact trivial
  case s0 =>
    refine StepF.of rfl [] (by kernel_rfl) ?_
    intro vs u hB hf K hK
    clear hf
    simp only [putsA, List.foldl_nil, Act.put, List.setIfInBounds_toArray] at hK ⊢
    rw [if_pos (by rfl)]
    go_simp
    exact hK.out _ _ (Below.refl _ _) rfl
  case s1 =>
    refine StepF.of rfl [] (by kernel_rfl) ?_
    intro vs u hB hf K hK
    clear hf
    simp only [putsA, List.foldl_nil, Act.put, List.setIfInBounds_toArray] at hK ⊢
    rw [if_pos (by rfl)]
    go_simp
    exact hK.out _ _ (Below.refl _ _) rfl
  case s2 =>
    refine StepF.of rfl [(1, some 8)] (by kernel_rfl) ?_
    intro vs u hB hf K hK
    have f1 : (fun v _ => v = .pointer (some ⟨w.heap.size, 0, none⟩)) (vs 1) u := hf.1
    clear hf
    simp only [putsA, List.foldl_cons, List.foldl_nil, Act.put, List.setIfInBounds_toArray, List.set_cons_zero, List.set_cons_succ] at hK ⊢
    generalize vs 1 = v1 at f1 hK ⊢
    rw [if_pos (by rfl)]
    subst f1
    have q := cell_keep hB HP0.out
    go_simp
    exact hK.out _ _ (Below.refl _ _) rfl
  case s3 =>
    refine StepF.of rfl [] (by kernel_rfl) ?_
    intro vs u hB hf K hK
    clear hf
    simp only [putsA, List.foldl_nil, Act.put, List.setIfInBounds_toArray] at hK ⊢
    rw [if_pos (by rfl)]
    go_simp
    exact hK.out _ _ (Below.refl _ _) rfl
  case s4 =>
    refine StepF.of rfl [(3, some 10)] (by kernel_rfl) ?_
    intro vs u hB hf K hK
    have f3 : (fun v _ => v = .pointer (some ⟨w.heap.size, 1, none⟩)) (vs 3) u := hf.1
    clear hf
    simp only [putsA, List.foldl_cons, List.foldl_nil, Act.put, List.setIfInBounds_toArray, List.set_cons_zero, List.set_cons_succ] at hK ⊢
    generalize vs 3 = v3 at f3 hK ⊢
    rw [if_pos (by rfl)]
    subst f3
    have q := cell_keep hB HP1.out
    go_simp
    exact hK.out _ _ (Below.refl _ _) rfl
  case s5 =>
    refine StepF.of rfl [] (by kernel_rfl) ?_
    intro vs u hB hf K hK
    clear hf
    simp only [putsA, List.foldl_nil, Act.put, List.setIfInBounds_toArray] at hK ⊢
    rw [if_pos (by rfl)]
    go_simp
    exact hK.out _ _ (Below.refl _ _) rfl
  case s6 =>
    refine StepF.of rfl [(5, some 12)] (by kernel_rfl) ?_
    intro vs u hB hf K hK
    have f5 : (fun v _ => v = .pointer (some ⟨w.heap.size, 2, none⟩)) (vs 5) u := hf.1
    clear hf
    simp only [putsA, List.foldl_cons, List.foldl_nil, Act.put, List.setIfInBounds_toArray, List.set_cons_zero, List.set_cons_succ] at hK ⊢
    generalize vs 5 = v5 at f5 hK ⊢
    rw [if_pos (by rfl)]
    subst f5
    have q := cell_keep hB HP2.out
    go_simp
    exact hK.out _ _ (Below.refl _ _) rfl
  case s7 =>
    refine StepF.of rfl [] (by kernel_rfl) ?_
    intro vs u hB hf K hK
    clear hf
    simp only [putsA, List.foldl_nil, Act.put, List.setIfInBounds_toArray] at hK ⊢
    rw [if_pos (by rfl)]
    go_simp
    exact hK.out _ _ (Below.refl _ _) rfl
  case s8 =>
    refine StepF.of rfl [(7, some 14)] (by kernel_rfl) ?_
    intro vs u hB hf K hK
    have f7 : (fun v _ => v = .pointer (some ⟨w.heap.size, 3, none⟩)) (vs 7) u := hf.1
    clear hf
    simp only [putsA, List.foldl_cons, List.foldl_nil, Act.put, List.setIfInBounds_toArray, List.set_cons_zero, List.set_cons_succ] at hK ⊢
    generalize vs 7 = v7 at f7 hK ⊢
    rw [if_pos (by rfl)]
    subst f7
    have q := cell_keep hB HP3.out
    go_simp
    exact hK.out _ _ (Below.refl _ _) rfl
  case s9 =>
    refine StepF.of rfl [] (by kernel_rfl) ?_
    intro vs u hB hf K hK
    clear hf
    simp only [putsA, List.foldl_nil, Act.put, List.setIfInBounds_toArray] at hK ⊢
    rw [if_pos (by rfl)]
    go_simp
    exact hK.out _ _ (Below.refl _ _) rfl
  case s10 =>
    refine StepF.of rfl [(9, some 16)] (by kernel_rfl) ?_
    intro vs u hB hf K hK
    have f9 : (fun v _ => v = .slice ao D.length cap) (vs 9) u := hf.1
    clear hf
    simp only [putsA, List.foldl_cons, List.foldl_nil, Act.put, List.setIfInBounds_toArray, List.set_cons_zero, List.set_cons_succ] at hK ⊢
    generalize vs 9 = v9 at f9 hK ⊢
    rw [if_pos (by rfl)]
    subst f9
    go_simp
    refine (HD.out _ hB).mono ?_
    rintro e w4 ⟨v4, rfl, o4, b4⟩
    obtain ⟨av, cv, rfl⟩ := own_form o4
    exact hK.out _ _ b4 ⟨av, cv, rfl, own_base o4 (by have := hB.size; have := HWs.out; omega)⟩
  case s11 =>
    refine StepF.of rfl [(0, some 7), (2, some 9), (4, some 11), (6, some 13), (8, some 15), (10, some 17)] (by kernel_rfl) ?_
    intro vs u hB hf K hK
    have f0 : (fun v _ => v = .int .i64 k) (vs 0) u := hf.1
    have f2 : (fun v _ => v = .int .i64 n0) (vs 2) u := hf.2.1
    have f4 : (fun v _ => v = .int .i64 n1) (vs 4) u := hf.2.2.1
    have f6 : (fun v _ => v = .int .i64 n2) (vs 6) u := hf.2.2.2.1
    have f8 : (fun v _ => v = .int .i64 n3) (vs 8) u := hf.2.2.2.2.1
    have f10 : (fun v u => ∃ av cv, v = .slice av D.length cv ∧ u.ownsRow (w.heap.size + 2) 196 4 (.slice av D.length cv) D.length (cellsD D)) (vs 10) u := hf.2.2.2.2.2.1
    clear hf
    simp only [putsA, List.foldl_cons, List.foldl_nil, Act.put, List.setIfInBounds_toArray, List.set_cons_zero, List.set_cons_succ] at hK ⊢
    generalize vs 0 = v0 at f0 hK ⊢
    generalize vs 2 = v2 at f2 hK ⊢
    generalize vs 4 = v4 at f4 hK ⊢
    generalize vs 6 = v6 at f6 hK ⊢
    generalize vs 8 = v8 at f8 hK ⊢
    generalize vs 10 = v10 at f10 hK ⊢
    rw [if_pos (by rfl)]
    subst f0 f2 f4 f6 f8
    obtain ⟨av, cv, rfl, o5⟩ := f10
    have HO5 : Hid (u.ownsRow (w.heap.size + 2) 196 4 (.slice av D.length cv) D.length (cellsD D)) := o5
    clear o5
    go_simp
    exact hK.out _ _ (Below.refl _ _) ⟨av, cv, rfl, HO5.out⟩
  case last =>
    intro vs u hB hf K hK
    have f0 : (fun v _ => v = .int .i64 k) (vs 0) u := hf.1
    have f1 : (fun v _ => v = .pointer (some ⟨w.heap.size, 0, none⟩)) (vs 1) u := hf.2.1
    have f2 : (fun v _ => v = .int .i64 n0) (vs 2) u := hf.2.2.1
    have f3 : (fun v _ => v = .pointer (some ⟨w.heap.size, 1, none⟩)) (vs 3) u := hf.2.2.2.1
    have f4 : (fun v _ => v = .int .i64 n1) (vs 4) u := hf.2.2.2.2.1
    have f5 : (fun v _ => v = .pointer (some ⟨w.heap.size, 2, none⟩)) (vs 5) u := hf.2.2.2.2.2.1
    have f6 : (fun v _ => v = .int .i64 n2) (vs 6) u := hf.2.2.2.2.2.2.1
    have f7 : (fun v _ => v = .pointer (some ⟨w.heap.size, 3, none⟩)) (vs 7) u := hf.2.2.2.2.2.2.2.1
    have f8 : (fun v _ => v = .int .i64 n3) (vs 8) u := hf.2.2.2.2.2.2.2.2.1
    have f9 : (fun v _ => v = .slice ao D.length cap) (vs 9) u := hf.2.2.2.2.2.2.2.2.2.1
    have f10 : (fun v u => ∃ av cv, v = .slice av D.length cv ∧ u.ownsRow (w.heap.size + 2) 196 4 (.slice av D.length cv) D.length (cellsD D)) (vs 10) u := hf.2.2.2.2.2.2.2.2.2.2.1
    have f11 : (fun v u => ∃ av cv, v = .agg #[.int .i64 k, .int .i64 n0, .int .i64 n1, .int .i64 n2, .int .i64 n3, .string ⟨#[]⟩, .slice av D.length cv] ∧ u.ownsRow (w.heap.size + 2) 196 4 (.slice av D.length cv) D.length (cellsD D)) (vs 11) u := hf.2.2.2.2.2.2.2.2.2.2.2.1
    clear hf
    simp only [putsA, List.foldl_cons, List.foldl_nil, Act.put, List.setIfInBounds_toArray, List.set_cons_zero, List.set_cons_succ]
    generalize vs 0 = v0 at f0 ⊢
    generalize vs 1 = v1 at f1 ⊢
    generalize vs 2 = v2 at f2 ⊢
    generalize vs 3 = v3 at f3 ⊢
    generalize vs 4 = v4 at f4 ⊢
    generalize vs 5 = v5 at f5 ⊢
    generalize vs 6 = v6 at f6 ⊢
    generalize vs 7 = v7 at f7 ⊢
    generalize vs 8 = v8 at f8 ⊢
    generalize vs 9 = v9 at f9 ⊢
    generalize vs 10 = v10 at f10 ⊢
    generalize vs 11 = v11 at f11 ⊢
    rw [if_pos (by rfl)]
    subst f0 f1 f2 f3 f4 f5 f6 f7 f8 f9
    obtain ⟨av, cv, rfl, o5⟩ := f11
    clear f10
    have HO5 : Hid (u.ownsRow (w.heap.size + 2) 196 4 (.slice av D.length cv) D.length (cellsD D)) := o5
    obtain ⟨r0, r1, r2, r3, r4, r5, r6, rf, rl⟩ := HRs.out u hB
    have HB4 : Hid (Below w.heap.size w u) := HBW.out.trans (hB.mono HBW.out.size)
    clear o5
    go_simp
    refine hK.out _ _ ?_
    clear hK hB
    go_wp2
    refine bodyPost_ret (v := (opK k n0 n1 n2 n3 D).val (.slice av D.length cv)) (by simp [results, Tryz.results126, go_sem, opK, Opr.val, r0, r1, r2, r3, r4, r5, r6]) rfl ⟨_, rfl, ?_, ?_⟩
    · iterate 7 (refine own_set_low ?_ (by omega) _)
      exact HO5.out
    · repeat (first | refine Below.setCell ?_ (by simp) _ | exact HB4.out)
structure SpS (f o gb gh : Nat) (bit fi s both a b c d h0 h1 h2 h3 : Int) (v : Value) (u : World) : Prop where
  f0 : u.cell? ⟨f, 0, none⟩ = some (.int .i64 bit)
  f1 : u.cell? ⟨f, 1, none⟩ = some (.int .i64 fi)
  f2 : u.cell? ⟨f, 2, none⟩ = some (.int .i64 s)
  f3 : u.cell? ⟨f, 3, none⟩ = some (.int .i64 both)
  o6 : u.cell? ⟨o, 6, none⟩ = some v
  b0 : u.cell? ⟨gb, 0, none⟩ = some (.int .i64 a)
  b1 : u.cell? ⟨gb, 1, none⟩ = some (.int .i64 b)
  b2 : u.cell? ⟨gb, 2, none⟩ = some (.int .i64 c)
  b3 : u.cell? ⟨gb, 3, none⟩ = some (.int .i64 d)
  h0 : u.cell? ⟨gh, 0, none⟩ = some (.int .i64 h0)
  h1 : u.cell? ⟨gh, 1, none⟩ = some (.int .i64 h1)
  h2 : u.cell? ⟨gh, 2, none⟩ = some (.int .i64 h2)
  h3 : u.cell? ⟨gh, 3, none⟩ = some (.int .i64 h3)
theorem cell_other {u : World} {b j r i : Nat} {x y : Value} (h : u.cell? ⟨b, j, none⟩ = some x) (hn : b ≠ r) : (u.setCell ⟨r, i, none⟩ y).cell? ⟨b, j, none⟩ = some x := by
  rw [World.cell?_of_block (Below.heap_setCell _ _ _ _ hn)]; exact h
structure ZBx (u : World) (r : Nat) : Prop where
  c0 : u.cell? ⟨r, 0, none⟩ = some (.int .i64 0)
  c1 : u.cell? ⟨r, 1, none⟩ = some (.int .i64 0)
  c2 : u.cell? ⟨r, 2, none⟩ = some (.int .i64 0)
  c3 : u.cell? ⟨r, 3, none⟩ = some (.int .i64 0)
  c4 : u.cell? ⟨r, 4, none⟩ = some (.int .i64 0)
  c5 : u.cell? ⟨r, 5, none⟩ = some (.string ⟨#[]⟩)
  c6 : u.cell? ⟨r, 6, none⟩ = some (.slice none 0 0)
  fz : ∀ j, u.frozen? ⟨r, j, none⟩ = false
  lt : r < u.heap.size
theorem ZBx.below {u u' : World} {r : Nat} (h : ZBx u r) (hb : Below u.heap.size u u') : ZBx u' r :=
  ⟨cell_keep hb h.c0, cell_keep hb h.c1, cell_keep hb h.c2, cell_keep hb h.c3, cell_keep hb h.c4, cell_keep hb h.c5, cell_keep hb h.c6, fun j => by rw [(bcell hb).2 _ _ h.lt]; exact h.fz j, Nat.lt_of_lt_of_le h.lt hb.size⟩
theorem fieldN (k : Int) (z : ByteArray) (a b c d : Int) (u : World) : (Instr.field 184 (.agg #[.int .i64 k, .string z, .int .i64 a, .int .i64 b, .int .i64 c, .int .i64 d]) 2).run Tryz.prog u = .ok (.agg #[.int .i64 a, .int .i64 b, .int .i64 c, .int .i64 d]) u := by kernel_rfl
end Go.Proofs.YtoafolefecddmaaGreatDoor
