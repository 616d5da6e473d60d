/-
  Parts of the proof laid into one text, one behind the other: StOp, StBlock. Contracts of the program's and the model's functions, and what they are proved of, as their theorems say.
-/
import Derived.Test.YtoafolefecddmaaGreatDoorStDatumHv
namespace Go.Proofs.YtoafolefecddmaaGreatDoor
open Go.RowKit Go.Extern.Stop Go.Stop Go.Extern Num Go.Lib
def IsD (w : World) (B g cap : Nat) (l : List Dat) : Prop := w.ownsRow B 196 4 (.slice (some ⟨g, 0, none⟩) l.length cap) l.length (cellsD l)
theorem IsD.below {w w' : World} {B g cap : Nat} {l : List Dat} (h : IsD w B g cap l) (hb : Below w.heap.size w w') : IsD w' B g cap l := own_below h hb
theorem IsD.base {w : World} {B B' g cap : Nat} {l : List Dat} (h : IsD w B g cap l) (hb : B' ≤ B) : IsD w B' g cap l := own_base h hb
theorem IsD.low {w : World} {B g cap : Nat} {l : List Dat} (h : IsD w B g cap l) {g0 : Nat} (hg : g0 < g) (j : Nat) (u : Value) : IsD (w.setCell ⟨g0, j, none⟩ u) B g cap l := own_set h (p := ⟨g0, j, none⟩) (by show g ≠ g0; omega) u
theorem IsD.lt {w : World} {B g cap : Nat} {l : List Dat} (h : IsD w B g cap l) : B ≤ g ∧ g < w.heap.size := ⟨(World.ownsRow.lt h g rfl).1, (World.ownsRow.lt h g rfl).2⟩
structure Opr where
  kind : Int
  a : Int
  b : Int
  c : Int
  d : Int
  name : ByteArray
  data : List Dat
abbrev Opr.val (t : Opr) (v : Value) : Value := .agg #[.int .i64 t.kind, .int .i64 t.a, .int .i64 t.b, .int .i64 t.c, .int .i64 t.d, .string t.name, v]
def Opr.cells (t : Opr) (v : Value) : List Value := [.int .i64 t.kind, .int .i64 t.a, .int .i64 t.b, .int .i64 t.c, .int .i64 t.d, .string t.name, v]
structure Opr.small (t : Opr) : Prop where
  name : t.name.size ≤ 1048576
  len : t.data.length ≤ 1048576
  names : ∀ (k : Nat) (h : k < t.data.length), t.data[k].name.size ≤ 1048576
structure Opr.able (t : Opr) : Prop where
  name : t.name.size ≤ 9223372036854775807
  len : t.data.length ≤ 9223372036854775807
  names : ∀ (k : Nat) (h : k < t.data.length), t.data[k].name.size ≤ 9223372036854775807
def MemOp (w : World) (a : Option Addr) (l : List Opr) : Prop :=
  0 < l.length → ∃ b off, a = some ⟨b, off, none⟩ ∧ ∀ (k : Nat) (h : k < l.length), w.cell? ⟨b, off + k * 7, none⟩ = some (.int .i64 l[k].kind) ∧ w.cell? ⟨b, off + k * 7 + 1, none⟩ = some (.int .i64 l[k].a) ∧ w.cell? ⟨b, off + k * 7 + 2, none⟩ = some (.int .i64 l[k].b) ∧ w.cell? ⟨b, off + k * 7 + 3, none⟩ = some (.int .i64 l[k].c) ∧ w.cell? ⟨b, off + k * 7 + 4, none⟩ = some (.int .i64 l[k].d) ∧ w.cell? ⟨b, off + k * 7 + 5, none⟩ = some (.string l[k].name) ∧ ∃ ao cap, w.cell? ⟨b, off + k * 7 + 6, none⟩ = some (.slice ao l[k].data.length cap) ∧ MemD w ao l[k].data
theorem MemOp.below {w w' : World} {a : Option Addr} {l : List Opr} (h : MemOp w a l) (hb : Below w.heap.size w w') : MemOp w' a l := by
  intro hl
  obtain ⟨b, off, e, hc⟩ := h hl
  refine ⟨b, off, e, fun k hk => ?_⟩
  obtain ⟨c0, c1, c2, c3, c4, c5, ao, cap, cz, hm⟩ := hc k hk
  exact ⟨cell_keep hb c0, cell_keep hb c1, cell_keep hb c2, cell_keep hb c3, cell_keep hb c4, cell_keep hb c5, ao, cap, cell_keep hb cz, hm.below hb⟩
def SZ1Op (t : Opr) (w : World) (e : Ending) (w' : World) : Prop := ((e = .returned (.int .i64 (-1))) ∨ (∃ q : Nat, q ≤ 1048576 ∧ e = .returned (.int .i64 (q : Int)) ∧ t.small)) ∧ Below w.heap.size w w'
set_option maxHeartbeats 1000000 in
theorem szOp_any (t : Opr) (ao : Option Addr) (cap n : Nat) (w : World) (hn : n ≤ 1048576) (ht : t.able) (hm : MemD w ao t.data) :
    Calls Tryz.prog 110 #[t.val (.slice ao t.data.length cap), .int .i64 (n : Int)] w fun e w' => SZ1Op t w e w' := by
  by_cases h : n < t.name.size
  · have h63 := ht.name
    go_enter Tryz.func110, Tryz.ntmps110
    go_wp2
    go_ret
    exact ⟨.inl rfl, by repeat (first | exact Below.refl _ _ | refine Below.setCell ?_ (by simp) _ | refine Below.alloc ?_ (by simp <;> omega) _)⟩
  have HS : Hid (∀ u, Below w.heap.size w u → Calls Tryz.prog 151 #[.slice ao t.data.length cap, .int .i64 ((n : Int) - (t.name.size : Int))] u fun e w' => SZD t.data u e w') := fun u hu => by
    have e : ((n : Int) - (t.name.size : Int)) = ((n - t.name.size : Nat) : Int) := by omega
    rw [e]
    exact szDS_any ao cap t.data u (n - t.name.size) (by omega) ht.len (hm.below hu) ht.names
  have h0 : (t.name.size : Int) ≤ (n : Int) := by omega
  have h63 : t.name.size ≤ 1048576 := by omega
  go_enter Tryz.func110, Tryz.ntmps110
  go_wp2_with fail
  refine (HS.out _ ((Below.refl _ w).alloc (Nat.le_refl _) _)).mono ?_
  rintro e w1 ⟨h1, b1⟩
  have HB : Hid (Below w.heap.size w w1) := ((Below.refl _ w).alloc (Nat.le_refl _) _).trans (b1.mono (by simp))
  clear b1
  rcases h1 with rfl | ⟨q, hq, rfl, hl, hz⟩
  · go_wp2
    go_ret
    exact ⟨.inl rfl, HB.out⟩
  · have HQ : Hid t.small := ⟨h63, hl, hz⟩
    clear hl hz
    go_wp2
    go_ret
    exact ⟨.inr ⟨q, hq, rfl, HQ.out⟩, HB.out⟩
def SZOp (l : List Opr) (w : World) (e : Ending) (w' : World) : Prop :=
  ((e = .returned (.int .i64 (-1))) ∨ (∃ q : Nat, q ≤ 1048576 ∧ e = .returned (.int .i64 (q : Int)) ∧ l.length ≤ 1048576 ∧ ∀ (k : Nat) (h : k < l.length), l[k].small)) ∧ Below w.heap.size w w'
set_option maxHeartbeats 1000000 in
theorem szOpS_any (a : Option Addr) (c : Nat) (l : List Opr) (w : World) (n0 : Nat) (hn0 : n0 ≤ 1048576) (hl0 : l.length ≤ 9223372036854775807) (h : MemOp w a l) (hz : ∀ (k : Nat) (h : k < l.length), l[k].able) :
    Calls Tryz.prog 76 #[.slice a l.length c, .int .i64 (n0 : Int)] w fun e w' => SZOp l w e w' := by
  have HT : Hid (MemOp w a l) := h
  have HZ : Hid (∀ (k : Nat) (h : k < l.length), l[k].able) := hz
  clear h hz
  by_cases hl : n0 < l.length
  · go_enter Tryz.func76, Tryz.ntmps76
    go_wp2
    go_ret
    exact ⟨Or.inl rfl, Below.refl _ _⟩
  go_enter Tryz.func76, Tryz.ntmps76
  go_wp2_with fail
  go_loopw [1, 5] (fun v i wr => ∃ k n : Nat, k ≤ l.length ∧ n ≤ 1048576 ∧ v = .int .i64 (n : Int) ∧ i = .int .i64 (k : Int) ∧ Hid (∀ (j : Nat) (h : j < l.length), j < k → l[j].small) ∧ Below w.heap.size w wr) (fun _ i _ => l.length - (RowKit.intOf i).toNat)
  case atStart => exact ⟨0, n0 - l.length, Nat.zero_le _, by omega, by congr 1; omega, rfl, fun j _ hj => by omega, Below.refl _ _⟩
  case round =>
    obtain ⟨k, n, hk, hn, rfl, rfl, HJ, hb⟩ := hrel
    have HB : Hid (Below w.heap.size w wr) := hb
    clear hb
    by_cases hlt : k < l.length
    · obtain ⟨b, off, rfl, hc⟩ := (HT.out.below HB.out) (by omega)
      obtain ⟨c0, c1, c2, c3, c4, c5, ao, cap, cz, hm⟩ := hc k hlt
      clear hc
      have HX : Hid (Calls Tryz.prog 110 #[(l[k]'hlt).val (.slice ao (l[k]'hlt).data.length cap), .int .i64 (n : Int)] wr fun e w' => SZ1Op (l[k]'hlt) wr e w') := szOp_any _ ao cap n wr hn (HZ.out k hlt) hm
      clear hm
      go_wp2_with (go_at_call 110; refine HX.out.mono ?_)
      rintro e w1 ⟨h1, b1⟩
      have HB1 : Hid (Below w.heap.size w w1) := HB.out.trans (b1.mono HB.out.size)
      clear b1
      rcases h1 with rfl | ⟨q, hq, rfl, hs⟩
      · go_wp2
        go_ret
        exact ⟨Or.inl rfl, HB1.out⟩
      · have HS : Hid ((l[k]'hlt).small) := hs
        clear hs
        go_wp2
        refine ⟨⟨k + 1, q, by omega, hq, rfl, by go_num, fun j hj hjk => ?_, HB1.out⟩, by simp [RowKit.intOf]; omega⟩
        by_cases e : j < k
        · exact HJ.out j hj e
        · have : j = k := by omega
          subst this; exact HS.out
    · go_wp2
      go_ret
      exact ⟨Or.inr ⟨n, hn, rfl, by omega, fun j hj => HJ.out j hj (by omega)⟩, HB.out⟩
set_option maxHeartbeats 2000000 in
theorem toOp_any (t : Opr) (ao : Option Addr) (cap : Nat) (w : World) (ht : t.small) (hm : MemD w ao t.data) :
    Calls Tryz.prog 116 #[t.val (.slice ao t.data.length cap)] w fun e w' => ∃ g, e = .returned (t.val (.slice (some ⟨g, 0, none⟩) t.data.length t.data.length)) ∧ IsD w' (w.heap.size + 2) g t.data.length t.data ∧ Below w.heap.size w w' := by
  have HS : Hid (∀ u, Below w.heap.size w u → Calls Tryz.prog 156 #[.slice ao t.data.length cap] u fun e w' => ∃ g, e = .returned (.slice (some ⟨g, 0, none⟩) t.data.length t.data.length) ∧ IsD w' u.heap.size g t.data.length t.data ∧ Below u.heap.size u w') := fun u hu => toDS_any ao cap t.data u ht.len (hm.below hu)
  clear hm
  go_enter Tryz.func116, Tryz.ntmps116
  go_wp2_with fail
  refine (HS.out _ ((((Below.refl _ w).alloc (Nat.le_refl _) _).alloc (by simp) _).alloc (by simp; omega) _)).mono ?_
  rintro e w1 ⟨g, rfl, ho, hb⟩
  have HO : Hid (IsD w1 (w.heap.size + 1 + 1 + 1) g t.data.length t.data) := by have := ho; simp only [World.size_alloc] at this; exact this
  have hgl := HO.out.lt.1
  obtain ⟨hc1, hf1⟩ := bcell hb
  have HB : Hid (Below w.heap.size w w1) := ((((Below.refl _ w).alloc (Nat.le_refl _) _).alloc (by simp) _).alloc (by simp; omega) _).trans (hb.mono (by simp; omega))
  have hs1 : w.heap.size + 1 + 1 < w1.heap.size := by have := hb.size; simp at this; omega
  clear ho hb
  have d0 : w1.cell? ⟨w.heap.size + 1 + 1, 0, none⟩ = some (.int .i64 t.kind) := by rw [hc1 _ _ (by simp)]; simp [go_sem]
  have d1 : w1.cell? ⟨w.heap.size + 1 + 1, 1, none⟩ = some (.int .i64 t.a) := by rw [hc1 _ _ (by simp)]; simp [go_sem]
  have d2 : w1.cell? ⟨w.heap.size + 1 + 1, 2, none⟩ = some (.int .i64 t.b) := by rw [hc1 _ _ (by simp)]; simp [go_sem]
  have d3 : w1.cell? ⟨w.heap.size + 1 + 1, 3, none⟩ = some (.int .i64 t.c) := by rw [hc1 _ _ (by simp)]; simp [go_sem]
  have d4 : w1.cell? ⟨w.heap.size + 1 + 1, 4, none⟩ = some (.int .i64 t.d) := by rw [hc1 _ _ (by simp)]; simp [go_sem]
  have d5 : w1.cell? ⟨w.heap.size + 1 + 1, 5, none⟩ = some (.string t.name) := by rw [hc1 _ _ (by simp)]; simp [go_sem]
  have d6 : w1.cell? ⟨w.heap.size + 1 + 1, 6, none⟩ = some (.slice none 0 0) := by rw [hc1 _ _ (by simp)]; simp [go_sem]
  have f5 : ∀ j, w1.frozen? ⟨w.heap.size + 1 + 1, j, none⟩ = false := fun j => by rw [hf1 _ _ (by simp)]; simp [go_sem]
  have r0 : w1.cell? ⟨w.heap.size + 1, 0, none⟩ = some (.int .i64 0) := by rw [hc1 _ _ (by simp)]; simp [go_sem]
  have r1 : w1.cell? ⟨w.heap.size + 1, 1, none⟩ = some (.int .i64 0) := by rw [hc1 _ _ (by simp)]; simp [go_sem]
  have r2 : w1.cell? ⟨w.heap.size + 1, 2, none⟩ = some (.int .i64 0) := by rw [hc1 _ _ (by simp)]; simp [go_sem]
  have r3 : w1.cell? ⟨w.heap.size + 1, 3, none⟩ = some (.int .i64 0) := by rw [hc1 _ _ (by simp)]; simp [go_sem]
  have r4 : w1.cell? ⟨w.heap.size + 1, 4, none⟩ = some (.int .i64 0) := by rw [hc1 _ _ (by simp)]; simp [go_sem]
  have r5 : w1.cell? ⟨w.heap.size + 1, 5, none⟩ = some (.string ⟨#[]⟩) := by rw [hc1 _ _ (by simp)]; simp [go_sem]
  have r6 : w1.cell? ⟨w.heap.size + 1, 6, none⟩ = some (.slice none 0 0) := by rw [hc1 _ _ (by simp)]; simp [go_sem]
  have g5 : ∀ j, w1.frozen? ⟨w.heap.size + 1, j, none⟩ = false := fun j => by rw [hf1 _ _ (by simp)]; simp [go_sem]
  clear hc1 hf1
  go_wp2
  refine bodyPost_ret (v := t.val (.slice (some ⟨g, 0, none⟩) t.data.length t.data.length)) (by simp [results, Tryz.results116, go_sem, r0, r1, r2, r3, r4, r5, r6]) rfl ⟨g, rfl, ?_, ?_⟩
  · refine IsD.base (B := w.heap.size + 1 + 1 + 1) ?_ (by omega)
    iterate 8 (refine IsD.low ?_ (by omega) _ _)
    exact HO.out
  · iterate 8 (refine Below.setCell ?_ (by simp <;> omega) _)
    exact HB.out
def cellsOp : List (Opr × Value) → List Value
  | [] => []
  | t :: r => t.1.cells t.2 ++ cellsOp r
theorem cellsOp_append (a b : List (Opr × Value)) : cellsOp (a ++ b) = cellsOp a ++ cellsOp b := by
  induction a with
  | nil => rfl
  | cons t r ih => simp [cellsOp, ih]
theorem cellsOp_length (l : List (Opr × Value)) : (cellsOp l).length = l.length * 7 := by
  induction l with
  | nil => rfl
  | cons t r ih => simp [cellsOp, Opr.cells, ih]; omega
theorem cellsOp_at (l : List (Opr × Value)) (k : Nat) (h : k < l.length) : (cellsOp l)[k * 7]? = some (.int .i64 l[k].1.kind) ∧ (cellsOp l)[k * 7 + 1]? = some (.int .i64 l[k].1.a) ∧ (cellsOp l)[k * 7 + 2]? = some (.int .i64 l[k].1.b) ∧ (cellsOp l)[k * 7 + 3]? = some (.int .i64 l[k].1.c) ∧ (cellsOp l)[k * 7 + 4]? = some (.int .i64 l[k].1.d) ∧ (cellsOp l)[k * 7 + 5]? = some (.string l[k].1.name) ∧ (cellsOp l)[k * 7 + 6]? = some l[k].2 := by
  induction l generalizing k with
  | nil => cases h
  | cons t r ih =>
    cases k with
    | zero => exact ⟨rfl, rfl, rfl, rfl, rfl, rfl, rfl⟩
    | succ k =>
      have hk : k < r.length := by simpa using h
      have := ih k hk
      have e : ∀ j, (cellsOp (t :: r))[j + 7]? = (cellsOp r)[j]? := fun j => by
        show (t.1.cells t.2 ++ cellsOp r)[j + 7]? = _
        rw [List.getElem?_append_right (by simp [Opr.cells])]
        simp [Opr.cells]
      have e1 : (k + 1) * 7 = k * 7 + 7 := by omega
      rw [e1, show k * 7 + 7 + 1 = k * 7 + 1 + 7 by omega, show k * 7 + 7 + 2 = k * 7 + 2 + 7 by omega, show k * 7 + 7 + 3 = k * 7 + 3 + 7 by omega, show k * 7 + 7 + 4 = k * 7 + 4 + 7 by omega, show k * 7 + 7 + 5 = k * 7 + 5 + 7 by omega, show k * 7 + 7 + 6 = k * 7 + 6 + 7 by omega, e, e, e, e, e, e, e]
      simpa using this
theorem infoOp : (Tryz.prog.info? 100).map (fun i => (i.zero, i.size, i.bytes)) = some (some (.agg #[.int .i64 0, .int .i64 0, .int .i64 0, .int .i64 0, .int .i64 0, .string ⟨#[]⟩, .slice none 0 0]), 7, 80) := by kernel_rfl
theorem makeOp (n : Nat) (hn : n ≤ 1048576) (w : World) : (Instr.makeSlice 83 (.int .i64 (n : Int)) (.int .i64 (n : Int))).run Tryz.prog w = .ok (.slice (some ⟨w.heap.size, 0, none⟩) n n) (w.alloc (.cells (madeCells #[.int .i64 0, .int .i64 0, .int .i64 0, .int .i64 0, .int .i64 0, .string ⟨#[]⟩, .slice none 0 0] (n * 7)) 100)) := by
  obtain ⟨i0, hi, hz0, hz1, hz2⟩ := info_parts infoOp
  have := run_make (P := Tryz.prog) w 83 100 i0 _ Tryz.underlying83 hi hz0 .i64 .i64 (n : Int) (n : Int) (by omega) (by omega) (by rw [hz2]; omega) (by omega)
  rw [this, hz1]
  simp [Value.cells]
theorem madeOp (n : Nat) (hn : n ≤ 1048576) (w : World) : (w.alloc (.cells (madeCells #[.int .i64 0, .int .i64 0, .int .i64 0, .int .i64 0, .int .i64 0, .string ⟨#[]⟩, .slice none 0 0] (n * 7)) 100)).ownsRow w.heap.size 100 7 (.slice (some ⟨w.heap.size, 0, none⟩) n n) n (madeCells #[.int .i64 0, .int .i64 0, .int .i64 0, .int .i64 0, .int .i64 0, .string ⟨#[]⟩, .slice none 0 0] (n * 7)).toList :=
  ⟨by simp [madeCells], .inr ⟨w.heap.size, n, _, rfl, Nat.le_refl _, heap_alloc_new w _, Nat.le_refl _, by unfold maxLen; omega, by simp [madeCells], by rw [List.take_of_length_le]; simp [madeCells]⟩⟩
theorem putxOp (xs A : List Value) (k : Nat) (a0 a1 a2 a3 a4 a5 a6 : Value) (h : xs.take (k * 7) = A) (hl : k * 7 + 7 ≤ xs.length) : (((((((xs.set (k * 7) a0).set (k * 7 + 1) a1).set (k * 7 + 2) a2).set (k * 7 + 3) a3).set (k * 7 + 4) a4).set (k * 7 + 5) a5).set (k * 7 + 6) a6).take ((k + 1) * 7) = A ++ [a0, a1, a2, a3, a4, a5, a6] := by
  have q : xs = xs.take (k * 7) ++ (xs[k * 7]'(by omega) :: xs[k * 7 + 1]'(by omega) :: xs[k * 7 + 2]'(by omega) :: xs[k * 7 + 3]'(by omega) :: xs[k * 7 + 4]'(by omega) :: xs[k * 7 + 5]'(by omega) :: xs[k * 7 + 6]'(by omega) :: xs.drop (k * 7 + 7)) := by
    rw [← List.drop_eq_getElem_cons, ← List.drop_eq_getElem_cons, ← List.drop_eq_getElem_cons, ← List.drop_eq_getElem_cons, ← List.drop_eq_getElem_cons, ← List.drop_eq_getElem_cons, ← List.drop_eq_getElem_cons, List.take_append_drop]
  have hA : A.length = k * 7 := by rw [← h]; simp; omega
  rw [h] at q
  generalize xs[k * 7]'(by omega) = x0 at q
  generalize xs[k * 7 + 1]'(by omega) = x1 at q
  generalize xs[k * 7 + 2]'(by omega) = x2 at q
  generalize xs[k * 7 + 3]'(by omega) = x3 at q
  generalize xs[k * 7 + 4]'(by omega) = x4 at q
  generalize xs[k * 7 + 5]'(by omega) = x5 at q
  generalize xs[k * 7 + 6]'(by omega) = x6 at q
  generalize xs.drop (k * 7 + 7) = r at q
  clear h
  subst q
  rw [List.set_append_right _ _ (by omega), List.set_append_right _ _ (by omega), List.set_append_right _ _ (by omega), List.set_append_right _ _ (by omega), List.set_append_right _ _ (by omega), List.set_append_right _ _ (by omega), List.set_append_right _ _ (by omega), hA, show k * 7 - k * 7 = 0 by omega, show k * 7 + 1 - k * 7 = 1 by omega, show k * 7 + 2 - k * 7 = 2 by omega, show k * 7 + 3 - k * 7 = 3 by omega, show k * 7 + 4 - k * 7 = 4 by omega, show k * 7 + 5 - k * 7 = 5 by omega, show k * 7 + 6 - k * 7 = 6 by omega]
  rw [show (k + 1) * 7 = A.length + 7 by omega, List.take_append, List.take_of_length_le (by omega), show A.length + 7 - A.length = 7 by omega]
  rfl
theorem putOp_next {wr : World} {base g n k : Nat} {xs A : List Value} {t : Opr} {v : Value} (ho : wr.ownsRow base 100 7 (.slice (some ⟨g, 0, none⟩) n n) n xs) (hA : xs.take (k * 7) = A) (hk : k < n) :
    ∃ ys, (((((((wr.setCell ⟨g, k * 7, none⟩ (.int .i64 t.kind)).setCell ⟨g, k * 7 + 1, none⟩ (.int .i64 t.a)).setCell ⟨g, k * 7 + 2, none⟩ (.int .i64 t.b)).setCell ⟨g, k * 7 + 3, none⟩ (.int .i64 t.c)).setCell ⟨g, k * 7 + 4, none⟩ (.int .i64 t.d)).setCell ⟨g, k * 7 + 5, none⟩ (.string t.name)).setCell ⟨g, k * 7 + 6, none⟩ (v)).ownsRow base 100 7 (.slice (some ⟨g, 0, none⟩) n n) n ys ∧ ys.take ((k + 1) * 7) = A ++ t.cells v :=
  ⟨_, (own_put (own_put (own_put (own_put (own_put (own_put (own_put ho _ _) _ _) _ _) _ _) _ _) _ _) _ _), putxOp xs A k _ _ _ _ _ _ _ hA (by have := ho.1; omega)⟩
def NestOp (w : World) (B g : Nat) (P : List (Opr × Value)) : Prop := ∀ x ∈ P, ∃ gk, x.2 = .slice (some ⟨gk, 0, none⟩) x.1.data.length x.1.data.length ∧ g < gk ∧ IsD w B gk x.1.data.length x.1.data
theorem NestOp.below {w w' : World} {B g : Nat} {P : List (Opr × Value)} (h : NestOp w B g P) (hb : Below w.heap.size w w') : NestOp w' B g P := fun x hx => by
  obtain ⟨gk, h1, h2, h3⟩ := h x hx
  exact ⟨gk, h1, h2, h3.below hb⟩
theorem NestOp.low {w : World} {B g : Nat} {P : List (Opr × Value)} (h : NestOp w B g P) {g0 : Nat} (hg : g0 ≤ g) (j : Nat) (u : Value) : NestOp (w.setCell ⟨g0, j, none⟩ u) B g P := fun x hx => by
  obtain ⟨gk, h1, h2, h3⟩ := h x hx
  exact ⟨gk, h1, h2, h3.low (by omega) j u⟩
theorem NestOp.set {w : World} {B g : Nat} {P : List (Opr × Value)} (h : NestOp w B g P) (j : Nat) (u : Value) : NestOp (w.setCell ⟨g, j, none⟩ u) B g P := h.low (Nat.le_refl _) j u
def IsOp (w : World) (B g cap : Nat) (l : List Opr) : Prop := ∃ P : List (Opr × Value), P.map Prod.fst = l ∧ w.ownsRow B 100 7 (.slice (some ⟨g, 0, none⟩) l.length cap) l.length (cellsOp P) ∧ NestOp w B g P
theorem IsOp.below {w w' : World} {B g cap : Nat} {l : List Opr} (h : IsOp w B g cap l) (hb : Below w.heap.size w w') : IsOp w' B g cap l := by
  obtain ⟨P, h1, h2, h3⟩ := h
  exact ⟨P, h1, own_below h2 hb, h3.below hb⟩
theorem IsOp.lt {w : World} {B g cap : Nat} {l : List Opr} (h : IsOp w B g cap l) : B ≤ g ∧ g < w.heap.size := by
  obtain ⟨P, h1, h2, h3⟩ := h
  exact ⟨(h2.lt g rfl).1, (h2.lt g rfl).2⟩
def RowOp (w : World) (B g : Nat) (l : List Opr) : Prop := ∀ (k : Nat) (h : k < l.length), w.cell? ⟨g, k * 7, none⟩ = some (.int .i64 l[k].kind) ∧ w.cell? ⟨g, k * 7 + 1, none⟩ = some (.int .i64 l[k].a) ∧ w.cell? ⟨g, k * 7 + 2, none⟩ = some (.int .i64 l[k].b) ∧ w.cell? ⟨g, k * 7 + 3, none⟩ = some (.int .i64 l[k].c) ∧ w.cell? ⟨g, k * 7 + 4, none⟩ = some (.int .i64 l[k].d) ∧ w.cell? ⟨g, k * 7 + 5, none⟩ = some (.string l[k].name) ∧
  ∃ gk, w.cell? ⟨g, k * 7 + 6, none⟩ = some (.slice (some ⟨gk, 0, none⟩) l[k].data.length l[k].data.length) ∧ IsD w B gk l[k].data.length l[k].data
theorem RowOp.below {w w' : World} {B g : Nat} {l : List Opr} (h : RowOp w B g l) (hb : Below w.heap.size w w') : RowOp w' B g l := fun k hk => by
  obtain ⟨c0, c1, c2, c3, c4, c5, gk, cz, ho⟩ := h k hk
  exact ⟨cell_keep hb c0, cell_keep hb c1, cell_keep hb c2, cell_keep hb c3, cell_keep hb c4, cell_keep hb c5, gk, cell_keep hb cz, ho.below hb⟩
theorem IsOp.row {w : World} {B g cap : Nat} {l : List Opr} (h : IsOp w B g cap l) : RowOp w B g l := fun k hk => by
  obtain ⟨P, h1, h2, h3⟩ := h
  have hkP : k < P.length := by rw [← h1] at hk; simpa using hk
  have e : l[k] = P[k].1 := by simp [← h1]
  have ha : ∀ j, (⟨g, 0, none⟩ : Addr).add j = ⟨g, j, none⟩ := fun j => by unfold Addr.add; split <;> simp_all
  have hc := h2.cells (g := g) rfl
  obtain ⟨c0, c1, c2, c3, c4, c5, cz⟩ := cellsOp_at P k hkP
  obtain ⟨gk, q1, q2, q3⟩ := h3 P[k] (List.getElem_mem hkP)
  rw [e]
  rw [q1] at cz
  exact ⟨by rw [← ha]; exact hc _ _ c0, by rw [← ha]; exact hc _ _ c1, by rw [← ha]; exact hc _ _ c2, by rw [← ha]; exact hc _ _ c3, by rw [← ha]; exact hc _ _ c4, by rw [← ha]; exact hc _ _ c5, gk, by rw [← ha]; exact hc _ _ cz, q3⟩
theorem takeOp (l : List Opr) (k : Nat) (h : k < l.length) : l.take (k + 1) = l.take k ++ [l[k]] := by
  rw [List.take_add_one, List.getElem?_eq_getElem h]; rfl
structure Blk where
  args : Int
  ops : List Opr
abbrev Blk.val (t : Blk) (v : Value) : Value := .agg #[.int .i64 t.args, v]
def Blk.cells (t : Blk) (v : Value) : List Value := [.int .i64 t.args, v]
structure Blk.small (t : Blk) : Prop where
  len : t.ops.length ≤ 1048576
  names : ∀ (k : Nat) (h : k < t.ops.length), t.ops[k].small
structure Blk.able (t : Blk) : Prop where
  len : t.ops.length ≤ 9223372036854775807
  names : ∀ (k : Nat) (h : k < t.ops.length), t.ops[k].able
def MemBl (w : World) (a : Option Addr) (l : List Blk) : Prop :=
  0 < l.length → ∃ b off, a = some ⟨b, off, none⟩ ∧ ∀ (k : Nat) (h : k < l.length), w.cell? ⟨b, off + k * 2, none⟩ = some (.int .i64 l[k].args) ∧ ∃ ao cap, w.cell? ⟨b, off + k * 2 + 1, none⟩ = some (.slice ao l[k].ops.length cap) ∧ MemOp w ao l[k].ops
theorem MemBl.below {w w' : World} {a : Option Addr} {l : List Blk} (h : MemBl w a l) (hb : Below w.heap.size w w') : MemBl w' a l := by
  intro hl
  obtain ⟨b, off, e, hc⟩ := h hl
  refine ⟨b, off, e, fun k hk => ?_⟩
  obtain ⟨c0, ao, cap, cz, hm⟩ := hc k hk
  exact ⟨cell_keep hb c0, ao, cap, cell_keep hb cz, hm.below hb⟩
def SZ1Bl (t : Blk) (w : World) (e : Ending) (w' : World) : Prop := ((e = .returned (.int .i64 (-1))) ∨ (∃ q : Nat, q ≤ 1048576 ∧ e = .returned (.int .i64 (q : Int)) ∧ t.small)) ∧ Below w.heap.size w w'
set_option maxHeartbeats 1000000 in
theorem szBl_any (t : Blk) (ao : Option Addr) (cap n : Nat) (w : World) (hn : n ≤ 1048576) (ht : t.able) (hm : MemOp w ao t.ops) :
    Calls Tryz.prog 46 #[t.val (.slice ao t.ops.length cap), .int .i64 (n : Int)] w fun e w' => SZ1Bl t w e w' := by
  have HS : Hid (∀ u, Below w.heap.size w u → Calls Tryz.prog 76 #[.slice ao t.ops.length cap, .int .i64 (n : Int)] u fun e w' => SZOp t.ops u e w') := fun u hu => szOpS_any ao cap t.ops u n hn ht.len (hm.below hu) ht.names
  go_enter Tryz.func46, Tryz.ntmps46
  go_wp2_with fail
  refine (HS.out _ ((Below.refl _ w).alloc (Nat.le_refl _) _)).mono ?_
  rintro e w1 ⟨h1, b1⟩
  have HB : Hid (Below w.heap.size w w1) := ((Below.refl _ w).alloc (Nat.le_refl _) _).trans (b1.mono (by simp))
  clear b1
  rcases h1 with rfl | ⟨q, hq, rfl, hl, hz⟩
  · go_wp2
    go_ret
    exact ⟨.inl rfl, HB.out⟩
  · have HQ : Hid t.small := ⟨hl, hz⟩
    clear hl hz
    go_wp2
    go_ret
    exact ⟨.inr ⟨q, hq, rfl, HQ.out⟩, HB.out⟩
def SZBl (l : List Blk) (w : World) (e : Ending) (w' : World) : Prop :=
  ((e = .returned (.int .i64 (-1))) ∨ (∃ q : Nat, q ≤ 1048576 ∧ e = .returned (.int .i64 (q : Int)) ∧ l.length ≤ 1048576 ∧ ∀ (k : Nat) (h : k < l.length), l[k].small)) ∧ Below w.heap.size w w'
set_option maxHeartbeats 1000000 in
theorem szBlS_any (a : Option Addr) (c : Nat) (l : List Blk) (w : World) (n0 : Nat) (hn0 : n0 ≤ 1048576) (hl0 : l.length ≤ 9223372036854775807) (h : MemBl w a l) (hz : ∀ (k : Nat) (h : k < l.length), l[k].able) :
    Calls Tryz.prog 16 #[.slice a l.length c, .int .i64 (n0 : Int)] w fun e w' => SZBl l w e w' := by
  have HT : Hid (MemBl w a l) := h
  have HZ : Hid (∀ (k : Nat) (h : k < l.length), l[k].able) := hz
  clear h hz
  by_cases hl : n0 < l.length
  · go_enter Tryz.func16, Tryz.ntmps16
    go_wp2
    go_ret
    exact ⟨Or.inl rfl, Below.refl _ _⟩
  go_enter Tryz.func16, Tryz.ntmps16
  go_wp2_with fail
  go_loopw [1, 5] (fun v i wr => ∃ k n : Nat, k ≤ l.length ∧ n ≤ 1048576 ∧ v = .int .i64 (n : Int) ∧ i = .int .i64 (k : Int) ∧ Hid (∀ (j : Nat) (h : j < l.length), j < k → l[j].small) ∧ Below w.heap.size w wr) (fun _ i _ => l.length - (RowKit.intOf i).toNat)
  case atStart => exact ⟨0, n0 - l.length, Nat.zero_le _, by omega, by congr 1; omega, rfl, fun j _ hj => by omega, Below.refl _ _⟩
  case round =>
    obtain ⟨k, n, hk, hn, rfl, rfl, HJ, hb⟩ := hrel
    have HB : Hid (Below w.heap.size w wr) := hb
    clear hb
    by_cases hlt : k < l.length
    · obtain ⟨b, off, rfl, hc⟩ := (HT.out.below HB.out) (by omega)
      obtain ⟨c0, ao, cap, cz, hm⟩ := hc k hlt
      clear hc
      have HX : Hid (Calls Tryz.prog 46 #[(l[k]'hlt).val (.slice ao (l[k]'hlt).ops.length cap), .int .i64 (n : Int)] wr fun e w' => SZ1Bl (l[k]'hlt) wr e w') := szBl_any _ ao cap n wr hn (HZ.out k hlt) hm
      clear hm
      go_wp2_with (go_at_call 46; refine HX.out.mono ?_)
      rintro e w1 ⟨h1, b1⟩
      have HB1 : Hid (Below w.heap.size w w1) := HB.out.trans (b1.mono HB.out.size)
      clear b1
      rcases h1 with rfl | ⟨q, hq, rfl, hs⟩
      · go_wp2
        go_ret
        exact ⟨Or.inl rfl, HB1.out⟩
      · have HS : Hid ((l[k]'hlt).small) := hs
        clear hs
        go_wp2
        refine ⟨⟨k + 1, q, by omega, hq, rfl, by go_num, fun j hj hjk => ?_, HB1.out⟩, by simp [RowKit.intOf]; omega⟩
        by_cases e : j < k
        · exact HJ.out j hj e
        · have : j = k := by omega
          subst this; exact HS.out
    · go_wp2
      go_ret
      exact ⟨Or.inr ⟨n, hn, rfl, by omega, fun j hj => HJ.out j hj (by omega)⟩, HB.out⟩
def cellsBl : List (Blk × Value) → List Value
  | [] => []
  | t :: r => t.1.cells t.2 ++ cellsBl r
theorem cellsBl_append (a b : List (Blk × Value)) : cellsBl (a ++ b) = cellsBl a ++ cellsBl b := by
  induction a with
  | nil => rfl
  | cons t r ih => simp [cellsBl, ih]
theorem cellsBl_at (l : List (Blk × Value)) (k : Nat) (h : k < l.length) : (cellsBl l)[k * 2]? = some (.int .i64 l[k].1.args) ∧ (cellsBl l)[k * 2 + 1]? = some l[k].2 := by
  induction l generalizing k with
  | nil => cases h
  | cons t r ih =>
    cases k with
    | zero => exact ⟨rfl, rfl⟩
    | succ k =>
      have hk : k < r.length := by simpa using h
      have := ih k hk
      have e : ∀ j, (cellsBl (t :: r))[j + 2]? = (cellsBl r)[j]? := fun j => by
        show (t.1.cells t.2 ++ cellsBl r)[j + 2]? = _
        rw [List.getElem?_append_right (by simp [Blk.cells])]
        simp [Blk.cells]
      have e1 : (k + 1) * 2 = k * 2 + 2 := by omega
      rw [e1, show k * 2 + 2 + 1 = k * 2 + 1 + 2 by omega, e, e]
      simpa using this
theorem infoBl : (Tryz.prog.info? 85).map (fun i => (i.zero, i.size, i.bytes)) = some (some (.agg #[.int .i64 0, .slice none 0 0]), 2, 32) := by kernel_rfl
theorem makeBl (n : Nat) (hn : n ≤ 1048576) (w : World) : (Instr.makeSlice 37 (.int .i64 (n : Int)) (.int .i64 (n : Int))).run Tryz.prog w = .ok (.slice (some ⟨w.heap.size, 0, none⟩) n n) (w.alloc (.cells (madeCells #[.int .i64 0, .slice none 0 0] (n * 2)) 85)) := by
  obtain ⟨i0, hi, hz0, hz1, hz2⟩ := info_parts infoBl
  have := run_make (P := Tryz.prog) w 37 85 i0 _ Tryz.underlying37 hi hz0 .i64 .i64 (n : Int) (n : Int) (by omega) (by omega) (by rw [hz2]; omega) (by omega)
  rw [this, hz1]
  simp [Value.cells]
theorem madeBl (n : Nat) (hn : n ≤ 1048576) (w : World) : (w.alloc (.cells (madeCells #[.int .i64 0, .slice none 0 0] (n * 2)) 85)).ownsRow w.heap.size 85 2 (.slice (some ⟨w.heap.size, 0, none⟩) n n) n (madeCells #[.int .i64 0, .slice none 0 0] (n * 2)).toList :=
  ⟨by simp [madeCells], .inr ⟨w.heap.size, n, _, rfl, Nat.le_refl _, heap_alloc_new w _, Nat.le_refl _, by unfold maxLen; omega, by simp [madeCells], by rw [List.take_of_length_le]; simp [madeCells]⟩⟩
theorem putxBl (xs A : List Value) (k : Nat) (a0 a1 : Value) (h : xs.take (k * 2) = A) (hl : k * 2 + 2 ≤ xs.length) : ((xs.set (k * 2) a0).set (k * 2 + 1) a1).take ((k + 1) * 2) = A ++ [a0, a1] := by
  have q : xs = xs.take (k * 2) ++ (xs[k * 2]'(by omega) :: xs[k * 2 + 1]'(by omega) :: xs.drop (k * 2 + 2)) := by
    rw [← List.drop_eq_getElem_cons, ← List.drop_eq_getElem_cons, List.take_append_drop]
  have hA : A.length = k * 2 := by rw [← h]; simp; omega
  rw [h] at q
  generalize xs[k * 2]'(by omega) = x0 at q
  generalize xs[k * 2 + 1]'(by omega) = x1 at q
  generalize xs.drop (k * 2 + 2) = r at q
  clear h
  subst q
  rw [List.set_append_right _ _ (by omega), List.set_append_right _ _ (by omega), hA, show k * 2 - k * 2 = 0 by omega, show k * 2 + 1 - k * 2 = 1 by omega]
  rw [show (k + 1) * 2 = A.length + 2 by omega, List.take_append, List.take_of_length_le (by omega), show A.length + 2 - A.length = 2 by omega]
  rfl
theorem putBl_next {wr : World} {base g n k : Nat} {xs A : List Value} {t : Blk} {v : Value} (ho : wr.ownsRow base 85 2 (.slice (some ⟨g, 0, none⟩) n n) n xs) (hA : xs.take (k * 2) = A) (hk : k < n) :
    ∃ ys, ((wr.setCell ⟨g, k * 2, none⟩ (.int .i64 t.args)).setCell ⟨g, k * 2 + 1, none⟩ (v)).ownsRow base 85 2 (.slice (some ⟨g, 0, none⟩) n n) n ys ∧ ys.take ((k + 1) * 2) = A ++ t.cells v :=
  ⟨_, (own_put (own_put ho _ _) _ _), putxBl xs A k _ _ hA (by have := ho.1; omega)⟩
def NestBl (w : World) (B g : Nat) (P : List (Blk × Value)) : Prop := ∀ x ∈ P, ∃ gk, x.2 = .slice (some ⟨gk, 0, none⟩) x.1.ops.length x.1.ops.length ∧ g < gk ∧ IsOp w B gk x.1.ops.length x.1.ops
theorem NestBl.below {w w' : World} {B g : Nat} {P : List (Blk × Value)} (h : NestBl w B g P) (hb : Below w.heap.size w w') : NestBl w' B g P := fun x hx => by
  obtain ⟨gk, h1, h2, h3⟩ := h x hx
  exact ⟨gk, h1, h2, h3.below hb⟩
def IsBl (w : World) (B g cap : Nat) (l : List Blk) : Prop := ∃ P : List (Blk × Value), P.map Prod.fst = l ∧ w.ownsRow B 85 2 (.slice (some ⟨g, 0, none⟩) l.length cap) l.length (cellsBl P) ∧ NestBl w B g P
theorem IsBl.below {w w' : World} {B g cap : Nat} {l : List Blk} (h : IsBl w B g cap l) (hb : Below w.heap.size w w') : IsBl w' B g cap l := by
  obtain ⟨P, h1, h2, h3⟩ := h
  exact ⟨P, h1, own_below h2 hb, h3.below hb⟩
def RowBl (w : World) (B g : Nat) (l : List Blk) : Prop := ∀ (k : Nat) (h : k < l.length), w.cell? ⟨g, k * 2, none⟩ = some (.int .i64 l[k].args) ∧
  ∃ gk, w.cell? ⟨g, k * 2 + 1, none⟩ = some (.slice (some ⟨gk, 0, none⟩) l[k].ops.length l[k].ops.length) ∧ IsOp w B gk l[k].ops.length l[k].ops
theorem RowBl.below {w w' : World} {B g : Nat} {l : List Blk} (h : RowBl w B g l) (hb : Below w.heap.size w w') : RowBl w' B g l := fun k hk => by
  obtain ⟨c0, gk, cz, ho⟩ := h k hk
  exact ⟨cell_keep hb c0, gk, cell_keep hb cz, ho.below hb⟩
theorem IsBl.row {w : World} {B g cap : Nat} {l : List Blk} (h : IsBl w B g cap l) : RowBl w B g l := fun k hk => by
  obtain ⟨P, h1, h2, h3⟩ := h
  have hkP : k < P.length := by rw [← h1] at hk; simpa using hk
  have e : l[k] = P[k].1 := by simp [← h1]
  have ha : ∀ j, (⟨g, 0, none⟩ : Addr).add j = ⟨g, j, none⟩ := fun j => by unfold Addr.add; split <;> simp_all
  have hc := h2.cells (g := g) rfl
  obtain ⟨c0, cz⟩ := cellsBl_at P k hkP
  obtain ⟨gk, q1, q2, q3⟩ := h3 P[k] (List.getElem_mem hkP)
  rw [e]
  rw [q1] at cz
  exact ⟨by rw [← ha]; exact hc _ _ c0, gk, by rw [← ha]; exact hc _ _ cz, q3⟩
theorem takeBl (l : List Blk) (k : Nat) (h : k < l.length) : l.take (k + 1) = l.take k ++ [l[k]] := by
  rw [List.take_add_one, List.getElem?_eq_getElem h]; rfl
end Go.Proofs.YtoafolefecddmaaGreatDoor
