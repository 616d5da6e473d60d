/-
  Parts of the proof laid into one text, one behind the other; each says at its head what is proved in it.
-/
import Derived.Test.YtebnonpdaddniaaGreatDoorHtC
import Derived.Test.YtebnonpdaddniaaGreatDoorHtF
/-
  Core, a struct of 6 cells whose last one is a slice of data, and slices of it: what the laws' szCore, szCoreS, toCore, toCoreS, eqCore and eqCoreS answer; nothing that was there is turned.
-/
namespace Go.Proofs.YtebnonpdaddniaaGreatDoor
open Go.RowKit Go.Extern.Stop Go.Stop Go.Extern Num Go.Lib

structure Cor where
  kind : Int
  parent : Int
  a : Int
  b : Int
  name : ByteArray
  data : List Dat
abbrev Cor.val (t : Cor) (v : Value) : Value := .agg #[.int .i64 t.kind, .int .i64 t.parent, .int .i64 t.a, .int .i64 t.b, .string t.name, v]
def Cor.cells (t : Cor) (v : Value) : List Value := [.int .i64 t.kind, .int .i64 t.parent, .int .i64 t.a, .int .i64 t.b, .string t.name, v]
/-- No longer than a text may be. -/
structure Cor.small (t : Cor) : Prop where
  name : t.name.size ≤ 1048576
  len : t.data.length ≤ 1048576
  names : ∀ (k : Nat) (h : k < t.data.length), t.data[k].name.size ≤ 1048576
structure Cor.able (t : Cor) : Prop where
  name : t.name.size ≤ 9223372036854775807
  len : t.data.length ≤ 9223372036854775807
  names : ∀ (k : Nat) (h : k < t.data.length), t.data[k].name.size ≤ 9223372036854775807
/-- What lies where a slice leads that came in. -/
def MemC (w : World) (a : Option Addr) (l : List Cor) : Prop :=
  0 < l.length → ∃ b off, a = some ⟨b, off, none⟩ ∧ ∀ (k : Nat) (h : k < l.length), w.cell? ⟨b, off + k * 6, none⟩ = some (.int .i64 l[k].kind) ∧ w.cell? ⟨b, off + k * 6 + 1, none⟩ = some (.int .i64 l[k].parent) ∧ w.cell? ⟨b, off + k * 6 + 2, none⟩ = some (.int .i64 l[k].a) ∧ w.cell? ⟨b, off + k * 6 + 3, none⟩ = some (.int .i64 l[k].b) ∧ w.cell? ⟨b, off + k * 6 + 4, none⟩ = some (.string l[k].name) ∧ ∃ ao cap, w.cell? ⟨b, off + k * 6 + 5, none⟩ = some (.slice ao l[k].data.length cap) ∧ MemD w ao l[k].data
theorem MemC.below {w w' : World} {a : Option Addr} {l : List Cor} (h : MemC w a l) (hb : Below w.heap.size w w') : MemC w' a l := by
  intro hl
  obtain ⟨b, off, e, hc⟩ := h hl
  refine ⟨b, off, e, fun k hk => ?_⟩
  obtain ⟨c0, c1, c2, c3, c4, ao, cap, c5, hm⟩ := hc k hk
  exact ⟨cell_keep hb c0, cell_keep hb c1, cell_keep hb c2, cell_keep hb c3, cell_keep hb c4, ao, cap, cell_keep hb c5, hm.below hb⟩
def SZ1 (t : Cor) (w : World) (e : Ending) (w' : World) : Prop := ((e = .returned (.int .i64 (-1))) ∨ (∃ q : Nat, q ≤ 1048576 ∧ e = .returned (.int .i64 (q : Int)) ∧ t.small)) ∧ Below w.heap.size w w'
theorem szC_any (t : Cor) (ao : Option Addr) (cap n : Nat) (w : World) (hn : n ≤ 1048576) (ht : t.able) (hm : MemD w ao t.data) :
    Calls Tryz.prog 54 #[t.val (.slice ao t.data.length cap), .int .i64 (n : Int)] w fun e w' => SZ1 t w e w' := by
  by_cases h : n < t.name.size
  · have h63 := ht.name
    go_enter Tryz.func54, Tryz.ntmps54
    go_wp2
    go_ret
    exact ⟨.inl rfl, by repeat (first | exact Below.refl _ _ | refine Below.setCell ?_ (by simp) _ | refine Below.alloc ?_ (by simp <;> omega) _)⟩
  · have HS : Hid (∀ u, Below w.heap.size w u → Calls Tryz.prog 21 #[.slice ao t.data.length cap, .int .i64 ((n : Int) - (t.name.size : Int))] u fun e w' => SZD t.data u e w') := fun u hu => by
      have e : ((n : Int) - (t.name.size : Int)) = ((n - t.name.size : Nat) : Int) := by omega
      rw [e]
      exact szDS_any ao cap t.data u (n - t.name.size) (by omega) ht.len (hm.below hu) ht.names
    have h0 : (t.name.size : Int) ≤ (n : Int) := by omega
    have h63 : t.name.size ≤ 1048576 := by omega
    go_enter Tryz.func54, Tryz.ntmps54
    go_wp2_with fail
    refine (HS.out _ ((Below.refl _ w).alloc (Nat.le_refl _) _)).mono ?_
    rintro e w1 ⟨h1, b1⟩
    have HB : Hid (Below w.heap.size w w1) := ((Below.refl _ w).alloc (Nat.le_refl _) _).trans (b1.mono (by simp))
    clear b1
    rcases h1 with rfl | ⟨q, hq, rfl, hl, hz⟩
    · go_wp2
      go_ret
      exact ⟨.inl rfl, HB.out⟩
    · have HQ : Hid t.small := ⟨h63, hl, hz⟩
      clear hl hz
      go_wp2
      go_ret
      exact ⟨.inr ⟨q, hq, rfl, HQ.out⟩, HB.out⟩
def SZC (l : List Cor) (w : World) (e : Ending) (w' : World) : Prop :=
  ((e = .returned (.int .i64 (-1))) ∨ (∃ q : Nat, q ≤ 1048576 ∧ e = .returned (.int .i64 (q : Int)) ∧ l.length ≤ 1048576 ∧ ∀ (k : Nat) (h : k < l.length), l[k].small)) ∧ Below w.heap.size w w'
set_option maxHeartbeats 1000000 in
theorem szCS_any (a : Option Addr) (c : Nat) (l : List Cor) (w : World) (n0 : Nat) (hn0 : n0 ≤ 1048576) (hl0 : l.length ≤ 9223372036854775807) (h : MemC w a l) (hz : ∀ (k : Nat) (h : k < l.length), l[k].able) :
    Calls Tryz.prog 16 #[.slice a l.length c, .int .i64 (n0 : Int)] w fun e w' => SZC l w e w' := by
  have HT : Hid (MemC w a l) := h
  have HZ : Hid (∀ (k : Nat) (h : k < l.length), l[k].able) := hz
  clear h hz
  by_cases hl : n0 < l.length
  · go_enter Tryz.func16, Tryz.ntmps16
    go_wp2
    go_ret
    exact ⟨Or.inl rfl, Below.refl _ _⟩
  go_enter Tryz.func16, Tryz.ntmps16
  go_wp2_with fail
  go_loopw [1, 5] (fun v i wr => ∃ k n : Nat, k ≤ l.length ∧ n ≤ 1048576 ∧ v = .int .i64 (n : Int) ∧ i = .int .i64 (k : Int) ∧ Hid (∀ (j : Nat) (h : j < l.length), j < k → l[j].small) ∧ Below w.heap.size w wr) (fun _ i _ => l.length - (RowKit.intOf i).toNat)
  case atStart => exact ⟨0, n0 - l.length, Nat.zero_le _, by omega, by congr 1; omega, rfl, fun j _ hj => by omega, Below.refl _ _⟩
  case round =>
    obtain ⟨k, n, hk, hn, rfl, rfl, HJ, hb⟩ := hrel
    have HB : Hid (Below w.heap.size w wr) := hb
    clear hb
    by_cases hlt : k < l.length
    · obtain ⟨b, off, rfl, hc⟩ := (HT.out.below HB.out) (by omega)
      obtain ⟨c0, c1, c2, c3, c4, ao, cap, c5, hm⟩ := hc k hlt
      clear hc
      have HX : Hid (Calls Tryz.prog 54 #[(l[k]'hlt).val (.slice ao (l[k]'hlt).data.length cap), .int .i64 (n : Int)] wr fun e w' => SZ1 (l[k]'hlt) wr e w') := szC_any _ ao cap n wr hn (HZ.out k hlt) hm
      clear hm
      go_wp2_with (go_at_call 54; refine HX.out.mono ?_)
      rintro e w1 ⟨h1, b1⟩
      have HB1 : Hid (Below w.heap.size w w1) := HB.out.trans (b1.mono HB.out.size)
      clear b1
      rcases h1 with rfl | ⟨q, hq, rfl, hs⟩
      · go_wp2
        go_ret
        exact ⟨Or.inl rfl, HB1.out⟩
      · have HS : Hid ((l[k]'hlt).small) := hs
        clear hs
        go_wp2
        refine ⟨⟨k + 1, q, by omega, hq, rfl, by go_num, fun j hj hjk => ?_, HB1.out⟩, by simp [RowKit.intOf]; omega⟩
        by_cases e : j < k
        · exact HJ.out j hj e
        · have : j = k := by omega
          subst this; exact HS.out
    · go_wp2
      go_ret
      exact ⟨Or.inr ⟨n, hn, rfl, by omega, fun j hj => HJ.out j hj (by omega)⟩, HB.out⟩
/-- A core made anew: its data lie in a row of their own. -/
theorem toC_any (t : Cor) (ao : Option Addr) (cap : Nat) (w : World) (ht : t.small) (hm : MemD w ao t.data) :
    Calls Tryz.prog 56 #[t.val (.slice ao t.data.length cap)] w fun e w' => ∃ g, e = .returned (t.val (.slice (some ⟨g, 0, none⟩) t.data.length t.data.length)) ∧ w'.ownsRow (w.heap.size + 2) 100 4 (.slice (some ⟨g, 0, none⟩) t.data.length t.data.length) t.data.length (cellsD t.data) ∧ Below w.heap.size w w' := by
  have HS : Hid (∀ u, Below w.heap.size w u → Calls Tryz.prog 23 #[.slice ao t.data.length cap] u fun e w' => ∃ g, e = .returned (.slice (some ⟨g, 0, none⟩) t.data.length t.data.length) ∧ w'.ownsRow u.heap.size 100 4 (.slice (some ⟨g, 0, none⟩) t.data.length t.data.length) t.data.length (cellsD t.data) ∧ Below u.heap.size u w') := fun u hu => toDS_any ao cap t.data u ht.len (hm.below hu)
  clear hm
  go_enter Tryz.func56, Tryz.ntmps56
  go_wp2_with fail
  refine (HS.out _ ((((Below.refl _ w).alloc (Nat.le_refl _) _).alloc (by simp) _).alloc (by simp; omega) _)).mono ?_
  rintro e w1 ⟨g, rfl, ho, hb⟩
  have HO : Hid (w1.ownsRow (w.heap.size + 1 + 1 + 1) 100 4 (.slice (some ⟨g, 0, none⟩) t.data.length t.data.length) t.data.length (cellsD t.data)) := by have := ho; simp only [World.size_alloc] at this; exact this
  have hgl := (ho.lt g rfl).1
  simp at hgl
  obtain ⟨hc1, hf1⟩ := bcell hb
  have HB : Hid (Below w.heap.size w w1) := ((((Below.refl _ w).alloc (Nat.le_refl _) _).alloc (by simp) _).alloc (by simp; omega) _).trans (hb.mono (by simp; omega))
  have hs1 : w.heap.size + 1 + 1 < w1.heap.size := by have := hb.size; simp at this; omega
  clear ho hb
  have d0 : w1.cell? ⟨w.heap.size + 1 + 1, 0, none⟩ = some (.int .i64 t.kind) := by rw [hc1 _ _ (by simp)]; simp [go_sem]
  have d1 : w1.cell? ⟨w.heap.size + 1 + 1, 1, none⟩ = some (.int .i64 t.parent) := by rw [hc1 _ _ (by simp)]; simp [go_sem]
  have d2 : w1.cell? ⟨w.heap.size + 1 + 1, 2, none⟩ = some (.int .i64 t.a) := by rw [hc1 _ _ (by simp)]; simp [go_sem]
  have d3 : w1.cell? ⟨w.heap.size + 1 + 1, 3, none⟩ = some (.int .i64 t.b) := by rw [hc1 _ _ (by simp)]; simp [go_sem]
  have d4 : w1.cell? ⟨w.heap.size + 1 + 1, 4, none⟩ = some (.string t.name) := by rw [hc1 _ _ (by simp)]; simp [go_sem]
  have d5 : w1.cell? ⟨w.heap.size + 1 + 1, 5, none⟩ = some (.slice none 0 0) := by rw [hc1 _ _ (by simp)]; simp [go_sem]
  have f5 : ∀ j, w1.frozen? ⟨w.heap.size + 1 + 1, j, none⟩ = false := fun j => by rw [hf1 _ _ (by simp)]; simp [go_sem]
  have r0 : w1.cell? ⟨w.heap.size + 1, 0, none⟩ = some (.int .i64 0) := by rw [hc1 _ _ (by simp)]; simp [go_sem]
  have r1 : w1.cell? ⟨w.heap.size + 1, 1, none⟩ = some (.int .i64 0) := by rw [hc1 _ _ (by simp)]; simp [go_sem]
  have r2 : w1.cell? ⟨w.heap.size + 1, 2, none⟩ = some (.int .i64 0) := by rw [hc1 _ _ (by simp)]; simp [go_sem]
  have r3 : w1.cell? ⟨w.heap.size + 1, 3, none⟩ = some (.int .i64 0) := by rw [hc1 _ _ (by simp)]; simp [go_sem]
  have r4 : w1.cell? ⟨w.heap.size + 1, 4, none⟩ = some (.string ⟨#[]⟩) := by rw [hc1 _ _ (by simp)]; simp [go_sem]
  have r5 : w1.cell? ⟨w.heap.size + 1, 5, none⟩ = some (.slice none 0 0) := by rw [hc1 _ _ (by simp)]; simp [go_sem]
  have g5 : ∀ j, w1.frozen? ⟨w.heap.size + 1, j, none⟩ = false := fun j => by rw [hf1 _ _ (by simp)]; simp [go_sem]
  clear hc1 hf1
  go_wp2
  refine bodyPost_ret (v := t.val (.slice (some ⟨g, 0, none⟩) t.data.length t.data.length)) (by simp [results, Tryz.results56, go_sem, r0, r1, r2, r3, r4, r5]) rfl ⟨g, rfl, ?_, ?_⟩
  · refine own_base (base := w.heap.size + 1 + 1 + 1) ?_ (by omega)
    iterate 7 (refine own_set_low ?_ (by omega) _)
    exact HO.out
  · iterate 7 (refine Below.setCell ?_ (by simp <;> omega) _)
    exact HB.out
def cellsC : List (Cor × Value) → List Value
  | [] => []
  | t :: r => t.1.cells t.2 ++ cellsC r
theorem cellsC_append (a b : List (Cor × Value)) : cellsC (a ++ b) = cellsC a ++ cellsC b := by
  induction a with
  | nil => rfl
  | cons t r ih => simp [cellsC, ih]
theorem cellsC_length (l : List (Cor × Value)) : (cellsC l).length = l.length * 6 := by
  induction l with
  | nil => rfl
  | cons t r ih => simp [cellsC, Cor.cells, ih]; omega
theorem cellsC_at (l : List (Cor × Value)) (k : Nat) (h : k < l.length) : (cellsC l)[k * 6]? = some (.int .i64 l[k].1.kind) ∧ (cellsC l)[k * 6 + 1]? = some (.int .i64 l[k].1.parent) ∧ (cellsC l)[k * 6 + 2]? = some (.int .i64 l[k].1.a) ∧ (cellsC l)[k * 6 + 3]? = some (.int .i64 l[k].1.b) ∧ (cellsC l)[k * 6 + 4]? = some (.string l[k].1.name) ∧ (cellsC l)[k * 6 + 5]? = some l[k].2 := by
  induction l generalizing k with
  | nil => cases h
  | cons t r ih =>
    cases k with
    | zero => exact ⟨rfl, rfl, rfl, rfl, rfl, rfl⟩
    | succ k =>
      have hk : k < r.length := by simpa using h
      have := ih k hk
      have e : ∀ j, (cellsC (t :: r))[j + 6]? = (cellsC r)[j]? := fun j => by
        show (t.1.cells t.2 ++ cellsC r)[j + 6]? = _
        rw [List.getElem?_append_right (by simp [Cor.cells])]
        simp [Cor.cells]
      have e1 : (k + 1) * 6 = k * 6 + 6 := by omega
      rw [e1, show k * 6 + 6 + 1 = k * 6 + 1 + 6 by omega, show k * 6 + 6 + 2 = k * 6 + 2 + 6 by omega, show k * 6 + 6 + 3 = k * 6 + 3 + 6 by omega, show k * 6 + 6 + 4 = k * 6 + 4 + 6 by omega, show k * 6 + 6 + 5 = k * 6 + 5 + 6 by omega, e, e, e, e, e, e]
      simpa using this
theorem infoC : (Tryz.prog.info? 85).map (fun i => (i.zero, i.size, i.bytes)) = some (some (.agg #[.int .i64 0, .int .i64 0, .int .i64 0, .int .i64 0, .string ⟨#[]⟩, .slice none 0 0]), 6, 72) := by kernel_rfl
theorem makeC (n : Nat) (hn : n ≤ 1048576) (w : World) : (Instr.makeSlice 38 (.int .i64 (n : Int)) (.int .i64 (n : Int))).run Tryz.prog w = .ok (.slice (some ⟨w.heap.size, 0, none⟩) n n) (w.alloc (.cells (madeCells #[.int .i64 0, .int .i64 0, .int .i64 0, .int .i64 0, .string ⟨#[]⟩, .slice none 0 0] (n * 6)) 85)) := by
  obtain ⟨i0, hi, hz0, hz1, hz2⟩ := info_parts infoC
  have := run_make (P := Tryz.prog) w 38 85 i0 _ Tryz.underlying38 hi hz0 .i64 .i64 (n : Int) (n : Int) (by omega) (by omega) (by rw [hz2]; omega) (by omega)
  rw [this, hz1]
  simp [Value.cells]
theorem madeC (n : Nat) (hn : n ≤ 1048576) (w : World) : (w.alloc (.cells (madeCells #[.int .i64 0, .int .i64 0, .int .i64 0, .int .i64 0, .string ⟨#[]⟩, .slice none 0 0] (n * 6)) 85)).ownsRow w.heap.size 85 6 (.slice (some ⟨w.heap.size, 0, none⟩) n n) n (madeCells #[.int .i64 0, .int .i64 0, .int .i64 0, .int .i64 0, .string ⟨#[]⟩, .slice none 0 0] (n * 6)).toList :=
  ⟨by simp [madeCells], .inr ⟨w.heap.size, n, _, rfl, Nat.le_refl _, heap_alloc_new w _, Nat.le_refl _, by unfold maxLen; omega, by simp [madeCells], by rw [List.take_of_length_le]; simp [madeCells]⟩⟩
theorem put6 (xs A : List Value) (k : Nat) (a b c d e f : Value) (h : xs.take (k * 6) = A) (hl : k * 6 + 6 ≤ xs.length) : ((((((xs.set (k * 6) a).set (k * 6 + 1) b).set (k * 6 + 2) c).set (k * 6 + 3) d).set (k * 6 + 4) e).set (k * 6 + 5) f).take ((k + 1) * 6) = A ++ [a, b, c, d, e, f] := by
  have q : xs = xs.take (k * 6) ++ (xs[k * 6]'(by omega) :: xs[k * 6 + 1]'(by omega) :: xs[k * 6 + 2]'(by omega) :: xs[k * 6 + 3]'(by omega) :: xs[k * 6 + 4]'(by omega) :: xs[k * 6 + 5]'(by omega) :: xs.drop (k * 6 + 6)) := by
    rw [← List.drop_eq_getElem_cons, ← List.drop_eq_getElem_cons, ← List.drop_eq_getElem_cons, ← List.drop_eq_getElem_cons, ← List.drop_eq_getElem_cons, ← List.drop_eq_getElem_cons, List.take_append_drop]
  have hA : A.length = k * 6 := by rw [← h]; simp; omega
  rw [h] at q
  generalize xs[k * 6]'(by omega) = x0 at q
  generalize xs[k * 6 + 1]'(by omega) = x1 at q
  generalize xs[k * 6 + 2]'(by omega) = x2 at q
  generalize xs[k * 6 + 3]'(by omega) = x3 at q
  generalize xs[k * 6 + 4]'(by omega) = x4 at q
  generalize xs[k * 6 + 5]'(by omega) = x5 at q
  generalize xs.drop (k * 6 + 6) = r at q
  clear h
  subst q
  rw [List.set_append_right _ _ (by omega), List.set_append_right _ _ (by omega), List.set_append_right _ _ (by omega), List.set_append_right _ _ (by omega), List.set_append_right _ _ (by omega), List.set_append_right _ _ (by omega), hA, show k * 6 - k * 6 = 0 by omega, show k * 6 + 1 - k * 6 = 1 by omega, show k * 6 + 2 - k * 6 = 2 by omega, show k * 6 + 3 - k * 6 = 3 by omega, show k * 6 + 4 - k * 6 = 4 by omega, show k * 6 + 5 - k * 6 = 5 by omega]
  rw [show (k + 1) * 6 = A.length + 6 by omega, List.take_append, List.take_of_length_le (by omega), show A.length + 6 - A.length = 6 by omega]
  rfl
theorem putC_next {wr : World} {base g n k : Nat} {xs A : List Value} {t : Cor} {v : Value} (ho : wr.ownsRow base 85 6 (.slice (some ⟨g, 0, none⟩) n n) n xs) (hA : xs.take (k * 6) = A) (hk : k < n) :
    ∃ ys, ((((((wr.setCell ⟨g, k * 6, none⟩ (.int .i64 t.kind)).setCell ⟨g, k * 6 + 1, none⟩ (.int .i64 t.parent)).setCell ⟨g, k * 6 + 2, none⟩ (.int .i64 t.a)).setCell ⟨g, k * 6 + 3, none⟩ (.int .i64 t.b)).setCell ⟨g, k * 6 + 4, none⟩ (.string t.name)).setCell ⟨g, k * 6 + 5, none⟩ v).ownsRow base 85 6 (.slice (some ⟨g, 0, none⟩) n n) n ys ∧ ys.take ((k + 1) * 6) = A ++ t.cells v :=
  ⟨_, own_put (own_put (own_put (own_put (own_put (own_put ho _ _) _ _) _ _) _ _) _ _) _ _, put6 xs A k _ _ _ _ _ _ hA (by have := ho.1; omega)⟩
/-- The data of each core, in a row of their own behind block g. -/
def NestC (w : World) (B g : Nat) (P : List (Cor × Value)) : Prop := ∀ x ∈ P, ∃ gk, x.2 = .slice (some ⟨gk, 0, none⟩) x.1.data.length x.1.data.length ∧ g < gk ∧ w.ownsRow B 100 4 (.slice (some ⟨gk, 0, none⟩) x.1.data.length x.1.data.length) x.1.data.length (cellsD x.1.data)
theorem NestC.below {w w' : World} {B g : Nat} {P : List (Cor × Value)} (h : NestC w B g P) (hb : Below w.heap.size w w') : NestC w' B g P := fun x hx => by
  obtain ⟨gk, h1, h2, h3⟩ := h x hx
  exact ⟨gk, h1, h2, own_below h3 hb⟩
theorem NestC.set {w : World} {B g : Nat} {P : List (Cor × Value)} (h : NestC w B g P) (j : Nat) (u : Value) : NestC (w.setCell ⟨g, j, none⟩ u) B g P := fun x hx => by
  obtain ⟨gk, h1, h2, h3⟩ := h x hx
  exact ⟨gk, h1, h2, own_set h3 (p := ⟨g, j, none⟩) (by show gk ≠ g; omega) u⟩
/-- Cores in memory of their own. -/
def IsC (w : World) (B g cap : Nat) (l : List Cor) : Prop := ∃ P : List (Cor × Value), P.map Prod.fst = l ∧ w.ownsRow B 85 6 (.slice (some ⟨g, 0, none⟩) l.length cap) l.length (cellsC P) ∧ NestC w B g P
theorem IsC.below {w w' : World} {B g cap : Nat} {l : List Cor} (h : IsC w B g cap l) (hb : Below w.heap.size w w') : IsC w' B g cap l := by
  obtain ⟨P, h1, h2, h3⟩ := h
  exact ⟨P, h1, own_below h2 hb, h3.below hb⟩
/-- As they are read. -/
def RowC (w : World) (B g : Nat) (l : List Cor) : Prop := ∀ (k : Nat) (h : k < l.length), w.cell? ⟨g, k * 6, none⟩ = some (.int .i64 l[k].kind) ∧ w.cell? ⟨g, k * 6 + 1, none⟩ = some (.int .i64 l[k].parent) ∧ w.cell? ⟨g, k * 6 + 2, none⟩ = some (.int .i64 l[k].a) ∧ w.cell? ⟨g, k * 6 + 3, none⟩ = some (.int .i64 l[k].b) ∧ w.cell? ⟨g, k * 6 + 4, none⟩ = some (.string l[k].name) ∧
  ∃ gk, w.cell? ⟨g, k * 6 + 5, none⟩ = some (.slice (some ⟨gk, 0, none⟩) l[k].data.length l[k].data.length) ∧ w.ownsRow B 100 4 (.slice (some ⟨gk, 0, none⟩) l[k].data.length l[k].data.length) l[k].data.length (cellsD l[k].data)
theorem RowC.below {w w' : World} {B g : Nat} {l : List Cor} (h : RowC w B g l) (hb : Below w.heap.size w w') : RowC w' B g l := fun k hk => by
  obtain ⟨c0, c1, c2, c3, c4, gk, c5, ho⟩ := h k hk
  exact ⟨cell_keep hb c0, cell_keep hb c1, cell_keep hb c2, cell_keep hb c3, cell_keep hb c4, gk, cell_keep hb c5, own_below ho hb⟩
theorem IsC.row {w : World} {B g cap : Nat} {l : List Cor} (h : IsC w B g cap l) : RowC w B g l := fun k hk => by
  obtain ⟨P, h1, h2, h3⟩ := h
  have hkP : k < P.length := by rw [← h1] at hk; simpa using hk
  have e : l[k] = P[k].1 := by simp [← h1]
  have ha : ∀ j, (⟨g, 0, none⟩ : Addr).add j = ⟨g, j, none⟩ := fun j => by unfold Addr.add; split <;> simp_all
  have hc := h2.cells (g := g) rfl
  obtain ⟨c0, c1, c2, c3, c4, c5⟩ := cellsC_at P k hkP
  obtain ⟨gk, q1, q2, q3⟩ := h3 P[k] (List.getElem_mem hkP)
  rw [e]
  rw [q1] at c5
  exact ⟨by rw [← ha]; exact hc _ _ c0, by rw [← ha]; exact hc _ _ c1, by rw [← ha]; exact hc _ _ c2, by rw [← ha]; exact hc _ _ c3, by rw [← ha]; exact hc _ _ c4, gk, by rw [← ha]; exact hc _ _ c5, q3⟩
theorem takeC (l : List Cor) (k : Nat) (h : k < l.length) : l.take (k + 1) = l.take k ++ [l[k]] := by
  rw [List.take_add_one, List.getElem?_eq_getElem h]; rfl
set_option maxRecDepth 100000 in
set_option maxHeartbeats 2000000 in
theorem toCS_any (a : Option Addr) (c : Nat) (l : List Cor) (w : World) (hl : l.length ≤ 1048576) (hz : ∀ (k : Nat) (h : k < l.length), l[k].small) (h : MemC w a l) :
    Calls Tryz.prog 18 #[.slice a l.length c] w fun e w' => e = .returned (.slice (some ⟨w.heap.size, 0, none⟩) l.length l.length) ∧ IsC w' w.heap.size w.heap.size l.length l ∧ Below w.heap.size w w' := by
  have HT : Hid (MemC w a l) := h
  have HZ : Hid (∀ (k : Nat) (h : k < l.length), l[k].small) := hz
  have hmk := makeC l.length hl
  have HM : Hid (∃ (P : List (Cor × Value)) (xs : List Value), P.map Prod.fst = l.take 0 ∧ (w.alloc (.cells (madeCells #[.int .i64 0, .int .i64 0, .int .i64 0, .int .i64 0, .string ⟨#[]⟩, .slice none 0 0] (l.length * 6)) 85)).ownsRow w.heap.size 85 6 (.slice (some ⟨w.heap.size, 0, none⟩) l.length l.length) l.length xs ∧ xs.take (0 * 6) = cellsC P ∧ NestC (w.alloc (.cells (madeCells #[.int .i64 0, .int .i64 0, .int .i64 0, .int .i64 0, .string ⟨#[]⟩, .slice none 0 0] (l.length * 6)) 85)) w.heap.size w.heap.size P) := ⟨[], _, rfl, madeC l.length hl w, rfl, fun x hx => by cases hx⟩
  clear h hz
  go_enter Tryz.func18, Tryz.ntmps18
  go_wp2_with fail
  go_loopw [4] (fun i wr => ∃ k : Nat, k ≤ l.length ∧ i = .int .i64 (k : Int) ∧ Hid (∃ (P : List (Cor × Value)) (xs : List Value), P.map Prod.fst = l.take k ∧ wr.ownsRow w.heap.size 85 6 (.slice (some ⟨w.heap.size, 0, none⟩) l.length l.length) l.length xs ∧ xs.take (k * 6) = cellsC P ∧ NestC wr w.heap.size w.heap.size P) ∧ Below w.heap.size w wr) (fun i _ => l.length - (RowKit.intOf i).toNat)
  case atStart => exact ⟨0, Nat.zero_le _, rfl, HM.out, (Below.refl _ _).alloc (Nat.le_refl _) _⟩
  case round =>
    obtain ⟨k, hk, rfl, HX, hb⟩ := hrel
    have HB : Hid (Below w.heap.size w wr) := hb
    clear hb
    by_cases hlt : k < l.length
    · obtain ⟨b, off, rfl, hc⟩ := (HT.out.below HB.out) (by omega)
      obtain ⟨c0, c1, c2, c3, c4, ao, cap, c5, hm⟩ := hc k hlt
      clear hc
      have HU : Hid (Calls Tryz.prog 56 #[(l[k]'hlt).val (.slice ao (l[k]'hlt).data.length cap)] wr fun e w' => ∃ g, e = .returned ((l[k]'hlt).val (.slice (some ⟨g, 0, none⟩) (l[k]'hlt).data.length (l[k]'hlt).data.length)) ∧ w'.ownsRow (wr.heap.size + 2) 100 4 (.slice (some ⟨g, 0, none⟩) (l[k]'hlt).data.length (l[k]'hlt).data.length) (l[k]'hlt).data.length (cellsD (l[k]'hlt).data) ∧ Below wr.heap.size wr w') := toC_any _ ao cap wr (HZ.out k hlt) hm
      obtain ⟨P, xs, hP, hox, htx, hN⟩ := HX.out
      have HO : Hid (wr.ownsRow w.heap.size 85 6 (.slice (some ⟨w.heap.size, 0, none⟩) l.length l.length) l.length xs) := hox
      have HE : Hid (xs.take (k * 6) = cellsC P) := htx
      have HP : Hid (P.map Prod.fst = l.take k) := hP
      have HN : Hid (NestC wr w.heap.size w.heap.size P) := hN
      have hgl : w.heap.size < wr.heap.size := (hox.lt w.heap.size rfl).2
      have HL : Hid (xs.length = l.length * 6) := hox.1
      clear hox htx hP hN hm
      go_wp2_with fail
      refine HU.out.mono ?_
      rintro e w1 ⟨gk, rfl, ho1, hb1⟩
      have HO1 : Hid (w1.ownsRow w.heap.size 85 6 (.slice (some ⟨w.heap.size, 0, none⟩) l.length l.length) l.length xs) := own_below HO.out hb1
      have HB1 : Hid (Below w.heap.size w w1) := HB.out.trans (hb1.mono HB.out.size)
      have HN1 : Hid (NestC w1 w.heap.size w.heap.size (P ++ [(l[k]'hlt, .slice (some ⟨gk, 0, none⟩) (l[k]'hlt).data.length (l[k]'hlt).data.length)])) := fun x hx => by
        rcases List.mem_append.1 hx with hx | hx
        · exact HN.out.below hb1 x hx
        · obtain rfl : x = _ := by simpa using hx
          have := (ho1.lt gk rfl).1
          exact ⟨gk, rfl, by omega, own_base ho1 (by omega)⟩
      have hgl1 : w.heap.size < w1.heap.size := (HO1.out.lt w.heap.size rfl).2
      clear hb1 c0 c1 c2 c3 c4 c5 ho1
      obtain ⟨x0, e0⟩ := own_cell HO1.out (k * 6) (by have := HL.out; omega)
      obtain ⟨x1, e1⟩ := own_cell HO1.out (k * 6 + 1) (by have := HL.out; omega)
      obtain ⟨x2, e2⟩ := own_cell HO1.out (k * 6 + 2) (by have := HL.out; omega)
      obtain ⟨x3, e3⟩ := own_cell HO1.out (k * 6 + 3) (by have := HL.out; omega)
      obtain ⟨x4, e4⟩ := own_cell HO1.out (k * 6 + 4) (by have := HL.out; omega)
      obtain ⟨x5, e5⟩ := own_cell HO1.out (k * 6 + 5) (by have := HL.out; omega)
      have ff : ∀ j, w1.frozen? ⟨w.heap.size, j, none⟩ = false := own_frozen HO1.out
      go_wp2
      obtain ⟨ys, hy, hyt⟩ := putC_next (t := l[k]'hlt) (v := .slice (some ⟨gk, 0, none⟩) (l[k]'hlt).data.length (l[k]'hlt).data.length) HO1.out HE.out hlt
      refine ⟨⟨k + 1, by omega, by go_num, ⟨P ++ [(l[k]'hlt, .slice (some ⟨gk, 0, none⟩) (l[k]'hlt).data.length (l[k]'hlt).data.length)], ys, ?_, hy, ?_, ?_⟩, ?_⟩, by simp [RowKit.intOf]; omega⟩
      · rw [List.map_append, HP.out, takeC l k hlt]; rfl
      · rw [hyt, cellsC_append]; simp [cellsC]
      · exact (((((HN1.out.set _ _).set _ _).set _ _).set _ _).set _ _).set _ _
      · exact (((((HB1.out.setCell (Nat.le_refl _) _).setCell (Nat.le_refl _) _).setCell (Nat.le_refl _) _).setCell (Nat.le_refl _) _).setCell (Nat.le_refl _) _).setCell (Nat.le_refl _) _
    · have HF : Hid (IsC wr w.heap.size w.heap.size l.length l) := by
        obtain ⟨P, xs, hP, hox, htx, hN⟩ := HX.out
        have hkl : k = l.length := by omega
        rw [hkl, List.take_of_length_le (by rw [hox.1]; exact Nat.le_refl _)] at htx
        rw [hkl, List.take_length] at hP
        rw [htx] at hox
        exact ⟨P, hP, hox, hN⟩
      clear HX
      go_wp2
      go_ret
      exact ⟨rfl, HF.out, HB.out⟩
end Go.Proofs.YtebnonpdaddniaaGreatDoor
/-
  The program's tree of cores in memory: a row of nodes (whose part each is, and its core) that a cell names; the chain of places that one place hangs on; its up, depth, size, isOpen.
-/
namespace Go.Proofs.YtebnonpdaddniaaGreatDoor
open Go.RowKit Go.Extern.Stop Go.Stop Go.Extern Num Go.Lib Go.Shelf

/-- A node's cells: whose part it is, and its core. -/
def nodCC (x : Cor × Value) : List Value := [.int .i64 x.1.parent, .int .i64 x.1.kind, .int .i64 x.1.parent, .int .i64 x.1.a, .int .i64 x.1.b, .string x.1.name, x.2]
def cellsNC : List (Cor × Value) → List Value
  | [] => []
  | t :: r => nodCC t ++ cellsNC r
theorem cellsNC_append (a b : List (Cor × Value)) : cellsNC (a ++ b) = cellsNC a ++ cellsNC b := by
  induction a with
  | nil => rfl
  | cons t r ih => simp [cellsNC, ih]
theorem cellsNC_length (l : List (Cor × Value)) : (cellsNC l).length = l.length * 7 := by
  induction l with
  | nil => rfl
  | cons t r ih => simp [cellsNC, nodCC, ih]; omega
theorem cellsNC_at (l : List (Cor × Value)) (k : Nat) (h : k < l.length) : (cellsNC l)[k * 7]? = some (.int .i64 l[k].1.parent) ∧ (cellsNC l)[k * 7 + 1]? = some (.int .i64 l[k].1.kind) ∧ (cellsNC l)[k * 7 + 2]? = some (.int .i64 l[k].1.parent) ∧ (cellsNC l)[k * 7 + 3]? = some (.int .i64 l[k].1.a) ∧ (cellsNC l)[k * 7 + 4]? = some (.int .i64 l[k].1.b) ∧ (cellsNC l)[k * 7 + 5]? = some (.string l[k].1.name) ∧ (cellsNC l)[k * 7 + 6]? = some l[k].2 := by
  induction l generalizing k with
  | nil => cases h
  | cons t r ih =>
    cases k with
    | zero => exact ⟨rfl, rfl, rfl, rfl, rfl, rfl, rfl⟩
    | succ k =>
      have hk : k < r.length := by simpa using h
      have := ih k hk
      have e : ∀ j, (cellsNC (t :: r))[j + 7]? = (cellsNC r)[j]? := fun j => by
        show (nodCC t ++ cellsNC r)[j + 7]? = _
        rw [List.getElem?_append_right (by simp [nodCC])]
        simp [nodCC]
      have e1 : (k + 1) * 7 = k * 7 + 7 := by omega
      rw [e1, show k * 7 + 7 + 1 = k * 7 + 1 + 7 by omega, show k * 7 + 7 + 2 = k * 7 + 2 + 7 by omega, show k * 7 + 7 + 3 = k * 7 + 3 + 7 by omega, show k * 7 + 7 + 4 = k * 7 + 4 + 7 by omega, show k * 7 + 7 + 5 = k * 7 + 5 + 7 by omega, show k * 7 + 7 + 6 = k * 7 + 6 + 7 by omega, e, e, e, e, e, e, e]
      simpa using this
/-- The nodes that lie in a row. -/
def RowNC (w : World) (g : Nat) (l : List (Cor × Value)) : Prop := ∀ (k : Nat) (h : k < l.length), w.cell? ⟨g, k * 7, none⟩ = some (.int .i64 l[k].1.parent) ∧ w.cell? ⟨g, k * 7 + 1, none⟩ = some (.int .i64 l[k].1.kind) ∧ w.cell? ⟨g, k * 7 + 2, none⟩ = some (.int .i64 l[k].1.parent) ∧ w.cell? ⟨g, k * 7 + 3, none⟩ = some (.int .i64 l[k].1.a) ∧ w.cell? ⟨g, k * 7 + 4, none⟩ = some (.int .i64 l[k].1.b) ∧ w.cell? ⟨g, k * 7 + 5, none⟩ = some (.string l[k].1.name) ∧ w.cell? ⟨g, k * 7 + 6, none⟩ = some l[k].2
theorem RowNC.of {w : World} {base g cap : Nat} {l : List (Cor × Value)} (h : w.ownsRow base 118 7 (.slice (some ⟨g, 0, none⟩) l.length cap) l.length (cellsNC l)) : RowNC w g l := by
  intro k hk
  have ha : ∀ j, (⟨g, 0, none⟩ : Addr).add j = ⟨g, j, none⟩ := fun j => by unfold Addr.add; split <;> simp_all
  have hc := h.cells (g := g) rfl
  obtain ⟨h0, h1, h2, h3, h4, h5, h6⟩ := cellsNC_at l k hk
  exact ⟨by rw [← ha]; exact hc _ _ h0, by rw [← ha]; exact hc _ _ h1, by rw [← ha]; exact hc _ _ h2, by rw [← ha]; exact hc _ _ h3, by rw [← ha]; exact hc _ _ h4, by rw [← ha]; exact hc _ _ h5, by rw [← ha]; exact hc _ _ h6⟩
theorem RowNC.keep {w w' : World} {g n₀ : Nat} {l : List (Cor × Value)} (h : RowNC w g l) (hb : Below n₀ w w') (hg : g < n₀) : RowNC w' g l := fun k hk => by
  have hc : ∀ j, w'.cell? ⟨g, j, none⟩ = w.cell? ⟨g, j, none⟩ := fun j => hb.cell (p := ⟨g, j, none⟩) hg
  obtain ⟨h0, h1, h2, h3, h4, h5, h6⟩ := h k hk
  exact ⟨(hc _).trans h0, (hc _).trans h1, (hc _).trans h2, (hc _).trans h3, (hc _).trans h4, (hc _).trans h5, (hc _).trans h6⟩
/-- A tree: the cell at a block's place names the row of its nodes; both lie below n₀. -/
def IsTreeC (n₀ : Nat) (w : World) (tb : Nat) (N : List (Cor × Value)) : Prop :=
  ∃ ao g cap, w.cell? ⟨tb, 0, none⟩ = some (.slice ao N.length cap) ∧ tb < n₀ ∧ g < n₀ ∧ (N ≠ [] → ao = some ⟨g, 0, none⟩) ∧ RowNC w g N
theorem IsTreeC.below {n₀ : Nat} {w w' : World} {tb : Nat} {N : List (Cor × Value)} (h : IsTreeC n₀ w tb N) (hb : Below n₀ w w') : IsTreeC n₀ w' tb N := by
  obtain ⟨ao, g, cap, hc, ht, hg, ha, hr⟩ := h
  exact ⟨ao, g, cap, (hb.cell (p := ⟨tb, 0, none⟩) ht).trans hc, ht, hg, ha, hr.keep hb hg⟩
theorem IsTreeC.mono {n₀ n₁ : Nat} {w : World} {tb : Nat} {N : List (Cor × Value)} (h : IsTreeC n₀ w tb N) (hn : n₀ ≤ n₁) : IsTreeC n₁ w tb N := by
  obtain ⟨ao, g, cap, hc, ht, hg, ha, hr⟩ := h
  exact ⟨ao, g, cap, hc, by omega, by omega, ha, hr⟩
def parC (l : List (Cor × Value)) (k : Nat) : Int := (l[k]?.map (·.1.parent)).getD (-1)
theorem par_atC (l : List (Cor × Value)) (k : Nat) (h : k < l.length) : parC l k = l[k].1.parent := by simp [parC, h]
/-- Whose parts may be: each hangs on one ahead of it, or on nothing. -/
def ParsC (N : List (Cor × Value)) : Prop := ∀ (j : Nat) (h : j < N.length), N[j].1.parent < (j : Int) ∧ -1 ≤ N[j].1.parent
/-- A place and all that it hangs on. -/
def upFC (N : List (Cor × Value)) : Nat → Int → List Int
  | 0, _ => []
  | f + 1, a => if a < 0 then [] else a :: upFC N f (parC N a.toNat)
def upLC (N : List (Cor × Value)) (a : Int) : List Int := upFC N (a + 1).toNat a
theorem upF_negC (N : List (Cor × Value)) (f : Nat) (a : Int) (h : a < 0) : upFC N f a = [] := by cases f <;> simp [upFC, h]
theorem upF_fuelC {N : List (Cor × Value)} (hp : ParsC N) : ∀ (f g : Nat) (a : Int), a < N.length → a < f → a < g → upFC N f a = upFC N g a := by
  intro f
  induction f with
  | zero => intro g a _ h1 _; rw [upF_negC N _ a (by omega), upF_negC N _ a (by omega)]
  | succ f ih =>
    intro g a ha h1 h2
    by_cases h0 : a < 0
    · rw [upF_negC N _ a h0, upF_negC N _ a h0]
    · obtain ⟨k, rfl⟩ : ∃ k : Nat, a = (k : Int) := ⟨a.toNat, by omega⟩
      cases g with
      | zero => omega
      | succ g =>
        have hk : k < N.length := by omega
        have := hp k hk
        simp only [upFC, if_neg h0, Int.toNat_natCast, par_atC N k hk]
        rw [ih g _ (by omega) (by omega) (by omega)]
theorem upL_negC (N : List (Cor × Value)) : upLC N (-1) = [] := upF_negC N _ _ (by decide)
theorem upL_atC {N : List (Cor × Value)} (hp : ParsC N) (k : Nat) (hk : k < N.length) : upLC N (k : Int) = (k : Int) :: upLC N N[k].1.parent := by
  have h0 : ¬ ((k : Int) < 0) := by omega
  have := hp k hk
  unfold upLC
  rw [show ((k : Int) + 1).toNat = k + 1 by omega]
  simp only [upFC, if_neg h0, Int.toNat_natCast, par_atC N k hk]
  rw [upF_fuelC hp k (N[k].1.parent + 1).toNat _ (by omega) (by omega) (by omega)]
theorem upL_lenC {N : List (Cor × Value)} (hp : ParsC N) : ∀ (k : Nat) (a : Int), a < N.length → a < k → -1 ≤ a → (upLC N a).length ≤ k := by
  intro k
  induction k with
  | zero =>
    intro a _ h1 h2
    obtain rfl : a = -1 := (by omega)
    rw [upL_negC]; simp
  | succ k ih =>
    intro a ha h1 h2
    by_cases h0 : a < 0
    · obtain rfl : a = -1 := by omega
      rw [upL_negC]; simp
    · obtain ⟨j, rfl⟩ : ∃ k : Nat, a = (k : Int) := ⟨a.toNat, by omega⟩
      have := hp j (by omega)
      rw [upL_atC hp j (by omega)]
      have := ih N[j].1.parent (by omega) (by omega) (by omega)
      simp; omega
end Go.Proofs.YtebnonpdaddniaaGreatDoor
namespace Go.Proofs.YtebnonpdaddniaaGreatDoor
open Go.RowKit Go.Extern.Stop Go.Stop Go.Extern Num Go.Lib Go.Shelf
attribute [local go_sem] Oper.semAt_some

set_option maxRecDepth 100000 in
set_option maxHeartbeats 2000000 in
theorem up1_inC (F : Fence) (n : Nat) (hF : ∀ f, F.fn f) (hro : F.round = none) (hn : 1 ≤ n) (l ba bt n₀ lo hi tb : Nat) (N : List (Cor × Value)) (hp : ParsC N) (a : Int) (ha : -1 ≤ a) (ha2 : a < N.length) (J Jx : List Int → World → Prop)
    (hY : ∀ pre x W, J pre W → pre.length < (upLC N a).length → YieldAt F (n - 1) Tryz.prog l #[.int .i64 x] W fun e W' =>
      (e = .returned (.bool true) ∧ J (pre ++ [x]) W' ∧ Kpx n₀ lo hi W W') ∨ (e = .returned (.bool false) ∧ Jx (pre ++ [x]) W'))
    (W : World) (hBa : W.cell? ⟨ba, 0, none⟩ = some (.int .i64 a)) (hBt : W.cell? ⟨bt, 0, none⟩ = some (.pointer (some ⟨tb, 0, none⟩))) (hlo : lo ≤ bt) (hhi : bt < hi) (hT : IsTreeC n₀ W tb N) (h0 : J [] W) :
    CallsIn F n Tryz.prog 231 #[.func (.yield l) #[] #[], .pointer (some ⟨ba, 0, none⟩), .pointer (some ⟨bt, 0, none⟩)] W fun e W' => (∃ v, e = .returned v) ∧
      ((∃ ys, ys = upLC N a ∧ J ys W') ∨ (∃ pre, pre <+: upLC N a ∧ Jx pre W')) := by
  refine callsIn_of_wp Tryz.func231 rfl (hF _) ?_ hro
  simp only [Tryz.ntmps231, List.size_toArray, List.length_cons, List.length_nil, Nat.reduceAdd, Nat.reduceSub, Array.replicate_succ, Array.replicate_zero, List.push_toArray, List.append_toArray, List.nil_append, List.cons_append]
  gi_wp2
  gi_loopw [4] (fun i wr => ∃ (q : Int) (pre : List Int), i = .int .i64 q ∧ -1 ≤ q ∧ q < N.length ∧ upLC N a = pre ++ upLC N q ∧ J pre wr ∧ Kpx n₀ lo hi W wr)
    (fun i _ => (intOf i + 1).toNat)
  case atStart => exact ⟨a, [], rfl, ha, ha2, rfl, h0, kpx_refl _ _ _ _⟩
  case round =>
    obtain ⟨q, pre, rfl, hq1, hq2, hup, hJs, hnx⟩ := hrel
    by_cases hq : q = -1
    · subst hq
      gi_wp2
      go_end0
      exact ⟨⟨_, rfl⟩, .inl ⟨pre, by rw [hup, upL_negC]; simp, hJs⟩⟩
    · obtain ⟨k, rfl⟩ : ∃ k : Nat, q = (k : Int) := ⟨q.toNat, by omega⟩
      have hk : k < N.length := by omega
      have hne : ((k : Int) != -1) = true := by simp
      have e1 := upL_atC hp k hk
      have hpk := hp k hk
      obtain ⟨fn, tmps, assign, body, hy, hR⟩ := hY pre (k : Int) wr hJs (by rw [hup, e1]; simp)
      replace hup : upLC N a = (pre ++ [(k : Int)]) ++ upLC N N[k].1.parent := by rw [hup, e1]; simp
      clear e1
      gi_wp2
      refine hR.mono ?_
      rintro e W3 (⟨rfl, hJ3, hk3⟩ | ⟨rfl, hJx3⟩)
      · obtain ⟨ao, g, cap, hc, htb, hg, hao, hrow⟩ := (hT.below hnx.1).below hk3.1
        obtain rfl := hao (by intro h; rw [h] at hk; simp at hk)
        have hc3 : W3.cell? ⟨bt, 0, none⟩ = some (.pointer (some ⟨tb, 0, none⟩)) := ((kpx_t hnx hk3).cell hlo hhi).trans hBt
        have hr3 := (hrow k hk).1
        gi_wp2
        go_roundw
        case rel => exact ⟨N[k].1.parent, pre ++ [(k : Int)], rfl, hpk.2, by omega, hup, hJ3, kpx_t hnx hk3⟩
        case measure => simp [intOf]; omega
      · gi_wp2
        go_end0
        exact ⟨⟨_, rfl⟩, .inr ⟨pre ++ [(k : Int)], ⟨_, hup.symm⟩, hJx3⟩⟩
theorem up_inC (F : Fence) (n : Nat) (hF : ∀ f, F.fn f) (hro : F.round = none) (p : Option Addr) (a : Int) (w : World) :
    CallsIn F n Tryz.prog 210 #[.pointer p, .int .i64 a] w fun e w' => e = .returned (.func (.func 231) #[] #[.pointer (some ⟨w.heap.size + 1, 0, none⟩), .pointer (some ⟨w.heap.size, 0, none⟩)]) ∧
      w' = (w.alloc (.cells #[.pointer p] 87)).alloc (.cells #[.int .i64 a] 2) := by
  refine callsIn_of_wp Tryz.func210 rfl (hF _) ?_ hro
  simp only [Tryz.ntmps210, List.size_toArray, List.length_cons, List.length_nil, Nat.reduceAdd, Nat.reduceSub, Array.replicate_succ, Array.replicate_zero, List.push_toArray, List.append_toArray, List.nil_append, List.cons_append]
  gi_wp2
  go_ret
  exact ⟨rfl, rfl⟩
theorem up_stopsC (F : Fence) (n : Nat) (hF : ∀ f, F.fn f) (hro : F.round = none) (hn : 1 ≤ n) (ba bt n₀ lo hi tb : Nat) (N : List (Cor × Value)) (hp : ParsC N) (a : Int) (ha : -1 ≤ a) (ha2 : a < N.length) (w : World) (hn₀ : n₀ ≤ w.heap.size)
    (hBa : w.cell? ⟨ba, 0, none⟩ = some (.int .i64 a)) (hBt : w.cell? ⟨bt, 0, none⟩ = some (.pointer (some ⟨tb, 0, none⟩))) (hlo : lo ≤ bt) (hhi : bt < hi) (hhi2 : hi ≤ w.heap.size) (hba : ba < w.heap.size) (hT : IsTreeC n₀ w tb N) :
    SeqStopsK F n Tryz.prog 231 #[.pointer (some ⟨ba, 0, none⟩), .pointer (some ⟨bt, 0, none⟩)] (fun x : Int => #[Value.int .i64 x]) (Kpx n₀ lo hi) (fun ys => ys = upLC N a) (fun pre => pre <+: upLC N a) (upLC N a).length w := fun l J Jx W hW _ _ hY h0 =>
  up1_inC F n hF hro hn l ba bt n₀ lo hi tb N hp a ha ha2 J Jx hY W ((hW.cell (p := ⟨ba, 0, none⟩) hba).trans hBa) ((hW.cell (p := ⟨bt, 0, none⟩) (by show bt < _; omega)).trans hBt) hlo hhi (hT.below (hW.mono hn₀)) h0
theorem size_inC (F : Fence) (n : Nat) (hF : ∀ f, F.fn f) (hro : F.round = none) (n₀ tb : Nat) (N : List (Cor × Value)) (w : World) (hT : IsTreeC n₀ w tb N) :
    CallsIn F n Tryz.prog 116 #[.pointer (some ⟨tb, 0, none⟩)] w fun e w' => e = .returned (.int .i64 (N.length : Nat)) ∧ w' = w := by
  obtain ⟨ao, g, cap, hc, -⟩ := hT
  refine callsIn_of_wp Tryz.func116 rfl (hF _) ?_ hro
  simp only [Tryz.ntmps116, List.size_toArray, List.length_cons, List.length_nil, Nat.reduceAdd, Nat.reduceSub, Array.replicate_succ, Array.replicate_zero, List.push_toArray, List.append_toArray, List.nil_append, List.cons_append]
  gi_wp2
  go_ret
  exact ⟨rfl, rfl⟩
set_option maxRecDepth 100000 in
set_option maxHeartbeats 2000000 in
theorem isOpen_inC (F : Fence) (n : Nat) (hF : ∀ f, F.fn f) (hro : F.round = none) (hn : 3 ≤ n) (tb : Nat) (N : List (Cor × Value)) (hp : ParsC N) (hpos : 0 < N.length) (hl : N.length ≤ 1000000) (a : Int) (w : World) (hT : IsTreeC w.heap.size w tb N) :
    CallsIn F n Tryz.prog 181 #[.pointer (some ⟨tb, 0, none⟩), .int .i64 a] w fun e W' => e = .returned (.bool (decide (a ∈ upLC N ((N.length : Int) - 1)))) ∧ Below w.heap.size w W' := by
  have h1 : 1 ≤ n := by omega
  refine callsIn_of_wp_marks Tryz.func181 rfl (hF _) ?_ hro
  simp only [Tryz.ntmps181, List.size_toArray, List.length_cons, List.length_nil, Nat.reduceAdd, Nat.reduceSub, Array.replicate_succ, Array.replicate_zero, List.push_toArray, List.append_toArray, List.nil_append, List.cons_append]
  have hB1 : Below w.heap.size w ((w.alloc (.cells #[.int .i64 a] 2)).alloc (.cells #[.bool false] 4)) := ((Below.refl _ w).alloc (Nat.le_refl _) _).alloc (by simp) _
  have hT1 := hT.below hB1
  gi_wp2_with (first | (gi_at_call 116; refine (size_inC F (n - 1) hF hro _ _ _ _ hT1).mono ?_; rintro e w' ⟨rfl, rfl⟩) | (gi_at_call 210; refine (up_inC F (n - 1) hF hro _ _ _).mono ?_; rintro e w' ⟨rfl, rfl⟩))
  have c0 := Boxed.new w 2 (.int .i64 a)
  have c1 := Boxed.new (w.alloc (.cells #[.int .i64 a] 2)) 4 (.bool false)
  have c2 := Boxed.new ((w.alloc (.cells #[.int .i64 a] 2)).alloc (.cells #[.bool false] 4)) 87 (.pointer (some ⟨tb, 0, none⟩))
  have c3 := Boxed.new (((w.alloc (.cells #[.int .i64 a] 2)).alloc (.cells #[.bool false] 4)).alloc (.cells #[.pointer (some ⟨tb, 0, none⟩)] 87)) 2 (.int .i64 ((N.length : Int) - 1))
  simp only [World.size_alloc] at c1 c2 c3
  have hB0 : Below w.heap.size w ((((w.alloc (.cells #[.int .i64 a] 2)).alloc (.cells #[.bool false] 4)).alloc (.cells #[.pointer (some ⟨tb, 0, none⟩)] 87)).alloc (.cells #[.int .i64 ((N.length : Int) - 1)] 2)) := (hB1.alloc (by simp; omega) _).alloc (by simp; omega) _
  refine wpIn_rangeFunc_ownF hro h1 (gf := 231) (lb := #[.pointer (some ⟨w.heap.size + 1 + 1 + 1, 0, none⟩), .pointer (some ⟨w.heap.size + 1 + 1, 0, none⟩)]) rfl (hF _) (enters_of Tryz.func231 (by kernel_rfl) rfl)
    (up_stopsC F (n - 1) hF hro (by omega) (w.heap.size + 1 + 1 + 1) (w.heap.size + 1 + 1) w.heap.size (w.heap.size + 1 + 1) (w.heap.size + 1 + 1 + 1 + 1) tb N hp ((N.length : Int) - 1) (by omega) (by omega) _ (by simp; omega) c3.cell (c2.alloc _).cell (Nat.le_refl _) (by omega) (by simp) (by simp) (hT.below hB0)) kpx_t (kpx_b (by simp; omega) (by simp)) (Below.refl _ _) (fun _ => rfl)
    (fun pre W => ((∀ y ∈ pre, y ≠ a) ∧ Boxed W w.heap.size 2 (.int .i64 a) ∧ Boxed W (w.heap.size + 1) 4 (.bool false)) ∧ Below w.heap.size w W)
    (fun c pre W => (c = .ret ∧ a ∈ pre ∧ Boxed W (w.heap.size + 1) 4 (.bool true)) ∧ Below w.heap.size w W)
    (OwnFrom.and (OwnFrom.and (ownFrom_pure _ _) (OwnFrom.and (Own.from (boxed_own _ _ _) _) (Own.from (boxed_own _ _ _) _))) (ownFrom_below (Nat.le_refl _) (by simp; omega)))
    (fun c => OwnFrom.and (OwnFrom.and (ownFrom_pure _ _) (OwnFrom.and (ownFrom_pure _ _) (Own.from (boxed_own _ _ _) _))) (ownFrom_below (Nat.le_refl _) (by simp; omega)))
    ⟨⟨by simp, ((c0.alloc _).alloc _).alloc _, (c1.alloc _).alloc _⟩, hB0⟩
    (fun x => { tmps := #[.pointer (some ⟨tb, 0, none⟩), .int .i64 a, undef, .pointer (some ⟨w.heap.size, 0, none⟩), .pointer (some ⟨w.heap.size + 1, 0, none⟩), .int .i64 x, .pointer (some ⟨tb, 0, none⟩), .pointer (some ⟨tb, 0, none⟩), .int .i64 (N.length : Nat), .int .i64 ((N.length : Int) - 1), .func (.func 231) #[] #[.pointer (some ⟨w.heap.size + 1 + 1 + 1, 0, none⟩), .pointer (some ⟨w.heap.size + 1 + 1, 0, none⟩)], .int .i64 x, undef, undef, undef], defers := [] }) ?assign ?body ?done ?stop
  case assign =>
    intro l x W K hK
    gi_wp2
    exact hK
  case body =>
    rintro l pre x W ⟨⟨hne, hb, hr⟩, hB⟩ hlt
    have hc := hb.cell
    have hc2 := hr.cell
    have hf := hr.frozen
    gi_wp2
    · rename_i hx
      obtain rfl : x = a := eq_of_beq hx
      exact ⟨KeepsOthers.setCell _ _ _, ⟨rfl, List.mem_append.2 (.inr (by simp)), hr.set _⟩, hB.setCell (p := ⟨w.heap.size + 1, 0, none⟩) (by simp) _⟩
    · rename_i hx
      exact ⟨KeepsOthers.refl _, kpx_refl _ _ _ _, ⟨fun y hy => (List.mem_append.1 hy).elim (hne y) (fun e e' => by simp at e; subst e; subst e'; simp at hx), hb, hr⟩, hB⟩
  case done =>
    rintro D ys W hD rfl ⟨⟨hne, _, hr⟩, hB⟩ hK
    have hc2 := hr.cell
    have hf := hr.frozen
    gi_wp2
    have hK' := (KeepsOthers.setCell W ⟨w.heap.size + 1, 0, none⟩ (.bool false)).same D _ hK rfl
    refine ⟨by simp, .inl ⟨_, _, rfl, run_takeDeferred hK', ?_⟩⟩
    have hc5 := cell_kept (hr.set (.bool false)).cell (grownBy_putObj' _ D (.deferred none)) (fun r e => by cases e; exact ⟨_, hK', rfl⟩)
    refine ⟨.bool false, ?_, by rw [decide_eq_false (fun h => hne a h rfl)], (hB.setCell (p := ⟨w.heap.size + 1, 0, none⟩) (by simp) _).trans (belowK_b (w := w) (Nat.le_refl _) _ D _ _ (by simp at hD; omega) hK' rfl rfl)⟩
    simp [results, Tryz.f181, go_sem, hc5]
  case stop =>
    rintro D c pre W hD hpre ⟨⟨rfl, hin, hr⟩, hB⟩ hK
    gi_wp2
    refine ⟨by simp, .inl ⟨_, _, rfl, run_takeDeferred hK, ?_⟩⟩
    have hc5 := cell_kept hr.cell (grownBy_putObj' _ D (.deferred none)) (fun r e => by cases e; exact ⟨_, hK, rfl⟩)
    refine ⟨.bool true, ?_, by rw [decide_eq_true (hpre.subset hin)], hB.trans (belowK_b (w := w) (Nat.le_refl _) W D _ _ (by simp at hD; omega) hK rfl rfl)⟩
    simp [results, Tryz.f181, go_sem, hc5]
end Go.Proofs.YtebnonpdaddniaaGreatDoor
/-
  The program's linkFault at a tree of cores: whether the next one can hang on a place; nothing that was there is turned.
-/
namespace Go.Proofs.YtebnonpdaddniaaGreatDoor
open Go.RowKit Go.Extern.Stop Go.Stop Go.Extern Num Go.Lib Go.Shelf

def lfDC (N : List (Cor × Value)) (p : Int) : Int :=
  if N.length = 0 ∧ p = -1 then 0 else if p < 0 ∨ (N.length : Int) ≤ p then 3 else if ¬ p ∈ upLC N ((N.length : Int) - 1) then 1 else 0
theorem size_anyC (n₀ tb : Nat) (N : List (Cor × Value)) (w : World) (hT : IsTreeC n₀ w tb N) :
    Calls Tryz.prog 116 #[.pointer (some ⟨tb, 0, none⟩)] w fun e w' => e = .returned (.int .i64 (N.length : Nat)) ∧ w' = w := (callsIn_wide (n := 3)).1 (size_inC Fence.wide 3 (fun _ => trivial) rfl n₀ tb N w hT)
theorem isOpen_anyC (tb : Nat) (N : List (Cor × Value)) (hp : ParsC N) (hpos : 0 < N.length) (hl : N.length ≤ 1000000) (a : Int) (w : World) (hT : IsTreeC w.heap.size w tb N) :
    Calls Tryz.prog 181 #[.pointer (some ⟨tb, 0, none⟩), .int .i64 a] w fun e W' => e = .returned (.bool (decide (a ∈ upLC N ((N.length : Int) - 1)))) ∧ Below w.heap.size w W' := (callsIn_wide (n := 3)).1 (isOpen_inC Fence.wide 3 (fun _ => trivial) rfl (by omega) tb N hp hpos hl a w hT)
theorem lf_emptyC (tb : Nat) (p : Int) (w : World) (hT : IsTreeC w.heap.size w tb []) :
    Calls Tryz.prog 140 #[.pointer (some ⟨tb, 0, none⟩), .int .i64 p] w fun e w' => e = .returned (.int .i64 (if p = -1 then 0 else 3)) ∧ w' = w := by
  have HT : Hid (IsTreeC w.heap.size w tb []) := hT
  clear hT
  by_cases h : p = -1
  · subst h
    go_enter Tryz.func140, Tryz.ntmps140
    go_wp2_with (go_at_call 116; refine (size_anyC _ _ _ _ HT.out).mono ?_; rintro e w' ⟨rfl, rfl⟩)
    go_ret
    exact ⟨rfl, rfl⟩
  · have h1 : (p == -1) = false := by simpa using h
    have e0 : (if p = -1 then (0 : Int) else 3) = 3 := if_neg h
    rw [e0]
    by_cases h2 : p < 0
    · go_enter Tryz.func140, Tryz.ntmps140
      go_wp2_with (go_at_call 116; refine (size_anyC _ _ _ _ HT.out).mono ?_; rintro e w' ⟨rfl, rfl⟩)
      go_ret
      exact ⟨rfl, rfl⟩
    · have h3 : 0 ≤ p := by omega
      go_enter Tryz.func140, Tryz.ntmps140
      go_wp2_with (go_at_call 116; refine (size_anyC _ _ _ _ HT.out).mono ?_; rintro e w' ⟨rfl, rfl⟩)
      go_ret
      exact ⟨rfl, rfl⟩
theorem lf_rangeC (tb : Nat) (N : List (Cor × Value)) (p : Int) (w : World) (hT : IsTreeC w.heap.size w tb N) (hN : 0 < N.length) (hp : p < 0 ∨ (N.length : Int) ≤ p) :
    Calls Tryz.prog 140 #[.pointer (some ⟨tb, 0, none⟩), .int .i64 p] w fun e w' => e = .returned (.int .i64 3) ∧ w' = w := by
  have HT : Hid (IsTreeC w.heap.size w tb N) := hT
  clear hT
  have h0 : ((N.length : Int) == 0) = false := beq_false_of_ne (by omega)
  rcases hp with h | h
  · go_enter Tryz.func140, Tryz.ntmps140
    go_wp2_with (go_at_call 116; refine (size_anyC _ _ _ _ HT.out).mono ?_; rintro e w' ⟨rfl, rfl⟩)
    go_ret
    exact ⟨rfl, rfl⟩
  · have h3 : 0 ≤ p := by omega
    go_enter Tryz.func140, Tryz.ntmps140
    go_wp2_with (go_at_call 116; refine (size_anyC _ _ _ _ HT.out).mono ?_; rintro e w' ⟨rfl, rfl⟩)
    go_ret
    exact ⟨rfl, rfl⟩
theorem lf_inC (tb : Nat) (N : List (Cor × Value)) (hp : ParsC N) (hl : N.length ≤ 1000000) (k : Nat) (hk : k < N.length) (w : World) (hT : IsTreeC w.heap.size w tb N) :
    Calls Tryz.prog 140 #[.pointer (some ⟨tb, 0, none⟩), .int .i64 (k : Int)] w fun e w' => e = .returned (.int .i64 (if ¬ (k : Int) ∈ upLC N ((N.length : Int) - 1) then 1 else 0)) ∧ Below w.heap.size w w' := by
  have HT : Hid (IsTreeC w.heap.size w tb N) := hT
  have HO : Hid (∀ u, IsTreeC u.heap.size u tb N → Calls Tryz.prog 181 #[.pointer (some ⟨tb, 0, none⟩), .int .i64 (k : Int)] u fun e W' => e = .returned (.bool (decide ((k : Int) ∈ upLC N ((N.length : Int) - 1)))) ∧ Below u.heap.size u W') := fun u hu => isOpen_anyC tb N hp (by omega) hl _ u hu
  clear hT hp
  obtain ⟨op, hop⟩ : ∃ op, op = decide ((k : Int) ∈ upLC N ((N.length : Int) - 1)) := ⟨_, rfl⟩
  rw [← hop] at HO
  have h0 : ((N.length : Int) == 0) = false := beq_false_of_ne (by omega)
  have h1 : (0 : Int) ≤ (k : Int) := by omega
  have h2 : (k : Int) < (N.length : Int) := by omega
  cases op with
  | false =>
    rw [if_pos (by simpa using hop.symm)]
    clear hop
    go_enter Tryz.func140, Tryz.ntmps140
    go_wp2_with (first | (go_at_call 116; refine (size_anyC _ _ _ _ HT.out).mono ?_; rintro e w' ⟨rfl, rfl⟩) | (go_at_call 181; refine (HO.out _ HT.out).mono ?_; rintro e w1 ⟨rfl, b1⟩))
    go_ret
    exact ⟨rfl, b1⟩
  | true =>
    rw [if_neg (by simp; simpa using hop.symm)]
    clear hop
    go_enter Tryz.func140, Tryz.ntmps140
    go_wp2_with (first | (go_at_call 116; refine (size_anyC _ _ _ _ HT.out).mono ?_; rintro e w' ⟨rfl, rfl⟩) | (go_at_call 181; refine (HO.out _ HT.out).mono ?_; rintro e w1 ⟨rfl, b1⟩))
    go_ret
    exact ⟨rfl, b1⟩
theorem lf_anyC (tb : Nat) (N : List (Cor × Value)) (hp : ParsC N) (hl : N.length ≤ 1000000) (p : Int) (w : World) (hT : IsTreeC w.heap.size w tb N) :
    Calls Tryz.prog 140 #[.pointer (some ⟨tb, 0, none⟩), .int .i64 p] w fun e w' => e = .returned (.int .i64 (lfDC N p)) ∧ Below w.heap.size w w' := by
  by_cases h0 : N.length = 0
  · obtain rfl := List.eq_nil_of_length_eq_zero h0
    refine (lf_emptyC tb p w hT).mono ?_
    rintro e w' ⟨rfl, rfl⟩
    refine ⟨?_, Below.refl _ _⟩
    unfold lfDC
    by_cases h : p = -1
    · simp [h]
    · rw [if_neg h, if_neg (fun h' => h h'.2), if_pos (by simp; omega)]
  · by_cases h : p < 0 ∨ (N.length : Int) ≤ p
    · refine (lf_rangeC tb N p w hT (by omega) h).mono ?_
      rintro e w' ⟨rfl, rfl⟩
      refine ⟨?_, Below.refl _ _⟩
      unfold lfDC
      rw [if_neg (fun h' => h0 h'.1), if_pos h]
    · obtain ⟨k, rfl⟩ : ∃ k : Nat, p = (k : Int) := ⟨p.toNat, by omega⟩
      have hk : k < N.length := by omega
      refine (lf_inC tb N hp hl k hk w hT).mono ?_
      rintro e w' ⟨rfl, b⟩
      refine ⟨?_, b⟩
      have e : lfDC N (k : Int) = if ¬ (k : Int) ∈ upLC N ((N.length : Int) - 1) then 1 else 0 := by
        unfold lfDC
        rw [if_neg (fun h' : N.length = 0 ∧ _ => h0 h'.1), if_neg h]
      rw [e]
end Go.Proofs.YtebnonpdaddniaaGreatDoor
