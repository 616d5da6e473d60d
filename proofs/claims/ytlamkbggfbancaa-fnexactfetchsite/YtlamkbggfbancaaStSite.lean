/-
  A site that came in: the laws' toSite and szSite, and its cells as they are read.
-/
import Derived.Test.YtlamkbggfbancaaSiteMath
import Derived.Test.YtlamkbggfbancaaOpValue
namespace Go.Proofs.Ytlamkbggfbancaa
open Go.RowKit Go.Extern.Stop Go.Stop Go.Extern Num Go.Lib
open Go.ChangeShapes Go.WideShapes Go.ChangeAt

set_option maxHeartbeats 1000000 in
theorem toE_any (t : Ste) (w : World) :
    Calls Try.prog 37 #[t.val] w fun e w' => e = .returned t.val ∧ Below w.heap.size w w' := by
  have H1 : Hid (∀ w, Calls Try.prog 30 #[t.value.val] w fun e w' => e = .returned t.value.val ∧ Below w.heap.size w w') := fun w => toV_any _ w
  go_enter Try.func37, Try.ntmps37
  go_wp2_with fail
  refine (H1.out _).mono ?_
  rintro e w1 ⟨rfl, hb1⟩
  obtain ⟨hc1, hf1⟩ := bcell hb1
  have z1 : w.heap.size + 2 < w1.heap.size := by have := hb1.size; simp at this; omega
  have B1 : Below w.heap.size w w1 := Below.trans (by repeat (first | exact Below.refl _ _ | refine Below.setCell ?_ (by simp <;> omega) _ | refine Below.alloc ?_ (by simp <;> omega) _ | refine Below.drew ?_)) (hb1.mono (by simp <;> omega))
  have z1a : w.heap.size + 1 < w1.heap.size := by omega
  have z1b : w.heap.size < w1.heap.size := by omega
  go_wp2
  exact bodyPost_ret (v := t.val) (by simp [results, Try.results37, go_sem, hc1]) rfl ⟨rfl, by
    repeat (first | refine Below.setCell ?_ (by simp <;> omega) _ | exact B1)⟩
theorem szE_far (t : Ste) (n : Nat) (w : World) (hz : t.value.name.size ≤ 9223372036854775807) (hn : n ≤ 1048576) (h : n < t.value.name.size) :
    Calls Try.prog 35 #[t.val, .int .i64 (n : Int)] w fun e w' => e = .returned (.int .i64 (-1)) ∧ Below w.heap.size w w' := by
  have H1 : Hid (∀ w, Calls Try.prog 29 #[t.value.val, .int .i64 (n : Int)] w fun e w' => e = .returned (.int .i64 (-1)) ∧ Below w.heap.size w w') := fun w => szV_far _ n w hz hn h
  clear hz h
  go_enter Try.func35, Try.ntmps35
  go_wp2_with fail
  refine (H1.out _).mono ?_
  rintro e w1 ⟨rfl, hb1⟩
  go_wp2
  go_ret
  exact ⟨rfl, Below.trans ((Below.refl _ _).alloc (Nat.le_refl _) _) (hb1.mono (by simp))⟩
theorem szE_near (t : Ste) (n : Nat) (w : World) (hn : n ≤ 1048576) (h : t.value.name.size ≤ n) :
    Calls Try.prog 35 #[t.val, .int .i64 (n : Int)] w fun e w' => e = .returned (.int .i64 ((n - t.value.name.size : Nat) : Int)) ∧ Below w.heap.size w w' := by
  obtain ⟨q, hq⟩ : ∃ q : Nat, q = n - t.value.name.size := ⟨_, rfl⟩
  have H1 : Hid (∀ w, Calls Try.prog 29 #[t.value.val, .int .i64 (n : Int)] w fun e w' => e = .returned (.int .i64 (q : Int)) ∧ Below w.heap.size w w') := fun w => by rw [hq]; exact szV_near _ n w hn h
  rw [← hq]
  clear hq h
  go_enter Try.func35, Try.ntmps35
  go_wp2_with fail
  refine (H1.out _).mono ?_
  rintro e w1 ⟨rfl, hb1⟩
  go_wp2
  go_ret
  exact ⟨rfl, Below.trans ((Below.refl _ _).alloc (Nat.le_refl _) _) (hb1.mono (by simp))⟩
theorem cellsLE : Try.prog.cellsOf 61 = 4 := by kernel_rfl
set_option maxRecDepth 100000 in
/-- One that came in. -/
theorem openE {H : Type} {enc : TypeId × Value → H} {W : World} {b0 base : Nat} {sp : Nat → Bool} {held : Bool} {v : Value} {d : DataW H} {p : List MemPlace}
    (hv : Value.okWide Try.prog W .any b0 61 v) (h : DataW.Trod enc Try.prog W base sp held 61 v d p) : ∃ t : Ste, v = t.val ∧ t.value.name.size ≤ maxLen := by
  obtain ⟨cs, rfl, _⟩ := okWide_struct Try.underlying61 hv
  obtain ⟨n, hn⟩ := h
  obtain ⟨y0, y1, m, _, hl, t0, t1⟩ := trod_struct2 Try.underlying61 hn
  rw [cellsLE] at hl
  have hl' : cs.toList.length = 4 := by simpa [Value.cells] using hl
  match hcs : cs.toList, hl' with
  | [c0, c1, c2, c3], _ =>
    have hcl : (Value.agg cs).cells.toList = [c0, c1, c2, c3] := by simpa [Value.cells] using hcs
    rw [hcl] at t0 t1
    simp only [cellsLV, cellsIV, List.drop, List.take] at t0 t1
    obtain ⟨a, ha, hm⟩ := oneV_of_trod t1
    obtain ⟨i, hv0, _, _⟩ := DataW.trod_int Try.underlying2 t0
    simp only [Vlu.cells, List.cons.injEq, and_true] at ha hv0
    obtain ⟨rfl, rfl, rfl⟩ := ha
    subst hv0
    refine ⟨⟨i, a⟩, ?_, hm⟩
    have e : cs = #[.int .i64 i, .int .i64 a.kind, .int .i64 a.num, .string a.name] := by
      apply Array.toList_inj.1; rw [hcs]
    rw [e]
end Go.Proofs.Ytlamkbggfbancaa
