/-
  Parts of the proof laid into one text, one behind the other: ImplOp1, ImplOp2, ImplOp3, ImplBlk. Contracts of the program's and the model's functions, and what they are proved of, as their theorems say.
-/
import Derived.Test.YtoafolefecddmaaGreatDoorOpAtMHv
import Derived.Lib.SliceRun
import Derived.Test.YtoafolefecddmaaGreatDoorOpNumHv
import Derived.Test.YtoafolefecddmaaGreatDoorFacts
import Derived.Test.YtoafolefecddmaaGreatDoorTreeWHv
namespace Go.Proofs.YtoafolefecddmaaGreatDoor
open Go.RowKit Go.Extern.Stop Go.Stop Go.Extern Num Go.Lib
def wordO (k : Int) : ByteArray := if k = 1 then ⟨#[99, 111, 110, 115, 116]⟩ else if k = 2 then ⟨#[108, 111, 99, 97, 108]⟩ else if k = 3 then ⟨#[103, 108, 111, 98, 97, 108]⟩ else if k = 4 then ⟨#[99, 108, 111, 115, 117, 114, 101]⟩ else if k = 5 then ⟨#[106, 117, 109, 112]⟩ else if k = 6 then ⟨#[105, 102, 110, 111, 116]⟩ else if k = 7 then ⟨#[112, 111, 112]⟩ else if k = 8 then ⟨#[115, 101, 116]⟩ else if k = 9 then ⟨#[100, 101, 102]⟩ else if k = 10 then ⟨#[99, 97, 108, 108]⟩ else if k = 11 then ⟨#[116, 97, 105, 108]⟩ else if k = 12 then ⟨#[114, 101, 116, 117, 114, 110]⟩ else if k = 13 then ⟨#[99, 111, 110, 115, 116, 114, 101, 116]⟩ else if k = 14 then ⟨#[108, 111, 99, 97, 108, 114, 101, 116]⟩ else if k = 15 then ⟨#[108, 111, 99, 97, 108, 115]⟩ else if k = 16 then ⟨#[108, 111, 99, 97, 108, 105, 102, 110, 111, 116]⟩ else ⟨#[]⟩
def inO (k : Int) : Bool := decide (1 ≤ k) && decide (k ≤ 16)
abbrev shpV (s : ByteArray) (n : Nat) (a b : Bool) : Value := .agg #[.string s, .int .i64 (n : Int), .bool a, .bool b]
theorem kinds16 (k : Int) : k = 1 ∨ k = 2 ∨ k = 3 ∨ k = 4 ∨ k = 5 ∨ k = 6 ∨ k = 7 ∨ k = 8 ∨ k = 9 ∨ k = 10 ∨ k = 11 ∨ k = 12 ∨ k = 13 ∨ k = 14 ∨ k = 15 ∨ k = 16 ∨ (k < 1 ∨ 16 < k) := by omega
theorem shapeOf_1 (w : World) : Calls Tryz.prog 168 #[.int .i64 1] w fun e w' => e = .returned (.tuple #[shpV ⟨#[99, 111, 110, 115, 116]⟩ 0 false true, .bool true]) ∧ Below w.heap.size w w' := by
  go_enter Tryz.func168, Tryz.ntmps168
  go_wp2
  exact bodyPost_ret (v := .tuple #[shpV ⟨#[99, 111, 110, 115, 116]⟩ 0 false true, .bool true]) (by simp [results, Tryz.results168, go_sem]) rfl ⟨rfl, by repeat (first | exact Below.refl _ _ | refine Below.setCell ?_ (by simp <;> omega) _ | refine Below.alloc ?_ (by simp <;> omega) _)⟩
theorem shapeOf_2 (w : World) : Calls Tryz.prog 168 #[.int .i64 2] w fun e w' => e = .returned (.tuple #[shpV ⟨#[108, 111, 99, 97, 108]⟩ 2 false false, .bool true]) ∧ Below w.heap.size w w' := by
  go_enter Tryz.func168, Tryz.ntmps168
  go_wp2
  exact bodyPost_ret (v := .tuple #[shpV ⟨#[108, 111, 99, 97, 108]⟩ 2 false false, .bool true]) (by simp [results, Tryz.results168, go_sem]) rfl ⟨rfl, by repeat (first | exact Below.refl _ _ | refine Below.setCell ?_ (by simp <;> omega) _ | refine Below.alloc ?_ (by simp <;> omega) _)⟩
theorem shapeOf_3 (w : World) : Calls Tryz.prog 168 #[.int .i64 3] w fun e w' => e = .returned (.tuple #[shpV ⟨#[103, 108, 111, 98, 97, 108]⟩ 0 true false, .bool true]) ∧ Below w.heap.size w w' := by
  go_enter Tryz.func168, Tryz.ntmps168
  go_wp2
  exact bodyPost_ret (v := .tuple #[shpV ⟨#[103, 108, 111, 98, 97, 108]⟩ 0 true false, .bool true]) (by simp [results, Tryz.results168, go_sem]) rfl ⟨rfl, by repeat (first | exact Below.refl _ _ | refine Below.setCell ?_ (by simp <;> omega) _ | refine Below.alloc ?_ (by simp <;> omega) _)⟩
theorem shapeOf_4 (w : World) : Calls Tryz.prog 168 #[.int .i64 4] w fun e w' => e = .returned (.tuple #[shpV ⟨#[99, 108, 111, 115, 117, 114, 101]⟩ 1 false false, .bool true]) ∧ Below w.heap.size w w' := by
  go_enter Tryz.func168, Tryz.ntmps168
  go_wp2
  exact bodyPost_ret (v := .tuple #[shpV ⟨#[99, 108, 111, 115, 117, 114, 101]⟩ 1 false false, .bool true]) (by simp [results, Tryz.results168, go_sem]) rfl ⟨rfl, by repeat (first | exact Below.refl _ _ | refine Below.setCell ?_ (by simp <;> omega) _ | refine Below.alloc ?_ (by simp <;> omega) _)⟩
theorem shapeOf_5 (w : World) : Calls Tryz.prog 168 #[.int .i64 5] w fun e w' => e = .returned (.tuple #[shpV ⟨#[106, 117, 109, 112]⟩ 1 false false, .bool true]) ∧ Below w.heap.size w w' := by
  go_enter Tryz.func168, Tryz.ntmps168
  go_wp2
  exact bodyPost_ret (v := .tuple #[shpV ⟨#[106, 117, 109, 112]⟩ 1 false false, .bool true]) (by simp [results, Tryz.results168, go_sem]) rfl ⟨rfl, by repeat (first | exact Below.refl _ _ | refine Below.setCell ?_ (by simp <;> omega) _ | refine Below.alloc ?_ (by simp <;> omega) _)⟩
theorem shapeOf_6 (w : World) : Calls Tryz.prog 168 #[.int .i64 6] w fun e w' => e = .returned (.tuple #[shpV ⟨#[105, 102, 110, 111, 116]⟩ 1 false false, .bool true]) ∧ Below w.heap.size w w' := by
  go_enter Tryz.func168, Tryz.ntmps168
  go_wp2
  exact bodyPost_ret (v := .tuple #[shpV ⟨#[105, 102, 110, 111, 116]⟩ 1 false false, .bool true]) (by simp [results, Tryz.results168, go_sem]) rfl ⟨rfl, by repeat (first | exact Below.refl _ _ | refine Below.setCell ?_ (by simp <;> omega) _ | refine Below.alloc ?_ (by simp <;> omega) _)⟩
theorem shapeOf_7 (w : World) : Calls Tryz.prog 168 #[.int .i64 7] w fun e w' => e = .returned (.tuple #[shpV ⟨#[112, 111, 112]⟩ 0 false false, .bool true]) ∧ Below w.heap.size w w' := by
  go_enter Tryz.func168, Tryz.ntmps168
  go_wp2
  exact bodyPost_ret (v := .tuple #[shpV ⟨#[112, 111, 112]⟩ 0 false false, .bool true]) (by simp [results, Tryz.results168, go_sem]) rfl ⟨rfl, by repeat (first | exact Below.refl _ _ | refine Below.setCell ?_ (by simp <;> omega) _ | refine Below.alloc ?_ (by simp <;> omega) _)⟩
theorem shapeOf_8 (w : World) : Calls Tryz.prog 168 #[.int .i64 8] w fun e w' => e = .returned (.tuple #[shpV ⟨#[115, 101, 116]⟩ 0 true false, .bool true]) ∧ Below w.heap.size w w' := by
  go_enter Tryz.func168, Tryz.ntmps168
  go_wp2
  exact bodyPost_ret (v := .tuple #[shpV ⟨#[115, 101, 116]⟩ 0 true false, .bool true]) (by simp [results, Tryz.results168, go_sem]) rfl ⟨rfl, by repeat (first | exact Below.refl _ _ | refine Below.setCell ?_ (by simp <;> omega) _ | refine Below.alloc ?_ (by simp <;> omega) _)⟩
theorem shapeOf_9 (w : World) : Calls Tryz.prog 168 #[.int .i64 9] w fun e w' => e = .returned (.tuple #[shpV ⟨#[100, 101, 102]⟩ 0 true false, .bool true]) ∧ Below w.heap.size w w' := by
  go_enter Tryz.func168, Tryz.ntmps168
  go_wp2
  exact bodyPost_ret (v := .tuple #[shpV ⟨#[100, 101, 102]⟩ 0 true false, .bool true]) (by simp [results, Tryz.results168, go_sem]) rfl ⟨rfl, by repeat (first | exact Below.refl _ _ | refine Below.setCell ?_ (by simp <;> omega) _ | refine Below.alloc ?_ (by simp <;> omega) _)⟩
theorem shapeOf_10 (w : World) : Calls Tryz.prog 168 #[.int .i64 10] w fun e w' => e = .returned (.tuple #[shpV ⟨#[99, 97, 108, 108]⟩ 1 false false, .bool true]) ∧ Below w.heap.size w w' := by
  go_enter Tryz.func168, Tryz.ntmps168
  go_wp2
  exact bodyPost_ret (v := .tuple #[shpV ⟨#[99, 97, 108, 108]⟩ 1 false false, .bool true]) (by simp [results, Tryz.results168, go_sem]) rfl ⟨rfl, by repeat (first | exact Below.refl _ _ | refine Below.setCell ?_ (by simp <;> omega) _ | refine Below.alloc ?_ (by simp <;> omega) _)⟩
theorem shapeOf_11 (w : World) : Calls Tryz.prog 168 #[.int .i64 11] w fun e w' => e = .returned (.tuple #[shpV ⟨#[116, 97, 105, 108]⟩ 1 false false, .bool true]) ∧ Below w.heap.size w w' := by
  go_enter Tryz.func168, Tryz.ntmps168
  go_wp2
  exact bodyPost_ret (v := .tuple #[shpV ⟨#[116, 97, 105, 108]⟩ 1 false false, .bool true]) (by simp [results, Tryz.results168, go_sem]) rfl ⟨rfl, by repeat (first | exact Below.refl _ _ | refine Below.setCell ?_ (by simp <;> omega) _ | refine Below.alloc ?_ (by simp <;> omega) _)⟩
theorem shapeOf_12 (w : World) : Calls Tryz.prog 168 #[.int .i64 12] w fun e w' => e = .returned (.tuple #[shpV ⟨#[114, 101, 116, 117, 114, 110]⟩ 0 false false, .bool true]) ∧ Below w.heap.size w w' := by
  go_enter Tryz.func168, Tryz.ntmps168
  go_wp2
  exact bodyPost_ret (v := .tuple #[shpV ⟨#[114, 101, 116, 117, 114, 110]⟩ 0 false false, .bool true]) (by simp [results, Tryz.results168, go_sem]) rfl ⟨rfl, by repeat (first | exact Below.refl _ _ | refine Below.setCell ?_ (by simp <;> omega) _ | refine Below.alloc ?_ (by simp <;> omega) _)⟩
theorem shapeOf_13 (w : World) : Calls Tryz.prog 168 #[.int .i64 13] w fun e w' => e = .returned (.tuple #[shpV ⟨#[99, 111, 110, 115, 116, 114, 101, 116]⟩ 0 false true, .bool true]) ∧ Below w.heap.size w w' := by
  go_enter Tryz.func168, Tryz.ntmps168
  go_wp2
  exact bodyPost_ret (v := .tuple #[shpV ⟨#[99, 111, 110, 115, 116, 114, 101, 116]⟩ 0 false true, .bool true]) (by simp [results, Tryz.results168, go_sem]) rfl ⟨rfl, by repeat (first | exact Below.refl _ _ | refine Below.setCell ?_ (by simp <;> omega) _ | refine Below.alloc ?_ (by simp <;> omega) _)⟩
theorem shapeOf_14 (w : World) : Calls Tryz.prog 168 #[.int .i64 14] w fun e w' => e = .returned (.tuple #[shpV ⟨#[108, 111, 99, 97, 108, 114, 101, 116]⟩ 2 false false, .bool true]) ∧ Below w.heap.size w w' := by
  go_enter Tryz.func168, Tryz.ntmps168
  go_wp2
  exact bodyPost_ret (v := .tuple #[shpV ⟨#[108, 111, 99, 97, 108, 114, 101, 116]⟩ 2 false false, .bool true]) (by simp [results, Tryz.results168, go_sem]) rfl ⟨rfl, by repeat (first | exact Below.refl _ _ | refine Below.setCell ?_ (by simp <;> omega) _ | refine Below.alloc ?_ (by simp <;> omega) _)⟩
theorem shapeOf_15 (w : World) : Calls Tryz.prog 168 #[.int .i64 15] w fun e w' => e = .returned (.tuple #[shpV ⟨#[108, 111, 99, 97, 108, 115]⟩ 4 false false, .bool true]) ∧ Below w.heap.size w w' := by
  go_enter Tryz.func168, Tryz.ntmps168
  go_wp2
  exact bodyPost_ret (v := .tuple #[shpV ⟨#[108, 111, 99, 97, 108, 115]⟩ 4 false false, .bool true]) (by simp [results, Tryz.results168, go_sem]) rfl ⟨rfl, by repeat (first | exact Below.refl _ _ | refine Below.setCell ?_ (by simp <;> omega) _ | refine Below.alloc ?_ (by simp <;> omega) _)⟩
theorem shapeOf_16 (w : World) : Calls Tryz.prog 168 #[.int .i64 16] w fun e w' => e = .returned (.tuple #[shpV ⟨#[108, 111, 99, 97, 108, 105, 102, 110, 111, 116]⟩ 3 false false, .bool true]) ∧ Below w.heap.size w w' := by
  go_enter Tryz.func168, Tryz.ntmps168
  go_wp2
  exact bodyPost_ret (v := .tuple #[shpV ⟨#[108, 111, 99, 97, 108, 105, 102, 110, 111, 116]⟩ 3 false false, .bool true]) (by simp [results, Tryz.results168, go_sem]) rfl ⟨rfl, by repeat (first | exact Below.refl _ _ | refine Below.setCell ?_ (by simp <;> omega) _ | refine Below.alloc ?_ (by simp <;> omega) _)⟩
theorem shapeOf_no (k : Int) (w : World) (h : k < 1 ∨ 16 < k) : Calls Tryz.prog 168 #[.int .i64 k] w fun e w' => e = .returned (.tuple #[shpV ⟨#[]⟩ 0 false false, .bool false]) ∧ Below w.heap.size w w' := by
  have h1 : (k == 1) = false := by rw [beq_eq_false_iff_ne]; omega
  have h2 : (k == 2) = false := by rw [beq_eq_false_iff_ne]; omega
  have h3 : (k == 3) = false := by rw [beq_eq_false_iff_ne]; omega
  have h4 : (k == 4) = false := by rw [beq_eq_false_iff_ne]; omega
  have h5 : (k == 5) = false := by rw [beq_eq_false_iff_ne]; omega
  have h6 : (k == 6) = false := by rw [beq_eq_false_iff_ne]; omega
  have h7 : (k == 7) = false := by rw [beq_eq_false_iff_ne]; omega
  have h8 : (k == 8) = false := by rw [beq_eq_false_iff_ne]; omega
  have h9 : (k == 9) = false := by rw [beq_eq_false_iff_ne]; omega
  have h10 : (k == 10) = false := by rw [beq_eq_false_iff_ne]; omega
  have h11 : (k == 11) = false := by rw [beq_eq_false_iff_ne]; omega
  have h12 : (k == 12) = false := by rw [beq_eq_false_iff_ne]; omega
  have h13 : (k == 13) = false := by rw [beq_eq_false_iff_ne]; omega
  have h14 : (k == 14) = false := by rw [beq_eq_false_iff_ne]; omega
  have h15 : (k == 15) = false := by rw [beq_eq_false_iff_ne]; omega
  have h16 : (k == 16) = false := by rw [beq_eq_false_iff_ne]; omega
  clear h
  go_enter Tryz.func168, Tryz.ntmps168
  go_wp2
  exact bodyPost_ret (v := .tuple #[shpV ⟨#[]⟩ 0 false false, .bool false]) (by simp [results, Tryz.results168, go_sem]) rfl ⟨rfl, by repeat (first | exact Below.refl _ _ | refine Below.setCell ?_ (by simp <;> omega) _ | refine Below.alloc ?_ (by simp <;> omega) _)⟩
theorem shapeOf_any (k : Int) (w : World) : Calls Tryz.prog 168 #[.int .i64 k] w fun e w' => e = .returned (.tuple #[shpV (wordO k) (numsO k) (namedO k) (constO k), .bool (inO k)]) ∧ Below w.heap.size w w' := by
  rcases kinds16 k with rfl | rfl | rfl | rfl | rfl | rfl | rfl | rfl | rfl | rfl | rfl | rfl | rfl | rfl | rfl | rfl | h
  · exact shapeOf_1 w
  · exact shapeOf_2 w
  · exact shapeOf_3 w
  · exact shapeOf_4 w
  · exact shapeOf_5 w
  · exact shapeOf_6 w
  · exact shapeOf_7 w
  · exact shapeOf_8 w
  · exact shapeOf_9 w
  · exact shapeOf_10 w
  · exact shapeOf_11 w
  · exact shapeOf_12 w
  · exact shapeOf_13 w
  · exact shapeOf_14 w
  · exact shapeOf_15 w
  · exact shapeOf_16 w
  · have e1 : wordO k = ⟨#[]⟩ := by unfold wordO; repeat (rw [if_neg (by omega)])
    have e2 : numsO k = 0 := by unfold numsO; repeat (rw [if_neg (by omega)])
    have e3 : namedO k = false := by unfold namedO; simp only [Bool.or_eq_false_iff, beq_eq_false_iff_ne]; omega
    have e4 : constO k = false := by unfold constO; simp only [Bool.or_eq_false_iff, beq_eq_false_iff_ne]; omega
    have e5 : inO k = false := by unfold inO; simp only [Bool.and_eq_false_iff, decide_eq_false_iff_not]; omega
    rw [e1, e2, e3, e4, e5]
    exact shapeOf_no k w h
abbrev firV (a b c d : Int) (n : Nat) : Value := .agg #[.int .i64 (if 1 ≤ n then a else 0), .int .i64 (if 2 ≤ n then b else 0), .int .i64 (if 3 ≤ n then c else 0), .int .i64 (if 4 ≤ n then d else 0)]
set_option maxRecDepth 100000 in
set_option maxHeartbeats 1000000 in
theorem first_any (a b c d : Int) (n : Nat) (w : World) (hn : n ≤ 4) : Calls Tryz.prog 135 #[.agg #[.int .i64 a, .int .i64 b, .int .i64 c, .int .i64 d], .int .i64 (n : Int)] w fun e w' => e = .returned (firV a b c d n) ∧ Below w.heap.size w w' := by
  have hzv : ∀ x, (zeroValue 2).run Tryz.prog x = .ok (.int .i64 0) x := fun x => by simp [go_sem]
  have hcl : ∀ (x : World) (ty : TypeId) (b o n : Nat), 0 < n → (∀ j, j < n → (x.cell? ⟨b, o + j, none⟩).isSome = true) → (∀ j, j < n → x.frozen? ⟨b, o + j, none⟩ = false) → (Builtin.clear_ #[78] ty #[.slice (some ⟨b, o, none⟩) n n]).run Tryz.prog x = .ok (.tuple #[]) (x.setCells b o (List.replicate n (.int .i64 0))) := fun x ty b o n h1 h2 h3 => Lib.run_clear_slice x _ _ ty _ Tryz.underlying78 hzv rfl rfl b o n n h1 h2 h3
  obtain ⟨W, hW⟩ : ∃ W, W = (w.alloc (.cells #[.int .i64 a, .int .i64 b, .int .i64 c, .int .i64 d] 182)).alloc (.cells #[.int .i64 0, .int .i64 0, .int .i64 0, .int .i64 0] 182) := ⟨_, rfl⟩
  obtain rfl | rfl | rfl | rfl | rfl : n = 0 ∨ n = 1 ∨ n = 2 ∨ n = 3 ∨ n = 4 := by omega
  · have hq : (Builtin.clear_ #[78] 0 #[.slice (some ⟨w.heap.size, 0, none⟩) 4 4]).run Tryz.prog W = .ok (.tuple #[]) ((((W.setCell ⟨w.heap.size, 0, none⟩ (.int .i64 0)).setCell ⟨w.heap.size, 1, none⟩ (.int .i64 0)).setCell ⟨w.heap.size, 2, none⟩ (.int .i64 0)).setCell ⟨w.heap.size, 3, none⟩ (.int .i64 0)) := by
      rw [hcl W 0 w.heap.size 0 4 (by omega) (fun j hj => ?_) (fun j hj => ?_)]
      · rfl
      · rw [hW]; (obtain rfl | rfl | rfl | rfl : j = 0 ∨ j = 1 ∨ j = 2 ∨ j = 3 := (by omega)) <;> simp [go_sem]
      · rw [hW]; simp [go_sem]
    rw [hW] at hq
    clear hcl hzv hW
    go_enter Tryz.func135, Tryz.ntmps135
    go_wp2
    exact bodyPost_ret (v := firV a b c d 0) (by simp [results, Tryz.results135, go_sem]) rfl ⟨rfl, by repeat (first | exact Below.refl _ _ | refine Below.setCell ?_ (by simp <;> omega) _ | refine Below.alloc ?_ (by simp <;> omega) _)⟩
  · have hq : (Builtin.clear_ #[78] 0 #[.slice (some ⟨w.heap.size, 1, none⟩) 3 3]).run Tryz.prog W = .ok (.tuple #[]) (((W.setCell ⟨w.heap.size, 1, none⟩ (.int .i64 0)).setCell ⟨w.heap.size, 2, none⟩ (.int .i64 0)).setCell ⟨w.heap.size, 3, none⟩ (.int .i64 0)) := by
      rw [hcl W 0 w.heap.size 1 3 (by omega) (fun j hj => ?_) (fun j hj => ?_)]
      · rfl
      · rw [hW]; (obtain rfl | rfl | rfl : j = 0 ∨ j = 1 ∨ j = 2 := (by omega)) <;> simp [go_sem]
      · rw [hW]; simp [go_sem]
    rw [hW] at hq
    clear hcl hzv hW
    go_enter Tryz.func135, Tryz.ntmps135
    go_wp2
    exact bodyPost_ret (v := firV a b c d 1) (by simp [results, Tryz.results135, go_sem]) rfl ⟨rfl, by repeat (first | exact Below.refl _ _ | refine Below.setCell ?_ (by simp <;> omega) _ | refine Below.alloc ?_ (by simp <;> omega) _)⟩
  · have hq : (Builtin.clear_ #[78] 0 #[.slice (some ⟨w.heap.size, 2, none⟩) 2 2]).run Tryz.prog W = .ok (.tuple #[]) ((W.setCell ⟨w.heap.size, 2, none⟩ (.int .i64 0)).setCell ⟨w.heap.size, 3, none⟩ (.int .i64 0)) := by
      rw [hcl W 0 w.heap.size 2 2 (by omega) (fun j hj => ?_) (fun j hj => ?_)]
      · rfl
      · rw [hW]; (obtain rfl | rfl : j = 0 ∨ j = 1 := (by omega)) <;> simp [go_sem]
      · rw [hW]; simp [go_sem]
    rw [hW] at hq
    clear hcl hzv hW
    go_enter Tryz.func135, Tryz.ntmps135
    go_wp2
    exact bodyPost_ret (v := firV a b c d 2) (by simp [results, Tryz.results135, go_sem]) rfl ⟨rfl, by repeat (first | exact Below.refl _ _ | refine Below.setCell ?_ (by simp <;> omega) _ | refine Below.alloc ?_ (by simp <;> omega) _)⟩
  · have hq : (Builtin.clear_ #[78] 0 #[.slice (some ⟨w.heap.size, 3, none⟩) 1 1]).run Tryz.prog W = .ok (.tuple #[]) (W.setCell ⟨w.heap.size, 3, none⟩ (.int .i64 0)) := by
      rw [hcl W 0 w.heap.size 3 1 (by omega) (fun j hj => ?_) (fun j hj => ?_)]
      · rfl
      · rw [hW]; (obtain rfl : j = 0 := (by omega)) <;> simp [go_sem]
      · rw [hW]; simp [go_sem]
    rw [hW] at hq
    clear hcl hzv hW
    go_enter Tryz.func135, Tryz.ntmps135
    go_wp2
    exact bodyPost_ret (v := firV a b c d 3) (by simp [results, Tryz.results135, go_sem]) rfl ⟨rfl, by repeat (first | exact Below.refl _ _ | refine Below.setCell ?_ (by simp <;> omega) _ | refine Below.alloc ?_ (by simp <;> omega) _)⟩
  · have hq : ∀ x, (Builtin.clear_ #[78] 0 #[.slice (some ⟨w.heap.size, 0, none⟩) 0 0]).run Tryz.prog x = .ok (.tuple #[]) x := fun x => by
      simp [Builtin.clear_, run_underlying Tryz.underlying78]
    clear hcl hzv hW
    go_enter Tryz.func135, Tryz.ntmps135
    go_wp2
    exact bodyPost_ret (v := firV a b c d 4) (by simp [results, Tryz.results135, go_sem]) rfl ⟨rfl, by repeat (first | exact Below.refl _ _ | refine Below.setCell ?_ (by simp <;> omega) _ | refine Below.alloc ?_ (by simp <;> omega) _)⟩
def BoxZo (n x : Nat) (u : World) : Prop := n ≤ x ∧ u.heap[x]? = some (.cells #[.int .i64 0, .string ⟨#[]⟩, .int .i64 0, .int .i64 0, .int .i64 0, .int .i64 0] 184 (0, 0))
theorem lt_of_blockO {u : World} {x : Nat} {o : Obj} (h : u.heap[x]? = some o) : x < u.heap.size := by
  rcases Nat.lt_or_ge x u.heap.size with g | g
  · exact g
  · rw [Array.getElem?_eq_none g] at h; cases h
theorem BoxZo.below {n x : Nat} {u v : World} (h : BoxZo n x u) (hb : Below u.heap.size u v) : BoxZo n x v := ⟨h.1, by rw [hb.block x (lt_of_blockO h.2)]; exact h.2⟩
theorem BoxZo.cells {n x : Nat} {u : World} (h : BoxZo n x u) : u.cell? ⟨x, 0, none⟩ = some (.int .i64 0) ∧ u.cell? ⟨x, 1, none⟩ = some (.string ⟨#[]⟩) ∧ u.cell? ⟨x, 2, none⟩ = some (.int .i64 0) ∧ u.cell? ⟨x, 3, none⟩ = some (.int .i64 0) ∧ u.cell? ⟨x, 4, none⟩ = some (.int .i64 0) ∧ u.cell? ⟨x, 5, none⟩ = some (.int .i64 0) ∧ ∀ o, u.frozen? ⟨x, o, none⟩ = false := by
  have := h.2
  simp [World.cell?, World.frozen?, this]
theorem BoxZo.put {n x : Nat} {u : World} (h : BoxZo n x u) (k a b c d : Int) : let u1 := (((((u.setCell ⟨x, 0, none⟩ (.int .i64 k)).setCell ⟨x, 1, none⟩ (.string ⟨#[]⟩)).setCell ⟨x, 2, none⟩ (.int .i64 a)).setCell ⟨x, 3, none⟩ (.int .i64 b)).setCell ⟨x, 4, none⟩ (.int .i64 c)).setCell ⟨x, 5, none⟩ (.int .i64 d)
    u1.cell? ⟨x, 0, none⟩ = some (.int .i64 k) ∧ u1.cell? ⟨x, 1, none⟩ = some (.string ⟨#[]⟩) ∧ u1.cell? ⟨x, 2, none⟩ = some (.int .i64 a) ∧ u1.cell? ⟨x, 3, none⟩ = some (.int .i64 b) ∧ u1.cell? ⟨x, 4, none⟩ = some (.int .i64 c) ∧ u1.cell? ⟨x, 5, none⟩ = some (.int .i64 d) ∧ (∀ o, u1.frozen? ⟨x, o, none⟩ = false) ∧ u.grownBy u1 (some x) := by
  obtain ⟨z0, z1, z2, z3, z4, z5, zf⟩ := h.cells
  refine ⟨by simp [go_sem, z0], by simp [go_sem, z1], by simp [go_sem, z2], by simp [go_sem, z3], by simp [go_sem, z4], by simp [go_sem, z5], fun o => by simp [go_sem, zf], gb_set (gb_set (gb_set (gb_set (gb_set (gb_set (gb_refl _ _) _) _) _) _) _) _⟩
abbrev onlV (t : Opr) (s : ByteArray) (n : Nat) : Value := .agg #[.int .i64 t.kind, .string s, .int .i64 (if 1 ≤ n then t.a else 0), .int .i64 (if 2 ≤ n then t.b else 0), .int .i64 (if 3 ≤ n then t.c else 0), .int .i64 (if 4 ≤ n then t.d else 0)]
set_option maxRecDepth 100000 in
set_option maxHeartbeats 2000000 in
theorem only_any (t : Opr) (s : ByteArray) (n : Nat) (a b : Bool) (w : World) (hn : n ≤ 4) :
    Calls Tryz.prog 217 #[shpV s n a b, t.num] w fun e w' => e = .returned (onlV t (if a then t.name else ⟨#[]⟩) n) ∧ Below w.heap.size w w' := by
  have HF : Hid (∀ x, Calls Tryz.prog 135 #[.agg #[.int .i64 t.a, .int .i64 t.b, .int .i64 t.c, .int .i64 t.d], .int .i64 (n : Int)] x fun e w' => e = .returned (firV t.a t.b t.c t.d n) ∧ Below x.heap.size x w') := fun x => first_any t.a t.b t.c t.d n x hn
  obtain ⟨W, hW⟩ : ∃ W, W = ((w.alloc (.cells #[.string s, .int .i64 (n : Int), .bool a, .bool b] 247)).alloc (.cells #[.int .i64 t.kind, .string t.name, .int .i64 t.a, .int .i64 t.b, .int .i64 t.c, .int .i64 t.d] 184)).alloc (.cells #[.int .i64 0, .string ⟨#[]⟩, .int .i64 0, .int .i64 0, .int .i64 0, .int .i64 0] 184) := ⟨_, rfl⟩
  have HW : Hid (W = ((w.alloc (.cells #[.string s, .int .i64 (n : Int), .bool a, .bool b] 247)).alloc (.cells #[.int .i64 t.kind, .string t.name, .int .i64 t.a, .int .i64 t.b, .int .i64 t.c, .int .i64 t.d] 184)).alloc (.cells #[.int .i64 0, .string ⟨#[]⟩, .int .i64 0, .int .i64 0, .int .i64 0, .int .i64 0] 184)) := hW
  have HBW : Hid (Below w.heap.size w W) := by rw [hW]; repeat (first | exact Below.refl _ _ | refine Below.setCell ?_ (by simp <;> omega) _ | refine Below.drew ?_ | refine Below.alloc ?_ (by simp <;> omega) _)
  have hsz : W.heap.size = w.heap.size + 1 + 1 + 1 := by rw [hW]; simp
  have s0 : W.cell? ⟨w.heap.size, 0, none⟩ = some (.string s) := by rw [hW]; simp [go_sem]
  have s1 : W.cell? ⟨w.heap.size, 1, none⟩ = some (.int .i64 (n : Int)) := by rw [hW]; simp [go_sem]
  have s2 : W.cell? ⟨w.heap.size, 2, none⟩ = some (.bool a) := by rw [hW]; simp [go_sem]
  have s3 : W.cell? ⟨w.heap.size, 3, none⟩ = some (.bool b) := by rw [hW]; simp [go_sem]
  have t0 : W.cell? ⟨w.heap.size + 1, 0, none⟩ = some (.int .i64 t.kind) := by rw [hW]; simp [go_sem]
  have t1 : W.cell? ⟨w.heap.size + 1, 1, none⟩ = some (.string t.name) := by rw [hW]; simp [go_sem]
  have t2 : W.cell? ⟨w.heap.size + 1, 2, none⟩ = some (.int .i64 t.a) := by rw [hW]; simp [go_sem]
  have t3 : W.cell? ⟨w.heap.size + 1, 3, none⟩ = some (.int .i64 t.b) := by rw [hW]; simp [go_sem]
  have t4 : W.cell? ⟨w.heap.size + 1, 4, none⟩ = some (.int .i64 t.c) := by rw [hW]; simp [go_sem]
  have t5 : W.cell? ⟨w.heap.size + 1, 5, none⟩ = some (.int .i64 t.d) := by rw [hW]; simp [go_sem]
  have r0 : W.cell? ⟨w.heap.size + 1 + 1, 0, none⟩ = some (.int .i64 0) := by rw [hW]; simp [go_sem]
  have r1 : W.cell? ⟨w.heap.size + 1 + 1, 1, none⟩ = some (.string ⟨#[]⟩) := by rw [hW]; simp [go_sem]
  have r2 : W.cell? ⟨w.heap.size + 1 + 1, 2, none⟩ = some (.int .i64 0) := by rw [hW]; simp [go_sem]
  have r3 : W.cell? ⟨w.heap.size + 1 + 1, 3, none⟩ = some (.int .i64 0) := by rw [hW]; simp [go_sem]
  have r4 : W.cell? ⟨w.heap.size + 1 + 1, 4, none⟩ = some (.int .i64 0) := by rw [hW]; simp [go_sem]
  have r5 : W.cell? ⟨w.heap.size + 1 + 1, 5, none⟩ = some (.int .i64 0) := by rw [hW]; simp [go_sem]
  have rf : ∀ j, W.frozen? ⟨w.heap.size + 1 + 1, j, none⟩ = false := fun j => by rw [hW]; simp [go_sem]
  have HC : Hid (∀ u, Below W.heap.size W u → u.cell? ⟨w.heap.size, 0, none⟩ = some (.string s) ∧ u.cell? ⟨w.heap.size, 1, none⟩ = some (.int .i64 (n : Int)) ∧ u.cell? ⟨w.heap.size, 2, none⟩ = some (.bool a) ∧ u.cell? ⟨w.heap.size, 3, none⟩ = some (.bool b) ∧ u.cell? ⟨w.heap.size + 1, 0, none⟩ = some (.int .i64 t.kind) ∧ u.cell? ⟨w.heap.size + 1, 1, none⟩ = some (.string t.name) ∧ u.cell? ⟨w.heap.size + 1, 2, none⟩ = some (.int .i64 t.a) ∧ u.cell? ⟨w.heap.size + 1, 3, none⟩ = some (.int .i64 t.b) ∧ u.cell? ⟨w.heap.size + 1, 4, none⟩ = some (.int .i64 t.c) ∧ u.cell? ⟨w.heap.size + 1, 5, none⟩ = some (.int .i64 t.d) ∧ u.cell? ⟨w.heap.size + 1 + 1, 0, none⟩ = some (.int .i64 0) ∧ u.cell? ⟨w.heap.size + 1 + 1, 1, none⟩ = some (.string ⟨#[]⟩) ∧ u.cell? ⟨w.heap.size + 1 + 1, 2, none⟩ = some (.int .i64 0) ∧ u.cell? ⟨w.heap.size + 1 + 1, 3, none⟩ = some (.int .i64 0) ∧ u.cell? ⟨w.heap.size + 1 + 1, 4, none⟩ = some (.int .i64 0) ∧ u.cell? ⟨w.heap.size + 1 + 1, 5, none⟩ = some (.int .i64 0) ∧ ∀ j, u.frozen? ⟨w.heap.size + 1 + 1, j, none⟩ = false) := fun u hu => ⟨cell_keep hu s0, cell_keep hu s1, cell_keep hu s2, cell_keep hu s3, cell_keep hu t0, cell_keep hu t1, cell_keep hu t2, cell_keep hu t3, cell_keep hu t4, cell_keep hu t5, cell_keep hu r0, cell_keep hu r1, cell_keep hu r2, cell_keep hu r3, cell_keep hu r4, cell_keep hu r5, fun j => by rw [(bcell hu).2 _ _ (by omega)]; exact rf j⟩
  clear hW rf hn s0 s1 s2 s3 t0 t1 t2 t3 t4 t5 r0 r1 r2 r3 r4 r5
  go_enter Tryz.func217, Tryz.ntmps217
  go_wp2_with fail
  rw [← HW.out]
  refine wp_region_facts (by kernel_rfl) 9 (fun v => Below W.heap.size W v) (fun u v => Below u.heap.size u v) (fun i v u => match i with | 0 => (fun v u => v = .pointer (some ⟨w.heap.size + 1, 0, none⟩)) v u | 1 => (fun v u => v = .int .i64 t.kind) v u | 2 => (fun v u => v = .pointer (some ⟨w.heap.size + 1, 2, none⟩)) v u | 3 => (fun v u => v = .agg #[.int .i64 t.a, .int .i64 t.b, .int .i64 t.c, .int .i64 t.d]) v u | 4 => (fun v u => v = .pointer (some ⟨w.heap.size, 1, none⟩)) v u | 5 => (fun v u => v = .int .i64 (n : Int)) v u | 6 => (fun v u => v = firV t.a t.b t.c t.d n) v u | 7 => (fun v u => v = onlV t ⟨#[]⟩ n) v u | 8 => (fun v u => ∃ x, v = .pointer (some ⟨x, 0, none⟩) ∧ BoxZo W.heap.size x u) v u | _ => True) (by kernel_rfl) [0, 1, 2, 3, 4, 5, 6, 7, 8] (by kernel_rfl) ?b0 ?bk ?fk ⟨?s0, ?s1, ?s2, ?s3, ?s4, ?s5, ?s6, ?s7, ?s8, trivial⟩ _ rfl [(0, some 6), (1, some 7), (2, some 8), (3, some 9), (4, some 10), (5, some 11), (6, some 12), (7, some 13), (8, some 5)] (by kernel_rfl) ?last
  case b0 => exact Below.drew (Below.refl _ _)
  case bk => exact fun u v h hb => h.trans (hb.mono h.size)
  case fk => intro i v u u' h hb; match i, h with | 0, h => exact (h) | 1, h => exact (h) | 2, h => exact (h) | 3, h => exact (h) | 4, h => exact (h) | 5, h => exact (h) | 6, h => exact (h) | 7, h => exact (h) | 8, h => exact (let ⟨x, e, o⟩ := h; ⟨x, e, o.below hb⟩) | _ + 9, _ => exact trivial
  case s0 =>
    refine StepF.of rfl [] (by kernel_rfl) ?_
    intro vs u hB hf K hK
    clear hf
    simp only [putsA, List.foldl_nil, Act.put, List.setIfInBounds_toArray] at hK ⊢
    rw [if_pos (by rfl)]
    go_simp
    exact hK.out _ _ (Below.refl _ _) rfl
  case s1 =>
    refine StepF.of rfl [(0, some 6)] (by kernel_rfl) ?_
    intro vs u hB hf K hK
    have f0 : (fun v u => v = .pointer (some ⟨w.heap.size + 1, 0, none⟩)) (vs 0) u := hf.1
    clear hf
    simp only [putsA, List.foldl_cons, List.foldl_nil, Act.put, List.setIfInBounds_toArray, List.set_cons_zero, List.set_cons_succ] at hK ⊢
    generalize vs 0 = v0 at f0 hK ⊢
    rw [if_pos (by rfl)]
    subst f0
    obtain ⟨s0, s1, s2, s3, t0, t1, t2, t3, t4, t5, r0, r1, r2, r3, r4, r5, rf⟩ := HC.out u hB
    go_simp
    exact hK.out _ _ (Below.refl _ _) rfl
  case s2 =>
    refine StepF.of rfl [] (by kernel_rfl) ?_
    intro vs u hB hf K hK
    clear hf
    simp only [putsA, List.foldl_nil, Act.put, List.setIfInBounds_toArray] at hK ⊢
    rw [if_pos (by rfl)]
    go_simp
    exact hK.out _ _ (Below.refl _ _) rfl
  case s3 =>
    refine StepF.of rfl [(2, some 8)] (by kernel_rfl) ?_
    intro vs u hB hf K hK
    have f2 : (fun v u => v = .pointer (some ⟨w.heap.size + 1, 2, none⟩)) (vs 2) u := hf.1
    clear hf
    simp only [putsA, List.foldl_cons, List.foldl_nil, Act.put, List.setIfInBounds_toArray, List.set_cons_zero, List.set_cons_succ] at hK ⊢
    generalize vs 2 = v2 at f2 hK ⊢
    rw [if_pos (by rfl)]
    subst f2
    obtain ⟨s0, s1, s2, s3, t0, t1, t2, t3, t4, t5, r0, r1, r2, r3, r4, r5, rf⟩ := HC.out u hB
    go_simp
    exact hK.out _ _ (Below.refl _ _) rfl
  case s4 =>
    refine StepF.of rfl [] (by kernel_rfl) ?_
    intro vs u hB hf K hK
    clear hf
    simp only [putsA, List.foldl_nil, Act.put, List.setIfInBounds_toArray] at hK ⊢
    rw [if_pos (by rfl)]
    go_simp
    exact hK.out _ _ (Below.refl _ _) rfl
  case s5 =>
    refine StepF.of rfl [(4, some 10)] (by kernel_rfl) ?_
    intro vs u hB hf K hK
    have f4 : (fun v u => v = .pointer (some ⟨w.heap.size, 1, none⟩)) (vs 4) u := hf.1
    clear hf
    simp only [putsA, List.foldl_cons, List.foldl_nil, Act.put, List.setIfInBounds_toArray, List.set_cons_zero, List.set_cons_succ] at hK ⊢
    generalize vs 4 = v4 at f4 hK ⊢
    rw [if_pos (by rfl)]
    subst f4
    obtain ⟨s0, s1, s2, s3, t0, t1, t2, t3, t4, t5, r0, r1, r2, r3, r4, r5, rf⟩ := HC.out u hB
    go_simp
    exact hK.out _ _ (Below.refl _ _) rfl
  case s6 =>
    refine StepF.of rfl [(3, some 9), (5, some 11)] (by kernel_rfl) ?_
    intro vs u hB hf K hK
    have f3 : (fun v u => v = .agg #[.int .i64 t.a, .int .i64 t.b, .int .i64 t.c, .int .i64 t.d]) (vs 3) u := hf.1
    have f5 : (fun v u => v = .int .i64 (n : Int)) (vs 5) u := hf.2.1
    clear hf
    simp only [putsA, List.foldl_cons, List.foldl_nil, Act.put, List.setIfInBounds_toArray, List.set_cons_zero, List.set_cons_succ] at hK ⊢
    generalize vs 3 = v3 at f3 hK ⊢
    generalize vs 5 = v5 at f5 hK ⊢
    rw [if_pos (by rfl)]
    subst f3 f5
    go_simp
    refine (HF.out _).mono ?_
    rintro e w4 ⟨rfl, b4⟩
    exact hK.out _ _ b4 rfl
  case s7 =>
    refine StepF.of rfl [(1, some 7), (6, some 12)] (by kernel_rfl) ?_
    intro vs u hB hf K hK
    have f1 : (fun v u => v = .int .i64 t.kind) (vs 1) u := hf.1
    have f6 : (fun v u => v = firV t.a t.b t.c t.d n) (vs 6) u := hf.2.1
    clear hf
    simp only [putsA, List.foldl_cons, List.foldl_nil, Act.put, List.setIfInBounds_toArray, List.set_cons_zero, List.set_cons_succ] at hK ⊢
    generalize vs 1 = v1 at f1 hK ⊢
    generalize vs 6 = v6 at f6 hK ⊢
    rw [if_pos (by rfl)]
    subst f1 f6
    go_simp
    exact hK.out _ _ (Below.refl _ _) rfl
  case s8 =>
    refine StepF.of rfl [] (by kernel_rfl) ?_
    intro vs u hB hf K hK
    clear hf
    simp only [putsA, List.foldl_nil, Act.put, List.setIfInBounds_toArray] at hK ⊢
    rw [if_pos (by rfl)]
    go_simp
    exact hK.out _ _ ((Below.refl _ _).alloc (Nat.le_refl _) _) ⟨_, rfl, hB.size, heap_alloc_new _ _⟩
  case last =>
    intro vs u hB hf K hK
    have f0 : (fun v u => v = .pointer (some ⟨w.heap.size + 1, 0, none⟩)) (vs 0) u := hf.1
    have f1 : (fun v u => v = .int .i64 t.kind) (vs 1) u := hf.2.1
    have f2 : (fun v u => v = .pointer (some ⟨w.heap.size + 1, 2, none⟩)) (vs 2) u := hf.2.2.1
    have f3 : (fun v u => v = .agg #[.int .i64 t.a, .int .i64 t.b, .int .i64 t.c, .int .i64 t.d]) (vs 3) u := hf.2.2.2.1
    have f4 : (fun v u => v = .pointer (some ⟨w.heap.size, 1, none⟩)) (vs 4) u := hf.2.2.2.2.1
    have f5 : (fun v u => v = .int .i64 (n : Int)) (vs 5) u := hf.2.2.2.2.2.1
    have f6 : (fun v u => v = firV t.a t.b t.c t.d n) (vs 6) u := hf.2.2.2.2.2.2.1
    have f7 : (fun v u => v = onlV t ⟨#[]⟩ n) (vs 7) u := hf.2.2.2.2.2.2.2.1
    have f8 : (fun v u => ∃ x, v = .pointer (some ⟨x, 0, none⟩) ∧ BoxZo W.heap.size x u) (vs 8) u := hf.2.2.2.2.2.2.2.2.1
    clear hf
    simp only [putsA, List.foldl_cons, List.foldl_nil, Act.put, List.setIfInBounds_toArray, List.set_cons_zero, List.set_cons_succ]
    generalize vs 0 = v0 at f0 ⊢
    generalize vs 1 = v1 at f1 ⊢
    generalize vs 2 = v2 at f2 ⊢
    generalize vs 3 = v3 at f3 ⊢
    generalize vs 4 = v4 at f4 ⊢
    generalize vs 5 = v5 at f5 ⊢
    generalize vs 6 = v6 at f6 ⊢
    generalize vs 7 = v7 at f7 ⊢
    generalize vs 8 = v8 at f8 ⊢
    rw [if_pos (by rfl)]
    subst f7
    obtain ⟨x, rfl, hx⟩ := f8
    clear f0 f1 f2 f3 f4 f5 f6
    obtain ⟨z0, z1, z2, z3, z4, z5, zf⟩ := hx.cells
    have hx1 := hx.1
    obtain ⟨s0, s1, s2, s3, t0, t1, t2, t3, t4, t5, r0, r1, r2, r3, r4, r5, rf⟩ := HC.out u hB
    go_simp
    refine hK.out _ _ ?_
    clear hK z0 z1 z2 z3 z4 z5 zf
    have hp := hx.put t.kind (if 1 ≤ n then t.a else 0) (if 2 ≤ n then t.b else 0) (if 3 ≤ n then t.c else 0) (if 4 ≤ n then t.d else 0)
    have n3 : x ≠ w.heap.size + 1 + 1 := by omega
    have n6 : w.heap.size + 1 + 1 ≠ x := by omega
    have n4 : w.heap.size ≠ x := by omega
    have n5 : w.heap.size + 1 ≠ x := by omega
    have HU0 : Hid (Below w.heap.size w u) := HBW.out.trans (hB.mono HBW.out.size)
    have hwx : w.heap.size ≤ x := by omega
    simp only at hp
    generalize ((((((u.setCell ⟨x, 0, none⟩ (.int .i64 t.kind)).setCell ⟨x, 1, none⟩ (.string ⟨#[]⟩)).setCell ⟨x, 2, none⟩ (.int .i64 (if 1 ≤ n then t.a else 0))).setCell ⟨x, 3, none⟩ (.int .i64 (if 2 ≤ n then t.b else 0))).setCell ⟨x, 4, none⟩ (.int .i64 (if 3 ≤ n then t.c else 0))).setCell ⟨x, 5, none⟩ (.int .i64 (if 4 ≤ n then t.d else 0))) = u1 at hp ⊢
    obtain ⟨y0, y1, y2, y3, y4, y5, yf, hg⟩ := hp
    have gr0 : u1.cell? ⟨w.heap.size + 1 + 1, 0, none⟩ = some (.int .i64 0) := hg.cell r0 (by simp; omega)
    have gr1 : u1.cell? ⟨w.heap.size + 1 + 1, 1, none⟩ = some (.string ⟨#[]⟩) := hg.cell r1 (by simp; omega)
    have gr2 : u1.cell? ⟨w.heap.size + 1 + 1, 2, none⟩ = some (.int .i64 0) := hg.cell r2 (by simp; omega)
    have gr3 : u1.cell? ⟨w.heap.size + 1 + 1, 3, none⟩ = some (.int .i64 0) := hg.cell r3 (by simp; omega)
    have gr4 : u1.cell? ⟨w.heap.size + 1 + 1, 4, none⟩ = some (.int .i64 0) := hg.cell r4 (by simp; omega)
    have gr5 : u1.cell? ⟨w.heap.size + 1 + 1, 5, none⟩ = some (.int .i64 0) := hg.cell r5 (by simp; omega)
    have gs2 : u1.cell? ⟨w.heap.size, 2, none⟩ = some (.bool a) := hg.cell s2 (by simp; omega)
    have gt1 : u1.cell? ⟨w.heap.size + 1, 1, none⟩ = some (.string t.name) := hg.cell t1 (by simp; omega)
    have hlr := lt_of_cell r0
    have grf : ∀ j, u1.frozen? ⟨w.heap.size + 1 + 1, j, none⟩ = false := fun j => by rw [World.frozen?_of_block (a := ⟨w.heap.size + 1 + 1, j, none⟩) (hg.block _ hlr (by simp; omega))]; exact rf j
    have HU : Hid (Below w.heap.size w u1) := HU0.out.trans (below_of_grown hg HU0.out.size (fun k hk => by have := Option.some.inj hk; omega))
    clear hg hB HC hx hx1 HU0 rf n4 n5 s0 s1 s2 s3 t0 t1 t2 t3 t4 t5 r0 r1 r2 r3 r4 r5
    obtain ⟨A0, hA0⟩ : ∃ A0, A0 = (if 1 ≤ n then t.a else 0) := ⟨_, rfl⟩
    obtain ⟨A1, hA1⟩ : ∃ A1, A1 = (if 2 ≤ n then t.b else 0) := ⟨_, rfl⟩
    obtain ⟨A2, hA2⟩ : ∃ A2, A2 = (if 3 ≤ n then t.c else 0) := ⟨_, rfl⟩
    obtain ⟨A3, hA3⟩ : ∃ A3, A3 = (if 4 ≤ n then t.d else 0) := ⟨_, rfl⟩
    have HO : Hid (∀ s, onlV t s n = .agg #[.int .i64 t.kind, .string s, .int .i64 A0, .int .i64 A1, .int .i64 A2, .int .i64 A3]) := fun s => by rw [hA0, hA1, hA2, hA3]
    rw [← hA0] at y2
    rw [← hA1] at y3
    rw [← hA2] at y4
    rw [← hA3] at y5
    clear hA0 hA1 hA2 hA3
    cases a with
    | true =>
      go_wp2
      exact bodyPost_ret (v := .agg #[.int .i64 t.kind, .string t.name, .int .i64 A0, .int .i64 A1, .int .i64 A2, .int .i64 A3]) (by simp [results, Tryz.results217, go_sem, gr0, gr1, gr2, gr3, gr4, gr5]) rfl ⟨by rw [HO.out], by repeat (first | refine Below.setCell ?_ (by simp <;> omega) _ | exact HU.out)⟩
    | false =>
      go_wp2
      exact bodyPost_ret (v := .agg #[.int .i64 t.kind, .string ⟨#[]⟩, .int .i64 A0, .int .i64 A1, .int .i64 A2, .int .i64 A3]) (by simp [results, Tryz.results217, go_sem, gr0, gr1, gr2, gr3, gr4, gr5]) rfl ⟨by rw [HO.out], by repeat (first | refine Below.setCell ?_ (by simp <;> omega) _ | exact HU.out)⟩
set_option maxRecDepth 100000 in
set_option maxHeartbeats 1000000 in
theorem areIn_any (a b c d : Int) (w : World) :
    Calls Tryz.prog 172 #[.agg #[.int .i64 a, .int .i64 b, .int .i64 c, .int .i64 d]] w fun e w' => e = .returned (.bool (!([a, b, c, d].any outN))) ∧ Below w.heap.size w w' := by
  obtain ⟨R, hR⟩ : ∃ R, R = (!([a, b, c, d].any outN)) := ⟨_, rfl⟩
  rw [← hR]
  have HR : Hid (R = (!([a, b, c, d].any outN))) := hR
  clear hR
  have ix0 : ∀ x, (Instr.index 182 (.agg #[.int .i64 a, .int .i64 b, .int .i64 c, .int .i64 d]) (.int .i64 0)).run Tryz.prog x = .ok (.int .i64 a) x := fun x => by kernel_rfl
  have ix1 : ∀ x, (Instr.index 182 (.agg #[.int .i64 a, .int .i64 b, .int .i64 c, .int .i64 d]) (.int .i64 1)).run Tryz.prog x = .ok (.int .i64 b) x := fun x => by kernel_rfl
  have ix2 : ∀ x, (Instr.index 182 (.agg #[.int .i64 a, .int .i64 b, .int .i64 c, .int .i64 d]) (.int .i64 2)).run Tryz.prog x = .ok (.int .i64 c) x := fun x => by kernel_rfl
  have ix3 : ∀ x, (Instr.index 182 (.agg #[.int .i64 a, .int .i64 b, .int .i64 c, .int .i64 d]) (.int .i64 3)).run Tryz.prog x = .ok (.int .i64 d) x := fun x => by kernel_rfl
  obtain ⟨W, hW⟩ : ∃ W, W = w.alloc (.cells #[.int .i64 a, .int .i64 b, .int .i64 c, .int .i64 d] 182) := ⟨_, rfl⟩
  have HW : Hid (W = w.alloc (.cells #[.int .i64 a, .int .i64 b, .int .i64 c, .int .i64 d] 182)) := hW
  have HB : Hid (Below w.heap.size w W) := by rw [hW]; exact (Below.refl _ _).alloc (Nat.le_refl _) _
  clear hW
  go_enter Tryz.func172, Tryz.ntmps172
  go_wp2_with fail
  rw [← HW.out]
  go_loopw [6] (fun i wr => ∃ j : Nat, j ≤ 4 ∧ i = .int .i64 (j : Int) ∧ Hid ([a, b, c, d].any outN = ([a, b, c, d].drop j).any outN) ∧ wr = W) (fun i _ => 4 - (RowKit.intOf i).toNat)
  case atStart => exact ⟨0, by omega, rfl, rfl, rfl⟩
  case round =>
    obtain ⟨j, hj, rfl, HJ, hw⟩ := hrel
    subst hw
    by_cases hlt : j < 4
    · obtain rfl | rfl | rfl | rfl : j = 0 ∨ j = 1 ∨ j = 2 ∨ j = 3 := by omega
      · cases hx : outN a
        · have HJ2 : Hid ([a, b, c, d].any outN = ([a, b, c, d].drop (0 + 1)).any outN) := by show _ = _; rw [HJ.out]; simp [hx]
          have q0 : ¬ (a < 0) := fun h => by simp [outN, h] at hx
          have q1 : ¬ (999 < a) := fun h => by simp [outN, h] at hx
          clear HJ hx
          go_wp2
          exact ⟨⟨0 + 1, by omega, by go_num, HJ2.out, by trivial⟩, by simp [RowKit.intOf]⟩
        · have HF : Hid (R = false) := by
            have e : [a, b, c, d].any outN = true := by rw [HJ.out]; simp [hx]
            show _ = _
            rw [HR.out, e]; rfl
          have q0 : a < 0 ∨ 999 < a := by simpa [outN] using hx
          clear HJ hx
          by_cases q1 : a < 0
          · go_wp2
            go_ret
            exact ⟨by rw [HF.out]; rfl, HB.out⟩
          · have q2 : 999 < a := by omega
            go_wp2
            go_ret
            exact ⟨by rw [HF.out]; rfl, HB.out⟩
      · cases hx : outN b
        · have HJ2 : Hid ([a, b, c, d].any outN = ([a, b, c, d].drop (1 + 1)).any outN) := by show _ = _; rw [HJ.out]; simp [hx]
          have q0 : ¬ (b < 0) := fun h => by simp [outN, h] at hx
          have q1 : ¬ (999 < b) := fun h => by simp [outN, h] at hx
          clear HJ hx
          go_wp2
          exact ⟨⟨1 + 1, by omega, by go_num, HJ2.out, by trivial⟩, by simp [RowKit.intOf]⟩
        · have HF : Hid (R = false) := by
            have e : [a, b, c, d].any outN = true := by rw [HJ.out]; simp [hx]
            show _ = _
            rw [HR.out, e]; rfl
          have q0 : b < 0 ∨ 999 < b := by simpa [outN] using hx
          clear HJ hx
          by_cases q1 : b < 0
          · go_wp2
            go_ret
            exact ⟨by rw [HF.out]; rfl, HB.out⟩
          · have q2 : 999 < b := by omega
            go_wp2
            go_ret
            exact ⟨by rw [HF.out]; rfl, HB.out⟩
      · cases hx : outN c
        · have HJ2 : Hid ([a, b, c, d].any outN = ([a, b, c, d].drop (2 + 1)).any outN) := by show _ = _; rw [HJ.out]; simp [hx]
          have q0 : ¬ (c < 0) := fun h => by simp [outN, h] at hx
          have q1 : ¬ (999 < c) := fun h => by simp [outN, h] at hx
          clear HJ hx
          go_wp2
          exact ⟨⟨2 + 1, by omega, by go_num, HJ2.out, by trivial⟩, by simp [RowKit.intOf]⟩
        · have HF : Hid (R = false) := by
            have e : [a, b, c, d].any outN = true := by rw [HJ.out]; simp [hx]
            show _ = _
            rw [HR.out, e]; rfl
          have q0 : c < 0 ∨ 999 < c := by simpa [outN] using hx
          clear HJ hx
          by_cases q1 : c < 0
          · go_wp2
            go_ret
            exact ⟨by rw [HF.out]; rfl, HB.out⟩
          · have q2 : 999 < c := by omega
            go_wp2
            go_ret
            exact ⟨by rw [HF.out]; rfl, HB.out⟩
      · cases hx : outN d
        · have HJ2 : Hid ([a, b, c, d].any outN = ([a, b, c, d].drop (3 + 1)).any outN) := by show _ = _; rw [HJ.out]; simp [hx]
          have q0 : ¬ (d < 0) := fun h => by simp [outN, h] at hx
          have q1 : ¬ (999 < d) := fun h => by simp [outN, h] at hx
          clear HJ hx
          go_wp2
          exact ⟨⟨3 + 1, by omega, by go_num, HJ2.out, by trivial⟩, by simp [RowKit.intOf]⟩
        · have HF : Hid (R = false) := by
            have e : [a, b, c, d].any outN = true := by rw [HJ.out]; simp [hx]
            show _ = _
            rw [HR.out, e]; rfl
          have q0 : d < 0 ∨ 999 < d := by simpa [outN] using hx
          clear HJ hx
          by_cases q1 : d < 0
          · go_wp2
            go_ret
            exact ⟨by rw [HF.out]; rfl, HB.out⟩
          · have q2 : 999 < d := by omega
            go_wp2
            go_ret
            exact ⟨by rw [HF.out]; rfl, HB.out⟩
    · have HF : Hid (R = true) := by
        have : j = 4 := by omega
        subst this
        show _ = _
        rw [HR.out, HJ.out]; rfl
      clear HJ
      go_wp2
      go_ret
      exact ⟨by rw [HF.out]; rfl, HB.out⟩
set_option maxRecDepth 100000 in
theorem hasArgs_any (t : Opr) (w : World) :
    Calls Tryz.prog 173 #[t.num] w fun e w' => e = .returned (.bool (t.kind == 10 || t.kind == 11)) ∧ Below w.heap.size w w' := by
  cases k10 : (t.kind == 10) <;> cases k11 : (t.kind == 11)
  all_goals
    go_enter Tryz.func173, Tryz.ntmps173
    go_wp2
    go_ret
    exact ⟨rfl, by repeat (first | exact Below.refl _ _ | refine Below.setCell ?_ (by simp <;> omega) _ | refine Below.drew ?_ | refine Below.alloc ?_ (by simp <;> omega) _)⟩
def onlO (t : Opr) : Opr := ⟨t.kind, if 1 ≤ numsO t.kind then t.a else 0, if 2 ≤ numsO t.kind then t.b else 0, if 3 ≤ numsO t.kind then t.c else 0, if 4 ≤ numsO t.kind then t.d else 0, if namedO t.kind then t.name else ⟨#[]⟩, []⟩
theorem toList_nil (s : ByteArray) : (s.toList == ([] : List UInt8)) = !(decide (0 < s.size)) := by
  rw [ByteArray.toList_eq]
  obtain ⟨⟨x⟩⟩ := s
  cases x with
  | nil => rfl
  | cons a r => simp [ByteArray.size]
theorem numsO_le4 (k : Int) : numsO k ≤ 4 := by
  unfold numsO
  repeat (first | (split; (first | omega | skip)) | omega)
theorem eqN_only (t : Opr) : eqNB t (onlO t) = (!(extraN t) && (namedO t.kind || !(decide (0 < t.name.size)))) := by
  have h4 := numsO_le4 t.kind
  have hnm : (t.name.toList == (onlO t).name.toList) = (namedO t.kind || !(decide (0 < t.name.size))) := by
    show (t.name.toList == (if namedO t.kind then t.name else (⟨#[]⟩ : ByteArray)).toList) = _
    cases namedO t.kind
    · rw [if_neg (by decide), show (⟨#[]⟩ : ByteArray).toList = [] by rw [ByteArray.toList_eq], toList_nil]; rfl
    · simp
  unfold eqNB extraN
  rw [hnm]
  generalize (namedO t.kind || !(decide (0 < t.name.size))) = nb
  have hk : (t.kind == (onlO t).kind) = true := by simp [onlO]
  rw [hk]
  show (true && (nb && (t.a == (if 1 ≤ numsO t.kind then t.a else 0) && (t.b == (if 2 ≤ numsO t.kind then t.b else 0) && (t.c == (if 3 ≤ numsO t.kind then t.c else 0) && t.d == (if 4 ≤ numsO t.kind then t.d else 0)))))) = _
  generalize numsO t.kind = n at h4 ⊢
  have hn : ∀ x : Int, (x != 0) = !(x == 0) := fun x => rfl
  obtain rfl | rfl | rfl | rfl | rfl : n = 0 ∨ n = 1 ∨ n = 2 ∨ n = 3 ∨ n = 4 := by omega
  all_goals
    simp [numsL, hn]
    try (cases nb <;> cases (t.a == 0) <;> cases (t.b == 0) <;> cases (t.c == 0) <;> cases (t.d == 0) <;> rfl)
structure OBx (u : World) (b : Nat) (t : Opr) (v : Value) : Prop where
  c0 : u.cell? ⟨b, 0, none⟩ = some (.int .i64 t.kind)
  c1 : u.cell? ⟨b, 1, none⟩ = some (.int .i64 t.a)
  c2 : u.cell? ⟨b, 2, none⟩ = some (.int .i64 t.b)
  c3 : u.cell? ⟨b, 3, none⟩ = some (.int .i64 t.c)
  c4 : u.cell? ⟨b, 4, none⟩ = some (.int .i64 t.d)
  c5 : u.cell? ⟨b, 5, none⟩ = some (.string t.name)
  c6 : u.cell? ⟨b, 6, none⟩ = some v
theorem OBx.below {u u' : World} {b : Nat} {t : Opr} {v : Value} (h : OBx u b t v) (hb : Below u.heap.size u u') : OBx u' b t v := ⟨cell_keep hb h.c0, cell_keep hb h.c1, cell_keep hb h.c2, cell_keep hb h.c3, cell_keep hb h.c4, cell_keep hb h.c5, cell_keep hb h.c6⟩
structure SBx (u : World) (b : Nat) (s : ByteArray) (n : Nat) (x y : Bool) : Prop where
  c0 : u.cell? ⟨b, 0, none⟩ = some (.string s)
  c1 : u.cell? ⟨b, 1, none⟩ = some (.int .i64 (n : Int))
  c2 : u.cell? ⟨b, 2, none⟩ = some (.bool x)
  c3 : u.cell? ⟨b, 3, none⟩ = some (.bool y)
theorem SBx.below {u u' : World} {b : Nat} {s : ByteArray} {n : Nat} {x y : Bool} (h : SBx u b s n x y) (hb : Below u.heap.size u u') : SBx u' b s n x y := ⟨cell_keep hb h.c0, cell_keep hb h.c1, cell_keep hb h.c2, cell_keep hb h.c3⟩
structure NBx (u : World) (b : Nat) (t : Opr) : Prop where
  c0 : u.cell? ⟨b, 0, none⟩ = some (.int .i64 t.kind)
  c1 : u.cell? ⟨b, 1, none⟩ = some (.string t.name)
  c2 : u.cell? ⟨b, 2, none⟩ = some (.int .i64 t.a)
  c3 : u.cell? ⟨b, 3, none⟩ = some (.int .i64 t.b)
  c4 : u.cell? ⟨b, 4, none⟩ = some (.int .i64 t.c)
  c5 : u.cell? ⟨b, 5, none⟩ = some (.int .i64 t.d)
theorem NBx.below {u u' : World} {b : Nat} {t : Opr} (h : NBx u b t) (hb : Below u.heap.size u u') : NBx u' b t := ⟨cell_keep hb h.c0, cell_keep hb h.c1, cell_keep hb h.c2, cell_keep hb h.c3, cell_keep hb h.c4, cell_keep hb h.c5⟩
theorem newO (u : World) (t : Opr) (v : Value) (T : TypeId) : OBx (u.alloc (.cells #[.int .i64 t.kind, .int .i64 t.a, .int .i64 t.b, .int .i64 t.c, .int .i64 t.d, .string t.name, v] T)) u.heap.size t v := ⟨by rw [World.cell?_alloc_at _ _ _ _ rfl]; rfl, by rw [World.cell?_alloc_at _ _ _ _ rfl]; rfl, by rw [World.cell?_alloc_at _ _ _ _ rfl]; rfl, by rw [World.cell?_alloc_at _ _ _ _ rfl]; rfl, by rw [World.cell?_alloc_at _ _ _ _ rfl]; rfl, by rw [World.cell?_alloc_at _ _ _ _ rfl]; rfl, by rw [World.cell?_alloc_at _ _ _ _ rfl]; rfl⟩
theorem newS (u : World) (s : ByteArray) (n : Nat) (x y : Bool) (T : TypeId) : SBx (u.alloc (.cells #[.string s, .int .i64 (n : Int), .bool x, .bool y] T)) u.heap.size s n x y := ⟨by rw [World.cell?_alloc_at _ _ _ _ rfl]; rfl, by rw [World.cell?_alloc_at _ _ _ _ rfl]; rfl, by rw [World.cell?_alloc_at _ _ _ _ rfl]; rfl, by rw [World.cell?_alloc_at _ _ _ _ rfl]; rfl⟩
theorem newN (u : World) (t : Opr) (T : TypeId) : NBx (u.alloc (.cells #[.int .i64 t.kind, .string t.name, .int .i64 t.a, .int .i64 t.b, .int .i64 t.c, .int .i64 t.d] T)) u.heap.size t := ⟨by rw [World.cell?_alloc_at _ _ _ _ rfl]; rfl, by rw [World.cell?_alloc_at _ _ _ _ rfl]; rfl, by rw [World.cell?_alloc_at _ _ _ _ rfl]; rfl, by rw [World.cell?_alloc_at _ _ _ _ rfl]; rfl, by rw [World.cell?_alloc_at _ _ _ _ rfl]; rfl, by rw [World.cell?_alloc_at _ _ _ _ rfl]; rfl⟩
theorem bnew (u : World) (o : Obj) : Below u.heap.size u (u.alloc o) := (Below.refl _ _).alloc (Nat.le_refl _) _
set_option maxRecDepth 100000 in
set_option maxHeartbeats 2000000 in
theorem fits_any (t : Opr) (s : ByteArray) (ao : Option Addr) (cap : Nat) (w : World) :
    Calls Tryz.prog 171 #[shpV s (numsO t.kind) (namedO t.kind) (constO t.kind), t.val (.slice ao t.data.length cap)] w fun e w' => e = .returned (.bool (!(extraN t || extraT t))) ∧ Below w.heap.size w w' := by
  have HO : Hid (∀ x, Calls Tryz.prog 120 #[t.val (.slice ao t.data.length cap)] x fun e w' => e = .returned t.num ∧ Below x.heap.size x w') := fun x => operationOf_any t _ x
  have HN : Hid (∀ x, Calls Tryz.prog 217 #[shpV s (numsO t.kind) (namedO t.kind) (constO t.kind), t.num] x fun e w' => e = .returned (onlO t).num ∧ Below x.heap.size x w') := fun x => only_any t s (numsO t.kind) (namedO t.kind) (constO t.kind) x (numsO_le4 _)
  have hq := fun x => eqNum t (onlO t) x
  rw [eqN_only] at hq
  obtain ⟨R, hR⟩ : ∃ R, R = (!(extraN t || extraT t)) := ⟨_, rfl⟩
  obtain ⟨r, hr⟩ : ∃ r, r = (!(extraN t) && (namedO t.kind || !(decide (0 < t.name.size)))) := ⟨_, rfl⟩
  have HR : Hid (R = (r && (constO t.kind || !(decide (0 < t.data.length))))) := by
    show _ = _
    rw [hR, hr]
    unfold extraT
    cases extraN t <;> cases namedO t.kind <;> cases constO t.kind <;> cases decide (0 < t.name.size) <;> cases decide (0 < t.data.length) <;> rfl
  rw [← hR]
  rw [← hr] at hq
  clear hR hr
  obtain ⟨n, hn⟩ : ∃ n, n = numsO t.kind := ⟨_, rfl⟩
  obtain ⟨na, hna⟩ : ∃ na, na = namedO t.kind := ⟨_, rfl⟩
  obtain ⟨co, hco⟩ : ∃ co, co = constO t.kind := ⟨_, rfl⟩
  rw [← hn, ← hna, ← hco] at HN ⊢
  rw [← hco] at HR
  clear hn hna hco
  obtain ⟨W, hW⟩ : ∃ W, W = (w.alloc (.cells #[.string s, .int .i64 (n : Int), .bool na, .bool co] 247)).alloc (.cells #[.int .i64 t.kind, .int .i64 t.a, .int .i64 t.b, .int .i64 t.c, .int .i64 t.d, .string t.name, .slice ao t.data.length cap] 100) := ⟨_, rfl⟩
  have HW : Hid (W = (w.alloc (.cells #[.string s, .int .i64 (n : Int), .bool na, .bool co] 247)).alloc (.cells #[.int .i64 t.kind, .int .i64 t.a, .int .i64 t.b, .int .i64 t.c, .int .i64 t.d, .string t.name, .slice ao t.data.length cap] 100)) := hW
  have HBW : Hid (Below w.heap.size w W) := by rw [hW]; exact ((Below.refl _ _).alloc (Nat.le_refl _) _).alloc (by simp) _
  have HS : Hid (SBx W w.heap.size s n na co) := by rw [hW]; exact (newS w s n na co _).below (bnew _ _)
  have HOb : Hid (OBx W (w.heap.size + 1) t (.slice ao t.data.length cap)) := by rw [hW]; have := newO (w.alloc (.cells #[.string s, .int .i64 (n : Int), .bool na, .bool co] 247)) t (.slice ao t.data.length cap) 100; rw [World.size_alloc] at this; exact this
  clear hW
  go_enter Tryz.func171, Tryz.ntmps171
  go_wp2_with fail
  rw [← HW.out]
  refine (HO.out _).mono ?_
  rintro e w1 ⟨rfl, b1⟩
  have HS1 : Hid (SBx (w1.alloc (.cells #[.int .i64 t.kind, .string t.name, .int .i64 t.a, .int .i64 t.b, .int .i64 t.c, .int .i64 t.d] 184)) w.heap.size s n na co) := (HS.out.below b1).below (bnew _ _)
  have HO1 : Hid (OBx (w1.alloc (.cells #[.int .i64 t.kind, .string t.name, .int .i64 t.a, .int .i64 t.b, .int .i64 t.c, .int .i64 t.d] 184)) (w.heap.size + 1) t (.slice ao t.data.length cap)) := (HOb.out.below b1).below (bnew _ _)
  have HB1 : Hid (Below w.heap.size w (w1.alloc (.cells #[.int .i64 t.kind, .string t.name, .int .i64 t.a, .int .i64 t.b, .int .i64 t.c, .int .i64 t.d] 184))) := (HBW.out.trans (b1.mono HBW.out.size)).alloc (Nat.le_trans HBW.out.size b1.size) _
  have HN1 : Hid (NBx (w1.alloc (.cells #[.int .i64 t.kind, .string t.name, .int .i64 t.a, .int .i64 t.b, .int .i64 t.c, .int .i64 t.d] 184)) w1.heap.size t) := newN w1 t _
  clear b1 HS HOb HBW HW
  go_wp2_with fail
  generalize w1.alloc (.cells #[.int .i64 t.kind, .string t.name, .int .i64 t.a, .int .i64 t.b, .int .i64 t.c, .int .i64 t.d] 184) = X at HS1 HO1 HB1 HN1 ⊢
  have s0 : ∀ p : BW X, p.x.cell? ⟨w.heap.size, 0, none⟩ = some (.string s) := fun p => p.cell HS1.out.c0
  have s1 : ∀ p : BW X, p.x.cell? ⟨w.heap.size, 1, none⟩ = some (.int .i64 (n : Int)) := fun p => p.cell HS1.out.c1
  have s2 : ∀ p : BW X, p.x.cell? ⟨w.heap.size, 2, none⟩ = some (.bool na) := fun p => p.cell HS1.out.c2
  have s3 : ∀ p : BW X, p.x.cell? ⟨w.heap.size, 3, none⟩ = some (.bool co) := fun p => p.cell HS1.out.c3
  have n0 : ∀ p : BW X, p.x.cell? ⟨w1.heap.size, 0, none⟩ = some (.int .i64 t.kind) := fun p => p.cell HN1.out.c0
  have n1 : ∀ p : BW X, p.x.cell? ⟨w1.heap.size, 1, none⟩ = some (.string t.name) := fun p => p.cell HN1.out.c1
  have n2 : ∀ p : BW X, p.x.cell? ⟨w1.heap.size, 2, none⟩ = some (.int .i64 t.a) := fun p => p.cell HN1.out.c2
  have n3 : ∀ p : BW X, p.x.cell? ⟨w1.heap.size, 3, none⟩ = some (.int .i64 t.b) := fun p => p.cell HN1.out.c3
  have n4 : ∀ p : BW X, p.x.cell? ⟨w1.heap.size, 4, none⟩ = some (.int .i64 t.c) := fun p => p.cell HN1.out.c4
  have n5 : ∀ p : BW X, p.x.cell? ⟨w1.heap.size, 5, none⟩ = some (.int .i64 t.d) := fun p => p.cell HN1.out.c5
  have o6 : ∀ p : BW X, p.x.cell? ⟨w.heap.size + 1, 6, none⟩ = some (.slice ao t.data.length cap) := fun p => p.cell HO1.out.c6
  have hne := bw_some X
  have HNp : Hid (∀ p : BW X, Calls Tryz.prog 217 #[shpV s n na co, t.num] p.x fun e w' => e = .returned (onlO t).num ∧ Below p.x.heap.size p.x w') := fun p => HN.out p.x
  have hl0 : ((t.data.length : Int) == 0) = !(decide (0 < t.data.length)) := by
    rcases Nat.eq_zero_or_pos t.data.length with e | e
    · simp [e]
    · have h1 : ((t.data.length : Int) == 0) = false := by rw [beq_eq_false_iff_ne]; omega
      rw [h1]; simp [e]
  clear HN HS1 HO1 HN1
  cases hd : decide (0 < t.data.length) <;> cases r <;> cases co
  all_goals
    rw [hd] at hl0 HR
    clear hd
    refine wp_region_below (by kernel_rfl) (by kernel_rfl) ?_
    repeat (go_big_quiet_step ((go_at_call 217; exact calls_bw (HNp.out _))))
    refine wpQuiet_nil ?_
    intro wq hw'
    obtain ⟨⟨_, bq⟩, rfl⟩ := hw'
    have HB2 : Hid (Below w.heap.size w wq) := HB1.out.trans (bq.mono HB1.out.size)
    clear bq hne s0 s1 s2 s3 n0 n1 n2 n3 n4 n5 o6
    go_wp2
    go_ret
    exact ⟨by rw [show R = _ from HR.out]; rfl, HB2.out⟩
set_option maxRecDepth 100000 in
set_option maxHeartbeats 4000000 in
theorem implOF_any (t : Opr) (gk cap B : Nat) (w : World) (ht : t.small) (hd : IsD w B gk cap t.data) (hL : LT w) :
    Calls Tryz.prog 136 #[t.val (.slice (some ⟨gk, 0, none⟩) t.data.length cap)] w fun e w' => e = .returned (.int .i64 (opFault t)) ∧ Below w.heap.size w w' := by
  have HSh : Hid (∀ x, Calls Tryz.prog 168 #[.int .i64 t.kind] x fun e w' => e = .returned (.tuple #[shpV (wordO t.kind) (numsO t.kind) (namedO t.kind) (constO t.kind), .bool (inO t.kind)]) ∧ Below x.heap.size x w') := fun x => shapeOf_any t.kind x
  have HFi : Hid (∀ x, Calls Tryz.prog 171 #[shpV (wordO t.kind) (numsO t.kind) (namedO t.kind) (constO t.kind), t.val (.slice (some ⟨gk, 0, none⟩) t.data.length cap)] x fun e w' => e = .returned (.bool (!(extraN t || extraT t))) ∧ Below x.heap.size x w') := fun x => fits_any t _ _ _ x
  have HOp : Hid (∀ x, Calls Tryz.prog 120 #[t.val (.slice (some ⟨gk, 0, none⟩) t.data.length cap)] x fun e w' => e = .returned t.num ∧ Below x.heap.size x w') := fun x => operationOf_any t _ x
  have HIn : Hid (∀ x, Calls Tryz.prog 172 #[.agg #[.int .i64 t.a, .int .i64 t.b, .int .i64 t.c, .int .i64 t.d]] x fun e w' => e = .returned (.bool (!(outO t))) ∧ Below x.heap.size x w') := fun x => areIn_any t.a t.b t.c t.d x
  have HAr : Hid (∀ x, Calls Tryz.prog 173 #[t.num] x fun e w' => e = .returned (.bool (t.kind == 10 || t.kind == 11)) ∧ Below x.heap.size x w') := fun x => hasArgs_any t x
  have HSy : Hid (∀ x, Calls Tryz.prog 174 #[.string t.name] x fun e w' => e = .returned (.bool (symL t.name.data.toList)) ∧ w' = x) := fun x => isSym_any t.name x (by have := ht.name; omega)
  have HDa : Hid (∀ x, Below w.heap.size w x → Calls Tryz.prog 175 #[.slice (some ⟨gk, 0, none⟩) t.data.length cap] x fun e w' => e = .returned (.int .i64 (dataFault t.data)) ∧ Below x.heap.size x w') := fun x hx => implDF_any _ _ B t.data x (hd.below hx) ht.names (hL.below hx)
  obtain ⟨R, hR⟩ : ∃ R, R = opFault t := ⟨_, rfl⟩
  rw [← hR]
  have HR : Hid (R = opFault t) := hR
  clear hR ht hd hL
  obtain ⟨sw, hsw⟩ : ∃ sw, sw = wordO t.kind := ⟨_, rfl⟩
  obtain ⟨n, hn⟩ : ∃ n, n = numsO t.kind := ⟨_, rfl⟩
  obtain ⟨na, hna⟩ : ∃ na, na = namedO t.kind := ⟨_, rfl⟩
  obtain ⟨co, hco⟩ : ∃ co, co = constO t.kind := ⟨_, rfl⟩
  obtain ⟨ok, hok⟩ : ∃ ok, ok = inO t.kind := ⟨_, rfl⟩
  obtain ⟨ff, hff⟩ : ∃ ff, ff = (!(extraN t || extraT t)) := ⟨_, rfl⟩
  rw [← hsw, ← hn, ← hna, ← hco] at HSh HFi
  rw [← hok] at HSh
  rw [← hff] at HFi
  have HK : Hid (R = (if ok then (if ff then (if outO t then 3 else if manyO t then 3 else if na && !(symL t.name.data.toList) then 5 else if co then dataFault t.data else 0) else 1) else 1)) := by
    show _ = _
    rw [HR.out, hok, hff, hna, hco]
    unfold opFault inO
    cases (decide (1 ≤ t.kind) && decide (t.kind ≤ 16))
    · rfl
    · cases extraN t <;> cases extraT t <;> rfl
  clear HR hsw hn hna hco hok hff
  obtain ⟨W, hW⟩ : ∃ W, W = w.alloc (.cells #[.int .i64 t.kind, .int .i64 t.a, .int .i64 t.b, .int .i64 t.c, .int .i64 t.d, .string t.name, .slice (some ⟨gk, 0, none⟩) t.data.length cap] 100) := ⟨_, rfl⟩
  have HW : Hid (W = w.alloc (.cells #[.int .i64 t.kind, .int .i64 t.a, .int .i64 t.b, .int .i64 t.c, .int .i64 t.d, .string t.name, .slice (some ⟨gk, 0, none⟩) t.data.length cap] 100)) := hW
  have HB0 : Hid (Below w.heap.size w W) := by rw [hW]; exact bnew _ _
  have HO0 : Hid (OBx W w.heap.size t (.slice (some ⟨gk, 0, none⟩) t.data.length cap)) := by rw [hW]; exact newO _ _ _ _
  have c0 := HO0.out.c0
  clear hW
  go_enter Tryz.func136, Tryz.ntmps136
  go_wp2_with fail
  rw [← HW.out]
  refine (HSh.out _).mono ?_
  rintro e w1 ⟨rfl, b1⟩
  have HB1 : Hid (Below w.heap.size w w1) := HB0.out.trans (b1.mono HB0.out.size)
  have HO1 : Hid (OBx w1 w.heap.size t (.slice (some ⟨gk, 0, none⟩) t.data.length cap)) := HO0.out.below b1
  clear b1 c0 HB0 HO0 HW HSh
  cases ok
  · go_wp2
    go_ret
    exact ⟨by rw [show R = _ from HK.out]; rfl, HB1.out.alloc HB1.out.size _⟩
  have HK1 : Hid (R = (if ff then (if outO t then 3 else if manyO t then 3 else if na && !(symL t.name.data.toList) then 5 else if co then dataFault t.data else 0) else 1)) := HK.out
  have HO1' : Hid (OBx (w1.alloc (.cells #[.string sw, .int .i64 (n : Int), .bool na, .bool co] 247)) w.heap.size t (.slice (some ⟨gk, 0, none⟩) t.data.length cap)) := HO1.out.below (bnew _ _)
  have HS1' : Hid (SBx (w1.alloc (.cells #[.string sw, .int .i64 (n : Int), .bool na, .bool co] 247)) w1.heap.size sw n na co) := newS _ _ _ _ _ _
  have HB1' : Hid (Below w.heap.size w (w1.alloc (.cells #[.string sw, .int .i64 (n : Int), .bool na, .bool co] 247))) := HB1.out.alloc HB1.out.size _
  clear HK
  have o0 := HO1'.out.c0
  have o1 := HO1'.out.c1
  have o2 := HO1'.out.c2
  have o3 := HO1'.out.c3
  have o4 := HO1'.out.c4
  have o5 := HO1'.out.c5
  have o6 := HO1'.out.c6
  go_wp2_with fail
  clear o0 o1 o2 o3 o4 o5 o6
  generalize w1.alloc (.cells #[.string sw, .int .i64 (n : Int), .bool na, .bool co] 247) = X1 at HO1' HS1' HB1' ⊢
  refine (HFi.out _).mono ?_
  rintro e w2 ⟨rfl, b2⟩
  have HO2 : Hid (OBx w2 w.heap.size t (.slice (some ⟨gk, 0, none⟩) t.data.length cap)) := HO1'.out.below b2
  have HS2 : Hid (SBx w2 w1.heap.size sw n na co) := HS1'.out.below b2
  have HB2 : Hid (Below w.heap.size w w2) := HB1'.out.trans (b2.mono HB1'.out.size)
  clear b2 HO1' HS1' HB1' HO1 HB1 HFi
  cases ff
  · go_wp2
    go_ret
    exact ⟨by rw [show R = _ from HK1.out]; rfl, HB2.out⟩
  have HK2 : Hid (R = (if outO t then 3 else if manyO t then 3 else if na && !(symL t.name.data.toList) then 5 else if co then dataFault t.data else 0)) := HK1.out
  clear HK1
  have o0 := HO2.out.c0
  have o1 := HO2.out.c1
  have o2 := HO2.out.c2
  have o3 := HO2.out.c3
  have o4 := HO2.out.c4
  have o5 := HO2.out.c5
  have o6 := HO2.out.c6
  go_wp2_with fail
  clear o0 o1 o2 o3 o4 o5 o6
  refine (HOp.out _).mono ?_
  rintro e w3 ⟨rfl, b3⟩
  have HO3 : Hid (OBx (w3.alloc (.cells #[.int .i64 t.kind, .string t.name, .int .i64 t.a, .int .i64 t.b, .int .i64 t.c, .int .i64 t.d] 184)) w.heap.size t (.slice (some ⟨gk, 0, none⟩) t.data.length cap)) := (HO2.out.below b3).below (bnew _ _)
  have HS3 : Hid (SBx (w3.alloc (.cells #[.int .i64 t.kind, .string t.name, .int .i64 t.a, .int .i64 t.b, .int .i64 t.c, .int .i64 t.d] 184)) w1.heap.size sw n na co) := (HS2.out.below b3).below (bnew _ _)
  have HB3 : Hid (Below w.heap.size w (w3.alloc (.cells #[.int .i64 t.kind, .string t.name, .int .i64 t.a, .int .i64 t.b, .int .i64 t.c, .int .i64 t.d] 184))) := (HB2.out.trans (b3.mono HB2.out.size)).alloc (Nat.le_trans HB2.out.size b3.size) _
  have HN3 : Hid (NBx (w3.alloc (.cells #[.int .i64 t.kind, .string t.name, .int .i64 t.a, .int .i64 t.b, .int .i64 t.c, .int .i64 t.d] 184)) w3.heap.size t) := newN _ _ _
  clear b3 HO2 HS2 HB2 HOp
  go_wp2_with fail
  generalize w3.alloc (.cells #[.int .i64 t.kind, .string t.name, .int .i64 t.a, .int .i64 t.b, .int .i64 t.c, .int .i64 t.d] 184) = X3 at HO3 HS3 HB3 HN3 ⊢
  refine (HIn.out _).mono ?_
  rintro e w4 ⟨rfl, b4⟩
  have HO4 : Hid (OBx w4 w.heap.size t (.slice (some ⟨gk, 0, none⟩) t.data.length cap)) := HO3.out.below b4
  have HS4 : Hid (SBx w4 w1.heap.size sw n na co) := HS3.out.below b4
  have HB4 : Hid (Below w.heap.size w w4) := HB3.out.trans (b4.mono HB3.out.size)
  have HN4 : Hid (NBx w4 w3.heap.size t) := HN3.out.below b4
  clear b4 HO3 HS3 HB3 HN3 HIn
  obtain ⟨ou, hou⟩ : ∃ ou, ou = outO t := ⟨_, rfl⟩
  rw [← hou] at HK2 ⊢
  clear hou
  cases ou
  case true =>
    go_wp2
    go_ret
    exact ⟨by rw [show R = _ from HK2.out]; rfl, HB4.out⟩
  have HK3 : Hid (R = (if manyO t then 3 else if na && !(symL t.name.data.toList) then 5 else if co then dataFault t.data else 0)) := HK2.out
  clear HK2
  have k0 := HN4.out.c0
  have k1 := HN4.out.c1
  have k2 := HN4.out.c2
  have k3 := HN4.out.c3
  have k4 := HN4.out.c4
  have k5 := HN4.out.c5
  go_wp2_with fail
  clear k0 k1 k2 k3 k4 k5
  refine (HAr.out _).mono ?_
  rintro e w5 ⟨rfl, b5⟩
  have HO5 : Hid (OBx w5 w.heap.size t (.slice (some ⟨gk, 0, none⟩) t.data.length cap)) := HO4.out.below b5
  have HS5 : Hid (SBx w5 w1.heap.size sw n na co) := HS4.out.below b5
  have HB5 : Hid (Below w.heap.size w w5) := HB4.out.trans (b5.mono HB4.out.size)
  have HN5 : Hid (NBx w5 w3.heap.size t) := HN4.out.below b5
  clear b5 HO4 HS4 HB4 HN4 HAr
  have k2 := HN5.out.c2
  have o5 := HO5.out.c5
  have o6 := HO5.out.c6
  have s2 := HS5.out.c2
  have s3 := HS5.out.c3
  have HV : Hid (manyO t = ((t.kind == 10 || t.kind == 11) && decide (3 < t.a))) := rfl
  cases ha : (t.kind == 10 || t.kind == 11) <;> cases h3 : decide (3 < t.a) <;> cases na <;> cases co <;> cases sy : symL t.name.data.toList
  all_goals
    have HV2 : Hid (manyO t = ((t.kind == 10 || t.kind == 11) && decide (3 < t.a))) := HV.out
    rw [ha, h3] at HV2
    rw [show manyO t = _ from HV2.out, sy] at HK3
    first | (have h3p : 3 < t.a := of_decide_eq_true h3) | (have h3p : ¬ (3 < t.a) := of_decide_eq_false h3)
    clear HV HV2 ha h3
    go_wp2_with (first | (go_at_call 174; refine (HSy.out _).mono ?_; rintro e w' ⟨rfl, hw'⟩; replace hw' := hw'.symm; subst hw'; rw [sy]) | (go_at_call 175; refine (HDa.out _ HB5.out).mono ?_; rintro e w6 ⟨rfl, b6⟩))
    go_ret
    first | exact ⟨by rw [show R = _ from HK3.out]; rfl, HB5.out⟩ | exact ⟨by rw [show R = _ from HK3.out]; rfl, HB5.out.trans (b6.mono HB5.out.size)⟩
set_option maxRecDepth 100000 in
set_option maxHeartbeats 2000000 in
theorem blockFault_any (b : Blk) (B gk : Nat) (w : World) (hs : b.small) (hO : RowOp w B gk b.ops) (hL : LT w) :
    Calls Tryz.prog 98 #[b.val (.slice (some ⟨gk, 0, none⟩) b.ops.length b.ops.length)] w fun e w' => e = .returned (.int .i64 (blkFault b)) ∧ Below w.heap.size w w' := by
  obtain ⟨R, hR⟩ : ∃ R, R = blkFault b := ⟨_, rfl⟩
  rw [← hR]
  have hl : b.ops.length ≤ 1048576 := hs.len
  have HBn : Hid (Below w.heap.size w (w.alloc (.cells #[.int .i64 b.args, .slice (some ⟨gk, 0, none⟩) b.ops.length b.ops.length] 85))) := bnew _ _
  by_cases ha : b.args < 0
  · have HR : Hid (R = 3) := by show _ = _; rw [hR]; unfold blkFault; rw [if_pos (by simp [ha])]
    clear hR hO
    go_enter Tryz.func98, Tryz.ntmps98
    go_wp2
    go_ret
    exact ⟨by rw [HR.out]; rfl, HBn.out⟩
  by_cases hb : 3 < b.args
  · have HR : Hid (R = 3) := by show _ = _; rw [hR]; unfold blkFault; rw [if_pos (by simp [hb])]
    clear hR hO
    go_enter Tryz.func98, Tryz.ntmps98
    go_wp2
    go_ret
    exact ⟨by rw [HR.out]; rfl, HBn.out⟩
  have HR0 : Hid (R = if 200 < b.ops.length then 2 else firstC opFault b.ops) := by show _ = _; rw [hR]; unfold blkFault; rw [if_neg (by simp only [Bool.or_eq_true, decide_eq_true_eq]; omega)]
  clear hR
  by_cases h200 : 200 < b.ops.length
  · have HR : Hid (R = 2) := by show _ = _; rw [HR0.out, if_pos h200]
    clear HR0 hO
    go_enter Tryz.func98, Tryz.ntmps98
    go_wp2
    go_ret
    exact ⟨by rw [HR.out]; rfl, HBn.out⟩
  have HR : Hid (R = firstC opFault b.ops) := by show _ = _; rw [HR0.out, if_neg h200]
  have HO : Hid (RowOp w B gk b.ops) := hO
  have HS : Hid (b.small) := hs
  have HL : Hid (LT w) := hL
  clear HR0 hO hs hL
  go_enter Tryz.func98, Tryz.ntmps98
  go_wp2_with fail
  go_loopw [21] (fun i wr => ∃ j : Nat, j ≤ b.ops.length ∧ i = .int .i64 (j : Int) ∧ Hid (∀ (k : Nat) (h : k < b.ops.length), k < j → opFault b.ops[k] = 0) ∧ Hid (Below w.heap.size w wr)) (fun i _ => b.ops.length - (RowKit.intOf i).toNat)
  case atStart => exact ⟨0, Nat.zero_le _, rfl, fun k _ hk => by omega, HBn.out⟩
  case round =>
    obtain ⟨j, hj, rfl, HJ, HW⟩ := hrel
    by_cases hlt : j < b.ops.length
    · obtain ⟨gx, hox⟩ := (HO.out.below HW.out).at j hlt
      have hsm := HS.out.names j hlt
      obtain ⟨t, ht⟩ : ∃ t, t = b.ops[j]'hlt := ⟨_, rfl⟩
      rw [← ht] at hox hsm
      obtain ⟨c, hc⟩ : ∃ c, c = opFault t := ⟨_, rfl⟩
      have HX : Hid (∀ u, Below wr.heap.size wr u → Calls Tryz.prog 136 #[t.val (.slice (some ⟨gx, 0, none⟩) t.data.length t.data.length)] u fun e w' => e = .returned (.int .i64 c) ∧ Below u.heap.size u w') := fun u hu => by rw [hc]; exact implOF_any t gx _ B u hsm (hox.data.below hu) ((HL.out.below HW.out).below hu)
      have HC : Hid (opFault (b.ops[j]'hlt) = c) := by show _ = _; rw [← ht, hc]
      obtain ⟨c0, c1, c2, c3, c4, c5, c6, _⟩ := hox
      clear hsm hc ht
      by_cases hz : c = 0
      · subst hz
        go_wp2_with (go_at_call 136; refine (HX.out _ (bnew _ _)).mono ?_; rintro e w1 ⟨rfl, b1⟩)
        refine ⟨⟨j + 1, by omega, by go_num, fun k hk hkj => ?_, HW.out.trans (((bnew wr _).trans (b1.mono (by simp))).mono HW.out.size)⟩, by simp [RowKit.intOf]; omega⟩
        by_cases e : k < j
        · exact HJ.out k hk e
        · have : k = j := by omega
          subst this; exact HC.out
      · have hcn : (c != 0) = true := by rw [bne_iff_ne]; exact hz
        have HF : Hid (R = c) := by show _ = _; rw [HR.out, firstC_hit b.ops j hlt HJ.out (by rw [HC.out]; exact hz), HC.out]
        clear hz
        go_wp2_with (go_at_call 136; refine (HX.out _ (bnew _ _)).mono ?_; rintro e w1 ⟨rfl, b1⟩)
        go_ret
        exact ⟨by rw [HF.out]; rfl, HW.out.trans (((bnew wr _).trans (b1.mono (by simp))).mono HW.out.size)⟩
    · have HF : Hid (R = 0) := by
        show _ = _
        rw [HR.out]; exact firstC_none b.ops (fun k hk _ => HJ.out k hk (by omega))
      go_wp2
      go_ret
      exact ⟨by rw [HF.out]; rfl, HW.out⟩
set_option maxRecDepth 100000 in
set_option maxHeartbeats 2000000 in
theorem blocksFault_any (g c B : Nat) (l : List Blk) (w : World) (hl : l.length ≤ 1048576) (hz : ∀ (k : Nat) (h : k < l.length), l[k].small) (hB : RowBl w B g l) (hL : LT w) :
    Calls Tryz.prog 63 #[.slice (some ⟨g, 0, none⟩) l.length c] w fun e w' => e = .returned (.int .i64 (codeFault9 l)) ∧ Below w.heap.size w w' := by
  obtain ⟨R, hR⟩ : ∃ R, R = codeFault9 l := ⟨_, rfl⟩
  rw [← hR]
  by_cases h60 : 60 < l.length
  · have HR : Hid (R = 2) := by show _ = _; rw [hR]; unfold codeFault9; rw [if_pos h60]
    clear hR hB hz
    go_enter Tryz.func63, Tryz.ntmps63
    go_wp2
    go_ret
    exact ⟨by rw [HR.out]; rfl, Below.refl _ _⟩
  have HR : Hid (R = firstC blkFault l) := by show _ = _; rw [hR]; unfold codeFault9; rw [if_neg h60]
  have HB : Hid (RowBl w B g l) := hB
  have HZ : Hid (∀ (k : Nat) (h : k < l.length), l[k].small) := hz
  have HL : Hid (LT w) := hL
  clear hR hB hz hL
  go_enter Tryz.func63, Tryz.ntmps63
  go_wp2_with fail
  go_loopw [11] (fun i wr => ∃ j : Nat, j ≤ l.length ∧ i = .int .i64 (j : Int) ∧ Hid (∀ (k : Nat) (h : k < l.length), k < j → blkFault l[k] = 0) ∧ Hid (Below w.heap.size w wr)) (fun i _ => l.length - (RowKit.intOf i).toNat)
  case atStart => exact ⟨0, Nat.zero_le _, rfl, fun k _ hk => by omega, Below.refl _ _⟩
  case round =>
    obtain ⟨j, hj, rfl, HJ, HW⟩ := hrel
    by_cases hlt : j < l.length
    · obtain ⟨p0, gx, p1, ho⟩ := HB.out.below HW.out j hlt
      have hsm := HZ.out j hlt
      obtain ⟨t, ht⟩ : ∃ t, t = l[j]'hlt := ⟨_, rfl⟩
      rw [← ht] at p0 p1 ho hsm
      obtain ⟨c, hc⟩ : ∃ c, c = blkFault t := ⟨_, rfl⟩
      have HX : Hid (∀ u, Below wr.heap.size wr u → Calls Tryz.prog 98 #[t.val (.slice (some ⟨gx, 0, none⟩) t.ops.length t.ops.length)] u fun e w' => e = .returned (.int .i64 c) ∧ Below u.heap.size u w') := fun u hu => by rw [hc]; exact blockFault_any t B gx u hsm (ho.below hu).row ((HL.out.below HW.out).below hu)
      have HC : Hid (blkFault (l[j]'hlt) = c) := by show _ = _; rw [← ht, hc]
      clear ho hc hsm ht
      by_cases hz : c = 0
      · subst hz
        go_wp2_with (go_at_call 98; refine (HX.out _ (bnew _ _)).mono ?_; rintro e w1 ⟨rfl, b1⟩)
        refine ⟨⟨j + 1, by omega, by go_num, fun k hk hkj => ?_, HW.out.trans (((bnew wr _).trans (b1.mono (by simp))).mono HW.out.size)⟩, by simp [RowKit.intOf]; omega⟩
        by_cases e : k < j
        · exact HJ.out k hk e
        · have : k = j := by omega
          subst this; exact HC.out
      · have hcn : (c != 0) = true := by rw [bne_iff_ne]; exact hz
        have HF : Hid (R = c) := by show _ = _; rw [HR.out, firstC_hit l j hlt HJ.out (by rw [HC.out]; exact hz), HC.out]
        clear hz
        go_wp2_with (go_at_call 98; refine (HX.out _ (bnew _ _)).mono ?_; rintro e w1 ⟨rfl, b1⟩)
        go_ret
        exact ⟨by rw [HF.out]; rfl, HW.out.trans (((bnew wr _).trans (b1.mono (by simp))).mono HW.out.size)⟩
    · have HF : Hid (R = 0) := by
        show _ = _
        rw [HR.out]; exact firstC_none l (fun k hk _ => HJ.out k hk (by omega))
      go_wp2
      go_ret
      exact ⟨by rw [HF.out]; rfl, HW.out⟩
end Go.Proofs.YtoafolefecddmaaGreatDoor
