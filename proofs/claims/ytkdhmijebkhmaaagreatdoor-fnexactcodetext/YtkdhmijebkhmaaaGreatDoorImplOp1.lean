/-
  The program's shapeOf and first: what an operation of a kind has; its first numbers. Nothing that was there is turned.
-/
import Derived.Test.YtkdhmijebkhmaaaGreatDoorOpAtM
import Derived.Lib.SliceRun
namespace Go.Proofs.YtkdhmijebkhmaaaGreatDoor
open Go.RowKit Go.Extern.Stop Go.Stop Go.Extern Num Go.Lib

/-- The word of a kind. -/
def wordO (k : Int) : ByteArray := if k = 1 then ⟨#[99, 111, 110, 115, 116]⟩ else if k = 2 then ⟨#[108, 111, 99, 97, 108]⟩ else if k = 3 then ⟨#[103, 108, 111, 98, 97, 108]⟩ else if k = 4 then ⟨#[99, 108, 111, 115, 117, 114, 101]⟩ else if k = 5 then ⟨#[106, 117, 109, 112]⟩ else if k = 6 then ⟨#[105, 102, 110, 111, 116]⟩ else if k = 7 then ⟨#[112, 111, 112]⟩ else if k = 8 then ⟨#[115, 101, 116]⟩ else if k = 9 then ⟨#[100, 101, 102]⟩ else if k = 10 then ⟨#[99, 97, 108, 108]⟩ else if k = 11 then ⟨#[116, 97, 105, 108]⟩ else if k = 12 then ⟨#[114, 101, 116, 117, 114, 110]⟩ else if k = 13 then ⟨#[99, 111, 110, 115, 116, 114, 101, 116]⟩ else if k = 14 then ⟨#[108, 111, 99, 97, 108, 114, 101, 116]⟩ else if k = 15 then ⟨#[108, 111, 99, 97, 108, 115]⟩ else if k = 16 then ⟨#[108, 111, 99, 97, 108, 105, 102, 110, 111, 116]⟩ else ⟨#[]⟩
def inO (k : Int) : Bool := decide (1 ≤ k) && decide (k ≤ 16)
/-- What an operation of a kind has. -/
abbrev shpV (s : ByteArray) (n : Nat) (a b : Bool) : Value := .agg #[.string s, .int .i64 (n : Int), .bool a, .bool b]
theorem kinds16 (k : Int) : k = 1 ∨ k = 2 ∨ k = 3 ∨ k = 4 ∨ k = 5 ∨ k = 6 ∨ k = 7 ∨ k = 8 ∨ k = 9 ∨ k = 10 ∨ k = 11 ∨ k = 12 ∨ k = 13 ∨ k = 14 ∨ k = 15 ∨ k = 16 ∨ (k < 1 ∨ 16 < k) := by omega
theorem shapeOf_1 (w : World) : Calls Tryz.prog 68 #[.int .i64 1] w fun e w' => e = .returned (.tuple #[shpV ⟨#[99, 111, 110, 115, 116]⟩ 0 false true, .bool true]) ∧ Below w.heap.size w w' := by
  go_enter Tryz.func68, Tryz.ntmps68
  go_wp2
  exact bodyPost_ret (v := .tuple #[shpV ⟨#[99, 111, 110, 115, 116]⟩ 0 false true, .bool true]) (by simp [results, Tryz.results68, go_sem]) rfl ⟨rfl, by repeat (first | exact Below.refl _ _ | refine Below.setCell ?_ (by simp <;> omega) _ | refine Below.alloc ?_ (by simp <;> omega) _)⟩
theorem shapeOf_2 (w : World) : Calls Tryz.prog 68 #[.int .i64 2] w fun e w' => e = .returned (.tuple #[shpV ⟨#[108, 111, 99, 97, 108]⟩ 2 false false, .bool true]) ∧ Below w.heap.size w w' := by
  go_enter Tryz.func68, Tryz.ntmps68
  go_wp2
  exact bodyPost_ret (v := .tuple #[shpV ⟨#[108, 111, 99, 97, 108]⟩ 2 false false, .bool true]) (by simp [results, Tryz.results68, go_sem]) rfl ⟨rfl, by repeat (first | exact Below.refl _ _ | refine Below.setCell ?_ (by simp <;> omega) _ | refine Below.alloc ?_ (by simp <;> omega) _)⟩
theorem shapeOf_3 (w : World) : Calls Tryz.prog 68 #[.int .i64 3] w fun e w' => e = .returned (.tuple #[shpV ⟨#[103, 108, 111, 98, 97, 108]⟩ 0 true false, .bool true]) ∧ Below w.heap.size w w' := by
  go_enter Tryz.func68, Tryz.ntmps68
  go_wp2
  exact bodyPost_ret (v := .tuple #[shpV ⟨#[103, 108, 111, 98, 97, 108]⟩ 0 true false, .bool true]) (by simp [results, Tryz.results68, go_sem]) rfl ⟨rfl, by repeat (first | exact Below.refl _ _ | refine Below.setCell ?_ (by simp <;> omega) _ | refine Below.alloc ?_ (by simp <;> omega) _)⟩
theorem shapeOf_4 (w : World) : Calls Tryz.prog 68 #[.int .i64 4] w fun e w' => e = .returned (.tuple #[shpV ⟨#[99, 108, 111, 115, 117, 114, 101]⟩ 1 false false, .bool true]) ∧ Below w.heap.size w w' := by
  go_enter Tryz.func68, Tryz.ntmps68
  go_wp2
  exact bodyPost_ret (v := .tuple #[shpV ⟨#[99, 108, 111, 115, 117, 114, 101]⟩ 1 false false, .bool true]) (by simp [results, Tryz.results68, go_sem]) rfl ⟨rfl, by repeat (first | exact Below.refl _ _ | refine Below.setCell ?_ (by simp <;> omega) _ | refine Below.alloc ?_ (by simp <;> omega) _)⟩
theorem shapeOf_5 (w : World) : Calls Tryz.prog 68 #[.int .i64 5] w fun e w' => e = .returned (.tuple #[shpV ⟨#[106, 117, 109, 112]⟩ 1 false false, .bool true]) ∧ Below w.heap.size w w' := by
  go_enter Tryz.func68, Tryz.ntmps68
  go_wp2
  exact bodyPost_ret (v := .tuple #[shpV ⟨#[106, 117, 109, 112]⟩ 1 false false, .bool true]) (by simp [results, Tryz.results68, go_sem]) rfl ⟨rfl, by repeat (first | exact Below.refl _ _ | refine Below.setCell ?_ (by simp <;> omega) _ | refine Below.alloc ?_ (by simp <;> omega) _)⟩
theorem shapeOf_6 (w : World) : Calls Tryz.prog 68 #[.int .i64 6] w fun e w' => e = .returned (.tuple #[shpV ⟨#[105, 102, 110, 111, 116]⟩ 1 false false, .bool true]) ∧ Below w.heap.size w w' := by
  go_enter Tryz.func68, Tryz.ntmps68
  go_wp2
  exact bodyPost_ret (v := .tuple #[shpV ⟨#[105, 102, 110, 111, 116]⟩ 1 false false, .bool true]) (by simp [results, Tryz.results68, go_sem]) rfl ⟨rfl, by repeat (first | exact Below.refl _ _ | refine Below.setCell ?_ (by simp <;> omega) _ | refine Below.alloc ?_ (by simp <;> omega) _)⟩
theorem shapeOf_7 (w : World) : Calls Tryz.prog 68 #[.int .i64 7] w fun e w' => e = .returned (.tuple #[shpV ⟨#[112, 111, 112]⟩ 0 false false, .bool true]) ∧ Below w.heap.size w w' := by
  go_enter Tryz.func68, Tryz.ntmps68
  go_wp2
  exact bodyPost_ret (v := .tuple #[shpV ⟨#[112, 111, 112]⟩ 0 false false, .bool true]) (by simp [results, Tryz.results68, go_sem]) rfl ⟨rfl, by repeat (first | exact Below.refl _ _ | refine Below.setCell ?_ (by simp <;> omega) _ | refine Below.alloc ?_ (by simp <;> omega) _)⟩
theorem shapeOf_8 (w : World) : Calls Tryz.prog 68 #[.int .i64 8] w fun e w' => e = .returned (.tuple #[shpV ⟨#[115, 101, 116]⟩ 0 true false, .bool true]) ∧ Below w.heap.size w w' := by
  go_enter Tryz.func68, Tryz.ntmps68
  go_wp2
  exact bodyPost_ret (v := .tuple #[shpV ⟨#[115, 101, 116]⟩ 0 true false, .bool true]) (by simp [results, Tryz.results68, go_sem]) rfl ⟨rfl, by repeat (first | exact Below.refl _ _ | refine Below.setCell ?_ (by simp <;> omega) _ | refine Below.alloc ?_ (by simp <;> omega) _)⟩
theorem shapeOf_9 (w : World) : Calls Tryz.prog 68 #[.int .i64 9] w fun e w' => e = .returned (.tuple #[shpV ⟨#[100, 101, 102]⟩ 0 true false, .bool true]) ∧ Below w.heap.size w w' := by
  go_enter Tryz.func68, Tryz.ntmps68
  go_wp2
  exact bodyPost_ret (v := .tuple #[shpV ⟨#[100, 101, 102]⟩ 0 true false, .bool true]) (by simp [results, Tryz.results68, go_sem]) rfl ⟨rfl, by repeat (first | exact Below.refl _ _ | refine Below.setCell ?_ (by simp <;> omega) _ | refine Below.alloc ?_ (by simp <;> omega) _)⟩
theorem shapeOf_10 (w : World) : Calls Tryz.prog 68 #[.int .i64 10] w fun e w' => e = .returned (.tuple #[shpV ⟨#[99, 97, 108, 108]⟩ 1 false false, .bool true]) ∧ Below w.heap.size w w' := by
  go_enter Tryz.func68, Tryz.ntmps68
  go_wp2
  exact bodyPost_ret (v := .tuple #[shpV ⟨#[99, 97, 108, 108]⟩ 1 false false, .bool true]) (by simp [results, Tryz.results68, go_sem]) rfl ⟨rfl, by repeat (first | exact Below.refl _ _ | refine Below.setCell ?_ (by simp <;> omega) _ | refine Below.alloc ?_ (by simp <;> omega) _)⟩
theorem shapeOf_11 (w : World) : Calls Tryz.prog 68 #[.int .i64 11] w fun e w' => e = .returned (.tuple #[shpV ⟨#[116, 97, 105, 108]⟩ 1 false false, .bool true]) ∧ Below w.heap.size w w' := by
  go_enter Tryz.func68, Tryz.ntmps68
  go_wp2
  exact bodyPost_ret (v := .tuple #[shpV ⟨#[116, 97, 105, 108]⟩ 1 false false, .bool true]) (by simp [results, Tryz.results68, go_sem]) rfl ⟨rfl, by repeat (first | exact Below.refl _ _ | refine Below.setCell ?_ (by simp <;> omega) _ | refine Below.alloc ?_ (by simp <;> omega) _)⟩
theorem shapeOf_12 (w : World) : Calls Tryz.prog 68 #[.int .i64 12] w fun e w' => e = .returned (.tuple #[shpV ⟨#[114, 101, 116, 117, 114, 110]⟩ 0 false false, .bool true]) ∧ Below w.heap.size w w' := by
  go_enter Tryz.func68, Tryz.ntmps68
  go_wp2
  exact bodyPost_ret (v := .tuple #[shpV ⟨#[114, 101, 116, 117, 114, 110]⟩ 0 false false, .bool true]) (by simp [results, Tryz.results68, go_sem]) rfl ⟨rfl, by repeat (first | exact Below.refl _ _ | refine Below.setCell ?_ (by simp <;> omega) _ | refine Below.alloc ?_ (by simp <;> omega) _)⟩
theorem shapeOf_13 (w : World) : Calls Tryz.prog 68 #[.int .i64 13] w fun e w' => e = .returned (.tuple #[shpV ⟨#[99, 111, 110, 115, 116, 114, 101, 116]⟩ 0 false true, .bool true]) ∧ Below w.heap.size w w' := by
  go_enter Tryz.func68, Tryz.ntmps68
  go_wp2
  exact bodyPost_ret (v := .tuple #[shpV ⟨#[99, 111, 110, 115, 116, 114, 101, 116]⟩ 0 false true, .bool true]) (by simp [results, Tryz.results68, go_sem]) rfl ⟨rfl, by repeat (first | exact Below.refl _ _ | refine Below.setCell ?_ (by simp <;> omega) _ | refine Below.alloc ?_ (by simp <;> omega) _)⟩
theorem shapeOf_14 (w : World) : Calls Tryz.prog 68 #[.int .i64 14] w fun e w' => e = .returned (.tuple #[shpV ⟨#[108, 111, 99, 97, 108, 114, 101, 116]⟩ 2 false false, .bool true]) ∧ Below w.heap.size w w' := by
  go_enter Tryz.func68, Tryz.ntmps68
  go_wp2
  exact bodyPost_ret (v := .tuple #[shpV ⟨#[108, 111, 99, 97, 108, 114, 101, 116]⟩ 2 false false, .bool true]) (by simp [results, Tryz.results68, go_sem]) rfl ⟨rfl, by repeat (first | exact Below.refl _ _ | refine Below.setCell ?_ (by simp <;> omega) _ | refine Below.alloc ?_ (by simp <;> omega) _)⟩
theorem shapeOf_15 (w : World) : Calls Tryz.prog 68 #[.int .i64 15] w fun e w' => e = .returned (.tuple #[shpV ⟨#[108, 111, 99, 97, 108, 115]⟩ 4 false false, .bool true]) ∧ Below w.heap.size w w' := by
  go_enter Tryz.func68, Tryz.ntmps68
  go_wp2
  exact bodyPost_ret (v := .tuple #[shpV ⟨#[108, 111, 99, 97, 108, 115]⟩ 4 false false, .bool true]) (by simp [results, Tryz.results68, go_sem]) rfl ⟨rfl, by repeat (first | exact Below.refl _ _ | refine Below.setCell ?_ (by simp <;> omega) _ | refine Below.alloc ?_ (by simp <;> omega) _)⟩
theorem shapeOf_16 (w : World) : Calls Tryz.prog 68 #[.int .i64 16] w fun e w' => e = .returned (.tuple #[shpV ⟨#[108, 111, 99, 97, 108, 105, 102, 110, 111, 116]⟩ 3 false false, .bool true]) ∧ Below w.heap.size w w' := by
  go_enter Tryz.func68, Tryz.ntmps68
  go_wp2
  exact bodyPost_ret (v := .tuple #[shpV ⟨#[108, 111, 99, 97, 108, 105, 102, 110, 111, 116]⟩ 3 false false, .bool true]) (by simp [results, Tryz.results68, go_sem]) rfl ⟨rfl, by repeat (first | exact Below.refl _ _ | refine Below.setCell ?_ (by simp <;> omega) _ | refine Below.alloc ?_ (by simp <;> omega) _)⟩
theorem shapeOf_no (k : Int) (w : World) (h : k < 1 ∨ 16 < k) : Calls Tryz.prog 68 #[.int .i64 k] w fun e w' => e = .returned (.tuple #[shpV ⟨#[]⟩ 0 false false, .bool false]) ∧ Below w.heap.size w w' := by
  have h1 : (k == 1) = false := by rw [beq_eq_false_iff_ne]; omega
  have h2 : (k == 2) = false := by rw [beq_eq_false_iff_ne]; omega
  have h3 : (k == 3) = false := by rw [beq_eq_false_iff_ne]; omega
  have h4 : (k == 4) = false := by rw [beq_eq_false_iff_ne]; omega
  have h5 : (k == 5) = false := by rw [beq_eq_false_iff_ne]; omega
  have h6 : (k == 6) = false := by rw [beq_eq_false_iff_ne]; omega
  have h7 : (k == 7) = false := by rw [beq_eq_false_iff_ne]; omega
  have h8 : (k == 8) = false := by rw [beq_eq_false_iff_ne]; omega
  have h9 : (k == 9) = false := by rw [beq_eq_false_iff_ne]; omega
  have h10 : (k == 10) = false := by rw [beq_eq_false_iff_ne]; omega
  have h11 : (k == 11) = false := by rw [beq_eq_false_iff_ne]; omega
  have h12 : (k == 12) = false := by rw [beq_eq_false_iff_ne]; omega
  have h13 : (k == 13) = false := by rw [beq_eq_false_iff_ne]; omega
  have h14 : (k == 14) = false := by rw [beq_eq_false_iff_ne]; omega
  have h15 : (k == 15) = false := by rw [beq_eq_false_iff_ne]; omega
  have h16 : (k == 16) = false := by rw [beq_eq_false_iff_ne]; omega
  clear h
  go_enter Tryz.func68, Tryz.ntmps68
  go_wp2
  exact bodyPost_ret (v := .tuple #[shpV ⟨#[]⟩ 0 false false, .bool false]) (by simp [results, Tryz.results68, go_sem]) rfl ⟨rfl, by repeat (first | exact Below.refl _ _ | refine Below.setCell ?_ (by simp <;> omega) _ | refine Below.alloc ?_ (by simp <;> omega) _)⟩
theorem shapeOf_any (k : Int) (w : World) : Calls Tryz.prog 68 #[.int .i64 k] w fun e w' => e = .returned (.tuple #[shpV (wordO k) (numsO k) (namedO k) (constO k), .bool (inO k)]) ∧ Below w.heap.size w w' := by
  rcases kinds16 k with rfl | rfl | rfl | rfl | rfl | rfl | rfl | rfl | rfl | rfl | rfl | rfl | rfl | rfl | rfl | rfl | h
  · exact shapeOf_1 w
  · exact shapeOf_2 w
  · exact shapeOf_3 w
  · exact shapeOf_4 w
  · exact shapeOf_5 w
  · exact shapeOf_6 w
  · exact shapeOf_7 w
  · exact shapeOf_8 w
  · exact shapeOf_9 w
  · exact shapeOf_10 w
  · exact shapeOf_11 w
  · exact shapeOf_12 w
  · exact shapeOf_13 w
  · exact shapeOf_14 w
  · exact shapeOf_15 w
  · exact shapeOf_16 w
  · have e1 : wordO k = ⟨#[]⟩ := by unfold wordO; repeat (rw [if_neg (by omega)])
    have e2 : numsO k = 0 := by unfold numsO; repeat (rw [if_neg (by omega)])
    have e3 : namedO k = false := by unfold namedO; simp only [Bool.or_eq_false_iff, beq_eq_false_iff_ne]; omega
    have e4 : constO k = false := by unfold constO; simp only [Bool.or_eq_false_iff, beq_eq_false_iff_ne]; omega
    have e5 : inO k = false := by unfold inO; simp only [Bool.and_eq_false_iff, decide_eq_false_iff_not]; omega
    rw [e1, e2, e3, e4, e5]
    exact shapeOf_no k w h
/-- The first numbers; the others are 0. -/
abbrev firV (a b c d : Int) (n : Nat) : Value := .agg #[.int .i64 (if 1 ≤ n then a else 0), .int .i64 (if 2 ≤ n then b else 0), .int .i64 (if 3 ≤ n then c else 0), .int .i64 (if 4 ≤ n then d else 0)]
set_option maxRecDepth 100000 in
set_option maxHeartbeats 1000000 in
theorem first_any (a b c d : Int) (n : Nat) (w : World) (hn : n ≤ 4) : Calls Tryz.prog 127 #[.agg #[.int .i64 a, .int .i64 b, .int .i64 c, .int .i64 d], .int .i64 (n : Int)] w fun e w' => e = .returned (firV a b c d n) ∧ Below w.heap.size w w' := by
  have hzv : ∀ x, (zeroValue 2).run Tryz.prog x = .ok (.int .i64 0) x := fun x => by simp [go_sem]
  have hcl : ∀ (x : World) (ty : TypeId) (b o n : Nat), 0 < n → (∀ j, j < n → (x.cell? ⟨b, o + j, none⟩).isSome = true) → (∀ j, j < n → x.frozen? ⟨b, o + j, none⟩ = false) → (Builtin.clear_ #[40] ty #[.slice (some ⟨b, o, none⟩) n n]).run Tryz.prog x = .ok (.tuple #[]) (x.setCells b o (List.replicate n (.int .i64 0))) := fun x ty b o n h1 h2 h3 => Lib.run_clear_slice x _ _ ty _ Tryz.underlying40 hzv rfl rfl b o n n h1 h2 h3
  obtain ⟨W, hW⟩ : ∃ W, W = (w.alloc (.cells #[.int .i64 a, .int .i64 b, .int .i64 c, .int .i64 d] 69)).alloc (.cells #[.int .i64 0, .int .i64 0, .int .i64 0, .int .i64 0] 69) := ⟨_, rfl⟩
  obtain rfl | rfl | rfl | rfl | rfl : n = 0 ∨ n = 1 ∨ n = 2 ∨ n = 3 ∨ n = 4 := by omega
  · have hq : (Builtin.clear_ #[40] 0 #[.slice (some ⟨w.heap.size, 0, none⟩) 4 4]).run Tryz.prog W = .ok (.tuple #[]) ((((W.setCell ⟨w.heap.size, 0, none⟩ (.int .i64 0)).setCell ⟨w.heap.size, 1, none⟩ (.int .i64 0)).setCell ⟨w.heap.size, 2, none⟩ (.int .i64 0)).setCell ⟨w.heap.size, 3, none⟩ (.int .i64 0)) := by
      rw [hcl W 0 w.heap.size 0 4 (by omega) (fun j hj => ?_) (fun j hj => ?_)]
      · rfl
      · rw [hW]; (obtain rfl | rfl | rfl | rfl : j = 0 ∨ j = 1 ∨ j = 2 ∨ j = 3 := (by omega)) <;> simp [go_sem]
      · rw [hW]; simp [go_sem]
    rw [hW] at hq
    clear hcl hzv hW
    go_enter Tryz.func127, Tryz.ntmps127
    go_wp2
    exact bodyPost_ret (v := firV a b c d 0) (by simp [results, Tryz.results127, go_sem]) rfl ⟨rfl, by repeat (first | exact Below.refl _ _ | refine Below.setCell ?_ (by simp <;> omega) _ | refine Below.alloc ?_ (by simp <;> omega) _)⟩
  · have hq : (Builtin.clear_ #[40] 0 #[.slice (some ⟨w.heap.size, 1, none⟩) 3 3]).run Tryz.prog W = .ok (.tuple #[]) (((W.setCell ⟨w.heap.size, 1, none⟩ (.int .i64 0)).setCell ⟨w.heap.size, 2, none⟩ (.int .i64 0)).setCell ⟨w.heap.size, 3, none⟩ (.int .i64 0)) := by
      rw [hcl W 0 w.heap.size 1 3 (by omega) (fun j hj => ?_) (fun j hj => ?_)]
      · rfl
      · rw [hW]; (obtain rfl | rfl | rfl : j = 0 ∨ j = 1 ∨ j = 2 := (by omega)) <;> simp [go_sem]
      · rw [hW]; simp [go_sem]
    rw [hW] at hq
    clear hcl hzv hW
    go_enter Tryz.func127, Tryz.ntmps127
    go_wp2
    exact bodyPost_ret (v := firV a b c d 1) (by simp [results, Tryz.results127, go_sem]) rfl ⟨rfl, by repeat (first | exact Below.refl _ _ | refine Below.setCell ?_ (by simp <;> omega) _ | refine Below.alloc ?_ (by simp <;> omega) _)⟩
  · have hq : (Builtin.clear_ #[40] 0 #[.slice (some ⟨w.heap.size, 2, none⟩) 2 2]).run Tryz.prog W = .ok (.tuple #[]) ((W.setCell ⟨w.heap.size, 2, none⟩ (.int .i64 0)).setCell ⟨w.heap.size, 3, none⟩ (.int .i64 0)) := by
      rw [hcl W 0 w.heap.size 2 2 (by omega) (fun j hj => ?_) (fun j hj => ?_)]
      · rfl
      · rw [hW]; (obtain rfl | rfl : j = 0 ∨ j = 1 := (by omega)) <;> simp [go_sem]
      · rw [hW]; simp [go_sem]
    rw [hW] at hq
    clear hcl hzv hW
    go_enter Tryz.func127, Tryz.ntmps127
    go_wp2
    exact bodyPost_ret (v := firV a b c d 2) (by simp [results, Tryz.results127, go_sem]) rfl ⟨rfl, by repeat (first | exact Below.refl _ _ | refine Below.setCell ?_ (by simp <;> omega) _ | refine Below.alloc ?_ (by simp <;> omega) _)⟩
  · have hq : (Builtin.clear_ #[40] 0 #[.slice (some ⟨w.heap.size, 3, none⟩) 1 1]).run Tryz.prog W = .ok (.tuple #[]) (W.setCell ⟨w.heap.size, 3, none⟩ (.int .i64 0)) := by
      rw [hcl W 0 w.heap.size 3 1 (by omega) (fun j hj => ?_) (fun j hj => ?_)]
      · rfl
      · rw [hW]; (obtain rfl : j = 0 := (by omega)) <;> simp [go_sem]
      · rw [hW]; simp [go_sem]
    rw [hW] at hq
    clear hcl hzv hW
    go_enter Tryz.func127, Tryz.ntmps127
    go_wp2
    exact bodyPost_ret (v := firV a b c d 3) (by simp [results, Tryz.results127, go_sem]) rfl ⟨rfl, by repeat (first | exact Below.refl _ _ | refine Below.setCell ?_ (by simp <;> omega) _ | refine Below.alloc ?_ (by simp <;> omega) _)⟩
  · have hq : ∀ x, (Builtin.clear_ #[40] 0 #[.slice (some ⟨w.heap.size, 0, none⟩) 0 0]).run Tryz.prog x = .ok (.tuple #[]) x := fun x => by
      simp [Builtin.clear_, run_underlying Tryz.underlying40]
    clear hcl hzv hW
    go_enter Tryz.func127, Tryz.ntmps127
    go_wp2
    exact bodyPost_ret (v := firV a b c d 4) (by simp [results, Tryz.results127, go_sem]) rfl ⟨rfl, by repeat (first | exact Below.refl _ _ | refine Below.setCell ?_ (by simp <;> omega) _ | refine Below.alloc ?_ (by simp <;> omega) _)⟩
end Go.Proofs.YtkdhmijebkhmaaaGreatDoor
