/-
  The program's isValueForm, numBounds, bitsOfName and wordOf: what is wrong with a value, and the tag and the rest that tell it; nothing that was there is turned.
-/
import Derived.Test.YtgfienijabkpjaaDoorImplBits
namespace Go.Proofs.YtgfienijabkpjaaDoor
open Go.RowKit Go.Extern.Stop Go.Stop Go.Extern Num Go.Lib

theorem form_out (n : Int) (z : ByteArray) (w : World) (k : Int) (k1 : (k == 1) = false) (k2 : (k == 2) = false) (k3 : (k == 3) = false) (k4 : (k == 4) = false) (k5 : (k == 5) = false) (k6 : (k == 6) = false) (k7 : (k == 7) = false) (k8 : (k == 8) = false) (k9 : (k == 9) = false) :
    Calls Tryd.prog 81 #[.agg #[.int .i64 k, .int .i64 n, .string z]] w fun e w' => e = .returned (.bool false) ∧ Below w.heap.size w w' := by
  go_enter Tryd.func81, Tryd.ntmps81
  go_wp2
  go_ret
  exact ⟨rfl, by repeat (first | exact Below.refl _ _ | refine Below.setCell ?_ (by simp) _ | refine Below.alloc ?_ (by simp <;> omega) _ | refine Below.drew ?_)⟩
theorem form_y1 (n : Int) (z : ByteArray) (w : World) (hm : (z.toList == []) = true) :
    Calls Tryd.prog 81 #[.agg #[.int .i64 1, .int .i64 n, .string z]] w fun e w' => e = .returned (.bool true) ∧ Below w.heap.size w w' := by
  go_enter Tryd.func81, Tryd.ntmps81
  go_wp2
  go_ret
  exact ⟨rfl, by repeat (first | exact Below.refl _ _ | refine Below.setCell ?_ (by simp) _ | refine Below.alloc ?_ (by simp <;> omega) _ | refine Below.drew ?_)⟩
theorem form_n1 (n : Int) (z : ByteArray) (w : World) (hm : (z.toList == []) = false) :
    Calls Tryd.prog 81 #[.agg #[.int .i64 1, .int .i64 n, .string z]] w fun e w' => e = .returned (.bool false) ∧ Below w.heap.size w w' := by
  go_enter Tryd.func81, Tryd.ntmps81
  go_wp2
  go_ret
  exact ⟨rfl, by repeat (first | exact Below.refl _ _ | refine Below.setCell ?_ (by simp) _ | refine Below.alloc ?_ (by simp <;> omega) _ | refine Below.drew ?_)⟩
theorem form_y2 (n : Int) (z : ByteArray) (w : World) (hm : (z.toList == []) = true) :
    Calls Tryd.prog 81 #[.agg #[.int .i64 2, .int .i64 n, .string z]] w fun e w' => e = .returned (.bool true) ∧ Below w.heap.size w w' := by
  go_enter Tryd.func81, Tryd.ntmps81
  go_wp2
  go_ret
  exact ⟨rfl, by repeat (first | exact Below.refl _ _ | refine Below.setCell ?_ (by simp) _ | refine Below.alloc ?_ (by simp <;> omega) _ | refine Below.drew ?_)⟩
theorem form_n2 (n : Int) (z : ByteArray) (w : World) (hm : (z.toList == []) = false) :
    Calls Tryd.prog 81 #[.agg #[.int .i64 2, .int .i64 n, .string z]] w fun e w' => e = .returned (.bool false) ∧ Below w.heap.size w w' := by
  go_enter Tryd.func81, Tryd.ntmps81
  go_wp2
  go_ret
  exact ⟨rfl, by repeat (first | exact Below.refl _ _ | refine Below.setCell ?_ (by simp) _ | refine Below.alloc ?_ (by simp <;> omega) _ | refine Below.drew ?_)⟩
theorem form_y5 (n : Int) (z : ByteArray) (w : World) (hm : (z.toList == []) = true) :
    Calls Tryd.prog 81 #[.agg #[.int .i64 5, .int .i64 n, .string z]] w fun e w' => e = .returned (.bool true) ∧ Below w.heap.size w w' := by
  go_enter Tryd.func81, Tryd.ntmps81
  go_wp2
  go_ret
  exact ⟨rfl, by repeat (first | exact Below.refl _ _ | refine Below.setCell ?_ (by simp) _ | refine Below.alloc ?_ (by simp <;> omega) _ | refine Below.drew ?_)⟩
theorem form_n5 (n : Int) (z : ByteArray) (w : World) (hm : (z.toList == []) = false) :
    Calls Tryd.prog 81 #[.agg #[.int .i64 5, .int .i64 n, .string z]] w fun e w' => e = .returned (.bool false) ∧ Below w.heap.size w w' := by
  go_enter Tryd.func81, Tryd.ntmps81
  go_wp2
  go_ret
  exact ⟨rfl, by repeat (first | exact Below.refl _ _ | refine Below.setCell ?_ (by simp) _ | refine Below.alloc ?_ (by simp <;> omega) _ | refine Below.drew ?_)⟩
theorem form_y6 (n : Int) (z : ByteArray) (w : World) (hm : (z.toList == []) = true) :
    Calls Tryd.prog 81 #[.agg #[.int .i64 6, .int .i64 n, .string z]] w fun e w' => e = .returned (.bool true) ∧ Below w.heap.size w w' := by
  go_enter Tryd.func81, Tryd.ntmps81
  go_wp2
  go_ret
  exact ⟨rfl, by repeat (first | exact Below.refl _ _ | refine Below.setCell ?_ (by simp) _ | refine Below.alloc ?_ (by simp <;> omega) _ | refine Below.drew ?_)⟩
theorem form_n6 (n : Int) (z : ByteArray) (w : World) (hm : (z.toList == []) = false) :
    Calls Tryd.prog 81 #[.agg #[.int .i64 6, .int .i64 n, .string z]] w fun e w' => e = .returned (.bool false) ∧ Below w.heap.size w w' := by
  go_enter Tryd.func81, Tryd.ntmps81
  go_wp2
  go_ret
  exact ⟨rfl, by repeat (first | exact Below.refl _ _ | refine Below.setCell ?_ (by simp) _ | refine Below.alloc ?_ (by simp <;> omega) _ | refine Below.drew ?_)⟩
theorem form_y7 (n : Int) (z : ByteArray) (w : World) (hm : (z.toList == []) = true) :
    Calls Tryd.prog 81 #[.agg #[.int .i64 7, .int .i64 n, .string z]] w fun e w' => e = .returned (.bool true) ∧ Below w.heap.size w w' := by
  go_enter Tryd.func81, Tryd.ntmps81
  go_wp2
  go_ret
  exact ⟨rfl, by repeat (first | exact Below.refl _ _ | refine Below.setCell ?_ (by simp) _ | refine Below.alloc ?_ (by simp <;> omega) _ | refine Below.drew ?_)⟩
theorem form_n7 (n : Int) (z : ByteArray) (w : World) (hm : (z.toList == []) = false) :
    Calls Tryd.prog 81 #[.agg #[.int .i64 7, .int .i64 n, .string z]] w fun e w' => e = .returned (.bool false) ∧ Below w.heap.size w w' := by
  go_enter Tryd.func81, Tryd.ntmps81
  go_wp2
  go_ret
  exact ⟨rfl, by repeat (first | exact Below.refl _ _ | refine Below.setCell ?_ (by simp) _ | refine Below.alloc ?_ (by simp <;> omega) _ | refine Below.drew ?_)⟩
theorem form_y8 (n : Int) (z : ByteArray) (w : World) (hm : (z.toList == []) = true) :
    Calls Tryd.prog 81 #[.agg #[.int .i64 8, .int .i64 n, .string z]] w fun e w' => e = .returned (.bool true) ∧ Below w.heap.size w w' := by
  go_enter Tryd.func81, Tryd.ntmps81
  go_wp2
  go_ret
  exact ⟨rfl, by repeat (first | exact Below.refl _ _ | refine Below.setCell ?_ (by simp) _ | refine Below.alloc ?_ (by simp <;> omega) _ | refine Below.drew ?_)⟩
theorem form_n8 (n : Int) (z : ByteArray) (w : World) (hm : (z.toList == []) = false) :
    Calls Tryd.prog 81 #[.agg #[.int .i64 8, .int .i64 n, .string z]] w fun e w' => e = .returned (.bool false) ∧ Below w.heap.size w w' := by
  go_enter Tryd.func81, Tryd.ntmps81
  go_wp2
  go_ret
  exact ⟨rfl, by repeat (first | exact Below.refl _ _ | refine Below.setCell ?_ (by simp) _ | refine Below.alloc ?_ (by simp <;> omega) _ | refine Below.drew ?_)⟩
theorem form_y4 (n : Int) (z : ByteArray) (w : World) (h0 : n = 0) :
    Calls Tryd.prog 81 #[.agg #[.int .i64 4, .int .i64 n, .string z]] w fun e w' => e = .returned (.bool true) ∧ Below w.heap.size w w' := by
  subst h0
  go_enter Tryd.func81, Tryd.ntmps81
  go_wp2
  go_ret
  exact ⟨rfl, by repeat (first | exact Below.refl _ _ | refine Below.setCell ?_ (by simp) _ | refine Below.alloc ?_ (by simp <;> omega) _ | refine Below.drew ?_)⟩
theorem form_n4 (n : Int) (z : ByteArray) (w : World) (h0 : (n == 0) = false) :
    Calls Tryd.prog 81 #[.agg #[.int .i64 4, .int .i64 n, .string z]] w fun e w' => e = .returned (.bool false) ∧ Below w.heap.size w w' := by
  go_enter Tryd.func81, Tryd.ntmps81
  go_wp2
  go_ret
  exact ⟨rfl, by repeat (first | exact Below.refl _ _ | refine Below.setCell ?_ (by simp) _ | refine Below.alloc ?_ (by simp <;> omega) _ | refine Below.drew ?_)⟩
theorem form_y3 (n : Int) (z : ByteArray) (w : World) (h0 : n = 0) (hm : (z.toList == []) = true) :
    Calls Tryd.prog 81 #[.agg #[.int .i64 3, .int .i64 n, .string z]] w fun e w' => e = .returned (.bool true) ∧ Below w.heap.size w w' := by
  subst h0
  go_enter Tryd.func81, Tryd.ntmps81
  go_wp2
  go_ret
  exact ⟨rfl, by repeat (first | exact Below.refl _ _ | refine Below.setCell ?_ (by simp) _ | refine Below.alloc ?_ (by simp <;> omega) _ | refine Below.drew ?_)⟩
theorem form_m3 (n : Int) (z : ByteArray) (w : World) (h0 : n = 0) (hm : (z.toList == []) = false) :
    Calls Tryd.prog 81 #[.agg #[.int .i64 3, .int .i64 n, .string z]] w fun e w' => e = .returned (.bool false) ∧ Below w.heap.size w w' := by
  subst h0
  go_enter Tryd.func81, Tryd.ntmps81
  go_wp2
  go_ret
  exact ⟨rfl, by repeat (first | exact Below.refl _ _ | refine Below.setCell ?_ (by simp) _ | refine Below.alloc ?_ (by simp <;> omega) _ | refine Below.drew ?_)⟩
theorem form_n3 (n : Int) (z : ByteArray) (w : World) (h0 : (n == 0) = false) :
    Calls Tryd.prog 81 #[.agg #[.int .i64 3, .int .i64 n, .string z]] w fun e w' => e = .returned (.bool false) ∧ Below w.heap.size w w' := by
  go_enter Tryd.func81, Tryd.ntmps81
  go_wp2
  go_ret
  exact ⟨rfl, by repeat (first | exact Below.refl _ _ | refine Below.setCell ?_ (by simp) _ | refine Below.alloc ?_ (by simp <;> omega) _ | refine Below.drew ?_)⟩
theorem form_y9 (n : Int) (z : ByteArray) (w : World) (h0 : n = 0) (hm : (z.toList == []) = true) :
    Calls Tryd.prog 81 #[.agg #[.int .i64 9, .int .i64 n, .string z]] w fun e w' => e = .returned (.bool true) ∧ Below w.heap.size w w' := by
  subst h0
  go_enter Tryd.func81, Tryd.ntmps81
  go_wp2
  go_ret
  exact ⟨rfl, by repeat (first | exact Below.refl _ _ | refine Below.setCell ?_ (by simp) _ | refine Below.alloc ?_ (by simp <;> omega) _ | refine Below.drew ?_)⟩
theorem form_m9 (n : Int) (z : ByteArray) (w : World) (h0 : n = 0) (hm : (z.toList == []) = false) :
    Calls Tryd.prog 81 #[.agg #[.int .i64 9, .int .i64 n, .string z]] w fun e w' => e = .returned (.bool false) ∧ Below w.heap.size w w' := by
  subst h0
  go_enter Tryd.func81, Tryd.ntmps81
  go_wp2
  go_ret
  exact ⟨rfl, by repeat (first | exact Below.refl _ _ | refine Below.setCell ?_ (by simp) _ | refine Below.alloc ?_ (by simp <;> omega) _ | refine Below.drew ?_)⟩
theorem form_n9 (n : Int) (z : ByteArray) (w : World) (h0 : (n == 0) = false) :
    Calls Tryd.prog 81 #[.agg #[.int .i64 9, .int .i64 n, .string z]] w fun e w' => e = .returned (.bool false) ∧ Below w.heap.size w w' := by
  go_enter Tryd.func81, Tryd.ntmps81
  go_wp2
  go_ret
  exact ⟨rfl, by repeat (first | exact Below.refl _ _ | refine Below.setCell ?_ (by simp) _ | refine Below.alloc ?_ (by simp <;> omega) _ | refine Below.drew ?_)⟩
theorem bounds_1 (w : World) :
    Calls Tryd.prog 82 #[.int .i64 1] w fun e w' => e = .returned (.tuple #[.int .i64 (-1000000000), .int .i64 1000000000]) ∧ w' = w := by
  go_enter Tryd.func82, Tryd.ntmps82
  go_wp2
  exact bodyPost_ret (v := .tuple #[.int .i64 (-1000000000), .int .i64 1000000000]) (by simp [results, Tryd.results82, go_sem]) rfl ⟨rfl, rfl⟩
theorem bounds_2 (w : World) :
    Calls Tryd.prog 82 #[.int .i64 2] w fun e w' => e = .returned (.tuple #[.int .i64 (0), .int .i64 1]) ∧ w' = w := by
  go_enter Tryd.func82, Tryd.ntmps82
  go_wp2
  exact bodyPost_ret (v := .tuple #[.int .i64 (0), .int .i64 1]) (by simp [results, Tryd.results82, go_sem]) rfl ⟨rfl, rfl⟩
theorem bounds_3 (w : World) :
    Calls Tryd.prog 82 #[.int .i64 3] w fun e w' => e = .returned (.tuple #[.int .i64 (0), .int .i64 0]) ∧ w' = w := by
  go_enter Tryd.func82, Tryd.ntmps82
  go_wp2
  exact bodyPost_ret (v := .tuple #[.int .i64 (0), .int .i64 0]) (by simp [results, Tryd.results82, go_sem]) rfl ⟨rfl, rfl⟩
theorem bounds_4 (w : World) :
    Calls Tryd.prog 82 #[.int .i64 4] w fun e w' => e = .returned (.tuple #[.int .i64 (0), .int .i64 0]) ∧ w' = w := by
  go_enter Tryd.func82, Tryd.ntmps82
  go_wp2
  exact bodyPost_ret (v := .tuple #[.int .i64 (0), .int .i64 0]) (by simp [results, Tryd.results82, go_sem]) rfl ⟨rfl, rfl⟩
theorem bounds_5 (w : World) :
    Calls Tryd.prog 82 #[.int .i64 5] w fun e w' => e = .returned (.tuple #[.int .i64 (0), .int .i64 99999]) ∧ w' = w := by
  go_enter Tryd.func82, Tryd.ntmps82
  go_wp2
  exact bodyPost_ret (v := .tuple #[.int .i64 (0), .int .i64 99999]) (by simp [results, Tryd.results82, go_sem]) rfl ⟨rfl, rfl⟩
theorem bounds_6 (w : World) :
    Calls Tryd.prog 82 #[.int .i64 6] w fun e w' => e = .returned (.tuple #[.int .i64 (0), .int .i64 99999]) ∧ w' = w := by
  go_enter Tryd.func82, Tryd.ntmps82
  go_wp2
  exact bodyPost_ret (v := .tuple #[.int .i64 (0), .int .i64 99999]) (by simp [results, Tryd.results82, go_sem]) rfl ⟨rfl, rfl⟩
theorem bounds_7 (w : World) :
    Calls Tryd.prog 82 #[.int .i64 7] w fun e w' => e = .returned (.tuple #[.int .i64 (0), .int .i64 99999]) ∧ w' = w := by
  go_enter Tryd.func82, Tryd.ntmps82
  go_wp2
  exact bodyPost_ret (v := .tuple #[.int .i64 (0), .int .i64 99999]) (by simp [results, Tryd.results82, go_sem]) rfl ⟨rfl, rfl⟩
theorem bounds_8 (w : World) :
    Calls Tryd.prog 82 #[.int .i64 8] w fun e w' => e = .returned (.tuple #[.int .i64 (0), .int .i64 99999]) ∧ w' = w := by
  go_enter Tryd.func82, Tryd.ntmps82
  go_wp2
  exact bodyPost_ret (v := .tuple #[.int .i64 (0), .int .i64 99999]) (by simp [results, Tryd.results82, go_sem]) rfl ⟨rfl, rfl⟩
theorem bounds_9 (w : World) :
    Calls Tryd.prog 82 #[.int .i64 9] w fun e w' => e = .returned (.tuple #[.int .i64 (0), .int .i64 0]) ∧ w' = w := by
  go_enter Tryd.func82, Tryd.ntmps82
  go_wp2
  exact bodyPost_ret (v := .tuple #[.int .i64 (0), .int .i64 0]) (by simp [results, Tryd.results82, go_sem]) rfl ⟨rfl, rfl⟩
theorem word_out (n : Int) (z : ByteArray) (w : World) (k : Int) (k1 : (k == 1) = false) (k2 : (k == 2) = false) (k3 : (k == 3) = false) (k4 : (k == 4) = false) (k5 : (k == 5) = false) (k6 : (k == 6) = false) (k7 : (k == 7) = false) (k8 : (k == 8) = false) (k9 : (k == 9) = false) :
    Calls Tryd.prog 54 #[.agg #[.int .i64 k, .int .i64 n, .string z]] w fun e w' => e = .returned (.tuple #[.agg #[.int .u8 0, .int .u64 0], .int .i64 1]) ∧ Below w.heap.size w w' := by
  have HF : Hid _ := fun w => form_out n z w k k1 k2 k3 k4 k5 k6 k7 k8 k9
  go_enter Tryd.func54, Tryd.ntmps54
  go_wp2_with (first | (go_at_call 81; refine (HF.out _).mono ?_; rintro e w1 ⟨rfl, hb1⟩; obtain ⟨hc1, hf1⟩ := bcell hb1; have z1 : w.heap.size + 1 < w1.heap.size := (by have := hb1.size; simp at this; omega); have q0 : w1.cell? ⟨w.heap.size + 1, 0, none⟩ = some (.int .u8 0) := (by rw [hc1 _ _ (by simp), World.cell?_alloc_at _ _ _ _ (by simp)]; rfl); have q1 : w1.cell? ⟨w.heap.size + 1, 1, none⟩ = some (.int .u64 0) := (by rw [hc1 _ _ (by simp), World.cell?_alloc_at _ _ _ _ (by simp)]; rfl); have B1 : Below w.heap.size w w1 := Below.trans (by repeat (first | exact Below.refl _ _ | refine Below.setCell ?_ (by simp) _ | refine Below.alloc ?_ (by simp <;> omega) _ | refine Below.drew ?_)) (hb1.mono (by simp <;> omega)); clear hb1))
  exact bodyPost_ret (v := .tuple #[.agg #[.int .u8 0, .int .u64 0], .int .i64 1]) (by simp [results, Tryd.results54, go_sem, q0, q1]) rfl ⟨rfl, by repeat (first | refine Below.setCell ?_ (by simp <;> omega) _ | exact B1)⟩
theorem word_name1 (n : Int) (z : ByteArray) (w : World) (hm : (z.toList == []) = false) :
    Calls Tryd.prog 54 #[.agg #[.int .i64 1, .int .i64 n, .string z]] w fun e w' => e = .returned (.tuple #[.agg #[.int .u8 0, .int .u64 0], .int .i64 1]) ∧ Below w.heap.size w w' := by
  have HF : Hid _ := fun w => form_n1 n z w hm
  go_enter Tryd.func54, Tryd.ntmps54
  go_wp2_with (first | (go_at_call 81; refine (HF.out _).mono ?_; rintro e w1 ⟨rfl, hb1⟩; obtain ⟨hc1, hf1⟩ := bcell hb1; have z1 : w.heap.size + 1 < w1.heap.size := (by have := hb1.size; simp at this; omega); have q0 : w1.cell? ⟨w.heap.size + 1, 0, none⟩ = some (.int .u8 0) := (by rw [hc1 _ _ (by simp), World.cell?_alloc_at _ _ _ _ (by simp)]; rfl); have q1 : w1.cell? ⟨w.heap.size + 1, 1, none⟩ = some (.int .u64 0) := (by rw [hc1 _ _ (by simp), World.cell?_alloc_at _ _ _ _ (by simp)]; rfl); have B1 : Below w.heap.size w w1 := Below.trans (by repeat (first | exact Below.refl _ _ | refine Below.setCell ?_ (by simp) _ | refine Below.alloc ?_ (by simp <;> omega) _ | refine Below.drew ?_)) (hb1.mono (by simp <;> omega)); clear hb1) | (go_at_call 82; refine (bounds_1 _).mono ?_; rintro e w' ⟨rfl, rfl⟩))
  exact bodyPost_ret (v := .tuple #[.agg #[.int .u8 0, .int .u64 0], .int .i64 1]) (by simp [results, Tryd.results54, go_sem, q0, q1]) rfl ⟨rfl, by repeat (first | refine Below.setCell ?_ (by simp <;> omega) _ | exact B1)⟩
theorem word_lo1 (n : Int) (z : ByteArray) (w : World) (hm : (z.toList == []) = true) (h1 : n < -1000000000) :
    Calls Tryd.prog 54 #[.agg #[.int .i64 1, .int .i64 n, .string z]] w fun e w' => e = .returned (.tuple #[.agg #[.int .u8 0, .int .u64 0], .int .i64 3]) ∧ Below w.heap.size w w' := by
  have HF : Hid _ := fun w => form_y1 n z w hm
  go_enter Tryd.func54, Tryd.ntmps54
  go_wp2_with (first | (go_at_call 81; refine (HF.out _).mono ?_; rintro e w1 ⟨rfl, hb1⟩; obtain ⟨hc1, hf1⟩ := bcell hb1; have z1 : w.heap.size + 1 < w1.heap.size := (by have := hb1.size; simp at this; omega); have q0 : w1.cell? ⟨w.heap.size + 1, 0, none⟩ = some (.int .u8 0) := (by rw [hc1 _ _ (by simp), World.cell?_alloc_at _ _ _ _ (by simp)]; rfl); have q1 : w1.cell? ⟨w.heap.size + 1, 1, none⟩ = some (.int .u64 0) := (by rw [hc1 _ _ (by simp), World.cell?_alloc_at _ _ _ _ (by simp)]; rfl); have B1 : Below w.heap.size w w1 := Below.trans (by repeat (first | exact Below.refl _ _ | refine Below.setCell ?_ (by simp) _ | refine Below.alloc ?_ (by simp <;> omega) _ | refine Below.drew ?_)) (hb1.mono (by simp <;> omega)); clear hb1) | (go_at_call 82; refine (bounds_1 _).mono ?_; rintro e w' ⟨rfl, rfl⟩))
  exact bodyPost_ret (v := .tuple #[.agg #[.int .u8 0, .int .u64 0], .int .i64 3]) (by simp [results, Tryd.results54, go_sem, q0, q1]) rfl ⟨rfl, by repeat (first | refine Below.setCell ?_ (by simp <;> omega) _ | exact B1)⟩
theorem word_hi1 (n : Int) (z : ByteArray) (w : World) (hm : (z.toList == []) = true) (h1 : -1000000000 ≤ n) (h2 : 1000000000 < n) :
    Calls Tryd.prog 54 #[.agg #[.int .i64 1, .int .i64 n, .string z]] w fun e w' => e = .returned (.tuple #[.agg #[.int .u8 0, .int .u64 0], .int .i64 3]) ∧ Below w.heap.size w w' := by
  have HF : Hid _ := fun w => form_y1 n z w hm
  go_enter Tryd.func54, Tryd.ntmps54
  go_wp2_with (first | (go_at_call 81; refine (HF.out _).mono ?_; rintro e w1 ⟨rfl, hb1⟩; obtain ⟨hc1, hf1⟩ := bcell hb1; have z1 : w.heap.size + 1 < w1.heap.size := (by have := hb1.size; simp at this; omega); have q0 : w1.cell? ⟨w.heap.size + 1, 0, none⟩ = some (.int .u8 0) := (by rw [hc1 _ _ (by simp), World.cell?_alloc_at _ _ _ _ (by simp)]; rfl); have q1 : w1.cell? ⟨w.heap.size + 1, 1, none⟩ = some (.int .u64 0) := (by rw [hc1 _ _ (by simp), World.cell?_alloc_at _ _ _ _ (by simp)]; rfl); have B1 : Below w.heap.size w w1 := Below.trans (by repeat (first | exact Below.refl _ _ | refine Below.setCell ?_ (by simp) _ | refine Below.alloc ?_ (by simp <;> omega) _ | refine Below.drew ?_)) (hb1.mono (by simp <;> omega)); clear hb1) | (go_at_call 82; refine (bounds_1 _).mono ?_; rintro e w' ⟨rfl, rfl⟩))
  exact bodyPost_ret (v := .tuple #[.agg #[.int .u8 0, .int .u64 0], .int .i64 3]) (by simp [results, Tryd.results54, go_sem, q0, q1]) rfl ⟨rfl, by repeat (first | refine Below.setCell ?_ (by simp <;> omega) _ | exact B1)⟩
theorem word_ok1 (n : Int) (z : ByteArray) (w : World) (hm : (z.toList == []) = true) (h1 : -1000000000 ≤ n) (h2 : n ≤ 1000000000) :
    Calls Tryd.prog 54 #[.agg #[.int .i64 1, .int .i64 n, .string z]] w fun e w' => e = .returned (.tuple #[.agg #[.int .u8 1, .int .u64 (n - (-1000000000))], .int .i64 0]) ∧ Below w.heap.size w w' := by
  have HF : Hid _ := fun w => form_y1 n z w hm
  go_enter Tryd.func54, Tryd.ntmps54
  go_wp2_with (first | (go_at_call 81; refine (HF.out _).mono ?_; rintro e w1 ⟨rfl, hb1⟩; obtain ⟨hc1, hf1⟩ := bcell hb1; have z1 : w.heap.size + 1 < w1.heap.size := (by have := hb1.size; simp at this; omega); have q0 : w1.cell? ⟨w.heap.size + 1, 0, none⟩ = some (.int .u8 0) := (by rw [hc1 _ _ (by simp), World.cell?_alloc_at _ _ _ _ (by simp)]; rfl); have q1 : w1.cell? ⟨w.heap.size + 1, 1, none⟩ = some (.int .u64 0) := (by rw [hc1 _ _ (by simp), World.cell?_alloc_at _ _ _ _ (by simp)]; rfl); have B1 : Below w.heap.size w w1 := Below.trans (by repeat (first | exact Below.refl _ _ | refine Below.setCell ?_ (by simp) _ | refine Below.alloc ?_ (by simp <;> omega) _ | refine Below.drew ?_)) (hb1.mono (by simp <;> omega)); clear hb1) | (go_at_call 82; refine (bounds_1 _).mono ?_; rintro e w' ⟨rfl, rfl⟩))
  exact bodyPost_ret (v := .tuple #[.agg #[.int .u8 1, .int .u64 (n - (-1000000000))], .int .i64 0]) (by simp [results, Tryd.results54, go_sem, q0, q1]) rfl ⟨rfl, by repeat (first | refine Below.setCell ?_ (by simp <;> omega) _ | exact B1)⟩
theorem word_name2 (n : Int) (z : ByteArray) (w : World) (hm : (z.toList == []) = false) :
    Calls Tryd.prog 54 #[.agg #[.int .i64 2, .int .i64 n, .string z]] w fun e w' => e = .returned (.tuple #[.agg #[.int .u8 0, .int .u64 0], .int .i64 1]) ∧ Below w.heap.size w w' := by
  have HF : Hid _ := fun w => form_n2 n z w hm
  go_enter Tryd.func54, Tryd.ntmps54
  go_wp2_with (first | (go_at_call 81; refine (HF.out _).mono ?_; rintro e w1 ⟨rfl, hb1⟩; obtain ⟨hc1, hf1⟩ := bcell hb1; have z1 : w.heap.size + 1 < w1.heap.size := (by have := hb1.size; simp at this; omega); have q0 : w1.cell? ⟨w.heap.size + 1, 0, none⟩ = some (.int .u8 0) := (by rw [hc1 _ _ (by simp), World.cell?_alloc_at _ _ _ _ (by simp)]; rfl); have q1 : w1.cell? ⟨w.heap.size + 1, 1, none⟩ = some (.int .u64 0) := (by rw [hc1 _ _ (by simp), World.cell?_alloc_at _ _ _ _ (by simp)]; rfl); have B1 : Below w.heap.size w w1 := Below.trans (by repeat (first | exact Below.refl _ _ | refine Below.setCell ?_ (by simp) _ | refine Below.alloc ?_ (by simp <;> omega) _ | refine Below.drew ?_)) (hb1.mono (by simp <;> omega)); clear hb1) | (go_at_call 82; refine (bounds_2 _).mono ?_; rintro e w' ⟨rfl, rfl⟩))
  exact bodyPost_ret (v := .tuple #[.agg #[.int .u8 0, .int .u64 0], .int .i64 1]) (by simp [results, Tryd.results54, go_sem, q0, q1]) rfl ⟨rfl, by repeat (first | refine Below.setCell ?_ (by simp <;> omega) _ | exact B1)⟩
theorem word_lo2 (n : Int) (z : ByteArray) (w : World) (hm : (z.toList == []) = true) (h1 : n < 0) :
    Calls Tryd.prog 54 #[.agg #[.int .i64 2, .int .i64 n, .string z]] w fun e w' => e = .returned (.tuple #[.agg #[.int .u8 0, .int .u64 0], .int .i64 3]) ∧ Below w.heap.size w w' := by
  have HF : Hid _ := fun w => form_y2 n z w hm
  go_enter Tryd.func54, Tryd.ntmps54
  go_wp2_with (first | (go_at_call 81; refine (HF.out _).mono ?_; rintro e w1 ⟨rfl, hb1⟩; obtain ⟨hc1, hf1⟩ := bcell hb1; have z1 : w.heap.size + 1 < w1.heap.size := (by have := hb1.size; simp at this; omega); have q0 : w1.cell? ⟨w.heap.size + 1, 0, none⟩ = some (.int .u8 0) := (by rw [hc1 _ _ (by simp), World.cell?_alloc_at _ _ _ _ (by simp)]; rfl); have q1 : w1.cell? ⟨w.heap.size + 1, 1, none⟩ = some (.int .u64 0) := (by rw [hc1 _ _ (by simp), World.cell?_alloc_at _ _ _ _ (by simp)]; rfl); have B1 : Below w.heap.size w w1 := Below.trans (by repeat (first | exact Below.refl _ _ | refine Below.setCell ?_ (by simp) _ | refine Below.alloc ?_ (by simp <;> omega) _ | refine Below.drew ?_)) (hb1.mono (by simp <;> omega)); clear hb1) | (go_at_call 82; refine (bounds_2 _).mono ?_; rintro e w' ⟨rfl, rfl⟩))
  exact bodyPost_ret (v := .tuple #[.agg #[.int .u8 0, .int .u64 0], .int .i64 3]) (by simp [results, Tryd.results54, go_sem, q0, q1]) rfl ⟨rfl, by repeat (first | refine Below.setCell ?_ (by simp <;> omega) _ | exact B1)⟩
theorem word_hi2 (n : Int) (z : ByteArray) (w : World) (hm : (z.toList == []) = true) (h1 : 0 ≤ n) (h2 : 1 < n) :
    Calls Tryd.prog 54 #[.agg #[.int .i64 2, .int .i64 n, .string z]] w fun e w' => e = .returned (.tuple #[.agg #[.int .u8 0, .int .u64 0], .int .i64 3]) ∧ Below w.heap.size w w' := by
  have HF : Hid _ := fun w => form_y2 n z w hm
  go_enter Tryd.func54, Tryd.ntmps54
  go_wp2_with (first | (go_at_call 81; refine (HF.out _).mono ?_; rintro e w1 ⟨rfl, hb1⟩; obtain ⟨hc1, hf1⟩ := bcell hb1; have z1 : w.heap.size + 1 < w1.heap.size := (by have := hb1.size; simp at this; omega); have q0 : w1.cell? ⟨w.heap.size + 1, 0, none⟩ = some (.int .u8 0) := (by rw [hc1 _ _ (by simp), World.cell?_alloc_at _ _ _ _ (by simp)]; rfl); have q1 : w1.cell? ⟨w.heap.size + 1, 1, none⟩ = some (.int .u64 0) := (by rw [hc1 _ _ (by simp), World.cell?_alloc_at _ _ _ _ (by simp)]; rfl); have B1 : Below w.heap.size w w1 := Below.trans (by repeat (first | exact Below.refl _ _ | refine Below.setCell ?_ (by simp) _ | refine Below.alloc ?_ (by simp <;> omega) _ | refine Below.drew ?_)) (hb1.mono (by simp <;> omega)); clear hb1) | (go_at_call 82; refine (bounds_2 _).mono ?_; rintro e w' ⟨rfl, rfl⟩))
  exact bodyPost_ret (v := .tuple #[.agg #[.int .u8 0, .int .u64 0], .int .i64 3]) (by simp [results, Tryd.results54, go_sem, q0, q1]) rfl ⟨rfl, by repeat (first | refine Below.setCell ?_ (by simp <;> omega) _ | exact B1)⟩
theorem word_ok2 (n : Int) (z : ByteArray) (w : World) (hm : (z.toList == []) = true) (h1 : 0 ≤ n) (h2 : n ≤ 1) :
    Calls Tryd.prog 54 #[.agg #[.int .i64 2, .int .i64 n, .string z]] w fun e w' => e = .returned (.tuple #[.agg #[.int .u8 2, .int .u64 (n - (0))], .int .i64 0]) ∧ Below w.heap.size w w' := by
  have HF : Hid _ := fun w => form_y2 n z w hm
  go_enter Tryd.func54, Tryd.ntmps54
  go_wp2_with (first | (go_at_call 81; refine (HF.out _).mono ?_; rintro e w1 ⟨rfl, hb1⟩; obtain ⟨hc1, hf1⟩ := bcell hb1; have z1 : w.heap.size + 1 < w1.heap.size := (by have := hb1.size; simp at this; omega); have q0 : w1.cell? ⟨w.heap.size + 1, 0, none⟩ = some (.int .u8 0) := (by rw [hc1 _ _ (by simp), World.cell?_alloc_at _ _ _ _ (by simp)]; rfl); have q1 : w1.cell? ⟨w.heap.size + 1, 1, none⟩ = some (.int .u64 0) := (by rw [hc1 _ _ (by simp), World.cell?_alloc_at _ _ _ _ (by simp)]; rfl); have B1 : Below w.heap.size w w1 := Below.trans (by repeat (first | exact Below.refl _ _ | refine Below.setCell ?_ (by simp) _ | refine Below.alloc ?_ (by simp <;> omega) _ | refine Below.drew ?_)) (hb1.mono (by simp <;> omega)); clear hb1) | (go_at_call 82; refine (bounds_2 _).mono ?_; rintro e w' ⟨rfl, rfl⟩))
  exact bodyPost_ret (v := .tuple #[.agg #[.int .u8 2, .int .u64 (n - (0))], .int .i64 0]) (by simp [results, Tryd.results54, go_sem, q0, q1]) rfl ⟨rfl, by repeat (first | refine Below.setCell ?_ (by simp <;> omega) _ | exact B1)⟩
theorem word_name5 (n : Int) (z : ByteArray) (w : World) (hm : (z.toList == []) = false) :
    Calls Tryd.prog 54 #[.agg #[.int .i64 5, .int .i64 n, .string z]] w fun e w' => e = .returned (.tuple #[.agg #[.int .u8 0, .int .u64 0], .int .i64 1]) ∧ Below w.heap.size w w' := by
  have HF : Hid _ := fun w => form_n5 n z w hm
  go_enter Tryd.func54, Tryd.ntmps54
  go_wp2_with (first | (go_at_call 81; refine (HF.out _).mono ?_; rintro e w1 ⟨rfl, hb1⟩; obtain ⟨hc1, hf1⟩ := bcell hb1; have z1 : w.heap.size + 1 < w1.heap.size := (by have := hb1.size; simp at this; omega); have q0 : w1.cell? ⟨w.heap.size + 1, 0, none⟩ = some (.int .u8 0) := (by rw [hc1 _ _ (by simp), World.cell?_alloc_at _ _ _ _ (by simp)]; rfl); have q1 : w1.cell? ⟨w.heap.size + 1, 1, none⟩ = some (.int .u64 0) := (by rw [hc1 _ _ (by simp), World.cell?_alloc_at _ _ _ _ (by simp)]; rfl); have B1 : Below w.heap.size w w1 := Below.trans (by repeat (first | exact Below.refl _ _ | refine Below.setCell ?_ (by simp) _ | refine Below.alloc ?_ (by simp <;> omega) _ | refine Below.drew ?_)) (hb1.mono (by simp <;> omega)); clear hb1) | (go_at_call 82; refine (bounds_5 _).mono ?_; rintro e w' ⟨rfl, rfl⟩))
  exact bodyPost_ret (v := .tuple #[.agg #[.int .u8 0, .int .u64 0], .int .i64 1]) (by simp [results, Tryd.results54, go_sem, q0, q1]) rfl ⟨rfl, by repeat (first | refine Below.setCell ?_ (by simp <;> omega) _ | exact B1)⟩
theorem word_lo5 (n : Int) (z : ByteArray) (w : World) (hm : (z.toList == []) = true) (h1 : n < 0) :
    Calls Tryd.prog 54 #[.agg #[.int .i64 5, .int .i64 n, .string z]] w fun e w' => e = .returned (.tuple #[.agg #[.int .u8 0, .int .u64 0], .int .i64 3]) ∧ Below w.heap.size w w' := by
  have HF : Hid _ := fun w => form_y5 n z w hm
  go_enter Tryd.func54, Tryd.ntmps54
  go_wp2_with (first | (go_at_call 81; refine (HF.out _).mono ?_; rintro e w1 ⟨rfl, hb1⟩; obtain ⟨hc1, hf1⟩ := bcell hb1; have z1 : w.heap.size + 1 < w1.heap.size := (by have := hb1.size; simp at this; omega); have q0 : w1.cell? ⟨w.heap.size + 1, 0, none⟩ = some (.int .u8 0) := (by rw [hc1 _ _ (by simp), World.cell?_alloc_at _ _ _ _ (by simp)]; rfl); have q1 : w1.cell? ⟨w.heap.size + 1, 1, none⟩ = some (.int .u64 0) := (by rw [hc1 _ _ (by simp), World.cell?_alloc_at _ _ _ _ (by simp)]; rfl); have B1 : Below w.heap.size w w1 := Below.trans (by repeat (first | exact Below.refl _ _ | refine Below.setCell ?_ (by simp) _ | refine Below.alloc ?_ (by simp <;> omega) _ | refine Below.drew ?_)) (hb1.mono (by simp <;> omega)); clear hb1) | (go_at_call 82; refine (bounds_5 _).mono ?_; rintro e w' ⟨rfl, rfl⟩))
  exact bodyPost_ret (v := .tuple #[.agg #[.int .u8 0, .int .u64 0], .int .i64 3]) (by simp [results, Tryd.results54, go_sem, q0, q1]) rfl ⟨rfl, by repeat (first | refine Below.setCell ?_ (by simp <;> omega) _ | exact B1)⟩
theorem word_hi5 (n : Int) (z : ByteArray) (w : World) (hm : (z.toList == []) = true) (h1 : 0 ≤ n) (h2 : 99999 < n) :
    Calls Tryd.prog 54 #[.agg #[.int .i64 5, .int .i64 n, .string z]] w fun e w' => e = .returned (.tuple #[.agg #[.int .u8 0, .int .u64 0], .int .i64 3]) ∧ Below w.heap.size w w' := by
  have HF : Hid _ := fun w => form_y5 n z w hm
  go_enter Tryd.func54, Tryd.ntmps54
  go_wp2_with (first | (go_at_call 81; refine (HF.out _).mono ?_; rintro e w1 ⟨rfl, hb1⟩; obtain ⟨hc1, hf1⟩ := bcell hb1; have z1 : w.heap.size + 1 < w1.heap.size := (by have := hb1.size; simp at this; omega); have q0 : w1.cell? ⟨w.heap.size + 1, 0, none⟩ = some (.int .u8 0) := (by rw [hc1 _ _ (by simp), World.cell?_alloc_at _ _ _ _ (by simp)]; rfl); have q1 : w1.cell? ⟨w.heap.size + 1, 1, none⟩ = some (.int .u64 0) := (by rw [hc1 _ _ (by simp), World.cell?_alloc_at _ _ _ _ (by simp)]; rfl); have B1 : Below w.heap.size w w1 := Below.trans (by repeat (first | exact Below.refl _ _ | refine Below.setCell ?_ (by simp) _ | refine Below.alloc ?_ (by simp <;> omega) _ | refine Below.drew ?_)) (hb1.mono (by simp <;> omega)); clear hb1) | (go_at_call 82; refine (bounds_5 _).mono ?_; rintro e w' ⟨rfl, rfl⟩))
  exact bodyPost_ret (v := .tuple #[.agg #[.int .u8 0, .int .u64 0], .int .i64 3]) (by simp [results, Tryd.results54, go_sem, q0, q1]) rfl ⟨rfl, by repeat (first | refine Below.setCell ?_ (by simp <;> omega) _ | exact B1)⟩
theorem word_ok5 (n : Int) (z : ByteArray) (w : World) (hm : (z.toList == []) = true) (h1 : 0 ≤ n) (h2 : n ≤ 99999) :
    Calls Tryd.prog 54 #[.agg #[.int .i64 5, .int .i64 n, .string z]] w fun e w' => e = .returned (.tuple #[.agg #[.int .u8 5, .int .u64 (n - (0))], .int .i64 0]) ∧ Below w.heap.size w w' := by
  have HF : Hid _ := fun w => form_y5 n z w hm
  go_enter Tryd.func54, Tryd.ntmps54
  go_wp2_with (first | (go_at_call 81; refine (HF.out _).mono ?_; rintro e w1 ⟨rfl, hb1⟩; obtain ⟨hc1, hf1⟩ := bcell hb1; have z1 : w.heap.size + 1 < w1.heap.size := (by have := hb1.size; simp at this; omega); have q0 : w1.cell? ⟨w.heap.size + 1, 0, none⟩ = some (.int .u8 0) := (by rw [hc1 _ _ (by simp), World.cell?_alloc_at _ _ _ _ (by simp)]; rfl); have q1 : w1.cell? ⟨w.heap.size + 1, 1, none⟩ = some (.int .u64 0) := (by rw [hc1 _ _ (by simp), World.cell?_alloc_at _ _ _ _ (by simp)]; rfl); have B1 : Below w.heap.size w w1 := Below.trans (by repeat (first | exact Below.refl _ _ | refine Below.setCell ?_ (by simp) _ | refine Below.alloc ?_ (by simp <;> omega) _ | refine Below.drew ?_)) (hb1.mono (by simp <;> omega)); clear hb1) | (go_at_call 82; refine (bounds_5 _).mono ?_; rintro e w' ⟨rfl, rfl⟩))
  exact bodyPost_ret (v := .tuple #[.agg #[.int .u8 5, .int .u64 (n - (0))], .int .i64 0]) (by simp [results, Tryd.results54, go_sem, q0, q1]) rfl ⟨rfl, by repeat (first | refine Below.setCell ?_ (by simp <;> omega) _ | exact B1)⟩
theorem word_name6 (n : Int) (z : ByteArray) (w : World) (hm : (z.toList == []) = false) :
    Calls Tryd.prog 54 #[.agg #[.int .i64 6, .int .i64 n, .string z]] w fun e w' => e = .returned (.tuple #[.agg #[.int .u8 0, .int .u64 0], .int .i64 1]) ∧ Below w.heap.size w w' := by
  have HF : Hid _ := fun w => form_n6 n z w hm
  go_enter Tryd.func54, Tryd.ntmps54
  go_wp2_with (first | (go_at_call 81; refine (HF.out _).mono ?_; rintro e w1 ⟨rfl, hb1⟩; obtain ⟨hc1, hf1⟩ := bcell hb1; have z1 : w.heap.size + 1 < w1.heap.size := (by have := hb1.size; simp at this; omega); have q0 : w1.cell? ⟨w.heap.size + 1, 0, none⟩ = some (.int .u8 0) := (by rw [hc1 _ _ (by simp), World.cell?_alloc_at _ _ _ _ (by simp)]; rfl); have q1 : w1.cell? ⟨w.heap.size + 1, 1, none⟩ = some (.int .u64 0) := (by rw [hc1 _ _ (by simp), World.cell?_alloc_at _ _ _ _ (by simp)]; rfl); have B1 : Below w.heap.size w w1 := Below.trans (by repeat (first | exact Below.refl _ _ | refine Below.setCell ?_ (by simp) _ | refine Below.alloc ?_ (by simp <;> omega) _ | refine Below.drew ?_)) (hb1.mono (by simp <;> omega)); clear hb1) | (go_at_call 82; refine (bounds_6 _).mono ?_; rintro e w' ⟨rfl, rfl⟩))
  exact bodyPost_ret (v := .tuple #[.agg #[.int .u8 0, .int .u64 0], .int .i64 1]) (by simp [results, Tryd.results54, go_sem, q0, q1]) rfl ⟨rfl, by repeat (first | refine Below.setCell ?_ (by simp <;> omega) _ | exact B1)⟩
theorem word_lo6 (n : Int) (z : ByteArray) (w : World) (hm : (z.toList == []) = true) (h1 : n < 0) :
    Calls Tryd.prog 54 #[.agg #[.int .i64 6, .int .i64 n, .string z]] w fun e w' => e = .returned (.tuple #[.agg #[.int .u8 0, .int .u64 0], .int .i64 3]) ∧ Below w.heap.size w w' := by
  have HF : Hid _ := fun w => form_y6 n z w hm
  go_enter Tryd.func54, Tryd.ntmps54
  go_wp2_with (first | (go_at_call 81; refine (HF.out _).mono ?_; rintro e w1 ⟨rfl, hb1⟩; obtain ⟨hc1, hf1⟩ := bcell hb1; have z1 : w.heap.size + 1 < w1.heap.size := (by have := hb1.size; simp at this; omega); have q0 : w1.cell? ⟨w.heap.size + 1, 0, none⟩ = some (.int .u8 0) := (by rw [hc1 _ _ (by simp), World.cell?_alloc_at _ _ _ _ (by simp)]; rfl); have q1 : w1.cell? ⟨w.heap.size + 1, 1, none⟩ = some (.int .u64 0) := (by rw [hc1 _ _ (by simp), World.cell?_alloc_at _ _ _ _ (by simp)]; rfl); have B1 : Below w.heap.size w w1 := Below.trans (by repeat (first | exact Below.refl _ _ | refine Below.setCell ?_ (by simp) _ | refine Below.alloc ?_ (by simp <;> omega) _ | refine Below.drew ?_)) (hb1.mono (by simp <;> omega)); clear hb1) | (go_at_call 82; refine (bounds_6 _).mono ?_; rintro e w' ⟨rfl, rfl⟩))
  exact bodyPost_ret (v := .tuple #[.agg #[.int .u8 0, .int .u64 0], .int .i64 3]) (by simp [results, Tryd.results54, go_sem, q0, q1]) rfl ⟨rfl, by repeat (first | refine Below.setCell ?_ (by simp <;> omega) _ | exact B1)⟩
theorem word_hi6 (n : Int) (z : ByteArray) (w : World) (hm : (z.toList == []) = true) (h1 : 0 ≤ n) (h2 : 99999 < n) :
    Calls Tryd.prog 54 #[.agg #[.int .i64 6, .int .i64 n, .string z]] w fun e w' => e = .returned (.tuple #[.agg #[.int .u8 0, .int .u64 0], .int .i64 3]) ∧ Below w.heap.size w w' := by
  have HF : Hid _ := fun w => form_y6 n z w hm
  go_enter Tryd.func54, Tryd.ntmps54
  go_wp2_with (first | (go_at_call 81; refine (HF.out _).mono ?_; rintro e w1 ⟨rfl, hb1⟩; obtain ⟨hc1, hf1⟩ := bcell hb1; have z1 : w.heap.size + 1 < w1.heap.size := (by have := hb1.size; simp at this; omega); have q0 : w1.cell? ⟨w.heap.size + 1, 0, none⟩ = some (.int .u8 0) := (by rw [hc1 _ _ (by simp), World.cell?_alloc_at _ _ _ _ (by simp)]; rfl); have q1 : w1.cell? ⟨w.heap.size + 1, 1, none⟩ = some (.int .u64 0) := (by rw [hc1 _ _ (by simp), World.cell?_alloc_at _ _ _ _ (by simp)]; rfl); have B1 : Below w.heap.size w w1 := Below.trans (by repeat (first | exact Below.refl _ _ | refine Below.setCell ?_ (by simp) _ | refine Below.alloc ?_ (by simp <;> omega) _ | refine Below.drew ?_)) (hb1.mono (by simp <;> omega)); clear hb1) | (go_at_call 82; refine (bounds_6 _).mono ?_; rintro e w' ⟨rfl, rfl⟩))
  exact bodyPost_ret (v := .tuple #[.agg #[.int .u8 0, .int .u64 0], .int .i64 3]) (by simp [results, Tryd.results54, go_sem, q0, q1]) rfl ⟨rfl, by repeat (first | refine Below.setCell ?_ (by simp <;> omega) _ | exact B1)⟩
theorem word_ok6 (n : Int) (z : ByteArray) (w : World) (hm : (z.toList == []) = true) (h1 : 0 ≤ n) (h2 : n ≤ 99999) :
    Calls Tryd.prog 54 #[.agg #[.int .i64 6, .int .i64 n, .string z]] w fun e w' => e = .returned (.tuple #[.agg #[.int .u8 6, .int .u64 (n - (0))], .int .i64 0]) ∧ Below w.heap.size w w' := by
  have HF : Hid _ := fun w => form_y6 n z w hm
  go_enter Tryd.func54, Tryd.ntmps54
  go_wp2_with (first | (go_at_call 81; refine (HF.out _).mono ?_; rintro e w1 ⟨rfl, hb1⟩; obtain ⟨hc1, hf1⟩ := bcell hb1; have z1 : w.heap.size + 1 < w1.heap.size := (by have := hb1.size; simp at this; omega); have q0 : w1.cell? ⟨w.heap.size + 1, 0, none⟩ = some (.int .u8 0) := (by rw [hc1 _ _ (by simp), World.cell?_alloc_at _ _ _ _ (by simp)]; rfl); have q1 : w1.cell? ⟨w.heap.size + 1, 1, none⟩ = some (.int .u64 0) := (by rw [hc1 _ _ (by simp), World.cell?_alloc_at _ _ _ _ (by simp)]; rfl); have B1 : Below w.heap.size w w1 := Below.trans (by repeat (first | exact Below.refl _ _ | refine Below.setCell ?_ (by simp) _ | refine Below.alloc ?_ (by simp <;> omega) _ | refine Below.drew ?_)) (hb1.mono (by simp <;> omega)); clear hb1) | (go_at_call 82; refine (bounds_6 _).mono ?_; rintro e w' ⟨rfl, rfl⟩))
  exact bodyPost_ret (v := .tuple #[.agg #[.int .u8 6, .int .u64 (n - (0))], .int .i64 0]) (by simp [results, Tryd.results54, go_sem, q0, q1]) rfl ⟨rfl, by repeat (first | refine Below.setCell ?_ (by simp <;> omega) _ | exact B1)⟩
theorem word_name7 (n : Int) (z : ByteArray) (w : World) (hm : (z.toList == []) = false) :
    Calls Tryd.prog 54 #[.agg #[.int .i64 7, .int .i64 n, .string z]] w fun e w' => e = .returned (.tuple #[.agg #[.int .u8 0, .int .u64 0], .int .i64 1]) ∧ Below w.heap.size w w' := by
  have HF : Hid _ := fun w => form_n7 n z w hm
  go_enter Tryd.func54, Tryd.ntmps54
  go_wp2_with (first | (go_at_call 81; refine (HF.out _).mono ?_; rintro e w1 ⟨rfl, hb1⟩; obtain ⟨hc1, hf1⟩ := bcell hb1; have z1 : w.heap.size + 1 < w1.heap.size := (by have := hb1.size; simp at this; omega); have q0 : w1.cell? ⟨w.heap.size + 1, 0, none⟩ = some (.int .u8 0) := (by rw [hc1 _ _ (by simp), World.cell?_alloc_at _ _ _ _ (by simp)]; rfl); have q1 : w1.cell? ⟨w.heap.size + 1, 1, none⟩ = some (.int .u64 0) := (by rw [hc1 _ _ (by simp), World.cell?_alloc_at _ _ _ _ (by simp)]; rfl); have B1 : Below w.heap.size w w1 := Below.trans (by repeat (first | exact Below.refl _ _ | refine Below.setCell ?_ (by simp) _ | refine Below.alloc ?_ (by simp <;> omega) _ | refine Below.drew ?_)) (hb1.mono (by simp <;> omega)); clear hb1) | (go_at_call 82; refine (bounds_7 _).mono ?_; rintro e w' ⟨rfl, rfl⟩))
  exact bodyPost_ret (v := .tuple #[.agg #[.int .u8 0, .int .u64 0], .int .i64 1]) (by simp [results, Tryd.results54, go_sem, q0, q1]) rfl ⟨rfl, by repeat (first | refine Below.setCell ?_ (by simp <;> omega) _ | exact B1)⟩
theorem word_lo7 (n : Int) (z : ByteArray) (w : World) (hm : (z.toList == []) = true) (h1 : n < 0) :
    Calls Tryd.prog 54 #[.agg #[.int .i64 7, .int .i64 n, .string z]] w fun e w' => e = .returned (.tuple #[.agg #[.int .u8 0, .int .u64 0], .int .i64 3]) ∧ Below w.heap.size w w' := by
  have HF : Hid _ := fun w => form_y7 n z w hm
  go_enter Tryd.func54, Tryd.ntmps54
  go_wp2_with (first | (go_at_call 81; refine (HF.out _).mono ?_; rintro e w1 ⟨rfl, hb1⟩; obtain ⟨hc1, hf1⟩ := bcell hb1; have z1 : w.heap.size + 1 < w1.heap.size := (by have := hb1.size; simp at this; omega); have q0 : w1.cell? ⟨w.heap.size + 1, 0, none⟩ = some (.int .u8 0) := (by rw [hc1 _ _ (by simp), World.cell?_alloc_at _ _ _ _ (by simp)]; rfl); have q1 : w1.cell? ⟨w.heap.size + 1, 1, none⟩ = some (.int .u64 0) := (by rw [hc1 _ _ (by simp), World.cell?_alloc_at _ _ _ _ (by simp)]; rfl); have B1 : Below w.heap.size w w1 := Below.trans (by repeat (first | exact Below.refl _ _ | refine Below.setCell ?_ (by simp) _ | refine Below.alloc ?_ (by simp <;> omega) _ | refine Below.drew ?_)) (hb1.mono (by simp <;> omega)); clear hb1) | (go_at_call 82; refine (bounds_7 _).mono ?_; rintro e w' ⟨rfl, rfl⟩))
  exact bodyPost_ret (v := .tuple #[.agg #[.int .u8 0, .int .u64 0], .int .i64 3]) (by simp [results, Tryd.results54, go_sem, q0, q1]) rfl ⟨rfl, by repeat (first | refine Below.setCell ?_ (by simp <;> omega) _ | exact B1)⟩
theorem word_hi7 (n : Int) (z : ByteArray) (w : World) (hm : (z.toList == []) = true) (h1 : 0 ≤ n) (h2 : 99999 < n) :
    Calls Tryd.prog 54 #[.agg #[.int .i64 7, .int .i64 n, .string z]] w fun e w' => e = .returned (.tuple #[.agg #[.int .u8 0, .int .u64 0], .int .i64 3]) ∧ Below w.heap.size w w' := by
  have HF : Hid _ := fun w => form_y7 n z w hm
  go_enter Tryd.func54, Tryd.ntmps54
  go_wp2_with (first | (go_at_call 81; refine (HF.out _).mono ?_; rintro e w1 ⟨rfl, hb1⟩; obtain ⟨hc1, hf1⟩ := bcell hb1; have z1 : w.heap.size + 1 < w1.heap.size := (by have := hb1.size; simp at this; omega); have q0 : w1.cell? ⟨w.heap.size + 1, 0, none⟩ = some (.int .u8 0) := (by rw [hc1 _ _ (by simp), World.cell?_alloc_at _ _ _ _ (by simp)]; rfl); have q1 : w1.cell? ⟨w.heap.size + 1, 1, none⟩ = some (.int .u64 0) := (by rw [hc1 _ _ (by simp), World.cell?_alloc_at _ _ _ _ (by simp)]; rfl); have B1 : Below w.heap.size w w1 := Below.trans (by repeat (first | exact Below.refl _ _ | refine Below.setCell ?_ (by simp) _ | refine Below.alloc ?_ (by simp <;> omega) _ | refine Below.drew ?_)) (hb1.mono (by simp <;> omega)); clear hb1) | (go_at_call 82; refine (bounds_7 _).mono ?_; rintro e w' ⟨rfl, rfl⟩))
  exact bodyPost_ret (v := .tuple #[.agg #[.int .u8 0, .int .u64 0], .int .i64 3]) (by simp [results, Tryd.results54, go_sem, q0, q1]) rfl ⟨rfl, by repeat (first | refine Below.setCell ?_ (by simp <;> omega) _ | exact B1)⟩
theorem word_ok7 (n : Int) (z : ByteArray) (w : World) (hm : (z.toList == []) = true) (h1 : 0 ≤ n) (h2 : n ≤ 99999) :
    Calls Tryd.prog 54 #[.agg #[.int .i64 7, .int .i64 n, .string z]] w fun e w' => e = .returned (.tuple #[.agg #[.int .u8 7, .int .u64 (n - (0))], .int .i64 0]) ∧ Below w.heap.size w w' := by
  have HF : Hid _ := fun w => form_y7 n z w hm
  go_enter Tryd.func54, Tryd.ntmps54
  go_wp2_with (first | (go_at_call 81; refine (HF.out _).mono ?_; rintro e w1 ⟨rfl, hb1⟩; obtain ⟨hc1, hf1⟩ := bcell hb1; have z1 : w.heap.size + 1 < w1.heap.size := (by have := hb1.size; simp at this; omega); have q0 : w1.cell? ⟨w.heap.size + 1, 0, none⟩ = some (.int .u8 0) := (by rw [hc1 _ _ (by simp), World.cell?_alloc_at _ _ _ _ (by simp)]; rfl); have q1 : w1.cell? ⟨w.heap.size + 1, 1, none⟩ = some (.int .u64 0) := (by rw [hc1 _ _ (by simp), World.cell?_alloc_at _ _ _ _ (by simp)]; rfl); have B1 : Below w.heap.size w w1 := Below.trans (by repeat (first | exact Below.refl _ _ | refine Below.setCell ?_ (by simp) _ | refine Below.alloc ?_ (by simp <;> omega) _ | refine Below.drew ?_)) (hb1.mono (by simp <;> omega)); clear hb1) | (go_at_call 82; refine (bounds_7 _).mono ?_; rintro e w' ⟨rfl, rfl⟩))
  exact bodyPost_ret (v := .tuple #[.agg #[.int .u8 7, .int .u64 (n - (0))], .int .i64 0]) (by simp [results, Tryd.results54, go_sem, q0, q1]) rfl ⟨rfl, by repeat (first | refine Below.setCell ?_ (by simp <;> omega) _ | exact B1)⟩
theorem word_name8 (n : Int) (z : ByteArray) (w : World) (hm : (z.toList == []) = false) :
    Calls Tryd.prog 54 #[.agg #[.int .i64 8, .int .i64 n, .string z]] w fun e w' => e = .returned (.tuple #[.agg #[.int .u8 0, .int .u64 0], .int .i64 1]) ∧ Below w.heap.size w w' := by
  have HF : Hid _ := fun w => form_n8 n z w hm
  go_enter Tryd.func54, Tryd.ntmps54
  go_wp2_with (first | (go_at_call 81; refine (HF.out _).mono ?_; rintro e w1 ⟨rfl, hb1⟩; obtain ⟨hc1, hf1⟩ := bcell hb1; have z1 : w.heap.size + 1 < w1.heap.size := (by have := hb1.size; simp at this; omega); have q0 : w1.cell? ⟨w.heap.size + 1, 0, none⟩ = some (.int .u8 0) := (by rw [hc1 _ _ (by simp), World.cell?_alloc_at _ _ _ _ (by simp)]; rfl); have q1 : w1.cell? ⟨w.heap.size + 1, 1, none⟩ = some (.int .u64 0) := (by rw [hc1 _ _ (by simp), World.cell?_alloc_at _ _ _ _ (by simp)]; rfl); have B1 : Below w.heap.size w w1 := Below.trans (by repeat (first | exact Below.refl _ _ | refine Below.setCell ?_ (by simp) _ | refine Below.alloc ?_ (by simp <;> omega) _ | refine Below.drew ?_)) (hb1.mono (by simp <;> omega)); clear hb1) | (go_at_call 82; refine (bounds_8 _).mono ?_; rintro e w' ⟨rfl, rfl⟩))
  exact bodyPost_ret (v := .tuple #[.agg #[.int .u8 0, .int .u64 0], .int .i64 1]) (by simp [results, Tryd.results54, go_sem, q0, q1]) rfl ⟨rfl, by repeat (first | refine Below.setCell ?_ (by simp <;> omega) _ | exact B1)⟩
theorem word_lo8 (n : Int) (z : ByteArray) (w : World) (hm : (z.toList == []) = true) (h1 : n < 0) :
    Calls Tryd.prog 54 #[.agg #[.int .i64 8, .int .i64 n, .string z]] w fun e w' => e = .returned (.tuple #[.agg #[.int .u8 0, .int .u64 0], .int .i64 3]) ∧ Below w.heap.size w w' := by
  have HF : Hid _ := fun w => form_y8 n z w hm
  go_enter Tryd.func54, Tryd.ntmps54
  go_wp2_with (first | (go_at_call 81; refine (HF.out _).mono ?_; rintro e w1 ⟨rfl, hb1⟩; obtain ⟨hc1, hf1⟩ := bcell hb1; have z1 : w.heap.size + 1 < w1.heap.size := (by have := hb1.size; simp at this; omega); have q0 : w1.cell? ⟨w.heap.size + 1, 0, none⟩ = some (.int .u8 0) := (by rw [hc1 _ _ (by simp), World.cell?_alloc_at _ _ _ _ (by simp)]; rfl); have q1 : w1.cell? ⟨w.heap.size + 1, 1, none⟩ = some (.int .u64 0) := (by rw [hc1 _ _ (by simp), World.cell?_alloc_at _ _ _ _ (by simp)]; rfl); have B1 : Below w.heap.size w w1 := Below.trans (by repeat (first | exact Below.refl _ _ | refine Below.setCell ?_ (by simp) _ | refine Below.alloc ?_ (by simp <;> omega) _ | refine Below.drew ?_)) (hb1.mono (by simp <;> omega)); clear hb1) | (go_at_call 82; refine (bounds_8 _).mono ?_; rintro e w' ⟨rfl, rfl⟩))
  exact bodyPost_ret (v := .tuple #[.agg #[.int .u8 0, .int .u64 0], .int .i64 3]) (by simp [results, Tryd.results54, go_sem, q0, q1]) rfl ⟨rfl, by repeat (first | refine Below.setCell ?_ (by simp <;> omega) _ | exact B1)⟩
theorem word_hi8 (n : Int) (z : ByteArray) (w : World) (hm : (z.toList == []) = true) (h1 : 0 ≤ n) (h2 : 99999 < n) :
    Calls Tryd.prog 54 #[.agg #[.int .i64 8, .int .i64 n, .string z]] w fun e w' => e = .returned (.tuple #[.agg #[.int .u8 0, .int .u64 0], .int .i64 3]) ∧ Below w.heap.size w w' := by
  have HF : Hid _ := fun w => form_y8 n z w hm
  go_enter Tryd.func54, Tryd.ntmps54
  go_wp2_with (first | (go_at_call 81; refine (HF.out _).mono ?_; rintro e w1 ⟨rfl, hb1⟩; obtain ⟨hc1, hf1⟩ := bcell hb1; have z1 : w.heap.size + 1 < w1.heap.size := (by have := hb1.size; simp at this; omega); have q0 : w1.cell? ⟨w.heap.size + 1, 0, none⟩ = some (.int .u8 0) := (by rw [hc1 _ _ (by simp), World.cell?_alloc_at _ _ _ _ (by simp)]; rfl); have q1 : w1.cell? ⟨w.heap.size + 1, 1, none⟩ = some (.int .u64 0) := (by rw [hc1 _ _ (by simp), World.cell?_alloc_at _ _ _ _ (by simp)]; rfl); have B1 : Below w.heap.size w w1 := Below.trans (by repeat (first | exact Below.refl _ _ | refine Below.setCell ?_ (by simp) _ | refine Below.alloc ?_ (by simp <;> omega) _ | refine Below.drew ?_)) (hb1.mono (by simp <;> omega)); clear hb1) | (go_at_call 82; refine (bounds_8 _).mono ?_; rintro e w' ⟨rfl, rfl⟩))
  exact bodyPost_ret (v := .tuple #[.agg #[.int .u8 0, .int .u64 0], .int .i64 3]) (by simp [results, Tryd.results54, go_sem, q0, q1]) rfl ⟨rfl, by repeat (first | refine Below.setCell ?_ (by simp <;> omega) _ | exact B1)⟩
theorem word_ok8 (n : Int) (z : ByteArray) (w : World) (hm : (z.toList == []) = true) (h1 : 0 ≤ n) (h2 : n ≤ 99999) :
    Calls Tryd.prog 54 #[.agg #[.int .i64 8, .int .i64 n, .string z]] w fun e w' => e = .returned (.tuple #[.agg #[.int .u8 8, .int .u64 (n - (0))], .int .i64 0]) ∧ Below w.heap.size w w' := by
  have HF : Hid _ := fun w => form_y8 n z w hm
  go_enter Tryd.func54, Tryd.ntmps54
  go_wp2_with (first | (go_at_call 81; refine (HF.out _).mono ?_; rintro e w1 ⟨rfl, hb1⟩; obtain ⟨hc1, hf1⟩ := bcell hb1; have z1 : w.heap.size + 1 < w1.heap.size := (by have := hb1.size; simp at this; omega); have q0 : w1.cell? ⟨w.heap.size + 1, 0, none⟩ = some (.int .u8 0) := (by rw [hc1 _ _ (by simp), World.cell?_alloc_at _ _ _ _ (by simp)]; rfl); have q1 : w1.cell? ⟨w.heap.size + 1, 1, none⟩ = some (.int .u64 0) := (by rw [hc1 _ _ (by simp), World.cell?_alloc_at _ _ _ _ (by simp)]; rfl); have B1 : Below w.heap.size w w1 := Below.trans (by repeat (first | exact Below.refl _ _ | refine Below.setCell ?_ (by simp) _ | refine Below.alloc ?_ (by simp <;> omega) _ | refine Below.drew ?_)) (hb1.mono (by simp <;> omega)); clear hb1) | (go_at_call 82; refine (bounds_8 _).mono ?_; rintro e w' ⟨rfl, rfl⟩))
  exact bodyPost_ret (v := .tuple #[.agg #[.int .u8 8, .int .u64 (n - (0))], .int .i64 0]) (by simp [results, Tryd.results54, go_sem, q0, q1]) rfl ⟨rfl, by repeat (first | refine Below.setCell ?_ (by simp <;> omega) _ | exact B1)⟩
theorem word_num3 (n : Int) (z : ByteArray) (w : World) (h0 : (n == 0) = false) :
    Calls Tryd.prog 54 #[.agg #[.int .i64 3, .int .i64 n, .string z]] w fun e w' => e = .returned (.tuple #[.agg #[.int .u8 0, .int .u64 0], .int .i64 1]) ∧ Below w.heap.size w w' := by
  have HF : Hid _ := fun w => form_n3 n z w h0
  go_enter Tryd.func54, Tryd.ntmps54
  go_wp2_with (first | (go_at_call 81; refine (HF.out _).mono ?_; rintro e w1 ⟨rfl, hb1⟩; obtain ⟨hc1, hf1⟩ := bcell hb1; have z1 : w.heap.size + 1 < w1.heap.size := (by have := hb1.size; simp at this; omega); have q0 : w1.cell? ⟨w.heap.size + 1, 0, none⟩ = some (.int .u8 0) := (by rw [hc1 _ _ (by simp), World.cell?_alloc_at _ _ _ _ (by simp)]; rfl); have q1 : w1.cell? ⟨w.heap.size + 1, 1, none⟩ = some (.int .u64 0) := (by rw [hc1 _ _ (by simp), World.cell?_alloc_at _ _ _ _ (by simp)]; rfl); have B1 : Below w.heap.size w w1 := Below.trans (by repeat (first | exact Below.refl _ _ | refine Below.setCell ?_ (by simp) _ | refine Below.alloc ?_ (by simp <;> omega) _ | refine Below.drew ?_)) (hb1.mono (by simp <;> omega)); clear hb1) | (go_at_call 82; refine (bounds_3 _).mono ?_; rintro e w' ⟨rfl, rfl⟩))
  exact bodyPost_ret (v := .tuple #[.agg #[.int .u8 0, .int .u64 0], .int .i64 1]) (by simp [results, Tryd.results54, go_sem, q0, q1]) rfl ⟨rfl, by repeat (first | refine Below.setCell ?_ (by simp <;> omega) _ | exact B1)⟩
theorem word_name3 (n : Int) (z : ByteArray) (w : World) (h0 : n = 0) (hm : (z.toList == []) = false) :
    Calls Tryd.prog 54 #[.agg #[.int .i64 3, .int .i64 n, .string z]] w fun e w' => e = .returned (.tuple #[.agg #[.int .u8 0, .int .u64 0], .int .i64 1]) ∧ Below w.heap.size w w' := by
  have HF : Hid _ := fun w => form_m3 n z w h0 hm
  subst h0
  go_enter Tryd.func54, Tryd.ntmps54
  go_wp2_with (first | (go_at_call 81; refine (HF.out _).mono ?_; rintro e w1 ⟨rfl, hb1⟩; obtain ⟨hc1, hf1⟩ := bcell hb1; have z1 : w.heap.size + 1 < w1.heap.size := (by have := hb1.size; simp at this; omega); have q0 : w1.cell? ⟨w.heap.size + 1, 0, none⟩ = some (.int .u8 0) := (by rw [hc1 _ _ (by simp), World.cell?_alloc_at _ _ _ _ (by simp)]; rfl); have q1 : w1.cell? ⟨w.heap.size + 1, 1, none⟩ = some (.int .u64 0) := (by rw [hc1 _ _ (by simp), World.cell?_alloc_at _ _ _ _ (by simp)]; rfl); have B1 : Below w.heap.size w w1 := Below.trans (by repeat (first | exact Below.refl _ _ | refine Below.setCell ?_ (by simp) _ | refine Below.alloc ?_ (by simp <;> omega) _ | refine Below.drew ?_)) (hb1.mono (by simp <;> omega)); clear hb1) | (go_at_call 82; refine (bounds_3 _).mono ?_; rintro e w' ⟨rfl, rfl⟩))
  exact bodyPost_ret (v := .tuple #[.agg #[.int .u8 0, .int .u64 0], .int .i64 1]) (by simp [results, Tryd.results54, go_sem, q0, q1]) rfl ⟨rfl, by repeat (first | refine Below.setCell ?_ (by simp <;> omega) _ | exact B1)⟩
theorem word_ok3 (n : Int) (z : ByteArray) (w : World) (h0 : n = 0) (hm : (z.toList == []) = true) :
    Calls Tryd.prog 54 #[.agg #[.int .i64 3, .int .i64 n, .string z]] w fun e w' => e = .returned (.tuple #[.agg #[.int .u8 3, .int .u64 0], .int .i64 0]) ∧ Below w.heap.size w w' := by
  have HF : Hid _ := fun w => form_y3 n z w h0 hm
  subst h0
  go_enter Tryd.func54, Tryd.ntmps54
  go_wp2_with (first | (go_at_call 81; refine (HF.out _).mono ?_; rintro e w1 ⟨rfl, hb1⟩; obtain ⟨hc1, hf1⟩ := bcell hb1; have z1 : w.heap.size + 1 < w1.heap.size := (by have := hb1.size; simp at this; omega); have q0 : w1.cell? ⟨w.heap.size + 1, 0, none⟩ = some (.int .u8 0) := (by rw [hc1 _ _ (by simp), World.cell?_alloc_at _ _ _ _ (by simp)]; rfl); have q1 : w1.cell? ⟨w.heap.size + 1, 1, none⟩ = some (.int .u64 0) := (by rw [hc1 _ _ (by simp), World.cell?_alloc_at _ _ _ _ (by simp)]; rfl); have B1 : Below w.heap.size w w1 := Below.trans (by repeat (first | exact Below.refl _ _ | refine Below.setCell ?_ (by simp) _ | refine Below.alloc ?_ (by simp <;> omega) _ | refine Below.drew ?_)) (hb1.mono (by simp <;> omega)); clear hb1) | (go_at_call 82; refine (bounds_3 _).mono ?_; rintro e w' ⟨rfl, rfl⟩))
  exact bodyPost_ret (v := .tuple #[.agg #[.int .u8 3, .int .u64 0], .int .i64 0]) (by simp [results, Tryd.results54, go_sem, q0, q1]) rfl ⟨rfl, by repeat (first | refine Below.setCell ?_ (by simp <;> omega) _ | exact B1)⟩
theorem word_num9 (n : Int) (z : ByteArray) (w : World) (h0 : (n == 0) = false) :
    Calls Tryd.prog 54 #[.agg #[.int .i64 9, .int .i64 n, .string z]] w fun e w' => e = .returned (.tuple #[.agg #[.int .u8 0, .int .u64 0], .int .i64 1]) ∧ Below w.heap.size w w' := by
  have HF : Hid _ := fun w => form_n9 n z w h0
  go_enter Tryd.func54, Tryd.ntmps54
  go_wp2_with (first | (go_at_call 81; refine (HF.out _).mono ?_; rintro e w1 ⟨rfl, hb1⟩; obtain ⟨hc1, hf1⟩ := bcell hb1; have z1 : w.heap.size + 1 < w1.heap.size := (by have := hb1.size; simp at this; omega); have q0 : w1.cell? ⟨w.heap.size + 1, 0, none⟩ = some (.int .u8 0) := (by rw [hc1 _ _ (by simp), World.cell?_alloc_at _ _ _ _ (by simp)]; rfl); have q1 : w1.cell? ⟨w.heap.size + 1, 1, none⟩ = some (.int .u64 0) := (by rw [hc1 _ _ (by simp), World.cell?_alloc_at _ _ _ _ (by simp)]; rfl); have B1 : Below w.heap.size w w1 := Below.trans (by repeat (first | exact Below.refl _ _ | refine Below.setCell ?_ (by simp) _ | refine Below.alloc ?_ (by simp <;> omega) _ | refine Below.drew ?_)) (hb1.mono (by simp <;> omega)); clear hb1) | (go_at_call 82; refine (bounds_9 _).mono ?_; rintro e w' ⟨rfl, rfl⟩))
  exact bodyPost_ret (v := .tuple #[.agg #[.int .u8 0, .int .u64 0], .int .i64 1]) (by simp [results, Tryd.results54, go_sem, q0, q1]) rfl ⟨rfl, by repeat (first | refine Below.setCell ?_ (by simp <;> omega) _ | exact B1)⟩
theorem word_name9 (n : Int) (z : ByteArray) (w : World) (h0 : n = 0) (hm : (z.toList == []) = false) :
    Calls Tryd.prog 54 #[.agg #[.int .i64 9, .int .i64 n, .string z]] w fun e w' => e = .returned (.tuple #[.agg #[.int .u8 0, .int .u64 0], .int .i64 1]) ∧ Below w.heap.size w w' := by
  have HF : Hid _ := fun w => form_m9 n z w h0 hm
  subst h0
  go_enter Tryd.func54, Tryd.ntmps54
  go_wp2_with (first | (go_at_call 81; refine (HF.out _).mono ?_; rintro e w1 ⟨rfl, hb1⟩; obtain ⟨hc1, hf1⟩ := bcell hb1; have z1 : w.heap.size + 1 < w1.heap.size := (by have := hb1.size; simp at this; omega); have q0 : w1.cell? ⟨w.heap.size + 1, 0, none⟩ = some (.int .u8 0) := (by rw [hc1 _ _ (by simp), World.cell?_alloc_at _ _ _ _ (by simp)]; rfl); have q1 : w1.cell? ⟨w.heap.size + 1, 1, none⟩ = some (.int .u64 0) := (by rw [hc1 _ _ (by simp), World.cell?_alloc_at _ _ _ _ (by simp)]; rfl); have B1 : Below w.heap.size w w1 := Below.trans (by repeat (first | exact Below.refl _ _ | refine Below.setCell ?_ (by simp) _ | refine Below.alloc ?_ (by simp <;> omega) _ | refine Below.drew ?_)) (hb1.mono (by simp <;> omega)); clear hb1) | (go_at_call 82; refine (bounds_9 _).mono ?_; rintro e w' ⟨rfl, rfl⟩))
  exact bodyPost_ret (v := .tuple #[.agg #[.int .u8 0, .int .u64 0], .int .i64 1]) (by simp [results, Tryd.results54, go_sem, q0, q1]) rfl ⟨rfl, by repeat (first | refine Below.setCell ?_ (by simp <;> omega) _ | exact B1)⟩
theorem word_ok9 (n : Int) (z : ByteArray) (w : World) (h0 : n = 0) (hm : (z.toList == []) = true) :
    Calls Tryd.prog 54 #[.agg #[.int .i64 9, .int .i64 n, .string z]] w fun e w' => e = .returned (.tuple #[.agg #[.int .u8 9, .int .u64 0], .int .i64 0]) ∧ Below w.heap.size w w' := by
  have HF : Hid _ := fun w => form_y9 n z w h0 hm
  subst h0
  go_enter Tryd.func54, Tryd.ntmps54
  go_wp2_with (first | (go_at_call 81; refine (HF.out _).mono ?_; rintro e w1 ⟨rfl, hb1⟩; obtain ⟨hc1, hf1⟩ := bcell hb1; have z1 : w.heap.size + 1 < w1.heap.size := (by have := hb1.size; simp at this; omega); have q0 : w1.cell? ⟨w.heap.size + 1, 0, none⟩ = some (.int .u8 0) := (by rw [hc1 _ _ (by simp), World.cell?_alloc_at _ _ _ _ (by simp)]; rfl); have q1 : w1.cell? ⟨w.heap.size + 1, 1, none⟩ = some (.int .u64 0) := (by rw [hc1 _ _ (by simp), World.cell?_alloc_at _ _ _ _ (by simp)]; rfl); have B1 : Below w.heap.size w w1 := Below.trans (by repeat (first | exact Below.refl _ _ | refine Below.setCell ?_ (by simp) _ | refine Below.alloc ?_ (by simp <;> omega) _ | refine Below.drew ?_)) (hb1.mono (by simp <;> omega)); clear hb1) | (go_at_call 82; refine (bounds_9 _).mono ?_; rintro e w' ⟨rfl, rfl⟩))
  exact bodyPost_ret (v := .tuple #[.agg #[.int .u8 9, .int .u64 0], .int .i64 0]) (by simp [results, Tryd.results54, go_sem, q0, q1]) rfl ⟨rfl, by repeat (first | refine Below.setCell ?_ (by simp <;> omega) _ | exact B1)⟩
theorem word_num4 (n : Int) (z : ByteArray) (w : World) (h0 : (n == 0) = false) :
    Calls Tryd.prog 54 #[.agg #[.int .i64 4, .int .i64 n, .string z]] w fun e w' => e = .returned (.tuple #[.agg #[.int .u8 0, .int .u64 0], .int .i64 1]) ∧ Below w.heap.size w w' := by
  have HF : Hid _ := fun w => form_n4 n z w h0
  go_enter Tryd.func54, Tryd.ntmps54
  go_wp2_with (first | (go_at_call 81; refine (HF.out _).mono ?_; rintro e w1 ⟨rfl, hb1⟩; obtain ⟨hc1, hf1⟩ := bcell hb1; have z1 : w.heap.size + 1 < w1.heap.size := (by have := hb1.size; simp at this; omega); have q0 : w1.cell? ⟨w.heap.size + 1, 0, none⟩ = some (.int .u8 0) := (by rw [hc1 _ _ (by simp), World.cell?_alloc_at _ _ _ _ (by simp)]; rfl); have q1 : w1.cell? ⟨w.heap.size + 1, 1, none⟩ = some (.int .u64 0) := (by rw [hc1 _ _ (by simp), World.cell?_alloc_at _ _ _ _ (by simp)]; rfl); have B1 : Below w.heap.size w w1 := Below.trans (by repeat (first | exact Below.refl _ _ | refine Below.setCell ?_ (by simp) _ | refine Below.alloc ?_ (by simp <;> omega) _ | refine Below.drew ?_)) (hb1.mono (by simp <;> omega)); clear hb1) | (go_at_call 82; refine (bounds_4 _).mono ?_; rintro e w' ⟨rfl, rfl⟩))
  exact bodyPost_ret (v := .tuple #[.agg #[.int .u8 0, .int .u64 0], .int .i64 1]) (by simp [results, Tryd.results54, go_sem, q0, q1]) rfl ⟨rfl, by repeat (first | refine Below.setCell ?_ (by simp <;> omega) _ | exact B1)⟩
theorem word_no4 (n : Int) (z : ByteArray) (w : World) (hz : z.size ≤ 9223372036854775807) (h0 : n = 0) (hy : symL z.data.toList = false) :
    Calls Tryd.prog 54 #[.agg #[.int .i64 4, .int .i64 n, .string z]] w fun e w' => e = .returned (.tuple #[.agg #[.int .u8 0, .int .u64 0], .int .i64 5]) ∧ Below w.heap.size w w' := by
  have HF : Hid _ := fun w => form_y4 n z w h0
  have HS : Hid (∀ w, Calls Tryd.prog 83 #[.string z] w fun e w' => e = .returned (.int .i64 5) ∧ w' = w) := fun w => by have := implSym_any z w hz; rw [hy] at this; exact this
  subst h0
  go_enter Tryd.func54, Tryd.ntmps54
  go_wp2_with (first | (go_at_call 81; refine (HF.out _).mono ?_; rintro e w1 ⟨rfl, hb1⟩; obtain ⟨hc1, hf1⟩ := bcell hb1; have z1 : w.heap.size + 1 < w1.heap.size := (by have := hb1.size; simp at this; omega); have q0 : w1.cell? ⟨w.heap.size + 1, 0, none⟩ = some (.int .u8 0) := (by rw [hc1 _ _ (by simp), World.cell?_alloc_at _ _ _ _ (by simp)]; rfl); have q1 : w1.cell? ⟨w.heap.size + 1, 1, none⟩ = some (.int .u64 0) := (by rw [hc1 _ _ (by simp), World.cell?_alloc_at _ _ _ _ (by simp)]; rfl); have B1 : Below w.heap.size w w1 := Below.trans (by repeat (first | exact Below.refl _ _ | refine Below.setCell ?_ (by simp) _ | refine Below.alloc ?_ (by simp <;> omega) _ | refine Below.drew ?_)) (hb1.mono (by simp <;> omega)); clear hb1) | (go_at_call 82; refine (bounds_4 _).mono ?_; rintro e w' ⟨rfl, rfl⟩) | (go_at_call 83; refine (HS.out _).mono ?_; rintro e w' ⟨rfl, rfl⟩))
  exact bodyPost_ret (v := .tuple #[.agg #[.int .u8 0, .int .u64 0], .int .i64 5]) (by simp [results, Tryd.results54, go_sem, q0, q1]) rfl ⟨rfl, by repeat (first | refine Below.setCell ?_ (by simp <;> omega) _ | exact B1)⟩
theorem word_ok4 (n : Int) (z : ByteArray) (w : World) (hz : z.size ≤ 9223372036854775807) (h0 : n = 0) (hy : symL z.data.toList = true) :
    Calls Tryd.prog 54 #[.agg #[.int .i64 4, .int .i64 n, .string z]] w fun e w' => e = .returned (.tuple #[.agg #[.int .u8 4, .int .u64 (bitsL z.data.toList : Int)], .int .i64 0]) ∧ Below w.heap.size w w' := by
  have HF : Hid _ := fun w => form_y4 n z w h0
  have HS : Hid (∀ w, Calls Tryd.prog 83 #[.string z] w fun e w' => e = .returned (.int .i64 0) ∧ w' = w) := fun w => by have := implSym_any z w hz; rw [hy] at this; exact this
  have HBt : Hid (∀ w, Calls Tryd.prog 84 #[.string z] w fun e w' => e = .returned (.int .u64 (bitsL z.data.toList : Int)) ∧ w' = w) := fun w => bits_any z w hy
  subst h0
  go_enter Tryd.func54, Tryd.ntmps54
  go_wp2_with (first | (go_at_call 81; refine (HF.out _).mono ?_; rintro e w1 ⟨rfl, hb1⟩; obtain ⟨hc1, hf1⟩ := bcell hb1; have z1 : w.heap.size + 1 < w1.heap.size := (by have := hb1.size; simp at this; omega); have q0 : w1.cell? ⟨w.heap.size + 1, 0, none⟩ = some (.int .u8 0) := (by rw [hc1 _ _ (by simp), World.cell?_alloc_at _ _ _ _ (by simp)]; rfl); have q1 : w1.cell? ⟨w.heap.size + 1, 1, none⟩ = some (.int .u64 0) := (by rw [hc1 _ _ (by simp), World.cell?_alloc_at _ _ _ _ (by simp)]; rfl); have B1 : Below w.heap.size w w1 := Below.trans (by repeat (first | exact Below.refl _ _ | refine Below.setCell ?_ (by simp) _ | refine Below.alloc ?_ (by simp <;> omega) _ | refine Below.drew ?_)) (hb1.mono (by simp <;> omega)); clear hb1) | (go_at_call 82; refine (bounds_4 _).mono ?_; rintro e w' ⟨rfl, rfl⟩) | (go_at_call 83; refine (HS.out _).mono ?_; rintro e w' ⟨rfl, rfl⟩) | (go_at_call 84; refine (HBt.out _).mono ?_; rintro e w' ⟨rfl, rfl⟩))
  exact bodyPost_ret (v := .tuple #[.agg #[.int .u8 4, .int .u64 (bitsL z.data.toList : Int)], .int .i64 0]) (by simp [results, Tryd.results54, go_sem, q0, q1]) rfl ⟨rfl, by repeat (first | refine Below.setCell ?_ (by simp <;> omega) _ | exact B1)⟩
end Go.Proofs.YtgfienijabkpjaaDoor
