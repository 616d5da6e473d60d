/-
  Parts of the proof laid into one text, one behind the other; each says at its head what is proved in it.
-/
import Derived.Test.YtbfhoennafopaaaImplBits
/-
  The program's isValueForm, numBounds, bitsOfName and wordOf: what is wrong with a value, and the tag and the rest that tell it; nothing that was there is turned.
-/
namespace Go.Proofs.Ytbfhoennafopaaa
open Go.RowKit Go.Extern.Stop Go.Stop Go.Extern Num Go.Lib

theorem form_out (n : Int) (z : ByteArray) (w : World) (k : Int) (k1 : (k == 1) = false) (k2 : (k == 2) = false) (k3 : (k == 3) = false) (k4 : (k == 4) = false) (k5 : (k == 5) = false) (k6 : (k == 6) = false) (k7 : (k == 7) = false) (k8 : (k == 8) = false) (k9 : (k == 9) = false) :
    Calls Try.prog 64 #[.agg #[.int .i64 k, .int .i64 n, .string z]] w fun e w' => e = .returned (.bool false) ∧ Below w.heap.size w w' := by
  go_enter Try.func64, Try.ntmps64
  go_wp2
  go_ret
  exact ⟨rfl, by repeat (first | exact Below.refl _ _ | refine Below.setCell ?_ (by simp) _ | refine Below.alloc ?_ (by simp <;> omega) _ | refine Below.drew ?_)⟩
theorem form_y1 (n : Int) (z : ByteArray) (w : World) (hm : (z.toList == []) = true) :
    Calls Try.prog 64 #[.agg #[.int .i64 1, .int .i64 n, .string z]] w fun e w' => e = .returned (.bool true) ∧ Below w.heap.size w w' := by
  go_enter Try.func64, Try.ntmps64
  go_wp2
  go_ret
  exact ⟨rfl, by repeat (first | exact Below.refl _ _ | refine Below.setCell ?_ (by simp) _ | refine Below.alloc ?_ (by simp <;> omega) _ | refine Below.drew ?_)⟩
theorem form_n1 (n : Int) (z : ByteArray) (w : World) (hm : (z.toList == []) = false) :
    Calls Try.prog 64 #[.agg #[.int .i64 1, .int .i64 n, .string z]] w fun e w' => e = .returned (.bool false) ∧ Below w.heap.size w w' := by
  go_enter Try.func64, Try.ntmps64
  go_wp2
  go_ret
  exact ⟨rfl, by repeat (first | exact Below.refl _ _ | refine Below.setCell ?_ (by simp) _ | refine Below.alloc ?_ (by simp <;> omega) _ | refine Below.drew ?_)⟩
theorem form_y2 (n : Int) (z : ByteArray) (w : World) (hm : (z.toList == []) = true) :
    Calls Try.prog 64 #[.agg #[.int .i64 2, .int .i64 n, .string z]] w fun e w' => e = .returned (.bool true) ∧ Below w.heap.size w w' := by
  go_enter Try.func64, Try.ntmps64
  go_wp2
  go_ret
  exact ⟨rfl, by repeat (first | exact Below.refl _ _ | refine Below.setCell ?_ (by simp) _ | refine Below.alloc ?_ (by simp <;> omega) _ | refine Below.drew ?_)⟩
theorem form_n2 (n : Int) (z : ByteArray) (w : World) (hm : (z.toList == []) = false) :
    Calls Try.prog 64 #[.agg #[.int .i64 2, .int .i64 n, .string z]] w fun e w' => e = .returned (.bool false) ∧ Below w.heap.size w w' := by
  go_enter Try.func64, Try.ntmps64
  go_wp2
  go_ret
  exact ⟨rfl, by repeat (first | exact Below.refl _ _ | refine Below.setCell ?_ (by simp) _ | refine Below.alloc ?_ (by simp <;> omega) _ | refine Below.drew ?_)⟩
theorem form_y5 (n : Int) (z : ByteArray) (w : World) (hm : (z.toList == []) = true) :
    Calls Try.prog 64 #[.agg #[.int .i64 5, .int .i64 n, .string z]] w fun e w' => e = .returned (.bool true) ∧ Below w.heap.size w w' := by
  go_enter Try.func64, Try.ntmps64
  go_wp2
  go_ret
  exact ⟨rfl, by repeat (first | exact Below.refl _ _ | refine Below.setCell ?_ (by simp) _ | refine Below.alloc ?_ (by simp <;> omega) _ | refine Below.drew ?_)⟩
theorem form_n5 (n : Int) (z : ByteArray) (w : World) (hm : (z.toList == []) = false) :
    Calls Try.prog 64 #[.agg #[.int .i64 5, .int .i64 n, .string z]] w fun e w' => e = .returned (.bool false) ∧ Below w.heap.size w w' := by
  go_enter Try.func64, Try.ntmps64
  go_wp2
  go_ret
  exact ⟨rfl, by repeat (first | exact Below.refl _ _ | refine Below.setCell ?_ (by simp) _ | refine Below.alloc ?_ (by simp <;> omega) _ | refine Below.drew ?_)⟩
theorem form_y6 (n : Int) (z : ByteArray) (w : World) (hm : (z.toList == []) = true) :
    Calls Try.prog 64 #[.agg #[.int .i64 6, .int .i64 n, .string z]] w fun e w' => e = .returned (.bool true) ∧ Below w.heap.size w w' := by
  go_enter Try.func64, Try.ntmps64
  go_wp2
  go_ret
  exact ⟨rfl, by repeat (first | exact Below.refl _ _ | refine Below.setCell ?_ (by simp) _ | refine Below.alloc ?_ (by simp <;> omega) _ | refine Below.drew ?_)⟩
theorem form_n6 (n : Int) (z : ByteArray) (w : World) (hm : (z.toList == []) = false) :
    Calls Try.prog 64 #[.agg #[.int .i64 6, .int .i64 n, .string z]] w fun e w' => e = .returned (.bool false) ∧ Below w.heap.size w w' := by
  go_enter Try.func64, Try.ntmps64
  go_wp2
  go_ret
  exact ⟨rfl, by repeat (first | exact Below.refl _ _ | refine Below.setCell ?_ (by simp) _ | refine Below.alloc ?_ (by simp <;> omega) _ | refine Below.drew ?_)⟩
theorem form_y7 (n : Int) (z : ByteArray) (w : World) (hm : (z.toList == []) = true) :
    Calls Try.prog 64 #[.agg #[.int .i64 7, .int .i64 n, .string z]] w fun e w' => e = .returned (.bool true) ∧ Below w.heap.size w w' := by
  go_enter Try.func64, Try.ntmps64
  go_wp2
  go_ret
  exact ⟨rfl, by repeat (first | exact Below.refl _ _ | refine Below.setCell ?_ (by simp) _ | refine Below.alloc ?_ (by simp <;> omega) _ | refine Below.drew ?_)⟩
theorem form_n7 (n : Int) (z : ByteArray) (w : World) (hm : (z.toList == []) = false) :
    Calls Try.prog 64 #[.agg #[.int .i64 7, .int .i64 n, .string z]] w fun e w' => e = .returned (.bool false) ∧ Below w.heap.size w w' := by
  go_enter Try.func64, Try.ntmps64
  go_wp2
  go_ret
  exact ⟨rfl, by repeat (first | exact Below.refl _ _ | refine Below.setCell ?_ (by simp) _ | refine Below.alloc ?_ (by simp <;> omega) _ | refine Below.drew ?_)⟩
theorem form_y8 (n : Int) (z : ByteArray) (w : World) (hm : (z.toList == []) = true) :
    Calls Try.prog 64 #[.agg #[.int .i64 8, .int .i64 n, .string z]] w fun e w' => e = .returned (.bool true) ∧ Below w.heap.size w w' := by
  go_enter Try.func64, Try.ntmps64
  go_wp2
  go_ret
  exact ⟨rfl, by repeat (first | exact Below.refl _ _ | refine Below.setCell ?_ (by simp) _ | refine Below.alloc ?_ (by simp <;> omega) _ | refine Below.drew ?_)⟩
theorem form_n8 (n : Int) (z : ByteArray) (w : World) (hm : (z.toList == []) = false) :
    Calls Try.prog 64 #[.agg #[.int .i64 8, .int .i64 n, .string z]] w fun e w' => e = .returned (.bool false) ∧ Below w.heap.size w w' := by
  go_enter Try.func64, Try.ntmps64
  go_wp2
  go_ret
  exact ⟨rfl, by repeat (first | exact Below.refl _ _ | refine Below.setCell ?_ (by simp) _ | refine Below.alloc ?_ (by simp <;> omega) _ | refine Below.drew ?_)⟩
theorem form_y4 (n : Int) (z : ByteArray) (w : World) (h0 : n = 0) :
    Calls Try.prog 64 #[.agg #[.int .i64 4, .int .i64 n, .string z]] w fun e w' => e = .returned (.bool true) ∧ Below w.heap.size w w' := by
  subst h0
  go_enter Try.func64, Try.ntmps64
  go_wp2
  go_ret
  exact ⟨rfl, by repeat (first | exact Below.refl _ _ | refine Below.setCell ?_ (by simp) _ | refine Below.alloc ?_ (by simp <;> omega) _ | refine Below.drew ?_)⟩
theorem form_n4 (n : Int) (z : ByteArray) (w : World) (h0 : (n == 0) = false) :
    Calls Try.prog 64 #[.agg #[.int .i64 4, .int .i64 n, .string z]] w fun e w' => e = .returned (.bool false) ∧ Below w.heap.size w w' := by
  go_enter Try.func64, Try.ntmps64
  go_wp2
  go_ret
  exact ⟨rfl, by repeat (first | exact Below.refl _ _ | refine Below.setCell ?_ (by simp) _ | refine Below.alloc ?_ (by simp <;> omega) _ | refine Below.drew ?_)⟩
theorem form_y3 (n : Int) (z : ByteArray) (w : World) (h0 : n = 0) (hm : (z.toList == []) = true) :
    Calls Try.prog 64 #[.agg #[.int .i64 3, .int .i64 n, .string z]] w fun e w' => e = .returned (.bool true) ∧ Below w.heap.size w w' := by
  subst h0
  go_enter Try.func64, Try.ntmps64
  go_wp2
  go_ret
  exact ⟨rfl, by repeat (first | exact Below.refl _ _ | refine Below.setCell ?_ (by simp) _ | refine Below.alloc ?_ (by simp <;> omega) _ | refine Below.drew ?_)⟩
theorem form_m3 (n : Int) (z : ByteArray) (w : World) (h0 : n = 0) (hm : (z.toList == []) = false) :
    Calls Try.prog 64 #[.agg #[.int .i64 3, .int .i64 n, .string z]] w fun e w' => e = .returned (.bool false) ∧ Below w.heap.size w w' := by
  subst h0
  go_enter Try.func64, Try.ntmps64
  go_wp2
  go_ret
  exact ⟨rfl, by repeat (first | exact Below.refl _ _ | refine Below.setCell ?_ (by simp) _ | refine Below.alloc ?_ (by simp <;> omega) _ | refine Below.drew ?_)⟩
theorem form_n3 (n : Int) (z : ByteArray) (w : World) (h0 : (n == 0) = false) :
    Calls Try.prog 64 #[.agg #[.int .i64 3, .int .i64 n, .string z]] w fun e w' => e = .returned (.bool false) ∧ Below w.heap.size w w' := by
  go_enter Try.func64, Try.ntmps64
  go_wp2
  go_ret
  exact ⟨rfl, by repeat (first | exact Below.refl _ _ | refine Below.setCell ?_ (by simp) _ | refine Below.alloc ?_ (by simp <;> omega) _ | refine Below.drew ?_)⟩
theorem form_y9 (n : Int) (z : ByteArray) (w : World) (h0 : n = 0) (hm : (z.toList == []) = true) :
    Calls Try.prog 64 #[.agg #[.int .i64 9, .int .i64 n, .string z]] w fun e w' => e = .returned (.bool true) ∧ Below w.heap.size w w' := by
  subst h0
  go_enter Try.func64, Try.ntmps64
  go_wp2
  go_ret
  exact ⟨rfl, by repeat (first | exact Below.refl _ _ | refine Below.setCell ?_ (by simp) _ | refine Below.alloc ?_ (by simp <;> omega) _ | refine Below.drew ?_)⟩
theorem form_m9 (n : Int) (z : ByteArray) (w : World) (h0 : n = 0) (hm : (z.toList == []) = false) :
    Calls Try.prog 64 #[.agg #[.int .i64 9, .int .i64 n, .string z]] w fun e w' => e = .returned (.bool false) ∧ Below w.heap.size w w' := by
  subst h0
  go_enter Try.func64, Try.ntmps64
  go_wp2
  go_ret
  exact ⟨rfl, by repeat (first | exact Below.refl _ _ | refine Below.setCell ?_ (by simp) _ | refine Below.alloc ?_ (by simp <;> omega) _ | refine Below.drew ?_)⟩
theorem form_n9 (n : Int) (z : ByteArray) (w : World) (h0 : (n == 0) = false) :
    Calls Try.prog 64 #[.agg #[.int .i64 9, .int .i64 n, .string z]] w fun e w' => e = .returned (.bool false) ∧ Below w.heap.size w w' := by
  go_enter Try.func64, Try.ntmps64
  go_wp2
  go_ret
  exact ⟨rfl, by repeat (first | exact Below.refl _ _ | refine Below.setCell ?_ (by simp) _ | refine Below.alloc ?_ (by simp <;> omega) _ | refine Below.drew ?_)⟩
theorem bounds_1 (w : World) :
    Calls Try.prog 61 #[.int .i64 1] w fun e w' => e = .returned (.tuple #[.int .i64 (-1000000000), .int .i64 1000000000]) ∧ w' = w := by
  go_enter Try.func61, Try.ntmps61
  go_wp2
  exact bodyPost_ret (v := .tuple #[.int .i64 (-1000000000), .int .i64 1000000000]) (by simp [results, Try.results61, go_sem]) rfl ⟨rfl, rfl⟩
theorem bounds_2 (w : World) :
    Calls Try.prog 61 #[.int .i64 2] w fun e w' => e = .returned (.tuple #[.int .i64 (0), .int .i64 1]) ∧ w' = w := by
  go_enter Try.func61, Try.ntmps61
  go_wp2
  exact bodyPost_ret (v := .tuple #[.int .i64 (0), .int .i64 1]) (by simp [results, Try.results61, go_sem]) rfl ⟨rfl, rfl⟩
theorem bounds_3 (w : World) :
    Calls Try.prog 61 #[.int .i64 3] w fun e w' => e = .returned (.tuple #[.int .i64 (0), .int .i64 0]) ∧ w' = w := by
  go_enter Try.func61, Try.ntmps61
  go_wp2
  exact bodyPost_ret (v := .tuple #[.int .i64 (0), .int .i64 0]) (by simp [results, Try.results61, go_sem]) rfl ⟨rfl, rfl⟩
theorem bounds_4 (w : World) :
    Calls Try.prog 61 #[.int .i64 4] w fun e w' => e = .returned (.tuple #[.int .i64 (0), .int .i64 0]) ∧ w' = w := by
  go_enter Try.func61, Try.ntmps61
  go_wp2
  exact bodyPost_ret (v := .tuple #[.int .i64 (0), .int .i64 0]) (by simp [results, Try.results61, go_sem]) rfl ⟨rfl, rfl⟩
theorem bounds_5 (w : World) :
    Calls Try.prog 61 #[.int .i64 5] w fun e w' => e = .returned (.tuple #[.int .i64 (0), .int .i64 99999]) ∧ w' = w := by
  go_enter Try.func61, Try.ntmps61
  go_wp2
  exact bodyPost_ret (v := .tuple #[.int .i64 (0), .int .i64 99999]) (by simp [results, Try.results61, go_sem]) rfl ⟨rfl, rfl⟩
theorem bounds_6 (w : World) :
    Calls Try.prog 61 #[.int .i64 6] w fun e w' => e = .returned (.tuple #[.int .i64 (0), .int .i64 99999]) ∧ w' = w := by
  go_enter Try.func61, Try.ntmps61
  go_wp2
  exact bodyPost_ret (v := .tuple #[.int .i64 (0), .int .i64 99999]) (by simp [results, Try.results61, go_sem]) rfl ⟨rfl, rfl⟩
theorem bounds_7 (w : World) :
    Calls Try.prog 61 #[.int .i64 7] w fun e w' => e = .returned (.tuple #[.int .i64 (0), .int .i64 99999]) ∧ w' = w := by
  go_enter Try.func61, Try.ntmps61
  go_wp2
  exact bodyPost_ret (v := .tuple #[.int .i64 (0), .int .i64 99999]) (by simp [results, Try.results61, go_sem]) rfl ⟨rfl, rfl⟩
theorem bounds_8 (w : World) :
    Calls Try.prog 61 #[.int .i64 8] w fun e w' => e = .returned (.tuple #[.int .i64 (0), .int .i64 99999]) ∧ w' = w := by
  go_enter Try.func61, Try.ntmps61
  go_wp2
  exact bodyPost_ret (v := .tuple #[.int .i64 (0), .int .i64 99999]) (by simp [results, Try.results61, go_sem]) rfl ⟨rfl, rfl⟩
theorem bounds_9 (w : World) :
    Calls Try.prog 61 #[.int .i64 9] w fun e w' => e = .returned (.tuple #[.int .i64 (0), .int .i64 0]) ∧ w' = w := by
  go_enter Try.func61, Try.ntmps61
  go_wp2
  exact bodyPost_ret (v := .tuple #[.int .i64 (0), .int .i64 0]) (by simp [results, Try.results61, go_sem]) rfl ⟨rfl, rfl⟩
theorem word_out (n : Int) (z : ByteArray) (w : World) (k : Int) (k1 : (k == 1) = false) (k2 : (k == 2) = false) (k3 : (k == 3) = false) (k4 : (k == 4) = false) (k5 : (k == 5) = false) (k6 : (k == 6) = false) (k7 : (k == 7) = false) (k8 : (k == 8) = false) (k9 : (k == 9) = false) :
    Calls Try.prog 52 #[.agg #[.int .i64 k, .int .i64 n, .string z]] w fun e w' => e = .returned (.tuple #[.agg #[.int .u8 0, .int .u64 0], .int .i64 1]) ∧ Below w.heap.size w w' := by
  have HF : Hid _ := fun w => form_out n z w k k1 k2 k3 k4 k5 k6 k7 k8 k9
  go_enter Try.func52, Try.ntmps52
  go_wp2_with (first | (go_at_call 64; refine (HF.out _).mono ?_; rintro e w1 ⟨rfl, hb1⟩; obtain ⟨hc1, hf1⟩ := bcell hb1; have z1 : w.heap.size + 1 < w1.heap.size := (by have := hb1.size; simp at this; omega); have q0 : w1.cell? ⟨w.heap.size + 1, 0, none⟩ = some (.int .u8 0) := (by rw [hc1 _ _ (by simp), World.cell?_alloc_at _ _ _ _ (by simp)]; rfl); have q1 : w1.cell? ⟨w.heap.size + 1, 1, none⟩ = some (.int .u64 0) := (by rw [hc1 _ _ (by simp), World.cell?_alloc_at _ _ _ _ (by simp)]; rfl); have B1 : Below w.heap.size w w1 := Below.trans (by repeat (first | exact Below.refl _ _ | refine Below.setCell ?_ (by simp) _ | refine Below.alloc ?_ (by simp <;> omega) _ | refine Below.drew ?_)) (hb1.mono (by simp <;> omega)); clear hb1))
  exact bodyPost_ret (v := .tuple #[.agg #[.int .u8 0, .int .u64 0], .int .i64 1]) (by simp [results, Try.results52, go_sem, q0, q1]) rfl ⟨rfl, by repeat (first | refine Below.setCell ?_ (by simp <;> omega) _ | exact B1)⟩
theorem word_name1 (n : Int) (z : ByteArray) (w : World) (hm : (z.toList == []) = false) :
    Calls Try.prog 52 #[.agg #[.int .i64 1, .int .i64 n, .string z]] w fun e w' => e = .returned (.tuple #[.agg #[.int .u8 0, .int .u64 0], .int .i64 1]) ∧ Below w.heap.size w w' := by
  have HF : Hid _ := fun w => form_n1 n z w hm
  go_enter Try.func52, Try.ntmps52
  go_wp2_with (first | (go_at_call 64; refine (HF.out _).mono ?_; rintro e w1 ⟨rfl, hb1⟩; obtain ⟨hc1, hf1⟩ := bcell hb1; have z1 : w.heap.size + 1 < w1.heap.size := (by have := hb1.size; simp at this; omega); have q0 : w1.cell? ⟨w.heap.size + 1, 0, none⟩ = some (.int .u8 0) := (by rw [hc1 _ _ (by simp), World.cell?_alloc_at _ _ _ _ (by simp)]; rfl); have q1 : w1.cell? ⟨w.heap.size + 1, 1, none⟩ = some (.int .u64 0) := (by rw [hc1 _ _ (by simp), World.cell?_alloc_at _ _ _ _ (by simp)]; rfl); have B1 : Below w.heap.size w w1 := Below.trans (by repeat (first | exact Below.refl _ _ | refine Below.setCell ?_ (by simp) _ | refine Below.alloc ?_ (by simp <;> omega) _ | refine Below.drew ?_)) (hb1.mono (by simp <;> omega)); clear hb1) | (go_at_call 61; refine (bounds_1 _).mono ?_; rintro e w' ⟨rfl, rfl⟩))
  exact bodyPost_ret (v := .tuple #[.agg #[.int .u8 0, .int .u64 0], .int .i64 1]) (by simp [results, Try.results52, go_sem, q0, q1]) rfl ⟨rfl, by repeat (first | refine Below.setCell ?_ (by simp <;> omega) _ | exact B1)⟩
theorem word_lo1 (n : Int) (z : ByteArray) (w : World) (hm : (z.toList == []) = true) (h1 : n < -1000000000) :
    Calls Try.prog 52 #[.agg #[.int .i64 1, .int .i64 n, .string z]] w fun e w' => e = .returned (.tuple #[.agg #[.int .u8 0, .int .u64 0], .int .i64 3]) ∧ Below w.heap.size w w' := by
  have HF : Hid _ := fun w => form_y1 n z w hm
  go_enter Try.func52, Try.ntmps52
  go_wp2_with (first | (go_at_call 64; refine (HF.out _).mono ?_; rintro e w1 ⟨rfl, hb1⟩; obtain ⟨hc1, hf1⟩ := bcell hb1; have z1 : w.heap.size + 1 < w1.heap.size := (by have := hb1.size; simp at this; omega); have q0 : w1.cell? ⟨w.heap.size + 1, 0, none⟩ = some (.int .u8 0) := (by rw [hc1 _ _ (by simp), World.cell?_alloc_at _ _ _ _ (by simp)]; rfl); have q1 : w1.cell? ⟨w.heap.size + 1, 1, none⟩ = some (.int .u64 0) := (by rw [hc1 _ _ (by simp), World.cell?_alloc_at _ _ _ _ (by simp)]; rfl); have B1 : Below w.heap.size w w1 := Below.trans (by repeat (first | exact Below.refl _ _ | refine Below.setCell ?_ (by simp) _ | refine Below.alloc ?_ (by simp <;> omega) _ | refine Below.drew ?_)) (hb1.mono (by simp <;> omega)); clear hb1) | (go_at_call 61; refine (bounds_1 _).mono ?_; rintro e w' ⟨rfl, rfl⟩))
  exact bodyPost_ret (v := .tuple #[.agg #[.int .u8 0, .int .u64 0], .int .i64 3]) (by simp [results, Try.results52, go_sem, q0, q1]) rfl ⟨rfl, by repeat (first | refine Below.setCell ?_ (by simp <;> omega) _ | exact B1)⟩
theorem word_hi1 (n : Int) (z : ByteArray) (w : World) (hm : (z.toList == []) = true) (h1 : -1000000000 ≤ n) (h2 : 1000000000 < n) :
    Calls Try.prog 52 #[.agg #[.int .i64 1, .int .i64 n, .string z]] w fun e w' => e = .returned (.tuple #[.agg #[.int .u8 0, .int .u64 0], .int .i64 3]) ∧ Below w.heap.size w w' := by
  have HF : Hid _ := fun w => form_y1 n z w hm
  go_enter Try.func52, Try.ntmps52
  go_wp2_with (first | (go_at_call 64; refine (HF.out _).mono ?_; rintro e w1 ⟨rfl, hb1⟩; obtain ⟨hc1, hf1⟩ := bcell hb1; have z1 : w.heap.size + 1 < w1.heap.size := (by have := hb1.size; simp at this; omega); have q0 : w1.cell? ⟨w.heap.size + 1, 0, none⟩ = some (.int .u8 0) := (by rw [hc1 _ _ (by simp), World.cell?_alloc_at _ _ _ _ (by simp)]; rfl); have q1 : w1.cell? ⟨w.heap.size + 1, 1, none⟩ = some (.int .u64 0) := (by rw [hc1 _ _ (by simp), World.cell?_alloc_at _ _ _ _ (by simp)]; rfl); have B1 : Below w.heap.size w w1 := Below.trans (by repeat (first | exact Below.refl _ _ | refine Below.setCell ?_ (by simp) _ | refine Below.alloc ?_ (by simp <;> omega) _ | refine Below.drew ?_)) (hb1.mono (by simp <;> omega)); clear hb1) | (go_at_call 61; refine (bounds_1 _).mono ?_; rintro e w' ⟨rfl, rfl⟩))
  exact bodyPost_ret (v := .tuple #[.agg #[.int .u8 0, .int .u64 0], .int .i64 3]) (by simp [results, Try.results52, go_sem, q0, q1]) rfl ⟨rfl, by repeat (first | refine Below.setCell ?_ (by simp <;> omega) _ | exact B1)⟩
theorem word_ok1 (n : Int) (z : ByteArray) (w : World) (hm : (z.toList == []) = true) (h1 : -1000000000 ≤ n) (h2 : n ≤ 1000000000) :
    Calls Try.prog 52 #[.agg #[.int .i64 1, .int .i64 n, .string z]] w fun e w' => e = .returned (.tuple #[.agg #[.int .u8 1, .int .u64 (n - (-1000000000))], .int .i64 0]) ∧ Below w.heap.size w w' := by
  have HF : Hid _ := fun w => form_y1 n z w hm
  go_enter Try.func52, Try.ntmps52
  go_wp2_with (first | (go_at_call 64; refine (HF.out _).mono ?_; rintro e w1 ⟨rfl, hb1⟩; obtain ⟨hc1, hf1⟩ := bcell hb1; have z1 : w.heap.size + 1 < w1.heap.size := (by have := hb1.size; simp at this; omega); have q0 : w1.cell? ⟨w.heap.size + 1, 0, none⟩ = some (.int .u8 0) := (by rw [hc1 _ _ (by simp), World.cell?_alloc_at _ _ _ _ (by simp)]; rfl); have q1 : w1.cell? ⟨w.heap.size + 1, 1, none⟩ = some (.int .u64 0) := (by rw [hc1 _ _ (by simp), World.cell?_alloc_at _ _ _ _ (by simp)]; rfl); have B1 : Below w.heap.size w w1 := Below.trans (by repeat (first | exact Below.refl _ _ | refine Below.setCell ?_ (by simp) _ | refine Below.alloc ?_ (by simp <;> omega) _ | refine Below.drew ?_)) (hb1.mono (by simp <;> omega)); clear hb1) | (go_at_call 61; refine (bounds_1 _).mono ?_; rintro e w' ⟨rfl, rfl⟩))
  exact bodyPost_ret (v := .tuple #[.agg #[.int .u8 1, .int .u64 (n - (-1000000000))], .int .i64 0]) (by simp [results, Try.results52, go_sem, q0, q1]) rfl ⟨rfl, by repeat (first | refine Below.setCell ?_ (by simp <;> omega) _ | exact B1)⟩
theorem word_name2 (n : Int) (z : ByteArray) (w : World) (hm : (z.toList == []) = false) :
    Calls Try.prog 52 #[.agg #[.int .i64 2, .int .i64 n, .string z]] w fun e w' => e = .returned (.tuple #[.agg #[.int .u8 0, .int .u64 0], .int .i64 1]) ∧ Below w.heap.size w w' := by
  have HF : Hid _ := fun w => form_n2 n z w hm
  go_enter Try.func52, Try.ntmps52
  go_wp2_with (first | (go_at_call 64; refine (HF.out _).mono ?_; rintro e w1 ⟨rfl, hb1⟩; obtain ⟨hc1, hf1⟩ := bcell hb1; have z1 : w.heap.size + 1 < w1.heap.size := (by have := hb1.size; simp at this; omega); have q0 : w1.cell? ⟨w.heap.size + 1, 0, none⟩ = some (.int .u8 0) := (by rw [hc1 _ _ (by simp), World.cell?_alloc_at _ _ _ _ (by simp)]; rfl); have q1 : w1.cell? ⟨w.heap.size + 1, 1, none⟩ = some (.int .u64 0) := (by rw [hc1 _ _ (by simp), World.cell?_alloc_at _ _ _ _ (by simp)]; rfl); have B1 : Below w.heap.size w w1 := Below.trans (by repeat (first | exact Below.refl _ _ | refine Below.setCell ?_ (by simp) _ | refine Below.alloc ?_ (by simp <;> omega) _ | refine Below.drew ?_)) (hb1.mono (by simp <;> omega)); clear hb1) | (go_at_call 61; refine (bounds_2 _).mono ?_; rintro e w' ⟨rfl, rfl⟩))
  exact bodyPost_ret (v := .tuple #[.agg #[.int .u8 0, .int .u64 0], .int .i64 1]) (by simp [results, Try.results52, go_sem, q0, q1]) rfl ⟨rfl, by repeat (first | refine Below.setCell ?_ (by simp <;> omega) _ | exact B1)⟩
theorem word_lo2 (n : Int) (z : ByteArray) (w : World) (hm : (z.toList == []) = true) (h1 : n < 0) :
    Calls Try.prog 52 #[.agg #[.int .i64 2, .int .i64 n, .string z]] w fun e w' => e = .returned (.tuple #[.agg #[.int .u8 0, .int .u64 0], .int .i64 3]) ∧ Below w.heap.size w w' := by
  have HF : Hid _ := fun w => form_y2 n z w hm
  go_enter Try.func52, Try.ntmps52
  go_wp2_with (first | (go_at_call 64; refine (HF.out _).mono ?_; rintro e w1 ⟨rfl, hb1⟩; obtain ⟨hc1, hf1⟩ := bcell hb1; have z1 : w.heap.size + 1 < w1.heap.size := (by have := hb1.size; simp at this; omega); have q0 : w1.cell? ⟨w.heap.size + 1, 0, none⟩ = some (.int .u8 0) := (by rw [hc1 _ _ (by simp), World.cell?_alloc_at _ _ _ _ (by simp)]; rfl); have q1 : w1.cell? ⟨w.heap.size + 1, 1, none⟩ = some (.int .u64 0) := (by rw [hc1 _ _ (by simp), World.cell?_alloc_at _ _ _ _ (by simp)]; rfl); have B1 : Below w.heap.size w w1 := Below.trans (by repeat (first | exact Below.refl _ _ | refine Below.setCell ?_ (by simp) _ | refine Below.alloc ?_ (by simp <;> omega) _ | refine Below.drew ?_)) (hb1.mono (by simp <;> omega)); clear hb1) | (go_at_call 61; refine (bounds_2 _).mono ?_; rintro e w' ⟨rfl, rfl⟩))
  exact bodyPost_ret (v := .tuple #[.agg #[.int .u8 0, .int .u64 0], .int .i64 3]) (by simp [results, Try.results52, go_sem, q0, q1]) rfl ⟨rfl, by repeat (first | refine Below.setCell ?_ (by simp <;> omega) _ | exact B1)⟩
theorem word_hi2 (n : Int) (z : ByteArray) (w : World) (hm : (z.toList == []) = true) (h1 : 0 ≤ n) (h2 : 1 < n) :
    Calls Try.prog 52 #[.agg #[.int .i64 2, .int .i64 n, .string z]] w fun e w' => e = .returned (.tuple #[.agg #[.int .u8 0, .int .u64 0], .int .i64 3]) ∧ Below w.heap.size w w' := by
  have HF : Hid _ := fun w => form_y2 n z w hm
  go_enter Try.func52, Try.ntmps52
  go_wp2_with (first | (go_at_call 64; refine (HF.out _).mono ?_; rintro e w1 ⟨rfl, hb1⟩; obtain ⟨hc1, hf1⟩ := bcell hb1; have z1 : w.heap.size + 1 < w1.heap.size := (by have := hb1.size; simp at this; omega); have q0 : w1.cell? ⟨w.heap.size + 1, 0, none⟩ = some (.int .u8 0) := (by rw [hc1 _ _ (by simp), World.cell?_alloc_at _ _ _ _ (by simp)]; rfl); have q1 : w1.cell? ⟨w.heap.size + 1, 1, none⟩ = some (.int .u64 0) := (by rw [hc1 _ _ (by simp), World.cell?_alloc_at _ _ _ _ (by simp)]; rfl); have B1 : Below w.heap.size w w1 := Below.trans (by repeat (first | exact Below.refl _ _ | refine Below.setCell ?_ (by simp) _ | refine Below.alloc ?_ (by simp <;> omega) _ | refine Below.drew ?_)) (hb1.mono (by simp <;> omega)); clear hb1) | (go_at_call 61; refine (bounds_2 _).mono ?_; rintro e w' ⟨rfl, rfl⟩))
  exact bodyPost_ret (v := .tuple #[.agg #[.int .u8 0, .int .u64 0], .int .i64 3]) (by simp [results, Try.results52, go_sem, q0, q1]) rfl ⟨rfl, by repeat (first | refine Below.setCell ?_ (by simp <;> omega) _ | exact B1)⟩
theorem word_ok2 (n : Int) (z : ByteArray) (w : World) (hm : (z.toList == []) = true) (h1 : 0 ≤ n) (h2 : n ≤ 1) :
    Calls Try.prog 52 #[.agg #[.int .i64 2, .int .i64 n, .string z]] w fun e w' => e = .returned (.tuple #[.agg #[.int .u8 2, .int .u64 (n - (0))], .int .i64 0]) ∧ Below w.heap.size w w' := by
  have HF : Hid _ := fun w => form_y2 n z w hm
  go_enter Try.func52, Try.ntmps52
  go_wp2_with (first | (go_at_call 64; refine (HF.out _).mono ?_; rintro e w1 ⟨rfl, hb1⟩; obtain ⟨hc1, hf1⟩ := bcell hb1; have z1 : w.heap.size + 1 < w1.heap.size := (by have := hb1.size; simp at this; omega); have q0 : w1.cell? ⟨w.heap.size + 1, 0, none⟩ = some (.int .u8 0) := (by rw [hc1 _ _ (by simp), World.cell?_alloc_at _ _ _ _ (by simp)]; rfl); have q1 : w1.cell? ⟨w.heap.size + 1, 1, none⟩ = some (.int .u64 0) := (by rw [hc1 _ _ (by simp), World.cell?_alloc_at _ _ _ _ (by simp)]; rfl); have B1 : Below w.heap.size w w1 := Below.trans (by repeat (first | exact Below.refl _ _ | refine Below.setCell ?_ (by simp) _ | refine Below.alloc ?_ (by simp <;> omega) _ | refine Below.drew ?_)) (hb1.mono (by simp <;> omega)); clear hb1) | (go_at_call 61; refine (bounds_2 _).mono ?_; rintro e w' ⟨rfl, rfl⟩))
  exact bodyPost_ret (v := .tuple #[.agg #[.int .u8 2, .int .u64 (n - (0))], .int .i64 0]) (by simp [results, Try.results52, go_sem, q0, q1]) rfl ⟨rfl, by repeat (first | refine Below.setCell ?_ (by simp <;> omega) _ | exact B1)⟩
theorem word_name5 (n : Int) (z : ByteArray) (w : World) (hm : (z.toList == []) = false) :
    Calls Try.prog 52 #[.agg #[.int .i64 5, .int .i64 n, .string z]] w fun e w' => e = .returned (.tuple #[.agg #[.int .u8 0, .int .u64 0], .int .i64 1]) ∧ Below w.heap.size w w' := by
  have HF : Hid _ := fun w => form_n5 n z w hm
  go_enter Try.func52, Try.ntmps52
  go_wp2_with (first | (go_at_call 64; refine (HF.out _).mono ?_; rintro e w1 ⟨rfl, hb1⟩; obtain ⟨hc1, hf1⟩ := bcell hb1; have z1 : w.heap.size + 1 < w1.heap.size := (by have := hb1.size; simp at this; omega); have q0 : w1.cell? ⟨w.heap.size + 1, 0, none⟩ = some (.int .u8 0) := (by rw [hc1 _ _ (by simp), World.cell?_alloc_at _ _ _ _ (by simp)]; rfl); have q1 : w1.cell? ⟨w.heap.size + 1, 1, none⟩ = some (.int .u64 0) := (by rw [hc1 _ _ (by simp), World.cell?_alloc_at _ _ _ _ (by simp)]; rfl); have B1 : Below w.heap.size w w1 := Below.trans (by repeat (first | exact Below.refl _ _ | refine Below.setCell ?_ (by simp) _ | refine Below.alloc ?_ (by simp <;> omega) _ | refine Below.drew ?_)) (hb1.mono (by simp <;> omega)); clear hb1) | (go_at_call 61; refine (bounds_5 _).mono ?_; rintro e w' ⟨rfl, rfl⟩))
  exact bodyPost_ret (v := .tuple #[.agg #[.int .u8 0, .int .u64 0], .int .i64 1]) (by simp [results, Try.results52, go_sem, q0, q1]) rfl ⟨rfl, by repeat (first | refine Below.setCell ?_ (by simp <;> omega) _ | exact B1)⟩
theorem word_lo5 (n : Int) (z : ByteArray) (w : World) (hm : (z.toList == []) = true) (h1 : n < 0) :
    Calls Try.prog 52 #[.agg #[.int .i64 5, .int .i64 n, .string z]] w fun e w' => e = .returned (.tuple #[.agg #[.int .u8 0, .int .u64 0], .int .i64 3]) ∧ Below w.heap.size w w' := by
  have HF : Hid _ := fun w => form_y5 n z w hm
  go_enter Try.func52, Try.ntmps52
  go_wp2_with (first | (go_at_call 64; refine (HF.out _).mono ?_; rintro e w1 ⟨rfl, hb1⟩; obtain ⟨hc1, hf1⟩ := bcell hb1; have z1 : w.heap.size + 1 < w1.heap.size := (by have := hb1.size; simp at this; omega); have q0 : w1.cell? ⟨w.heap.size + 1, 0, none⟩ = some (.int .u8 0) := (by rw [hc1 _ _ (by simp), World.cell?_alloc_at _ _ _ _ (by simp)]; rfl); have q1 : w1.cell? ⟨w.heap.size + 1, 1, none⟩ = some (.int .u64 0) := (by rw [hc1 _ _ (by simp), World.cell?_alloc_at _ _ _ _ (by simp)]; rfl); have B1 : Below w.heap.size w w1 := Below.trans (by repeat (first | exact Below.refl _ _ | refine Below.setCell ?_ (by simp) _ | refine Below.alloc ?_ (by simp <;> omega) _ | refine Below.drew ?_)) (hb1.mono (by simp <;> omega)); clear hb1) | (go_at_call 61; refine (bounds_5 _).mono ?_; rintro e w' ⟨rfl, rfl⟩))
  exact bodyPost_ret (v := .tuple #[.agg #[.int .u8 0, .int .u64 0], .int .i64 3]) (by simp [results, Try.results52, go_sem, q0, q1]) rfl ⟨rfl, by repeat (first | refine Below.setCell ?_ (by simp <;> omega) _ | exact B1)⟩
theorem word_hi5 (n : Int) (z : ByteArray) (w : World) (hm : (z.toList == []) = true) (h1 : 0 ≤ n) (h2 : 99999 < n) :
    Calls Try.prog 52 #[.agg #[.int .i64 5, .int .i64 n, .string z]] w fun e w' => e = .returned (.tuple #[.agg #[.int .u8 0, .int .u64 0], .int .i64 3]) ∧ Below w.heap.size w w' := by
  have HF : Hid _ := fun w => form_y5 n z w hm
  go_enter Try.func52, Try.ntmps52
  go_wp2_with (first | (go_at_call 64; refine (HF.out _).mono ?_; rintro e w1 ⟨rfl, hb1⟩; obtain ⟨hc1, hf1⟩ := bcell hb1; have z1 : w.heap.size + 1 < w1.heap.size := (by have := hb1.size; simp at this; omega); have q0 : w1.cell? ⟨w.heap.size + 1, 0, none⟩ = some (.int .u8 0) := (by rw [hc1 _ _ (by simp), World.cell?_alloc_at _ _ _ _ (by simp)]; rfl); have q1 : w1.cell? ⟨w.heap.size + 1, 1, none⟩ = some (.int .u64 0) := (by rw [hc1 _ _ (by simp), World.cell?_alloc_at _ _ _ _ (by simp)]; rfl); have B1 : Below w.heap.size w w1 := Below.trans (by repeat (first | exact Below.refl _ _ | refine Below.setCell ?_ (by simp) _ | refine Below.alloc ?_ (by simp <;> omega) _ | refine Below.drew ?_)) (hb1.mono (by simp <;> omega)); clear hb1) | (go_at_call 61; refine (bounds_5 _).mono ?_; rintro e w' ⟨rfl, rfl⟩))
  exact bodyPost_ret (v := .tuple #[.agg #[.int .u8 0, .int .u64 0], .int .i64 3]) (by simp [results, Try.results52, go_sem, q0, q1]) rfl ⟨rfl, by repeat (first | refine Below.setCell ?_ (by simp <;> omega) _ | exact B1)⟩
theorem word_ok5 (n : Int) (z : ByteArray) (w : World) (hm : (z.toList == []) = true) (h1 : 0 ≤ n) (h2 : n ≤ 99999) :
    Calls Try.prog 52 #[.agg #[.int .i64 5, .int .i64 n, .string z]] w fun e w' => e = .returned (.tuple #[.agg #[.int .u8 5, .int .u64 (n - (0))], .int .i64 0]) ∧ Below w.heap.size w w' := by
  have HF : Hid _ := fun w => form_y5 n z w hm
  go_enter Try.func52, Try.ntmps52
  go_wp2_with (first | (go_at_call 64; refine (HF.out _).mono ?_; rintro e w1 ⟨rfl, hb1⟩; obtain ⟨hc1, hf1⟩ := bcell hb1; have z1 : w.heap.size + 1 < w1.heap.size := (by have := hb1.size; simp at this; omega); have q0 : w1.cell? ⟨w.heap.size + 1, 0, none⟩ = some (.int .u8 0) := (by rw [hc1 _ _ (by simp), World.cell?_alloc_at _ _ _ _ (by simp)]; rfl); have q1 : w1.cell? ⟨w.heap.size + 1, 1, none⟩ = some (.int .u64 0) := (by rw [hc1 _ _ (by simp), World.cell?_alloc_at _ _ _ _ (by simp)]; rfl); have B1 : Below w.heap.size w w1 := Below.trans (by repeat (first | exact Below.refl _ _ | refine Below.setCell ?_ (by simp) _ | refine Below.alloc ?_ (by simp <;> omega) _ | refine Below.drew ?_)) (hb1.mono (by simp <;> omega)); clear hb1) | (go_at_call 61; refine (bounds_5 _).mono ?_; rintro e w' ⟨rfl, rfl⟩))
  exact bodyPost_ret (v := .tuple #[.agg #[.int .u8 5, .int .u64 (n - (0))], .int .i64 0]) (by simp [results, Try.results52, go_sem, q0, q1]) rfl ⟨rfl, by repeat (first | refine Below.setCell ?_ (by simp <;> omega) _ | exact B1)⟩
theorem word_name6 (n : Int) (z : ByteArray) (w : World) (hm : (z.toList == []) = false) :
    Calls Try.prog 52 #[.agg #[.int .i64 6, .int .i64 n, .string z]] w fun e w' => e = .returned (.tuple #[.agg #[.int .u8 0, .int .u64 0], .int .i64 1]) ∧ Below w.heap.size w w' := by
  have HF : Hid _ := fun w => form_n6 n z w hm
  go_enter Try.func52, Try.ntmps52
  go_wp2_with (first | (go_at_call 64; refine (HF.out _).mono ?_; rintro e w1 ⟨rfl, hb1⟩; obtain ⟨hc1, hf1⟩ := bcell hb1; have z1 : w.heap.size + 1 < w1.heap.size := (by have := hb1.size; simp at this; omega); have q0 : w1.cell? ⟨w.heap.size + 1, 0, none⟩ = some (.int .u8 0) := (by rw [hc1 _ _ (by simp), World.cell?_alloc_at _ _ _ _ (by simp)]; rfl); have q1 : w1.cell? ⟨w.heap.size + 1, 1, none⟩ = some (.int .u64 0) := (by rw [hc1 _ _ (by simp), World.cell?_alloc_at _ _ _ _ (by simp)]; rfl); have B1 : Below w.heap.size w w1 := Below.trans (by repeat (first | exact Below.refl _ _ | refine Below.setCell ?_ (by simp) _ | refine Below.alloc ?_ (by simp <;> omega) _ | refine Below.drew ?_)) (hb1.mono (by simp <;> omega)); clear hb1) | (go_at_call 61; refine (bounds_6 _).mono ?_; rintro e w' ⟨rfl, rfl⟩))
  exact bodyPost_ret (v := .tuple #[.agg #[.int .u8 0, .int .u64 0], .int .i64 1]) (by simp [results, Try.results52, go_sem, q0, q1]) rfl ⟨rfl, by repeat (first | refine Below.setCell ?_ (by simp <;> omega) _ | exact B1)⟩
theorem word_lo6 (n : Int) (z : ByteArray) (w : World) (hm : (z.toList == []) = true) (h1 : n < 0) :
    Calls Try.prog 52 #[.agg #[.int .i64 6, .int .i64 n, .string z]] w fun e w' => e = .returned (.tuple #[.agg #[.int .u8 0, .int .u64 0], .int .i64 3]) ∧ Below w.heap.size w w' := by
  have HF : Hid _ := fun w => form_y6 n z w hm
  go_enter Try.func52, Try.ntmps52
  go_wp2_with (first | (go_at_call 64; refine (HF.out _).mono ?_; rintro e w1 ⟨rfl, hb1⟩; obtain ⟨hc1, hf1⟩ := bcell hb1; have z1 : w.heap.size + 1 < w1.heap.size := (by have := hb1.size; simp at this; omega); have q0 : w1.cell? ⟨w.heap.size + 1, 0, none⟩ = some (.int .u8 0) := (by rw [hc1 _ _ (by simp), World.cell?_alloc_at _ _ _ _ (by simp)]; rfl); have q1 : w1.cell? ⟨w.heap.size + 1, 1, none⟩ = some (.int .u64 0) := (by rw [hc1 _ _ (by simp), World.cell?_alloc_at _ _ _ _ (by simp)]; rfl); have B1 : Below w.heap.size w w1 := Below.trans (by repeat (first | exact Below.refl _ _ | refine Below.setCell ?_ (by simp) _ | refine Below.alloc ?_ (by simp <;> omega) _ | refine Below.drew ?_)) (hb1.mono (by simp <;> omega)); clear hb1) | (go_at_call 61; refine (bounds_6 _).mono ?_; rintro e w' ⟨rfl, rfl⟩))
  exact bodyPost_ret (v := .tuple #[.agg #[.int .u8 0, .int .u64 0], .int .i64 3]) (by simp [results, Try.results52, go_sem, q0, q1]) rfl ⟨rfl, by repeat (first | refine Below.setCell ?_ (by simp <;> omega) _ | exact B1)⟩
theorem word_hi6 (n : Int) (z : ByteArray) (w : World) (hm : (z.toList == []) = true) (h1 : 0 ≤ n) (h2 : 99999 < n) :
    Calls Try.prog 52 #[.agg #[.int .i64 6, .int .i64 n, .string z]] w fun e w' => e = .returned (.tuple #[.agg #[.int .u8 0, .int .u64 0], .int .i64 3]) ∧ Below w.heap.size w w' := by
  have HF : Hid _ := fun w => form_y6 n z w hm
  go_enter Try.func52, Try.ntmps52
  go_wp2_with (first | (go_at_call 64; refine (HF.out _).mono ?_; rintro e w1 ⟨rfl, hb1⟩; obtain ⟨hc1, hf1⟩ := bcell hb1; have z1 : w.heap.size + 1 < w1.heap.size := (by have := hb1.size; simp at this; omega); have q0 : w1.cell? ⟨w.heap.size + 1, 0, none⟩ = some (.int .u8 0) := (by rw [hc1 _ _ (by simp), World.cell?_alloc_at _ _ _ _ (by simp)]; rfl); have q1 : w1.cell? ⟨w.heap.size + 1, 1, none⟩ = some (.int .u64 0) := (by rw [hc1 _ _ (by simp), World.cell?_alloc_at _ _ _ _ (by simp)]; rfl); have B1 : Below w.heap.size w w1 := Below.trans (by repeat (first | exact Below.refl _ _ | refine Below.setCell ?_ (by simp) _ | refine Below.alloc ?_ (by simp <;> omega) _ | refine Below.drew ?_)) (hb1.mono (by simp <;> omega)); clear hb1) | (go_at_call 61; refine (bounds_6 _).mono ?_; rintro e w' ⟨rfl, rfl⟩))
  exact bodyPost_ret (v := .tuple #[.agg #[.int .u8 0, .int .u64 0], .int .i64 3]) (by simp [results, Try.results52, go_sem, q0, q1]) rfl ⟨rfl, by repeat (first | refine Below.setCell ?_ (by simp <;> omega) _ | exact B1)⟩
theorem word_ok6 (n : Int) (z : ByteArray) (w : World) (hm : (z.toList == []) = true) (h1 : 0 ≤ n) (h2 : n ≤ 99999) :
    Calls Try.prog 52 #[.agg #[.int .i64 6, .int .i64 n, .string z]] w fun e w' => e = .returned (.tuple #[.agg #[.int .u8 6, .int .u64 (n - (0))], .int .i64 0]) ∧ Below w.heap.size w w' := by
  have HF : Hid _ := fun w => form_y6 n z w hm
  go_enter Try.func52, Try.ntmps52
  go_wp2_with (first | (go_at_call 64; refine (HF.out _).mono ?_; rintro e w1 ⟨rfl, hb1⟩; obtain ⟨hc1, hf1⟩ := bcell hb1; have z1 : w.heap.size + 1 < w1.heap.size := (by have := hb1.size; simp at this; omega); have q0 : w1.cell? ⟨w.heap.size + 1, 0, none⟩ = some (.int .u8 0) := (by rw [hc1 _ _ (by simp), World.cell?_alloc_at _ _ _ _ (by simp)]; rfl); have q1 : w1.cell? ⟨w.heap.size + 1, 1, none⟩ = some (.int .u64 0) := (by rw [hc1 _ _ (by simp), World.cell?_alloc_at _ _ _ _ (by simp)]; rfl); have B1 : Below w.heap.size w w1 := Below.trans (by repeat (first | exact Below.refl _ _ | refine Below.setCell ?_ (by simp) _ | refine Below.alloc ?_ (by simp <;> omega) _ | refine Below.drew ?_)) (hb1.mono (by simp <;> omega)); clear hb1) | (go_at_call 61; refine (bounds_6 _).mono ?_; rintro e w' ⟨rfl, rfl⟩))
  exact bodyPost_ret (v := .tuple #[.agg #[.int .u8 6, .int .u64 (n - (0))], .int .i64 0]) (by simp [results, Try.results52, go_sem, q0, q1]) rfl ⟨rfl, by repeat (first | refine Below.setCell ?_ (by simp <;> omega) _ | exact B1)⟩
theorem word_name7 (n : Int) (z : ByteArray) (w : World) (hm : (z.toList == []) = false) :
    Calls Try.prog 52 #[.agg #[.int .i64 7, .int .i64 n, .string z]] w fun e w' => e = .returned (.tuple #[.agg #[.int .u8 0, .int .u64 0], .int .i64 1]) ∧ Below w.heap.size w w' := by
  have HF : Hid _ := fun w => form_n7 n z w hm
  go_enter Try.func52, Try.ntmps52
  go_wp2_with (first | (go_at_call 64; refine (HF.out _).mono ?_; rintro e w1 ⟨rfl, hb1⟩; obtain ⟨hc1, hf1⟩ := bcell hb1; have z1 : w.heap.size + 1 < w1.heap.size := (by have := hb1.size; simp at this; omega); have q0 : w1.cell? ⟨w.heap.size + 1, 0, none⟩ = some (.int .u8 0) := (by rw [hc1 _ _ (by simp), World.cell?_alloc_at _ _ _ _ (by simp)]; rfl); have q1 : w1.cell? ⟨w.heap.size + 1, 1, none⟩ = some (.int .u64 0) := (by rw [hc1 _ _ (by simp), World.cell?_alloc_at _ _ _ _ (by simp)]; rfl); have B1 : Below w.heap.size w w1 := Below.trans (by repeat (first | exact Below.refl _ _ | refine Below.setCell ?_ (by simp) _ | refine Below.alloc ?_ (by simp <;> omega) _ | refine Below.drew ?_)) (hb1.mono (by simp <;> omega)); clear hb1) | (go_at_call 61; refine (bounds_7 _).mono ?_; rintro e w' ⟨rfl, rfl⟩))
  exact bodyPost_ret (v := .tuple #[.agg #[.int .u8 0, .int .u64 0], .int .i64 1]) (by simp [results, Try.results52, go_sem, q0, q1]) rfl ⟨rfl, by repeat (first | refine Below.setCell ?_ (by simp <;> omega) _ | exact B1)⟩
theorem word_lo7 (n : Int) (z : ByteArray) (w : World) (hm : (z.toList == []) = true) (h1 : n < 0) :
    Calls Try.prog 52 #[.agg #[.int .i64 7, .int .i64 n, .string z]] w fun e w' => e = .returned (.tuple #[.agg #[.int .u8 0, .int .u64 0], .int .i64 3]) ∧ Below w.heap.size w w' := by
  have HF : Hid _ := fun w => form_y7 n z w hm
  go_enter Try.func52, Try.ntmps52
  go_wp2_with (first | (go_at_call 64; refine (HF.out _).mono ?_; rintro e w1 ⟨rfl, hb1⟩; obtain ⟨hc1, hf1⟩ := bcell hb1; have z1 : w.heap.size + 1 < w1.heap.size := (by have := hb1.size; simp at this; omega); have q0 : w1.cell? ⟨w.heap.size + 1, 0, none⟩ = some (.int .u8 0) := (by rw [hc1 _ _ (by simp), World.cell?_alloc_at _ _ _ _ (by simp)]; rfl); have q1 : w1.cell? ⟨w.heap.size + 1, 1, none⟩ = some (.int .u64 0) := (by rw [hc1 _ _ (by simp), World.cell?_alloc_at _ _ _ _ (by simp)]; rfl); have B1 : Below w.heap.size w w1 := Below.trans (by repeat (first | exact Below.refl _ _ | refine Below.setCell ?_ (by simp) _ | refine Below.alloc ?_ (by simp <;> omega) _ | refine Below.drew ?_)) (hb1.mono (by simp <;> omega)); clear hb1) | (go_at_call 61; refine (bounds_7 _).mono ?_; rintro e w' ⟨rfl, rfl⟩))
  exact bodyPost_ret (v := .tuple #[.agg #[.int .u8 0, .int .u64 0], .int .i64 3]) (by simp [results, Try.results52, go_sem, q0, q1]) rfl ⟨rfl, by repeat (first | refine Below.setCell ?_ (by simp <;> omega) _ | exact B1)⟩
theorem word_hi7 (n : Int) (z : ByteArray) (w : World) (hm : (z.toList == []) = true) (h1 : 0 ≤ n) (h2 : 99999 < n) :
    Calls Try.prog 52 #[.agg #[.int .i64 7, .int .i64 n, .string z]] w fun e w' => e = .returned (.tuple #[.agg #[.int .u8 0, .int .u64 0], .int .i64 3]) ∧ Below w.heap.size w w' := by
  have HF : Hid _ := fun w => form_y7 n z w hm
  go_enter Try.func52, Try.ntmps52
  go_wp2_with (first | (go_at_call 64; refine (HF.out _).mono ?_; rintro e w1 ⟨rfl, hb1⟩; obtain ⟨hc1, hf1⟩ := bcell hb1; have z1 : w.heap.size + 1 < w1.heap.size := (by have := hb1.size; simp at this; omega); have q0 : w1.cell? ⟨w.heap.size + 1, 0, none⟩ = some (.int .u8 0) := (by rw [hc1 _ _ (by simp), World.cell?_alloc_at _ _ _ _ (by simp)]; rfl); have q1 : w1.cell? ⟨w.heap.size + 1, 1, none⟩ = some (.int .u64 0) := (by rw [hc1 _ _ (by simp), World.cell?_alloc_at _ _ _ _ (by simp)]; rfl); have B1 : Below w.heap.size w w1 := Below.trans (by repeat (first | exact Below.refl _ _ | refine Below.setCell ?_ (by simp) _ | refine Below.alloc ?_ (by simp <;> omega) _ | refine Below.drew ?_)) (hb1.mono (by simp <;> omega)); clear hb1) | (go_at_call 61; refine (bounds_7 _).mono ?_; rintro e w' ⟨rfl, rfl⟩))
  exact bodyPost_ret (v := .tuple #[.agg #[.int .u8 0, .int .u64 0], .int .i64 3]) (by simp [results, Try.results52, go_sem, q0, q1]) rfl ⟨rfl, by repeat (first | refine Below.setCell ?_ (by simp <;> omega) _ | exact B1)⟩
theorem word_ok7 (n : Int) (z : ByteArray) (w : World) (hm : (z.toList == []) = true) (h1 : 0 ≤ n) (h2 : n ≤ 99999) :
    Calls Try.prog 52 #[.agg #[.int .i64 7, .int .i64 n, .string z]] w fun e w' => e = .returned (.tuple #[.agg #[.int .u8 7, .int .u64 (n - (0))], .int .i64 0]) ∧ Below w.heap.size w w' := by
  have HF : Hid _ := fun w => form_y7 n z w hm
  go_enter Try.func52, Try.ntmps52
  go_wp2_with (first | (go_at_call 64; refine (HF.out _).mono ?_; rintro e w1 ⟨rfl, hb1⟩; obtain ⟨hc1, hf1⟩ := bcell hb1; have z1 : w.heap.size + 1 < w1.heap.size := (by have := hb1.size; simp at this; omega); have q0 : w1.cell? ⟨w.heap.size + 1, 0, none⟩ = some (.int .u8 0) := (by rw [hc1 _ _ (by simp), World.cell?_alloc_at _ _ _ _ (by simp)]; rfl); have q1 : w1.cell? ⟨w.heap.size + 1, 1, none⟩ = some (.int .u64 0) := (by rw [hc1 _ _ (by simp), World.cell?_alloc_at _ _ _ _ (by simp)]; rfl); have B1 : Below w.heap.size w w1 := Below.trans (by repeat (first | exact Below.refl _ _ | refine Below.setCell ?_ (by simp) _ | refine Below.alloc ?_ (by simp <;> omega) _ | refine Below.drew ?_)) (hb1.mono (by simp <;> omega)); clear hb1) | (go_at_call 61; refine (bounds_7 _).mono ?_; rintro e w' ⟨rfl, rfl⟩))
  exact bodyPost_ret (v := .tuple #[.agg #[.int .u8 7, .int .u64 (n - (0))], .int .i64 0]) (by simp [results, Try.results52, go_sem, q0, q1]) rfl ⟨rfl, by repeat (first | refine Below.setCell ?_ (by simp <;> omega) _ | exact B1)⟩
theorem word_name8 (n : Int) (z : ByteArray) (w : World) (hm : (z.toList == []) = false) :
    Calls Try.prog 52 #[.agg #[.int .i64 8, .int .i64 n, .string z]] w fun e w' => e = .returned (.tuple #[.agg #[.int .u8 0, .int .u64 0], .int .i64 1]) ∧ Below w.heap.size w w' := by
  have HF : Hid _ := fun w => form_n8 n z w hm
  go_enter Try.func52, Try.ntmps52
  go_wp2_with (first | (go_at_call 64; refine (HF.out _).mono ?_; rintro e w1 ⟨rfl, hb1⟩; obtain ⟨hc1, hf1⟩ := bcell hb1; have z1 : w.heap.size + 1 < w1.heap.size := (by have := hb1.size; simp at this; omega); have q0 : w1.cell? ⟨w.heap.size + 1, 0, none⟩ = some (.int .u8 0) := (by rw [hc1 _ _ (by simp), World.cell?_alloc_at _ _ _ _ (by simp)]; rfl); have q1 : w1.cell? ⟨w.heap.size + 1, 1, none⟩ = some (.int .u64 0) := (by rw [hc1 _ _ (by simp), World.cell?_alloc_at _ _ _ _ (by simp)]; rfl); have B1 : Below w.heap.size w w1 := Below.trans (by repeat (first | exact Below.refl _ _ | refine Below.setCell ?_ (by simp) _ | refine Below.alloc ?_ (by simp <;> omega) _ | refine Below.drew ?_)) (hb1.mono (by simp <;> omega)); clear hb1) | (go_at_call 61; refine (bounds_8 _).mono ?_; rintro e w' ⟨rfl, rfl⟩))
  exact bodyPost_ret (v := .tuple #[.agg #[.int .u8 0, .int .u64 0], .int .i64 1]) (by simp [results, Try.results52, go_sem, q0, q1]) rfl ⟨rfl, by repeat (first | refine Below.setCell ?_ (by simp <;> omega) _ | exact B1)⟩
theorem word_lo8 (n : Int) (z : ByteArray) (w : World) (hm : (z.toList == []) = true) (h1 : n < 0) :
    Calls Try.prog 52 #[.agg #[.int .i64 8, .int .i64 n, .string z]] w fun e w' => e = .returned (.tuple #[.agg #[.int .u8 0, .int .u64 0], .int .i64 3]) ∧ Below w.heap.size w w' := by
  have HF : Hid _ := fun w => form_y8 n z w hm
  go_enter Try.func52, Try.ntmps52
  go_wp2_with (first | (go_at_call 64; refine (HF.out _).mono ?_; rintro e w1 ⟨rfl, hb1⟩; obtain ⟨hc1, hf1⟩ := bcell hb1; have z1 : w.heap.size + 1 < w1.heap.size := (by have := hb1.size; simp at this; omega); have q0 : w1.cell? ⟨w.heap.size + 1, 0, none⟩ = some (.int .u8 0) := (by rw [hc1 _ _ (by simp), World.cell?_alloc_at _ _ _ _ (by simp)]; rfl); have q1 : w1.cell? ⟨w.heap.size + 1, 1, none⟩ = some (.int .u64 0) := (by rw [hc1 _ _ (by simp), World.cell?_alloc_at _ _ _ _ (by simp)]; rfl); have B1 : Below w.heap.size w w1 := Below.trans (by repeat (first | exact Below.refl _ _ | refine Below.setCell ?_ (by simp) _ | refine Below.alloc ?_ (by simp <;> omega) _ | refine Below.drew ?_)) (hb1.mono (by simp <;> omega)); clear hb1) | (go_at_call 61; refine (bounds_8 _).mono ?_; rintro e w' ⟨rfl, rfl⟩))
  exact bodyPost_ret (v := .tuple #[.agg #[.int .u8 0, .int .u64 0], .int .i64 3]) (by simp [results, Try.results52, go_sem, q0, q1]) rfl ⟨rfl, by repeat (first | refine Below.setCell ?_ (by simp <;> omega) _ | exact B1)⟩
theorem word_hi8 (n : Int) (z : ByteArray) (w : World) (hm : (z.toList == []) = true) (h1 : 0 ≤ n) (h2 : 99999 < n) :
    Calls Try.prog 52 #[.agg #[.int .i64 8, .int .i64 n, .string z]] w fun e w' => e = .returned (.tuple #[.agg #[.int .u8 0, .int .u64 0], .int .i64 3]) ∧ Below w.heap.size w w' := by
  have HF : Hid _ := fun w => form_y8 n z w hm
  go_enter Try.func52, Try.ntmps52
  go_wp2_with (first | (go_at_call 64; refine (HF.out _).mono ?_; rintro e w1 ⟨rfl, hb1⟩; obtain ⟨hc1, hf1⟩ := bcell hb1; have z1 : w.heap.size + 1 < w1.heap.size := (by have := hb1.size; simp at this; omega); have q0 : w1.cell? ⟨w.heap.size + 1, 0, none⟩ = some (.int .u8 0) := (by rw [hc1 _ _ (by simp), World.cell?_alloc_at _ _ _ _ (by simp)]; rfl); have q1 : w1.cell? ⟨w.heap.size + 1, 1, none⟩ = some (.int .u64 0) := (by rw [hc1 _ _ (by simp), World.cell?_alloc_at _ _ _ _ (by simp)]; rfl); have B1 : Below w.heap.size w w1 := Below.trans (by repeat (first | exact Below.refl _ _ | refine Below.setCell ?_ (by simp) _ | refine Below.alloc ?_ (by simp <;> omega) _ | refine Below.drew ?_)) (hb1.mono (by simp <;> omega)); clear hb1) | (go_at_call 61; refine (bounds_8 _).mono ?_; rintro e w' ⟨rfl, rfl⟩))
  exact bodyPost_ret (v := .tuple #[.agg #[.int .u8 0, .int .u64 0], .int .i64 3]) (by simp [results, Try.results52, go_sem, q0, q1]) rfl ⟨rfl, by repeat (first | refine Below.setCell ?_ (by simp <;> omega) _ | exact B1)⟩
theorem word_ok8 (n : Int) (z : ByteArray) (w : World) (hm : (z.toList == []) = true) (h1 : 0 ≤ n) (h2 : n ≤ 99999) :
    Calls Try.prog 52 #[.agg #[.int .i64 8, .int .i64 n, .string z]] w fun e w' => e = .returned (.tuple #[.agg #[.int .u8 8, .int .u64 (n - (0))], .int .i64 0]) ∧ Below w.heap.size w w' := by
  have HF : Hid _ := fun w => form_y8 n z w hm
  go_enter Try.func52, Try.ntmps52
  go_wp2_with (first | (go_at_call 64; refine (HF.out _).mono ?_; rintro e w1 ⟨rfl, hb1⟩; obtain ⟨hc1, hf1⟩ := bcell hb1; have z1 : w.heap.size + 1 < w1.heap.size := (by have := hb1.size; simp at this; omega); have q0 : w1.cell? ⟨w.heap.size + 1, 0, none⟩ = some (.int .u8 0) := (by rw [hc1 _ _ (by simp), World.cell?_alloc_at _ _ _ _ (by simp)]; rfl); have q1 : w1.cell? ⟨w.heap.size + 1, 1, none⟩ = some (.int .u64 0) := (by rw [hc1 _ _ (by simp), World.cell?_alloc_at _ _ _ _ (by simp)]; rfl); have B1 : Below w.heap.size w w1 := Below.trans (by repeat (first | exact Below.refl _ _ | refine Below.setCell ?_ (by simp) _ | refine Below.alloc ?_ (by simp <;> omega) _ | refine Below.drew ?_)) (hb1.mono (by simp <;> omega)); clear hb1) | (go_at_call 61; refine (bounds_8 _).mono ?_; rintro e w' ⟨rfl, rfl⟩))
  exact bodyPost_ret (v := .tuple #[.agg #[.int .u8 8, .int .u64 (n - (0))], .int .i64 0]) (by simp [results, Try.results52, go_sem, q0, q1]) rfl ⟨rfl, by repeat (first | refine Below.setCell ?_ (by simp <;> omega) _ | exact B1)⟩
theorem word_num3 (n : Int) (z : ByteArray) (w : World) (h0 : (n == 0) = false) :
    Calls Try.prog 52 #[.agg #[.int .i64 3, .int .i64 n, .string z]] w fun e w' => e = .returned (.tuple #[.agg #[.int .u8 0, .int .u64 0], .int .i64 1]) ∧ Below w.heap.size w w' := by
  have HF : Hid _ := fun w => form_n3 n z w h0
  go_enter Try.func52, Try.ntmps52
  go_wp2_with (first | (go_at_call 64; refine (HF.out _).mono ?_; rintro e w1 ⟨rfl, hb1⟩; obtain ⟨hc1, hf1⟩ := bcell hb1; have z1 : w.heap.size + 1 < w1.heap.size := (by have := hb1.size; simp at this; omega); have q0 : w1.cell? ⟨w.heap.size + 1, 0, none⟩ = some (.int .u8 0) := (by rw [hc1 _ _ (by simp), World.cell?_alloc_at _ _ _ _ (by simp)]; rfl); have q1 : w1.cell? ⟨w.heap.size + 1, 1, none⟩ = some (.int .u64 0) := (by rw [hc1 _ _ (by simp), World.cell?_alloc_at _ _ _ _ (by simp)]; rfl); have B1 : Below w.heap.size w w1 := Below.trans (by repeat (first | exact Below.refl _ _ | refine Below.setCell ?_ (by simp) _ | refine Below.alloc ?_ (by simp <;> omega) _ | refine Below.drew ?_)) (hb1.mono (by simp <;> omega)); clear hb1) | (go_at_call 61; refine (bounds_3 _).mono ?_; rintro e w' ⟨rfl, rfl⟩))
  exact bodyPost_ret (v := .tuple #[.agg #[.int .u8 0, .int .u64 0], .int .i64 1]) (by simp [results, Try.results52, go_sem, q0, q1]) rfl ⟨rfl, by repeat (first | refine Below.setCell ?_ (by simp <;> omega) _ | exact B1)⟩
theorem word_name3 (n : Int) (z : ByteArray) (w : World) (h0 : n = 0) (hm : (z.toList == []) = false) :
    Calls Try.prog 52 #[.agg #[.int .i64 3, .int .i64 n, .string z]] w fun e w' => e = .returned (.tuple #[.agg #[.int .u8 0, .int .u64 0], .int .i64 1]) ∧ Below w.heap.size w w' := by
  have HF : Hid _ := fun w => form_m3 n z w h0 hm
  subst h0
  go_enter Try.func52, Try.ntmps52
  go_wp2_with (first | (go_at_call 64; refine (HF.out _).mono ?_; rintro e w1 ⟨rfl, hb1⟩; obtain ⟨hc1, hf1⟩ := bcell hb1; have z1 : w.heap.size + 1 < w1.heap.size := (by have := hb1.size; simp at this; omega); have q0 : w1.cell? ⟨w.heap.size + 1, 0, none⟩ = some (.int .u8 0) := (by rw [hc1 _ _ (by simp), World.cell?_alloc_at _ _ _ _ (by simp)]; rfl); have q1 : w1.cell? ⟨w.heap.size + 1, 1, none⟩ = some (.int .u64 0) := (by rw [hc1 _ _ (by simp), World.cell?_alloc_at _ _ _ _ (by simp)]; rfl); have B1 : Below w.heap.size w w1 := Below.trans (by repeat (first | exact Below.refl _ _ | refine Below.setCell ?_ (by simp) _ | refine Below.alloc ?_ (by simp <;> omega) _ | refine Below.drew ?_)) (hb1.mono (by simp <;> omega)); clear hb1) | (go_at_call 61; refine (bounds_3 _).mono ?_; rintro e w' ⟨rfl, rfl⟩))
  exact bodyPost_ret (v := .tuple #[.agg #[.int .u8 0, .int .u64 0], .int .i64 1]) (by simp [results, Try.results52, go_sem, q0, q1]) rfl ⟨rfl, by repeat (first | refine Below.setCell ?_ (by simp <;> omega) _ | exact B1)⟩
theorem word_ok3 (n : Int) (z : ByteArray) (w : World) (h0 : n = 0) (hm : (z.toList == []) = true) :
    Calls Try.prog 52 #[.agg #[.int .i64 3, .int .i64 n, .string z]] w fun e w' => e = .returned (.tuple #[.agg #[.int .u8 3, .int .u64 0], .int .i64 0]) ∧ Below w.heap.size w w' := by
  have HF : Hid _ := fun w => form_y3 n z w h0 hm
  subst h0
  go_enter Try.func52, Try.ntmps52
  go_wp2_with (first | (go_at_call 64; refine (HF.out _).mono ?_; rintro e w1 ⟨rfl, hb1⟩; obtain ⟨hc1, hf1⟩ := bcell hb1; have z1 : w.heap.size + 1 < w1.heap.size := (by have := hb1.size; simp at this; omega); have q0 : w1.cell? ⟨w.heap.size + 1, 0, none⟩ = some (.int .u8 0) := (by rw [hc1 _ _ (by simp), World.cell?_alloc_at _ _ _ _ (by simp)]; rfl); have q1 : w1.cell? ⟨w.heap.size + 1, 1, none⟩ = some (.int .u64 0) := (by rw [hc1 _ _ (by simp), World.cell?_alloc_at _ _ _ _ (by simp)]; rfl); have B1 : Below w.heap.size w w1 := Below.trans (by repeat (first | exact Below.refl _ _ | refine Below.setCell ?_ (by simp) _ | refine Below.alloc ?_ (by simp <;> omega) _ | refine Below.drew ?_)) (hb1.mono (by simp <;> omega)); clear hb1) | (go_at_call 61; refine (bounds_3 _).mono ?_; rintro e w' ⟨rfl, rfl⟩))
  exact bodyPost_ret (v := .tuple #[.agg #[.int .u8 3, .int .u64 0], .int .i64 0]) (by simp [results, Try.results52, go_sem, q0, q1]) rfl ⟨rfl, by repeat (first | refine Below.setCell ?_ (by simp <;> omega) _ | exact B1)⟩
theorem word_num9 (n : Int) (z : ByteArray) (w : World) (h0 : (n == 0) = false) :
    Calls Try.prog 52 #[.agg #[.int .i64 9, .int .i64 n, .string z]] w fun e w' => e = .returned (.tuple #[.agg #[.int .u8 0, .int .u64 0], .int .i64 1]) ∧ Below w.heap.size w w' := by
  have HF : Hid _ := fun w => form_n9 n z w h0
  go_enter Try.func52, Try.ntmps52
  go_wp2_with (first | (go_at_call 64; refine (HF.out _).mono ?_; rintro e w1 ⟨rfl, hb1⟩; obtain ⟨hc1, hf1⟩ := bcell hb1; have z1 : w.heap.size + 1 < w1.heap.size := (by have := hb1.size; simp at this; omega); have q0 : w1.cell? ⟨w.heap.size + 1, 0, none⟩ = some (.int .u8 0) := (by rw [hc1 _ _ (by simp), World.cell?_alloc_at _ _ _ _ (by simp)]; rfl); have q1 : w1.cell? ⟨w.heap.size + 1, 1, none⟩ = some (.int .u64 0) := (by rw [hc1 _ _ (by simp), World.cell?_alloc_at _ _ _ _ (by simp)]; rfl); have B1 : Below w.heap.size w w1 := Below.trans (by repeat (first | exact Below.refl _ _ | refine Below.setCell ?_ (by simp) _ | refine Below.alloc ?_ (by simp <;> omega) _ | refine Below.drew ?_)) (hb1.mono (by simp <;> omega)); clear hb1) | (go_at_call 61; refine (bounds_9 _).mono ?_; rintro e w' ⟨rfl, rfl⟩))
  exact bodyPost_ret (v := .tuple #[.agg #[.int .u8 0, .int .u64 0], .int .i64 1]) (by simp [results, Try.results52, go_sem, q0, q1]) rfl ⟨rfl, by repeat (first | refine Below.setCell ?_ (by simp <;> omega) _ | exact B1)⟩
theorem word_name9 (n : Int) (z : ByteArray) (w : World) (h0 : n = 0) (hm : (z.toList == []) = false) :
    Calls Try.prog 52 #[.agg #[.int .i64 9, .int .i64 n, .string z]] w fun e w' => e = .returned (.tuple #[.agg #[.int .u8 0, .int .u64 0], .int .i64 1]) ∧ Below w.heap.size w w' := by
  have HF : Hid _ := fun w => form_m9 n z w h0 hm
  subst h0
  go_enter Try.func52, Try.ntmps52
  go_wp2_with (first | (go_at_call 64; refine (HF.out _).mono ?_; rintro e w1 ⟨rfl, hb1⟩; obtain ⟨hc1, hf1⟩ := bcell hb1; have z1 : w.heap.size + 1 < w1.heap.size := (by have := hb1.size; simp at this; omega); have q0 : w1.cell? ⟨w.heap.size + 1, 0, none⟩ = some (.int .u8 0) := (by rw [hc1 _ _ (by simp), World.cell?_alloc_at _ _ _ _ (by simp)]; rfl); have q1 : w1.cell? ⟨w.heap.size + 1, 1, none⟩ = some (.int .u64 0) := (by rw [hc1 _ _ (by simp), World.cell?_alloc_at _ _ _ _ (by simp)]; rfl); have B1 : Below w.heap.size w w1 := Below.trans (by repeat (first | exact Below.refl _ _ | refine Below.setCell ?_ (by simp) _ | refine Below.alloc ?_ (by simp <;> omega) _ | refine Below.drew ?_)) (hb1.mono (by simp <;> omega)); clear hb1) | (go_at_call 61; refine (bounds_9 _).mono ?_; rintro e w' ⟨rfl, rfl⟩))
  exact bodyPost_ret (v := .tuple #[.agg #[.int .u8 0, .int .u64 0], .int .i64 1]) (by simp [results, Try.results52, go_sem, q0, q1]) rfl ⟨rfl, by repeat (first | refine Below.setCell ?_ (by simp <;> omega) _ | exact B1)⟩
theorem word_ok9 (n : Int) (z : ByteArray) (w : World) (h0 : n = 0) (hm : (z.toList == []) = true) :
    Calls Try.prog 52 #[.agg #[.int .i64 9, .int .i64 n, .string z]] w fun e w' => e = .returned (.tuple #[.agg #[.int .u8 9, .int .u64 0], .int .i64 0]) ∧ Below w.heap.size w w' := by
  have HF : Hid _ := fun w => form_y9 n z w h0 hm
  subst h0
  go_enter Try.func52, Try.ntmps52
  go_wp2_with (first | (go_at_call 64; refine (HF.out _).mono ?_; rintro e w1 ⟨rfl, hb1⟩; obtain ⟨hc1, hf1⟩ := bcell hb1; have z1 : w.heap.size + 1 < w1.heap.size := (by have := hb1.size; simp at this; omega); have q0 : w1.cell? ⟨w.heap.size + 1, 0, none⟩ = some (.int .u8 0) := (by rw [hc1 _ _ (by simp), World.cell?_alloc_at _ _ _ _ (by simp)]; rfl); have q1 : w1.cell? ⟨w.heap.size + 1, 1, none⟩ = some (.int .u64 0) := (by rw [hc1 _ _ (by simp), World.cell?_alloc_at _ _ _ _ (by simp)]; rfl); have B1 : Below w.heap.size w w1 := Below.trans (by repeat (first | exact Below.refl _ _ | refine Below.setCell ?_ (by simp) _ | refine Below.alloc ?_ (by simp <;> omega) _ | refine Below.drew ?_)) (hb1.mono (by simp <;> omega)); clear hb1) | (go_at_call 61; refine (bounds_9 _).mono ?_; rintro e w' ⟨rfl, rfl⟩))
  exact bodyPost_ret (v := .tuple #[.agg #[.int .u8 9, .int .u64 0], .int .i64 0]) (by simp [results, Try.results52, go_sem, q0, q1]) rfl ⟨rfl, by repeat (first | refine Below.setCell ?_ (by simp <;> omega) _ | exact B1)⟩
theorem word_num4 (n : Int) (z : ByteArray) (w : World) (h0 : (n == 0) = false) :
    Calls Try.prog 52 #[.agg #[.int .i64 4, .int .i64 n, .string z]] w fun e w' => e = .returned (.tuple #[.agg #[.int .u8 0, .int .u64 0], .int .i64 1]) ∧ Below w.heap.size w w' := by
  have HF : Hid _ := fun w => form_n4 n z w h0
  go_enter Try.func52, Try.ntmps52
  go_wp2_with (first | (go_at_call 64; refine (HF.out _).mono ?_; rintro e w1 ⟨rfl, hb1⟩; obtain ⟨hc1, hf1⟩ := bcell hb1; have z1 : w.heap.size + 1 < w1.heap.size := (by have := hb1.size; simp at this; omega); have q0 : w1.cell? ⟨w.heap.size + 1, 0, none⟩ = some (.int .u8 0) := (by rw [hc1 _ _ (by simp), World.cell?_alloc_at _ _ _ _ (by simp)]; rfl); have q1 : w1.cell? ⟨w.heap.size + 1, 1, none⟩ = some (.int .u64 0) := (by rw [hc1 _ _ (by simp), World.cell?_alloc_at _ _ _ _ (by simp)]; rfl); have B1 : Below w.heap.size w w1 := Below.trans (by repeat (first | exact Below.refl _ _ | refine Below.setCell ?_ (by simp) _ | refine Below.alloc ?_ (by simp <;> omega) _ | refine Below.drew ?_)) (hb1.mono (by simp <;> omega)); clear hb1) | (go_at_call 61; refine (bounds_4 _).mono ?_; rintro e w' ⟨rfl, rfl⟩))
  exact bodyPost_ret (v := .tuple #[.agg #[.int .u8 0, .int .u64 0], .int .i64 1]) (by simp [results, Try.results52, go_sem, q0, q1]) rfl ⟨rfl, by repeat (first | refine Below.setCell ?_ (by simp <;> omega) _ | exact B1)⟩
theorem word_no4 (n : Int) (z : ByteArray) (w : World) (hz : z.size ≤ 9223372036854775807) (h0 : n = 0) (hy : symL z.data.toList = false) :
    Calls Try.prog 52 #[.agg #[.int .i64 4, .int .i64 n, .string z]] w fun e w' => e = .returned (.tuple #[.agg #[.int .u8 0, .int .u64 0], .int .i64 5]) ∧ Below w.heap.size w w' := by
  have HF : Hid _ := fun w => form_y4 n z w h0
  have HS : Hid (∀ w, Calls Try.prog 65 #[.string z] w fun e w' => e = .returned (.int .i64 5) ∧ w' = w) := fun w => by have := implSym_any z w hz; rw [hy] at this; exact this
  subst h0
  go_enter Try.func52, Try.ntmps52
  go_wp2_with (first | (go_at_call 64; refine (HF.out _).mono ?_; rintro e w1 ⟨rfl, hb1⟩; obtain ⟨hc1, hf1⟩ := bcell hb1; have z1 : w.heap.size + 1 < w1.heap.size := (by have := hb1.size; simp at this; omega); have q0 : w1.cell? ⟨w.heap.size + 1, 0, none⟩ = some (.int .u8 0) := (by rw [hc1 _ _ (by simp), World.cell?_alloc_at _ _ _ _ (by simp)]; rfl); have q1 : w1.cell? ⟨w.heap.size + 1, 1, none⟩ = some (.int .u64 0) := (by rw [hc1 _ _ (by simp), World.cell?_alloc_at _ _ _ _ (by simp)]; rfl); have B1 : Below w.heap.size w w1 := Below.trans (by repeat (first | exact Below.refl _ _ | refine Below.setCell ?_ (by simp) _ | refine Below.alloc ?_ (by simp <;> omega) _ | refine Below.drew ?_)) (hb1.mono (by simp <;> omega)); clear hb1) | (go_at_call 61; refine (bounds_4 _).mono ?_; rintro e w' ⟨rfl, rfl⟩) | (go_at_call 65; refine (HS.out _).mono ?_; rintro e w' ⟨rfl, rfl⟩))
  exact bodyPost_ret (v := .tuple #[.agg #[.int .u8 0, .int .u64 0], .int .i64 5]) (by simp [results, Try.results52, go_sem, q0, q1]) rfl ⟨rfl, by repeat (first | refine Below.setCell ?_ (by simp <;> omega) _ | exact B1)⟩
theorem word_ok4 (n : Int) (z : ByteArray) (w : World) (hz : z.size ≤ 9223372036854775807) (h0 : n = 0) (hy : symL z.data.toList = true) :
    Calls Try.prog 52 #[.agg #[.int .i64 4, .int .i64 n, .string z]] w fun e w' => e = .returned (.tuple #[.agg #[.int .u8 4, .int .u64 (bitsL z.data.toList : Int)], .int .i64 0]) ∧ Below w.heap.size w w' := by
  have HF : Hid _ := fun w => form_y4 n z w h0
  have HS : Hid (∀ w, Calls Try.prog 65 #[.string z] w fun e w' => e = .returned (.int .i64 0) ∧ w' = w) := fun w => by have := implSym_any z w hz; rw [hy] at this; exact this
  have HBt : Hid (∀ w, Calls Try.prog 66 #[.string z] w fun e w' => e = .returned (.int .u64 (bitsL z.data.toList : Int)) ∧ w' = w) := fun w => bits_any z w hy
  subst h0
  go_enter Try.func52, Try.ntmps52
  go_wp2_with (first | (go_at_call 64; refine (HF.out _).mono ?_; rintro e w1 ⟨rfl, hb1⟩; obtain ⟨hc1, hf1⟩ := bcell hb1; have z1 : w.heap.size + 1 < w1.heap.size := (by have := hb1.size; simp at this; omega); have q0 : w1.cell? ⟨w.heap.size + 1, 0, none⟩ = some (.int .u8 0) := (by rw [hc1 _ _ (by simp), World.cell?_alloc_at _ _ _ _ (by simp)]; rfl); have q1 : w1.cell? ⟨w.heap.size + 1, 1, none⟩ = some (.int .u64 0) := (by rw [hc1 _ _ (by simp), World.cell?_alloc_at _ _ _ _ (by simp)]; rfl); have B1 : Below w.heap.size w w1 := Below.trans (by repeat (first | exact Below.refl _ _ | refine Below.setCell ?_ (by simp) _ | refine Below.alloc ?_ (by simp <;> omega) _ | refine Below.drew ?_)) (hb1.mono (by simp <;> omega)); clear hb1) | (go_at_call 61; refine (bounds_4 _).mono ?_; rintro e w' ⟨rfl, rfl⟩) | (go_at_call 65; refine (HS.out _).mono ?_; rintro e w' ⟨rfl, rfl⟩) | (go_at_call 66; refine (HBt.out _).mono ?_; rintro e w' ⟨rfl, rfl⟩))
  exact bodyPost_ret (v := .tuple #[.agg #[.int .u8 4, .int .u64 (bitsL z.data.toList : Int)], .int .i64 0]) (by simp [results, Try.results52, go_sem, q0, q1]) rfl ⟨rfl, by repeat (first | refine Below.setCell ?_ (by simp <;> omega) _ | exact B1)⟩
end Go.Proofs.Ytbfhoennafopaaa
/-
  The program's wordOf: what is wrong with a value, and the tag and the rest that tell it; nothing that was there is turned.
-/
namespace Go.Proofs.Ytbfhoennafopaaa
open Go.RowKit Go.Extern.Stop Go.Stop Go.Extern Num Go.Lib

theorem wd_no (t : Vlu) (c : Int) (h : vfault t = c) (hc : c ≠ 0) : wdOf t = ⟨0, 0⟩ := by
  unfold wdOf; rw [if_neg (by rw [h]; exact hc)]
theorem wordOf_any (t : Vlu) (w : World) (hz : t.name.size ≤ 9223372036854775807) :
    Calls Try.prog 52 #[t.val] w fun e w' => e = .returned (.tuple #[(wdOf t).val, .int .i64 (vfault t)]) ∧ Below w.heap.size w w' := by
  obtain ⟨k, n, z⟩ := t
  simp only at hz
  show Calls Try.prog 52 #[.agg #[.int .i64 k, .int .i64 n, .string z]] w fun e w' => e = .returned (.tuple #[.agg #[.int .u8 (wdOf ⟨k, n, z⟩).tag, .int .u64 (wdOf ⟨k, n, z⟩).rest], .int .i64 (vfault ⟨k, n, z⟩)]) ∧ Below w.heap.size w w'
  rcases vkinds k with rfl | rfl | rfl | rfl | rfl | rfl | rfl | rfl | rfl | hk
  · cases hm : (z.toList == [])
    · have hm' := (name_not z).1 hm
      have e : vfault ⟨1, n, z⟩ = 1 := by simp [vfault, hm']
      rw [wd_no _ _ e (by decide), e]; exact word_name1 n z w hm
    · have hm' := (name_nil z).1 hm
      by_cases h1 : -1000000000 ≤ n
      · by_cases h2 : n ≤ 1000000000
        · have e : vfault ⟨1, n, z⟩ = 0 := by simp [vfault, hm', inB]; omega
          have e2 : wdOf ⟨1, n, z⟩ = ⟨1, n - (-1000000000)⟩ := by simp [wdOf, e, least]
          rw [e2, e]; exact word_ok1 n z w hm h1 h2
        · have e : vfault ⟨1, n, z⟩ = 3 := by simp [vfault, hm', inB]; omega
          rw [wd_no _ _ e (by decide), e]; exact word_hi1 n z w hm h1 (by omega)
      · have e : vfault ⟨1, n, z⟩ = 3 := by simp [vfault, hm', inB]; omega
        rw [wd_no _ _ e (by decide), e]; exact word_lo1 n z w hm (by omega)
  · cases hm : (z.toList == [])
    · have hm' := (name_not z).1 hm
      have e : vfault ⟨2, n, z⟩ = 1 := by simp [vfault, hm']
      rw [wd_no _ _ e (by decide), e]; exact word_name2 n z w hm
    · have hm' := (name_nil z).1 hm
      by_cases h1 : 0 ≤ n
      · by_cases h2 : n ≤ 1
        · have e : vfault ⟨2, n, z⟩ = 0 := by simp [vfault, hm']; omega
          have e2 : wdOf ⟨2, n, z⟩ = ⟨2, n - (0)⟩ := by simp [wdOf, e, least]
          rw [e2, e]; exact word_ok2 n z w hm h1 h2
        · have e : vfault ⟨2, n, z⟩ = 3 := by simp [vfault, hm']; omega
          rw [wd_no _ _ e (by decide), e]; exact word_hi2 n z w hm h1 (by omega)
      · have e : vfault ⟨2, n, z⟩ = 3 := by simp [vfault, hm']; omega
        rw [wd_no _ _ e (by decide), e]; exact word_lo2 n z w hm (by omega)
  · by_cases h0 : n = 0
    · cases hm : (z.toList == [])
      · have hm' := (name_not z).1 hm
        have e : vfault ⟨3, n, z⟩ = 1 := by simp [vfault, hm']
        rw [wd_no _ _ e (by decide), e]; exact word_name3 n z w h0 hm
      · have hm' := (name_nil z).1 hm
        have e : vfault ⟨3, n, z⟩ = 0 := by simp [vfault, hm', h0]
        have e2 : wdOf ⟨3, n, z⟩ = ⟨3, 0⟩ := by subst h0; simp [wdOf, e, least]
        rw [e2, e]; exact word_ok3 n z w h0 hm
    · have e : vfault ⟨3, n, z⟩ = 1 := by simp [vfault, h0]
      rw [wd_no _ _ e (by decide), e]; exact word_num3 n z w (by simpa using h0)
  · by_cases h0 : n = 0
    · cases hy : symL z.data.toList
      · have e : vfault ⟨4, n, z⟩ = 5 := by simp [vfault, h0, hy]
        rw [wd_no _ _ e (by decide), e]; exact word_no4 n z w hz h0 hy
      · have e : vfault ⟨4, n, z⟩ = 0 := by simp [vfault, h0, hy]
        have e2 : wdOf ⟨4, n, z⟩ = ⟨4, (bitsL z.data.toList : Int)⟩ := by simp [wdOf, e]
        rw [e2, e]; exact word_ok4 n z w hz h0 hy
    · have e : vfault ⟨4, n, z⟩ = 1 := by simp [vfault, h0]
      rw [wd_no _ _ e (by decide), e]; exact word_num4 n z w (by simpa using h0)
  · cases hm : (z.toList == [])
    · have hm' := (name_not z).1 hm
      have e : vfault ⟨5, n, z⟩ = 1 := by simp [vfault, hm']
      rw [wd_no _ _ e (by decide), e]; exact word_name5 n z w hm
    · have hm' := (name_nil z).1 hm
      by_cases h1 : 0 ≤ n
      · by_cases h2 : n ≤ 99999
        · have e : vfault ⟨5, n, z⟩ = 0 := by simp [vfault, hm']; omega
          have e2 : wdOf ⟨5, n, z⟩ = ⟨5, n - (0)⟩ := by simp [wdOf, e, least]
          rw [e2, e]; exact word_ok5 n z w hm h1 h2
        · have e : vfault ⟨5, n, z⟩ = 3 := by simp [vfault, hm']; omega
          rw [wd_no _ _ e (by decide), e]; exact word_hi5 n z w hm h1 (by omega)
      · have e : vfault ⟨5, n, z⟩ = 3 := by simp [vfault, hm']; omega
        rw [wd_no _ _ e (by decide), e]; exact word_lo5 n z w hm (by omega)
  · cases hm : (z.toList == [])
    · have hm' := (name_not z).1 hm
      have e : vfault ⟨6, n, z⟩ = 1 := by simp [vfault, hm']
      rw [wd_no _ _ e (by decide), e]; exact word_name6 n z w hm
    · have hm' := (name_nil z).1 hm
      by_cases h1 : 0 ≤ n
      · by_cases h2 : n ≤ 99999
        · have e : vfault ⟨6, n, z⟩ = 0 := by simp [vfault, hm']; omega
          have e2 : wdOf ⟨6, n, z⟩ = ⟨6, n - (0)⟩ := by simp [wdOf, e, least]
          rw [e2, e]; exact word_ok6 n z w hm h1 h2
        · have e : vfault ⟨6, n, z⟩ = 3 := by simp [vfault, hm']; omega
          rw [wd_no _ _ e (by decide), e]; exact word_hi6 n z w hm h1 (by omega)
      · have e : vfault ⟨6, n, z⟩ = 3 := by simp [vfault, hm']; omega
        rw [wd_no _ _ e (by decide), e]; exact word_lo6 n z w hm (by omega)
  · cases hm : (z.toList == [])
    · have hm' := (name_not z).1 hm
      have e : vfault ⟨7, n, z⟩ = 1 := by simp [vfault, hm']
      rw [wd_no _ _ e (by decide), e]; exact word_name7 n z w hm
    · have hm' := (name_nil z).1 hm
      by_cases h1 : 0 ≤ n
      · by_cases h2 : n ≤ 99999
        · have e : vfault ⟨7, n, z⟩ = 0 := by simp [vfault, hm']; omega
          have e2 : wdOf ⟨7, n, z⟩ = ⟨7, n - (0)⟩ := by simp [wdOf, e, least]
          rw [e2, e]; exact word_ok7 n z w hm h1 h2
        · have e : vfault ⟨7, n, z⟩ = 3 := by simp [vfault, hm']; omega
          rw [wd_no _ _ e (by decide), e]; exact word_hi7 n z w hm h1 (by omega)
      · have e : vfault ⟨7, n, z⟩ = 3 := by simp [vfault, hm']; omega
        rw [wd_no _ _ e (by decide), e]; exact word_lo7 n z w hm (by omega)
  · cases hm : (z.toList == [])
    · have hm' := (name_not z).1 hm
      have e : vfault ⟨8, n, z⟩ = 1 := by simp [vfault, hm']
      rw [wd_no _ _ e (by decide), e]; exact word_name8 n z w hm
    · have hm' := (name_nil z).1 hm
      by_cases h1 : 0 ≤ n
      · by_cases h2 : n ≤ 99999
        · have e : vfault ⟨8, n, z⟩ = 0 := by simp [vfault, hm']; omega
          have e2 : wdOf ⟨8, n, z⟩ = ⟨8, n - (0)⟩ := by simp [wdOf, e, least]
          rw [e2, e]; exact word_ok8 n z w hm h1 h2
        · have e : vfault ⟨8, n, z⟩ = 3 := by simp [vfault, hm']; omega
          rw [wd_no _ _ e (by decide), e]; exact word_hi8 n z w hm h1 (by omega)
      · have e : vfault ⟨8, n, z⟩ = 3 := by simp [vfault, hm']; omega
        rw [wd_no _ _ e (by decide), e]; exact word_lo8 n z w hm (by omega)
  · by_cases h0 : n = 0
    · cases hm : (z.toList == [])
      · have hm' := (name_not z).1 hm
        have e : vfault ⟨9, n, z⟩ = 1 := by simp [vfault, hm']
        rw [wd_no _ _ e (by decide), e]; exact word_name9 n z w h0 hm
      · have hm' := (name_nil z).1 hm
        have e : vfault ⟨9, n, z⟩ = 0 := by simp [vfault, hm', h0]
        have e2 : wdOf ⟨9, n, z⟩ = ⟨9, 0⟩ := by subst h0; simp [wdOf, e, least]
        rw [e2, e]; exact word_ok9 n z w h0 hm
    · have e : vfault ⟨9, n, z⟩ = 1 := by simp [vfault, h0]
      rw [wd_no _ _ e (by decide), e]; exact word_num9 n z w (by simpa using h0)
  · have e : vfault ⟨k, n, z⟩ = 1 := by simp only [vfault]; rw [if_pos hk]
    obtain ⟨_, _, k1, k2, k3, k4, k5, k6, k7, k8, k9⟩ := vout k hk
    rw [wd_no _ _ e (by decide), e]; exact word_out n z w k k1 k2 k3 k4 k5 k6 k7 k8 k9
end Go.Proofs.Ytbfhoennafopaaa
