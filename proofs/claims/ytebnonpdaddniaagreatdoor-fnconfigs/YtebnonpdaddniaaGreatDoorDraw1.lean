/-
  The model's l1Next: it answers a number from 0 on below n (0 where n is below 1), counts one on, and turns nothing else.
-/
import Derived.Test.YtebnonpdaddniaaGreatDoorCodes
import Derived.Deep.QuietTactic
import Derived.BigQuiet
namespace Go.Proofs.YtebnonpdaddniaaGreatDoor
open Go.RowKit Go.Extern.Stop Go.Stop Go.Extern Num

/-- A source of draws lies at block b: the bytes of its code and its count. -/
structure SrcAt (w : World) (b : Nat) (ca : Option Addr) (len cap : Nat) (k : Int) : Prop where
  c0 : w.cell? ⟨b, 0, none⟩ = some (.slice ca len cap)
  c1 : w.cell? ⟨b, 1, none⟩ = some (.int .i64 k)
  f1 : w.frozen? ⟨b, 1, none⟩ = false
  bytes : 0 < len → ∃ cb co, ca = some ⟨cb, co, none⟩ ∧ cb ≠ b ∧ ∀ j, j < len → ∃ x : Int, w.cell? ⟨cb, co + j, none⟩ = some (.int .u8 x) ∧ 0 ≤ x ∧ x ≤ 255

/-- What l1Next comes to: a number within 0 .. n - 1 (0 where n is below 1); the count is one more; nothing else is turned. -/
def NextRes (w : World) (b : Nat) (k n : Int) (e : Ending) (w' : World) : Prop :=
  ∃ (r : Int) (q : Nat), e = .returned (.int .i64 r) ∧ 0 ≤ r ∧ r ≤ n - 1 + (if n < 1 then 1 - n else 0) ∧ w' = (w.setCell ⟨b, 1, none⟩ (.int .i64 (k + 1))).drewN q
theorem nextRes_mk {w : World} {b : Nat} {k n r : Int} (q : Nat) (h0 : 0 ≤ r) (h1 : r < n) : NextRes w b k n (.returned (.int .i64 r)) ((w.setCell ⟨b, 1, none⟩ (.int .i64 (k + 1))).drewN q) :=
  ⟨r, q, rfl, h0, by split <;> omega, rfl⟩
theorem drewN_drewN (w : World) (a c : Nat) : (w.drewN a).drewN c = w.drewN (a + c) := by
  simp [World.drewN, Nat.add_assoc]

theorem next_low (w : World) (b : Nat) (ca : Option Addr) (len cap : Nat) (k n : Int) (h : SrcAt w b ca len cap k) (k0 : 0 ≤ k) (k1 : k ≤ 1000000000000) (hn : n < 1) :
    Calls Tryz.prog 42 #[.pointer (some ⟨b, 0, none⟩), .int .i64 n] w fun e w' => e = .returned (.int .i64 0) ∧ w' = w.setCell ⟨b, 1, none⟩ (.int .i64 (k + 1)) := by
  have c1 := h.c1; have f1 := h.f1
  clear h
  go_enter Tryz.func42, Tryz.ntmps42
  go_wp2
  go_ret
  exact ⟨rfl, rfl⟩
theorem next_none (w : World) (b : Nat) (ca : Option Addr) (cap : Nat) (k n : Int) (h : SrcAt w b ca 0 cap k) (k0 : 0 ≤ k) (k1 : k ≤ 1000000000000) (hn : 1 ≤ n) :
    Calls Tryz.prog 42 #[.pointer (some ⟨b, 0, none⟩), .int .i64 n] w fun e w' => e = .returned (.int .i64 (k * 7 % n)) ∧ w' = w.setCell ⟨b, 1, none⟩ (.int .i64 (k + 1)) := by
  have c1 := h.c1; have f1 := h.f1; have c0 := h.c0
  clear h
  go_enter Tryz.func42, Tryz.ntmps42
  go_wp2
  go_ret
  exact ⟨rfl, rfl⟩
set_option maxHeartbeats 1000000 in
theorem next_small (w : World) (b cb co : Nat) (len cap : Nat) (k n x : Int) (c0 : w.cell? ⟨b, 0, none⟩ = some (.slice (some ⟨cb, co, none⟩) len cap)) (c1 : w.cell? ⟨b, 1, none⟩ = some (.int .i64 k)) (f1 : w.frozen? ⟨b, 1, none⟩ = false)
    (hx : (w.setCell ⟨b, 1, none⟩ (.int .i64 (k + 1))).cell? ⟨cb, co + (k % (len : Int)).toNat, none⟩ = some (.int .u8 x)) (x0 : 0 ≤ x) (x1 : x ≤ 255) (hlen : 0 < len) (hmax : (len : Int) ≤ 9223372036854775807)
    (k0 : 0 ≤ k) (k1 : k ≤ 1000000000000) (hn : 1 ≤ n) (hn2 : n ≤ 200) :
    Calls Tryz.prog 42 #[.pointer (some ⟨b, 0, none⟩), .int .i64 n] w fun e w' => NextRes w b k n e w' := by
  have hz : ((len : Int) == 0) = false := by rw [beq_eq_false_iff_ne]; omega
  have m0 : 0 ≤ k % (len : Int) := Int.emod_nonneg _ (by omega)
  have m1 : k % (len : Int) < (len : Int) := Int.emod_lt_of_pos _ (by omega)
  have d0 : 0 ≤ k / (len : Int) := Int.ediv_nonneg k0 (by omega)
  have d1 : k / (len : Int) ≤ 1000000000000 := Int.le_trans (Int.ediv_le_self _ k0) k1
  go_enter Tryz.func42, Tryz.ntmps42
  go_wp2_with fail
  go_quiet (fail)
  go_wp2
  go_ret
  exact nextRes_mk _ (Int.emod_nonneg _ (by omega)) (Int.emod_lt_of_pos _ (by omega))
set_option maxHeartbeats 1000000 in
theorem next_great (w : World) (b cb co : Nat) (len cap : Nat) (k n x y : Int) (c0 : w.cell? ⟨b, 0, none⟩ = some (.slice (some ⟨cb, co, none⟩) len cap)) (c1 : w.cell? ⟨b, 1, none⟩ = some (.int .i64 k)) (f1 : w.frozen? ⟨b, 1, none⟩ = false)
    (hx : (w.setCell ⟨b, 1, none⟩ (.int .i64 (k + 1))).cell? ⟨cb, co + (k % (len : Int)).toNat, none⟩ = some (.int .u8 x)) (x0 : 0 ≤ x) (x1 : x ≤ 255)
    (hy : (w.setCell ⟨b, 1, none⟩ (.int .i64 (k + 1))).cell? ⟨cb, co + ((k + 1) % (len : Int)).toNat, none⟩ = some (.int .u8 y)) (y0 : 0 ≤ y) (y1 : y ≤ 255)
    (hlen : 0 < len) (hmax : (len : Int) ≤ 9223372036854775807)
    (k0 : 0 ≤ k) (k1 : k ≤ 1000000000000) (hn2 : 200 < n) :
    Calls Tryz.prog 42 #[.pointer (some ⟨b, 0, none⟩), .int .i64 n] w fun e w' => NextRes w b k n e w' := by
  have hz : ((len : Int) == 0) = false := by rw [beq_eq_false_iff_ne]; omega
  have m0 : 0 ≤ k % (len : Int) := Int.emod_nonneg _ (by omega)
  have m1 : k % (len : Int) < (len : Int) := Int.emod_lt_of_pos _ (by omega)
  have m2 : 0 ≤ (k + 1) % (len : Int) := Int.emod_nonneg _ (by omega)
  have m3 : (k + 1) % (len : Int) < (len : Int) := Int.emod_lt_of_pos _ (by omega)
  have d0 : 0 ≤ k / (len : Int) := Int.ediv_nonneg k0 (by omega)
  have d1 : k / (len : Int) ≤ 1000000000000 := Int.le_trans (Int.ediv_le_self _ k0) k1
  go_enter Tryz.func42, Tryz.ntmps42
  go_wp2_with fail
  go_quiet (fail)
  go_wp2_with fail
  go_quiet (fail)
  go_wp2
  go_ret
  first
    | exact nextRes_mk _ (Int.emod_nonneg _ (by omega)) (Int.emod_lt_of_pos _ (by omega))
    | (rw [drewN_drewN]; exact nextRes_mk _ (Int.emod_nonneg _ (by omega)) (Int.emod_lt_of_pos _ (by omega)))
theorem next_any (w : World) (b : Nat) (ca : Option Addr) (len cap : Nat) (k n : Int) (h : SrcAt w b ca len cap k) (hmax : (len : Int) ≤ 9223372036854775807) (k0 : 0 ≤ k) (k1 : k ≤ 1000000000000) :
    Calls Tryz.prog 42 #[.pointer (some ⟨b, 0, none⟩), .int .i64 n] w fun e w' => NextRes w b k n e w' := by
  by_cases hn : n < 1
  · refine (next_low w b ca len cap k n h k0 k1 hn).mono ?_
    rintro e w' ⟨rfl, rfl⟩
    exact ⟨0, 0, rfl, by omega, by rw [if_pos hn]; omega, rfl⟩
  · by_cases hl : 0 < len
    · obtain ⟨cb, co, rfl, hne, hb⟩ := h.bytes hl
      have old : ∀ j, (w.setCell ⟨b, 1, none⟩ (.int .i64 (k + 1))).cell? ⟨cb, j, none⟩ = w.cell? ⟨cb, j, none⟩ := fun j => World.cell?_of_block (w := w) (Below.heap_setCell w ⟨b, 1, none⟩ _ cb hne)
      have m0 : 0 ≤ k % (len : Int) := Int.emod_nonneg _ (by omega)
      have m1 : k % (len : Int) < (len : Int) := Int.emod_lt_of_pos _ (by omega)
      have m2 : 0 ≤ (k + 1) % (len : Int) := Int.emod_nonneg _ (by omega)
      have m3 : (k + 1) % (len : Int) < (len : Int) := Int.emod_lt_of_pos _ (by omega)
      obtain ⟨x, hx, x0, x1⟩ := hb (k % (len : Int)).toNat (by omega)
      obtain ⟨y, hy, y0, y1⟩ := hb ((k + 1) % (len : Int)).toNat (by omega)
      by_cases hn2 : n ≤ 200
      · exact next_small w b cb co len cap k n x h.c0 h.c1 h.f1 (by rw [old]; exact hx) x0 x1 hl hmax k0 k1 (by omega) hn2
      · exact next_great w b cb co len cap k n x y h.c0 h.c1 h.f1 (by rw [old]; exact hx) x0 x1 (by rw [old]; exact hy) y0 y1 hl hmax k0 k1 (by omega)
    · have e : len = 0 := by omega
      subst e
      refine (next_none w b ca cap k n h k0 k1 (by omega)).mono ?_
      rintro e w' ⟨rfl, rfl⟩
      exact nextRes_mk 0 (Int.emod_nonneg _ (by omega)) (Int.emod_lt_of_pos _ (by omega))
end Go.Proofs.YtebnonpdaddniaaGreatDoor
