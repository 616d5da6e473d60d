/-
  Parts of the proof laid into one text, one behind the other; each says at its head what is proved in it.
-/
import Derived.Test.YtbfhoennafopaaaFlA
import Derived.Deep.QuietTactic
import Derived.BigQuiet
import Derived.Test.YtbfhoennafopaaaSpecNum
/-
  The model's l1Next: it answers a number from 0 on below n (0 where n is below 1), counts one on, and turns nothing else.
-/
namespace Go.Proofs.Ytbfhoennafopaaa
open Go.RowKit Go.Extern.Stop Go.Stop Go.Extern Num

/-- A source of draws lies at block b: the bytes of its code and its count. -/
structure SrcAt (w : World) (b : Nat) (ca : Option Addr) (len cap : Nat) (k : Int) : Prop where
  c0 : w.cell? ⟨b, 0, none⟩ = some (.slice ca len cap)
  c1 : w.cell? ⟨b, 1, none⟩ = some (.int .i64 k)
  f1 : w.frozen? ⟨b, 1, none⟩ = false
  bytes : 0 < len → ∃ cb co, ca = some ⟨cb, co, none⟩ ∧ cb ≠ b ∧ ∀ j, j < len → ∃ x : Int, w.cell? ⟨cb, co + j, none⟩ = some (.int .u8 x) ∧ 0 ≤ x ∧ x ≤ 255

/-- What l1Next comes to: a number within 0 .. n - 1 (0 where n is below 1); the count is one more; nothing else is turned. -/
def NextRes (w : World) (b : Nat) (k n : Int) (e : Ending) (w' : World) : Prop :=
  ∃ (r : Int) (q : Nat), e = .returned (.int .i64 r) ∧ 0 ≤ r ∧ r ≤ n - 1 + (if n < 1 then 1 - n else 0) ∧ w' = (w.setCell ⟨b, 1, none⟩ (.int .i64 (k + 1))).drewN q
theorem nextRes_mk {w : World} {b : Nat} {k n r : Int} (q : Nat) (h0 : 0 ≤ r) (h1 : r < n) : NextRes w b k n (.returned (.int .i64 r)) ((w.setCell ⟨b, 1, none⟩ (.int .i64 (k + 1))).drewN q) :=
  ⟨r, q, rfl, h0, by split <;> omega, rfl⟩
theorem drewN_drewN (w : World) (a c : Nat) : (w.drewN a).drewN c = w.drewN (a + c) := by
  simp [World.drewN, Nat.add_assoc]

theorem next_low (w : World) (b : Nat) (ca : Option Addr) (len cap : Nat) (k n : Int) (h : SrcAt w b ca len cap k) (k0 : 0 ≤ k) (k1 : k ≤ 1000000000000) (hn : n < 1) :
    Calls Try.prog 49 #[.pointer (some ⟨b, 0, none⟩), .int .i64 n] w fun e w' => e = .returned (.int .i64 0) ∧ w' = w.setCell ⟨b, 1, none⟩ (.int .i64 (k + 1)) := by
  have c1 := h.c1; have f1 := h.f1
  clear h
  go_enter Try.func49, Try.ntmps49
  go_wp2
  go_ret
  exact ⟨rfl, rfl⟩
theorem next_none (w : World) (b : Nat) (ca : Option Addr) (cap : Nat) (k n : Int) (h : SrcAt w b ca 0 cap k) (k0 : 0 ≤ k) (k1 : k ≤ 1000000000000) (hn : 1 ≤ n) :
    Calls Try.prog 49 #[.pointer (some ⟨b, 0, none⟩), .int .i64 n] w fun e w' => e = .returned (.int .i64 (k * 7 % n)) ∧ w' = w.setCell ⟨b, 1, none⟩ (.int .i64 (k + 1)) := by
  have c1 := h.c1; have f1 := h.f1; have c0 := h.c0
  clear h
  go_enter Try.func49, Try.ntmps49
  go_wp2
  go_ret
  exact ⟨rfl, rfl⟩
set_option maxHeartbeats 1000000 in
theorem next_small (w : World) (b cb co : Nat) (len cap : Nat) (k n x : Int) (c0 : w.cell? ⟨b, 0, none⟩ = some (.slice (some ⟨cb, co, none⟩) len cap)) (c1 : w.cell? ⟨b, 1, none⟩ = some (.int .i64 k)) (f1 : w.frozen? ⟨b, 1, none⟩ = false)
    (hx : (w.setCell ⟨b, 1, none⟩ (.int .i64 (k + 1))).cell? ⟨cb, co + (k % (len : Int)).toNat, none⟩ = some (.int .u8 x)) (x0 : 0 ≤ x) (x1 : x ≤ 255) (hlen : 0 < len) (hmax : (len : Int) ≤ 9223372036854775807)
    (k0 : 0 ≤ k) (k1 : k ≤ 1000000000000) (hn : 1 ≤ n) (hn2 : n ≤ 200) :
    Calls Try.prog 49 #[.pointer (some ⟨b, 0, none⟩), .int .i64 n] w fun e w' => NextRes w b k n e w' := by
  have hz : ((len : Int) == 0) = false := by rw [beq_eq_false_iff_ne]; omega
  have m0 : 0 ≤ k % (len : Int) := Int.emod_nonneg _ (by omega)
  have m1 : k % (len : Int) < (len : Int) := Int.emod_lt_of_pos _ (by omega)
  have d0 : 0 ≤ k / (len : Int) := Int.ediv_nonneg k0 (by omega)
  have d1 : k / (len : Int) ≤ 1000000000000 := Int.le_trans (Int.ediv_le_self _ k0) k1
  go_enter Try.func49, Try.ntmps49
  go_wp2_with fail
  go_quiet (fail)
  go_wp2
  go_ret
  exact nextRes_mk _ (Int.emod_nonneg _ (by omega)) (Int.emod_lt_of_pos _ (by omega))
set_option maxHeartbeats 1000000 in
theorem next_great (w : World) (b cb co : Nat) (len cap : Nat) (k n x y : Int) (c0 : w.cell? ⟨b, 0, none⟩ = some (.slice (some ⟨cb, co, none⟩) len cap)) (c1 : w.cell? ⟨b, 1, none⟩ = some (.int .i64 k)) (f1 : w.frozen? ⟨b, 1, none⟩ = false)
    (hx : (w.setCell ⟨b, 1, none⟩ (.int .i64 (k + 1))).cell? ⟨cb, co + (k % (len : Int)).toNat, none⟩ = some (.int .u8 x)) (x0 : 0 ≤ x) (x1 : x ≤ 255)
    (hy : (w.setCell ⟨b, 1, none⟩ (.int .i64 (k + 1))).cell? ⟨cb, co + ((k + 1) % (len : Int)).toNat, none⟩ = some (.int .u8 y)) (y0 : 0 ≤ y) (y1 : y ≤ 255)
    (hlen : 0 < len) (hmax : (len : Int) ≤ 9223372036854775807)
    (k0 : 0 ≤ k) (k1 : k ≤ 1000000000000) (hn2 : 200 < n) :
    Calls Try.prog 49 #[.pointer (some ⟨b, 0, none⟩), .int .i64 n] w fun e w' => NextRes w b k n e w' := by
  have hz : ((len : Int) == 0) = false := by rw [beq_eq_false_iff_ne]; omega
  have m0 : 0 ≤ k % (len : Int) := Int.emod_nonneg _ (by omega)
  have m1 : k % (len : Int) < (len : Int) := Int.emod_lt_of_pos _ (by omega)
  have m2 : 0 ≤ (k + 1) % (len : Int) := Int.emod_nonneg _ (by omega)
  have m3 : (k + 1) % (len : Int) < (len : Int) := Int.emod_lt_of_pos _ (by omega)
  have d0 : 0 ≤ k / (len : Int) := Int.ediv_nonneg k0 (by omega)
  have d1 : k / (len : Int) ≤ 1000000000000 := Int.le_trans (Int.ediv_le_self _ k0) k1
  go_enter Try.func49, Try.ntmps49
  go_wp2_with fail
  go_quiet (fail)
  go_wp2_with fail
  go_quiet (fail)
  go_wp2
  go_ret
  first
    | exact nextRes_mk _ (Int.emod_nonneg _ (by omega)) (Int.emod_lt_of_pos _ (by omega))
    | (rw [drewN_drewN]; exact nextRes_mk _ (Int.emod_nonneg _ (by omega)) (Int.emod_lt_of_pos _ (by omega)))
theorem next_any (w : World) (b : Nat) (ca : Option Addr) (len cap : Nat) (k n : Int) (h : SrcAt w b ca len cap k) (hmax : (len : Int) ≤ 9223372036854775807) (k0 : 0 ≤ k) (k1 : k ≤ 1000000000000) :
    Calls Try.prog 49 #[.pointer (some ⟨b, 0, none⟩), .int .i64 n] w fun e w' => NextRes w b k n e w' := by
  by_cases hn : n < 1
  · refine (next_low w b ca len cap k n h k0 k1 hn).mono ?_
    rintro e w' ⟨rfl, rfl⟩
    exact ⟨0, 0, rfl, by omega, by rw [if_pos hn]; omega, rfl⟩
  · by_cases hl : 0 < len
    · obtain ⟨cb, co, rfl, hne, hb⟩ := h.bytes hl
      have old : ∀ j, (w.setCell ⟨b, 1, none⟩ (.int .i64 (k + 1))).cell? ⟨cb, j, none⟩ = w.cell? ⟨cb, j, none⟩ := fun j => World.cell?_of_block (w := w) (Below.heap_setCell w ⟨b, 1, none⟩ _ cb hne)
      have m0 : 0 ≤ k % (len : Int) := Int.emod_nonneg _ (by omega)
      have m1 : k % (len : Int) < (len : Int) := Int.emod_lt_of_pos _ (by omega)
      have m2 : 0 ≤ (k + 1) % (len : Int) := Int.emod_nonneg _ (by omega)
      have m3 : (k + 1) % (len : Int) < (len : Int) := Int.emod_lt_of_pos _ (by omega)
      obtain ⟨x, hx, x0, x1⟩ := hb (k % (len : Int)).toNat (by omega)
      obtain ⟨y, hy, y0, y1⟩ := hb ((k + 1) % (len : Int)).toNat (by omega)
      by_cases hn2 : n ≤ 200
      · exact next_small w b cb co len cap k n x h.c0 h.c1 h.f1 (by rw [old]; exact hx) x0 x1 hl hmax k0 k1 (by omega) hn2
      · exact next_great w b cb co len cap k n x y h.c0 h.c1 h.f1 (by rw [old]; exact hx) x0 x1 (by rw [old]; exact hy) y0 y1 hl hmax k0 k1 (by omega)
    · have e : len = 0 := by omega
      subst e
      refine (next_none w b ca cap k n h k0 k1 (by omega)).mono ?_
      rintro e w' ⟨rfl, rfl⟩
      exact nextRes_mk 0 (Int.emod_nonneg _ (by omega)) (Int.emod_lt_of_pos _ (by omega))
end Go.Proofs.Ytbfhoennafopaaa
/-
  The model's l1Pick, l1Draw, l1Bent, l1Source and l1Pair: each answers, counts on, and turns nothing that was there but the count.
-/
namespace Go.Proofs.Ytbfhoennafopaaa
open Go.RowKit Go.Extern.Stop Go.Stop Go.Extern Num

/-- Of what was there block b alone may have turned. -/
structure Only (b : Nat) (w w' : World) : Prop where
  os : w'.os = w.os
  tape : w'.tape = w.tape
  output : w'.output = w.output
  size : w.heap.size ≤ w'.heap.size
  block : ∀ k, k < w.heap.size → k ≠ b → w'.heap[k]? = w.heap[k]?
theorem Only.refl (b : Nat) (w : World) : Only b w w := ⟨rfl, rfl, rfl, Nat.le_refl _, fun _ _ _ => rfl⟩
theorem Only.trans {b : Nat} {u v w : World} (h : Only b u v) (k : Only b v w) : Only b u w :=
  ⟨k.os.trans h.os, k.tape.trans h.tape, k.output.trans h.output, Nat.le_trans h.size k.size, fun i hi hb => (k.block i (Nat.lt_of_lt_of_le hi h.size) hb).trans (h.block i hi hb)⟩
theorem Only.alloc {b : Nat} {u w : World} (h : Only b u w) (o : Obj) : Only b u (w.alloc o) :=
  h.trans ⟨rfl, rfl, rfl, by simp, fun k hk _ => Below.heap_alloc _ _ _ hk⟩
theorem Only.setCell {b o : Nat} {u w : World} (h : Only b u w) (x : Value) : Only b u (w.setCell ⟨b, o, none⟩ x) :=
  h.trans ⟨rfl, rfl, rfl, by simp [World.setCell], fun k _ hb => Below.heap_setCell _ _ _ _ hb⟩
theorem Only.drewN {b : Nat} {u w : World} (h : Only b u w) (q : Nat) : Only b u (w.drewN q) := ⟨h.os, h.tape, h.output, h.size, h.block⟩
theorem Only.below {b B : Nat} {w w' : World} (h : Only b w w') (h1 : B ≤ b) (h2 : B ≤ w.heap.size) : Below B w w' :=
  ⟨h.os, h.tape, h.output, h.size, fun k hk => h.block k (by omega) (by omega)⟩
theorem Only.cell {b : Nat} {w w' : World} (h : Only b w w') {p : Addr} (hp : p.block < w.heap.size) (hb : p.block ≠ b) : w'.cell? p = w.cell? p := World.cell?_of_block (w := w) (h.block p.block hp hb)
theorem Only.frozen {b : Nat} {w w' : World} (h : Only b w w') {p : Addr} (hp : p.block < w.heap.size) (hb : p.block ≠ b) : w'.frozen? p = w.frozen? p := World.frozen?_of_block (w := w) (h.block p.block hp hb)

theorem SrcAt.lt {w : World} {b : Nat} {ca : Option Addr} {len cap : Nat} {k : Int} (h : SrcAt w b ca len cap k) : b < w.heap.size := lt_of_cell h.c0
/-- Another block that is laid leaves the source as it is. -/
theorem SrcAt.below {w w' : World} {b : Nat} {ca : Option Addr} {len cap : Nat} {k : Int} (h : SrcAt w b ca len cap k) (hb : Below w.heap.size w w') : SrcAt w' b ca len cap k := by
  refine ⟨by rw [hb.cell h.lt]; exact h.c0, by rw [hb.cell h.lt]; exact h.c1, by rw [hb.frozen h.lt]; exact h.f1, fun hl => ?_⟩
  obtain ⟨cb, co, e, hne, hx⟩ := h.bytes hl
  refine ⟨cb, co, e, hne, fun j hj => ?_⟩
  obtain ⟨x, hx, x0, x1⟩ := hx j hj
  exact ⟨x, by rw [hb.cell (lt_of_cell hx)]; exact hx, x0, x1⟩
theorem SrcAt.alloc {w : World} {b : Nat} {ca : Option Addr} {len cap : Nat} {k : Int} (h : SrcAt w b ca len cap k) (o : Obj) : SrcAt (w.alloc o) b ca len cap k := h.below ((Below.refl _ _).alloc (Nat.le_refl _) _)
/-- The count goes on. -/
theorem SrcAt.next {w : World} {b : Nat} {ca : Option Addr} {len cap : Nat} {k : Int} (h : SrcAt w b ca len cap k) (q : Nat) : SrcAt ((w.setCell ⟨b, 1, none⟩ (.int .i64 (k + 1))).drewN q) b ca len cap (k + 1) := by
  have hc := h.c0; have h1 := h.c1; have hf := h.f1
  refine ⟨?_, ?_, ?_, fun hl => ?_⟩
  · show (w.setCell ⟨b, 1, none⟩ (.int .i64 (k + 1))).cell? ⟨b, 0, none⟩ = _
    exact (World.cell?_setCell_other (w := w) (a := ⟨b, 1, none⟩) (b := ⟨b, 0, none⟩) _ (by simp)).trans hc
  · show (w.setCell ⟨b, 1, none⟩ (.int .i64 (k + 1))).cell? ⟨b, 1, none⟩ = _
    exact World.cell?_setCell_same' w _ _ (by rw [h1]; rfl)
  · show (w.setCell ⟨b, 1, none⟩ (.int .i64 (k + 1))).frozen? ⟨b, 1, none⟩ = _
    simp [hf]
  · obtain ⟨cb, co, e, hne, hx⟩ := h.bytes hl
    refine ⟨cb, co, e, hne, fun j hj => ?_⟩
    obtain ⟨x, hx, x0, x1⟩ := hx j hj
    refine ⟨x, ?_, x0, x1⟩
    rw [show ((w.setCell ⟨b, 1, none⟩ (.int .i64 (k + 1))).drewN q).cell? ⟨cb, co + j, none⟩ = (w.setCell ⟨b, 1, none⟩ (.int .i64 (k + 1))).cell? ⟨cb, co + j, none⟩ from rfl, World.cell?_of_block (w := w) (Below.heap_setCell w ⟨b, 1, none⟩ _ cb hne)]
    exact hx

/-- What a draw of a number comes to. -/
def DrawRes (w : World) (b : Nat) (ca : Option Addr) (len cap : Nat) (k : Int) (K : Nat) (Pr : Int → Prop) (e : Ending) (w' : World) : Prop :=
  ∃ (v k' : Int), e = .returned (.int .i64 v) ∧ Pr v ∧ k ≤ k' ∧ k' ≤ k + K ∧ SrcAt w' b ca len cap k' ∧ Only b w w'

theorem pick_any (w : World) (b lb ln : Nat) (ca : Option Addr) (len cap : Nat) (k : Int) (h : SrcAt w b ca len cap k) (hmax : (len : Int) ≤ 9223372036854775807) (k0 : 0 ≤ k) (k1 : k ≤ 1000000000000)
    (hne : lb ≠ b) (l0 : 0 < ln) (l1 : (ln : Int) ≤ 1000) (Pr : Int → Prop) (hl : ∀ j, j < ln → ∃ v : Int, w.cell? ⟨lb, j, none⟩ = some (.int .i64 v) ∧ Pr v) :
    Calls Try.prog 51 #[.pointer (some ⟨b, 0, none⟩), .slice (some ⟨lb, 0, none⟩) ln ln] w fun e w' => DrawRes w b ca len cap k 1 Pr e w' := by
  have HN : Hid (∀ n, Calls Try.prog 49 #[.pointer (some ⟨b, 0, none⟩), .int .i64 n] w fun e w' => NextRes w b k n e w') := fun n => next_any w b ca len cap k n h hmax k0 k1
  have HL : Hid (∀ j, j < ln → ∃ v : Int, w.cell? ⟨lb, j, none⟩ = some (.int .i64 v) ∧ Pr v) := hl
  have HS : Hid (SrcAt w b ca len cap k) := h
  clear h hl
  go_enter Try.func51, Try.ntmps51
  go_wp2_with fail
  refine (HN.out _).mono ?_
  rintro e w1 ⟨r, q, rfl, r0, r1, rfl⟩
  rw [if_neg (by omega)] at r1
  have r2 : r < (ln : Int) := by omega
  obtain ⟨v, hv, hp⟩ := HL.out r.toNat (by omega)
  have HPv : Hid (Pr v) := hp
  clear hp
  have hv2 : (w.setCell ⟨b, 1, none⟩ (.int .i64 (k + 1))).cell? ⟨lb, r.toNat, none⟩ = some (.int .i64 v) := by
    rw [World.cell?_of_block (w := w) (Below.heap_setCell w ⟨b, 1, none⟩ _ lb hne)]; exact hv
  clear hv r1
  go_wp2
  go_ret
  exact ⟨v, k + 1, rfl, HPv.out, by omega, by omega, HS.out.next q, ((Only.refl b w).setCell _).drewN q⟩

/-- A number of the ordinary draws. -/
def InB (v : Int) : Prop := inB v = true
theorem InB.mk {v : Int} (h1 : -1000000000 ≤ v) (h2 : v ≤ 1000000000) : InB v := (inB_iff v).2 ⟨h1, h2⟩
def AnyI (_ : Int) : Prop := True

theorem cells7 (Pr : Int → Prop) (w : World) (x0 x1 x2 x3 x4 x5 x6 : Int) (t : TypeId) (p0 : Pr x0) (p1 : Pr x1) (p2 : Pr x2) (p3 : Pr x3) (p4 : Pr x4) (p5 : Pr x5) (p6 : Pr x6) : ∀ j, j < 7 → ∃ v : Int, (w.alloc (.cells #[.int .i64 x0, .int .i64 x1, .int .i64 x2, .int .i64 x3, .int .i64 x4, .int .i64 x5, .int .i64 x6] t)).cell? ⟨w.heap.size, j, none⟩ = some (.int .i64 v) ∧ Pr v := by
  intro j hj
  rcases j with _ | _ | _ | _ | _ | _ | _ | j
  · exact ⟨x0, by simp, p0⟩
  · exact ⟨x1, by simp, p1⟩
  · exact ⟨x2, by simp, p2⟩
  · exact ⟨x3, by simp, p3⟩
  · exact ⟨x4, by simp, p4⟩
  · exact ⟨x5, by simp, p5⟩
  · exact ⟨x6, by simp, p6⟩
  · omega
theorem cells5 (Pr : Int → Prop) (w : World) (x0 x1 x2 x3 x4 : Int) (t : TypeId) (p0 : Pr x0) (p1 : Pr x1) (p2 : Pr x2) (p3 : Pr x3) (p4 : Pr x4) : ∀ j, j < 5 → ∃ v : Int, (w.alloc (.cells #[.int .i64 x0, .int .i64 x1, .int .i64 x2, .int .i64 x3, .int .i64 x4] t)).cell? ⟨w.heap.size, j, none⟩ = some (.int .i64 v) ∧ Pr v := by
  intro j hj
  rcases j with _ | _ | _ | _ | _ | j
  · exact ⟨x0, by simp, p0⟩
  · exact ⟨x1, by simp, p1⟩
  · exact ⟨x2, by simp, p2⟩
  · exact ⟨x3, by simp, p3⟩
  · exact ⟨x4, by simp, p4⟩
  · omega

theorem draw_any (w : World) (b : Nat) (ca : Option Addr) (len cap : Nat) (k : Int) (h : SrcAt w b ca len cap k) (hmax : (len : Int) ≤ 9223372036854775807) (k0 : 0 ≤ k) (k1 : k ≤ 999999999990) :
    Calls Try.prog 63 #[.pointer (some ⟨b, 0, none⟩)] w fun e w' => DrawRes w b ca len cap k 3 InB e w' := by
  go_enter Try.func63, Try.ntmps63
  go_wp2_with fail
  refine (next_any _ b ca len cap k _ h hmax k0 (by omega)).mono ?_
  rintro e w1 ⟨r, q, rfl, r0, r1, hw1⟩
  rw [if_neg (by omega)] at r1
  have h1 : SrcAt w1 b ca len cap (k + 1) := by rw [hw1]; exact h.next q
  have o1 : Only b w w1 := by rw [hw1]; exact ((Only.refl b w).setCell _).drewN q
  clear hw1
  go_wp2_with fail
  refine (next_any _ b ca len cap (k + 1) _ h1 hmax (by omega) (by omega)).mono ?_
  rintro e w2 ⟨r2, q2, rfl, r20, r21, hw2⟩
  rw [if_neg (by omega)] at r21
  have h2 : SrcAt w2 b ca len cap (k + 1 + 1) := by rw [hw2]; exact h1.next q2
  have o2 : Only b w1 w2 := by rw [hw2]; exact ((Only.refl b w1).setCell _).drewN q2
  clear hw2
  go_wp2_with fail
  refine (pick_any _ b w2.heap.size 7 ca len cap (k + 1 + 1) (h2.alloc _) hmax (by omega) (by omega) (Nat.ne_of_gt h2.lt) (by omega) (by omega) InB
    (cells7 InB w2 _ _ _ _ _ _ _ _ (.mk (by omega) (by omega)) (.mk (by omega) (by omega)) (.mk (by omega) (by omega)) (.mk (by omega) (by omega)) (.mk (by omega) (by omega)) (.mk (by omega) (by omega)) (.mk (by omega) (by omega)))).mono ?_
  rintro e w3 ⟨v, k3, rfl, hp, k31, k32, h3, o3⟩
  go_wp2
  go_ret
  exact ⟨v, k3, rfl, hp, by omega, by omega, h3, o1.trans (o2.trans (((Only.refl b w2).alloc _).trans o3))⟩

/-- A slice of bytes that came in. -/
def Bytes (w : World) (ca : Option Addr) (len : Nat) : Prop :=
  0 < len → ∃ cb co, ca = some ⟨cb, co, none⟩ ∧ ∀ j, j < len → ∃ x : Int, w.cell? ⟨cb, co + j, none⟩ = some (.int .u8 x) ∧ 0 ≤ x ∧ x ≤ 255
theorem Bytes.below {w w' : World} {ca : Option Addr} {len : Nat} (h : Bytes w ca len) (hb : Below w.heap.size w w') : Bytes w' ca len := by
  intro hl
  obtain ⟨cb, co, e, hx⟩ := h hl
  refine ⟨cb, co, e, fun j hj => ?_⟩
  obtain ⟨x, hx, x0, x1⟩ := hx j hj
  exact ⟨x, by rw [hb.cell (lt_of_cell hx)]; exact hx, x0, x1⟩
theorem source_any (w : World) (ca : Option Addr) (len cap : Nat) (h : Bytes w ca len) :
    Calls Try.prog 26 #[.slice ca len cap] w fun e w' => e = .returned (.pointer (some ⟨w.heap.size, 0, none⟩)) ∧ SrcAt w' w.heap.size ca len cap 0 ∧ Below w.heap.size w w' := by
  have HB : Hid (Bytes w ca len) := h
  clear h
  go_enter Try.func26, Try.ntmps26
  go_wp2
  go_ret
  have hb : Below w.heap.size w (w.alloc (.cells #[.slice ca len cap, .int .i64 0] 90)) := (Below.refl _ _).alloc (Nat.le_refl _) _
  refine ⟨rfl, ⟨by simp, by simp, by simp, fun hl => ?_⟩, hb⟩
  obtain ⟨cb, co, e, hx⟩ := (HB.out.below hb) hl
  refine ⟨cb, co, e, ?_, hx⟩
  obtain ⟨cb', co', e', hx'⟩ := HB.out hl
  obtain ⟨x, hx, _⟩ := hx' 0 hl
  have := lt_of_cell hx
  rw [e] at e'
  obtain ⟨rfl, -⟩ : cb = cb' ∧ co = co' := by simpa using e'
  exact Nat.ne_of_lt this
end Go.Proofs.Ytbfhoennafopaaa
