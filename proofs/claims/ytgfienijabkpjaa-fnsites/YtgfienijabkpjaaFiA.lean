/-
  Parts of the proof laid into one text, one behind the other; each says at its head what is proved in it.
-/
import Derived.Test.YtgfienijabkpjaaCodes
import Derived.Deep.QuietTactic
import Derived.BigQuiet
import Derived.Test.YtgfienijabkpjaaSpecNum
import Derived.Test.YtgfienijabkpjaaRegion
import Derived.Test.YtgfienijabkpjaaVluBase
/-
  The model's l1Next: it answers a number from 0 on below n (0 where n is below 1), counts one on, and turns nothing else.
-/
namespace Go.Proofs.Ytgfienijabkpjaa
open Go.RowKit Go.Extern.Stop Go.Stop Go.Extern Num

/-- A source of draws lies at block b: the bytes of its code and its count. -/
structure SrcAt (w : World) (b : Nat) (ca : Option Addr) (len cap : Nat) (k : Int) : Prop where
  c0 : w.cell? ⟨b, 0, none⟩ = some (.slice ca len cap)
  c1 : w.cell? ⟨b, 1, none⟩ = some (.int .i64 k)
  f1 : w.frozen? ⟨b, 1, none⟩ = false
  bytes : 0 < len → ∃ cb co, ca = some ⟨cb, co, none⟩ ∧ cb ≠ b ∧ ∀ j, j < len → ∃ x : Int, w.cell? ⟨cb, co + j, none⟩ = some (.int .u8 x) ∧ 0 ≤ x ∧ x ≤ 255

/-- What l1Next comes to: a number within 0 .. n - 1 (0 where n is below 1); the count is one more; nothing else is turned. -/
def NextRes (w : World) (b : Nat) (k n : Int) (e : Ending) (w' : World) : Prop :=
  ∃ (r : Int) (q : Nat), e = .returned (.int .i64 r) ∧ 0 ≤ r ∧ r ≤ n - 1 + (if n < 1 then 1 - n else 0) ∧ w' = (w.setCell ⟨b, 1, none⟩ (.int .i64 (k + 1))).drewN q
theorem nextRes_mk {w : World} {b : Nat} {k n r : Int} (q : Nat) (h0 : 0 ≤ r) (h1 : r < n) : NextRes w b k n (.returned (.int .i64 r)) ((w.setCell ⟨b, 1, none⟩ (.int .i64 (k + 1))).drewN q) :=
  ⟨r, q, rfl, h0, by split <;> omega, rfl⟩
theorem drewN_drewN (w : World) (a c : Nat) : (w.drewN a).drewN c = w.drewN (a + c) := by
  simp [World.drewN, Nat.add_assoc]

theorem next_low (w : World) (b : Nat) (ca : Option Addr) (len cap : Nat) (k n : Int) (h : SrcAt w b ca len cap k) (k0 : 0 ≤ k) (k1 : k ≤ 1000000000000) (hn : n < 1) :
    Calls Try.prog 50 #[.pointer (some ⟨b, 0, none⟩), .int .i64 n] w fun e w' => e = .returned (.int .i64 0) ∧ w' = w.setCell ⟨b, 1, none⟩ (.int .i64 (k + 1)) := by
  have c1 := h.c1; have f1 := h.f1
  clear h
  go_enter Try.func50, Try.ntmps50
  go_wp2
  go_ret
  exact ⟨rfl, rfl⟩
theorem next_none (w : World) (b : Nat) (ca : Option Addr) (cap : Nat) (k n : Int) (h : SrcAt w b ca 0 cap k) (k0 : 0 ≤ k) (k1 : k ≤ 1000000000000) (hn : 1 ≤ n) :
    Calls Try.prog 50 #[.pointer (some ⟨b, 0, none⟩), .int .i64 n] w fun e w' => e = .returned (.int .i64 (k * 7 % n)) ∧ w' = w.setCell ⟨b, 1, none⟩ (.int .i64 (k + 1)) := by
  have c1 := h.c1; have f1 := h.f1; have c0 := h.c0
  clear h
  go_enter Try.func50, Try.ntmps50
  go_wp2
  go_ret
  exact ⟨rfl, rfl⟩
set_option maxHeartbeats 1000000 in
theorem next_small (w : World) (b cb co : Nat) (len cap : Nat) (k n x : Int) (c0 : w.cell? ⟨b, 0, none⟩ = some (.slice (some ⟨cb, co, none⟩) len cap)) (c1 : w.cell? ⟨b, 1, none⟩ = some (.int .i64 k)) (f1 : w.frozen? ⟨b, 1, none⟩ = false)
    (hx : (w.setCell ⟨b, 1, none⟩ (.int .i64 (k + 1))).cell? ⟨cb, co + (k % (len : Int)).toNat, none⟩ = some (.int .u8 x)) (x0 : 0 ≤ x) (x1 : x ≤ 255) (hlen : 0 < len) (hmax : (len : Int) ≤ 9223372036854775807)
    (k0 : 0 ≤ k) (k1 : k ≤ 1000000000000) (hn : 1 ≤ n) (hn2 : n ≤ 200) :
    Calls Try.prog 50 #[.pointer (some ⟨b, 0, none⟩), .int .i64 n] w fun e w' => NextRes w b k n e w' := by
  have hz : ((len : Int) == 0) = false := by rw [beq_eq_false_iff_ne]; omega
  have m0 : 0 ≤ k % (len : Int) := Int.emod_nonneg _ (by omega)
  have m1 : k % (len : Int) < (len : Int) := Int.emod_lt_of_pos _ (by omega)
  have d0 : 0 ≤ k / (len : Int) := Int.ediv_nonneg k0 (by omega)
  have d1 : k / (len : Int) ≤ 1000000000000 := Int.le_trans (Int.ediv_le_self _ k0) k1
  go_enter Try.func50, Try.ntmps50
  go_wp2_with fail
  go_quiet (fail)
  go_wp2
  go_ret
  exact nextRes_mk _ (Int.emod_nonneg _ (by omega)) (Int.emod_lt_of_pos _ (by omega))
set_option maxHeartbeats 1000000 in
theorem next_great (w : World) (b cb co : Nat) (len cap : Nat) (k n x y : Int) (c0 : w.cell? ⟨b, 0, none⟩ = some (.slice (some ⟨cb, co, none⟩) len cap)) (c1 : w.cell? ⟨b, 1, none⟩ = some (.int .i64 k)) (f1 : w.frozen? ⟨b, 1, none⟩ = false)
    (hx : (w.setCell ⟨b, 1, none⟩ (.int .i64 (k + 1))).cell? ⟨cb, co + (k % (len : Int)).toNat, none⟩ = some (.int .u8 x)) (x0 : 0 ≤ x) (x1 : x ≤ 255)
    (hy : (w.setCell ⟨b, 1, none⟩ (.int .i64 (k + 1))).cell? ⟨cb, co + ((k + 1) % (len : Int)).toNat, none⟩ = some (.int .u8 y)) (y0 : 0 ≤ y) (y1 : y ≤ 255)
    (hlen : 0 < len) (hmax : (len : Int) ≤ 9223372036854775807)
    (k0 : 0 ≤ k) (k1 : k ≤ 1000000000000) (hn2 : 200 < n) :
    Calls Try.prog 50 #[.pointer (some ⟨b, 0, none⟩), .int .i64 n] w fun e w' => NextRes w b k n e w' := by
  have hz : ((len : Int) == 0) = false := by rw [beq_eq_false_iff_ne]; omega
  have m0 : 0 ≤ k % (len : Int) := Int.emod_nonneg _ (by omega)
  have m1 : k % (len : Int) < (len : Int) := Int.emod_lt_of_pos _ (by omega)
  have m2 : 0 ≤ (k + 1) % (len : Int) := Int.emod_nonneg _ (by omega)
  have m3 : (k + 1) % (len : Int) < (len : Int) := Int.emod_lt_of_pos _ (by omega)
  have d0 : 0 ≤ k / (len : Int) := Int.ediv_nonneg k0 (by omega)
  have d1 : k / (len : Int) ≤ 1000000000000 := Int.le_trans (Int.ediv_le_self _ k0) k1
  go_enter Try.func50, Try.ntmps50
  go_wp2_with fail
  go_quiet (fail)
  go_wp2_with fail
  go_quiet (fail)
  go_wp2
  go_ret
  first
    | exact nextRes_mk _ (Int.emod_nonneg _ (by omega)) (Int.emod_lt_of_pos _ (by omega))
    | (rw [drewN_drewN]; exact nextRes_mk _ (Int.emod_nonneg _ (by omega)) (Int.emod_lt_of_pos _ (by omega)))
theorem next_any (w : World) (b : Nat) (ca : Option Addr) (len cap : Nat) (k n : Int) (h : SrcAt w b ca len cap k) (hmax : (len : Int) ≤ 9223372036854775807) (k0 : 0 ≤ k) (k1 : k ≤ 1000000000000) :
    Calls Try.prog 50 #[.pointer (some ⟨b, 0, none⟩), .int .i64 n] w fun e w' => NextRes w b k n e w' := by
  by_cases hn : n < 1
  · refine (next_low w b ca len cap k n h k0 k1 hn).mono ?_
    rintro e w' ⟨rfl, rfl⟩
    exact ⟨0, 0, rfl, by omega, by rw [if_pos hn]; omega, rfl⟩
  · by_cases hl : 0 < len
    · obtain ⟨cb, co, rfl, hne, hb⟩ := h.bytes hl
      have old : ∀ j, (w.setCell ⟨b, 1, none⟩ (.int .i64 (k + 1))).cell? ⟨cb, j, none⟩ = w.cell? ⟨cb, j, none⟩ := fun j => World.cell?_of_block (w := w) (Below.heap_setCell w ⟨b, 1, none⟩ _ cb hne)
      have m0 : 0 ≤ k % (len : Int) := Int.emod_nonneg _ (by omega)
      have m1 : k % (len : Int) < (len : Int) := Int.emod_lt_of_pos _ (by omega)
      have m2 : 0 ≤ (k + 1) % (len : Int) := Int.emod_nonneg _ (by omega)
      have m3 : (k + 1) % (len : Int) < (len : Int) := Int.emod_lt_of_pos _ (by omega)
      obtain ⟨x, hx, x0, x1⟩ := hb (k % (len : Int)).toNat (by omega)
      obtain ⟨y, hy, y0, y1⟩ := hb ((k + 1) % (len : Int)).toNat (by omega)
      by_cases hn2 : n ≤ 200
      · exact next_small w b cb co len cap k n x h.c0 h.c1 h.f1 (by rw [old]; exact hx) x0 x1 hl hmax k0 k1 (by omega) hn2
      · exact next_great w b cb co len cap k n x y h.c0 h.c1 h.f1 (by rw [old]; exact hx) x0 x1 (by rw [old]; exact hy) y0 y1 hl hmax k0 k1 (by omega)
    · have e : len = 0 := by omega
      subst e
      refine (next_none w b ca cap k n h k0 k1 (by omega)).mono ?_
      rintro e w' ⟨rfl, rfl⟩
      exact nextRes_mk 0 (Int.emod_nonneg _ (by omega)) (Int.emod_lt_of_pos _ (by omega))
end Go.Proofs.Ytgfienijabkpjaa
/-
  The model's l1Pick, l1Draw, l1Bent, l1Source and l1Pair: each answers, counts on, and turns nothing that was there but the count.
-/
namespace Go.Proofs.Ytgfienijabkpjaa
open Go.RowKit Go.Extern.Stop Go.Stop Go.Extern Num

/-- Of what was there block b alone may have turned. -/
structure Only (b : Nat) (w w' : World) : Prop where
  os : w'.os = w.os
  tape : w'.tape = w.tape
  output : w'.output = w.output
  size : w.heap.size ≤ w'.heap.size
  block : ∀ k, k < w.heap.size → k ≠ b → w'.heap[k]? = w.heap[k]?
theorem Only.refl (b : Nat) (w : World) : Only b w w := ⟨rfl, rfl, rfl, Nat.le_refl _, fun _ _ _ => rfl⟩
theorem Only.trans {b : Nat} {u v w : World} (h : Only b u v) (k : Only b v w) : Only b u w :=
  ⟨k.os.trans h.os, k.tape.trans h.tape, k.output.trans h.output, Nat.le_trans h.size k.size, fun i hi hb => (k.block i (Nat.lt_of_lt_of_le hi h.size) hb).trans (h.block i hi hb)⟩
theorem Only.alloc {b : Nat} {u w : World} (h : Only b u w) (o : Obj) : Only b u (w.alloc o) :=
  h.trans ⟨rfl, rfl, rfl, by simp, fun k hk _ => Below.heap_alloc _ _ _ hk⟩
theorem Only.setCell {b o : Nat} {u w : World} (h : Only b u w) (x : Value) : Only b u (w.setCell ⟨b, o, none⟩ x) :=
  h.trans ⟨rfl, rfl, rfl, by simp [World.setCell], fun k _ hb => Below.heap_setCell _ _ _ _ hb⟩
theorem Only.drewN {b : Nat} {u w : World} (h : Only b u w) (q : Nat) : Only b u (w.drewN q) := ⟨h.os, h.tape, h.output, h.size, h.block⟩
theorem Only.below {b B : Nat} {w w' : World} (h : Only b w w') (h1 : B ≤ b) (h2 : B ≤ w.heap.size) : Below B w w' :=
  ⟨h.os, h.tape, h.output, h.size, fun k hk => h.block k (by omega) (by omega)⟩
theorem Only.cell {b : Nat} {w w' : World} (h : Only b w w') {p : Addr} (hp : p.block < w.heap.size) (hb : p.block ≠ b) : w'.cell? p = w.cell? p := World.cell?_of_block (w := w) (h.block p.block hp hb)
theorem Only.frozen {b : Nat} {w w' : World} (h : Only b w w') {p : Addr} (hp : p.block < w.heap.size) (hb : p.block ≠ b) : w'.frozen? p = w.frozen? p := World.frozen?_of_block (w := w) (h.block p.block hp hb)

theorem SrcAt.lt {w : World} {b : Nat} {ca : Option Addr} {len cap : Nat} {k : Int} (h : SrcAt w b ca len cap k) : b < w.heap.size := lt_of_cell h.c0
/-- Another block that is laid leaves the source as it is. -/
theorem SrcAt.below {w w' : World} {b : Nat} {ca : Option Addr} {len cap : Nat} {k : Int} (h : SrcAt w b ca len cap k) (hb : Below w.heap.size w w') : SrcAt w' b ca len cap k := by
  refine ⟨by rw [hb.cell h.lt]; exact h.c0, by rw [hb.cell h.lt]; exact h.c1, by rw [hb.frozen h.lt]; exact h.f1, fun hl => ?_⟩
  obtain ⟨cb, co, e, hne, hx⟩ := h.bytes hl
  refine ⟨cb, co, e, hne, fun j hj => ?_⟩
  obtain ⟨x, hx, x0, x1⟩ := hx j hj
  exact ⟨x, by rw [hb.cell (lt_of_cell hx)]; exact hx, x0, x1⟩
theorem SrcAt.alloc {w : World} {b : Nat} {ca : Option Addr} {len cap : Nat} {k : Int} (h : SrcAt w b ca len cap k) (o : Obj) : SrcAt (w.alloc o) b ca len cap k := h.below ((Below.refl _ _).alloc (Nat.le_refl _) _)
/-- The count goes on. -/
theorem SrcAt.next {w : World} {b : Nat} {ca : Option Addr} {len cap : Nat} {k : Int} (h : SrcAt w b ca len cap k) (q : Nat) : SrcAt ((w.setCell ⟨b, 1, none⟩ (.int .i64 (k + 1))).drewN q) b ca len cap (k + 1) := by
  have hc := h.c0; have h1 := h.c1; have hf := h.f1
  refine ⟨?_, ?_, ?_, fun hl => ?_⟩
  · show (w.setCell ⟨b, 1, none⟩ (.int .i64 (k + 1))).cell? ⟨b, 0, none⟩ = _
    exact (World.cell?_setCell_other (w := w) (a := ⟨b, 1, none⟩) (b := ⟨b, 0, none⟩) _ (by simp)).trans hc
  · show (w.setCell ⟨b, 1, none⟩ (.int .i64 (k + 1))).cell? ⟨b, 1, none⟩ = _
    exact World.cell?_setCell_same' w _ _ (by rw [h1]; rfl)
  · show (w.setCell ⟨b, 1, none⟩ (.int .i64 (k + 1))).frozen? ⟨b, 1, none⟩ = _
    simp [hf]
  · obtain ⟨cb, co, e, hne, hx⟩ := h.bytes hl
    refine ⟨cb, co, e, hne, fun j hj => ?_⟩
    obtain ⟨x, hx, x0, x1⟩ := hx j hj
    refine ⟨x, ?_, x0, x1⟩
    rw [show ((w.setCell ⟨b, 1, none⟩ (.int .i64 (k + 1))).drewN q).cell? ⟨cb, co + j, none⟩ = (w.setCell ⟨b, 1, none⟩ (.int .i64 (k + 1))).cell? ⟨cb, co + j, none⟩ from rfl, World.cell?_of_block (w := w) (Below.heap_setCell w ⟨b, 1, none⟩ _ cb hne)]
    exact hx

/-- What a draw of a number comes to. -/
def DrawRes (w : World) (b : Nat) (ca : Option Addr) (len cap : Nat) (k : Int) (K : Nat) (Pr : Int → Prop) (e : Ending) (w' : World) : Prop :=
  ∃ (v k' : Int), e = .returned (.int .i64 v) ∧ Pr v ∧ k ≤ k' ∧ k' ≤ k + K ∧ SrcAt w' b ca len cap k' ∧ Only b w w'

theorem pick_any (w : World) (b lb ln : Nat) (ca : Option Addr) (len cap : Nat) (k : Int) (h : SrcAt w b ca len cap k) (hmax : (len : Int) ≤ 9223372036854775807) (k0 : 0 ≤ k) (k1 : k ≤ 1000000000000)
    (hne : lb ≠ b) (l0 : 0 < ln) (l1 : (ln : Int) ≤ 1000) (Pr : Int → Prop) (hl : ∀ j, j < ln → ∃ v : Int, w.cell? ⟨lb, j, none⟩ = some (.int .i64 v) ∧ Pr v) :
    Calls Try.prog 51 #[.pointer (some ⟨b, 0, none⟩), .slice (some ⟨lb, 0, none⟩) ln ln] w fun e w' => DrawRes w b ca len cap k 1 Pr e w' := by
  have HN : Hid (∀ n, Calls Try.prog 50 #[.pointer (some ⟨b, 0, none⟩), .int .i64 n] w fun e w' => NextRes w b k n e w') := fun n => next_any w b ca len cap k n h hmax k0 k1
  have HL : Hid (∀ j, j < ln → ∃ v : Int, w.cell? ⟨lb, j, none⟩ = some (.int .i64 v) ∧ Pr v) := hl
  have HS : Hid (SrcAt w b ca len cap k) := h
  clear h hl
  go_enter Try.func51, Try.ntmps51
  go_wp2_with fail
  refine (HN.out _).mono ?_
  rintro e w1 ⟨r, q, rfl, r0, r1, rfl⟩
  rw [if_neg (by omega)] at r1
  have r2 : r < (ln : Int) := by omega
  obtain ⟨v, hv, hp⟩ := HL.out r.toNat (by omega)
  have HPv : Hid (Pr v) := hp
  clear hp
  have hv2 : (w.setCell ⟨b, 1, none⟩ (.int .i64 (k + 1))).cell? ⟨lb, r.toNat, none⟩ = some (.int .i64 v) := by
    rw [World.cell?_of_block (w := w) (Below.heap_setCell w ⟨b, 1, none⟩ _ lb hne)]; exact hv
  clear hv r1
  go_wp2
  go_ret
  exact ⟨v, k + 1, rfl, HPv.out, by omega, by omega, HS.out.next q, ((Only.refl b w).setCell _).drewN q⟩

/-- A number of the ordinary draws. -/
def InB (v : Int) : Prop := inB v = true
theorem InB.mk {v : Int} (h1 : -1000000000 ≤ v) (h2 : v ≤ 1000000000) : InB v := (inB_iff v).2 ⟨h1, h2⟩
def AnyI (_ : Int) : Prop := True

theorem cells7 (Pr : Int → Prop) (w : World) (x0 x1 x2 x3 x4 x5 x6 : Int) (t : TypeId) (p0 : Pr x0) (p1 : Pr x1) (p2 : Pr x2) (p3 : Pr x3) (p4 : Pr x4) (p5 : Pr x5) (p6 : Pr x6) : ∀ j, j < 7 → ∃ v : Int, (w.alloc (.cells #[.int .i64 x0, .int .i64 x1, .int .i64 x2, .int .i64 x3, .int .i64 x4, .int .i64 x5, .int .i64 x6] t)).cell? ⟨w.heap.size, j, none⟩ = some (.int .i64 v) ∧ Pr v := by
  intro j hj
  rcases j with _ | _ | _ | _ | _ | _ | _ | j
  · exact ⟨x0, by simp, p0⟩
  · exact ⟨x1, by simp, p1⟩
  · exact ⟨x2, by simp, p2⟩
  · exact ⟨x3, by simp, p3⟩
  · exact ⟨x4, by simp, p4⟩
  · exact ⟨x5, by simp, p5⟩
  · exact ⟨x6, by simp, p6⟩
  · omega
theorem cells5 (Pr : Int → Prop) (w : World) (x0 x1 x2 x3 x4 : Int) (t : TypeId) (p0 : Pr x0) (p1 : Pr x1) (p2 : Pr x2) (p3 : Pr x3) (p4 : Pr x4) : ∀ j, j < 5 → ∃ v : Int, (w.alloc (.cells #[.int .i64 x0, .int .i64 x1, .int .i64 x2, .int .i64 x3, .int .i64 x4] t)).cell? ⟨w.heap.size, j, none⟩ = some (.int .i64 v) ∧ Pr v := by
  intro j hj
  rcases j with _ | _ | _ | _ | _ | j
  · exact ⟨x0, by simp, p0⟩
  · exact ⟨x1, by simp, p1⟩
  · exact ⟨x2, by simp, p2⟩
  · exact ⟨x3, by simp, p3⟩
  · exact ⟨x4, by simp, p4⟩
  · omega

theorem draw_any (w : World) (b : Nat) (ca : Option Addr) (len cap : Nat) (k : Int) (h : SrcAt w b ca len cap k) (hmax : (len : Int) ≤ 9223372036854775807) (k0 : 0 ≤ k) (k1 : k ≤ 999999999990) :
    Calls Try.prog 84 #[.pointer (some ⟨b, 0, none⟩)] w fun e w' => DrawRes w b ca len cap k 3 InB e w' := by
  go_enter Try.func84, Try.ntmps84
  go_wp2_with fail
  refine (next_any _ b ca len cap k _ h hmax k0 (by omega)).mono ?_
  rintro e w1 ⟨r, q, rfl, r0, r1, hw1⟩
  rw [if_neg (by omega)] at r1
  have h1 : SrcAt w1 b ca len cap (k + 1) := by rw [hw1]; exact h.next q
  have o1 : Only b w w1 := by rw [hw1]; exact ((Only.refl b w).setCell _).drewN q
  clear hw1
  go_wp2_with fail
  refine (next_any _ b ca len cap (k + 1) _ h1 hmax (by omega) (by omega)).mono ?_
  rintro e w2 ⟨r2, q2, rfl, r20, r21, hw2⟩
  rw [if_neg (by omega)] at r21
  have h2 : SrcAt w2 b ca len cap (k + 1 + 1) := by rw [hw2]; exact h1.next q2
  have o2 : Only b w1 w2 := by rw [hw2]; exact ((Only.refl b w1).setCell _).drewN q2
  clear hw2
  go_wp2_with fail
  refine (pick_any _ b w2.heap.size 7 ca len cap (k + 1 + 1) (h2.alloc _) hmax (by omega) (by omega) (Nat.ne_of_gt h2.lt) (by omega) (by omega) InB
    (cells7 InB w2 _ _ _ _ _ _ _ _ (.mk (by omega) (by omega)) (.mk (by omega) (by omega)) (.mk (by omega) (by omega)) (.mk (by omega) (by omega)) (.mk (by omega) (by omega)) (.mk (by omega) (by omega)) (.mk (by omega) (by omega)))).mono ?_
  rintro e w3 ⟨v, k3, rfl, hp, k31, k32, h3, o3⟩
  go_wp2
  go_ret
  exact ⟨v, k3, rfl, hp, by omega, by omega, h3, o1.trans (o2.trans (((Only.refl b w2).alloc _).trans o3))⟩

/-- A slice of bytes that came in. -/
def Bytes (w : World) (ca : Option Addr) (len : Nat) : Prop :=
  0 < len → ∃ cb co, ca = some ⟨cb, co, none⟩ ∧ ∀ j, j < len → ∃ x : Int, w.cell? ⟨cb, co + j, none⟩ = some (.int .u8 x) ∧ 0 ≤ x ∧ x ≤ 255
theorem Bytes.below {w w' : World} {ca : Option Addr} {len : Nat} (h : Bytes w ca len) (hb : Below w.heap.size w w') : Bytes w' ca len := by
  intro hl
  obtain ⟨cb, co, e, hx⟩ := h hl
  refine ⟨cb, co, e, fun j hj => ?_⟩
  obtain ⟨x, hx, x0, x1⟩ := hx j hj
  exact ⟨x, by rw [hb.cell (lt_of_cell hx)]; exact hx, x0, x1⟩
theorem source_any (w : World) (ca : Option Addr) (len cap : Nat) (h : Bytes w ca len) :
    Calls Try.prog 34 #[.slice ca len cap] w fun e w' => e = .returned (.pointer (some ⟨w.heap.size, 0, none⟩)) ∧ SrcAt w' w.heap.size ca len cap 0 ∧ Below w.heap.size w w' := by
  have HB : Hid (Bytes w ca len) := h
  clear h
  go_enter Try.func34, Try.ntmps34
  go_wp2
  go_ret
  have hb : Below w.heap.size w (w.alloc (.cells #[.slice ca len cap, .int .i64 0] 111)) := (Below.refl _ _).alloc (Nat.le_refl _) _
  refine ⟨rfl, ⟨by simp, by simp, by simp, fun hl => ?_⟩, hb⟩
  obtain ⟨cb, co, e, hx⟩ := (HB.out.below hb) hl
  refine ⟨cb, co, e, ?_, hx⟩
  obtain ⟨cb', co', e', hx'⟩ := HB.out hl
  obtain ⟨x, hx, _⟩ := hx' 0 hl
  have := lt_of_cell hx
  rw [e] at e'
  obtain ⟨rfl, -⟩ : cb = cb' ∧ co = co' := by simpa using e'
  exact Nat.ne_of_lt this
end Go.Proofs.Ytgfienijabkpjaa
/-
  The model's draws l1Chance, l2Name: each answers, counts on, and turns nothing that was there but the count.
-/
namespace Go.Proofs.Ytgfienijabkpjaa
open Go.RowKit Go.Extern.Stop Go.Stop Go.Extern Num Go.Lib

theorem strs_at (w : World) (L : List ByteArray) (t : TypeId) (B : Nat) (hB : ∀ x ∈ L, x.size ≤ B) (j : Nat) (hj : j < L.length) :
    ∃ s : ByteArray, (w.alloc (.cells (L.map Value.string).toArray t)).cell? ⟨w.heap.size, j, none⟩ = some (.string s) ∧ s.size ≤ B := by
  refine ⟨L[j], ?_, hB _ (List.getElem_mem hj)⟩
  rw [cell_of_row _ w.heap.size j _ t (0, 0) (heap_alloc_new w _)]
  simp [hj]
/-- Where the bytes of the code lie. -/
theorem SrcAt.code {w : World} {b : Nat} {ca : Option Addr} {len cap : Nat} {k : Int} (h : SrcAt w b ca len cap k) : ∀ cb co, ca = some ⟨cb, co, none⟩ → 0 < len → cb < w.heap.size := by
  intro cb co e hl
  obtain ⟨cb', co', e', _, hx⟩ := h.bytes hl
  obtain ⟨x, hx, _⟩ := hx 0 hl
  rw [e] at e'
  obtain ⟨rfl, -⟩ : cb = cb' ∧ co = co' := by simpa using e'
  exact lt_of_cell hx
/-- A world in which nothing has turned but one block g that is neither the source's nor the code's. -/
theorem SrcAt.keep {w w' : World} {b : Nat} {ca : Option Addr} {len cap : Nat} {k : Int} (h : SrcAt w b ca len cap k) (g : Nat) (hk : ∀ i, i < w.heap.size → i ≠ g → w'.heap[i]? = w.heap[i]?) (hb : b ≠ g) (hc : ∀ cb co, ca = some ⟨cb, co, none⟩ → 0 < len → cb ≠ g) : SrcAt w' b ca len cap k := by
  refine ⟨?_, ?_, ?_, fun hl => ?_⟩
  · rw [World.cell?_of_block (w := w) (hk b h.lt hb)]; exact h.c0
  · rw [World.cell?_of_block (w := w) (hk b h.lt hb)]; exact h.c1
  · rw [World.frozen?_of_block (w := w) (hk b h.lt hb)]; exact h.f1
  · obtain ⟨cb, co, e, hne, hx⟩ := h.bytes hl
    refine ⟨cb, co, e, hne, fun j hj => ?_⟩
    obtain ⟨x, hx, x0, x1⟩ := hx j hj
    exact ⟨x, by rw [World.cell?_of_block (w := w) (hk cb (lt_of_cell hx) (hc cb co e hl))]; exact hx, x0, x1⟩
theorem SrcAt.put {w : World} {b : Nat} {ca : Option Addr} {len cap : Nat} {k : Int} (h : SrcAt w b ca len cap k) (g o : Nat) (u : Value) (hb : b ≠ g) (hc : ∀ cb co, ca = some ⟨cb, co, none⟩ → 0 < len → cb ≠ g) : SrcAt (w.setCell ⟨g, o, none⟩ u) b ca len cap k :=
  h.keep g (fun _ _ hi => Below.heap_setCell _ _ _ _ hi) hb hc
theorem Only.put {b g o : Nat} {u w : World} (h : Only b u w) (hg : u.heap.size ≤ g) (x : Value) : Only b u (w.setCell ⟨g, o, none⟩ x) :=
  ⟨h.os, h.tape, h.output, by simpa using h.size, fun k hk hb => (Below.heap_setCell _ _ _ _ (by show k ≠ g; omega)).trans (h.block k hk hb)⟩
theorem only_next (w : World) (b : Nat) (k : Int) (q : Nat) : Only b w ((w.setCell ⟨b, 1, none⟩ (.int .i64 (k + 1))).drewN q) := ((Only.refl b w).setCell _).drewN q

theorem chance_any (w : World) (b : Nat) (ca : Option Addr) (len cap : Nat) (k n : Int) (h : SrcAt w b ca len cap k) (hmax : (len : Int) ≤ 9223372036854775807) (k0 : 0 ≤ k) (k1 : k ≤ 1000000000000) :
    Calls Try.prog 49 #[.pointer (some ⟨b, 0, none⟩), .int .i64 n] w fun e w' => ∃ t : Bool, e = .returned (.bool t) ∧ SrcAt w' b ca len cap (k + 1) ∧ Only b w w' := by
  go_enter Try.func49, Try.ntmps49
  go_wp2_with fail
  refine (next_any _ b ca len cap k n h hmax k0 k1).mono ?_
  rintro e w1 ⟨r, q, rfl, r0, r1, hw1⟩
  have h1 : SrcAt w1 b ca len cap (k + 1) := by rw [hw1]; exact h.next q
  have o1 : Only b w w1 := by rw [hw1]; exact only_next w b k q
  clear hw1 h
  go_wp2
  go_ret
  exact ⟨_, rfl, h1, o1⟩
/-- What a draw of a text comes to. -/
def StrRes (w : World) (b : Nat) (ca : Option Addr) (len cap : Nat) (k : Int) (K : Nat) (e : Ending) (w' : World) : Prop :=
  ∃ (s : ByteArray) (k' : Int), e = .returned (.string s) ∧ s.size ≤ 20 ∧ k ≤ k' ∧ k' ≤ k + K ∧ SrcAt w' b ca len cap k' ∧ Only b w w'
set_option maxRecDepth 100000 in
theorem l2name_any (w : World) (b : Nat) (ca : Option Addr) (len cap : Nat) (k : Int) (h : SrcAt w b ca len cap k) (hmax : (len : Int) ≤ 9223372036854775807) (k0 : 0 ≤ k) (k1 : k ≤ 1000000000000) :
    Calls Try.prog 83 #[.pointer (some ⟨b, 0, none⟩)] w fun e w' => StrRes w b ca len cap k 1 e w' := by
  go_enter Try.func83, Try.ntmps83
  go_wp2_with fail
  refine (next_any _ b ca len cap k _ (h.alloc _) hmax k0 k1).mono ?_
  rintro e w1 ⟨r, q, rfl, r0, r1, hw1⟩
  rw [if_neg (by omega)] at r1
  obtain ⟨s, hs, hz⟩ : ∃ s : ByteArray, (w.alloc (.cells #[.string ⟨#[120]⟩, .string ⟨#[121]⟩, .string ⟨#[102]⟩, .string ⟨#[43]⟩, .string ⟨#[99, 97, 114]⟩, .string ⟨#[105, 102]⟩, .string ⟨#[110, 117, 108, 108, 63]⟩, .string ⟨#[97]⟩] 9)).cell? ⟨w.heap.size, r.toNat, none⟩ = some (.string s) ∧ s.size ≤ 20 :=
    strs_at w [⟨#[120]⟩, ⟨#[121]⟩, ⟨#[102]⟩, ⟨#[43]⟩, ⟨#[99, 97, 114]⟩, ⟨#[105, 102]⟩, ⟨#[110, 117, 108, 108, 63]⟩, ⟨#[97]⟩] 9 20 (by decide) r.toNat (by simp; omega)
  have h1 : SrcAt w1 b ca len cap (k + 1) := by rw [hw1]; exact (h.alloc _).next q
  have o1 : Only b w w1 := by rw [hw1]; exact ((Only.refl b w).alloc _).trans (only_next _ b k q)
  have hc : w1.cell? ⟨w.heap.size, r.toNat, none⟩ = some (.string s) := by
    rw [hw1]
    exact (World.cell?_of_block (Below.heap_setCell _ ⟨b, 1, none⟩ _ w.heap.size (Nat.ne_of_gt h.lt))).trans hs
  have r2 : r < 8 := by omega
  clear hw1 hs r1 h
  go_wp2
  go_ret
  exact ⟨s, k + 1, rfl, hz, by omega, by omega, h1, o1⟩
theorem cells3 (w : World) (x0 x1 x2 : Int) (t : TypeId) : ∀ j, j < 3 → ∃ v : Int, (w.alloc (.cells #[.int .i64 x0, .int .i64 x1, .int .i64 x2] t)).cell? ⟨w.heap.size, j, none⟩ = some (.int .i64 v) ∧ AnyI v := by
  intro j hj
  rcases j with _ | _ | _ | j
  · exact ⟨x0, by simp, trivial⟩
  · exact ⟨x1, by simp, trivial⟩
  · exact ⟨x2, by simp, trivial⟩
  · omega
theorem cells4 (w : World) (x0 x1 x2 x3 : Int) (t : TypeId) : ∀ j, j < 4 → ∃ v : Int, (w.alloc (.cells #[.int .i64 x0, .int .i64 x1, .int .i64 x2, .int .i64 x3] t)).cell? ⟨w.heap.size, j, none⟩ = some (.int .i64 v) ∧ AnyI v := by
  intro j hj
  rcases j with _ | _ | _ | _ | j
  · exact ⟨x0, by simp, trivial⟩
  · exact ⟨x1, by simp, trivial⟩
  · exact ⟨x2, by simp, trivial⟩
  · exact ⟨x3, by simp, trivial⟩
  · omega
end Go.Proofs.Ytgfienijabkpjaa
/-
  The model's draw of a value, l5Draw: it answers a value, counts on, and turns nothing that was there but the count.
-/
namespace Go.Proofs.Ytgfienijabkpjaa
open Go.RowKit Go.Extern.Stop Go.Stop Go.Extern Num Go.Lib

/-- What a draw of a value comes to. -/
def VluRes (w : World) (b : Nat) (ca : Option Addr) (len cap : Nat) (k : Int) (K : Nat) (e : Ending) (w' : World) : Prop :=
  ∃ (t : Vlu) (k' : Int), e = .returned t.val ∧ t.name.size ≤ 20 ∧ k ≤ k' ∧ k' ≤ k + K ∧ SrcAt w' b ca len cap k' ∧ Only b w w'
set_option maxRecDepth 100000 in
set_option maxHeartbeats 2000000 in
theorem drawV_any (w : World) (b : Nat) (ca : Option Addr) (len cap : Nat) (k n : Int) (h : SrcAt w b ca len cap k) (hmax : (len : Int) ≤ 9223372036854775807) (k0 : 0 ≤ k) (k1 : k ≤ 999999999900) :
    Calls Try.prog 63 #[.pointer (some ⟨b, 0, none⟩), .int .i64 n] w fun e w' => VluRes w b ca len cap k 5 e w' := by
  have hcode := h.code
  have hlt := h.lt
  go_enter Try.func63, Try.ntmps63
  go_wp2_with fail
  refine (next_any _ b ca len cap k _ (h.alloc _) hmax k0 (by omega)).mono ?_
  rintro e w1 ⟨r, q, rfl, r0, r1, hw1⟩
  rw [if_neg (by omega)] at r1
  have h1 : SrcAt w1 b ca len cap (k + 1) := by rw [hw1]; exact (h.alloc _).next q
  have o1 : Only b w w1 := by rw [hw1]; exact ((Only.refl b w).alloc _).trans (only_next _ b k q)
  have hs1 : w.heap.size < w1.heap.size := by rw [hw1]; simp [World.drewN]
  have hold : ∀ o, w1.cell? ⟨w.heap.size, o, none⟩ = (w.alloc (.cells #[.int .i64 0, .int .i64 0, .string ⟨#[]⟩] 26)).cell? ⟨w.heap.size, o, none⟩ := fun o => by
    rw [hw1]; exact World.cell?_of_block (Below.heap_setCell _ ⟨b, 1, none⟩ _ w.heap.size (Nat.ne_of_gt hlt))
  have hfz : ∀ o, w1.frozen? ⟨w.heap.size, o, none⟩ = (w.alloc (.cells #[.int .i64 0, .int .i64 0, .string ⟨#[]⟩] 26)).frozen? ⟨w.heap.size, o, none⟩ := fun o => by
    rw [hw1]; exact World.frozen?_of_block (Below.heap_setCell _ ⟨b, 1, none⟩ _ w.heap.size (Nat.ne_of_gt hlt))
  clear hw1
  have bne : b ≠ w.heap.size := Nat.ne_of_lt hlt
  have cne : ∀ cb co, ca = some ⟨cb, co, none⟩ → 0 < len → cb ≠ w.heap.size := fun cb co e hl => Nat.ne_of_lt (hcode cb co e hl)
  have HC : Hid (∀ cb co, ca = some ⟨cb, co, none⟩ → 0 < len → cb ≠ w.heap.size) := cne
  clear cne hcode h
  by_cases c0 : r = 0
  · subst c0
    go_wp2_with fail
    refine (next_any _ b ca len cap (k + 1) _ h1 hmax (by omega) (by omega)).mono ?_
    rintro e w2 ⟨v, q2, rfl, -, -, hw2⟩
    have h2 : SrcAt w2 b ca len cap (k + 1 + 1) := by rw [hw2]; exact h1.next q2
    have o2 : Only b w1 w2 := by rw [hw2]; exact only_next w1 b (k + 1) q2
    clear hw2
    have hold2 : ∀ o, w2.cell? ⟨w.heap.size, o, none⟩ = (w.alloc (.cells #[.int .i64 0, .int .i64 0, .string ⟨#[]⟩] 26)).cell? ⟨w.heap.size, o, none⟩ := fun o => by
      rw [o2.cell (p := ⟨w.heap.size, o, none⟩) hs1 (Ne.symm bne)]; exact hold o
    have hfz2 : ∀ o, w2.frozen? ⟨w.heap.size, o, none⟩ = (w.alloc (.cells #[.int .i64 0, .int .i64 0, .string ⟨#[]⟩] 26)).frozen? ⟨w.heap.size, o, none⟩ := fun o => by
      rw [o2.frozen (p := ⟨w.heap.size, o, none⟩) hs1 (Ne.symm bne)]; exact hfz o
    have o12 : Only b w w2 := o1.trans o2
    clear o1 o2 h1 hold hfz
    go_wp2
    refine bodyPost_ret (v := (⟨2, v, ⟨#[]⟩⟩ : Vlu).val) (by simp [results, Try.results63, go_sem, hold2]) rfl ⟨⟨2, v, ⟨#[]⟩⟩, k + 1 + 1, rfl, Nat.zero_le _, by omega, by omega, ?_, ?_⟩
    · repeat (first | exact h2 | refine SrcAt.put ?_ _ _ _ bne HC.out)
    · repeat (first | exact o12 | refine Only.put ?_ (Nat.le_refl _) _)
  have d0 : (r == 0) = false := by simpa using c0
  by_cases c1 : r = 1
  · subst c1
    have h2 := h1
    go_wp2
    refine bodyPost_ret (v := (⟨3, 0, ⟨#[]⟩⟩ : Vlu).val) (by simp [results, Try.results63, go_sem, hold]) rfl ⟨⟨3, 0, ⟨#[]⟩⟩, k + 1, rfl, Nat.zero_le _, by omega, by omega, ?_, ?_⟩
    · repeat (first | exact h2 | refine SrcAt.put ?_ _ _ _ bne HC.out)
    · repeat (first | exact o1 | refine Only.put ?_ (Nat.le_refl _) _)
  have d1 : (r == 1) = false := by simpa using c1
  by_cases c2 : r = 2
  · subst c2
    go_wp2_with fail
    refine (l2name_any _ b ca len cap (k + 1) h1 hmax (by omega) (by omega)).mono ?_
    rintro e w2 ⟨s, k2, rfl, hz, k21, k22, h2, o2⟩
    have hold2 : ∀ o, w2.cell? ⟨w.heap.size, o, none⟩ = (w.alloc (.cells #[.int .i64 0, .int .i64 0, .string ⟨#[]⟩] 26)).cell? ⟨w.heap.size, o, none⟩ := fun o => by
      rw [o2.cell (p := ⟨w.heap.size, o, none⟩) hs1 (Ne.symm bne)]; exact hold o
    have hfz2 : ∀ o, w2.frozen? ⟨w.heap.size, o, none⟩ = (w.alloc (.cells #[.int .i64 0, .int .i64 0, .string ⟨#[]⟩] 26)).frozen? ⟨w.heap.size, o, none⟩ := fun o => by
      rw [o2.frozen (p := ⟨w.heap.size, o, none⟩) hs1 (Ne.symm bne)]; exact hfz o
    have o12 : Only b w w2 := o1.trans o2
    clear o1 o2 h1 hold hfz
    go_wp2
    refine bodyPost_ret (v := (⟨4, 0, s⟩ : Vlu).val) (by simp [results, Try.results63, go_sem, hold2]) rfl ⟨⟨4, 0, s⟩, k2, rfl, hz, by omega, by omega, ?_, ?_⟩
    · repeat (first | exact h2 | refine SrcAt.put ?_ _ _ _ bne HC.out)
    · repeat (first | exact o12 | refine Only.put ?_ (Nat.le_refl _) _)
  have d2 : (r == 2) = false := by simpa using c2
  by_cases c3 : r = 3
  · subst c3
    by_cases hn : 0 < n
    · skip
      go_wp2_with fail
      refine (next_any _ b ca len cap (k + 1) _ h1 hmax (by omega) (by omega)).mono ?_
      rintro e w2 ⟨v, q2, rfl, -, -, hw2⟩
      have h2 : SrcAt w2 b ca len cap (k + 1 + 1) := by rw [hw2]; exact h1.next q2
      have o2 : Only b w1 w2 := by rw [hw2]; exact only_next w1 b (k + 1) q2
      clear hw2
      have hold2 : ∀ o, w2.cell? ⟨w.heap.size, o, none⟩ = (w.alloc (.cells #[.int .i64 0, .int .i64 0, .string ⟨#[]⟩] 26)).cell? ⟨w.heap.size, o, none⟩ := fun o => by
        rw [o2.cell (p := ⟨w.heap.size, o, none⟩) hs1 (Ne.symm bne)]; exact hold o
      have hfz2 : ∀ o, w2.frozen? ⟨w.heap.size, o, none⟩ = (w.alloc (.cells #[.int .i64 0, .int .i64 0, .string ⟨#[]⟩] 26)).frozen? ⟨w.heap.size, o, none⟩ := fun o => by
        rw [o2.frozen (p := ⟨w.heap.size, o, none⟩) hs1 (Ne.symm bne)]; exact hfz o
      have o12 : Only b w w2 := o1.trans o2
      clear o1 o2 h1 hold hfz
      go_wp2
      refine bodyPost_ret (v := (⟨5, v, ⟨#[]⟩⟩ : Vlu).val) (by simp [results, Try.results63, go_sem, hold2]) rfl ⟨⟨5, v, ⟨#[]⟩⟩, k + 1 + 1, rfl, Nat.zero_le _, by omega, by omega, ?_, ?_⟩
      · repeat (first | exact h2 | refine SrcAt.put ?_ _ _ _ bne HC.out)
      · repeat (first | exact o12 | refine Only.put ?_ (Nat.le_refl _) _)
    · have hn' : ¬ (0 < n) := hn
      go_wp2_with fail
      refine (draw_any _ b ca len cap (k + 1) h1 hmax (by omega) (by omega)).mono ?_
      rintro e w2 ⟨v, k2, rfl, -, k21, k22, h2, o2⟩
      have hold2 : ∀ o, w2.cell? ⟨w.heap.size, o, none⟩ = (w.alloc (.cells #[.int .i64 0, .int .i64 0, .string ⟨#[]⟩] 26)).cell? ⟨w.heap.size, o, none⟩ := fun o => by
        rw [o2.cell (p := ⟨w.heap.size, o, none⟩) hs1 (Ne.symm bne)]; exact hold o
      have hfz2 : ∀ o, w2.frozen? ⟨w.heap.size, o, none⟩ = (w.alloc (.cells #[.int .i64 0, .int .i64 0, .string ⟨#[]⟩] 26)).frozen? ⟨w.heap.size, o, none⟩ := fun o => by
        rw [o2.frozen (p := ⟨w.heap.size, o, none⟩) hs1 (Ne.symm bne)]; exact hfz o
      have o12 : Only b w w2 := o1.trans o2
      clear o1 o2 h1 hold hfz
      go_wp2
      refine bodyPost_ret (v := (⟨1, v, ⟨#[]⟩⟩ : Vlu).val) (by simp [results, Try.results63, go_sem, hold2]) rfl ⟨⟨1, v, ⟨#[]⟩⟩, k2, rfl, Nat.zero_le _, by omega, by omega, ?_, ?_⟩
      · repeat (first | exact h2 | refine SrcAt.put ?_ _ _ _ bne HC.out)
      · repeat (first | exact o12 | refine Only.put ?_ (Nat.le_refl _) _)
  have d3 : (r == 3) = false := by simpa using c3
  by_cases c4 : r = 4
  · subst c4
    by_cases hn : 0 < n
    · skip
      go_wp2_with fail
      refine (next_any _ b ca len cap (k + 1) _ h1 hmax (by omega) (by omega)).mono ?_
      rintro e w2 ⟨v, q2, rfl, -, -, hw2⟩
      have h2 : SrcAt w2 b ca len cap (k + 1 + 1) := by rw [hw2]; exact h1.next q2
      have o2 : Only b w1 w2 := by rw [hw2]; exact only_next w1 b (k + 1) q2
      clear hw2
      have hold2 : ∀ o, w2.cell? ⟨w.heap.size, o, none⟩ = (w.alloc (.cells #[.int .i64 0, .int .i64 0, .string ⟨#[]⟩] 26)).cell? ⟨w.heap.size, o, none⟩ := fun o => by
        rw [o2.cell (p := ⟨w.heap.size, o, none⟩) hs1 (Ne.symm bne)]; exact hold o
      have hfz2 : ∀ o, w2.frozen? ⟨w.heap.size, o, none⟩ = (w.alloc (.cells #[.int .i64 0, .int .i64 0, .string ⟨#[]⟩] 26)).frozen? ⟨w.heap.size, o, none⟩ := fun o => by
        rw [o2.frozen (p := ⟨w.heap.size, o, none⟩) hs1 (Ne.symm bne)]; exact hfz o
      have o12 : Only b w w2 := o1.trans o2
      clear o1 o2 h1 hold hfz
      go_wp2
      refine bodyPost_ret (v := (⟨5, v, ⟨#[]⟩⟩ : Vlu).val) (by simp [results, Try.results63, go_sem, hold2]) rfl ⟨⟨5, v, ⟨#[]⟩⟩, k + 1 + 1, rfl, Nat.zero_le _, by omega, by omega, ?_, ?_⟩
      · repeat (first | exact h2 | refine SrcAt.put ?_ _ _ _ bne HC.out)
      · repeat (first | exact o12 | refine Only.put ?_ (Nat.le_refl _) _)
    · have hn' : ¬ (0 < n) := hn
      go_wp2_with fail
      refine (draw_any _ b ca len cap (k + 1) h1 hmax (by omega) (by omega)).mono ?_
      rintro e w2 ⟨v, k2, rfl, -, k21, k22, h2, o2⟩
      have hold2 : ∀ o, w2.cell? ⟨w.heap.size, o, none⟩ = (w.alloc (.cells #[.int .i64 0, .int .i64 0, .string ⟨#[]⟩] 26)).cell? ⟨w.heap.size, o, none⟩ := fun o => by
        rw [o2.cell (p := ⟨w.heap.size, o, none⟩) hs1 (Ne.symm bne)]; exact hold o
      have hfz2 : ∀ o, w2.frozen? ⟨w.heap.size, o, none⟩ = (w.alloc (.cells #[.int .i64 0, .int .i64 0, .string ⟨#[]⟩] 26)).frozen? ⟨w.heap.size, o, none⟩ := fun o => by
        rw [o2.frozen (p := ⟨w.heap.size, o, none⟩) hs1 (Ne.symm bne)]; exact hfz o
      have o12 : Only b w w2 := o1.trans o2
      clear o1 o2 h1 hold hfz
      go_wp2
      refine bodyPost_ret (v := (⟨1, v, ⟨#[]⟩⟩ : Vlu).val) (by simp [results, Try.results63, go_sem, hold2]) rfl ⟨⟨1, v, ⟨#[]⟩⟩, k2, rfl, Nat.zero_le _, by omega, by omega, ?_, ?_⟩
      · repeat (first | exact h2 | refine SrcAt.put ?_ _ _ _ bne HC.out)
      · repeat (first | exact o12 | refine Only.put ?_ (Nat.le_refl _) _)
  have d4 : (r == 4) = false := by simpa using c4
  by_cases c5 : r = 5
  · subst c5
    have hb1 : b < w1.heap.size := h1.lt
    go_wp2_with fail
    refine (pick_any _ b w1.heap.size 3 ca len cap (k + 1) (h1.alloc _) hmax (by omega) (by omega) (Nat.ne_of_gt h1.lt) (by omega) (by omega) AnyI (cells3 w1 _ _ _ _)).mono ?_
    rintro e w3 ⟨u, k3, rfl, -, k31, k32, h3, o3⟩
    have o3' : Only b w1 w3 := ((Only.refl b w1).alloc _).trans o3
    clear o3
    go_wp2_with fail
    refine (next_any _ b ca len cap k3 _ h3 hmax (by omega) (by omega)).mono ?_
    rintro e w2 ⟨v, q2, rfl, -, -, hw2⟩
    have h2 : SrcAt w2 b ca len cap (k3 + 1) := by rw [hw2]; exact h3.next q2
    have o2 : Only b w1 w2 := o3'.trans (by rw [hw2]; exact only_next w3 b k3 q2)
    clear hw2 h3 o3'
    have hold2 : ∀ o, w2.cell? ⟨w.heap.size, o, none⟩ = (w.alloc (.cells #[.int .i64 0, .int .i64 0, .string ⟨#[]⟩] 26)).cell? ⟨w.heap.size, o, none⟩ := fun o => by
      rw [o2.cell (p := ⟨w.heap.size, o, none⟩) hs1 (Ne.symm bne)]; exact hold o
    have hfz2 : ∀ o, w2.frozen? ⟨w.heap.size, o, none⟩ = (w.alloc (.cells #[.int .i64 0, .int .i64 0, .string ⟨#[]⟩] 26)).frozen? ⟨w.heap.size, o, none⟩ := fun o => by
      rw [o2.frozen (p := ⟨w.heap.size, o, none⟩) hs1 (Ne.symm bne)]; exact hfz o
    have o12 : Only b w w2 := o1.trans o2
    clear o1 o2 h1 hold hfz
    go_wp2
    refine bodyPost_ret (v := (⟨u, v, ⟨#[]⟩⟩ : Vlu).val) (by simp [results, Try.results63, go_sem, hold2]) rfl ⟨⟨u, v, ⟨#[]⟩⟩, k3 + 1, rfl, Nat.zero_le _, by omega, by omega, ?_, ?_⟩
    · repeat (first | exact h2 | refine SrcAt.put ?_ _ _ _ bne HC.out)
    · repeat (first | exact o12 | refine Only.put ?_ (Nat.le_refl _) _)
  have d5 : (r == 5) = false := by simpa using c5
  go_wp2_with fail
  refine (draw_any _ b ca len cap (k + 1) h1 hmax (by omega) (by omega)).mono ?_
  rintro e w2 ⟨v, k2, rfl, -, k21, k22, h2, o2⟩
  have hold2 : ∀ o, w2.cell? ⟨w.heap.size, o, none⟩ = (w.alloc (.cells #[.int .i64 0, .int .i64 0, .string ⟨#[]⟩] 26)).cell? ⟨w.heap.size, o, none⟩ := fun o => by
    rw [o2.cell (p := ⟨w.heap.size, o, none⟩) hs1 (Ne.symm bne)]; exact hold o
  have hfz2 : ∀ o, w2.frozen? ⟨w.heap.size, o, none⟩ = (w.alloc (.cells #[.int .i64 0, .int .i64 0, .string ⟨#[]⟩] 26)).frozen? ⟨w.heap.size, o, none⟩ := fun o => by
    rw [o2.frozen (p := ⟨w.heap.size, o, none⟩) hs1 (Ne.symm bne)]; exact hfz o
  have o12 : Only b w w2 := o1.trans o2
  clear o1 o2 h1 hold hfz
  go_wp2
  refine bodyPost_ret (v := (⟨1, v, ⟨#[]⟩⟩ : Vlu).val) (by simp [results, Try.results63, go_sem, hold2]) rfl ⟨⟨1, v, ⟨#[]⟩⟩, k2, rfl, Nat.zero_le _, by omega, by omega, ?_, ?_⟩
  · repeat (first | exact h2 | refine SrcAt.put ?_ _ _ _ bne HC.out)
  · repeat (first | exact o12 | refine Only.put ?_ (Nat.le_refl _) _)
end Go.Proofs.Ytgfienijabkpjaa
/-
  The model's draw of a value that may be wrong, l5BentValue: it answers a value, counts on, and turns nothing that was there but the count.
-/
namespace Go.Proofs.Ytgfienijabkpjaa
open Go.RowKit Go.Extern.Stop Go.Stop Go.Extern Num Go.Lib

/-- TwoV blocks of one's own: the answer's, as it was laid, and a value's. -/
structure TwoV (w : World) (B T : Nat) (t : Vlu) : Prop where
  lb : B < w.heap.size
  lt : T < w.heap.size
  p0 : w.cell? ⟨B, 0, none⟩ = some (.int .i64 0)
  p1 : w.cell? ⟨B, 1, none⟩ = some (.int .i64 0)
  p2 : w.cell? ⟨B, 2, none⟩ = some (.string ⟨#[]⟩)
  pf : ∀ o, w.frozen? ⟨B, o, none⟩ = false
  t0 : w.cell? ⟨T, 0, none⟩ = some (.int .i64 t.kind)
  t1 : w.cell? ⟨T, 1, none⟩ = some (.int .i64 t.num)
  t2 : w.cell? ⟨T, 2, none⟩ = some (.string t.name)
  tf : ∀ o, w.frozen? ⟨T, o, none⟩ = false
theorem TwoV.only {w w' : World} {B T b : Nat} {t : Vlu} (h : TwoV w B T t) (o : Only b w w') (hB : B ≠ b) (hT : T ≠ b) : TwoV w' B T t := by
  have cB : ∀ j, w'.cell? ⟨B, j, none⟩ = w.cell? ⟨B, j, none⟩ := fun j => o.cell (p := ⟨B, j, none⟩) h.lb hB
  have cT : ∀ j, w'.cell? ⟨T, j, none⟩ = w.cell? ⟨T, j, none⟩ := fun j => o.cell (p := ⟨T, j, none⟩) h.lt hT
  have fB : ∀ j, w'.frozen? ⟨B, j, none⟩ = w.frozen? ⟨B, j, none⟩ := fun j => o.frozen (p := ⟨B, j, none⟩) h.lb hB
  have fT : ∀ j, w'.frozen? ⟨T, j, none⟩ = w.frozen? ⟨T, j, none⟩ := fun j => o.frozen (p := ⟨T, j, none⟩) h.lt hT
  exact ⟨Nat.lt_of_lt_of_le h.lb o.size, Nat.lt_of_lt_of_le h.lt o.size, (cB 0).trans h.p0, (cB 1).trans h.p1, (cB 2).trans h.p2, fun j => (fB j).trans (h.pf j), (cT 0).trans h.t0, (cT 1).trans h.t1, (cT 2).trans h.t2, fun j => (fT j).trans (h.tf j)⟩
theorem TwoV.alloc {w : World} {B T : Nat} {t : Vlu} (h : TwoV w B T t) (o : Obj) : TwoV (w.alloc o) B T t :=
  h.only (b := w.heap.size) ((Only.refl _ w).alloc o) (Nat.ne_of_lt h.lb) (Nat.ne_of_lt h.lt)
set_option maxRecDepth 100000 in
set_option maxHeartbeats 2000000 in
theorem bentV_any (w : World) (b : Nat) (ca : Option Addr) (len cap : Nat) (k n : Int) (h : SrcAt w b ca len cap k) (hmax : (len : Int) ≤ 9223372036854775807) (k0 : 0 ≤ k) (k1 : k ≤ 999999999800) :
    Calls Try.prog 37 #[.pointer (some ⟨b, 0, none⟩), .int .i64 n] w fun e w' => VluRes w b ca len cap k 9 e w' := by
  have hcode := h.code
  have hlt := h.lt
  go_enter Try.func37, Try.ntmps37
  go_wp2_with fail
  refine (drawV_any _ b ca len cap k n (h.alloc _) hmax k0 (by omega)).mono ?_
  rintro e w1 ⟨t, k1', rfl, hz, k11, k12, h1, o1⟩
  have bne : b ≠ w.heap.size := Nat.ne_of_lt hlt
  have hs1 : w.heap.size < w1.heap.size := by have := o1.size; simp at this; omega
  have TW : Hid (TwoV (w1.alloc (.cells #[.int .i64 t.kind, .int .i64 t.num, .string t.name] 26)) w.heap.size w1.heap.size t) := by
    have cB : ∀ j, w1.cell? ⟨w.heap.size, j, none⟩ = (w.alloc (.cells #[.int .i64 0, .int .i64 0, .string ⟨#[]⟩] 26)).cell? ⟨w.heap.size, j, none⟩ := fun j => o1.cell (p := ⟨w.heap.size, j, none⟩) (by simp) (Ne.symm bne)
    have fB : ∀ j, w1.frozen? ⟨w.heap.size, j, none⟩ = (w.alloc (.cells #[.int .i64 0, .int .i64 0, .string ⟨#[]⟩] 26)).frozen? ⟨w.heap.size, j, none⟩ := fun j => o1.frozen (p := ⟨w.heap.size, j, none⟩) (by simp) (Ne.symm bne)
    refine ⟨by simp; omega, by simp, ?_, ?_, ?_, fun j => ?_, by simp, by simp, by simp, fun j => by simp⟩
    · exact cell_laid _ ((cB 0).trans (by simp))
    · exact cell_laid _ ((cB 1).trans (by simp))
    · exact cell_laid _ ((cB 2).trans (by simp))
    · rw [((Only.refl w1.heap.size w1).alloc _).frozen (p := ⟨w.heap.size, j, none⟩) hs1 (Nat.ne_of_lt hs1), fB j]; simp
  have o01 : Only b w w1 := ((Only.refl b w).alloc _).trans o1
  have HC : Hid (∀ B, w.heap.size ≤ B → ∀ cb co, ca = some ⟨cb, co, none⟩ → 0 < len → cb ≠ B) := fun B hB cb co e hl => by have := hcode cb co e hl; omega
  clear hcode h o1
  have hb1 : b < w1.heap.size := h1.lt
  have bn1 : b ≠ w1.heap.size := Nat.ne_of_lt hb1
  go_wp2_with fail
  refine (next_any _ b ca len cap k1' _ (h1.alloc _) hmax (by omega) (by omega)).mono ?_
  rintro e w2 ⟨r, q, rfl, r0, r1, hw2⟩
  rw [if_neg (by omega)] at r1
  have h2 : SrcAt w2 b ca len cap (k1' + 1) := by rw [hw2]; exact (h1.alloc _).next q
  have o2 : Only b (w1.alloc (.cells #[.int .i64 t.kind, .int .i64 t.num, .string t.name] 26)) w2 := by rw [hw2]; exact only_next _ b k1' q
  clear hw2
  have T2 : Hid (TwoV w2 w.heap.size w1.heap.size t) := TW.out.only o2 (Ne.symm bne) (Ne.symm bn1)
  have o02 : Only b w w2 := (o01.alloc _).trans o2
  clear o2 o01 h1 TW
  by_cases c0 : r = 0
  · subst c0
    go_wp2_with fail
    refine (pick_any _ b w2.heap.size 4 ca len cap (k1' + 1) (h2.alloc _) hmax (by omega) (by omega) (Nat.ne_of_gt h2.lt) (by omega) (by omega) AnyI (cells4 w2 _ _ _ _ _)).mono ?_
    rintro e w3 ⟨v, k3, rfl, -, k31, k32, h3, o3⟩
    have T3 := (T2.out.alloc _).only o3 (Ne.symm bne) (Ne.symm bn1)
    have o03 : Only b w w3 := (o02.alloc _).trans o3
    clear o3 o02 h2 T2
    obtain ⟨lb, lt, p0, p1, p2, pf, t0, t1, t2, tf⟩ := T3
    have ne1 : w.heap.size ≠ w1.heap.size := Nat.ne_of_lt hs1
    go_wp2
    refine bodyPost_ret (v := (⟨v, t.num, t.name⟩ : Vlu).val) (by simp [results, Try.results37, go_sem, p0, p1, p2]) rfl ⟨⟨v, t.num, t.name⟩, k3, rfl, hz, by omega, by omega, ?_, ?_⟩
    · repeat (first | exact h3 | refine SrcAt.put ?_ _ _ _ (by assumption) (HC.out _ (by omega)))
    · repeat (first | exact o03 | refine Only.put ?_ (by omega) _)
  have d0 : (r == 0) = false := by simpa using c0
  by_cases c1 : r = 1
  · subst c1
    go_wp2_with fail
    refine (pick_any _ b w2.heap.size 4 ca len cap (k1' + 1) (h2.alloc _) hmax (by omega) (by omega) (Nat.ne_of_gt h2.lt) (by omega) (by omega) AnyI (cells4 w2 _ _ _ _ _)).mono ?_
    rintro e w3 ⟨v, k3, rfl, -, k31, k32, h3, o3⟩
    have T3 := (T2.out.alloc _).only o3 (Ne.symm bne) (Ne.symm bn1)
    have o03 : Only b w w3 := (o02.alloc _).trans o3
    clear o3 o02 h2 T2
    obtain ⟨lb, lt, p0, p1, p2, pf, t0, t1, t2, tf⟩ := T3
    have ne1 : w.heap.size ≠ w1.heap.size := Nat.ne_of_lt hs1
    go_wp2
    refine bodyPost_ret (v := (⟨t.kind, v, t.name⟩ : Vlu).val) (by simp [results, Try.results37, go_sem, p0, p1, p2]) rfl ⟨⟨t.kind, v, t.name⟩, k3, rfl, hz, by omega, by omega, ?_, ?_⟩
    · repeat (first | exact h3 | refine SrcAt.put ?_ _ _ _ (by assumption) (HC.out _ (by omega)))
    · repeat (first | exact o03 | refine Only.put ?_ (by omega) _)
  have d1 : (r == 1) = false := by simpa using c1
  by_cases c2 : r = 2
  · subst c2
    go_wp2_with fail
    refine (next_any _ b ca len cap (k1' + 1) _ (h2.alloc _) hmax (by omega) (by omega)).mono ?_
    rintro e w3 ⟨r3, q3, rfl, r30, r31, hw3⟩
    rw [if_neg (by omega)] at r31
    obtain ⟨s, hs, hsz⟩ : ∃ s : ByteArray, (w2.alloc (.cells #[.string ⟨#[]⟩, .string ⟨#[65]⟩, .string ⟨#[113]⟩] 9)).cell? ⟨w2.heap.size, r3.toNat, none⟩ = some (.string s) ∧ s.size ≤ 20 :=
      strs_at w2 [⟨#[]⟩, ⟨#[65]⟩, ⟨#[113]⟩] 9 20 (by decide) r3.toNat (by simp; omega)
    have h3 : SrcAt w3 b ca len cap (k1' + 1 + 1) := by rw [hw3]; exact (h2.alloc _).next q3
    have o3 : Only b (w2.alloc (.cells #[.string ⟨#[]⟩, .string ⟨#[65]⟩, .string ⟨#[113]⟩] 9)) w3 := by rw [hw3]; exact only_next _ b (k1' + 1) q3
    have hc3 : w3.cell? ⟨w2.heap.size, r3.toNat, none⟩ = some (.string s) := by
      rw [o3.cell (p := ⟨w2.heap.size, r3.toNat, none⟩) (by simp) (Nat.ne_of_gt h2.lt)]; exact hs
    have r32 : r3 < 3 := by omega
    clear hw3 hs r31
    have T3 := (T2.out.alloc _).only o3 (Ne.symm bne) (Ne.symm bn1)
    have o03 : Only b w w3 := (o02.alloc _).trans o3
    clear o3 o02 h2 T2
    obtain ⟨lb, lt, p0, p1, p2, pf, t0, t1, t2, tf⟩ := T3
    have ne1 : w.heap.size ≠ w1.heap.size := Nat.ne_of_lt hs1
    go_wp2
    refine bodyPost_ret (v := (⟨t.kind, t.num, s⟩ : Vlu).val) (by simp [results, Try.results37, go_sem, p0, p1, p2]) rfl ⟨⟨t.kind, t.num, s⟩, k1' + 1 + 1, rfl, hsz, by omega, by omega, ?_, ?_⟩
    · repeat (first | exact h3 | refine SrcAt.put ?_ _ _ _ (by assumption) (HC.out _ (by omega)))
    · repeat (first | exact o03 | refine Only.put ?_ (by omega) _)
  have d2 : (r == 2) = false := by simpa using c2
  obtain ⟨lb, lt, p0, p1, p2, pf, t0, t1, t2, tf⟩ := T2.out
  have ne1 : w.heap.size ≠ w1.heap.size := Nat.ne_of_lt hs1
  go_wp2
  refine bodyPost_ret (v := t.val) (by simp [results, Try.results37, go_sem, p0, p1, p2]) rfl ⟨t, k1' + 1, rfl, hz, by omega, by omega, ?_, ?_⟩
  · repeat (first | exact h2 | refine SrcAt.put ?_ _ _ _ (by assumption) (HC.out _ (by omega)))
  · repeat (first | exact o02 | refine Only.put ?_ (by omega) _)
end Go.Proofs.Ytgfienijabkpjaa
/-
  The model's draws of two numbers, and the laws' bound on their code: each answers, and turns nothing that was there.
-/
namespace Go.Proofs.Ytgfienijabkpjaa
open Go.RowKit Go.Extern.Stop Go.Stop Go.Extern Num

theorem big_any (w : World) (ca : Option Addr) (len cap : Nat) :
    Calls Try.prog 8 #[.slice ca len cap] w fun e w' => ∃ t : Bool, e = .returned (.bool t) ∧ w' = w := by
  go_enter Try.func8, Try.ntmps8
  go_wp2
  go_ret
  exact ⟨_, rfl, rfl⟩
end Go.Proofs.Ytgfienijabkpjaa
