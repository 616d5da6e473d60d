/-
  The model's l1Pick and l1Source, the laws' lwBig: each answers, counts on, and turns nothing that was there but the count.
-/
import Derived.Test.YtebnonpdaddniaaGreatDoorDraw1
import Derived.Test.YtebnonpdaddniaaGreatDoorSpecNum
import Derived.Test.YtebnonpdaddniaaGreatDoorRegion
namespace Go.Proofs.YtebnonpdaddniaaGreatDoor
open Go.RowKit Go.Extern.Stop Go.Stop Go.Extern Num Go.Lib

/-- Of what was there block b alone may have turned. -/
structure Only (b : Nat) (w w' : World) : Prop where
  os : w'.os = w.os
  tape : w'.tape = w.tape
  output : w'.output = w.output
  size : w.heap.size ≤ w'.heap.size
  block : ∀ k, k < w.heap.size → k ≠ b → w'.heap[k]? = w.heap[k]?
theorem Only.refl (b : Nat) (w : World) : Only b w w := ⟨rfl, rfl, rfl, Nat.le_refl _, fun _ _ _ => rfl⟩
theorem Only.trans {b : Nat} {u v w : World} (h : Only b u v) (k : Only b v w) : Only b u w :=
  ⟨k.os.trans h.os, k.tape.trans h.tape, k.output.trans h.output, Nat.le_trans h.size k.size, fun i hi hb => (k.block i (Nat.lt_of_lt_of_le hi h.size) hb).trans (h.block i hi hb)⟩
theorem Only.alloc {b : Nat} {u w : World} (h : Only b u w) (o : Obj) : Only b u (w.alloc o) :=
  h.trans ⟨rfl, rfl, rfl, by simp, fun k hk _ => Below.heap_alloc _ _ _ hk⟩
theorem Only.setCell {b o : Nat} {u w : World} (h : Only b u w) (x : Value) : Only b u (w.setCell ⟨b, o, none⟩ x) :=
  h.trans ⟨rfl, rfl, rfl, by simp [World.setCell], fun k _ hb => Below.heap_setCell _ _ _ _ hb⟩
theorem Only.drewN {b : Nat} {u w : World} (h : Only b u w) (q : Nat) : Only b u (w.drewN q) := ⟨h.os, h.tape, h.output, h.size, h.block⟩
theorem Only.below {b B : Nat} {w w' : World} (h : Only b w w') (h1 : B ≤ b) (h2 : B ≤ w.heap.size) : Below B w w' :=
  ⟨h.os, h.tape, h.output, h.size, fun k hk => h.block k (by omega) (by omega)⟩
theorem Only.cell {b : Nat} {w w' : World} (h : Only b w w') {p : Addr} (hp : p.block < w.heap.size) (hb : p.block ≠ b) : w'.cell? p = w.cell? p := World.cell?_of_block (w := w) (h.block p.block hp hb)
theorem Only.frozen {b : Nat} {w w' : World} (h : Only b w w') {p : Addr} (hp : p.block < w.heap.size) (hb : p.block ≠ b) : w'.frozen? p = w.frozen? p := World.frozen?_of_block (w := w) (h.block p.block hp hb)
theorem SrcAt.lt {w : World} {b : Nat} {ca : Option Addr} {len cap : Nat} {k : Int} (h : SrcAt w b ca len cap k) : b < w.heap.size := lt_of_cell h.c0
/-- Another block that is laid leaves the source as it is. -/
theorem SrcAt.below {w w' : World} {b : Nat} {ca : Option Addr} {len cap : Nat} {k : Int} (h : SrcAt w b ca len cap k) (hb : Below w.heap.size w w') : SrcAt w' b ca len cap k := by
  refine ⟨by rw [hb.cell h.lt]; exact h.c0, by rw [hb.cell h.lt]; exact h.c1, by rw [hb.frozen h.lt]; exact h.f1, fun hl => ?_⟩
  obtain ⟨cb, co, e, hne, hx⟩ := h.bytes hl
  refine ⟨cb, co, e, hne, fun j hj => ?_⟩
  obtain ⟨x, hx, x0, x1⟩ := hx j hj
  exact ⟨x, by rw [hb.cell (lt_of_cell hx)]; exact hx, x0, x1⟩
theorem SrcAt.alloc {w : World} {b : Nat} {ca : Option Addr} {len cap : Nat} {k : Int} (h : SrcAt w b ca len cap k) (o : Obj) : SrcAt (w.alloc o) b ca len cap k := h.below ((Below.refl _ _).alloc (Nat.le_refl _) _)
/-- The count goes on. -/
theorem SrcAt.next {w : World} {b : Nat} {ca : Option Addr} {len cap : Nat} {k : Int} (h : SrcAt w b ca len cap k) (q : Nat) : SrcAt ((w.setCell ⟨b, 1, none⟩ (.int .i64 (k + 1))).drewN q) b ca len cap (k + 1) := by
  have hc := h.c0; have h1 := h.c1; have hf := h.f1
  refine ⟨?_, ?_, ?_, fun hl => ?_⟩
  · show (w.setCell ⟨b, 1, none⟩ (.int .i64 (k + 1))).cell? ⟨b, 0, none⟩ = _
    exact (World.cell?_setCell_other (w := w) (a := ⟨b, 1, none⟩) (b := ⟨b, 0, none⟩) _ (by simp)).trans hc
  · show (w.setCell ⟨b, 1, none⟩ (.int .i64 (k + 1))).cell? ⟨b, 1, none⟩ = _
    exact World.cell?_setCell_same' w _ _ (by rw [h1]; rfl)
  · show (w.setCell ⟨b, 1, none⟩ (.int .i64 (k + 1))).frozen? ⟨b, 1, none⟩ = _
    simp [hf]
  · obtain ⟨cb, co, e, hne, hx⟩ := h.bytes hl
    refine ⟨cb, co, e, hne, fun j hj => ?_⟩
    obtain ⟨x, hx, x0, x1⟩ := hx j hj
    refine ⟨x, ?_, x0, x1⟩
    rw [show ((w.setCell ⟨b, 1, none⟩ (.int .i64 (k + 1))).drewN q).cell? ⟨cb, co + j, none⟩ = (w.setCell ⟨b, 1, none⟩ (.int .i64 (k + 1))).cell? ⟨cb, co + j, none⟩ from rfl, World.cell?_of_block (w := w) (Below.heap_setCell w ⟨b, 1, none⟩ _ cb hne)]
    exact hx
/-- What a draw of a number comes to. -/
def DrawRes (w : World) (b : Nat) (ca : Option Addr) (len cap : Nat) (k : Int) (K : Nat) (Pr : Int → Prop) (e : Ending) (w' : World) : Prop :=
  ∃ (v k' : Int), e = .returned (.int .i64 v) ∧ Pr v ∧ k ≤ k' ∧ k' ≤ k + K ∧ SrcAt w' b ca len cap k' ∧ Only b w w'
theorem pick_any (w : World) (b lb ln : Nat) (ca : Option Addr) (len cap : Nat) (k : Int) (h : SrcAt w b ca len cap k) (hmax : (len : Int) ≤ 9223372036854775807) (k0 : 0 ≤ k) (k1 : k ≤ 1000000000000)
    (hne : lb ≠ b) (l0 : 0 < ln) (l1 : (ln : Int) ≤ 1000) (Pr : Int → Prop) (hl : ∀ j, j < ln → ∃ v : Int, w.cell? ⟨lb, j, none⟩ = some (.int .i64 v) ∧ Pr v) :
    Calls Tryz.prog 43 #[.pointer (some ⟨b, 0, none⟩), .slice (some ⟨lb, 0, none⟩) ln ln] w fun e w' => DrawRes w b ca len cap k 1 Pr e w' := by
  have HN : Hid (∀ n, Calls Tryz.prog 42 #[.pointer (some ⟨b, 0, none⟩), .int .i64 n] w fun e w' => NextRes w b k n e w') := fun n => next_any w b ca len cap k n h hmax k0 k1
  have HL : Hid (∀ j, j < ln → ∃ v : Int, w.cell? ⟨lb, j, none⟩ = some (.int .i64 v) ∧ Pr v) := hl
  have HS : Hid (SrcAt w b ca len cap k) := h
  clear h hl
  go_enter Tryz.func43, Tryz.ntmps43
  go_wp2_with fail
  refine (HN.out _).mono ?_
  rintro e w1 ⟨r, q, rfl, r0, r1, rfl⟩
  rw [if_neg (by omega)] at r1
  have r2 : r < (ln : Int) := by omega
  obtain ⟨v, hv, hp⟩ := HL.out r.toNat (by omega)
  have HPv : Hid (Pr v) := hp
  clear hp
  have hv2 : (w.setCell ⟨b, 1, none⟩ (.int .i64 (k + 1))).cell? ⟨lb, r.toNat, none⟩ = some (.int .i64 v) := by
    rw [World.cell?_of_block (w := w) (Below.heap_setCell w ⟨b, 1, none⟩ _ lb hne)]; exact hv
  clear hv r1
  go_wp2
  go_ret
  exact ⟨v, k + 1, rfl, HPv.out, by omega, by omega, HS.out.next q, ((Only.refl b w).setCell _).drewN q⟩
def AnyI (_ : Int) : Prop := True
/-- A slice of bytes that came in. -/
def Bytes (w : World) (ca : Option Addr) (len : Nat) : Prop :=
  0 < len → ∃ cb co, ca = some ⟨cb, co, none⟩ ∧ ∀ j, j < len → ∃ x : Int, w.cell? ⟨cb, co + j, none⟩ = some (.int .u8 x) ∧ 0 ≤ x ∧ x ≤ 255
theorem Bytes.below {w w' : World} {ca : Option Addr} {len : Nat} (h : Bytes w ca len) (hb : Below w.heap.size w w') : Bytes w' ca len := by
  intro hl
  obtain ⟨cb, co, e, hx⟩ := h hl
  refine ⟨cb, co, e, fun j hj => ?_⟩
  obtain ⟨x, hx, x0, x1⟩ := hx j hj
  exact ⟨x, by rw [hb.cell (lt_of_cell hx)]; exact hx, x0, x1⟩
theorem source_any (w : World) (ca : Option Addr) (len cap : Nat) (h : Bytes w ca len) :
    Calls Tryz.prog 39 #[.slice ca len cap] w fun e w' => e = .returned (.pointer (some ⟨w.heap.size, 0, none⟩)) ∧ SrcAt w' w.heap.size ca len cap 0 ∧ Below w.heap.size w w' := by
  have HB : Hid (Bytes w ca len) := h
  clear h
  go_enter Tryz.func39, Tryz.ntmps39
  go_wp2
  go_ret
  have hb : Below w.heap.size w (w.alloc (.cells #[.slice ca len cap, .int .i64 0] 124)) := (Below.refl _ _).alloc (Nat.le_refl _) _
  refine ⟨rfl, ⟨by simp, by simp, by simp, fun hl => ?_⟩, hb⟩
  obtain ⟨cb, co, e, hx⟩ := (HB.out.below hb) hl
  refine ⟨cb, co, e, ?_, hx⟩
  obtain ⟨cb', co', e', hx'⟩ := HB.out hl
  obtain ⟨x, hx, _⟩ := hx' 0 hl
  have := lt_of_cell hx
  rw [e] at e'
  obtain ⟨rfl, -⟩ : cb = cb' ∧ co = co' := by simpa using e'
  exact Nat.ne_of_lt this
/-- Where the bytes of the code lie. -/
theorem SrcAt.code {w : World} {b : Nat} {ca : Option Addr} {len cap : Nat} {k : Int} (h : SrcAt w b ca len cap k) : ∀ cb co, ca = some ⟨cb, co, none⟩ → 0 < len → cb < w.heap.size := by
  intro cb co e hl
  obtain ⟨cb', co', e', _, hx⟩ := h.bytes hl
  obtain ⟨x, hx, _⟩ := hx 0 hl
  rw [e] at e'
  obtain ⟨rfl, -⟩ : cb = cb' ∧ co = co' := by simpa using e'
  exact lt_of_cell hx
/-- A world in which nothing has turned but one block g that is neither the source's nor the code's. -/
theorem SrcAt.keep {w w' : World} {b : Nat} {ca : Option Addr} {len cap : Nat} {k : Int} (h : SrcAt w b ca len cap k) (g : Nat) (hk : ∀ i, i < w.heap.size → i ≠ g → w'.heap[i]? = w.heap[i]?) (hb : b ≠ g) (hc : ∀ cb co, ca = some ⟨cb, co, none⟩ → 0 < len → cb ≠ g) : SrcAt w' b ca len cap k := by
  refine ⟨?_, ?_, ?_, fun hl => ?_⟩
  · rw [World.cell?_of_block (w := w) (hk b h.lt hb)]; exact h.c0
  · rw [World.cell?_of_block (w := w) (hk b h.lt hb)]; exact h.c1
  · rw [World.frozen?_of_block (w := w) (hk b h.lt hb)]; exact h.f1
  · obtain ⟨cb, co, e, hne, hx⟩ := h.bytes hl
    refine ⟨cb, co, e, hne, fun j hj => ?_⟩
    obtain ⟨x, hx, x0, x1⟩ := hx j hj
    exact ⟨x, by rw [World.cell?_of_block (w := w) (hk cb (lt_of_cell hx) (hc cb co e hl))]; exact hx, x0, x1⟩
theorem SrcAt.put {w : World} {b : Nat} {ca : Option Addr} {len cap : Nat} {k : Int} (h : SrcAt w b ca len cap k) (g o : Nat) (u : Value) (hb : b ≠ g) (hc : ∀ cb co, ca = some ⟨cb, co, none⟩ → 0 < len → cb ≠ g) : SrcAt (w.setCell ⟨g, o, none⟩ u) b ca len cap k :=
  h.keep g (fun _ _ hi => Below.heap_setCell _ _ _ _ hi) hb hc
theorem Only.put {b g o : Nat} {u w : World} (h : Only b u w) (hg : u.heap.size ≤ g) (x : Value) : Only b u (w.setCell ⟨g, o, none⟩ x) :=
  ⟨h.os, h.tape, h.output, by simpa using h.size, fun k hk hb => (Below.heap_setCell _ _ _ _ (by show k ≠ g; omega)).trans (h.block k hk hb)⟩
theorem only_next (w : World) (b : Nat) (k : Int) (q : Nat) : Only b w ((w.setCell ⟨b, 1, none⟩ (.int .i64 (k + 1))).drewN q) := ((Only.refl b w).setCell _).drewN q
theorem ints_at (w : World) (L : List Int) (t : TypeId) (Pr : Int → Prop) (hB : ∀ x ∈ L, Pr x) (j : Nat) (hj : j < L.length) :
    ∃ s : Int, (w.alloc (.cells (L.map (Value.int .i64)).toArray t)).cell? ⟨w.heap.size, j, none⟩ = some (.int .i64 s) ∧ Pr s := by
  refine ⟨L[j], ?_, hB _ (List.getElem_mem hj)⟩
  rw [cell_of_row _ w.heap.size j _ t (0, 0) (heap_alloc_new w _)]
  simp [hj]
theorem big_any (w : World) (ca : Option Addr) (len cap : Nat) :
    Calls Tryz.prog 8 #[.slice ca len cap] w fun e w' => ∃ t : Bool, e = .returned (.bool t) ∧ w' = w := by
  go_enter Tryz.func8, Tryz.ntmps8
  go_wp2
  go_ret
  exact ⟨_, rfl, rfl⟩
theorem Only.grown {b : Nat} {r : Option Nat} {u w w' : World} (h : Only b u w) (hg : w.grownBy w' r) (h1 : ∀ g, r = some g → u.heap.size ≤ g) : Only b u w' :=
  ⟨hg.os.trans h.os, hg.tape.trans h.tape, hg.output.trans h.output, Nat.le_trans h.size hg.size, fun k hk hn => (hg.block k (Nat.lt_of_lt_of_le hk h.size) (fun e => by have := h1 k e.symm; omega)).trans (h.block k hk hn)⟩
theorem Only.fresh {b : Nat} {u w w' : World} (h : Only b u w) (hb : Below w.heap.size w w') : Only b u w' :=
  ⟨hb.os.trans h.os, hb.tape.trans h.tape, hb.output.trans h.output, Nat.le_trans h.size hb.size, fun k hk hn => (hb.block k (Nat.lt_of_lt_of_le hk h.size)).trans (h.block k hk hn)⟩
/-- A row of one's own has grown: the source stays. -/
theorem SrcAt.grown {w w' : World} {b B : Nat} {ca : Option Addr} {len cap : Nat} {k : Int} {r : Option Nat} (h : SrcAt w b ca len cap k) (hg : w.grownBy w' r) (h1 : ∀ g, r = some g → B ≤ g) (hb : b < B) (hc : ∀ cb co, ca = some ⟨cb, co, none⟩ → 0 < len → cb < B) : SrcAt w' b ca len cap k := by
  cases r with
  | none => exact h.keep w.heap.size (fun i hi _ => hg.block i hi (by simp)) (Nat.ne_of_lt h.lt) (fun cb co e hl => Nat.ne_of_lt (h.code cb co e hl))
  | some g =>
    have := h1 g rfl
    exact h.keep g (fun i hi hn => hg.block i hi (fun e => hn (Option.some.inj e))) (by omega) (fun cb co e hl => by have := hc cb co e hl; omega)
end Go.Proofs.YtebnonpdaddniaaGreatDoor
