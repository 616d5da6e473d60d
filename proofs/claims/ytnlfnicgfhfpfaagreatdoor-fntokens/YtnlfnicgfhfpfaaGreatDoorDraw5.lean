/-
  The model's draws of chapter 2: l1Chance, l2Name, l2Draw, l2Bent: each answers, counts on, and turns nothing that was there but the count.
-/
import Derived.Test.YtnlfnicgfhfpfaaGreatDoorDraw2
import Derived.Test.YtnlfnicgfhfpfaaGreatDoorSpecTokens
import Derived.Test.YtnlfnicgfhfpfaaGreatDoorRegion
namespace Go.Proofs.YtnlfnicgfhfpfaaGreatDoor
open Go.RowKit Go.Extern.Stop Go.Stop Go.Extern Num Go.Lib

theorem strs_at (w : World) (L : List ByteArray) (t : TypeId) (B : Nat) (hB : ∀ x ∈ L, x.size ≤ B) (j : Nat) (hj : j < L.length) :
    ∃ s : ByteArray, (w.alloc (.cells (L.map Value.string).toArray t)).cell? ⟨w.heap.size, j, none⟩ = some (.string s) ∧ s.size ≤ B := by
  refine ⟨L[j], ?_, hB _ (List.getElem_mem hj)⟩
  rw [cell_of_row _ w.heap.size j _ t (0, 0) (heap_alloc_new w _)]
  simp [hj]
/-- Where the bytes of the code lie. -/
theorem SrcAt.code {w : World} {b : Nat} {ca : Option Addr} {len cap : Nat} {k : Int} (h : SrcAt w b ca len cap k) : ∀ cb co, ca = some ⟨cb, co, none⟩ → 0 < len → cb < w.heap.size := by
  intro cb co e hl
  obtain ⟨cb', co', e', _, hx⟩ := h.bytes hl
  obtain ⟨x, hx, _⟩ := hx 0 hl
  rw [e] at e'
  obtain ⟨rfl, -⟩ : cb = cb' ∧ co = co' := by simpa using e'
  exact lt_of_cell hx
/-- A world in which nothing has turned but one block g that is neither the source's nor the code's. -/
theorem SrcAt.keep {w w' : World} {b : Nat} {ca : Option Addr} {len cap : Nat} {k : Int} (h : SrcAt w b ca len cap k) (g : Nat) (hk : ∀ i, i < w.heap.size → i ≠ g → w'.heap[i]? = w.heap[i]?) (hb : b ≠ g) (hc : ∀ cb co, ca = some ⟨cb, co, none⟩ → 0 < len → cb ≠ g) : SrcAt w' b ca len cap k := by
  refine ⟨?_, ?_, ?_, fun hl => ?_⟩
  · rw [World.cell?_of_block (w := w) (hk b h.lt hb)]; exact h.c0
  · rw [World.cell?_of_block (w := w) (hk b h.lt hb)]; exact h.c1
  · rw [World.frozen?_of_block (w := w) (hk b h.lt hb)]; exact h.f1
  · obtain ⟨cb, co, e, hne, hx⟩ := h.bytes hl
    refine ⟨cb, co, e, hne, fun j hj => ?_⟩
    obtain ⟨x, hx, x0, x1⟩ := hx j hj
    exact ⟨x, by rw [World.cell?_of_block (w := w) (hk cb (lt_of_cell hx) (hc cb co e hl))]; exact hx, x0, x1⟩
theorem SrcAt.put {w : World} {b : Nat} {ca : Option Addr} {len cap : Nat} {k : Int} (h : SrcAt w b ca len cap k) (g o : Nat) (u : Value) (hb : b ≠ g) (hc : ∀ cb co, ca = some ⟨cb, co, none⟩ → 0 < len → cb ≠ g) : SrcAt (w.setCell ⟨g, o, none⟩ u) b ca len cap k :=
  h.keep g (fun _ _ hi => Below.heap_setCell _ _ _ _ hi) hb hc
theorem Only.put {b g o : Nat} {u w : World} (h : Only b u w) (hg : u.heap.size ≤ g) (x : Value) : Only b u (w.setCell ⟨g, o, none⟩ x) :=
  ⟨h.os, h.tape, h.output, by simpa using h.size, fun k hk hb => (Below.heap_setCell _ _ _ _ (by show k ≠ g; omega)).trans (h.block k hk hb)⟩
theorem only_next (w : World) (b : Nat) (k : Int) (q : Nat) : Only b w ((w.setCell ⟨b, 1, none⟩ (.int .i64 (k + 1))).drewN q) := ((Only.refl b w).setCell _).drewN q

theorem chance_any (w : World) (b : Nat) (ca : Option Addr) (len cap : Nat) (k n : Int) (h : SrcAt w b ca len cap k) (hmax : (len : Int) ≤ 9223372036854775807) (k0 : 0 ≤ k) (k1 : k ≤ 1000000000000) :
    Calls Tryz.prog 17 #[.pointer (some ⟨b, 0, none⟩), .int .i64 n] w fun e w' => ∃ t : Bool, e = .returned (.bool t) ∧ SrcAt w' b ca len cap (k + 1) ∧ Only b w w' := by
  go_enter Tryz.func17, Tryz.ntmps17
  go_wp2_with fail
  refine (next_any _ b ca len cap k n h hmax k0 k1).mono ?_
  rintro e w1 ⟨r, q, rfl, r0, r1, hw1⟩
  have h1 : SrcAt w1 b ca len cap (k + 1) := by rw [hw1]; exact h.next q
  have o1 : Only b w w1 := by rw [hw1]; exact only_next w b k q
  clear hw1 h
  go_wp2
  go_ret
  exact ⟨_, rfl, h1, o1⟩
/-- What a draw of a text comes to. -/
def StrRes (w : World) (b : Nat) (ca : Option Addr) (len cap : Nat) (k : Int) (K : Nat) (e : Ending) (w' : World) : Prop :=
  ∃ (s : ByteArray) (k' : Int), e = .returned (.string s) ∧ s.size ≤ 20 ∧ k ≤ k' ∧ k' ≤ k + K ∧ SrcAt w' b ca len cap k' ∧ Only b w w'
set_option maxRecDepth 100000 in
theorem name_any (w : World) (b : Nat) (ca : Option Addr) (len cap : Nat) (k : Int) (h : SrcAt w b ca len cap k) (hmax : (len : Int) ≤ 9223372036854775807) (k0 : 0 ≤ k) (k1 : k ≤ 1000000000000) :
    Calls Tryz.prog 37 #[.pointer (some ⟨b, 0, none⟩)] w fun e w' => StrRes w b ca len cap k 1 e w' := by
  go_enter Tryz.func37, Tryz.ntmps37
  go_wp2_with fail
  refine (next_any _ b ca len cap k _ (h.alloc _) hmax k0 k1).mono ?_
  rintro e w1 ⟨r, q, rfl, r0, r1, hw1⟩
  rw [if_neg (by omega)] at r1
  obtain ⟨s, hs, hz⟩ : ∃ s : ByteArray, (w.alloc (.cells #[.string ⟨#[120]⟩, .string ⟨#[121]⟩, .string ⟨#[102]⟩, .string ⟨#[43]⟩, .string ⟨#[99, 97, 114]⟩, .string ⟨#[105, 102]⟩, .string ⟨#[110, 117, 108, 108, 63]⟩, .string ⟨#[97]⟩] 9)).cell? ⟨w.heap.size, r.toNat, none⟩ = some (.string s) ∧ s.size ≤ 20 :=
    strs_at w [⟨#[120]⟩, ⟨#[121]⟩, ⟨#[102]⟩, ⟨#[43]⟩, ⟨#[99, 97, 114]⟩, ⟨#[105, 102]⟩, ⟨#[110, 117, 108, 108, 63]⟩, ⟨#[97]⟩] 9 20 (by decide) r.toNat (by simp; omega)
  have h1 : SrcAt w1 b ca len cap (k + 1) := by rw [hw1]; exact (h.alloc _).next q
  have o1 : Only b w w1 := by rw [hw1]; exact ((Only.refl b w).alloc _).trans (only_next _ b k q)
  have hc : w1.cell? ⟨w.heap.size, r.toNat, none⟩ = some (.string s) := by
    rw [hw1]
    exact (World.cell?_of_block (Below.heap_setCell _ ⟨b, 1, none⟩ _ w.heap.size (Nat.ne_of_gt h.lt))).trans hs
  have r2 : r < 8 := by omega
  clear hw1 hs r1 h
  go_wp2
  go_ret
  exact ⟨s, k + 1, rfl, hz, by omega, by omega, h1, o1⟩
/-- What a draw of a token comes to. -/
def TokRes (w : World) (b : Nat) (ca : Option Addr) (len cap : Nat) (k : Int) (K : Nat) (e : Ending) (w' : World) : Prop :=
  ∃ (t : Tok) (k' : Int), e = .returned t.val ∧ t.name.size ≤ 20 ∧ k ≤ k' ∧ k' ≤ k + K ∧ SrcAt w' b ca len cap k' ∧ Only b w w'
set_option maxRecDepth 100000 in
set_option maxHeartbeats 2000000 in
theorem tokDraw_any (w : World) (b : Nat) (ca : Option Addr) (len cap : Nat) (k : Int) (h : SrcAt w b ca len cap k) (hmax : (len : Int) ≤ 9223372036854775807) (k0 : 0 ≤ k) (k1 : k ≤ 999999999900) :
    Calls Tryz.prog 20 #[.pointer (some ⟨b, 0, none⟩)] w fun e w' => TokRes w b ca len cap k 4 e w' := by
  have hcode := h.code
  have hlt := h.lt
  go_enter Tryz.func20, Tryz.ntmps20
  go_wp2_with fail
  refine (next_any _ b ca len cap k _ (h.alloc _) hmax k0 (by omega)).mono ?_
  rintro e w1 ⟨r, q, rfl, r0, r1, hw1⟩
  rw [if_neg (by omega)] at r1
  have h1 : SrcAt w1 b ca len cap (k + 1) := by rw [hw1]; exact (h.alloc _).next q
  have o1 : Only b w w1 := by rw [hw1]; exact ((Only.refl b w).alloc _).trans (only_next _ b k q)
  have hs1 : w.heap.size < w1.heap.size := by rw [hw1]; simp [World.drewN]
  have hold : ∀ o, w1.cell? ⟨w.heap.size, o, none⟩ = (w.alloc (.cells #[.int .i64 0, .int .i64 0, .string ⟨#[]⟩] 37)).cell? ⟨w.heap.size, o, none⟩ := fun o => by
    rw [hw1]; exact World.cell?_of_block (Below.heap_setCell _ ⟨b, 1, none⟩ _ w.heap.size (Nat.ne_of_gt hlt))
  have hfz : ∀ o, w1.frozen? ⟨w.heap.size, o, none⟩ = (w.alloc (.cells #[.int .i64 0, .int .i64 0, .string ⟨#[]⟩] 37)).frozen? ⟨w.heap.size, o, none⟩ := fun o => by
    rw [hw1]; exact World.frozen?_of_block (Below.heap_setCell _ ⟨b, 1, none⟩ _ w.heap.size (Nat.ne_of_gt hlt))
  clear hw1
  have bne : b ≠ w.heap.size := Nat.ne_of_lt hlt
  have cne : ∀ cb co, ca = some ⟨cb, co, none⟩ → 0 < len → cb ≠ w.heap.size := fun cb co e hl => Nat.ne_of_lt (hcode cb co e hl)
  have HC : Hid (∀ cb co, ca = some ⟨cb, co, none⟩ → 0 < len → cb ≠ w.heap.size) := cne
  clear cne hcode h
  by_cases c0 : r = 0
  · subst c0
    go_wp2
    refine bodyPost_ret (v := (⟨1, 0, ⟨#[]⟩⟩ : Tok).val) (by simp [results, Tryz.results20, go_sem, hold]) rfl ⟨⟨1, 0, ⟨#[]⟩⟩, k + 1, rfl, by decide, by omega, by omega, ?_, ?_⟩
    · repeat (first | exact h1 | refine SrcAt.put ?_ _ _ _ bne HC.out)
    · repeat (first | exact o1 | refine Only.put ?_ (Nat.le_refl _) _)
  have d0 : (r == 0) = false := by simpa using c0
  by_cases c1 : r = 1
  · subst c1
    go_wp2
    refine bodyPost_ret (v := (⟨2, 0, ⟨#[]⟩⟩ : Tok).val) (by simp [results, Tryz.results20, go_sem, hold]) rfl ⟨⟨2, 0, ⟨#[]⟩⟩, k + 1, rfl, by decide, by omega, by omega, ?_, ?_⟩
    · repeat (first | exact h1 | refine SrcAt.put ?_ _ _ _ bne HC.out)
    · repeat (first | exact o1 | refine Only.put ?_ (Nat.le_refl _) _)
  have d1 : (r == 1) = false := by simpa using c1
  by_cases c2 : r = 2
  · subst c2
    go_wp2
    refine bodyPost_ret (v := (⟨3, 0, ⟨#[]⟩⟩ : Tok).val) (by simp [results, Tryz.results20, go_sem, hold]) rfl ⟨⟨3, 0, ⟨#[]⟩⟩, k + 1, rfl, by decide, by omega, by omega, ?_, ?_⟩
    · repeat (first | exact h1 | refine SrcAt.put ?_ _ _ _ bne HC.out)
    · repeat (first | exact o1 | refine Only.put ?_ (Nat.le_refl _) _)
  have d2 : (r == 2) = false := by simpa using c2
  by_cases c3 : r = 3
  · subst c3
    go_wp2_with fail
    refine (draw_any _ b ca len cap (k + 1) h1 hmax (by omega) (by omega)).mono ?_
    rintro e w2 ⟨v, k2, rfl, -, k21, k22, h2, o2⟩
    have hold2 : ∀ o, w2.cell? ⟨w.heap.size, o, none⟩ = (w.alloc (.cells #[.int .i64 0, .int .i64 0, .string ⟨#[]⟩] 37)).cell? ⟨w.heap.size, o, none⟩ := fun o => by
      rw [o2.cell (p := ⟨w.heap.size, o, none⟩) hs1 (Ne.symm bne)]; exact hold o
    have hfz2 : ∀ o, w2.frozen? ⟨w.heap.size, o, none⟩ = (w.alloc (.cells #[.int .i64 0, .int .i64 0, .string ⟨#[]⟩] 37)).frozen? ⟨w.heap.size, o, none⟩ := fun o => by
      rw [o2.frozen (p := ⟨w.heap.size, o, none⟩) hs1 (Ne.symm bne)]; exact hfz o
    have o12 : Only b w w2 := o1.trans o2
    clear o1 o2 h1 hold hfz
    go_wp2
    refine bodyPost_ret (v := (⟨4, v, ⟨#[]⟩⟩ : Tok).val) (by simp [results, Tryz.results20, go_sem, hold2]) rfl ⟨⟨4, v, ⟨#[]⟩⟩, k2, rfl, Nat.zero_le _, by omega, by omega, ?_, ?_⟩
    · repeat (first | exact h2 | refine SrcAt.put ?_ _ _ _ bne HC.out)
    · repeat (first | exact o12 | refine Only.put ?_ (Nat.le_refl _) _)
  have d3 : (r == 3) = false := by simpa using c3
  by_cases c4 : r = 4
  · subst c4
    go_wp2_with fail
    refine (next_any _ b ca len cap (k + 1) _ h1 hmax (by omega) (by omega)).mono ?_
    rintro e w2 ⟨v, q2, rfl, -, -, hw2⟩
    have h2 : SrcAt w2 b ca len cap (k + 1 + 1) := by rw [hw2]; exact h1.next q2
    have o2 : Only b w1 w2 := by rw [hw2]; exact only_next w1 b (k + 1) q2
    clear hw2
    have hold2 : ∀ o, w2.cell? ⟨w.heap.size, o, none⟩ = (w.alloc (.cells #[.int .i64 0, .int .i64 0, .string ⟨#[]⟩] 37)).cell? ⟨w.heap.size, o, none⟩ := fun o => by
      rw [o2.cell (p := ⟨w.heap.size, o, none⟩) hs1 (Ne.symm bne)]; exact hold o
    have hfz2 : ∀ o, w2.frozen? ⟨w.heap.size, o, none⟩ = (w.alloc (.cells #[.int .i64 0, .int .i64 0, .string ⟨#[]⟩] 37)).frozen? ⟨w.heap.size, o, none⟩ := fun o => by
      rw [o2.frozen (p := ⟨w.heap.size, o, none⟩) hs1 (Ne.symm bne)]; exact hfz o
    have o12 : Only b w w2 := o1.trans o2
    clear o1 o2 h1 hold hfz
    go_wp2
    refine bodyPost_ret (v := (⟨5, v, ⟨#[]⟩⟩ : Tok).val) (by simp [results, Tryz.results20, go_sem, hold2]) rfl ⟨⟨5, v, ⟨#[]⟩⟩, k + 1 + 1, rfl, Nat.zero_le _, by omega, by omega, ?_, ?_⟩
    · repeat (first | exact h2 | refine SrcAt.put ?_ _ _ _ bne HC.out)
    · repeat (first | exact o12 | refine Only.put ?_ (Nat.le_refl _) _)
  have d4 : (r == 4) = false := by simpa using c4
  go_wp2_with fail
  refine (name_any _ b ca len cap (k + 1) h1 hmax (by omega) (by omega)).mono ?_
  rintro e w2 ⟨s, k2, rfl, hz, k21, k22, h2, o2⟩
  have hold2 : ∀ o, w2.cell? ⟨w.heap.size, o, none⟩ = (w.alloc (.cells #[.int .i64 0, .int .i64 0, .string ⟨#[]⟩] 37)).cell? ⟨w.heap.size, o, none⟩ := fun o => by
    rw [o2.cell (p := ⟨w.heap.size, o, none⟩) hs1 (Ne.symm bne)]; exact hold o
  have hfz2 : ∀ o, w2.frozen? ⟨w.heap.size, o, none⟩ = (w.alloc (.cells #[.int .i64 0, .int .i64 0, .string ⟨#[]⟩] 37)).frozen? ⟨w.heap.size, o, none⟩ := fun o => by
    rw [o2.frozen (p := ⟨w.heap.size, o, none⟩) hs1 (Ne.symm bne)]; exact hfz o
  have o12 : Only b w w2 := o1.trans o2
  clear o1 o2 h1 hold hfz
  go_wp2
  refine bodyPost_ret (v := (⟨6, 0, s⟩ : Tok).val) (by simp [results, Tryz.results20, go_sem, hold2]) rfl ⟨⟨6, 0, s⟩, k2, rfl, hz, by omega, by omega, ?_, ?_⟩
  · repeat (first | exact h2 | refine SrcAt.put ?_ _ _ _ bne HC.out)
  · repeat (first | exact o12 | refine Only.put ?_ (Nat.le_refl _) _)
theorem cells3 (w : World) (x0 x1 x2 : Int) (t : TypeId) : ∀ j, j < 3 → ∃ v : Int, (w.alloc (.cells #[.int .i64 x0, .int .i64 x1, .int .i64 x2] t)).cell? ⟨w.heap.size, j, none⟩ = some (.int .i64 v) ∧ AnyI v := by
  intro j hj
  rcases j with _ | _ | _ | j
  · exact ⟨x0, by simp, trivial⟩
  · exact ⟨x1, by simp, trivial⟩
  · exact ⟨x2, by simp, trivial⟩
  · omega
theorem cells4 (w : World) (x0 x1 x2 x3 : Int) (t : TypeId) : ∀ j, j < 4 → ∃ v : Int, (w.alloc (.cells #[.int .i64 x0, .int .i64 x1, .int .i64 x2, .int .i64 x3] t)).cell? ⟨w.heap.size, j, none⟩ = some (.int .i64 v) ∧ AnyI v := by
  intro j hj
  rcases j with _ | _ | _ | _ | j
  · exact ⟨x0, by simp, trivial⟩
  · exact ⟨x1, by simp, trivial⟩
  · exact ⟨x2, by simp, trivial⟩
  · exact ⟨x3, by simp, trivial⟩
  · omega
/-- Two blocks of one's own: the answer's, as it was laid, and a token's. -/
structure Two (w : World) (B T : Nat) (t : Tok) : Prop where
  lb : B < w.heap.size
  lt : T < w.heap.size
  p0 : w.cell? ⟨B, 0, none⟩ = some (.int .i64 0)
  p1 : w.cell? ⟨B, 1, none⟩ = some (.int .i64 0)
  p2 : w.cell? ⟨B, 2, none⟩ = some (.string ⟨#[]⟩)
  pf : ∀ o, w.frozen? ⟨B, o, none⟩ = false
  t0 : w.cell? ⟨T, 0, none⟩ = some (.int .i64 t.kind)
  t1 : w.cell? ⟨T, 1, none⟩ = some (.int .i64 t.num)
  t2 : w.cell? ⟨T, 2, none⟩ = some (.string t.name)
  tf : ∀ o, w.frozen? ⟨T, o, none⟩ = false
theorem Two.only {w w' : World} {B T b : Nat} {t : Tok} (h : Two w B T t) (o : Only b w w') (hB : B ≠ b) (hT : T ≠ b) : Two w' B T t := by
  have cB : ∀ j, w'.cell? ⟨B, j, none⟩ = w.cell? ⟨B, j, none⟩ := fun j => o.cell (p := ⟨B, j, none⟩) h.lb hB
  have cT : ∀ j, w'.cell? ⟨T, j, none⟩ = w.cell? ⟨T, j, none⟩ := fun j => o.cell (p := ⟨T, j, none⟩) h.lt hT
  have fB : ∀ j, w'.frozen? ⟨B, j, none⟩ = w.frozen? ⟨B, j, none⟩ := fun j => o.frozen (p := ⟨B, j, none⟩) h.lb hB
  have fT : ∀ j, w'.frozen? ⟨T, j, none⟩ = w.frozen? ⟨T, j, none⟩ := fun j => o.frozen (p := ⟨T, j, none⟩) h.lt hT
  exact ⟨Nat.lt_of_lt_of_le h.lb o.size, Nat.lt_of_lt_of_le h.lt o.size, (cB 0).trans h.p0, (cB 1).trans h.p1, (cB 2).trans h.p2, fun j => (fB j).trans (h.pf j), (cT 0).trans h.t0, (cT 1).trans h.t1, (cT 2).trans h.t2, fun j => (fT j).trans (h.tf j)⟩
theorem Two.alloc {w : World} {B T : Nat} {t : Tok} (h : Two w B T t) (o : Obj) : Two (w.alloc o) B T t :=
  h.only (b := w.heap.size) ((Only.refl _ w).alloc o) (Nat.ne_of_lt h.lb) (Nat.ne_of_lt h.lt)
set_option maxRecDepth 100000 in
set_option maxHeartbeats 2000000 in
theorem tokBent_any (w : World) (b : Nat) (ca : Option Addr) (len cap : Nat) (k : Int) (h : SrcAt w b ca len cap k) (hmax : (len : Int) ≤ 9223372036854775807) (k0 : 0 ≤ k) (k1 : k ≤ 999999999800) :
    Calls Tryz.prog 21 #[.pointer (some ⟨b, 0, none⟩)] w fun e w' => TokRes w b ca len cap k 6 e w' := by
  have hcode := h.code
  have hlt := h.lt
  go_enter Tryz.func21, Tryz.ntmps21
  go_wp2_with fail
  refine (tokDraw_any _ b ca len cap k (h.alloc _) hmax k0 (by omega)).mono ?_
  rintro e w1 ⟨t, k1', rfl, hz, k11, k12, h1, o1⟩
  have bne : b ≠ w.heap.size := Nat.ne_of_lt hlt
  have hs1 : w.heap.size < w1.heap.size := by have := o1.size; simp at this; omega
  have TW : Hid (Two (w1.alloc (.cells #[.int .i64 t.kind, .int .i64 t.num, .string t.name] 37)) w.heap.size w1.heap.size t) := by
    have cB : ∀ j, w1.cell? ⟨w.heap.size, j, none⟩ = (w.alloc (.cells #[.int .i64 0, .int .i64 0, .string ⟨#[]⟩] 37)).cell? ⟨w.heap.size, j, none⟩ := fun j => o1.cell (p := ⟨w.heap.size, j, none⟩) (by simp) (Ne.symm bne)
    have fB : ∀ j, w1.frozen? ⟨w.heap.size, j, none⟩ = (w.alloc (.cells #[.int .i64 0, .int .i64 0, .string ⟨#[]⟩] 37)).frozen? ⟨w.heap.size, j, none⟩ := fun j => o1.frozen (p := ⟨w.heap.size, j, none⟩) (by simp) (Ne.symm bne)
    refine ⟨by simp; omega, by simp, ?_, ?_, ?_, fun j => ?_, by simp, by simp, by simp, fun j => by simp⟩
    · exact cell_laid _ ((cB 0).trans (by simp))
    · exact cell_laid _ ((cB 1).trans (by simp))
    · exact cell_laid _ ((cB 2).trans (by simp))
    · rw [((Only.refl w1.heap.size w1).alloc _).frozen (p := ⟨w.heap.size, j, none⟩) hs1 (Nat.ne_of_lt hs1), fB j]; simp
  have o01 : Only b w w1 := ((Only.refl b w).alloc _).trans o1
  have HC : Hid (∀ B, w.heap.size ≤ B → ∀ cb co, ca = some ⟨cb, co, none⟩ → 0 < len → cb ≠ B) := fun B hB cb co e hl => by have := hcode cb co e hl; omega
  clear hcode h o1
  have hb1 : b < w1.heap.size := h1.lt
  have bn1 : b ≠ w1.heap.size := Nat.ne_of_lt hb1
  go_wp2_with fail
  refine (next_any _ b ca len cap k1' _ (h1.alloc _) hmax (by omega) (by omega)).mono ?_
  rintro e w2 ⟨r, q, rfl, r0, r1, hw2⟩
  rw [if_neg (by omega)] at r1
  have h2 : SrcAt w2 b ca len cap (k1' + 1) := by rw [hw2]; exact (h1.alloc _).next q
  have o2 : Only b (w1.alloc (.cells #[.int .i64 t.kind, .int .i64 t.num, .string t.name] 37)) w2 := by rw [hw2]; exact only_next _ b k1' q
  clear hw2
  have T2 : Hid (Two w2 w.heap.size w1.heap.size t) := TW.out.only o2 (Ne.symm bne) (Ne.symm bn1)
  have o02 : Only b w w2 := (o01.alloc _).trans o2
  clear o2 o01 h1 TW
  by_cases c0 : r = 0
  · subst c0
    go_wp2_with fail
    refine (pick_any _ b w2.heap.size 4 ca len cap (k1' + 1) (h2.alloc _) hmax (by omega) (by omega) (Nat.ne_of_gt h2.lt) (by omega) (by omega) AnyI (cells4 w2 _ _ _ _ _)).mono ?_
    rintro e w3 ⟨v, k3, rfl, -, k31, k32, h3, o3⟩
    have T3 := (T2.out.alloc _).only o3 (Ne.symm bne) (Ne.symm bn1)
    have o03 : Only b w w3 := (o02.alloc _).trans o3
    clear o3 o02 h2 T2
    obtain ⟨lb, lt, p0, p1, p2, pf, t0, t1, t2, tf⟩ := T3
    have ne1 : w.heap.size ≠ w1.heap.size := Nat.ne_of_lt hs1
    go_wp2
    refine bodyPost_ret (v := (⟨v, t.num, t.name⟩ : Tok).val) (by simp [results, Tryz.results21, go_sem, p0, p1, p2]) rfl ⟨⟨v, t.num, t.name⟩, k3, rfl, hz, by omega, by omega, ?_, ?_⟩
    · repeat (first | exact h3 | refine SrcAt.put ?_ _ _ _ (by assumption) (HC.out _ (by omega)))
    · repeat (first | exact o03 | refine Only.put ?_ (by omega) _)
  have d0 : (r == 0) = false := by simpa using c0
  by_cases c1 : r = 1
  · subst c1
    go_wp2_with fail
    refine (pick_any _ b w2.heap.size 3 ca len cap (k1' + 1) (h2.alloc _) hmax (by omega) (by omega) (Nat.ne_of_gt h2.lt) (by omega) (by omega) AnyI (cells3 w2 _ _ _ _)).mono ?_
    rintro e w3 ⟨v, k3, rfl, -, k31, k32, h3, o3⟩
    have T3 := (T2.out.alloc _).only o3 (Ne.symm bne) (Ne.symm bn1)
    have o03 : Only b w w3 := (o02.alloc _).trans o3
    clear o3 o02 h2 T2
    obtain ⟨lb, lt, p0, p1, p2, pf, t0, t1, t2, tf⟩ := T3
    have ne1 : w.heap.size ≠ w1.heap.size := Nat.ne_of_lt hs1
    go_wp2
    refine bodyPost_ret (v := (⟨t.kind, v, t.name⟩ : Tok).val) (by simp [results, Tryz.results21, go_sem, p0, p1, p2]) rfl ⟨⟨t.kind, v, t.name⟩, k3, rfl, hz, by omega, by omega, ?_, ?_⟩
    · repeat (first | exact h3 | refine SrcAt.put ?_ _ _ _ (by assumption) (HC.out _ (by omega)))
    · repeat (first | exact o03 | refine Only.put ?_ (by omega) _)
  have d1 : (r == 1) = false := by simpa using c1
  by_cases c2 : r = 2
  · subst c2
    go_wp2_with fail
    refine (next_any _ b ca len cap (k1' + 1) _ (h2.alloc _) hmax (by omega) (by omega)).mono ?_
    rintro e w3 ⟨r3, q3, rfl, r30, r31, hw3⟩
    rw [if_neg (by omega)] at r31
    obtain ⟨s, hs, hsz⟩ : ∃ s : ByteArray, (w2.alloc (.cells #[.string ⟨#[]⟩, .string ⟨#[65]⟩, .string ⟨#[120]⟩] 9)).cell? ⟨w2.heap.size, r3.toNat, none⟩ = some (.string s) ∧ s.size ≤ 20 :=
      strs_at w2 [⟨#[]⟩, ⟨#[65]⟩, ⟨#[120]⟩] 9 20 (by decide) r3.toNat (by simp; omega)
    have h3 : SrcAt w3 b ca len cap (k1' + 1 + 1) := by rw [hw3]; exact (h2.alloc _).next q3
    have o3 : Only b (w2.alloc (.cells #[.string ⟨#[]⟩, .string ⟨#[65]⟩, .string ⟨#[120]⟩] 9)) w3 := by rw [hw3]; exact only_next _ b (k1' + 1) q3
    have hc3 : w3.cell? ⟨w2.heap.size, r3.toNat, none⟩ = some (.string s) := by
      rw [o3.cell (p := ⟨w2.heap.size, r3.toNat, none⟩) (by simp) (Nat.ne_of_gt h2.lt)]; exact hs
    have r32 : r3 < 3 := by omega
    clear hw3 hs r31
    have T3 := (T2.out.alloc _).only o3 (Ne.symm bne) (Ne.symm bn1)
    have o03 : Only b w w3 := (o02.alloc _).trans o3
    clear o3 o02 h2 T2
    obtain ⟨lb, lt, p0, p1, p2, pf, t0, t1, t2, tf⟩ := T3
    have ne1 : w.heap.size ≠ w1.heap.size := Nat.ne_of_lt hs1
    go_wp2
    refine bodyPost_ret (v := (⟨t.kind, t.num, s⟩ : Tok).val) (by simp [results, Tryz.results21, go_sem, p0, p1, p2]) rfl ⟨⟨t.kind, t.num, s⟩, k1' + 1 + 1, rfl, hsz, by omega, by omega, ?_, ?_⟩
    · repeat (first | exact h3 | refine SrcAt.put ?_ _ _ _ (by assumption) (HC.out _ (by omega)))
    · repeat (first | exact o03 | refine Only.put ?_ (by omega) _)
  have d2 : (r == 2) = false := by simpa using c2
  obtain ⟨lb, lt, p0, p1, p2, pf, t0, t1, t2, tf⟩ := T2.out
  have ne1 : w.heap.size ≠ w1.heap.size := Nat.ne_of_lt hs1
  go_wp2
  refine bodyPost_ret (v := t.val) (by simp [results, Tryz.results21, go_sem, p0, p1, p2]) rfl ⟨t, k1' + 1, rfl, hz, by omega, by omega, ?_, ?_⟩
  · repeat (first | exact h2 | refine SrcAt.put ?_ _ _ _ (by assumption) (HC.out _ (by omega)))
  · repeat (first | exact o02 | refine Only.put ?_ (by omega) _)
end Go.Proofs.YtnlfnicgfhfpfaaGreatDoor
