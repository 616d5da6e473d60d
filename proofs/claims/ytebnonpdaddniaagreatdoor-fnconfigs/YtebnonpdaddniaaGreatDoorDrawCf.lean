/-
  The model's draws of settings: a drawn one, a bent one, and what is made of them; nothing that was there is turned.
-/
import Derived.Test.YtebnonpdaddniaaGreatDoorDrawBase
import Derived.Test.YtebnonpdaddniaaGreatDoorConfT
import Derived.Laws.IdiomStrings
import Derived.Laws.BytesArg
namespace Go.Proofs.YtebnonpdaddniaaGreatDoor
open Go.RowKit Go.Extern.Stop Go.Stop Go.Extern Num Go.Lib

theorem chanceC_any (w : World) (b : Nat) (ca : Option Addr) (len cap : Nat) (k n : Int) (h : SrcAt w b ca len cap k) (hmax : (len : Int) ≤ 9223372036854775807) (k0 : 0 ≤ k) (k1 : k ≤ 1000000000000) :
    Calls Tryz.prog 78 #[.pointer (some ⟨b, 0, none⟩), .int .i64 n] w fun e w' => ∃ t : Bool, e = .returned (.bool t) ∧ SrcAt w' b ca len cap (k + 1) ∧ Only b w w' := by
  go_enter Tryz.func78, Tryz.ntmps78
  go_wp2_with fail
  refine (next_any _ b ca len cap k n h hmax k0 k1).mono ?_
  rintro e w1 ⟨r, q, rfl, r0, r1, hw1⟩
  have h1 : SrcAt w1 b ca len cap (k + 1) := by rw [hw1]; exact h.next q
  have o1 : Only b w w1 := by rw [hw1]; exact only_next _ _ k q
  clear hw1
  go_wp2
  go_ret
  exact ⟨_, rfl, h1, o1⟩
/-- What a drawn setting comes to. -/
def CfD (ok : Bool) (w : World) (b : Nat) (ca : Option Addr) (len cap : Nat) (k : Int) (K : Nat) (e : Ending) (w' : World) : Prop :=
  ∃ (s t : Int) (p c : Bool) (k' : Int), e = .returned (cfV s t p c) ∧ (ok = true → okS s t = true) ∧ k ≤ k' ∧ k' ≤ k + K ∧ SrcAt w' b ca len cap k' ∧ Only b w w'
/-- The box of an answer that isn't there yet. -/
abbrev bxC (T : TypeId) : Obj := .cells #[.int .i64 0, .int .i64 0, .bool false, .bool false] T
/-- A box of four cells. -/
structure BxC (w : World) (r : Nat) (v0 v1 v2 v3 : Value) : Prop where
  c0 : w.cell? ⟨r, 0, none⟩ = some v0
  c1 : w.cell? ⟨r, 1, none⟩ = some v1
  c2 : w.cell? ⟨r, 2, none⟩ = some v2
  c3 : w.cell? ⟨r, 3, none⟩ = some v3
  fz : ∀ j, w.frozen? ⟨r, j, none⟩ = false
theorem BxC.new (w : World) (v0 v1 v2 v3 : Value) (T : TypeId) : BxC (w.alloc (.cells #[v0, v1, v2, v3] T)) w.heap.size v0 v1 v2 v3 :=
  ⟨by rw [World.cell?_alloc_at _ _ _ _ rfl]; rfl, by rw [World.cell?_alloc_at _ _ _ _ rfl]; rfl, by rw [World.cell?_alloc_at _ _ _ _ rfl]; rfl, by rw [World.cell?_alloc_at _ _ _ _ rfl]; rfl, fun j => by simp [go_sem]⟩
theorem BxC.only {w w' : World} {r b : Nat} {v0 v1 v2 v3 : Value} (h : BxC w r v0 v1 v2 v3) (o : Only b w w') (hr : r ≠ b) : BxC w' r v0 v1 v2 v3 :=
  ⟨(o.cell (lt_of_cell h.c0) hr).trans h.c0, (o.cell (p := ⟨r, 1, none⟩) (show r < w.heap.size from lt_of_cell h.c0) hr).trans h.c1, (o.cell (p := ⟨r, 2, none⟩) (show r < w.heap.size from lt_of_cell h.c0) hr).trans h.c2, (o.cell (p := ⟨r, 3, none⟩) (show r < w.heap.size from lt_of_cell h.c0) hr).trans h.c3, fun j => (o.frozen (p := ⟨r, j, none⟩) (show r < w.heap.size from lt_of_cell h.c0) hr).trans (h.fz j)⟩
theorem BxC.below {w w' : World} {r : Nat} {v0 v1 v2 v3 : Value} (h : BxC w r v0 v1 v2 v3) (hb : Below w.heap.size w w') : BxC w' r v0 v1 v2 v3 :=
  ⟨cell_keep hb h.c0, cell_keep hb h.c1, cell_keep hb h.c2, cell_keep hb h.c3, fun j => by rw [(bcell hb).2 _ _ (lt_of_cell h.c0)]; exact h.fz j⟩
theorem ints5 (w : World) (Pr : Int → Prop) (T : TypeId) (a0 a1 a2 a3 a4 : Int) (h : Pr a0 ∧ Pr a1 ∧ Pr a2 ∧ Pr a3 ∧ Pr a4) : ∀ j, j < 5 → ∃ v : Int, (w.alloc (.cells #[.int .i64 a0, .int .i64 a1, .int .i64 a2, .int .i64 a3, .int .i64 a4] T)).cell? ⟨w.heap.size, j, none⟩ = some (.int .i64 v) ∧ Pr v := fun j hj => by
  rcases j with _ | _ | _ | _ | _ | j
  · exact ⟨a0, by simp, h.1⟩
  · exact ⟨a1, by simp, h.2.1⟩
  · exact ⟨a2, by simp, h.2.2.1⟩
  · exact ⟨a3, by simp, h.2.2.2.1⟩
  · exact ⟨a4, by simp, h.2.2.2.2⟩
  · omega
theorem ints3 (w : World) (Pr : Int → Prop) (T : TypeId) (a0 a1 a2 : Int) (h : Pr a0 ∧ Pr a1 ∧ Pr a2) : ∀ j, j < 3 → ∃ v : Int, (w.alloc (.cells #[.int .i64 a0, .int .i64 a1, .int .i64 a2] T)).cell? ⟨w.heap.size, j, none⟩ = some (.int .i64 v) ∧ Pr v := fun j hj => by
  rcases j with _ | _ | _ | j
  · exact ⟨a0, by simp, h.1⟩
  · exact ⟨a1, by simp, h.2.1⟩
  · exact ⟨a2, by simp, h.2.2⟩
  · omega
theorem ints2 (w : World) (Pr : Int → Prop) (T : TypeId) (a0 a1 : Int) (h : Pr a0 ∧ Pr a1) : ∀ j, j < 2 → ∃ v : Int, (w.alloc (.cells #[.int .i64 a0, .int .i64 a1] T)).cell? ⟨w.heap.size, j, none⟩ = some (.int .i64 v) ∧ Pr v := fun j hj => by
  rcases j with _ | _ | j
  · exact ⟨a0, by simp, h.1⟩
  · exact ⟨a1, by simp, h.2⟩
  · omega
set_option maxRecDepth 100000 in
set_option maxHeartbeats 2000000 in
theorem l13Draw_any (w : World) (b : Nat) (ca : Option Addr) (len cap : Nat) (k : Int) (h : SrcAt w b ca len cap k) (hmax : (len : Int) ≤ 9223372036854775807) (k0 : 0 ≤ k) (k1 : k ≤ 900000000000) :
    Calls Tryz.prog 40 #[.pointer (some ⟨b, 0, none⟩)] w fun e w' => CfD true w b ca len cap k 4 e w' := by
  have HS : Hid (SrcAt w b ca len cap k) := h
  have hlt := h.lt
  clear h
  go_enter Tryz.func40, Tryz.ntmps40
  go_wp2_with fail
  refine (pick_any _ b (w.heap.size + 1) 5 ca len cap k ((HS.out.alloc _).alloc _) hmax k0 (by omega) (by omega) (by omega) (by omega) (fun x => 1 ≤ x ∧ x ≤ 64) (by
    have := ints5 (w.alloc (bxC 26)) (fun x => 1 ≤ x ∧ x ≤ 64) 2 1 2 3 7 64 (by omega)
    simpa using this)).mono ?_
  rintro e w1 ⟨s, k2, rfl, hs, k21, k22, h1, o1⟩
  have HS1 : Hid (SrcAt w1 b ca len cap k2) := h1
  have HO1 : Hid (Only b w w1) := (((Only.refl b w).alloc _).alloc _).trans o1
  have HX1 : Hid (BxC w1 w.heap.size (.int .i64 0) (.int .i64 0) (.bool false) (.bool false)) := ((BxC.new w _ _ _ _ 26).below ((Below.refl _ _).alloc (Nat.le_refl _) _)).only o1 (by omega)
  clear h1 o1
  go_wp2_with fail
  refine (next_any _ b ca len cap k2 _ HS1.out hmax (by omega) (by omega)).mono ?_
  rintro e w2 ⟨t, q, rfl, t0, t1, hw2⟩
  rw [if_neg (by omega)] at t1
  have HS2 : Hid (SrcAt w2 b ca len cap (k2 + 1)) := by show SrcAt _ _ _ _ _ _; rw [hw2]; exact HS1.out.next q
  have o2 : Only b w1 w2 := by rw [hw2]; exact only_next _ _ k2 q
  have HO2 : Hid (Only b w w2) := HO1.out.trans o2
  have HX2 : Hid (BxC w2 w.heap.size (.int .i64 0) (.int .i64 0) (.bool false) (.bool false)) := HX1.out.only o2 (by omega)
  clear hw2 o2
  go_wp2_with fail
  refine (chanceC_any _ b ca len cap (k2 + 1) _ HS2.out hmax (by omega) (by omega)).mono ?_
  rintro e w3 ⟨p, rfl, h3, o3⟩
  have HS3 : Hid (SrcAt w3 b ca len cap (k2 + 1 + 1)) := h3
  have HO3 : Hid (Only b w w3) := HO2.out.trans o3
  have HX3 : Hid (BxC w3 w.heap.size (.int .i64 0) (.int .i64 0) (.bool false) (.bool false)) := HX2.out.only o3 (by omega)
  clear h3 o3
  go_wp2_with fail
  refine (chanceC_any _ b ca len cap (k2 + 1 + 1) _ HS3.out hmax (by omega) (by omega)).mono ?_
  rintro e w4 ⟨c, rfl, h4, o4⟩
  have HS4 : Hid (SrcAt w4 b ca len cap (k2 + 1 + 1 + 1)) := h4
  have HO4 : Hid (Only b w w4) := HO3.out.trans o4
  obtain ⟨x0, x1, x2, x3, xf⟩ := HX3.out.only o4 (by omega)
  have hz4 : w.heap.size < w4.heap.size := lt_of_cell x0
  clear h4 o4
  go_wp2
  refine bodyPost_ret (v := cfV s t p c) (by simp [results, Tryz.results40, go_sem, x0, x1, x2, x3]) rfl ⟨s, t, p, c, k2 + 1 + 1 + 1, rfl, fun _ => okS_iff.2 ⟨hs.1, hs.2, t0, by omega⟩, by omega, by omega, ?_, ?_⟩
  · exact (((HS4.out.put _ _ _ (by omega) (fun cb co hca hl => by have := HS.out.code cb co hca hl; omega)).put _ _ _ (by omega) (fun cb co hca hl => by have := HS.out.code cb co hca hl; omega)).put _ _ _ (by omega) (fun cb co hca hl => by have := HS.out.code cb co hca hl; omega)).put _ _ _ (by omega) (fun cb co hca hl => by have := HS.out.code cb co hca hl; omega)
  · exact (((HO4.out.put (Nat.le_refl _) _).put (Nat.le_refl _) _).put (Nat.le_refl _) _).put (Nat.le_refl _) _
theorem SrcAt.putN {w : World} {b : Nat} {ca : Option Addr} {len cap : Nat} {k : Int} (h : SrcAt w b ca len cap k) {w0 : World} (h0 : SrcAt w0 b ca len cap k) (g o : Nat) (u : Value) (hg : w0.heap.size ≤ g) : SrcAt (w.setCell ⟨g, o, none⟩ u) b ca len cap k :=
  h.put _ _ _ (by have := h0.lt; omega) (fun cb co hca hl => by have := h0.code cb co hca hl; omega)
set_option maxRecDepth 100000 in
set_option maxHeartbeats 4000000 in
theorem l13Bent_any (w : World) (b : Nat) (ca : Option Addr) (len cap : Nat) (k : Int) (h : SrcAt w b ca len cap k) (hmax : (len : Int) ≤ 9223372036854775807) (k0 : 0 ≤ k) (k1 : k ≤ 800000000000) :
    Calls Tryz.prog 52 #[.pointer (some ⟨b, 0, none⟩)] w fun e w' => ∃ s t p c, e = .returned (cfV s t p c) ∧ Only b w w' := by
  have HS : Hid (SrcAt w b ca len cap k) := h
  have hlt := h.lt
  clear h
  go_enter Tryz.func52, Tryz.ntmps52
  go_wp2_with fail
  refine (l13Draw_any _ b ca len cap k (HS.out.alloc _) hmax k0 (by omega)).mono ?_
  rintro e w1 ⟨s, t, p, c, k2, rfl, -, k21, k22, h1, o1⟩
  have HO1 : Hid (Only b w w1) := ((Only.refl b w).alloc _).trans o1
  have HX1 : Hid (BxC w1 w.heap.size (.int .i64 0) (.int .i64 0) (.bool false) (.bool false)) := (BxC.new w _ _ _ _ 26).only o1 (by omega)
  have HS1 : Hid (SrcAt w1 b ca len cap k2) := h1
  have hz1 : w.heap.size < w1.heap.size := lt_of_cell HX1.out.c0
  clear h1 o1
  go_wp2_with fail
  refine (next_any _ b ca len cap k2 _ (HS1.out.alloc _) hmax (by omega) (by omega)).mono ?_
  rintro e w2 ⟨r, q, rfl, r0, r1, hw2⟩
  rw [if_neg (by omega)] at r1
  have HS2 : Hid (SrcAt w2 b ca len cap (k2 + 1)) := by show SrcAt _ _ _ _ _ _; rw [hw2]; exact (HS1.out.alloc _).next q
  have o2 : Only b (w1.alloc (.cells #[.int .i64 s, .int .i64 t, .bool p, .bool c] 26)) w2 := by rw [hw2]; exact only_next _ _ k2 q
  have HO2 : Hid (Only b w w2) := (HO1.out.alloc _).trans o2
  have HX2 : Hid (BxC w2 w.heap.size (.int .i64 0) (.int .i64 0) (.bool false) (.bool false)) := (HX1.out.below ((Below.refl _ _).alloc (Nat.le_refl _) _)).only o2 (by omega)
  have HC2 : Hid (BxC w2 w1.heap.size (.int .i64 s) (.int .i64 t) (.bool p) (.bool c)) := (BxC.new w1 _ _ _ _ 26).only o2 (by omega)
  have hz2 : w1.heap.size < w2.heap.size := lt_of_cell HC2.out.c0
  have hb1 : b < w1.heap.size := HS1.out.lt
  clear hw2 o2
  by_cases c0 : r = 0
  · subst c0
    go_wp2_with fail
    refine (pick_any _ b w2.heap.size 2 ca len cap (k2 + 1) (HS2.out.alloc _) hmax (by omega) (by omega) (by omega) (by omega) (by omega) AnyI (ints2 w2 AnyI 2 0 65 ⟨trivial, trivial⟩)).mono ?_
    rintro e w3 ⟨s', k3, rfl, -, k31, k32, h3, o3⟩
    have HO3 : Hid (Only b w w3) := (HO2.out.alloc _).trans o3
    obtain ⟨x0, x1, x2, x3, xf⟩ := (HX2.out.below ((Below.refl _ _).alloc (Nat.le_refl _) _)).only o3 (by omega)
    obtain ⟨y0, y1, y2, y3, yf⟩ := (HC2.out.below ((Below.refl _ _).alloc (Nat.le_refl _) _)).only o3 (by omega)
    have hz3 : w1.heap.size < w3.heap.size := lt_of_cell y0
    have hne : w.heap.size ≠ w1.heap.size := by omega
    have hne' : w1.heap.size ≠ w.heap.size := by omega
    clear h3 o3
    go_wp2
    refine bodyPost_ret (v := cfV s' t p c) (by simp [results, Tryz.results52, go_sem, x0, x1, x2, x3]) rfl ⟨s', t, p, c, rfl, ?_⟩
    exact ((((HO3.out.put (by omega) _).put (Nat.le_refl _) _).put (Nat.le_refl _) _).put (Nat.le_refl _) _).put (Nat.le_refl _) _
  · have d0 : (r == 0) = false := by simp [c0]
    by_cases c1 : r = 1
    · subst c1
      go_wp2_with fail
      refine (pick_any _ b w2.heap.size 2 ca len cap (k2 + 1) (HS2.out.alloc _) hmax (by omega) (by omega) (by omega) (by omega) (by omega) AnyI (ints2 w2 AnyI 2 (-1) 16 ⟨trivial, trivial⟩)).mono ?_
      rintro e w3 ⟨t', k3, rfl, -, k31, k32, h3, o3⟩
      have HO3 : Hid (Only b w w3) := (HO2.out.alloc _).trans o3
      obtain ⟨x0, x1, x2, x3, xf⟩ := (HX2.out.below ((Below.refl _ _).alloc (Nat.le_refl _) _)).only o3 (by omega)
      obtain ⟨y0, y1, y2, y3, yf⟩ := (HC2.out.below ((Below.refl _ _).alloc (Nat.le_refl _) _)).only o3 (by omega)
      have hz3 : w1.heap.size < w3.heap.size := lt_of_cell y0
      have hne : w.heap.size ≠ w1.heap.size := by omega
      have hne' : w1.heap.size ≠ w.heap.size := by omega
      clear h3 o3
      go_wp2
      refine bodyPost_ret (v := cfV s t' p c) (by simp [results, Tryz.results52, go_sem, x0, x1, x2, x3]) rfl ⟨s, t', p, c, rfl, ?_⟩
      exact ((((HO3.out.put (by omega) _).put (Nat.le_refl _) _).put (Nat.le_refl _) _).put (Nat.le_refl _) _).put (Nat.le_refl _) _
    · have d1 : (r == 1) = false := by simp [c1]
      obtain ⟨x0, x1, x2, x3, xf⟩ := HX2.out
      obtain ⟨y0, y1, y2, y3, yf⟩ := HC2.out
      have hne : w.heap.size ≠ w1.heap.size := by omega
      go_wp2
      refine bodyPost_ret (v := cfV s t p c) (by simp [results, Tryz.results52, go_sem, x0, x1, x2, x3]) rfl ⟨s, t, p, c, rfl, ?_⟩
      exact (((HO2.out.put (Nat.le_refl _) _).put (Nat.le_refl _) _).put (Nat.le_refl _) _).put (Nat.le_refl _) _
set_option maxRecDepth 100000 in
set_option maxHeartbeats 1000000 in
theorem drawCfT_any (w : World) (ca : Option Addr) (len cap : Nat) (h : Bytes w ca len) (hmax : (len : Int) ≤ 9223372036854775807) :
    Calls Tryz.prog 13 #[.slice ca len cap] w fun e w' => ∃ s t p c, e = .returned (cfV s t p c) ∧ Below w.heap.size w w' := by
  have HBy : Hid (Bytes w ca len) := h
  clear h
  go_enter Tryz.func13, Tryz.ntmps13
  go_wp2_with fail
  refine (source_any _ ca len cap (HBy.out.below ((Below.refl _ _).alloc (Nat.le_refl _) _))).mono ?_
  rintro e w1 ⟨rfl, h1, b1⟩
  simp only [World.size_alloc] at h1 b1 ⊢
  have HS1 : Hid (SrcAt w1 (w.heap.size + 1) ca len cap 0) := h1
  have HX1 : Hid (BxC w1 w.heap.size (.int .i64 0) (.int .i64 0) (.bool false) (.bool false)) := (BxC.new w _ _ _ _ 26).below (by rw [World.size_alloc]; exact b1)
  have B1 : Hid (Below w.heap.size w w1) := ((Below.refl _ _).alloc (Nat.le_refl _) _).trans (b1.mono (by omega))
  have hlt := h1.lt
  clear h1 b1
  go_wp2_with fail
  refine (l13Bent_any _ _ ca len cap 0 HS1.out hmax (by omega) (by omega)).mono ?_
  rintro e w2 ⟨s, t, p, c, rfl, o2⟩
  have B2 : Hid (Below w.heap.size w w2) := B1.out.trans (o2.below (by omega) (by have := B1.out.size; omega))
  obtain ⟨x0, x1, x2, x3, xf⟩ := HX1.out.only o2 (by omega)
  clear o2
  go_wp2
  refine bodyPost_ret (v := cfV s t p c) (by simp [results, Tryz.results13, go_sem, x0, x1, x2, x3]) rfl ⟨s, t, p, c, rfl, ?_⟩
  exact (((B2.out.setCell (Nat.le_refl _) _).setCell (Nat.le_refl _) _).setCell (Nat.le_refl _) _).setCell (Nat.le_refl _) _
/-- Bytes in a row. -/
structure ByAt (w : World) (g : Nat) (l : List UInt8) : Prop where
  cell : ∀ (j : Nat) (h : j < l.length), w.cell? ⟨g, j, none⟩ = some (.int .u8 (l[j].toNat : Int))
  fz : ∀ j, j < l.length → w.frozen? ⟨g, j, none⟩ = false
  lt : g < w.heap.size
theorem ByAt.only {w w' : World} {g b : Nat} {l : List UInt8} (h : ByAt w g l) (o : Only b w w') (hr : g ≠ b) : ByAt w' g l :=
  ⟨fun j hj => (o.cell (p := ⟨g, j, none⟩) h.lt hr).trans (h.cell j hj), fun j hj => (o.frozen (p := ⟨g, j, none⟩) h.lt hr).trans (h.fz j hj), Nat.lt_of_lt_of_le h.lt o.size⟩
theorem ByAt.below {w w' : World} {g : Nat} {l : List UInt8} (h : ByAt w g l) (hb : Below w.heap.size w w') : ByAt w' g l :=
  ⟨fun j hj => cell_keep hb (h.cell j hj), fun j hj => by rw [(bcell hb).2 _ _ h.lt]; exact h.fz j hj, Nat.lt_of_lt_of_le h.lt hb.size⟩
theorem ByAt.set {w : World} {g r : Nat} {l : List UInt8} (h : ByAt w g l) (hr : r < l.length) (b : UInt8) : ByAt (w.setCell ⟨g, r, none⟩ (.int .u8 (b.toNat : Int))) g (l.set r b) := by
  refine ⟨fun j hj => ?_, fun j hj => by rw [World.frozen?_setCell]; exact h.fz j (by simpa using hj), by simpa using h.lt⟩
  rw [List.length_set] at hj
  by_cases e : r = j
  · subst e
    rw [World.cell?_setCell_same' _ _ _ (by rw [h.cell r hr]; rfl)]
    simp
  · rw [World.cell?_setCell_other _ _ _ _ (by intro e'; injection e' with _ e2 _; exact e e2), h.cell j hj]
    simp [List.getElem_set_ne e]
theorem ByAt.new (w : World) (x : ByteArray) (l : List UInt8) (hl : x.data.toList = l) (cp : Nat) (T : TypeId) : ByAt (w.alloc (.cells (bytesRow x cp) T ((bytesRow x cp).size, (bytesRow x cp).size + 1))).drew w.heap.size l := by
  subst hl
  have hsz : x.data.size ≤ (bytesRow x cp).size := by simp [bytesRow]
  have hh : (w.alloc (.cells (bytesRow x cp) T ((bytesRow x cp).size, (bytesRow x cp).size + 1))).drew.heap[w.heap.size]? = some (.cells (bytesRow x cp) T ((bytesRow x cp).size, (bytesRow x cp).size + 1)) := heap_alloc_new w _
  refine ⟨fun j hj => ?_, fun j hj => ?_, ?_⟩
  · have h1 := bytesRow_at x cp j (by simpa using hj)
    rw [cell_of_heap hh j, h1]
    simp
  · have hj2 : j < x.data.size := by simpa using hj
    have hj3 : j < (bytesRow x cp).size := Nat.lt_of_lt_of_le hj2 hsz
    unfold World.frozen?
    rw [hh]
    simp
    omega
  · exact (Array.getElem?_eq_some_iff.1 hh).1
theorem ByAt.take {w : World} {g : Nat} {l : List UInt8} (h : ByAt w g l) (m : Nat) : ByAt w g (l.take m) :=
  ⟨fun j hj => by rw [List.length_take] at hj; rw [List.getElem_take]; exact h.cell j (by omega), fun j hj => h.fz j (by rw [List.length_take] at hj; omega), h.lt⟩
set_option maxRecDepth 100000 in
set_option maxHeartbeats 4000000 in
theorem drawPC_any (w : World) (ca : Option Addr) (len cap : Nat) (h : Bytes w ca len) (hmax : (len : Int) ≤ 9223372036854775807) :
    Calls Tryz.prog 9 #[.slice ca len cap] w fun e w' => ∃ x : ByteArray, e = .returned (.string x) ∧ x.size ≤ 1000 ∧ Below w.heap.size w w' := by
  have HBy : Hid (Bytes w ca len) := h
  clear h
  go_enter Tryz.func9, Tryz.ntmps9
  go_wp2_with fail
  refine (source_any _ ca len cap HBy.out).mono ?_
  rintro e w1 ⟨rfl, h1, b1⟩
  have HS1 : Hid (SrcAt w1 w.heap.size ca len cap 0) := h1
  have B1 : Hid (Below w.heap.size w w1) := b1
  have hlt := h1.lt
  clear h1 b1
  go_wp2_with fail
  refine (l13Draw_any _ _ ca len cap 0 HS1.out hmax (by omega) (by omega)).mono ?_
  rintro e w2 ⟨s, t, p, c, k2, rfl, hok, k21, k22, h2, o2⟩
  have HS2 : Hid (SrcAt w2 w.heap.size ca len cap k2) := h2
  have B2 : Hid (Below w.heap.size w w2) := B1.out.trans (o2.below (Nat.le_refl _) B1.out.size)
  have HOk : Hid (okS s t = true) := hok rfl
  have hz2 : w.heap.size < w2.heap.size := h2.lt
  clear h2 o2 hok
  go_wp2_with fail
  refine (l13Text_any w2.heap.size s t p c _ HOk.out (box4 w2 s t p c 26)).mono ?_
  rintro e w3 ⟨rfl, b3⟩
  have HS3 : Hid (SrcAt w3 w.heap.size ca len cap k2) := (HS2.out.alloc _).below b3
  have B3 : Hid (Below w.heap.size w w3) := (B2.out.alloc B2.out.size _).trans (b3.mono (by have := B2.out.size; simp; omega))
  have hl17 := cfg_len s.toNat t.toNat p c
  have hl60 : (cfgT s.toNat t.toNat p c).length ≤ 100 := by
    obtain ⟨g1, g2, g3, g4⟩ := okS_iff.1 HOk.out
    rw [cfg_at]
    have a1 := dd_len (u := s.toNat) (by omega)
    have a2 := dd_len (u := t.toNat) (by omega)
    cases p <;> cases c <;> simp <;> omega
  obtain ⟨L, hLe⟩ : ∃ L, L = cfgT s.toNat t.toNat p c := ⟨_, rfl⟩
  rw [← hLe] at hl17 hl60 ⊢
  obtain ⟨x, hx⟩ : ∃ x : ByteArray, x = ⟨L.toArray⟩ := ⟨_, rfl⟩
  have HXs : Hid (x.size = L.length) := by show _ = _; rw [hx]; simp [ByteArray.size]
  have hxl : x.data.toList = L := by rw [hx]
  have hz3 : w.heap.size < w3.heap.size := HS3.out.lt
  have hconv := fun u => run_bytes_of_string (P := Tryz.prog) u 9 22 5 x Tryz.underlying9 Tryz.underlying22 Tryz.underlying5
  rw [show S L = .string x by rw [hx]]
  clear b3 hx hLe
  go_wp2_with fail
  rw [HXs.out]
  have hcp : L.length ≤ grownCap w3 L.length 0 5 := grownCap_ge _ _ _ _
  generalize grownCap w3 L.length 0 5 = cp at hcp ⊢
  have HY3 : Hid (ByAt (w3.alloc (.cells (bytesRow x cp) 5 ((bytesRow x cp).size, (bytesRow x cp).size + 1))).drew w3.heap.size L) := ByAt.new w3 x L hxl cp _
  have hbz : Below w3.heap.size w3 (w3.alloc (.cells (bytesRow x cp) 5 ((bytesRow x cp).size, (bytesRow x cp).size + 1))).drew := ((Below.refl _ w3).alloc (Nat.le_refl _) _).drew
  have HS4 : Hid (SrcAt (w3.alloc (.cells (bytesRow x cp) 5 ((bytesRow x cp).size, (bytesRow x cp).size + 1))).drew w.heap.size ca len cap k2) := HS3.out.below hbz
  have HB4 : Hid (Below w.heap.size w (w3.alloc (.cells (bytesRow x cp) 5 ((bytesRow x cp).size, (bytesRow x cp).size + 1))).drew) := B3.out.trans (hbz.mono B3.out.size)
  obtain ⟨W, hW⟩ : ∃ W, W = (w3.alloc (.cells (bytesRow x cp) 5 ((bytesRow x cp).size, (bytesRow x cp).size + 1))).drew := ⟨_, rfl⟩
  rw [← hW] at HY3 HS4 HB4 ⊢
  have hzW : w3.heap.size < W.heap.size := HY3.out.lt
  clear hW hbz hconv hxl HXs HS3 B3 HS2 B2 HS1 B1
  refine (next_any _ _ ca len cap k2 _ HS4.out hmax (by omega) (by omega)).mono ?_
  rintro e w5 ⟨r, q, rfl, r0, r1, hw5⟩
  rw [if_neg (by omega)] at r1
  have HS5 : Hid (SrcAt w5 w.heap.size ca len cap (k2 + 1)) := by show SrcAt _ _ _ _ _ _; rw [hw5]; exact HS4.out.next q
  have o5 : Only w.heap.size W w5 := by rw [hw5]; exact only_next _ _ k2 q
  have HB5 : Hid (Below w.heap.size w w5) := HB4.out.trans (o5.below (Nat.le_refl _) HB4.out.size)
  have HY5 : Hid (ByAt w5 w3.heap.size L) := HY3.out.only o5 (by omega)
  have hz5 : W.heap.size ≤ w5.heap.size := o5.size
  clear hw5 o5 HY3 HB4
  have hbk : ∀ (u : World) (l : List UInt8) (c' : Nat), ByAt u w3.heap.size l → (convert 22 9 (.slice (some ⟨w3.heap.size, 0, none⟩) l.length c')).run Tryz.prog u = .ok (.string ⟨l.toArray⟩) u := fun u l c' h => run_convert_bytes_back u _ _ _ ⟨w3.heap.size, 0, none⟩ c' l Tryz.underlying22 Tryz.underlying5 Tryz.underlying9 (fun j hj => by
    have ha : (⟨w3.heap.size, 0, none⟩ : Addr).add j = ⟨w3.heap.size, j, none⟩ := by unfold Addr.add; split <;> simp_all
    rw [ha]; exact h.cell j hj)
  have HBk : Hid _ := hbk
  clear hbk
  by_cases c0 : r = 0
  · subst c0
    go_wp2_with fail
    refine (next_any _ _ ca len cap (k2 + 1) _ HS5.out hmax (by omega) (by omega)).mono ?_
    rintro e w6 ⟨r6, q6, rfl, r60, r61, hw6⟩
    rw [if_neg (by omega)] at r61
    have HS6 : Hid (SrcAt w6 w.heap.size ca len cap (k2 + 1 + 1)) := by show SrcAt _ _ _ _ _ _; rw [hw6]; exact HS5.out.next q6
    have o6 : Only w.heap.size w5 w6 := by rw [hw6]; exact only_next _ _ (k2 + 1) q6
    have HB6 : Hid (Below w.heap.size w w6) := HB5.out.trans (o6.below (Nat.le_refl _) HB5.out.size)
    have HY6 : Hid (ByAt w6 w3.heap.size L) := HY5.out.only o6 (by omega)
    have hz6 : w5.heap.size ≤ w6.heap.size := o6.size
    clear hw6 o6 HY5 HB5
    go_wp2_with fail
    refine (pick_any _ w.heap.size w6.heap.size 3 ca len cap (k2 + 1 + 1) (HS6.out.alloc _) hmax (by omega) (by omega) (by omega) (by omega) (by omega) (fun v => 0 ≤ v ∧ v ≤ 255) (ints3 w6 (fun v => 0 ≤ v ∧ v ≤ 255) 2 48 32 120 (by omega))).mono ?_
    rintro e w7 ⟨v, k3, rfl, hv, k31, k32, h7, o7⟩
    have HB7 : Hid (Below w.heap.size w w7) := (HB6.out.alloc HB6.out.size _).trans (o7.below (Nat.le_refl _) (by have := HB6.out.size; simp; omega))
    have HY7 : Hid (ByAt w7 w3.heap.size L) := (HY6.out.below ((Below.refl _ _).alloc (Nat.le_refl _) _)).only o7 (by omega)
    clear h7 o7 HY6 HB6
    obtain ⟨m, rfl⟩ : ∃ m : Nat, r6 = (m : Int) := ⟨r6.toNat, by omega⟩
    have hm : m < L.length := by omega
    have d1 := HY7.out.cell m hm
    have d2 := HY7.out.fz m hm
    have hv8 : ((UInt8.ofNat v.toNat).toNat : Int) = v := by
      have e1 : v.toNat % 256 = v.toNat := Nat.mod_eq_of_lt (by omega)
      simp
      omega
    have hb7 := HBk.out (w7.setCell ⟨w3.heap.size, m, none⟩ (.int .u8 ((UInt8.ofNat v.toNat).toNat : Int))) (L.set m (UInt8.ofNat v.toNat)) cp (HY7.out.set hm _)
    rw [hv8, List.length_set] at hb7
    go_wp2
    go_ret
    exact ⟨_, rfl, by simp [ByteArray.size]; omega, HB7.out.setCell (show w.heap.size ≤ w3.heap.size by omega) _⟩
  · have e0 : (r == 0) = false := by simp [c0]
    by_cases c1 : r = 1
    · subst c1
      go_wp2_with fail
      refine (next_any _ _ ca len cap (k2 + 1) _ HS5.out hmax (by omega) (by omega)).mono ?_
      rintro e w6 ⟨r6, q6, rfl, r60, r61, hw6⟩
      rw [if_neg (by omega)] at r61
      have o6 : Only w.heap.size w5 w6 := by rw [hw6]; exact only_next _ _ (k2 + 1) q6
      have HB6 : Hid (Below w.heap.size w w6) := HB5.out.trans (o6.below (Nat.le_refl _) HB5.out.size)
      have HY6 : Hid (ByAt w6 w3.heap.size L) := HY5.out.only o6 (by omega)
      clear hw6 o6 HY5 HB5
      obtain ⟨m, rfl⟩ : ∃ m : Nat, r6 = (m : Int) := ⟨r6.toNat, by omega⟩
      have hm : m < L.length := by omega
      have hmc : m ≤ cp := by omega
      have hb6 := HBk.out w6 (L.take m) cp (HY6.out.take m)
      rw [List.length_take, Nat.min_eq_left (by omega)] at hb6
      go_wp2
      go_ret
      exact ⟨_, rfl, by simp [ByteArray.size]; omega, HB6.out⟩
    · have e1 : (r == 1) = false := by simp [c1]
      have hb5 := HBk.out w5 L cp HY5.out
      go_wp2
      go_ret
      exact ⟨_, rfl, by simp [ByteArray.size]; omega, HB5.out⟩
end Go.Proofs.YtebnonpdaddniaaGreatDoor
