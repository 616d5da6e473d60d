/-
  The program's push on pieces: an item behind the others of the highest part, or in a new one where that is full.
-/
import Derived.Test.YtdohpfckiahlcaaSgPc
import Derived.Test.YtdohpfckiahlcaaFldKit
import Derived.Test.YtdohpfckiahlcaaAnyReg
import Derived.Deep.Cut
import Derived.Deep.RegionLaw
import Derived.Deep.RegionWith
import Derived.Deep.DrawnRows
namespace Go.Proofs.Ytdohpfckiahlcaa
open Go.RowKit Go.Extern.Stop Go.Stop Go.Extern Num Go.Lib

theorem cell_of_heap {w : World} {b j : Nat} {cs : Array Value} {T : TypeId} (h : w.heap[b]? = some (.cells cs T)) : w.cell? ⟨b, j, none⟩ = cs[j]? := cell_of_row w b j _ _ _ h
theorem newsX {W : World} {b : Nat} {x : Value} {ty : TypeId} {fr : Nat × Nat} (h : W.heap[b]? = some (.cells #[x] ty fr)) : ∀ j u, [x][j]? = some u → W.cell? ((⟨b, 0, none⟩ : Addr).add j) = some u := by
  intro j u hj
  have ha : ∀ j, (⟨b, 0, none⟩ : Addr).add j = ⟨b, j, none⟩ := fun j => by unfold Addr.add; split <;> simp_all
  rw [ha, cell_of_row W b j _ ty fr h]
  match j, hj with
  | 0, hj => simpa using hj
theorem Chn.setLow {w : World} {B b : Nat} {C : List Fp} {p : Value} (h : Chn w B p C) (hb : b < B) (j : Nat) (u : Value) : Chn (w.setCell ⟨b, j, none⟩ u) B p C :=
  Chn.set j u C p h fun x hx => by
    obtain ⟨⟨h1, _⟩, h2, _⟩ := Chn.at C p h x hx
    exact ⟨by omega, fun g hg => by have := (h2.lt g hg).1; omega⟩
theorem Pcs.down {w : World} {b B : Nat} {size cnt : Int} {top : List Int} {tv bp : Value} {C : List Fp} (h : Pcs w b B size cnt top tv bp C) (hb : b < B) (hB : B ≤ w.heap.size) :
    Pcs (((w.alloc (.cells #[tv, bp] 79)).setCell ⟨b, 3, none⟩ (.pointer (some ⟨w.heap.size, 0, none⟩))).setCell ⟨b, 2, none⟩ (.slice none 0 0)) b B size cnt [] (.slice none 0 0) (.pointer (some ⟨w.heap.size, 0, none⟩)) (⟨top, tv, w.heap.size⟩ :: C) ∧
    KP b B w (((w.alloc (.cells #[tv, bp] 79)).setCell ⟨b, 3, none⟩ (.pointer (some ⟨w.heap.size, 0, none⟩))).setCell ⟨b, 2, none⟩ (.slice none 0 0)) := by
  have hlt := h.lt
  have hal : Below w.heap.size w (w.alloc (.cells #[tv, bp] 79)) := (Below.refl _ _).alloc (Nat.le_refl _) _
  have h1 := h.below hal
  have hn : (w.alloc (.cells #[tv, bp] 79)).heap[w.heap.size]? = some (.cells #[tv, bp] 79) := heap_alloc_new w _
  refine ⟨⟨?_, World.ownsRow_nil _ _ _ _, ⟨bp, rfl, hB, ?_, ?_, (h1.chn.setLow hb _ _).setLow hb _ _⟩, fun x _ g _ e => by cases e⟩, ?_⟩
  · have e1 := heap_setCell_same _ b 3 _ _ (.pointer (some ⟨w.heap.size, 0, none⟩)) h1.blk
    rw [heap_setCell_same _ b 2 _ _ (.slice none 0 0) e1]
    rfl
  · rw [Below.heap_setCell _ _ _ _ (by simp; omega), Below.heap_setCell _ _ _ _ (by simp; omega)]; exact hn
  · have hnb : ∀ g, tv.ownBlock = some g → g ≠ b := fun g hg => by have := (h.row.lt g hg).1; omega
    exact own_set' (own_set' h1.row hnb _) hnb _
  · exact Keeps.set (Keeps.set (Keeps.below (Keeps.refl _ _) hal) (.inl rfl) 3 _) (.inl rfl) 2 _
theorem Pcs.up {w w4 : World} {b B g' c' : Nat} {size cnt : Int} {top : List Int} {tv bp : Value} {C : List Fp} {x : Int} {o : Obj} (h : Pcs w b B size cnt top tv bp C) (hb : b < B)
    (hown : w4.ownsRow B 2 1 (.slice (some ⟨g', 0, none⟩) (top.length + 1) c') (top.length + 1) (cellsI top ++ [.int .i64 x])) (hg : (w.alloc o).grownBy w4 tv.ownBlock) (hat : tv.ownBlock = some g' ∨ g' = w.heap.size + 1) :
    Pcs ((w4.setCell ⟨b, 2, none⟩ (.slice (some ⟨g', 0, none⟩) (top.length + 1) c')).setCell ⟨b, 1, none⟩ (.int .i64 (cnt + 1))) b B size (cnt + 1) (top ++ [x]) (.slice (some ⟨g', 0, none⟩) (top.length + 1) c') bp C ∧
    KP b B w ((w4.setCell ⟨b, 2, none⟩ (.slice (some ⟨g', 0, none⟩) (top.length + 1) c')).setCell ⟨b, 1, none⟩ (.int .i64 (cnt + 1))) ∧ (w4.cell? ⟨b, 1, none⟩ = some (.int .i64 cnt) ∧ w4.cell? ⟨b, 2, none⟩ = some tv ∧ ∀ j, w4.frozen? ⟨b, j, none⟩ = false) := by
  have hlt := h.lt
  have hal : Below w.heap.size w (w.alloc o) := (Below.refl _ _).alloc (Nat.le_refl _) _
  have h1 := h.below hal
  have hne : some b ≠ tv.ownBlock := fun e => by have := (h.row.lt b e.symm).1; omega
  have hblk : w4.heap[b]? = some (.cells #[.int .i64 size, .int .i64 cnt, tv, bp] 64) := by rw [hg.block b (by simp; omega) hne]; exact h1.blk
  have hg'b : g' ≠ b := by
    rcases hat with e | e
    · have := (h.row.lt g' e).1; omega
    · omega
  have hch : Chn w4 B bp C := Chn.grown hg C bp h1.chn fun y hy => by
    obtain ⟨⟨q1, q2⟩, q3, q, q4⟩ := Chn.at C bp h1.chn y hy
    refine ⟨fun e => ?_, fun g hgg e => h.far y hy g hgg e⟩
    rcases h1.row.2 with ⟨e2, _⟩ | ⟨g1, cap, cur, e2, _, hgg, _⟩
    · rw [e2] at e; cases e
    · rw [e2] at e
      have e3 : y.at_ = g1 := by simpa [Value.ownBlock] using e
      rw [← e3, q4] at hgg
      injection hgg with h5
      injection h5 with _ h6
      exact absurd h6 (by decide)
  refine ⟨⟨?_, ?_, (hch.setLow hb _ _).setLow hb _ _, fun y hy g hgg e => ?_⟩, ?_, ?_, ?_, fun j => by simp [World.frozen?, hblk]⟩
  · have e1 := heap_setCell_same _ b 2 _ _ (.slice (some ⟨g', 0, none⟩) (top.length + 1) c') hblk
    rw [heap_setCell_same _ b 1 _ _ (.int .i64 (cnt + 1)) e1]
    rfl
  · have e : (top ++ [x]).length = top.length + 1 := by simp
    rw [e, cellsI_append]
    exact own_set (own_set hown hg'b _) hg'b _
  · have e' : g' = g := by simpa [Value.ownBlock] using e
    subst e'
    rcases hat with q | q
    · exact h.far y hy g' hgg q
    · obtain ⟨_, q3, _⟩ := Chn.at C bp h.chn y hy
      have := (q3.lt g' hgg).2
      omega
  · exact Keeps.set (Keeps.set (Keeps.grown (Keeps.below (Keeps.refl _ _) hal) hg (fun g hgg => .inr ((h.row.lt g hgg).1))) (.inl rfl) 2 _) (.inl rfl) 1 _
  · rw [cell_of_heap hblk]; rfl
  · rw [cell_of_heap hblk]; rfl
set_option maxRecDepth 100000 in
set_option maxHeartbeats 2000000 in
theorem push_full (w : World) (b B n : Nat) (cnt : Int) (top : List Int) (at_ : Option Addr) (ct : Nat) (bo : Option Addr) (C : List Fp) (x : Int) (hP : Pcs w b B (n : Int) cnt top (.slice at_ n ct) (.pointer bo) C) (hc : 0 ≤ cnt ∧ cnt ≤ 4000) (hbB : b < B) (hBw : B ≤ w.heap.size) :
    Calls Try.prog 46 #[.pointer (some ⟨b, 0, none⟩), .int .i64 x] w fun e w' => e = .returned (.tuple #[]) ∧ ∃ tv bp' f, Pcs w' b B (n : Int) (cnt + 1) [x] tv bp' (⟨top, .slice at_ n ct, f⟩ :: C) ∧ KP b B w w' := by
  have a0 : ∀ p : BW w, p.x.cell? ⟨b, 0, none⟩ = some (.int .i64 (n : Int)) := fun p => p.cell hP.cell.1
  have a2 : ∀ p : BW w, p.x.cell? ⟨b, 2, none⟩ = some (.slice at_ n ct) := fun p => p.cell hP.cell.2.2.1
  have hne := bw_some w
  have HP : Hid (Pcs w b B (n : Int) cnt top (.slice at_ n ct) (.pointer bo) C) := hP
  clear hP
  go_enter Try.func46, Try.ntmps46
  go_wp2_with fail
  refine wp_region_below (by kernel_rfl) (by kernel_rfl) ?_
  repeat (go_big_quiet_step (fail))
  refine wpQuiet_nil ?_
  intro wq hw'
  obtain ⟨⟨_, bq⟩, rfl⟩ := hw'
  have HPq : Hid (Pcs wq b B (n : Int) cnt top (.slice at_ n ct) (.pointer bo) C) := HP.out.below bq
  have HBq : Hid (Below w.heap.size w wq) := bq
  clear bq hne a0 a2
  have k2 := HPq.out.cell.2.2.1
  have kf := HPq.out.fz
  go_upto_region 1 with fail
  have hFr : ∀ f, Fence.wide.fn f := fun _ => trivial
  refine (wpIn_wide (n := 0)).1 ?_
  refine region_anyH (z := 13) (S := fun u : World => u.heap[b]? = some (.cells #[.int .i64 (n : Int), .int .i64 cnt, .slice at_ n ct, .pointer bo] 64)) (by kernel_rfl) ?_
  obtain ⟨y0, hy0⟩ : ∃ Y, Y = wq.drew := ⟨_, rfl⟩
  have HP0 : Hid (Pcs y0 b B (n : Int) cnt top (.slice at_ n ct) (.pointer bo) C ∧ Below w.heap.size w y0) := by rw [hy0]; exact ⟨HPq.out.below (Below.refl _ _).drew, HBq.out.drew⟩
  have HS0 : Hid (y0.heap[b]? = some (.cells #[.int .i64 (n : Int), .int .i64 cnt, .slice at_ n ct, .pointer bo] 64)) := by have := HP0.out.1.blk; exact this
  rw [← hy0]
  clear hy0 k2 kf
  refine anyH_take hFr (by kernel_rfl) (i := 0) (v := ?_) (d := some 14) (by kernel_rfl) rfl rfl (by kernel_rfl) (by kernel_rfl) (by kernel_rfl) (fun _ _ _ h => h) HS0.out (Or.inl ⟨by rfl, fun w9 hSw => ?_⟩) ?_
  rotate_left
  · go_simp
    all_goals (try (first | with_reducible rfl | omega))
  try simp only [Act.put]
  try simp only [List.setIfInBounds_toArray]
  try simp only [List.set_cons_zero, List.set_cons_succ]
  refine anyH_take hFr (by kernel_rfl) (i := 1) (v := ?_) (d := some 15) (by kernel_rfl) rfl rfl (by kernel_rfl) (by kernel_rfl) (by kernel_rfl) (fun _ _ _ h => h) HS0.out (Or.inl ⟨by rfl, fun w9 hSw => ?_⟩) ?_
  rotate_left
  · go_simp
    all_goals (try (first | with_reducible rfl | omega))
  try simp only [Act.put]
  try simp only [List.setIfInBounds_toArray]
  try simp only [List.set_cons_zero, List.set_cons_succ]
  refine anyH_take hFr (by kernel_rfl) (i := 2) (v := ?_) (d := some 16) (by kernel_rfl) rfl rfl (by kernel_rfl) (by kernel_rfl) (by kernel_rfl) (fun _ _ _ h => h) HS0.out (Or.inl ⟨by rfl, fun w9 hSw => ?_⟩) ?_
  rotate_left
  · go_simp
    all_goals (try (first | with_reducible rfl | omega))
  try simp only [Act.put]
  try simp only [List.setIfInBounds_toArray]
  try simp only [List.set_cons_zero, List.set_cons_succ]
  refine anyH_take hFr (by kernel_rfl) (i := 3) (v := ?_) (d := some 17) (by kernel_rfl) rfl rfl (by kernel_rfl) (by kernel_rfl) (by kernel_rfl) (fun _ _ _ h => h) HS0.out (Or.inl ⟨by rfl, fun w9 hSw => ?_⟩) ?_
  rotate_left
  · go_simp
    all_goals (try (first | with_reducible rfl | omega))
  try simp only [Act.put]
  try simp only [List.setIfInBounds_toArray]
  try simp only [List.set_cons_zero, List.set_cons_succ]
  refine anyH_take hFr (by kernel_rfl) (i := 4) (v := ?_) (d := some 18) (by kernel_rfl) rfl rfl (by kernel_rfl) (by kernel_rfl) (by kernel_rfl) (fun _ _ _ h => h) HS0.out (Or.inl ⟨by rfl, fun w9 hSw => ?_⟩) ?_
  rotate_left
  · have hbx : w9.heap[b]? = some (.cells #[.int .i64 (n : Int), .int .i64 cnt, .slice at_ n ct, .pointer bo] 64) := hSw
    have b2 : w9.cell? ⟨b, 2, none⟩ = some (.slice at_ n ct) := by rw [cell_of_heap hbx]; rfl
    have b3 : w9.cell? ⟨b, 3, none⟩ = some (.pointer bo) := by rw [cell_of_heap hbx]; rfl
    clear hbx
    go_simp
    all_goals (try (first | with_reducible rfl | omega))
  try simp only [Act.put]
  try simp only [List.setIfInBounds_toArray]
  try simp only [List.set_cons_zero, List.set_cons_succ]
  refine anyH_take hFr (by kernel_rfl) (i := 5) (v := ?_) (d := some 19) (by kernel_rfl) rfl rfl (by kernel_rfl) (by kernel_rfl) (by kernel_rfl) (fun _ _ _ h => h) HS0.out (Or.inl ⟨by rfl, fun w9 hSw => ?_⟩) ?_
  rotate_left
  · go_simp
    all_goals (try (first | with_reducible rfl | omega))
  try simp only [Act.put]
  try simp only [List.setIfInBounds_toArray]
  try simp only [List.set_cons_zero, List.set_cons_succ]
  refine anyH_take hFr (by kernel_rfl) (i := 6) (v := ?_) (d := some 20) (by kernel_rfl) rfl rfl (by kernel_rfl) (by kernel_rfl) (by kernel_rfl) (fun _ _ _ h => h) HS0.out (Or.inl ⟨by rfl, fun w9 hSw => ?_⟩) ?_
  rotate_left
  · go_simp
    all_goals (try (first | with_reducible rfl | omega))
  try simp only [Act.put]
  try simp only [List.setIfInBounds_toArray]
  try simp only [List.set_cons_zero, List.set_cons_succ]
  refine anyH_take hFr (by kernel_rfl) (i := 7) (v := ?_) (d := some 21) (by kernel_rfl) rfl rfl (by kernel_rfl) (by kernel_rfl) (by kernel_rfl) (fun _ _ _ h => h) HS0.out (Or.inl ⟨by rfl, fun w9 hSw => ?_⟩) ?_
  rotate_left
  · go_simp
    all_goals (try (first | with_reducible rfl | omega))
  try simp only [Act.put]
  try simp only [List.setIfInBounds_toArray]
  try simp only [List.set_cons_zero, List.set_cons_succ]
  refine anyH_take hFr (by kernel_rfl) (i := 8) (v := ?_) (d := some 22) (by kernel_rfl) rfl rfl (by kernel_rfl) (by kernel_rfl) (by kernel_rfl) (fun _ _ _ h => h) HS0.out (Or.inl ⟨by rfl, fun w9 hSw => ?_⟩) ?_
  rotate_left
  · have hbx : w9.heap[b]? = some (.cells #[.int .i64 (n : Int), .int .i64 cnt, .slice at_ n ct, .pointer bo] 64) := hSw
    have b2 : w9.cell? ⟨b, 2, none⟩ = some (.slice at_ n ct) := by rw [cell_of_heap hbx]; rfl
    have b3 : w9.cell? ⟨b, 3, none⟩ = some (.pointer bo) := by rw [cell_of_heap hbx]; rfl
    clear hbx
    go_simp
    all_goals (try (first | with_reducible rfl | omega))
  try simp only [Act.put]
  try simp only [List.setIfInBounds_toArray]
  try simp only [List.set_cons_zero, List.set_cons_succ]
  refine anyH_take hFr (by kernel_rfl) (i := 9) (v := ?_) (d := some 23) (by kernel_rfl) rfl rfl (by kernel_rfl) (by kernel_rfl) (by kernel_rfl) (fun _ _ _ h => h) HS0.out (Or.inl ⟨by rfl, fun w9 hSw => ?_⟩) ?_
  rotate_left
  · go_simp
    all_goals (try (first | with_reducible rfl | omega))
  try simp only [Act.put]
  try simp only [List.setIfInBounds_toArray]
  try simp only [List.set_cons_zero, List.set_cons_succ]
  refine anyH_one (i := 10) (by kernel_rfl) (op_plainX rfl (by rfl) (by simp) ?_)
  go_simp
  obtain ⟨y1, hy1⟩ : ∃ y1, y1 = y0.alloc (.cells #[.slice at_ n ct, .pointer bo] 79) := ⟨_, rfl⟩
  have HS1 : Hid (y1.heap[b]? = some (.cells #[.int .i64 (n : Int), .int .i64 cnt, .slice at_ n ct, .pointer bo] 64)) := by show _ = _; rw [hy1, Below.heap_alloc _ _ _ (Array.getElem?_eq_some_iff.1 HS0.out).1]; exact HS0.out
  have HY1 : Hid (y1 = y0.alloc (.cells #[.slice at_ n ct, .pointer bo] 79)) := hy1
  rw [← hy1]
  clear hy1
  (first | refine ⟨fun _ => HS1.out, ?_⟩ | refine ⟨HS1.out, ?_⟩ | skip)
  try simp only [Act.put]
  try simp only [List.setIfInBounds_toArray]
  try simp only [List.set_cons_zero, List.set_cons_succ]
  refine anyH_one (i := 11) (by kernel_rfl) (op_plainX rfl (by rfl) (by simp) ?_)
  go_simp
  (first | refine ⟨fun _ => HS1.out, ?_⟩ | refine ⟨HS1.out, ?_⟩ | skip)
  try simp only [Act.put]
  try simp only [List.setIfInBounds_toArray]
  try simp only [List.set_cons_zero, List.set_cons_succ]
  refine anyH_one (i := 12) (by kernel_rfl) (op_plainX rfl (by rfl) (by simp) ?_)
  go_simp
  (first | refine ⟨fun _ => HS1.out, ?_⟩ | refine ⟨HS1.out, ?_⟩ | skip)
  try simp only [Act.put]
  try simp only [List.setIfInBounds_toArray]
  try simp only [List.set_cons_zero, List.set_cons_succ]
  have b3 : y1.cell? ⟨b, 3, none⟩ = some (.pointer bo) := by rw [cell_of_heap HS1.out]; rfl
  have bf : ∀ j, y1.frozen? ⟨b, j, none⟩ = false := fun j => by simp [World.frozen?, HS1.out]
  refine anyH_one (i := 13) (by kernel_rfl) (op_plainX rfl (by rfl) (by simp) ?_)
  go_simp
  (first | refine ⟨by kernel_rfl, ?_⟩ | skip)
  try simp only [Act.put]
  try simp only [List.setIfInBounds_toArray]
  try simp only [List.set_cons_zero, List.set_cons_succ]
  (first | refine anyH_done (by kernel_rfl) ?_ _ | skip)
  have HPd : Hid (Pcs ((y1.setCell ⟨b, 3, none⟩ (.pointer (some ⟨y0.heap.size, 0, none⟩))).setCell ⟨b, 2, none⟩ (.slice none 0 0)) b B (n : Int) cnt [] (.slice none 0 0) (.pointer (some ⟨y0.heap.size, 0, none⟩)) (⟨top, .slice at_ n ct, y0.heap.size⟩ :: C) ∧ KP b B y0 ((y1.setCell ⟨b, 3, none⟩ (.pointer (some ⟨y0.heap.size, 0, none⟩))).setCell ⟨b, 2, none⟩ (.slice none 0 0))) := by
    have h1 := HP0.out.1.down hbB (Nat.le_trans hBw HP0.out.2.size)
    rw [← HY1.out] at h1
    exact h1
  have HB2 : Hid ((y1.setCell ⟨b, 3, none⟩ (.pointer (some ⟨y0.heap.size, 0, none⟩))).heap[b]? = some (.cells #[.int .i64 (n : Int), .int .i64 cnt, .slice at_ n ct, .pointer (some ⟨y0.heap.size, 0, none⟩)] 64)) := by
    show _ = _
    rw [heap_setCell_same _ b 3 _ _ _ HS1.out]
    rfl
  obtain ⟨y2, hy2⟩ : ∃ y2, y2 = y1.setCell ⟨b, 3, none⟩ (.pointer (some ⟨y0.heap.size, 0, none⟩)) := ⟨_, rfl⟩
  rw [← hy2] at HPd HB2 ⊢
  have b2 : y2.cell? ⟨b, 2, none⟩ = some (.slice at_ n ct) := by rw [cell_of_heap HB2.out]; rfl
  have f2 : ∀ j, y2.frozen? ⟨b, j, none⟩ = false := fun j => by simp [World.frozen?, HB2.out]
  clear hy2 b3 bf
  go_upto_region 3 with fail
  obtain ⟨y3, hy3⟩ : ∃ y3, y3 = y2.setCell ⟨b, 2, none⟩ (.slice none 0 0) := ⟨_, rfl⟩
  rw [← hy3] at HPd ⊢
  clear hy3 b2 f2
  have b2 := HPd.out.1.cell.2.2.1
  have b1 := HPd.out.1.cell.2.1
  have f2 := HPd.out.1.fz
  have HRw : Hid (y3.ownsRow B 2 1 (.slice none 0 0) 0 (cellsI [])) := HPd.out.1.row
  have hz3 : B ≤ y3.heap.size := Nat.le_trans hBw (Nat.le_trans HP0.out.2.size HPd.out.2.size)
  obtain ⟨i0, hi, hz0, hz1, hz2⟩ := info_parts infoI
  go_wp2_with (at_builtin; refine wpList_append_lies _ rfl (.tmp 34) (.tmp 36) 42 rfl B 2 i0 _ 1 8 Try.underlying42 hi hz0 hz1 hz2 rfl (by decide) _ 0 (cellsI []) rfl (HRw.out.alloc _) ⟨_, 0, none⟩ 1 1 [.int .i64 x] rfl rfl ?c1 ?c2 (by decide) ?c3 ?c4 ?c5 _ rfl ?_)
  case c1 => exact newsX (heap_new' _ _ _ (by simp))
  case c2 => intro u hu; simp at hu; rcases hu with rfl; rfl
  case c3 => unfold maxLen; omega
  case c4 => omega
  case c5 => simp; omega
  intro g' c' w4 hown hgrow hat _
  have HU := HPd.out.1.up (x := x) hbB (by simpa using hown) hgrow (by simpa using hat)
  obtain ⟨hu1, hu2, c1, c2, cf⟩ := HU
  have HU1 : Hid _ := hu1
  have HU2 : Hid _ := hu2
  clear hu1 hu2 hown hgrow hat
  go_wp2
  go_end0
  exact ⟨rfl, _, _, _, HU1.out, Keeps.trans (Keeps.trans (Keeps.below (Keeps.refl _ _) HP0.out.2) HPd.out.2) HU2.out⟩
set_option maxRecDepth 100000 in
set_option maxHeartbeats 2000000 in
theorem push_room (w : World) (b B n : Nat) (cnt : Int) (top : List Int) (at_ : Option Addr) (ct : Nat) (bp : Value) (C : List Fp) (x : Int) (hP : Pcs w b B (n : Int) cnt top (.slice at_ top.length ct) bp C) (ht : top.length < n) (hn : n ≤ 64) (hc : 0 ≤ cnt ∧ cnt ≤ 4000) (hbB : b < B) (hBw : B ≤ w.heap.size) :
    Calls Try.prog 46 #[.pointer (some ⟨b, 0, none⟩), .int .i64 x] w fun e w' => e = .returned (.tuple #[]) ∧ ∃ tv, Pcs w' b B (n : Int) (cnt + 1) (top ++ [x]) tv bp C ∧ KP b B w w' := by
  have a0 : ∀ p : BW w, p.x.cell? ⟨b, 0, none⟩ = some (.int .i64 (n : Int)) := fun p => p.cell hP.cell.1
  have a2 : ∀ p : BW w, p.x.cell? ⟨b, 2, none⟩ = some (.slice at_ top.length ct) := fun p => p.cell hP.cell.2.2.1
  have hne := bw_some w
  have hq : ((top.length : Int) == (n : Int)) = false := by rw [beq_eq_false_iff_ne]; omega
  have hq2 : ¬ top.length = n := by omega
  have HP : Hid (Pcs w b B (n : Int) cnt top (.slice at_ top.length ct) bp C) := hP
  clear hP
  go_enter Try.func46, Try.ntmps46
  go_wp2_with fail
  refine wp_region_below (by kernel_rfl) (by kernel_rfl) ?_
  repeat (go_big_quiet_step (fail))
  refine wpQuiet_nil ?_
  intro y3 hw'
  obtain ⟨⟨_, bq⟩, rfl⟩ := hw'
  have HPd : Hid (Pcs y3 b B (n : Int) cnt top (.slice at_ top.length ct) bp C) := HP.out.below bq
  have HBq : Hid (Below w.heap.size w y3) := bq
  have hz3 : B ≤ y3.heap.size := Nat.le_trans hBw bq.size
  clear bq hne a0 a2
  have b2 := HPd.out.cell.2.2.1
  have b1 := HPd.out.cell.2.1
  have f2 := HPd.out.fz
  have HRw : Hid (y3.ownsRow B 2 1 (.slice at_ top.length ct) top.length (cellsI top)) := HPd.out.row
  obtain ⟨i0, hi, hz0, hz1, hz2⟩ := info_parts infoI
  go_wp2_with (at_builtin; refine wpList_append_lies _ rfl (.tmp 34) (.tmp 36) 42 rfl B 2 i0 _ 1 8 Try.underlying42 hi hz0 hz1 hz2 rfl (by decide) _ top.length (cellsI top) rfl (HRw.out.alloc _) ⟨_, 0, none⟩ 1 1 [.int .i64 x] rfl rfl ?c1 ?c2 (by decide) ?c3 ?c4 ?c5 _ rfl ?_)
  case c1 => exact newsX (heap_new' _ _ _ (by simp))
  case c2 => intro u hu; simp at hu; rcases hu with rfl; rfl
  case c3 => unfold maxLen; omega
  case c4 => omega
  case c5 => simp; omega
  intro g' c' w4 hown hgrow hat _
  have HU := HPd.out.up (x := x) hbB (by simpa using hown) hgrow (by simpa using hat)
  obtain ⟨hu1, hu2, c1, c2, cf⟩ := HU
  have HU1 : Hid _ := hu1
  have HU2 : Hid _ := hu2
  clear hu1 hu2 hown hgrow hat
  go_wp2
  go_end0
  exact ⟨rfl, _, HU1.out, Keeps.trans (Keeps.below (Keeps.refl _ _) HBq.out) HU2.out⟩
end Go.Proofs.Ytdohpfckiahlcaa
