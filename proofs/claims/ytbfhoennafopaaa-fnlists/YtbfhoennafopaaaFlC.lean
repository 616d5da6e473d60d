/-
  Parts of the proof laid into one text, one behind the other; each says at its head what is proved in it.
-/
import Derived.Test.YtbfhoennafopaaaDrawV
import Derived.Test.YtbfhoennafopaaaDrawP
/-
  The model's draw of a value that may be wrong, l5BentValue: it answers a value, counts on, and turns nothing that was there but the count.
-/
namespace Go.Proofs.Ytbfhoennafopaaa
open Go.RowKit Go.Extern.Stop Go.Stop Go.Extern Num Go.Lib

/-- TwoV blocks of one's own: the answer's, as it was laid, and a value's. -/
structure TwoV (w : World) (B T : Nat) (t : Vlu) : Prop where
  lb : B < w.heap.size
  lt : T < w.heap.size
  p0 : w.cell? ⟨B, 0, none⟩ = some (.int .i64 0)
  p1 : w.cell? ⟨B, 1, none⟩ = some (.int .i64 0)
  p2 : w.cell? ⟨B, 2, none⟩ = some (.string ⟨#[]⟩)
  pf : ∀ o, w.frozen? ⟨B, o, none⟩ = false
  t0 : w.cell? ⟨T, 0, none⟩ = some (.int .i64 t.kind)
  t1 : w.cell? ⟨T, 1, none⟩ = some (.int .i64 t.num)
  t2 : w.cell? ⟨T, 2, none⟩ = some (.string t.name)
  tf : ∀ o, w.frozen? ⟨T, o, none⟩ = false
theorem TwoV.only {w w' : World} {B T b : Nat} {t : Vlu} (h : TwoV w B T t) (o : Only b w w') (hB : B ≠ b) (hT : T ≠ b) : TwoV w' B T t := by
  have cB : ∀ j, w'.cell? ⟨B, j, none⟩ = w.cell? ⟨B, j, none⟩ := fun j => o.cell (p := ⟨B, j, none⟩) h.lb hB
  have cT : ∀ j, w'.cell? ⟨T, j, none⟩ = w.cell? ⟨T, j, none⟩ := fun j => o.cell (p := ⟨T, j, none⟩) h.lt hT
  have fB : ∀ j, w'.frozen? ⟨B, j, none⟩ = w.frozen? ⟨B, j, none⟩ := fun j => o.frozen (p := ⟨B, j, none⟩) h.lb hB
  have fT : ∀ j, w'.frozen? ⟨T, j, none⟩ = w.frozen? ⟨T, j, none⟩ := fun j => o.frozen (p := ⟨T, j, none⟩) h.lt hT
  exact ⟨Nat.lt_of_lt_of_le h.lb o.size, Nat.lt_of_lt_of_le h.lt o.size, (cB 0).trans h.p0, (cB 1).trans h.p1, (cB 2).trans h.p2, fun j => (fB j).trans (h.pf j), (cT 0).trans h.t0, (cT 1).trans h.t1, (cT 2).trans h.t2, fun j => (fT j).trans (h.tf j)⟩
theorem TwoV.alloc {w : World} {B T : Nat} {t : Vlu} (h : TwoV w B T t) (o : Obj) : TwoV (w.alloc o) B T t :=
  h.only (b := w.heap.size) ((Only.refl _ w).alloc o) (Nat.ne_of_lt h.lb) (Nat.ne_of_lt h.lt)
set_option maxRecDepth 100000 in
set_option maxHeartbeats 2000000 in
theorem bentV_any (w : World) (b : Nat) (ca : Option Addr) (len cap : Nat) (k n : Int) (h : SrcAt w b ca len cap k) (hmax : (len : Int) ≤ 9223372036854775807) (k0 : 0 ≤ k) (k1 : k ≤ 999999999800) :
    Calls Try.prog 28 #[.pointer (some ⟨b, 0, none⟩), .int .i64 n] w fun e w' => VluRes w b ca len cap k 9 e w' := by
  have hcode := h.code
  have hlt := h.lt
  go_enter Try.func28, Try.ntmps28
  go_wp2_with fail
  refine (drawV_any _ b ca len cap k n (h.alloc _) hmax k0 (by omega)).mono ?_
  rintro e w1 ⟨t, k1', rfl, hz, k11, k12, h1, o1⟩
  have bne : b ≠ w.heap.size := Nat.ne_of_lt hlt
  have hs1 : w.heap.size < w1.heap.size := by have := o1.size; simp at this; omega
  have TW : Hid (TwoV (w1.alloc (.cells #[.int .i64 t.kind, .int .i64 t.num, .string t.name] 26)) w.heap.size w1.heap.size t) := by
    have cB : ∀ j, w1.cell? ⟨w.heap.size, j, none⟩ = (w.alloc (.cells #[.int .i64 0, .int .i64 0, .string ⟨#[]⟩] 26)).cell? ⟨w.heap.size, j, none⟩ := fun j => o1.cell (p := ⟨w.heap.size, j, none⟩) (by simp) (Ne.symm bne)
    have fB : ∀ j, w1.frozen? ⟨w.heap.size, j, none⟩ = (w.alloc (.cells #[.int .i64 0, .int .i64 0, .string ⟨#[]⟩] 26)).frozen? ⟨w.heap.size, j, none⟩ := fun j => o1.frozen (p := ⟨w.heap.size, j, none⟩) (by simp) (Ne.symm bne)
    refine ⟨by simp; omega, by simp, ?_, ?_, ?_, fun j => ?_, by simp, by simp, by simp, fun j => by simp⟩
    · exact cell_laid _ ((cB 0).trans (by simp))
    · exact cell_laid _ ((cB 1).trans (by simp))
    · exact cell_laid _ ((cB 2).trans (by simp))
    · rw [((Only.refl w1.heap.size w1).alloc _).frozen (p := ⟨w.heap.size, j, none⟩) hs1 (Nat.ne_of_lt hs1), fB j]; simp
  have o01 : Only b w w1 := ((Only.refl b w).alloc _).trans o1
  have HC : Hid (∀ B, w.heap.size ≤ B → ∀ cb co, ca = some ⟨cb, co, none⟩ → 0 < len → cb ≠ B) := fun B hB cb co e hl => by have := hcode cb co e hl; omega
  clear hcode h o1
  have hb1 : b < w1.heap.size := h1.lt
  have bn1 : b ≠ w1.heap.size := Nat.ne_of_lt hb1
  go_wp2_with fail
  refine (next_any _ b ca len cap k1' _ (h1.alloc _) hmax (by omega) (by omega)).mono ?_
  rintro e w2 ⟨r, q, rfl, r0, r1, hw2⟩
  rw [if_neg (by omega)] at r1
  have h2 : SrcAt w2 b ca len cap (k1' + 1) := by rw [hw2]; exact (h1.alloc _).next q
  have o2 : Only b (w1.alloc (.cells #[.int .i64 t.kind, .int .i64 t.num, .string t.name] 26)) w2 := by rw [hw2]; exact only_next _ b k1' q
  clear hw2
  have T2 : Hid (TwoV w2 w.heap.size w1.heap.size t) := TW.out.only o2 (Ne.symm bne) (Ne.symm bn1)
  have o02 : Only b w w2 := (o01.alloc _).trans o2
  clear o2 o01 h1 TW
  by_cases c0 : r = 0
  · subst c0
    go_wp2_with fail
    refine (pick_any _ b w2.heap.size 4 ca len cap (k1' + 1) (h2.alloc _) hmax (by omega) (by omega) (Nat.ne_of_gt h2.lt) (by omega) (by omega) AnyI (cells4 w2 _ _ _ _ _)).mono ?_
    rintro e w3 ⟨v, k3, rfl, -, k31, k32, h3, o3⟩
    have T3 := (T2.out.alloc _).only o3 (Ne.symm bne) (Ne.symm bn1)
    have o03 : Only b w w3 := (o02.alloc _).trans o3
    clear o3 o02 h2 T2
    obtain ⟨lb, lt, p0, p1, p2, pf, t0, t1, t2, tf⟩ := T3
    have ne1 : w.heap.size ≠ w1.heap.size := Nat.ne_of_lt hs1
    go_wp2
    refine bodyPost_ret (v := (⟨v, t.num, t.name⟩ : Vlu).val) (by simp [results, Try.results28, go_sem, p0, p1, p2]) rfl ⟨⟨v, t.num, t.name⟩, k3, rfl, hz, by omega, by omega, ?_, ?_⟩
    · repeat (first | exact h3 | refine SrcAt.put ?_ _ _ _ (by assumption) (HC.out _ (by omega)))
    · repeat (first | exact o03 | refine Only.put ?_ (by omega) _)
  have d0 : (r == 0) = false := by simpa using c0
  by_cases c1 : r = 1
  · subst c1
    go_wp2_with fail
    refine (pick_any _ b w2.heap.size 4 ca len cap (k1' + 1) (h2.alloc _) hmax (by omega) (by omega) (Nat.ne_of_gt h2.lt) (by omega) (by omega) AnyI (cells4 w2 _ _ _ _ _)).mono ?_
    rintro e w3 ⟨v, k3, rfl, -, k31, k32, h3, o3⟩
    have T3 := (T2.out.alloc _).only o3 (Ne.symm bne) (Ne.symm bn1)
    have o03 : Only b w w3 := (o02.alloc _).trans o3
    clear o3 o02 h2 T2
    obtain ⟨lb, lt, p0, p1, p2, pf, t0, t1, t2, tf⟩ := T3
    have ne1 : w.heap.size ≠ w1.heap.size := Nat.ne_of_lt hs1
    go_wp2
    refine bodyPost_ret (v := (⟨t.kind, v, t.name⟩ : Vlu).val) (by simp [results, Try.results28, go_sem, p0, p1, p2]) rfl ⟨⟨t.kind, v, t.name⟩, k3, rfl, hz, by omega, by omega, ?_, ?_⟩
    · repeat (first | exact h3 | refine SrcAt.put ?_ _ _ _ (by assumption) (HC.out _ (by omega)))
    · repeat (first | exact o03 | refine Only.put ?_ (by omega) _)
  have d1 : (r == 1) = false := by simpa using c1
  by_cases c2 : r = 2
  · subst c2
    go_wp2_with fail
    refine (next_any _ b ca len cap (k1' + 1) _ (h2.alloc _) hmax (by omega) (by omega)).mono ?_
    rintro e w3 ⟨r3, q3, rfl, r30, r31, hw3⟩
    rw [if_neg (by omega)] at r31
    obtain ⟨s, hs, hsz⟩ : ∃ s : ByteArray, (w2.alloc (.cells #[.string ⟨#[]⟩, .string ⟨#[65]⟩, .string ⟨#[113]⟩] 9)).cell? ⟨w2.heap.size, r3.toNat, none⟩ = some (.string s) ∧ s.size ≤ 20 :=
      strs_at w2 [⟨#[]⟩, ⟨#[65]⟩, ⟨#[113]⟩] 9 20 (by decide) r3.toNat (by simp; omega)
    have h3 : SrcAt w3 b ca len cap (k1' + 1 + 1) := by rw [hw3]; exact (h2.alloc _).next q3
    have o3 : Only b (w2.alloc (.cells #[.string ⟨#[]⟩, .string ⟨#[65]⟩, .string ⟨#[113]⟩] 9)) w3 := by rw [hw3]; exact only_next _ b (k1' + 1) q3
    have hc3 : w3.cell? ⟨w2.heap.size, r3.toNat, none⟩ = some (.string s) := by
      rw [o3.cell (p := ⟨w2.heap.size, r3.toNat, none⟩) (by simp) (Nat.ne_of_gt h2.lt)]; exact hs
    have r32 : r3 < 3 := by omega
    clear hw3 hs r31
    have T3 := (T2.out.alloc _).only o3 (Ne.symm bne) (Ne.symm bn1)
    have o03 : Only b w w3 := (o02.alloc _).trans o3
    clear o3 o02 h2 T2
    obtain ⟨lb, lt, p0, p1, p2, pf, t0, t1, t2, tf⟩ := T3
    have ne1 : w.heap.size ≠ w1.heap.size := Nat.ne_of_lt hs1
    go_wp2
    refine bodyPost_ret (v := (⟨t.kind, t.num, s⟩ : Vlu).val) (by simp [results, Try.results28, go_sem, p0, p1, p2]) rfl ⟨⟨t.kind, t.num, s⟩, k1' + 1 + 1, rfl, hsz, by omega, by omega, ?_, ?_⟩
    · repeat (first | exact h3 | refine SrcAt.put ?_ _ _ _ (by assumption) (HC.out _ (by omega)))
    · repeat (first | exact o03 | refine Only.put ?_ (by omega) _)
  have d2 : (r == 2) = false := by simpa using c2
  obtain ⟨lb, lt, p0, p1, p2, pf, t0, t1, t2, tf⟩ := T2.out
  have ne1 : w.heap.size ≠ w1.heap.size := Nat.ne_of_lt hs1
  go_wp2
  refine bodyPost_ret (v := t.val) (by simp [results, Try.results28, go_sem, p0, p1, p2]) rfl ⟨t, k1' + 1, rfl, hz, by omega, by omega, ?_, ?_⟩
  · repeat (first | exact h2 | refine SrcAt.put ?_ _ _ _ (by assumption) (HC.out _ (by omega)))
  · repeat (first | exact o02 | refine Only.put ?_ (by omega) _)
end Go.Proofs.Ytbfhoennafopaaa
/-
  The model's draws of pairs that may be wrong, l5Bent, and of what ConsTo is asked, DrawConsTo; nothing that was there is turned.
-/
namespace Go.Proofs.Ytbfhoennafopaaa
open Go.RowKit Go.Extern.Stop Go.Stop Go.Extern Num Go.Lib

theorem made6 (a b c d e f : Value) (t : Pai) (h : t.cells = [a, b, c, d, e, f]) : ∀ n, ((List.range (n * 6)).map fun i => (#[a, b, c, d, e, f] : Array Value)[i % 6]!) = cellsP (List.replicate n t)
  | 0 => rfl
  | n + 1 => by
    have e0 : (n * 6) % 6 = 0 := by omega
    have e1 : (n * 6 + 1) % 6 = 1 := by omega
    have e2 : (n * 6 + 1 + 1) % 6 = 2 := by omega
    have e3 : (n * 6 + 1 + 1 + 1) % 6 = 3 := by omega
    have e4 : (n * 6 + 1 + 1 + 1 + 1) % 6 = 4 := by omega
    have e5 : (n * 6 + 1 + 1 + 1 + 1 + 1) % 6 = 5 := by omega
    rw [show (n + 1) * 6 = n * 6 + 1 + 1 + 1 + 1 + 1 + 1 by omega, List.range_succ, List.range_succ, List.range_succ, List.range_succ, List.range_succ, List.range_succ, List.replicate_succ', cellsP_append, ← made6 a b c d e f t h n]
    simp [e0, e1, e2, e3, e4, e5, cellsP, h]
/-- A pair of zeros. -/
def zeroP : Pai := ⟨⟨0, 0, ⟨#[]⟩⟩, ⟨0, 0, ⟨#[]⟩⟩⟩
theorem own4001 (w : World) : (w.alloc (.cells (madeCells #[.int .i64 0, .int .i64 0, .string ⟨#[]⟩, .int .i64 0, .int .i64 0, .string ⟨#[]⟩] (4001 * 6)) 71)).ownsRow w.heap.size 71 6 (.slice (some ⟨w.heap.size, 0, none⟩) 4001 4001) 4001 (cellsP (List.replicate 4001 zeroP)) := by
  have e : (madeCells #[.int .i64 0, .int .i64 0, .string ⟨#[]⟩, .int .i64 0, .int .i64 0, .string ⟨#[]⟩] (4001 * 6)).toList = cellsP (List.replicate 4001 zeroP) := by
    rw [← made6 (.int .i64 0) (.int .i64 0) (.string ⟨#[]⟩) (.int .i64 0) (.int .i64 0) (.string ⟨#[]⟩) zeroP rfl 4001]
    simp [madeCells]
  have := madeP 4001 (by omega) w
  rw [e] at this
  exact this
set_option maxRecDepth 100000 in
set_option maxHeartbeats 2000000 in
theorem bentP_any (w : World) (B b : Nat) (ca : Option Addr) (len cap : Nat) (hbB : b < B) (hC : ∀ cb co, ca = some ⟨cb, co, none⟩ → 0 < len → cb < B) (hBw : B ≤ w.heap.size) (hmax : (len : Int) ≤ 9223372036854775807) (k : Int) (h : SrcAt w b ca len cap k) (k0 : 0 ≤ k) (k1 : k ≤ 999999980000) :
    Calls Try.prog 27 #[.pointer (some ⟨b, 0, none⟩)] w fun e w' => PairsRes w B b ca len cap k 4001 300 e w' := by
  have HC : Hid (∀ cb co, ca = some ⟨cb, co, none⟩ → 0 < len → cb < B) := hC
  obtain ⟨i0, hi, hz0, hz1, hz2⟩ := info_parts infoP
  have hmk : ∀ w, (Instr.makeSlice 24 (.int .i64 4001) (.int .i64 4001)).run Try.prog w = .ok (.slice (some ⟨w.heap.size, 0, none⟩) 4001 4001) (w.alloc (.cells (madeCells #[.int .i64 0, .int .i64 0, .string ⟨#[]⟩, .int .i64 0, .int .i64 0, .string ⟨#[]⟩] (4001 * 6)) 71)) := makeP 4001 (by omega)
  go_enter Try.func27, Try.ntmps27
  go_wp2_with fail
  refine (right_any _ B b ca len cap hbB hC hBw hmax k h k0 (by omega)).mono ?_
  rintro e w1 ⟨ao, c, l, k1', rfl, ho, hn, hl, k11, k12, hs, hb⟩
  have HO : Hid (w1.ownsRow B 71 6 (.slice (some ⟨ao, 0, none⟩) l.length c) l.length (cellsP l)) := ho
  have HN : Hid (ShortP l) := hn
  have HS : Hid (SrcAt w1 b ca len cap k1') := hs
  have HB : Hid (Below b w w1) := hb
  have hbw := h.lt
  have hz1' : B ≤ w1.heap.size := Nat.le_trans hBw hb.size
  clear ho hn hs hb h hC
  go_wp2_with fail
  refine (next_any _ b ca len cap k1' _ HS.out hmax (by omega) (by omega)).mono ?_
  rintro e w2 ⟨r, q, rfl, r0, r1, hw2⟩
  rw [if_neg (by omega)] at r1
  have o2 : Only b w1 w2 := by rw [hw2]; exact only_next w1 b k1' q
  have HS2 : Hid (SrcAt w2 b ca len cap (k1' + 1)) := by show SrcAt _ _ _ _ _ _; rw [hw2]; exact HS.out.next q
  have HO2 : Hid (w2.ownsRow B 71 6 (.slice (some ⟨ao, 0, none⟩) l.length c) l.length (cellsP l)) := own_onlyP HO.out o2 hbB
  have HB2 : Hid (Below b w w2) := HB.out.trans (o2.below (Nat.le_refl _) (Nat.le_of_lt HS.out.lt))
  have hz2' : B ≤ w2.heap.size := Nat.le_trans hz1' o2.size
  clear hw2 o2
  by_cases c0 : r = 0
  · subst c0
    go_wp2_with fail
    refine (bentV_any _ b ca len cap (k1' + 1) _ HS2.out hmax (by omega) (by omega)).mono ?_
    rintro e w3 ⟨t1, k3, rfl, hn1, k31, k32, h3, o3⟩
    have HS3 : Hid (SrcAt w3 b ca len cap k3) := h3
    have HO3 : Hid (w3.ownsRow B 71 6 (.slice (some ⟨ao, 0, none⟩) l.length c) l.length (cellsP l)) := own_onlyP HO2.out o3 hbB
    have HB3 : Hid (Below b w w3) := HB2.out.trans (o3.below (Nat.le_refl _) (Nat.le_of_lt HS2.out.lt))
    have hz3' : B ≤ w3.heap.size := Nat.le_trans hz2' o3.size
    clear h3 o3
    go_wp2_with fail
    refine (bentV_any _ b ca len cap k3 _ HS3.out hmax (by omega) (by omega)).mono ?_
    rintro e w4 ⟨t2, k4, rfl, hn2, k41, k42, h4, o4⟩
    have HS4 : Hid (SrcAt w4 b ca len cap k4) := h4
    have HO4 : Hid (w4.ownsRow B 71 6 (.slice (some ⟨ao, 0, none⟩) l.length c) l.length (cellsP l)) := own_onlyP HO3.out o4 hbB
    have HB4 : Hid (Below b w w4) := HB3.out.trans (o4.below (Nat.le_refl _) (Nat.le_of_lt HS3.out.lt))
    have hz4' : B ≤ w4.heap.size := Nat.le_trans hz3' o4.size
    clear h4 o4
    go_wp2_with (at_builtin; refine wpList_append_lies _ rfl (.tmp 10) (.tmp 16) 24 rfl B 71 i0 _ 6 64 Try.underlying24 hi hz0 hz1 hz2 rfl (by decide) _ l.length (cellsP l) rfl (HO4.out.alloc _) ⟨_, 0, none⟩ 1 1 [.int .i64 t1.kind, .int .i64 t1.num, .string t1.name, .int .i64 t2.kind, .int .i64 t2.num, .string t2.name] rfl rfl ?c1 ?c2 (by decide) ?c3 ?c4 ?c5 _ rfl ?_)
    case c1 => exact World.news_of_block (cs := #[.int .i64 t1.kind, .int .i64 t1.num, .string t1.name, .int .i64 t2.kind, .int .i64 t2.num, .string t2.name]) (t := 71) (fr := (0, 0)) (heap_new' _ _ _ (by simp))
    case c2 => intro u hu; simp at hu; rcases hu with rfl | rfl | rfl | rfl | rfl | rfl <;> rfl
    case c3 => unfold maxLen; omega
    case c4 => omega
    case c5 => simp; omega
    intro g' cap' w5 hown5 hgrow5 _ _
    obtain ⟨R1, R2, R3⟩ := pair_next (p := ⟨t1, t2⟩) (HO4.out.alloc _) (HS4.out.alloc _) hbB HC.out hown5 hgrow5
    have HR1 : Hid (w5.ownsRow B 71 6 (.slice (some ⟨g', 0, none⟩) (l ++ [(⟨t1, t2⟩ : Pai)]).length cap') (l ++ [(⟨t1, t2⟩ : Pai)]).length (cellsP (l ++ [(⟨t1, t2⟩ : Pai)]))) := R1
    have HR2 : Hid (SrcAt w5 b ca len cap k4) := R2
    have HR3 : Hid (Below b w w5) := (HB4.out.alloc (Nat.le_of_lt HS4.out.lt) _).trans R3
    clear hown5 hgrow5 R1 R2 R3
    go_wp2
    go_ret
    exact ⟨g', cap', l ++ [(⟨t1, t2⟩ : Pai)], k4, by simp, HR1.out, HN.out.next hn1 hn2, by simp; omega, by omega, by omega, HR2.out, HR3.out⟩
  have d0 : (r == 0) = false := by simpa using c0
  by_cases c1 : r = 1
  · subst c1
    go_wp2
    go_ret
    refine ⟨w2.heap.size, 4001, List.replicate 4001 zeroP, k1' + 1, by simp, ?_, fun j hj => by rw [List.getElem_replicate]; exact ⟨Nat.zero_le _, Nat.zero_le _⟩, by rw [List.length_replicate]; exact Nat.le_refl _, by omega, by omega, HS2.out.alloc _, HB2.out.alloc (Nat.le_of_lt HS2.out.lt) _⟩
    rw [List.length_replicate]
    exact own_base (own4001 w2) hz2'
  have d1 : (r == 1) = false := by simpa using c1
  go_wp2
  go_ret
  exact ⟨ao, c, l, k1' + 1, rfl, HO2.out, HN.out, by omega, by omega, by omega, HS2.out, HB2.out⟩
/-- The two boxes of the answer, as they were laid. -/
structure Zz (w u : World) : Prop where
  a0 : u.cell? ⟨w.heap.size, 0, none⟩ = some (.int .i64 0)
  a1 : u.cell? ⟨w.heap.size, 1, none⟩ = some (.int .i64 0)
  a2 : u.cell? ⟨w.heap.size, 2, none⟩ = some (.string ⟨#[]⟩)
  b0 : u.cell? ⟨w.heap.size + 1, 0, none⟩ = some (.int .i64 0)
  b1 : u.cell? ⟨w.heap.size + 1, 1, none⟩ = some (.int .i64 0)
  b2 : u.cell? ⟨w.heap.size + 1, 2, none⟩ = some (.string ⟨#[]⟩)
  fa : ∀ o, u.frozen? ⟨w.heap.size, o, none⟩ = false
  fb : ∀ o, u.frozen? ⟨w.heap.size + 1, o, none⟩ = false
theorem Zz.low {w u v : World} (h : Zz w u) (hb : Below (w.heap.size + 1 + 1) u v) : Zz w v := by
  have c0 : ∀ o, v.cell? ⟨w.heap.size, o, none⟩ = u.cell? ⟨w.heap.size, o, none⟩ := fun o => hb.cell (p := ⟨w.heap.size, o, none⟩) (by show w.heap.size < w.heap.size + 1 + 1; omega)
  have c1 : ∀ o, v.cell? ⟨w.heap.size + 1, o, none⟩ = u.cell? ⟨w.heap.size + 1, o, none⟩ := fun o => hb.cell (p := ⟨w.heap.size + 1, o, none⟩) (by show w.heap.size + 1 < w.heap.size + 1 + 1; omega)
  exact ⟨(c0 0).trans h.a0, (c0 1).trans h.a1, (c0 2).trans h.a2, (c1 0).trans h.b0, (c1 1).trans h.b1, (c1 2).trans h.b2, fun o => (hb.frozen (p := ⟨w.heap.size, o, none⟩) (by show w.heap.size < w.heap.size + 1 + 1; omega)).trans (h.fa o), fun o => (hb.frozen (p := ⟨w.heap.size + 1, o, none⟩) (by show w.heap.size + 1 < w.heap.size + 1 + 1; omega)).trans (h.fb o)⟩
/-- What is drawn for ConsTo: pairs in a row of their own, and two values. -/
def ConsRes (w : World) (e : Ending) (w' : World) : Prop :=
  ∃ (ao c : Nat) (l : List Pai) (a b : Vlu), e = .returned (.tuple #[.slice (some ⟨ao, 0, none⟩) l.length c, a.val, b.val]) ∧ w'.ownsRow w.heap.size 71 6 (.slice (some ⟨ao, 0, none⟩) l.length c) l.length (cellsP l) ∧ ShortP l ∧ l.length ≤ 4001 ∧ a.name.size ≤ 20 ∧ b.name.size ≤ 20 ∧ Below w.heap.size w w'
set_option maxRecDepth 100000 in
set_option maxHeartbeats 2000000 in
theorem drawCons_any (w : World) (ca : Option Addr) (len cap : Nat) (h : Bytes w ca len) (hmax : (len : Int) ≤ 9223372036854775807) :
    Calls Try.prog 7 #[.slice ca len cap] w fun e w' => ConsRes w e w' := by
  have HBy : Hid (Bytes w ca len) := h
  clear h
  have hb0 : ∀ o o', Below w.heap.size w ((w.alloc o).alloc o') := fun o o' => ((Below.refl _ _).alloc (Nat.le_refl _) _).alloc (by simp) _
  go_enter Try.func7, Try.ntmps7
  go_wp2_with fail
  refine (source_any _ ca len cap (HBy.out.below (hb0 _ _))).mono ?_
  rintro e w1 ⟨rfl, h1, b1⟩
  simp only [World.size_alloc] at h1 b1 ⊢
  have hlt := h1.lt
  have hcode := h1.code
  have ZZ : Hid (Zz w w1) := by
    have c0 : ∀ o v, (#[Value.int .i64 0, .int .i64 0, .string ⟨#[]⟩] : Array Value)[o]? = some v → w1.cell? ⟨w.heap.size, o, none⟩ = some v ∧ w1.cell? ⟨w.heap.size + 1, o, none⟩ = some v := fun o v hv => by
      refine ⟨(b1.cell (p := ⟨w.heap.size, o, none⟩) (by show w.heap.size < w.heap.size + 1 + 1; omega)).trans ?_, (b1.cell (p := ⟨w.heap.size + 1, o, none⟩) (by show w.heap.size + 1 < w.heap.size + 1 + 1; omega)).trans ?_⟩
      · rw [World.cell?_alloc_past _ _ _ (by simp), World.cell?_alloc_at _ _ _ _ rfl]; exact hv
      · rw [World.cell?_alloc_at _ _ _ _ (by simp)]; exact hv
    refine ⟨(c0 0 _ rfl).1, (c0 1 _ rfl).1, (c0 2 _ rfl).1, (c0 0 _ rfl).2, (c0 1 _ rfl).2, (c0 2 _ rfl).2, fun o => ?_, fun o => ?_⟩
    · rw [b1.frozen (p := ⟨w.heap.size, o, none⟩) (by show w.heap.size < w.heap.size + 1 + 1; omega), ((Below.refl (w.heap.size + 1) (w.alloc _)).alloc (by simp) _).frozen (p := ⟨w.heap.size, o, none⟩) (by show w.heap.size < w.heap.size + 1; omega), World.frozen?_alloc_at _ _ _ _ rfl]
    · rw [b1.frozen (p := ⟨w.heap.size + 1, o, none⟩) (by show w.heap.size + 1 < w.heap.size + 1 + 1; omega), World.frozen?_alloc_at _ _ _ _ (by simp)]
  have HB1 : Hid (Below w.heap.size w w1) := (hb0 _ _).trans (b1.mono (by omega))
  clear b1
  go_wp2_with fail
  refine (bentP_any w1 w1.heap.size (w.heap.size + 1 + 1) ca len cap hlt hcode (Nat.le_refl _) hmax 0 h1 (by omega) (by omega)).mono ?_
  rintro e w2 ⟨ao, c, l, k2, rfl, ho, hn, hl1, kk1, kk2, hs2, hb2⟩
  have HO2 : Hid (w2.ownsRow w1.heap.size 71 6 (.slice (some ⟨ao, 0, none⟩) l.length c) l.length (cellsP l)) := ho
  have HN : Hid (ShortP l) := hn
  have HS2 : Hid (SrcAt w2 (w.heap.size + 1 + 1) ca len cap k2) := hs2
  have ZZ2 : Hid (Zz w w2) := ZZ.out.low hb2
  have HB2 : Hid (Below w.heap.size w w2) := HB1.out.trans (hb2.mono (by omega))
  have hl2 : l.length ≤ 9223372036854775807 := by omega
  clear ho hn hs2 hb2 h1 hcode
  go_wp2_with fail
  refine (bentV_any _ _ ca len cap k2 _ HS2.out hmax (by omega) (by omega)).mono ?_
  rintro e w3 ⟨t1, k3, rfl, hn1, k31, k32, h3, o3⟩
  have HS3 : Hid (SrcAt w3 (w.heap.size + 1 + 1) ca len cap k3) := h3
  have b3 := o3.below (Nat.le_refl _) (Nat.le_of_lt HS2.out.lt)
  have HO3 : Hid (w3.ownsRow w1.heap.size 71 6 (.slice (some ⟨ao, 0, none⟩) l.length c) l.length (cellsP l)) := own_onlyP HO2.out o3 hlt
  have ZZ3 : Hid (Zz w w3) := ZZ2.out.low b3
  have HB3 : Hid (Below w.heap.size w w3) := HB2.out.trans (b3.mono (by omega))
  clear h3 o3 b3
  go_wp2_with fail
  refine (bentV_any _ _ ca len cap k3 _ HS3.out hmax (by omega) (by omega)).mono ?_
  rintro e w4 ⟨t2, k4, rfl, hn2, k41, k42, h4, o4⟩
  have b4 := o4.below (Nat.le_refl _) (Nat.le_of_lt HS3.out.lt)
  have HO4 : Hid (w4.ownsRow w1.heap.size 71 6 (.slice (some ⟨ao, 0, none⟩) l.length c) l.length (cellsP l)) := own_onlyP HO3.out o4 hlt
  obtain ⟨z0, z1, z2, z3, z4, z5, zf, zg⟩ := ZZ3.out.low b4
  have HB4 : Hid (Below w.heap.size w w4) := HB3.out.trans (b4.mono (by omega))
  clear h4 o4 b4
  go_wp2
  refine bodyPost_ret (v := .tuple #[.slice (some ⟨ao, 0, none⟩) l.length c, t1.val, t2.val]) (by simp [results, Try.results7, go_sem, z0, z1, z2, z3, z4, z5]) rfl ⟨ao, c, l, t1, t2, rfl, ?_, HN.out, hl1, hn1, hn2, ?_⟩
  · refine own_base (base := w1.heap.size) ?_ HB1.out.size
    repeat (first | refine own_set_low ?_ (by omega) _ | exact HO4.out)
  · repeat (first | refine Below.setCell ?_ (by simp) _ | exact HB4.out)
end Go.Proofs.Ytbfhoennafopaaa
