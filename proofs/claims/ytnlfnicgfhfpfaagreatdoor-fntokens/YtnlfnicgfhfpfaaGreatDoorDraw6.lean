/-
  The model's draws of lists of tokens and of texts (DrawTokensText, DrawTokensOf): each answers, in new memory, and turns nothing that was there.
-/
import Derived.Test.YtnlfnicgfhfpfaaGreatDoorDraw5
import Derived.Test.YtnlfnicgfhfpfaaGreatDoorDraw3
import Derived.Laws.MakeOwn
import Derived.Laws.Concat
import Derived.Laws.BytesArg
namespace Go.Proofs.YtnlfnicgfhfpfaaGreatDoor
open Go.RowKit Go.Extern.Stop Go.Stop Go.Extern Num Go.Lib

theorem own_only {w w' : World} {base b : Nat} {e : TypeId} {size n : Nat} {v : Value} {xs : List Value} (h : w.ownsRow base e size v n xs) (o : Only b w w') (hb : b < base) : w'.ownsRow base e size v n xs := by
  refine ⟨h.1, ?_⟩
  rcases h.2 with hn | ⟨g, cap, cur, rfl, hbg, hgg, rest⟩
  · exact .inl hn
  · refine .inr ⟨g, cap, cur, rfl, hbg, ?_, rest⟩
    rw [o.block g (Array.getElem?_eq_some_iff.1 hgg).1 (by omega)]; exact hgg
theorem own_low {w : World} {base base' : Nat} {e : TypeId} {size n : Nat} {v : Value} {xs : List Value} (h : w.ownsRow base e size v n xs) (hb : base' ≤ base) : w.ownsRow base' e size v n xs := by
  refine ⟨h.1, ?_⟩
  rcases h.2 with hn | ⟨g, cap, cur, rfl, hbg, rest⟩
  · exact .inl hn
  · exact .inr ⟨g, cap, cur, rfl, by omega, rest⟩
theorem made3 (a b c : Value) (t : Tok) (h : t.cells = [a, b, c]) : ∀ n, ((List.range (n * 3)).map fun i => (#[a, b, c] : Array Value)[i % 3]!) = cellsOf (List.replicate n t)
  | 0 => rfl
  | n + 1 => by
    have e0 : n * 3 % 3 = 0 := by omega
    have e1 : (n * 3 + 1) % 3 = 1 := by omega
    have e2 : (n * 3 + 1 + 1) % 3 = 2 := by omega
    rw [show (n + 1) * 3 = n * 3 + 1 + 1 + 1 by omega, List.range_succ, List.range_succ, List.range_succ, List.replicate_succ', cellsOf_append, ← made3 a b c t h n]
    simp [e0, e1, e2, cellsOf, h]
theorem make121 (w : World) : (Instr.makeSlice 25 (.int .i64 121) (.int .i64 121)).run Tryz.prog w = .ok (.slice (some ⟨w.heap.size, 0, none⟩) 121 121) (w.alloc (.cells (madeCells #[.int .i64 0, .int .i64 0, .string ⟨#[]⟩] 363) 37)) := by
  obtain ⟨i0, hi, hz0, hz1, hz2⟩ := info_parts tokInfo
  have := run_make (P := Tryz.prog) w 25 37 i0 _ Tryz.underlying25 hi hz0 .i64 .i64 121 121 (by omega) (by omega) (by rw [hz2]; omega) (by omega)
  rw [this, hz1]
  simp [Value.cells]
theorem own121 (w : World) : (w.alloc (.cells (madeCells #[.int .i64 0, .int .i64 0, .string ⟨#[]⟩] 363) 37)).ownsRow w.heap.size 37 3 (.slice (some ⟨w.heap.size, 0, none⟩) 121 121) 121 (cellsOf (List.replicate 121 ⟨0, 0, ⟨#[]⟩⟩)) := by
  have e : (madeCells #[.int .i64 0, .int .i64 0, .string ⟨#[]⟩] 363).toList = cellsOf (List.replicate 121 ⟨0, 0, ⟨#[]⟩⟩) := by
    have := made3 (.int .i64 0) (.int .i64 0) (.string ⟨#[]⟩) ⟨0, 0, ⟨#[]⟩⟩ rfl 121
    rw [← this]
    simp [madeCells]
  refine ⟨by rw [cellsOf_length]; simp, .inr ⟨w.heap.size, 121, _, rfl, Nat.le_refl _, heap_alloc_new w _, Nat.le_refl _, by unfold maxLen; omega, by simp [madeCells], ?_⟩⟩
  rw [e, List.take_of_length_le]
  rw [cellsOf_length]; simp
/-- What a draw of a list of tokens comes to. -/
def ListRes (w : World) (e : Ending) (w' : World) : Prop :=
  ∃ (g c : Nat) (l : List Tok), e = .returned (.slice (some ⟨g, 0, none⟩) l.length c) ∧ w'.ownsRow w.heap.size 37 3 (.slice (some ⟨g, 0, none⟩) l.length c) l.length (cellsOf l) ∧ l.length ≤ 121 ∧ (∀ (k : Nat) (h : k < l.length), l[k].name.size ≤ 1048576) ∧ Below w.heap.size w w'
theorem list121 (w w3 : World) (hb : Below w.heap.size w w3) : ListRes w (.returned (.slice (some ⟨w3.heap.size, 0, none⟩) 121 121)) (w3.alloc (.cells (madeCells #[.int .i64 0, .int .i64 0, .string ⟨#[]⟩] 363) 37)) := by
  have hl : (List.replicate 121 (⟨0, 0, ⟨#[]⟩⟩ : Tok)).length = 121 := List.length_replicate
  refine ⟨w3.heap.size, 121, List.replicate 121 ⟨0, 0, ⟨#[]⟩⟩, by rw [hl], ?_, by rw [hl]; exact Nat.le_refl _, fun k hk => ?_, hb.alloc hb.size _⟩
  · rw [hl]; exact own_low (own121 w3) hb.size
  · rw [List.getElem_replicate]; exact Nat.zero_le _
def Names (l : List Tok) : Prop := ∀ t ∈ l, t.name.size ≤ 20
theorem Names.at {l : List Tok} (h : Names l) : ∀ (k : Nat) (hk : k < l.length), l[k].name.size ≤ 1048576 := fun k hk => Nat.le_trans (h _ (List.getElem_mem hk)) (by omega)
theorem Names.next {l : List Tok} (h : Names l) {t : Tok} (ht : t.name.size ≤ 20) : Names (l ++ [t]) := by
  intro x hx
  rcases List.mem_append.1 hx with hx | hx
  · exact h x hx
  · rw [List.mem_singleton.1 hx]; exact ht
/-- Behind an append of a drawn token. -/
theorem draw_next {w W w1 : World} {B b g c g' c' len cap : Nat} {ca : Option Addr} {cnt : Int} {l : List Tok} {t : Tok}
    (hown : W.ownsRow B 37 3 (.slice (some ⟨g, 0, none⟩) l.length c) l.length (cellsOf l)) (hs : SrcAt W b ca len cap cnt) (hb : Below w.heap.size w W) (hB : w.heap.size ≤ B) (hbB : b < B) (hC : ∀ cb co, ca = some ⟨cb, co, none⟩ → 0 < len → cb < B)
    (hown' : w1.ownsRow B 37 3 (.slice (some ⟨g', 0, none⟩) (l.length + 1) c') (l.length + 1) (cellsOf l ++ [.int .i64 t.kind, .int .i64 t.num, .string t.name])) (hgrow : W.grownBy w1 (Value.slice (some ⟨g, 0, none⟩) l.length c).ownBlock) :
    w1.ownsRow B 37 3 (.slice (some ⟨g', 0, none⟩) (l ++ [t]).length c') (l ++ [t]).length (cellsOf (l ++ [t])) ∧ SrcAt w1 b ca len cap cnt ∧ Below w.heap.size w w1 := by
  have hg := (hown.lt g rfl).1
  refine ⟨?_, hs.keep g (fun i hi hn => hgrow.block i hi (by intro e; apply hn; have := Option.some.inj e; simp at this; omega)) (by omega) (fun cb co e hl => by have := hC cb co e hl; omega), hb.grown hgrow hb.size (fun j hj => by have := (hown.lt j hj).1; omega)⟩
  rw [cellsOf_append, List.length_append]
  exact hown'
set_option maxRecDepth 100000 in
set_option maxHeartbeats 2000000 in
theorem drawList_any (w : World) (ca : Option Addr) (len cap : Nat) (h : Bytes w ca len) (hmax : (len : Int) ≤ 9223372036854775807) :
    Calls Tryz.prog 9 #[.slice ca len cap] w fun e w' => ListRes w e w' := by
  have hmk := make121
  obtain ⟨i0, hi, hz0, hz1, hz2⟩ := info_parts tokInfo
  go_enter Tryz.func9, Tryz.ntmps9
  go_wp2_with fail
  refine (source_any _ ca len cap h).mono ?_
  rintro e w1 ⟨rfl, h1, b1⟩
  have hlt := h1.lt
  have HC : Hid (∀ cb co, ca = some ⟨cb, co, none⟩ → 0 < len → cb < w1.heap.size) := h1.code
  clear h
  go_wp2_with fail
  refine (next_any _ _ ca len cap 0 _ (h1.alloc _) hmax (by omega) (by omega)).mono ?_
  rintro e w2 ⟨r, q, rfl, r0, r1, hw2⟩
  rw [if_neg (by omega)] at r1
  have HS2 : Hid (SrcAt w2 w.heap.size ca len cap (0 + 1)) := by rw [hw2]; exact (h1.alloc _).next q
  have o2 : Only w.heap.size (w1.alloc (.cells #[] 37)) w2 := by rw [hw2]; exact only_next _ _ 0 q
  have HO2 : Hid (w2.ownsRow w1.heap.size 37 3 (.slice (some ⟨w1.heap.size, 0, none⟩) 0 0) 0 (cellsOf [])) := own_only (World.ownsRow_made w1 #[] 0 (Nat.le_refl _) (Nat.zero_le _) rfl) o2 hlt
  have HB2 : Hid (Below w.heap.size w w2) := (b1.alloc b1.size _).trans (o2.below (Nat.le_refl _) (by simp; omega))
  have hsz : w.heap.size < w1.heap.size := hlt
  clear hw2 o2 b1 h1
  have r9 : r ≤ 9 := by omega
  clear r1
  go_wp2_with fail
  go_loopw [4, 5] (fun v i wr => ∃ (l : List Tok) (g c : Nat) (m cnt : Int), 0 ≤ m ∧ (l.length : Int) + m ≤ 9 ∧ i = .int .i64 m ∧ v = .slice (some ⟨g, 0, none⟩) l.length c ∧ 0 ≤ cnt ∧ cnt ≤ 1 + 4 * (l.length : Int) ∧ Hid (SrcAt wr w.heap.size ca len cap cnt) ∧ Hid (wr.ownsRow w1.heap.size 37 3 (.slice (some ⟨g, 0, none⟩) l.length c) l.length (cellsOf l)) ∧ Hid (Below w.heap.size w wr) ∧ Hid (Names l)) (fun _ i _ => (RowKit.intOf i).toNat)
  case atStart => exact ⟨[], w1.heap.size, 0, r, 0 + 1, r0, by simp; omega, rfl, rfl, by omega, by simp, HS2.out, HO2.out, HB2.out, fun t ht => by cases ht⟩
  case round =>
    obtain ⟨l, g, c, m, cnt, m0, m9, rfl, rfl, c0, c1, HS, HO, HB, HN⟩ := hrel
    clear HS2 HO2 HB2
    have hzr : w.heap.size ≤ wr.heap.size := HB.out.size
    by_cases hm : 0 < m
    · go_wp2_with fail
      refine (tokDraw_any _ _ ca len cap cnt HS.out hmax c0 (by omega)).mono ?_
      rintro e w3 ⟨t, k3, rfl, hz, k31, k32, h3, o3⟩
      have HS3 : Hid (SrcAt w3 w.heap.size ca len cap k3) := h3
      have HO3 : Hid (w3.ownsRow w1.heap.size 37 3 (.slice (some ⟨g, 0, none⟩) l.length c) l.length (cellsOf l)) := own_only HO.out o3 hsz
      have HB3 : Hid (Below w.heap.size w w3) := HB.out.trans (o3.below (Nat.le_refl _) hzr)
      have HT : Hid (t.name.size ≤ 20) := hz
      have hz3 : w1.heap.size ≤ w3.heap.size := by have := (HO3.out.lt g rfl); omega
      clear h3 o3 hz HS HO HB
      go_wp2_with (first | (at_builtin; refine wpList_append_lies _ rfl (.tmp 15) (.tmp 18) 25 rfl w1.heap.size 37 i0 _ 3 32 Tryz.underlying25 hi hz0 hz1 hz2 rfl (by decide) _ l.length (cellsOf l) rfl (HO3.out.alloc _) ⟨_, 0, none⟩ 1 1 [.int .i64 t.kind, .int .i64 t.num, .string t.name] rfl rfl ?c1 ?c2 (by decide) ?c3 ?c4 ?c5 _ rfl ?_))
      case c1 => exact news3 (heap_new' _ _ _ (by simp))
      case c2 => intro u hu; simp at hu; rcases hu with rfl | rfl | rfl <;> rfl
      case c3 => unfold maxLen; omega
      case c4 => omega
      case c5 => simp; omega
      intro g' cap' w4 hown4 hgrow4 _ _
      have R : Hid _ := draw_next (t := t) (HO3.out.alloc _) (HS3.out.alloc _) (HB3.out.alloc HB3.out.size _) (Nat.le_of_lt hsz) hsz HC.out hown4 hgrow4
      clear hown4 hgrow4
      go_wp2
      exact ⟨⟨l ++ [t], g', cap', m - 1, k3, by omega, by simp; omega, by go_num, by simp, by omega, by simp; omega, R.out.2.1, R.out.1, R.out.2.2, HN.out.next HT.out⟩, by simp [RowKit.intOf]; omega⟩
    · go_wp2_with fail
      refine (next_any _ _ ca len cap cnt _ HS.out hmax c0 (by omega)).mono ?_
      rintro e w3 ⟨r3, q3, rfl, r30, r31, hw3⟩
      have HS3 : Hid (SrcAt w3 w.heap.size ca len cap (cnt + 1)) := by rw [hw3]; exact HS.out.next q3
      have o3 : Only w.heap.size wr w3 := by rw [hw3]; exact only_next _ _ cnt q3
      have HO3 : Hid (w3.ownsRow w1.heap.size 37 3 (.slice (some ⟨g, 0, none⟩) l.length c) l.length (cellsOf l)) := own_only HO.out o3 hsz
      have HB3 : Hid (Below w.heap.size w w3) := HB.out.trans (o3.below (Nat.le_refl _) hzr)
      clear hw3 o3 HS HO HB r31
      by_cases c0' : r3 = 0
      · subst c0'
        go_wp2_with fail
        refine (tokBent_any _ _ ca len cap (cnt + 1) HS3.out hmax (by omega) (by omega)).mono ?_
        rintro e w4 ⟨t, k4, rfl, hz, k41, k42, h4, o4⟩
        have HO4 : Hid (w4.ownsRow w1.heap.size 37 3 (.slice (some ⟨g, 0, none⟩) l.length c) l.length (cellsOf l)) := own_only HO3.out o4 hsz
        have HB4 : Hid (Below w.heap.size w w4) := HB3.out.trans (o4.below (Nat.le_refl _) HB3.out.size)
        have HS4 : Hid (SrcAt w4 w.heap.size ca len cap k4) := h4
        have HT : Hid (t.name.size ≤ 20) := hz
        have hz4 : w1.heap.size ≤ w4.heap.size := by have := (HO4.out.lt g rfl); omega
        clear h4 o4 hz HS3 HO3 HB3
        go_wp2_with (first | (at_builtin; refine wpList_append_lies _ rfl (.tmp 24) (.tmp 27) 25 rfl w1.heap.size 37 i0 _ 3 32 Tryz.underlying25 hi hz0 hz1 hz2 rfl (by decide) _ l.length (cellsOf l) rfl (HO4.out.alloc _) ⟨_, 0, none⟩ 1 1 [.int .i64 t.kind, .int .i64 t.num, .string t.name] rfl rfl ?c1 ?c2 (by decide) ?c3 ?c4 ?c5 _ rfl ?_))
        case c1 => exact news3 (heap_new' _ _ _ (by simp))
        case c2 => intro u hu; simp at hu; rcases hu with rfl | rfl | rfl <;> rfl
        case c3 => unfold maxLen; omega
        case c4 => omega
        case c5 => simp; omega
        intro g' cap' w5 hown5 hgrow5 _ _
        have R : Hid _ := draw_next (t := t) (HO4.out.alloc _) (HS4.out.alloc _) (HB4.out.alloc HB4.out.size _) (Nat.le_of_lt hsz) hsz HC.out hown5 hgrow5
        clear hown5 hgrow5
        go_wp2
        go_ret
        exact ⟨g', cap', l ++ [t], by simp, own_low R.out.1 (Nat.le_of_lt hsz), by simp; omega, (HN.out.next HT.out).at, R.out.2.2⟩
      have d0 : (r3 == 0) = false := by simpa using c0'
      by_cases c1' : r3 = 1
      · subst c1'
        go_wp2
        go_ret
        exact list121 w w3 HB3.out
      have d1 : (r3 == 1) = false := by simpa using c1'
      go_wp2
      go_ret
      exact ⟨g, c, l, rfl, own_low HO3.out (Nat.le_of_lt hsz), by omega, HN.out.at, HB3.out⟩
theorem byteInfo : (Tryz.prog.info? 5).map (fun i => (i.zero, i.size, i.bytes)) = some (some (.int .u8 0), 1, 1) := by kernel_rfl
theorem make401 (w : World) : (Instr.makeSlice 22 (.int .i64 401) (.int .i64 401)).run Tryz.prog w = .ok (.slice (some ⟨w.heap.size, 0, none⟩) 401 401) (w.alloc (.cells (madeCells #[.int .u8 0] 401) 5)) := by
  obtain ⟨i0, hi, hz0, hz1, hz2⟩ := info_parts byteInfo
  have := run_make (P := Tryz.prog) w 22 5 i0 _ Tryz.underlying22 hi hz0 .i64 .i64 401 401 (by omega) (by omega) (by rw [hz2]; omega) (by omega)
  rw [this, hz1]
  simp [Value.cells]
theorem made1 (z : Value) (n i : Nat) (hi : i < n) : (madeCells #[z] n)[i]? = some z := by simp [madeCells, hi, Nat.mod_one]
theorem rep_getD (n i : Nat) : (List.replicate n (0 : Int)).getD i 0 = 0 := by
  by_cases h : i < n
  · simp [List.getD, h]
  · simp [List.getD, h]
theorem conv401 (w : World) : (convert 22 9 (.slice (some ⟨w.heap.size, 0, none⟩) 401 401)).run Tryz.prog (w.alloc (.cells (madeCells #[.int .u8 0] 401) 5)) = .ok (.string (strOfNums (List.replicate 401 0))) (w.alloc (.cells (madeCells #[.int .u8 0] 401) 5)) := by
  refine run_convert_bytes_arg _ 22 5 Tryz.underlying22 Tryz.underlying5 w.heap.size 0 401 401 (List.replicate 401 0) List.length_replicate (fun i hi => ?_) 9 Tryz.underlying9
  rw [Nat.zero_add, cell_of_row _ w.heap.size i _ 5 (0, 0) (heap_alloc_new w _), made1 _ _ _ hi, rep_getD]
theorem nums_size (l : List Int) : (strOfNums l).size = l.length := by simp [strOfNums, ByteArray.size]
theorem ints_in (w : World) (L : List Int) (t : TypeId) (Pr : Int → Prop) (hP : ∀ x ∈ L, Pr x) (j : Nat) (hj : j < L.length) :
    ∃ v : Int, (w.alloc (.cells (L.map (Value.int .i64)).toArray t)).cell? ⟨w.heap.size, j, none⟩ = some (.int .i64 v) ∧ Pr v := by
  refine ⟨L[j], ?_, hP _ (List.getElem_mem hj)⟩
  rw [cell_of_row _ w.heap.size j _ t (0, 0) (heap_alloc_new w _)]
  simp [hj]
def In16 (v : Int) : Prop := 0 ≤ v ∧ v < 16
/-- What a draw of a longer text comes to. -/
def LongRes (w : World) (e : Ending) (w' : World) : Prop := ∃ s : ByteArray, e = .returned (.string s) ∧ s.size ≤ 1000 ∧ Below w.heap.size w w'
set_option maxRecDepth 100000 in
set_option maxHeartbeats 2000000 in
theorem drawLong_any (w : World) (ca : Option Addr) (len cap : Nat) (h : Bytes w ca len) (hmax : (len : Int) ≤ 9223372036854775807) :
    Calls Tryz.prog 5 #[.slice ca len cap] w fun e w' => LongRes w e w' := by
  have hmk := make401
  obtain ⟨X, hX, hcv⟩ : ∃ X : ByteArray, X.size ≤ 1000 ∧ ∀ w : World, (convert 22 9 (.slice (some ⟨w.heap.size, 0, none⟩) 401 401)).run Tryz.prog (w.alloc (.cells (madeCells #[.int .u8 0] 401) 5)) = .ok (.string X) (w.alloc (.cells (madeCells #[.int .u8 0] 401) 5)) := ⟨_, by rw [nums_size, List.length_replicate]; omega, conv401⟩
  go_enter Tryz.func5, Tryz.ntmps5
  go_wp2_with fail
  refine (source_any _ ca len cap h).mono ?_
  rintro e w1 ⟨rfl, h1, b1⟩
  have hlt := h1.lt
  clear h
  go_wp2_with fail
  refine (next_any _ _ ca len cap 0 _ h1 hmax (by omega) (by omega)).mono ?_
  rintro e w2 ⟨r, q, rfl, r0, r1, hw2⟩
  rw [if_neg (by omega)] at r1
  have HS2 : Hid (SrcAt w2 w.heap.size ca len cap (0 + 1)) := by rw [hw2]; exact h1.next q
  have o2 : Only w.heap.size w1 w2 := by rw [hw2]; exact only_next _ _ 0 q
  have HB2 : Hid (Below w.heap.size w w2) := b1.trans (o2.below (Nat.le_refl _) b1.size)
  clear hw2 o2 b1 h1
  have r11 : r ≤ 11 := by omega
  clear r1
  go_wp2_with fail
  go_loopw [4, 5] (fun v i wr => ∃ (s : ByteArray) (m cnt : Int), 0 ≤ m ∧ m ≤ 11 ∧ v = .string s ∧ i = .int .i64 m ∧ Hid ((s.size : Int) ≤ 20 * (11 - m)) ∧ 0 ≤ cnt ∧ cnt ≤ 1 + 2 * (11 - m) ∧ Hid (SrcAt wr w.heap.size ca len cap cnt) ∧ Hid (Below w.heap.size w wr)) (fun _ i _ => (RowKit.intOf i).toNat)
  case atStart => exact ⟨⟨#[]⟩, r, 0 + 1, r0, r11, rfl, rfl, by show ((0 : Nat) : Int) ≤ _; omega, by omega, by omega, HS2.out, HB2.out⟩
  case round =>
    obtain ⟨s, m, cnt, m0, m11, rfl, rfl, HZ, c0, c1, HS, HB⟩ := hrel
    clear HS2 HB2
    have hzr : w.heap.size ≤ wr.heap.size := HB.out.size
    by_cases hm : 0 < m
    · go_wp2_with fail
      refine (next_any _ _ ca len cap cnt _ (HS.out.alloc _) hmax c0 (by omega)).mono ?_
      rintro e w3 ⟨r3, q3, rfl, r30, r31, hw3⟩
      rw [if_neg (by omega)] at r31
      have HS3 : Hid (SrcAt w3 w.heap.size ca len cap (cnt + 1)) := by rw [hw3]; exact (HS.out.alloc _).next q3
      have o3 : Only w.heap.size (wr.alloc (.cells #[.string ⟨#[40]⟩, .string ⟨#[41]⟩, .string ⟨#[39]⟩, .string ⟨#[32]⟩, .string ⟨#[10]⟩, .string ⟨#[49, 50, 32]⟩, .string ⟨#[45, 51]⟩, .string ⟨#[32, 120]⟩, .string ⟨#[99, 97, 114, 32]⟩, .string ⟨#[35, 116]⟩, .string ⟨#[59, 32, 97, 10]⟩, .string ⟨#[40, 102, 32, 49, 41]⟩, .string ⟨#[35, 120]⟩, .string ⟨#[65]⟩, .string ⟨#[49, 97]⟩, .string ⟨#[59]⟩] 9)) w3 := by rw [hw3]; exact only_next _ _ cnt q3
      have hs3 : wr.heap.size < w3.heap.size := by have := o3.size; simp at this; omega
      have HT3 : Hid (∀ j, j < 16 → ∃ x : ByteArray, w3.cell? ⟨wr.heap.size, j, none⟩ = some (.string x) ∧ x.size ≤ 20) := fun j hj => by
        obtain ⟨x, hx, hz⟩ := strs_at wr [⟨#[40]⟩, ⟨#[41]⟩, ⟨#[39]⟩, ⟨#[32]⟩, ⟨#[10]⟩, ⟨#[49, 50, 32]⟩, ⟨#[45, 51]⟩, ⟨#[32, 120]⟩, ⟨#[99, 97, 114, 32]⟩, ⟨#[35, 116]⟩, ⟨#[59, 32, 97, 10]⟩, ⟨#[40, 102, 32, 49, 41]⟩, ⟨#[35, 120]⟩, ⟨#[65]⟩, ⟨#[49, 97]⟩, ⟨#[59]⟩] 9 20 (by decide) j hj
        exact ⟨x, (o3.cell (p := ⟨wr.heap.size, j, none⟩) (by simp) (by have := HS.out.lt; show wr.heap.size ≠ w.heap.size; omega)).trans hx, hz⟩
      have HB3 : Hid (Below w.heap.size w w3) := (HB.out.alloc hzr _).trans (o3.below (Nat.le_refl _) (by simp; omega))
      clear hw3 o3
      go_wp2_with fail
      refine (pick_any _ _ w3.heap.size 16 ca len cap (cnt + 1) (HS3.out.alloc _) hmax (by omega) (by omega) (Nat.ne_of_gt HS3.out.lt) (by omega) (by omega) In16
        (ints_in w3 [0, 1, 2, 3, 4, 5, 6, 7, 8, 9, 10, 11, 0, 1, 3, r3] _ In16 (by
          intro x hx
          simp only [List.mem_cons, List.not_mem_nil, or_false] at hx
          unfold In16
          omega))).mono ?_
      rintro e w4 ⟨v, k4, rfl, hv, k41, k42, h4, o4⟩
      have hv0 : 0 ≤ v := hv.1
      have hv1 : v < 16 := hv.2
      obtain ⟨x, hx, hxz⟩ := HT3.out v.toNat (by omega)
      have hx4 : w4.cell? ⟨wr.heap.size, v.toNat, none⟩ = some (.string x) := by
        rw [o4.cell (p := ⟨wr.heap.size, v.toNat, none⟩) (by simp; omega) (by have := HS.out.lt; show wr.heap.size ≠ w.heap.size; omega)]
        exact cell_laid _ hx
      have HB4 : Hid (Below w.heap.size w w4) := (HB3.out.alloc HB3.out.size _).trans (o4.below (Nat.le_refl _) (by have := HB3.out.size; simp; omega))
      have HS4 : Hid (SrcAt w4 w.heap.size ca len cap k4) := h4
      have HZ4 : Hid (((s ++ x).size : Int) ≤ 20 * (11 - (m - 1))) := by
        have := HZ.out
        show ((s ++ x).size : Int) ≤ _
        rw [ByteArray.size_append]; omega
      have hsa := fun (w : World) => run_string_add_sum (P := Tryz.prog) w s x (by have := HZ.out; omega)
      clear hv hx h4 o4 HS3 HB3 HT3 hxz r31
      go_wp2
      exact ⟨⟨s ++ x, m - 1, k4, by omega, by omega, rfl, by go_num, HZ4.out, by omega, by omega, HS4.out, HB4.out⟩, by simp [RowKit.intOf]; omega⟩
    · go_wp2_with fail
      refine (chance_any _ _ ca len cap cnt _ HS.out hmax c0 (by omega)).mono ?_
      rintro e w3 ⟨t3, rfl, h3, o3⟩
      have HS3 : Hid (SrcAt w3 w.heap.size ca len cap (cnt + 1)) := h3
      have HB3 : Hid (Below w.heap.size w w3) := HB.out.trans (o3.below (Nat.le_refl _) hzr)
      have HZ3 : Hid ((s.size : Int) ≤ 220) := by have := HZ.out; show (s.size : Int) ≤ 220; omega
      clear h3 o3 HS HB HZ
      cases t3
      · go_wp2_with fail
        refine (chance_any _ _ ca len cap (cnt + 1) _ HS3.out hmax (by omega) (by omega)).mono ?_
        rintro e w4 ⟨t4, rfl, h4, o4⟩
        have HB4 : Hid (Below w.heap.size w w4) := HB3.out.trans (o4.below (Nat.le_refl _) HB3.out.size)
        clear h4 o4 HS3 HB3
        cases t4
        · go_wp2
          go_ret
          exact ⟨s, rfl, by have := HZ3.out; omega, HB4.out⟩
        · go_wp2
          go_ret
          exact ⟨X, rfl, hX, HB4.out.alloc HB4.out.size _⟩
      · go_wp2_with fail
        go_loopw [4, 6] (fun v i wz => ∃ (y : ByteArray) (j : Nat), j ≤ 121 ∧ v = .string y ∧ i = .int .i64 (j : Int) ∧ Hid (y.size ≤ 220 + 2 * j) ∧ Hid (wz = w3)) (fun _ i _ => 121 - (RowKit.intOf i).toNat)
        case atStart => exact ⟨s, 0, by omega, rfl, rfl, by have := HZ3.out; show s.size ≤ _; omega, rfl⟩
        case round =>
          obtain ⟨y, j, hj, rfl, rfl, HY, HW⟩ := hrel
          by_cases hlt : (j : Int) < 121
          · have hsa := fun (w : World) => run_string_add_sum (P := Tryz.prog) w y ⟨#[40, 32]⟩ (by have := HY.out; have e : (⟨#[40, 32]⟩ : ByteArray).size = 2 := rfl; omega)
            go_wp2
            exact ⟨⟨y ++ ⟨#[40, 32]⟩, j + 1, by omega, rfl, by go_num, by have := HY.out; have e : (⟨#[40, 32]⟩ : ByteArray).size = 2 := rfl; show (y ++ ⟨#[40, 32]⟩).size ≤ _; rw [ByteArray.size_append]; omega, HW.out⟩, by simp [RowKit.intOf]; omega⟩
          · have HBz : Hid (Below w.heap.size w wr) := by rw [HW.out]; exact HB3.out
            have HSz : Hid (SrcAt wr w.heap.size ca len cap (cnt + 1)) := by rw [HW.out]; exact HS3.out
            clear HW HB3 HS3
            go_wp2_with fail
            refine (chance_any _ _ ca len cap (cnt + 1) _ HSz.out hmax (by omega) (by omega)).mono ?_
            rintro e w4 ⟨t4, rfl, h4, o4⟩
            have HB4 : Hid (Below w.heap.size w w4) := HBz.out.trans (o4.below (Nat.le_refl _) HBz.out.size)
            clear h4 o4 HSz HBz
            cases t4
            · go_wp2
              go_ret
              exact ⟨y, rfl, by have := HY.out; omega, HB4.out⟩
            · go_wp2
              go_ret
              exact ⟨X, rfl, hX, HB4.out.alloc HB4.out.size _⟩
end Go.Proofs.YtnlfnicgfhfpfaaGreatDoor
