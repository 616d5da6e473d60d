/-
  The laws' sz, to and eq at stacks in pieces: how great one is, one made anew, two that are the same; nothing that was there is turned.
-/
import Derived.Test.YtdohpfckiahlcaaSgSee
namespace Go.Proofs.Ytdohpfckiahlcaa
open Go.RowKit Go.Extern.Stop Go.Stop Go.Extern Num Go.Lib

/-- What sz answers: -1, or what is left. -/
def SZn (m n : Nat) (w : World) (e : Ending) (w' : World) : Prop := ((e = .returned (.int .i64 (-1)) ∧ n < m) ∨ (∃ q : Nat, q + m = n ∧ e = .returned (.int .i64 (q : Int)))) ∧ Below w.heap.size w w'
theorem szI_any (ao : Option Addr) (cap m n : Nat) (w : World) (hn : n ≤ 1048576) (hm : m ≤ 9223372036854775807) :
    Calls Try.prog 37 #[.slice ao m cap, .int .i64 (n : Int)] w fun e w' => SZn m n w e w' := by
  by_cases h : n < m
  · go_enter Try.func37, Try.ntmps37
    go_wp2
    go_ret
    exact ⟨.inl ⟨rfl, h⟩, Below.refl _ _⟩
  · have h0 : (m : Int) ≤ (n : Int) := by omega
    go_enter Try.func37, Try.ntmps37
    go_wp2
    go_ret
    have e : ((n - m : Nat) : Int) = (n : Int) - (m : Int) := by omega
    exact ⟨.inr ⟨n - m, by omega, by rw [e]; rfl⟩, Below.refl _ _⟩
theorem szSp_any (ao : Option Addr) (cap m n : Nat) (w : World) (hn : n ≤ 1048576) (hm : m ≤ 9223372036854775807) :
    Calls Try.prog 23 #[.agg #[.slice ao m cap], .int .i64 (n : Int)] w fun e w' => SZn m n w e w' := by
  have HS : Hid (∀ u, Calls Try.prog 37 #[.slice ao m cap, .int .i64 (n : Int)] u fun e w' => SZn m n u e w') := fun u => szI_any ao cap m n u hn hm
  go_enter Try.func23, Try.ntmps23
  go_wp2_with fail
  refine (HS.out _).mono ?_
  rintro e w1 ⟨h1, b1⟩
  have HB : Hid (Below w.heap.size w w1) := ((Below.refl _ w).alloc (Nat.le_refl _) _).trans (b1.mono (by simp))
  clear b1
  rcases h1 with ⟨rfl, h⟩ | ⟨q, hq, rfl⟩
  · go_wp2
    go_ret
    exact ⟨.inl ⟨rfl, h⟩, HB.out⟩
  · have hq2 : q ≤ 1048576 := by omega
    have HQ : Hid (q + m = n) := hq
    clear hq
    go_wp2
    go_ret
    exact ⟨.inr ⟨q, HQ.out, rfl⟩, HB.out⟩
/-- What came in: it is not too long for any machine. -/
def AbleP (ps : List (List Int)) : Prop := ps.length ≤ 9223372036854775807 ∧ ∀ (k : Nat) (h : k < ps.length), ps[k].length ≤ 9223372036854775807
set_option maxHeartbeats 1000000 in
theorem szSps_any (v : Value) (ps : List (List Int)) (n : Nat) (w : World) (hn : n ≤ 1048576) (ha : AbleP ps) (h : SeeP w v ps) :
    Calls Try.prog 13 #[v, .int .i64 (n : Int)] w fun e w' => SZn (ps.length + ps.flatten.length) n w e w' := by
  obtain ⟨hl0, hz⟩ := ha
  have HT : Hid (∀ u, Below w.heap.size w u → SeeP u v ps) := fun u hu => h.below hu
  have HZ : Hid (∀ (k : Nat) (h : k < ps.length), ps[k].length ≤ 9223372036854775807) := hz
  obtain ⟨a, c, rfl, -⟩ := id h
  clear h hz
  by_cases hl : n < ps.length
  · have HL : Hid (n < ps.length + ps.flatten.length) := by show _ < _; omega
    go_enter Try.func13, Try.ntmps13
    go_wp2
    go_ret
    exact ⟨.inl ⟨rfl, HL.out⟩, Below.refl _ _⟩
  go_enter Try.func13, Try.ntmps13
  go_wp2_with fail
  go_loopw [1, 5] (fun v i wr => ∃ k q : Nat, k ≤ ps.length ∧ q ≤ 1048576 ∧ v = .int .i64 (q : Int) ∧ i = .int .i64 (k : Int) ∧ Hid (q + (ps.length + (ps.take k).flatten.length) = n) ∧ Below w.heap.size w wr) (fun _ i _ => ps.length - (RowKit.intOf i).toNat)
  case atStart => exact ⟨0, n - ps.length, Nat.zero_le _, by omega, by congr 1; omega, rfl, by show _ = _; simp; omega, Below.refl _ _⟩
  case round =>
    obtain ⟨k, q, hk, hq, rfl, rfl, HQ, hb⟩ := hrel
    have HB : Hid (Below w.heap.size w wr) := hb
    clear hb
    by_cases hlt : k < ps.length
    · obtain ⟨a', c', e', hc⟩ := HT.out wr HB.out
      obtain ⟨rfl, rfl⟩ : a = a' ∧ c = c' := by simp at e'; exact e'
      obtain ⟨b, off, rfl, h2⟩ := hc (by omega)
      obtain ⟨u, cz, ai, ci, rfl, -⟩ := h2 k hlt
      have HX : Hid (Calls Try.prog 23 #[.agg #[.slice ai (ps[k]'hlt).length ci], .int .i64 (q : Int)] wr fun e w' => SZn (ps[k]'hlt).length q wr e w') := szSp_any ai ci _ q wr hq (HZ.out k hlt)
      have HN := flat_len_next ps k hlt
      have HF := flat_le ps (k + 1)
      have HN' : Hid _ := HN
      have HF' : Hid _ := HF
      clear hc h2 e' HN HF
      go_wp2_with (go_at_call 23; refine HX.out.mono ?_)
      rintro e w1 ⟨h1, b1⟩
      have HB1 : Hid (Below w.heap.size w w1) := HB.out.trans (b1.mono HB.out.size)
      clear b1
      rcases h1 with ⟨rfl, h⟩ | ⟨q', hq', rfl⟩
      · have HL : Hid (n < ps.length + ps.flatten.length) := by
          have h1 := HQ.out; have h2 := HN'.out; have h3 := HF'.out
          show _ < _; omega
        clear h
        go_wp2
        go_ret
        exact ⟨.inl ⟨rfl, HL.out⟩, HB1.out⟩
      · have HQ1 : Hid (q' + (ps.length + (ps.take (k + 1)).flatten.length) = n) := by
          have h1 := HQ.out; have h2 := HN'.out
          show _ = _; omega
        have hq2 : q' ≤ 1048576 := by omega
        clear hq'
        go_wp2
        exact ⟨⟨k + 1, q', by omega, hq2, rfl, by go_num, HQ1.out, HB1.out⟩, by simp [RowKit.intOf]; omega⟩
    · have HE : Hid (q + (ps.length + ps.flatten.length) = n) := by
        have := HQ.out
        rw [List.take_of_length_le (by omega)] at this
        exact this
      go_wp2
      go_ret
      exact ⟨.inr ⟨q, HE.out, rfl⟩, HB.out⟩
/-- A stack as a value. -/
abbrev segV (size : Int) (v : Value) : Value := .agg #[.int .i64 size, v]
theorem szSegs_any (size : Int) (v : Value) (ps : List (List Int)) (w : World) (ha : AbleP ps) (h : SeeP w v ps) :
    Calls Try.prog 4 #[segV size v, .int .i64 1048576] w fun e w' => (e = .returned (.int .i64 (-1)) ∨ (∃ q : Nat, q ≤ 1048576 ∧ e = .returned (.int .i64 (q : Int)) ∧ SmallS ps)) ∧ Below w.heap.size w w' := by
  have HS : Hid (∀ u, Below w.heap.size w u → Calls Try.prog 13 #[v, .int .i64 1048576] u fun e w' => SZn (ps.length + ps.flatten.length) 1048576 u e w') := fun u hu => szSps_any v ps 1048576 u (Nat.le_refl _) ha (h.below hu)
  obtain ⟨a, c, rfl, -⟩ := id h
  clear h ha
  go_enter Try.func4, Try.ntmps4
  go_wp2_with fail
  refine (HS.out _ ((Below.refl _ w).alloc (Nat.le_refl _) _)).mono ?_
  rintro e w1 ⟨h1, b1⟩
  have HB : Hid (Below w.heap.size w w1) := ((Below.refl _ w).alloc (Nat.le_refl _) _).trans (b1.mono (by simp))
  clear b1
  rcases h1 with ⟨rfl, h⟩ | ⟨q, hq, rfl⟩
  · clear h
    go_wp2
    go_ret
    exact ⟨.inl rfl, HB.out⟩
  · have hq2 : q ≤ 1048576 := by omega
    have HQ : Hid (SmallS ps) := ⟨by omega, by omega⟩
    clear hq
    go_wp2
    go_ret
    exact ⟨.inr ⟨q, hq2, rfl, HQ.out⟩, HB.out⟩
theorem makeI (n : Nat) (hn : n ≤ 1048576) (w : World) : (Instr.makeSlice 42 (.int .i64 (n : Int)) (.int .i64 (n : Int))).run Try.prog w = .ok (.slice (some ⟨w.heap.size, 0, none⟩) n n) (w.alloc (.cells (madeCells #[.int .i64 0] n) 2)) := by
  obtain ⟨i0, hi, hz0, hz1, hz2⟩ := info_parts infoI
  have := run_make (P := Try.prog) w 42 2 i0 _ Try.underlying42 hi hz0 .i64 .i64 (n : Int) (n : Int) (by omega) (by omega) (by rw [hz2]; omega) (by omega)
  rw [this, hz1]
  simp [Value.cells]
theorem madeI (n : Nat) (hn : n ≤ 1048576) (w : World) : (w.alloc (.cells (madeCells #[.int .i64 0] n) 2)).ownsRow w.heap.size 2 1 (.slice (some ⟨w.heap.size, 0, none⟩) n n) n (madeCells #[.int .i64 0] n).toList :=
  ⟨by simp [madeCells], .inr ⟨w.heap.size, n, _, rfl, Nat.le_refl _, heap_alloc_new w _, Nat.le_refl _, by unfold maxLen; omega, by simp [madeCells], by rw [List.take_of_length_le]; simp [madeCells]⟩⟩
theorem infoSp : (Try.prog.info? 54).map (fun i => (i.zero, i.size, i.bytes)) = some (some (.agg #[.slice none 0 0]), 1, 24) := by kernel_rfl
theorem makeSp (n : Nat) (hn : n ≤ 1048576) (w : World) : (Instr.makeSlice 26 (.int .i64 (n : Int)) (.int .i64 (n : Int))).run Try.prog w = .ok (.slice (some ⟨w.heap.size, 0, none⟩) n n) (w.alloc (.cells (madeCells #[.slice none 0 0] n) 54)) := by
  obtain ⟨i0, hi, hz0, hz1, hz2⟩ := info_parts infoSp
  have := run_make (P := Try.prog) w 26 54 i0 _ Try.underlying26 hi hz0 .i64 .i64 (n : Int) (n : Int) (by omega) (by omega) (by rw [hz2]; omega) (by omega)
  rw [this, hz1]
  simp [Value.cells]
theorem madeSp (n : Nat) (hn : n ≤ 1048576) (w : World) : (w.alloc (.cells (madeCells #[.slice none 0 0] n) 54)).ownsRow w.heap.size 54 1 (.slice (some ⟨w.heap.size, 0, none⟩) n n) n (madeCells #[.slice none 0 0] n).toList :=
  ⟨by simp [madeCells], .inr ⟨w.heap.size, n, _, rfl, Nat.le_refl _, heap_alloc_new w _, Nat.le_refl _, by unfold maxLen; omega, by simp [madeCells], by rw [List.take_of_length_le]; simp [madeCells]⟩⟩
theorem take_put (xs A : List Value) (k : Nat) (a : Value) (h : xs.take k = A) (hl : k < xs.length) : (xs.set k a).take (k + 1) = A ++ [a] := by
  subst h
  rw [List.take_add_one, List.take_set, List.set_eq_of_length_le (by simp; omega)]
  simp [hl]
set_option maxRecDepth 100000 in
set_option maxHeartbeats 2000000 in
theorem toI_any (v : Value) (l : List Int) (w : World) (hl : l.length ≤ 1048576) (h : SeeI w v l) :
    Calls Try.prog 40 #[v] w fun e w' => ∃ g, e = .returned (.slice (some ⟨g, 0, none⟩) l.length l.length) ∧ w'.ownsRow w.heap.size 2 1 (.slice (some ⟨g, 0, none⟩) l.length l.length) l.length (cellsI l) ∧ Below w.heap.size w w' := by
  have HT : Hid (∀ u, Below w.heap.size w u → SeeI u v l) := fun u hu => h.below hu
  obtain ⟨a, c, rfl, -⟩ := id h
  have hmk := makeI l.length hl
  have HM : Hid (∃ xs, (w.alloc (.cells (madeCells #[.int .i64 0] l.length) 2)).ownsRow w.heap.size 2 1 (.slice (some ⟨w.heap.size, 0, none⟩) l.length l.length) l.length xs ∧ xs.take 0 = cellsI (l.take 0)) := ⟨_, madeI l.length hl w, rfl⟩
  clear h
  go_enter Try.func40, Try.ntmps40
  go_wp2_with fail
  go_loopw [4] (fun i wr => ∃ k : Nat, k ≤ l.length ∧ i = .int .i64 (k : Int) ∧ Hid (∃ xs, wr.ownsRow w.heap.size 2 1 (.slice (some ⟨w.heap.size, 0, none⟩) l.length l.length) l.length xs ∧ xs.take k = cellsI (l.take k)) ∧ Below w.heap.size w wr) (fun i _ => l.length - (RowKit.intOf i).toNat)
  case atStart => exact ⟨0, Nat.zero_le _, rfl, HM.out, (Below.refl _ _).alloc (Nat.le_refl _) _⟩
  case round =>
    obtain ⟨k, hk, rfl, HX, hb⟩ := hrel
    have HB : Hid (Below w.heap.size w wr) := hb
    clear hb
    by_cases hlt : k < l.length
    · obtain ⟨a', c', e', hc⟩ := HT.out wr HB.out
      obtain ⟨rfl, rfl⟩ : a = a' ∧ c = c' := by simp at e'; exact e'
      obtain ⟨b, off, rfl, h2⟩ := hc (by omega)
      have c0 := h2 k hlt
      clear hc h2 e'
      obtain ⟨xs, hox, htx⟩ := HX.out
      have HO : Hid (wr.ownsRow w.heap.size 2 1 (.slice (some ⟨w.heap.size, 0, none⟩) l.length l.length) l.length xs) := hox
      have HE : Hid (xs.take k = cellsI (l.take k)) := htx
      have hgl : w.heap.size < wr.heap.size := (hox.lt w.heap.size rfl).2
      have HL : Hid (xs.length = l.length * 1) := hox.1
      clear hox htx
      obtain ⟨x0, e0⟩ := own_cell HO.out k (by have := HL.out; omega)
      have ff : ∀ j, wr.frozen? ⟨w.heap.size, j, none⟩ = false := own_frozen HO.out
      go_wp2
      refine ⟨⟨k + 1, by omega, by go_num, ⟨xs.set k (.int .i64 (l[k]'hlt)), own_put HO.out _ _, ?_⟩, HB.out.setCell (Nat.le_refl _) _⟩, by simp [RowKit.intOf]; omega⟩
      rw [take_put xs _ k _ HE.out (by have := HL.out; omega), List.take_add_one, List.getElem?_eq_getElem hlt, cellsI_append]
      rfl
    · have HF : Hid (wr.ownsRow w.heap.size 2 1 (.slice (some ⟨w.heap.size, 0, none⟩) l.length l.length) l.length (cellsI l)) := by
        obtain ⟨xs, hox, htx⟩ := HX.out
        have hkl : k = l.length := by omega
        rw [hkl, List.take_of_length_le (by rw [hox.1]; omega), List.take_length] at htx
        rw [htx] at hox
        exact hox
      clear HX
      go_wp2
      go_ret
      exact ⟨_, rfl, HF.out, HB.out⟩
set_option maxHeartbeats 2000000 in
theorem toSp_any (v : Value) (l : List Int) (w : World) (hl : l.length ≤ 1048576) (h : SeeI w v l) :
    Calls Try.prog 26 #[.agg #[v]] w fun e w' => ∃ g, e = .returned (.agg #[.slice (some ⟨g, 0, none⟩) l.length l.length]) ∧ w'.ownsRow w.heap.size 2 1 (.slice (some ⟨g, 0, none⟩) l.length l.length) l.length (cellsI l) ∧ Below w.heap.size w w' := by
  have HS : Hid (∀ u, Below w.heap.size w u → Calls Try.prog 40 #[v] u fun e w' => ∃ g, e = .returned (.slice (some ⟨g, 0, none⟩) l.length l.length) ∧ w'.ownsRow u.heap.size 2 1 (.slice (some ⟨g, 0, none⟩) l.length l.length) l.length (cellsI l) ∧ Below u.heap.size u w') := fun u hu => toI_any v l u hl (h.below hu)
  obtain ⟨a, c, rfl, -⟩ := id h
  clear h
  go_enter Try.func26, Try.ntmps26
  go_wp2_with fail
  refine (HS.out _ ((((Below.refl _ w).alloc (Nat.le_refl _) _).alloc (by simp) _).alloc (by simp; omega) _)).mono ?_
  rintro e w1 ⟨g, rfl, ho, hb⟩
  have HO : Hid (w1.ownsRow (w.heap.size + 1 + 1 + 1) 2 1 (.slice (some ⟨g, 0, none⟩) l.length l.length) l.length (cellsI l)) := by have := ho; simp only [World.size_alloc] at this; exact this
  obtain ⟨hc1, hf1⟩ := bcell hb
  have HB : Hid (Below w.heap.size w w1) := ((((Below.refl _ w).alloc (Nat.le_refl _) _).alloc (by simp) _).alloc (by simp; omega) _).trans (hb.mono (by simp; omega))
  have hs1 : w.heap.size + 1 + 1 < w1.heap.size := by have := hb.size; simp at this; omega
  clear ho hb
  have d0 : w1.cell? ⟨w.heap.size + 1 + 1, 0, none⟩ = some (.slice none 0 0) := by rw [hc1 _ _ (by simp)]; simp [go_sem]
  have f5 : ∀ j, w1.frozen? ⟨w.heap.size + 1 + 1, j, none⟩ = false := fun j => by rw [hf1 _ _ (by simp)]; simp [go_sem]
  have r0 : w1.cell? ⟨w.heap.size + 1, 0, none⟩ = some (.slice none 0 0) := by rw [hc1 _ _ (by simp)]; simp [go_sem]
  have g5 : ∀ j, w1.frozen? ⟨w.heap.size + 1, j, none⟩ = false := fun j => by rw [hf1 _ _ (by simp)]; simp [go_sem]
  clear hc1 hf1
  go_wp2
  refine bodyPost_ret (v := .agg #[.slice (some ⟨g, 0, none⟩) l.length l.length]) (by simp [results, Try.results26, go_sem, r0]) rfl ⟨g, rfl, ?_, ?_⟩
  · refine own_base (base := w.heap.size + 1 + 1 + 1) ?_ (by omega)
    iterate 2 (refine own_set_low ?_ (by omega) _)
    exact HO.out
  · iterate 2 (refine Below.setCell ?_ (by simp <;> omega) _)
    exact HB.out
set_option maxRecDepth 100000 in
set_option maxHeartbeats 2000000 in
/-- Parts made anew, in rows of their own. -/
theorem toSps_any (v : Value) (ps : List (List Int)) (w : World) (hs : SmallS ps) (h : SeeP w v ps) :
    Calls Try.prog 17 #[v] w fun e w' => ∃ g P, e = .returned (.slice (some ⟨g, 0, none⟩) ps.length ps.length) ∧ PV 54 w' w.heap.size (.slice (some ⟨g, 0, none⟩) ps.length ps.length) P ∧ P.map Prod.fst = ps ∧ Below w.heap.size w w' := by
  have hl := hs.len
  have HT : Hid (∀ u, Below w.heap.size w u → SeeP u v ps) := fun u hu => h.below hu
  have HSm : Hid (∀ (k : Nat) (hk : k < ps.length), ps[k].length ≤ 1048576) := fun k hk => hs.part k hk
  obtain ⟨a, c, rfl, -⟩ := id h
  have hmk := makeSp ps.length hl
  have HM : Hid (∃ (P : List (List Int × Value)) (xs : List Value), P.map Prod.fst = ps.take 0 ∧ (w.alloc (.cells (madeCells #[.slice none 0 0] ps.length) 54)).ownsRow w.heap.size 54 1 (.slice (some ⟨w.heap.size, 0, none⟩) ps.length ps.length) ps.length xs ∧ xs.take 0 = P.map Prod.snd ∧ IV (w.alloc (.cells (madeCells #[.slice none 0 0] ps.length) 54)) w.heap.size P) := ⟨[], _, rfl, madeSp ps.length hl w, rfl, IV.nil _ _⟩
  clear h hs
  go_enter Try.func17, Try.ntmps17
  go_wp2_with fail
  go_loopw [4] (fun i wr => ∃ k : Nat, k ≤ ps.length ∧ i = .int .i64 (k : Int) ∧ Hid (∃ (P : List (List Int × Value)) (xs : List Value), P.map Prod.fst = ps.take k ∧ wr.ownsRow w.heap.size 54 1 (.slice (some ⟨w.heap.size, 0, none⟩) ps.length ps.length) ps.length xs ∧ xs.take k = P.map Prod.snd ∧ IV wr w.heap.size P) ∧ Below w.heap.size w wr) (fun i _ => ps.length - (RowKit.intOf i).toNat)
  case atStart => exact ⟨0, Nat.zero_le _, rfl, HM.out, (Below.refl _ _).alloc (Nat.le_refl _) _⟩
  case round =>
    obtain ⟨k, hk, rfl, HX, hb⟩ := hrel
    have HB : Hid (Below w.heap.size w wr) := hb
    clear hb
    by_cases hlt : k < ps.length
    · obtain ⟨a', c', e', hc⟩ := HT.out wr HB.out
      obtain ⟨rfl, rfl⟩ : a = a' ∧ c = c' := by simp at e'; exact e'
      obtain ⟨b, off, rfl, h2⟩ := hc (by omega)
      obtain ⟨u, cz, hu⟩ := h2 k hlt
      have HU : Hid (Calls Try.prog 26 #[.agg #[u]] wr fun e w' => ∃ g, e = .returned (.agg #[.slice (some ⟨g, 0, none⟩) (ps[k]'hlt).length (ps[k]'hlt).length]) ∧ w'.ownsRow wr.heap.size 2 1 (.slice (some ⟨g, 0, none⟩) (ps[k]'hlt).length (ps[k]'hlt).length) (ps[k]'hlt).length (cellsI (ps[k]'hlt)) ∧ Below wr.heap.size wr w') := toSp_any u _ wr (HSm.out k hlt) hu
      clear hc h2 e'
      obtain ⟨ai, ci, rfl, -⟩ := hu
      obtain ⟨P, xs, hP, hox, htx, hN⟩ := HX.out
      have HO : Hid (wr.ownsRow w.heap.size 54 1 (.slice (some ⟨w.heap.size, 0, none⟩) ps.length ps.length) ps.length xs) := hox
      have HE : Hid (xs.take k = P.map Prod.snd) := htx
      have HP : Hid (P.map Prod.fst = ps.take k) := hP
      have HN : Hid (IV wr w.heap.size P) := hN
      have hgl : w.heap.size < wr.heap.size := (hox.lt w.heap.size rfl).2
      have HL : Hid (xs.length = ps.length * 1) := hox.1
      clear hox htx hP hN
      go_wp2_with fail
      refine HU.out.mono ?_
      rintro e w1 ⟨gk, rfl, ho1, hb1⟩
      have HO1 : Hid (w1.ownsRow w.heap.size 54 1 (.slice (some ⟨w.heap.size, 0, none⟩) ps.length ps.length) ps.length xs) := own_below HO.out hb1
      have HB1 : Hid (Below w.heap.size w w1) := HB.out.trans (hb1.mono HB.out.size)
      have HN1 : Hid (IV w1 w.heap.size (P ++ [(ps[k]'hlt, .slice (some ⟨gk, 0, none⟩) (ps[k]'hlt).length (ps[k]'hlt).length)])) := HN.out.snoc hb1 (by omega) ho1
      have hgl1 : w.heap.size < w1.heap.size := (HO1.out.lt w.heap.size rfl).2
      clear hb1 cz ho1
      obtain ⟨x0, e0⟩ := own_cell HO1.out k (by have := HL.out; omega)
      have ff : ∀ j, w1.frozen? ⟨w.heap.size, j, none⟩ = false := own_frozen HO1.out
      go_wp2
      refine ⟨⟨k + 1, by omega, by go_num, ⟨P ++ [(ps[k]'hlt, .slice (some ⟨gk, 0, none⟩) (ps[k]'hlt).length (ps[k]'hlt).length)], xs.set k (.slice (some ⟨gk, 0, none⟩) (ps[k]'hlt).length (ps[k]'hlt).length), ?_, own_put HO1.out _ _, ?_, HN1.out.put HO1.out (by decide) _ _⟩, HB1.out.setCell (Nat.le_refl _) _⟩, by simp [RowKit.intOf]; omega⟩
      · rw [List.map_append, HP.out, List.take_add_one, List.getElem?_eq_getElem hlt]; rfl
      · rw [take_put xs _ k _ HE.out (by have := HL.out; omega), List.map_append]; rfl
    · have HF : Hid (∃ P : List (List Int × Value), PV 54 wr w.heap.size (.slice (some ⟨w.heap.size, 0, none⟩) ps.length ps.length) P ∧ P.map Prod.fst = ps) := by
        obtain ⟨P, xs, hP, hox, htx, hN⟩ := HX.out
        have hkl : k = ps.length := by omega
        rw [hkl, List.take_of_length_le (by rw [hox.1]; omega)] at htx
        rw [hkl, List.take_length] at hP
        have hPl : P.length = ps.length := by rw [← hP]; simp
        rw [htx] at hox
        exact ⟨P, ⟨by rw [hPl]; exact hox, hN⟩, hP⟩
      clear HX
      go_wp2
      go_ret
      obtain ⟨P, h1, h2⟩ := HF.out
      exact ⟨_, P, rfl, h1, h2, HB.out⟩
set_option maxHeartbeats 2000000 in
theorem toSegs_any (size : Int) (v : Value) (ps : List (List Int)) (w : World) (hs : SmallS ps) (h : SeeP w v ps) :
    Calls Try.prog 6 #[segV size v] w fun e w' => ∃ g P, e = .returned (segV size (.slice (some ⟨g, 0, none⟩) ps.length ps.length)) ∧ PV 54 w' w.heap.size (.slice (some ⟨g, 0, none⟩) ps.length ps.length) P ∧ P.map Prod.fst = ps ∧ Below w.heap.size w w' := by
  have HS : Hid (∀ u, Below w.heap.size w u → Calls Try.prog 17 #[v] u fun e w' => ∃ g P, e = .returned (.slice (some ⟨g, 0, none⟩) ps.length ps.length) ∧ PV 54 w' u.heap.size (.slice (some ⟨g, 0, none⟩) ps.length ps.length) P ∧ P.map Prod.fst = ps ∧ Below u.heap.size u w') := fun u hu => toSps_any v ps u hs (h.below hu)
  obtain ⟨a, c, rfl, -⟩ := id h
  clear h hs
  go_enter Try.func6, Try.ntmps6
  go_wp2_with fail
  refine (HS.out _ (by repeat (first | exact Below.refl _ _ | refine Below.setCell ?_ (by simp <;> omega) _ | refine Below.alloc ?_ (by simp <;> omega) _))).mono ?_
  rintro e w1 ⟨g, P, rfl, ho, hP, hb⟩
  have HO : Hid (PV 54 w1 (w.heap.size + 1 + 1 + 1) (.slice (some ⟨g, 0, none⟩) ps.length ps.length) P) := by have := ho; simp only [World.size_alloc] at this; exact this
  have HP : Hid (P.map Prod.fst = ps) := hP
  obtain ⟨hc1, hf1⟩ := bcell hb
  have HB : Hid (Below w.heap.size w w1) := Below.trans (by repeat (first | exact Below.refl _ _ | refine Below.setCell ?_ (by simp <;> omega) _ | refine Below.alloc ?_ (by simp <;> omega) _)) (hb.mono (by simp; omega))
  have hs1 : w.heap.size + 1 + 1 < w1.heap.size := by have := hb.size; simp at this; omega
  clear ho hb hP
  have d0 : w1.cell? ⟨w.heap.size + 1 + 1, 0, none⟩ = some (.int .i64 size) := by rw [hc1 _ _ (by simp)]; simp [go_sem]
  have d1 : w1.cell? ⟨w.heap.size + 1 + 1, 1, none⟩ = some (.slice none 0 0) := by rw [hc1 _ _ (by simp)]; simp [go_sem]
  have f5 : ∀ j, w1.frozen? ⟨w.heap.size + 1 + 1, j, none⟩ = false := fun j => by rw [hf1 _ _ (by simp)]; simp [go_sem]
  have r0 : w1.cell? ⟨w.heap.size + 1, 0, none⟩ = some (.int .i64 0) := by rw [hc1 _ _ (by simp)]; simp [go_sem]
  have r1 : w1.cell? ⟨w.heap.size + 1, 1, none⟩ = some (.slice none 0 0) := by rw [hc1 _ _ (by simp)]; simp [go_sem]
  have g5 : ∀ j, w1.frozen? ⟨w.heap.size + 1, j, none⟩ = false := fun j => by rw [hf1 _ _ (by simp)]; simp [go_sem]
  clear hc1 hf1
  go_wp2
  refine bodyPost_ret (v := segV size (.slice (some ⟨g, 0, none⟩) ps.length ps.length)) (by simp [results, Try.results6, go_sem, r0, r1]) rfl ⟨g, P, rfl, ?_, HP.out, ?_⟩
  · refine PV.base (B := w.heap.size + 1 + 1 + 1) ?_ (by omega)
    iterate 3 (refine PV.setLow ?_ (by omega))
    exact HO.out
  · iterate 3 (refine Below.setCell ?_ (by simp <;> omega) _)
    exact HB.out
end Go.Proofs.Ytdohpfckiahlcaa
