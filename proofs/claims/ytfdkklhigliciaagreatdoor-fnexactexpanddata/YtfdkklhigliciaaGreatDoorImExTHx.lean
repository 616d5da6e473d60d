/-
  Parts of the proof laid into one text, one behind the other; each says at its head what is proved in it.
-/
import Derived.Test.YtfdkklhigliciaaGreatDoorImExSHx
/-
  The program's expand at a setting, from what it does so deep.
-/
namespace Go.Proofs.YtfdkklhigliciaaGreatDoor
open Go.RowKit Go.Extern.Stop Go.Stop Go.Extern Num Go.Lib Go.Shelf

set_option maxRecDepth 100000 in
set_option maxHeartbeats 1000000 in
theorem exp_set0 (l : List Dat) (w : World) (B m tb a : Nat) (par : Int) (so : Option Addr) (E : Env) (C : List Cor) (h : XpS w B m tb l so E C) (ha : a < l.length) (z : ByteArray) (b : Nat) (hf : formD l a = (0, fmS z b)) (p : Nat × Nat) (hfe : findE E z = some p) :
    Calls Tryz.prog 52 #[.pointer (some ⟨m, 0, none⟩), .int .i64 (a : Int), .int .i64 par, .pointer so] w fun e w' => AnsE B m tb l (1, C) w e w' := by
  have HF : Hid (Calls Tryz.prog 75 #[.pointer (some ⟨m, 0, none⟩), .int .i64 (a : Int)] w fun e w' => (∃ v, e = .returned v ∧ FmV w' w.heap.size v (fmS z b)) ∧ Below w.heap.size w w') := formV h ha hf
  obtain ⟨o, i⟩ := p
  go_enter Tryz.func52, Tryz.ntmps52
  go_wp2_with fail
  refine HF.out.mono ?_
  rintro e w2 ⟨⟨v, rfl, hv⟩, hb2⟩
  obtain rfl : v = .iface 143 (.agg #[.string z, .int .i64 (b : Int)]) := hv
  have t0 := ta_6_0
  have t1 := ta_6_1
  have t2 := ta_6_2
  have t3 := ta_6_3
  have t4 := ta_6_4
  have t5 := ta_6_5
  have t6 := ta_6_6
  have HK : Hid (∀ u, Below w2.heap.size w2 u → Kx B m w u) := fun u hu => (h.kx hb2).trans ((h.below hb2).kx hu)
  have HLo : Hid (∀ u, Below w2.heap.size w2 u → Calls Tryz.prog 82 #[.pointer so, .string z] u fun e w' => e = .returned (.tuple #[.agg #[.int .i64 2, .int .i64 0, .int .i64 (o : Nat), .int .i64 (i : Nat), .string ⟨#[]⟩, .slice none 0 0], .bool true]) ∧ Below u.heap.size u w') := fun u hu => by
    have := local_any u B so E z ((h.below hb2).below hu).ch h.el
    unfold locV at this
    rw [hfe] at this
    exact this
  clear HF h hb2 hf
  go_wp2_with fail
  refine (HLo.out _ (by repeat (first | exact Below.refl _ _ | refine Below.alloc ?_ (by simp) _))).mono ?_
  rintro e wl ⟨rfl, hbl⟩
  have HBl : Hid (Below w2.heap.size w2 wl) := ((Below.refl _ _).alloc (Nat.le_refl _) _).trans (hbl.mono (by simp))
  clear hbl HLo
  go_wp2_with (go_at_call 53; refine (demand_no _ _).mono ?_; rintro e wd1 ⟨rfl, hwd⟩; replace hwd := hwd.symm; subst hwd)
  exact ⟨rfl, .inr ⟨by show (1 : Int) ≠ 0; decide, rfl⟩, HK.out _ (HBl.out.alloc HBl.out.size _)⟩
set_option maxRecDepth 100000 in
set_option maxHeartbeats 1000000 in
theorem exp_set (l : List Dat) (n : Nat) (hX : ExI l n) (w : World) (B m tb a : Nat) (par : Int) (so : Option Addr) (E : Env) (C : List Cor) (h : XpS w B m tb l so E C) (ha : a < l.length) (hn : l.length ≤ a + (n + 1)) (z : ByteArray) (hz : Nm l z) (b : Nat) (hb : Gd l a b) (hf : formD l a = (0, fmS z b)) (hfe : findE E z = none) (hE : E.length + n ≤ 1000) (h9 : (expF l n b C.length E (C ++ [coC 7 par 0 0 z []])).2.length ≤ 900) :
    Calls Tryz.prog 52 #[.pointer (some ⟨m, 0, none⟩), .int .i64 (a : Int), .int .i64 par, .pointer so] w fun e w' => AnsE B m tb l (expF l n b C.length E (C ++ [coC 7 par 0 0 z []])) w e w' := by
  obtain ⟨r, Hr⟩ : ∃ r, Hid (r = expF l n b C.length E (C ++ [coC 7 par 0 0 z []])) := ⟨_, rfl⟩
  rw [← show r = _ from Hr.out]
  have HF : Hid (Calls Tryz.prog 75 #[.pointer (some ⟨m, 0, none⟩), .int .i64 (a : Int)] w fun e w' => (∃ v, e = .returned v ∧ FmV w' w.heap.size v (fmS z b)) ∧ Below w.heap.size w w') := formV h ha hf
  go_enter Tryz.func52, Tryz.ntmps52
  go_wp2_with fail
  refine HF.out.mono ?_
  rintro e w2 ⟨⟨v, rfl, hv⟩, hb2⟩
  obtain rfl : v = .iface 143 (.agg #[.string z, .int .i64 (b : Int)]) := hv
  have t0 := ta_6_0
  have t1 := ta_6_1
  have t2 := ta_6_2
  have t3 := ta_6_3
  have t4 := ta_6_4
  have t5 := ta_6_5
  have t6 := ta_6_6
  have h2 := h.below hb2
  have hk2 := h.kx hb2
  have hmB := h2.xs.lo.1
  have hzs := hz.size h.sm
  obtain ⟨j, hj, hj0, hjl, hjn⟩ := gd_deep hb hn
  have hbj : b = j := by omega
  subst hbj
  have HCl : Hid (∀ u, Calls Tryz.prog 81 #[.string z] u fun e w' => e = .returned (.string z) ∧ Below u.heap.size u w') := fun u => clone_any z u (by omega)
  have HA : Hid (∀ u, Below w2.heap.size w2 u → Calls Tryz.prog 76 #[.pointer (some ⟨m, 0, none⟩), .int .i64 par, .agg #[.int .i64 7, .int .i64 0, .int .i64 0, .int .i64 0, .string z, .slice none 0 0]] u fun e w' => e = .returned (.int .i64 (C.length : Nat)) ∧ XS w' B m tb l (C ++ [coC 7 par 0 0 z []]) ∧ Kx B m u w') := fun u hu => addS0_any u B m tb l C 7 0 0 z par (h2.below hu).xs h.cl
  have HXx : Hid (∀ u, XS u B m tb l (C ++ [coC 7 par 0 0 z []]) → Kx B m w2 u → Calls Tryz.prog 52 #[.pointer (some ⟨m, 0, none⟩), .int .i64 (b : Int), .int .i64 (C.length : Nat), .pointer so] u fun e w' => AnsE B m tb l r u e w') := fun u hs hk => by
    rw [show r = _ from Hr.out]
    exact hX u B m tb b C.length so E _ hs (h2.ch.keep hmB hk) hjl hjn (.inr ⟨hj0, by omega⟩) hE h9
  have HLo : Hid (∀ u, Below w2.heap.size w2 u → Calls Tryz.prog 82 #[.pointer so, .string z] u fun e w' => e = .returned (.tuple #[.agg #[.int .i64 0, .int .i64 0, .int .i64 0, .int .i64 0, .string ⟨#[]⟩, .slice none 0 0], .bool false]) ∧ Below u.heap.size u w') := fun u hu => by
    have := local_any u B so E z (h2.below hu).ch h.el
    unfold locV at this
    rw [hfe] at this
    exact this
  have HKw : Hid (∀ u, Below w2.heap.size w2 u → Kx B m w2 u) := fun u hu => h2.kx hu
  have HK2 : Hid (Kx B m w w2) := hk2
  have hml : m < w2.heap.size := by have := h2.xs.lo; omega
  clear HF h hb2 h2 hk2 hf hX h9 hb hz Hr hfe
  go_wp2_with fail
  refine (HLo.out _ ((Below.refl _ _).alloc (Nat.le_refl _) _)).mono ?_
  rintro e wl ⟨rfl, hbl⟩
  have HBl : Hid (Below w2.heap.size w2 wl) := ((Below.refl _ _).alloc (Nat.le_refl _) _).trans (hbl.mono (by simp))
  have HSl : Hid (wl.heap[w2.heap.size]? = some (.cells #[.string z, .int .i64 (b : Int)] 143 (0, 0))) := by show _ = _; rw [hbl.block _ (by simp)]; exact heap_new' _ _ _ rfl
  have hltl : w2.heap.size < wl.heap.size := (Array.getElem?_eq_some_iff.1 HSl.out).1
  clear hbl HLo
  go_wp2_with (go_at_call 53; refine (demand_yes _ _).mono ?_; rintro e wd1 ⟨rfl, hwd⟩; replace hwd := hwd.symm; subst hwd)
  have hFr : ∀ f, Fence.wide.fn f := fun _ => trivial
  refine (wpIn_wide (n := 0)).1 ?_
  refine region_anyH (z := 99) (S := fun u : World => u.heap[w2.heap.size]? = some (.cells #[.string z, .int .i64 (b : Int)] 143 (0, 0))) (by kernel_rfl) ?_
  obtain ⟨y0, hy0⟩ : ∃ Y, Y = (wl.alloc (.cells #[.int .i64 0, .int .i64 0, .int .i64 0, .int .i64 0, .string ⟨#[]⟩, .slice none 0 0] 78)).drew := ⟨_, rfl⟩
  have HB0 : Hid (Below w2.heap.size w2 y0) := by show Below _ _ _; rw [hy0]; exact (HBl.out.alloc (Nat.le_of_lt hltl) _).drew
  have HS0 : Hid (y0.heap[w2.heap.size]? = some (.cells #[.string z, .int .i64 (b : Int)] 143 (0, 0))) := by show _ = _; rw [hy0]; exact (Below.heap_alloc wl _ _ hltl).trans HSl.out
  rw [← hy0]
  clear hy0
  refine anyH_take hFr (by kernel_rfl) (i := 0) (v := ?_) (d := some 117) (by kernel_rfl) rfl rfl (by kernel_rfl) (by kernel_rfl) (by kernel_rfl) (fun _ _ _ h => h) HS0.out (Or.inl ⟨by rfl, fun w9 hSw => ?_⟩) ?_
  rotate_left
  · go_simp
    all_goals (try (first | with_reducible rfl | omega))
  try simp only [Act.put]
  try simp only [List.setIfInBounds_toArray]
  try simp only [List.set_cons_zero, List.set_cons_succ]
  refine anyH_take hFr (by kernel_rfl) (i := 1) (v := ?_) (d := some 118) (by kernel_rfl) rfl rfl (by kernel_rfl) (by kernel_rfl) (by kernel_rfl) (fun _ _ _ h => h) HS0.out (Or.inl ⟨by rfl, fun w9 hSw => ?_⟩) ?_
  rotate_left
  · go_simp
    all_goals (try (first | with_reducible rfl | omega))
  try simp only [Act.put]
  try simp only [List.setIfInBounds_toArray]
  try simp only [List.set_cons_zero, List.set_cons_succ]
  refine anyH_take hFr (by kernel_rfl) (i := 2) (v := ?_) (d := some 119) (by kernel_rfl) rfl rfl (by kernel_rfl) (by kernel_rfl) (by kernel_rfl) (fun _ _ _ h => h) HS0.out (Or.inl ⟨by rfl, fun w9 hSw => ?_⟩) ?_
  rotate_left
  · have hbx : w9.heap[w2.heap.size]? = some (.cells #[.string z, .int .i64 (b : Int)] 143 (0, 0)) := hSw
    have b0 : w9.cell? ⟨w2.heap.size, 0, none⟩ = some (.string z) := by rw [cell_of_heap hbx]; rfl
    have b1 : w9.cell? ⟨w2.heap.size, 1, none⟩ = some (.int .i64 (b : Int)) := by rw [cell_of_heap hbx]; rfl
    clear hbx
    go_simp
    all_goals (try (first | with_reducible rfl | omega))
  try simp only [Act.put]
  try simp only [List.setIfInBounds_toArray]
  try simp only [List.set_cons_zero, List.set_cons_succ]
  refine anyH_take hFr (by kernel_rfl) (i := 3) (v := ?_) (d := some 120) (by kernel_rfl) rfl rfl (by kernel_rfl) (by kernel_rfl) (by kernel_rfl) (fun _ _ _ h => h) HS0.out (Or.inl ⟨by rfl, fun w9 hSw => ?_⟩) ?_
  rotate_left
  · go_simp
    all_goals (try (first | with_reducible rfl | omega))
  try simp only [Act.put]
  try simp only [List.setIfInBounds_toArray]
  try simp only [List.set_cons_zero, List.set_cons_succ]
  refine anyH_take hFr (by kernel_rfl) (i := 4) (v := ?_) (d := some 121) (by kernel_rfl) rfl rfl (by kernel_rfl) (by kernel_rfl) (by kernel_rfl) (fun _ _ _ h => h) HS0.out (Or.inl ⟨by rfl, fun w9 hSw => ?_⟩) ?_
  rotate_left
  · go_simp
    all_goals (try (first | with_reducible rfl | omega))
  try simp only [Act.put]
  try simp only [List.setIfInBounds_toArray]
  try simp only [List.set_cons_zero, List.set_cons_succ]
  refine anyH_take hFr (by kernel_rfl) (i := 5) (v := ?_) (d := some 122) (by kernel_rfl) rfl rfl (by kernel_rfl) (by kernel_rfl) (by kernel_rfl) (fun _ _ _ h => h) HS0.out (Or.inl ⟨by rfl, fun w9 hSw => ?_⟩) ?_
  rotate_left
  · go_simp
    all_goals (try (first | with_reducible rfl | omega))
  try simp only [Act.put]
  try simp only [List.setIfInBounds_toArray]
  try simp only [List.set_cons_zero, List.set_cons_succ]
  refine anyH_take hFr (by kernel_rfl) (i := 6) (v := ?_) (d := some 123) (by kernel_rfl) rfl rfl (by kernel_rfl) (by kernel_rfl) (by kernel_rfl) (fun _ _ _ h => h) HS0.out (Or.inl ⟨by rfl, fun w9 hSw => ?_⟩) ?_
  rotate_left
  · have hbx : w9.heap[w2.heap.size]? = some (.cells #[.string z, .int .i64 (b : Int)] 143 (0, 0)) := hSw
    have b0 : w9.cell? ⟨w2.heap.size, 0, none⟩ = some (.string z) := by rw [cell_of_heap hbx]; rfl
    have b1 : w9.cell? ⟨w2.heap.size, 1, none⟩ = some (.int .i64 (b : Int)) := by rw [cell_of_heap hbx]; rfl
    clear hbx
    go_simp
    all_goals (try (first | with_reducible rfl | omega))
  try simp only [Act.put]
  try simp only [List.setIfInBounds_toArray]
  try simp only [List.set_cons_zero, List.set_cons_succ]
  refine anyH_take hFr (by kernel_rfl) (i := 10) (v := ?_) (d := some 127) (by kernel_rfl) rfl rfl (by kernel_rfl) (by kernel_rfl) (by kernel_rfl) (fun _ _ _ h => h) HS0.out (Or.inl ⟨by rfl, fun w9 hSw => ?_⟩) ?_
  rotate_left
  · go_simp
    all_goals (try (first | with_reducible rfl | omega))
  try simp only [Act.put]
  try simp only [List.setIfInBounds_toArray]
  try simp only [List.set_cons_zero, List.set_cons_succ]
  refine anyH_one (i := 7) (by kernel_rfl) (op_plainX rfl (by rfl) (by simp) ?_)
  go_simp
  refine (HCl.out _).mono ?_
  rintro e y1 ⟨rfl, hb1⟩
  have HB1 : Hid (Below w2.heap.size w2 y1) := HB0.out.trans (hb1.mono HB0.out.size)
  have HS1 : Hid (y1.heap[w2.heap.size]? = some (.cells #[.string z, .int .i64 (b : Int)] 143 (0, 0))) := by show _ = _; rw [hb1.block _ (Array.getElem?_eq_some_iff.1 HS0.out).1]; exact HS0.out
  clear hb1 HB0 HS0
  refine ⟨HS1.out, ?_⟩
  try simp only [Act.put]
  try simp only [List.setIfInBounds_toArray]
  try simp only [List.set_cons_zero, List.set_cons_succ]
  refine anyH_take hFr (by kernel_rfl) (i := 8) (v := ?_) (d := some 125) (by kernel_rfl) rfl rfl (by kernel_rfl) (by kernel_rfl) (by kernel_rfl) (fun _ _ _ h => h) HS1.out (Or.inl ⟨by rfl, fun w9 hSw => ?_⟩) ?_
  rotate_left
  · go_simp
    all_goals (try (first | with_reducible rfl | omega))
  try simp only [Act.put]
  try simp only [List.setIfInBounds_toArray]
  try simp only [List.set_cons_zero, List.set_cons_succ]
  refine anyH_one (i := 9) (by kernel_rfl) (op_plainX rfl (by rfl) (by simp) ?_)
  go_simp
  refine (HA.out _ HB1.out).mono ?_
  rintro e w3 ⟨rfl, hs, hk⟩
  have HS3 : Hid (w3.heap[w2.heap.size]? = some (.cells #[.string z, .int .i64 (b : Int)] 143 (0, 0))) := hk.cells (by omega) (by decide) HS1.out
  have HC : Hid (Calls Tryz.prog 52 #[.pointer (some ⟨m, 0, none⟩), .int .i64 (b : Int), .int .i64 (C.length : Nat), .pointer so] w3 fun e w' => AnsE B m tb l r w3 e w') := HXx.out w3 hs ((HKw.out _ HB1.out).trans hk)
  have HK3 : Hid (Kx B m w w3) := HK2.out.trans ((HKw.out _ HB1.out).trans hk)
  clear hs hk HXx HA HKw HB1 HS1 HCl
  refine ⟨HS3.out, ?_⟩
  try simp only [Act.put]
  try simp only [List.setIfInBounds_toArray]
  try simp only [List.set_cons_zero, List.set_cons_succ]
  by_cases hzr : r.1 = 0
  · have HD : Hid (Calls Tryz.prog 52 #[.pointer (some ⟨m, 0, none⟩), .int .i64 (b : Int), .int .i64 (C.length : Nat), .pointer so] w3 fun e w' => e = .returned (.tuple #[]) ∧ AnsE B m tb l r w3 (.returned (.tuple #[])) w') := HC.out.mono fun e w' h => by
      obtain ⟨⟨h0, rfl, h2⟩ | ⟨h1, _⟩, h3⟩ := h
      · exact ⟨rfl, .inl ⟨h0, rfl, h2⟩, h3⟩
      · exact absurd hzr h1
    clear HC hzr
    refine anyH_one (i := 11) (by kernel_rfl) (op_plainX rfl (by rfl) (by simp) ?_)
    go_simp
    refine HD.out.mono ?_
    rintro e w4 ⟨rfl, ha⟩
    have HAn : Hid (AnsE B m tb l r w (.returned (.tuple #[])) w4) := ha.pre HK3.out
    have HS4 : Hid (w4.heap[w2.heap.size]? = some (.cells #[.string z, .int .i64 (b : Int)] 143 (0, 0))) := ha.2.cells (by omega) (by decide) HS3.out
    clear ha HD
    refine ⟨HS4.out, by kernel_rfl, ?_⟩
    go_end0
    exact HAn.out
  · have HD : Hid (Calls Tryz.prog 52 #[.pointer (some ⟨m, 0, none⟩), .int .i64 (b : Int), .int .i64 (C.length : Nat), .pointer so] w3 fun e w' => e = .panicked (pan r.1) ∧ AnsE B m tb l r w3 (.panicked (pan r.1)) w') := HC.out.mono fun e w' h => by
      obtain ⟨⟨h0, _⟩ | ⟨h1, rfl⟩, h3⟩ := h
      · exact absurd h0 hzr
      · exact ⟨rfl, .inr ⟨h1, rfl⟩, h3⟩
    clear HC hzr
    refine anyH_one (i := 11) (by kernel_rfl) (op_plainX rfl (by rfl) (by simp) ?_)
    go_simp
    refine HD.out.mono ?_
    rintro e w4 ⟨rfl, ha⟩
    exact ⟨rfl, ha.pre HK3.out⟩
end Go.Proofs.YtfdkklhigliciaaGreatDoor
