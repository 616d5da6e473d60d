/-
  Parts of the proof laid into one text, one behind the other; each says at its head what is proved in it.
-/
import Derived.Test.YtfdkklhigliciaaGreatDoorXaN
import Derived.Test.YtfdkklhigliciaaGreatDoorAnyRegHx
/-
  The program's expand at a plain form, from what it does so deep.
-/
namespace Go.Proofs.YtfdkklhigliciaaGreatDoor
open Go.RowKit Go.Extern.Stop Go.Stop Go.Extern Num Go.Lib Go.Shelf

theorem gd_deep {l : List Dat} {a n : Nat} {b : Int} (h : Gd l a b) (hn : l.length ≤ a + (n + 1)) : ∃ j : Nat, b = (j : Int) ∧ 0 < j ∧ j < l.length ∧ l.length ≤ j + n := by
  obtain ⟨j, h1, h2, h3⟩ := h
  exact ⟨j, h1, by omega, h3, by omega⟩
set_option maxRecDepth 100000 in
set_option maxHeartbeats 1000000 in
theorem exp_plain (l : List Dat) (n : Nat) (hX : ExI l n) (w : World) (B m tb a : Nat) (par : Int) (so : Option Addr) (E : Env) (C : List Cor) (h : XpS w B m tb l so E C) (ha : a < l.length) (hn : l.length ≤ a + (n + 1)) (k : Int) (p : List Int) (hp : ∀ b ∈ p, Gd l a b) (hpl : p.length ≤ 80) (hf : formD l a = (0, fmP k p)) (hE : E.length + n ≤ 1000) (h9 : (allF (fun b D => expF l n b C.length E D) p (C ++ [coC k par 0 0 ⟨#[]⟩ []])).2.length ≤ 900) :
    Calls Tryz.prog 52 #[.pointer (some ⟨m, 0, none⟩), .int .i64 (a : Int), .int .i64 par, .pointer so] w fun e w' => AnsE B m tb l (allF (fun b D => expF l n b C.length E D) p (C ++ [coC k par 0 0 ⟨#[]⟩ []])) w e w' := by
  obtain ⟨r, Hr⟩ : ∃ r, Hid (r = allF (fun b D => expF l n b C.length E D) p (C ++ [coC k par 0 0 ⟨#[]⟩ []])) := ⟨_, rfl⟩
  rw [← show r = _ from Hr.out]
  have HF : Hid (Calls Tryz.prog 75 #[.pointer (some ⟨m, 0, none⟩), .int .i64 (a : Int)] w fun e w' => (∃ v, e = .returned v ∧ FmV w' w.heap.size v (fmP k p)) ∧ Below w.heap.size w w') := formV h ha hf
  go_enter Tryz.func52, Tryz.ntmps52
  go_wp2_with fail
  refine HF.out.mono ?_
  rintro e w2 ⟨⟨v, rfl, hv⟩, hb2⟩
  obtain ⟨ao, cp, rfl, hir⟩ : ∃ ao c, v = .iface 133 (.agg #[.int .i64 k, .slice ao p.length c]) ∧ IRow w2 w.heap.size ao p := hv
  have t0 := ta_2_0
  have t1 := ta_2_1
  have t2 := ta_2_2
  have h2 := h.below hb2
  have hk2 := h.kx hb2
  have hir2 : IRow w2 B ao p := hir.base h.xs.lo.2
  have HAl : Hid (∀ u, XS u B m tb l (C ++ [coC k par 0 0 ⟨#[]⟩ []]) → Kx B m w2 u → Calls Tryz.prog 79 #[.pointer (some ⟨m, 0, none⟩), .slice ao p.length cp, .int .i64 (C.length : Nat), .pointer so] u fun e w' => AnsE B m tb l r u e w') := fun u hs hk => by
    rw [show r = _ from Hr.out]
    exact expandAll_of l n hX u B m tb ao cp p C.length so E _ hs (h2.ch.keep h2.xs.lo.1 hk) (hir2.keepX h2.xs.lo.1 hk) (fun b hb => gd_deep (hp b hb) hn) (by omega) (by omega) hE (fun b D => expF_grows l n b C.length E D) h9
  have HA : Hid (∀ u, Below w2.heap.size w2 u → Calls Tryz.prog 76 #[.pointer (some ⟨m, 0, none⟩), .int .i64 par, .agg #[.int .i64 k, .int .i64 0, .int .i64 0, .int .i64 0, .string ⟨#[]⟩, .slice none 0 0]] u fun e w' => e = .returned (.int .i64 (C.length : Nat)) ∧ XS w' B m tb l (C ++ [coC k par 0 0 ⟨#[]⟩ []]) ∧ Kx B m u w') := fun u hu => addS0_any u B m tb l C k 0 0 ⟨#[]⟩ par (h2.below hu).xs h.cl
  have hml : m < w2.heap.size := by have := h2.xs.lo; omega
  have HKw : Hid (∀ u, Below w2.heap.size w2 u → Kx B m w2 u) := fun u hu => h2.kx hu
  have HK2 : Hid (Kx B m w w2) := hk2
  clear HF h hb2 h2 hk2 hf hir hir2 hX h9
  go_wp2_with fail
  have hFr : ∀ f, Fence.wide.fn f := fun _ => trivial
  refine (wpIn_wide (n := 0)).1 ?_
  refine region_anyH (z := 99) (S := fun u : World => u.heap[w2.heap.size]? = some (.cells #[.int .i64 k, .slice ao p.length cp] 133 (0, 0))) (by kernel_rfl) ?_
  obtain ⟨y0, hy0⟩ : ∃ Y, Y = (w2.alloc (.cells #[.int .i64 k, .slice ao p.length cp] 133)).drew := ⟨_, rfl⟩
  have HB0 : Hid (Below w2.heap.size w2 y0) := by show Below _ _ _; rw [hy0]; exact ((Below.refl _ _).alloc (Nat.le_refl _) _).drew
  have HS0 : Hid (y0.heap[w2.heap.size]? = some (.cells #[.int .i64 k, .slice ao p.length cp] 133 (0, 0))) := by show _ = _; rw [hy0]; exact heap_new' _ _ _ rfl
  rw [← hy0]
  clear hy0
  refine anyH_take hFr (by kernel_rfl) (i := 0) (v := ?_) (d := some 48) (by kernel_rfl) rfl rfl (by kernel_rfl) (by kernel_rfl) (by kernel_rfl) (fun _ _ _ h => h) HS0.out (Or.inl ⟨by rfl, fun w9 hSw => ?_⟩) ?_
  rotate_left
  · go_simp
    all_goals (try (first | with_reducible rfl | omega))
  try simp only [Act.put]
  try simp only [List.setIfInBounds_toArray]
  try simp only [List.set_cons_zero, List.set_cons_succ]
  refine anyH_take hFr (by kernel_rfl) (i := 1) (v := ?_) (d := some 49) (by kernel_rfl) rfl rfl (by kernel_rfl) (by kernel_rfl) (by kernel_rfl) (fun _ _ _ h => h) HS0.out (Or.inl ⟨by rfl, fun w9 hSw => ?_⟩) ?_
  rotate_left
  · go_simp
    all_goals (try (first | with_reducible rfl | omega))
  try simp only [Act.put]
  try simp only [List.setIfInBounds_toArray]
  try simp only [List.set_cons_zero, List.set_cons_succ]
  refine anyH_take hFr (by kernel_rfl) (i := 2) (v := ?_) (d := some 50) (by kernel_rfl) rfl rfl (by kernel_rfl) (by kernel_rfl) (by kernel_rfl) (fun _ _ _ h => h) HS0.out (Or.inl ⟨by rfl, fun w9 hSw => ?_⟩) ?_
  rotate_left
  · have hbx : w9.heap[w2.heap.size]? = some (.cells #[.int .i64 k, .slice ao p.length cp] 133 (0, 0)) := hSw
    have b0 : w9.cell? ⟨w2.heap.size, 0, none⟩ = some (.int .i64 k) := by rw [cell_of_heap hbx]; rfl
    have b1 : w9.cell? ⟨w2.heap.size, 1, none⟩ = some (.slice ao p.length cp) := by rw [cell_of_heap hbx]; rfl
    clear hbx
    go_simp
    all_goals (try (first | with_reducible rfl | omega))
  try simp only [Act.put]
  try simp only [List.setIfInBounds_toArray]
  try simp only [List.set_cons_zero, List.set_cons_succ]
  refine anyH_take hFr (by kernel_rfl) (i := 3) (v := ?_) (d := some 51) (by kernel_rfl) rfl rfl (by kernel_rfl) (by kernel_rfl) (by kernel_rfl) (fun _ _ _ h => h) HS0.out (Or.inl ⟨by rfl, fun w9 hSw => ?_⟩) ?_
  rotate_left
  · go_simp
    all_goals (try (first | with_reducible rfl | omega))
  try simp only [Act.put]
  try simp only [List.setIfInBounds_toArray]
  try simp only [List.set_cons_zero, List.set_cons_succ]
  refine anyH_take hFr (by kernel_rfl) (i := 4) (v := ?_) (d := some 52) (by kernel_rfl) rfl rfl (by kernel_rfl) (by kernel_rfl) (by kernel_rfl) (fun _ _ _ h => h) HS0.out (Or.inl ⟨by rfl, fun w9 hSw => ?_⟩) ?_
  rotate_left
  · go_simp
    all_goals (try (first | with_reducible rfl | omega))
  try simp only [Act.put]
  try simp only [List.setIfInBounds_toArray]
  try simp only [List.set_cons_zero, List.set_cons_succ]
  refine anyH_take hFr (by kernel_rfl) (i := 5) (v := ?_) (d := some 53) (by kernel_rfl) rfl rfl (by kernel_rfl) (by kernel_rfl) (by kernel_rfl) (fun _ _ _ h => h) HS0.out (Or.inl ⟨by rfl, fun w9 hSw => ?_⟩) ?_
  rotate_left
  · go_simp
    all_goals (try (first | with_reducible rfl | omega))
  try simp only [Act.put]
  try simp only [List.setIfInBounds_toArray]
  try simp only [List.set_cons_zero, List.set_cons_succ]
  refine anyH_take hFr (by kernel_rfl) (i := 6) (v := ?_) (d := some 54) (by kernel_rfl) rfl rfl (by kernel_rfl) (by kernel_rfl) (by kernel_rfl) (fun _ _ _ h => h) HS0.out (Or.inl ⟨by rfl, fun w9 hSw => ?_⟩) ?_
  rotate_left
  · have hbx : w9.heap[w2.heap.size]? = some (.cells #[.int .i64 k, .slice ao p.length cp] 133 (0, 0)) := hSw
    have b0 : w9.cell? ⟨w2.heap.size, 0, none⟩ = some (.int .i64 k) := by rw [cell_of_heap hbx]; rfl
    have b1 : w9.cell? ⟨w2.heap.size, 1, none⟩ = some (.slice ao p.length cp) := by rw [cell_of_heap hbx]; rfl
    clear hbx
    go_simp
    all_goals (try (first | with_reducible rfl | omega))
  try simp only [Act.put]
  try simp only [List.setIfInBounds_toArray]
  try simp only [List.set_cons_zero, List.set_cons_succ]
  refine anyH_take hFr (by kernel_rfl) (i := 7) (v := ?_) (d := some 55) (by kernel_rfl) rfl rfl (by kernel_rfl) (by kernel_rfl) (by kernel_rfl) (fun _ _ _ h => h) HS0.out (Or.inl ⟨by rfl, fun w9 hSw => ?_⟩) ?_
  rotate_left
  · go_simp
    all_goals (try (first | with_reducible rfl | omega))
  try simp only [Act.put]
  try simp only [List.setIfInBounds_toArray]
  try simp only [List.set_cons_zero, List.set_cons_succ]
  refine anyH_take hFr (by kernel_rfl) (i := 9) (v := ?_) (d := some 57) (by kernel_rfl) rfl rfl (by kernel_rfl) (by kernel_rfl) (by kernel_rfl) (fun _ _ _ h => h) HS0.out (Or.inl ⟨by rfl, fun w9 hSw => ?_⟩) ?_
  rotate_left
  · go_simp
    all_goals (try (first | with_reducible rfl | omega))
  try simp only [Act.put]
  try simp only [List.setIfInBounds_toArray]
  try simp only [List.set_cons_zero, List.set_cons_succ]
  refine anyH_one (i := 8) (by kernel_rfl) (op_plainX rfl (by rfl) (by simp) ?_)
  go_simp
  refine (HA.out _ HB0.out).mono ?_
  rintro e w3 ⟨rfl, hs, hk⟩
  have HS3 : Hid (w3.heap[w2.heap.size]? = some (.cells #[.int .i64 k, .slice ao p.length cp] 133 (0, 0))) := hk.cells (by omega) (by decide) HS0.out
  have HC : Hid (Calls Tryz.prog 79 #[.pointer (some ⟨m, 0, none⟩), .slice ao p.length cp, .int .i64 (C.length : Nat), .pointer so] w3 fun e w' => AnsE B m tb l r w3 e w') := HAl.out w3 hs ((HKw.out _ HB0.out).trans hk)
  have HK3 : Hid (Kx B m w w3) := HK2.out.trans ((HKw.out _ HB0.out).trans hk)
  clear hs hk HAl HA HKw HB0
  refine ⟨HS3.out, ?_⟩
  try simp only [Act.put]
  try simp only [List.setIfInBounds_toArray]
  try simp only [List.set_cons_zero, List.set_cons_succ]
  by_cases hz : r.1 = 0
  · have HD : Hid (Calls Tryz.prog 79 #[.pointer (some ⟨m, 0, none⟩), .slice ao p.length cp, .int .i64 (C.length : Nat), .pointer so] w3 fun e w' => e = .returned (.tuple #[]) ∧ AnsE B m tb l r w3 (.returned (.tuple #[])) w') := HC.out.mono fun e w' h => by
      obtain ⟨⟨h0, rfl, h2⟩ | ⟨h1, _⟩, h3⟩ := h
      · exact ⟨rfl, .inl ⟨h0, rfl, h2⟩, h3⟩
      · exact absurd hz h1
    clear HC hz
    refine anyH_one (i := 10) (by kernel_rfl) (op_plainX rfl (by rfl) (by simp) ?_)
    go_simp
    refine HD.out.mono ?_
    rintro e w4 ⟨rfl, ha⟩
    have HAn : Hid (AnsE B m tb l r w (.returned (.tuple #[])) w4) := ha.pre HK3.out
    have HS4 : Hid (w4.heap[w2.heap.size]? = some (.cells #[.int .i64 k, .slice ao p.length cp] 133 (0, 0))) := ha.2.cells (by omega) (by decide) HS3.out
    clear ha HD
    refine ⟨HS4.out, by kernel_rfl, ?_⟩
    try simp only [Act.put]
    try simp only [List.setIfInBounds_toArray]
    try simp only [List.set_cons_zero, List.set_cons_succ]
    go_end0
    exact HAn.out
  · have HD : Hid (Calls Tryz.prog 79 #[.pointer (some ⟨m, 0, none⟩), .slice ao p.length cp, .int .i64 (C.length : Nat), .pointer so] w3 fun e w' => e = .panicked (pan r.1) ∧ AnsE B m tb l r w3 (.panicked (pan r.1)) w') := HC.out.mono fun e w' h => by
      obtain ⟨⟨h0, _⟩ | ⟨h1, rfl⟩, h3⟩ := h
      · exact absurd h0 hz
      · exact ⟨rfl, .inr ⟨h1, rfl⟩, h3⟩
    clear HC hz
    refine anyH_one (i := 10) (by kernel_rfl) (op_plainX rfl (by rfl) (by simp) ?_)
    go_simp
    refine HD.out.mono ?_
    rintro e w4 ⟨rfl, ha⟩
    exact ⟨rfl, ha.pre HK3.out⟩
end Go.Proofs.YtfdkklhigliciaaGreatDoor
