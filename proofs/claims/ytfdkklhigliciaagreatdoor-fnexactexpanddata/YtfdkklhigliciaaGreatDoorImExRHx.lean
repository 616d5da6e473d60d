/-
  Parts of the proof laid into one text, one behind the other; each says at its head what is proved in it.
-/
import Derived.Test.YtfdkklhigliciaaGreatDoorImExQHx
/-
  The program's expand at a lambda and at a let, from what it does so deep.
-/
namespace Go.Proofs.YtfdkklhigliciaaGreatDoor
open Go.RowKit Go.Extern.Stop Go.Stop Go.Extern Num Go.Lib Go.Shelf

set_option maxRecDepth 100000 in
set_option maxHeartbeats 1000000 in
theorem exp_lambda (l : List Dat) (n : Nat) (hX : ExI l n) (w : World) (B m tb a : Nat) (par : Int) (so : Option Addr) (E : Env) (C : List Cor) (h : XpS w B m tb l so E C) (ha : a < l.length) (hn : l.length ≤ a + (n + 1)) (N : List ByteArray) (b : Nat) (hb : Gd l a b) (hf : formD l a = (0, fmL N b)) (hE : E.length + 1 + n ≤ 1000) (h9 : (expF l n b C.length (N :: E) (C ++ [coC 5 par N.length 0 ⟨#[]⟩ []])).2.length ≤ 900) :
    Calls Tryz.prog 52 #[.pointer (some ⟨m, 0, none⟩), .int .i64 (a : Int), .int .i64 par, .pointer so] w fun e w' => AnsE B m tb l (expF l n b C.length (N :: E) (C ++ [coC 5 par N.length 0 ⟨#[]⟩ []])) w e w' := by
  obtain ⟨r, Hr⟩ : ∃ r, Hid (r = expF l n b C.length (N :: E) (C ++ [coC 5 par N.length 0 ⟨#[]⟩ []])) := ⟨_, rfl⟩
  rw [← show r = _ from Hr.out]
  have HF : Hid (Calls Tryz.prog 75 #[.pointer (some ⟨m, 0, none⟩), .int .i64 (a : Int)] w fun e w' => (∃ v, e = .returned v ∧ FmV w' w.heap.size v (fmL N b)) ∧ Below w.heap.size w w') := formV h ha hf
  go_enter Tryz.func52, Tryz.ntmps52
  go_wp2_with fail
  refine HF.out.mono ?_
  rintro e w2 ⟨⟨v, rfl, hv⟩, hb2⟩
  obtain ⟨nv, rfl, hnr⟩ : ∃ nv, v = .iface 136 (.agg #[nv, .int .i64 (b : Int)]) ∧ NRow w2 w.heap.size nv N := hv
  obtain ⟨ax, cx, rfl⟩ := own_form hnr.1
  have t0 := ta_3_0
  have t1 := ta_3_1
  have t2 := ta_3_2
  have t3 := ta_3_3
  have h2 := h.below hb2
  have hk2 := h.kx hb2
  obtain ⟨j, hj, hj0, hjl, hjn⟩ := gd_deep hb hn
  have hbj : b = j := by omega
  subst hbj
  have HAl : Hid (∀ u, Below w2.heap.size w2 u → Calls Tryz.prog 80 #[.pointer (some ⟨m, 0, none⟩), .agg #[.slice ax N.length cx, .int .i64 (b : Int)], .int .i64 par, .pointer so] u fun e w' => AnsE B m tb l r w e w') := fun u hu => by
    rw [show r = _ from Hr.out]
    exact (addLambda_of l n hX u B m tb ax cx N b par so E C (h2.below hu).xs (h2.below hu).ch ⟨own_below (own_base hnr.1 h.xs.lo.2) hu, hnr.2⟩ hj0 hjl hjn hE h9).mono fun e w' ha => ha.pre (hk2.trans (h2.kx hu))
  clear HF h hb2 h2 hk2 hf hnr hX h9 Hr hb
  by_cases hz : r.1 = 0
  · have HD : Hid (∀ u, Below w2.heap.size w2 u → Calls Tryz.prog 80 #[.pointer (some ⟨m, 0, none⟩), .agg #[.slice ax N.length cx, .int .i64 (b : Int)], .int .i64 par, .pointer so] u fun e w' => e = .returned (.tuple #[]) ∧ AnsE B m tb l r w (.returned (.tuple #[])) w') := fun u hu => (HAl.out u hu).mono fun e w' h => by
      obtain ⟨⟨h0, rfl, h2⟩ | ⟨h1, _⟩, h3⟩ := h
      · exact ⟨rfl, .inl ⟨h0, rfl, h2⟩, h3⟩
      · exact absurd hz h1
    clear HAl hz
    go_wp2_with fail
    refine (HD.out _ (by repeat (first | exact Below.refl _ _ | refine Below.alloc ?_ (by simp) _))).mono ?_
    rintro e w4 ⟨rfl, ha⟩
    have HAn : Hid (AnsE B m tb l r w (.returned (.tuple #[])) w4) := ha
    clear ha HD
    go_wp2
    go_end0
    exact HAn.out
  · have HD : Hid (∀ u, Below w2.heap.size w2 u → Calls Tryz.prog 80 #[.pointer (some ⟨m, 0, none⟩), .agg #[.slice ax N.length cx, .int .i64 (b : Int)], .int .i64 par, .pointer so] u fun e w' => e = .panicked (pan r.1) ∧ AnsE B m tb l r w (.panicked (pan r.1)) w') := fun u hu => (HAl.out u hu).mono fun e w' h => by
      obtain ⟨⟨h0, _⟩ | ⟨h1, rfl⟩, h3⟩ := h
      · exact absurd h0 hz
      · exact ⟨rfl, .inr ⟨h1, rfl⟩, h3⟩
    clear HAl hz
    go_wp2_with fail
    refine (HD.out _ (by repeat (first | exact Below.refl _ _ | refine Below.alloc ?_ (by simp) _))).mono ?_
    rintro e w4 ⟨rfl, ha⟩
    exact ⟨rfl, ha⟩
set_option maxRecDepth 100000 in
set_option maxHeartbeats 1000000 in
theorem exp_let (l : List Dat) (n : Nat) (hX : ExI l n) (w : World) (B m tb a : Nat) (par : Int) (so : Option Addr) (E : Env) (C : List Cor) (h : XpS w B m tb l so E C) (ha : a < l.length) (hn : l.length ≤ a + (n + 1)) (N : List ByteArray) (b : Nat) (V : List Int) (hb : Gd l a b) (hV : ∀ b ∈ V, Gd l a b) (hVl : V.length ≤ 80) (hf : formD l a = (0, fmT N b V)) (hE : E.length + 1 + n ≤ 1000) (r1 r2 : Int × List Cor) (Hr1 : r1 = expF l n b ((C.length + 1 : Nat) : Int) (N :: E) (letCores par N C)) (Hr2 : r1.1 = 0 → r2 = allF (fun b D => expF l n b C.length E D) V r1.2) (h91 : r1.2.length ≤ 900) (h92 : r1.1 = 0 → r2.2.length ≤ 900) :
    Calls Tryz.prog 52 #[.pointer (some ⟨m, 0, none⟩), .int .i64 (a : Int), .int .i64 par, .pointer so] w fun e w' => AnsE B m tb l (if r1.1 = 0 then r2 else r1) w e w' := by
  have HF : Hid (Calls Tryz.prog 75 #[.pointer (some ⟨m, 0, none⟩), .int .i64 (a : Int)] w fun e w' => (∃ v, e = .returned v ∧ FmV w' w.heap.size v (fmT N b V)) ∧ Below w.heap.size w w') := formV h ha hf
  obtain ⟨R, HR⟩ : ∃ R, Hid (R = if r1.1 = 0 then r2 else r1) := ⟨_, rfl⟩
  rw [← show R = _ from HR.out]
  have HC1 : Hid (C.length + 2 ≤ 900) := by
    have h1 := expF_grows l n b ((C.length + 1 : Nat) : Int) (N :: E) (letCores par N C)
    rw [← Hr1] at h1
    show _ ≤ _
    unfold letCores at h1
    simp at h1
    omega
  go_enter Tryz.func52, Tryz.ntmps52
  go_wp2_with fail
  refine HF.out.mono ?_
  rintro e w2 ⟨⟨v, rfl, hv⟩, hb2⟩
  obtain ⟨nv, av, cv, rfl, hnr, hir⟩ : ∃ nv av cv, v = .iface 139 (.agg #[nv, .int .i64 (b : Int), .slice av V.length cv]) ∧ NRow w2 w.heap.size nv N ∧ IRow w2 w.heap.size av V := hv
  obtain ⟨ax, cx, rfl⟩ := own_form hnr.1
  have t0 := ta_4_0
  have t1 := ta_4_1
  have t2 := ta_4_2
  have t3 := ta_4_3
  have t4 := ta_4_4
  have h2 := h.below hb2
  have hk2 := h.kx hb2
  have hmB := h2.xs.lo.1
  obtain ⟨j, hj, hj0, hjl, hjn⟩ := gd_deep hb hn
  have hbj : b = j := by omega
  subst hbj
  have hir2 : IRow w2 B av V := hir.base h.xs.lo.2
  have hnr2 : NRow w2 B (.slice ax N.length cx) N := ⟨own_base hnr.1 h.xs.lo.2, hnr.2⟩
  have HA : Hid (∀ u, Below w2.heap.size w2 u → Calls Tryz.prog 76 #[.pointer (some ⟨m, 0, none⟩), .int .i64 par, .agg #[.int .i64 9, .int .i64 0, .int .i64 0, .int .i64 0, .string ⟨#[]⟩, .slice none 0 0]] u fun e w' => e = .returned (.int .i64 (C.length : Nat)) ∧ XS w' B m tb l (C ++ [coC 9 par 0 0 ⟨#[]⟩ []]) ∧ Kx B m u w') := fun u hu => addS0_any u B m tb l C 9 0 0 ⟨#[]⟩ par (h2.below hu).xs h.cl
  have HL : Hid (∀ u, XS u B m tb l (C ++ [coC 9 par 0 0 ⟨#[]⟩ []]) → Kx B m w2 u → Calls Tryz.prog 80 #[.pointer (some ⟨m, 0, none⟩), .agg #[.slice ax N.length cx, .int .i64 (b : Int)], .int .i64 (C.length : Nat), .pointer so] u fun e w' => AnsE B m tb l r1 u e w') := fun u hs hk => by
    have e1 : r1 = expF l n b ((C ++ [coC 9 par 0 0 ⟨#[]⟩ []]).length : Nat) (N :: E) (C ++ [coC 9 par 0 0 ⟨#[]⟩ []] ++ [coC 5 (C.length : Nat) N.length 0 ⟨#[]⟩ []]) := by rw [Hr1]; simp [letCores]
    rw [e1]
    exact addLambda_of l n hX u B m tb ax cx N b (C.length : Nat) so E _ hs (h2.ch.keep hmB hk) ⟨hk.own typ_nc.2.1 hmB hnr2.1, hnr2.2⟩ hj0 hjl hjn hE (by rw [← e1]; exact h91)
  have HV : Hid (∀ u, r1.1 = 0 → XS u B m tb l r1.2 → Kx B m w2 u → Calls Tryz.prog 79 #[.pointer (some ⟨m, 0, none⟩), .slice av V.length cv, .int .i64 (C.length : Nat), .pointer so] u fun e w' => AnsE B m tb l r2 u e w') := fun u h0 hs hk => by
    rw [Hr2 h0]
    exact expandAll_of l n hX u B m tb av cv V C.length so E _ hs (h2.ch.keep hmB hk) (hir2.keepX hmB hk) (fun b hb => gd_deep (hV b hb) hn) (by omega) (by omega) (by omega) (fun b D => expF_grows l n b C.length E D) (by rw [← Hr2 h0]; exact h92 h0)
  have HKw : Hid (∀ u, Below w2.heap.size w2 u → Kx B m w2 u) := fun u hu => h2.kx hu
  have HK2 : Hid (Kx B m w w2) := hk2
  have hml : m < w2.heap.size := by have := h2.xs.lo; omega
  clear HF h hb2 h2 hk2 hf hir hir2 hnr hnr2 hX h91 h92 Hr1 Hr2 hb hV
  go_wp2_with fail
  refine (HA.out _ ((Below.refl _ _).alloc (Nat.le_refl _) _)).mono ?_
  rintro e w3 ⟨rfl, hs3, hk3⟩
  have hbxw3 : w3.heap[w2.heap.size]? = some (.cells #[.slice ax N.length cx, .int .i64 (b : Int), .slice av V.length cv] 139 (0, 0)) := hk3.cells (by omega) (by decide) (heap_new' _ _ _ rfl)
  have c0 : w3.cell? ⟨w2.heap.size, 0, none⟩ = some (.slice ax N.length cx) := by rw [cell_of_heap hbxw3]; rfl
  have c1 : w3.cell? ⟨w2.heap.size, 1, none⟩ = some (.int .i64 (b : Int)) := by rw [cell_of_heap hbxw3]; rfl
  have c2 : w3.cell? ⟨w2.heap.size, 2, none⟩ = some (.slice av V.length cv) := by rw [cell_of_heap hbxw3]; rfl
  have hlt3 := lt_of_cell c0
  have HB3 : Hid (w3.heap[w2.heap.size]? = some (.cells #[.slice ax N.length cx, .int .i64 (b : Int), .slice av V.length cv] 139 (0, 0))) := hbxw3
  have hk23 : Kx B m w2 w3 := (HKw.out _ ((Below.refl _ _).alloc (Nat.le_refl _) _)).trans hk3
  have HKw3 : Hid (Kx B m w w3) := HK2.out.trans hk23
  have HK23 : Hid (Kx B m w2 w3) := hk23
  have HC1x : Hid (Calls Tryz.prog 80 #[.pointer (some ⟨m, 0, none⟩), .agg #[.slice ax N.length cx, .int .i64 (b : Int)], .int .i64 (C.length : Nat), .pointer so] w3 fun e w' => AnsE B m tb l r1 w3 e w') := HL.out w3 hs3 hk23
  clear hs3 hk3 hbxw3 hk23 HA HL HKw
  by_cases hz1x : r1.1 = 0
  case neg =>
    have HD : Hid (Calls Tryz.prog 80 #[.pointer (some ⟨m, 0, none⟩), .agg #[.slice ax N.length cx, .int .i64 (b : Int)], .int .i64 (C.length : Nat), .pointer so] w3 fun e w' => e = .panicked (pan r1.1) ∧ AnsE B m tb l r1 w3 (.panicked (pan r1.1)) w') := HC1x.out.mono fun e w' h => by
      obtain ⟨⟨h0, _⟩ | ⟨h1, rfl⟩, h3⟩ := h
      · exact absurd h0 hz1x
      · exact ⟨rfl, .inr ⟨h1, rfl⟩, h3⟩
    have HRr : Hid (R = r1) := by show _ = _; rw [show R = _ from HR.out, if_neg hz1x]
    clear HC1x
    go_wp2_with fail
    refine HD.out.mono ?_
    rintro e w9 ⟨rfl, ha⟩
    have HAn : Hid (AnsE B m tb l R w (.panicked (pan r1.1)) w9) := by
      show AnsE _ _ _ _ _ _ _ _
      rw [show R = _ from HRr.out]
      exact ha.pre HKw3.out
    clear ha
    exact ⟨rfl, HAn.out⟩
  have HD : Hid (Calls Tryz.prog 80 #[.pointer (some ⟨m, 0, none⟩), .agg #[.slice ax N.length cx, .int .i64 (b : Int)], .int .i64 (C.length : Nat), .pointer so] w3 fun e w' => e = .returned (.tuple #[]) ∧ XS w' B m tb l r1.2 ∧ Kx B m w3 w') := HC1x.out.mono fun e w' h => by
    obtain ⟨⟨_, h1, h2⟩ | ⟨h1, _⟩, h3⟩ := h
    · exact ⟨h1, h2, h3⟩
    · exact absurd hz1x h1
  have HZ1x : Hid (r1.1 = 0) := hz1x
  clear HC1x hz1x
  go_wp2_with fail
  refine HD.out.mono ?_
  rintro e w4 ⟨rfl, hs4, hk4⟩
  have hbxw4 : w4.heap[w2.heap.size]? = some (.cells #[.slice ax N.length cx, .int .i64 (b : Int), .slice av V.length cv] 139 (0, 0)) := hk4.cells (by omega) (by decide) HB3.out
  clear c0 c1 c2 hlt3
  have c0 : w4.cell? ⟨w2.heap.size, 0, none⟩ = some (.slice ax N.length cx) := by rw [cell_of_heap hbxw4]; rfl
  have c1 : w4.cell? ⟨w2.heap.size, 1, none⟩ = some (.int .i64 (b : Int)) := by rw [cell_of_heap hbxw4]; rfl
  have c2 : w4.cell? ⟨w2.heap.size, 2, none⟩ = some (.slice av V.length cv) := by rw [cell_of_heap hbxw4]; rfl
  have hlt4 := lt_of_cell c0
  have HKw4 : Hid (Kx B m w w4) := HKw3.out.trans hk4
  have HC2x : Hid (Calls Tryz.prog 79 #[.pointer (some ⟨m, 0, none⟩), .slice av V.length cv, .int .i64 (C.length : Nat), .pointer so] w4 fun e w' => AnsE B m tb l r2 w4 e w') := HV.out w4 HZ1x.out hs4 (HK23.out.trans hk4)
  have HR2 : Hid (R = r2) := by show _ = _; rw [show R = _ from HR.out, if_pos HZ1x.out]
  clear hs4 hk4 hbxw4 HD HV HB3
  by_cases hz2x : r2.1 = 0
  case neg =>
    have HD : Hid (Calls Tryz.prog 79 #[.pointer (some ⟨m, 0, none⟩), .slice av V.length cv, .int .i64 (C.length : Nat), .pointer so] w4 fun e w' => e = .panicked (pan r2.1) ∧ AnsE B m tb l r2 w4 (.panicked (pan r2.1)) w') := HC2x.out.mono fun e w' h => by
      obtain ⟨⟨h0, _⟩ | ⟨h1, rfl⟩, h3⟩ := h
      · exact absurd h0 hz2x
      · exact ⟨rfl, .inr ⟨h1, rfl⟩, h3⟩
    have HRr : Hid (R = r2) := HR2.out
    clear HC2x
    go_wp2_with fail
    refine HD.out.mono ?_
    rintro e w9 ⟨rfl, ha⟩
    have HAn : Hid (AnsE B m tb l R w (.panicked (pan r2.1)) w9) := by
      show AnsE _ _ _ _ _ _ _ _
      rw [show R = _ from HRr.out]
      exact ha.pre HKw4.out
    clear ha
    exact ⟨rfl, HAn.out⟩
  have HD : Hid (Calls Tryz.prog 79 #[.pointer (some ⟨m, 0, none⟩), .slice av V.length cv, .int .i64 (C.length : Nat), .pointer so] w4 fun e w' => e = .returned (.tuple #[]) ∧ XS w' B m tb l r2.2 ∧ Kx B m w4 w') := HC2x.out.mono fun e w' h => by
    obtain ⟨⟨_, h1, h2⟩ | ⟨h1, _⟩, h3⟩ := h
    · exact ⟨h1, h2, h3⟩
    · exact absurd hz2x h1
  have HZ2x : Hid (r2.1 = 0) := hz2x
  clear HC2x hz2x
  go_wp2_with fail
  refine HD.out.mono ?_
  rintro e w5 ⟨rfl, hs5, hk5⟩
  have HAn : Hid (AnsE B m tb l R w (.returned (.tuple #[])) w5) := by
    show AnsE _ _ _ _ _ _ _ _
    rw [show R = _ from HR2.out]
    exact ⟨.inl ⟨HZ2x.out, rfl, hs5⟩, HKw4.out.trans hk5⟩
  clear hs5 hk5
  go_wp2
  go_end0
  exact HAn.out
end Go.Proofs.YtfdkklhigliciaaGreatDoor
