/-
  Parts of the proof laid into one text, one behind the other; each says at its head what is proved in it.
-/
import Derived.Test.YtfdkklhigliciaaGreatDoorImExKHx
/-
  The program's formAt: what kind of form a datum is, or the panic that carries a code; nothing that was there is turned.
-/
namespace Go.Proofs.YtfdkklhigliciaaGreatDoor
open Go.RowKit Go.Extern.Stop Go.Stop Go.Extern Num Go.Lib Go.Shelf

set_option maxRecDepth 100000 in
set_option maxHeartbeats 1000000 in
theorem formAt_any (w : World) (n₀ m tb : Nat) (l : List Dat) (h : Rd4 w n₀ m tb l) (a : Nat) (ha : a < l.length) :
    Calls Tryz.prog 75 #[.pointer (some ⟨m, 0, none⟩), .int .i64 (a : Int)] w fun e w' => AnsG w.heap.size (formD l a) w e w' := by
  obtain ⟨R, hR⟩ : ∃ R, R = formD l a := ⟨_, rfl⟩
  rw [← hR]
  have HR : Hid (R = formD l a) := hR
  have HE : Hid (∀ (u : World) (c : Int), c ≠ 0 → R.1 = c → Below w.heap.size w u → AnsG w.heap.size R w (.panicked (pan c)) u) := fun u c hc h0 hu => AnsG.code hc h0 hu
  have HTo : Hid (Calls Tryz.prog 106 #[.pointer (some ⟨m, 0, none⟩), .int .i64 (a : Int)] w fun e w' => e = .returned (.agg #[.int .i64 (tkD l[a].kind), .int .i64 l[a].num, .string l[a].name]) ∧ Below w.heap.size w w') := tokenAt_any w n₀ m tb l h.tk a ha
  have hfK : ∀ (x y : Int) (z : ByteArray) (u : World), (Instr.field 89 (.agg #[.int .i64 x, .int .i64 y, .string z]) 0).run Tryz.prog u = .ok (.int .i64 x) u := fieldTk0
  have HPa : Hid (∀ u, Below w.heap.size w u → Calls Tryz.prog 109 #[.pointer (some ⟨m, 0, none⟩), .int .i64 (a : Int)] u fun e w' => AnsPa l a u e w') := fun u hu => partsAt_any u n₀ m tb l (h.below hu).tk (h.below hu).le h.fine h.sm a ha
  have HNa : Hid (∀ u, Below w.heap.size w u → Calls Tryz.prog 107 #[.pointer (some ⟨m, 0, none⟩), .int .i64 (a : Int)] u fun e w' => ((symP l a = true ∧ e = .returned (.string (nameAt l a))) ∨ (symP l a = false ∧ e = .panicked (pan 1))) ∧ Below u.heap.size u w') := fun u hu => nameAt_any u n₀ m tb l (h.below hu).tk a ha
  have HLi : Hid (∀ (u : World) (ap : Option Addr) (c : Nat), Below w.heap.size w u → u.ownsRow w.heap.size 2 1 (.slice ap (partsD l a).length c) (partsD l a).length (cellsI (partsD l a)) → Calls Tryz.prog 108 #[.pointer (some ⟨m, 0, none⟩), .slice ap (partsD l a).length c] u fun e w' => AnsG w.heap.size (listD l (partsD l a)) w e w') := fun u ap c hu ho => by
    have hcp : (partsD l a).length ≤ c := by
      rcases ho.2 with ⟨e, h0⟩ | ⟨g, cap, cur, e, _, _, h4, _⟩
      · rw [h0]; omega
      · simp at e; omega
    exact (listForm_any u n₀ m tb l (h.below hu) w.heap.size hu.size ap c _ (IRow.of ho (Nat.le_refl _)) hcp (gd_lt h.fine a)).mono fun e w' h => h.pre hu
  have e1 : kindAt l a = l[a].kind := by unfold kindAt; simp [ha]
  have t6 := tk6 l[a].kind
  have t1 := tk1 l[a].kind
  by_cases h3 : kindAt l a = 3
  · have t6' : (tkD l[a].kind == 6) = true := by rw [t6, ← e1, h3]; rfl
    have hsk : symP l a = !kwB (nameAt l a) := by unfold symP; rw [h3]; rfl
    have HR1 : Hid (R = if kwB (nameAt l a) = true then (1, fm0) else (0, fmN (nameAt l a))) := by
      show _ = _
      rw [show R = _ from HR.out]
      unfold formD
      rw [if_pos h3]
    generalize l[a].name = z at HTo
    generalize l[a].num = nn at HTo
    generalize tkD l[a].kind = kk at HTo t6'
    clear t6 t1 e1 HPa HLi HR hR h
    cases hk : kwB (nameAt l a) with
    | true =>
      have HNb : Hid (∀ u, Below w.heap.size w u → Calls Tryz.prog 107 #[.pointer (some ⟨m, 0, none⟩), .int .i64 (a : Int)] u fun e w' => e = .panicked (pan 1) ∧ Below u.heap.size u w') := fun u hu => (HNa.out u hu).mono fun e w' h => by
        rcases h with ⟨⟨h1, _⟩ | ⟨_, h2⟩, h3⟩
        · rw [hsk, hk] at h1; cases h1
        · exact ⟨h2, h3⟩
      have HR2 : Hid (R.1 = 1) := by show _ = _; rw [show R = _ from HR1.out, hk]; rfl
      clear HNa HR1 hsk hk
      go_enter Tryz.func75, Tryz.ntmps75
      go_wp2_with fail
      refine HTo.out.mono ?_
      rintro e ws ⟨rfl, hws⟩
      have HBs : Hid (Below w.heap.size w ws) := hws
      have HNc : Hid (Calls Tryz.prog 107 #[.pointer (some ⟨m, 0, none⟩), .int .i64 (a : Int)] ws fun e w' => e = .panicked (pan 1) ∧ Below ws.heap.size ws w') := HNb.out ws hws
      clear HTo hws HNb
      go_wp2_with fail
      refine HNc.out.mono ?_
      rintro e w2 ⟨rfl, hb2⟩
      have HA : Hid (AnsG w.heap.size R w (.panicked (pan 1)) w2) := HE.out _ _ (by decide) HR2.out (HBs.out.trans (hb2.mono HBs.out.size))
      clear hb2
      exact ⟨rfl, HA.out⟩
    | false =>
      have HNb : Hid (∀ u, Below w.heap.size w u → Calls Tryz.prog 107 #[.pointer (some ⟨m, 0, none⟩), .int .i64 (a : Int)] u fun e w' => e = .returned (.string (nameAt l a)) ∧ Below u.heap.size u w') := fun u hu => (HNa.out u hu).mono fun e w' h => by
        rcases h with ⟨⟨_, h1⟩ | ⟨h2, _⟩, h3⟩
        · exact ⟨h1, h3⟩
        · rw [hsk, hk] at h2; cases h2
      have HR2 : Hid (R = (0, fmN (nameAt l a))) := by show _ = _; rw [show R = _ from HR1.out, hk]; rfl
      generalize nameAt l a = q at HNb HR2
      clear HNa HR1 hsk hk HE
      go_enter Tryz.func75, Tryz.ntmps75
      go_wp2_with fail
      refine HTo.out.mono ?_
      rintro e ws ⟨rfl, hws⟩
      have HBs : Hid (Below w.heap.size w ws) := hws
      have HNc : Hid (Calls Tryz.prog 107 #[.pointer (some ⟨m, 0, none⟩), .int .i64 (a : Int)] ws fun e w' => e = .returned (.string q) ∧ Below ws.heap.size ws w') := HNb.out ws hws
      clear HTo hws HNb
      go_wp2_with fail
      refine HNc.out.mono ?_
      rintro e w2 ⟨rfl, hb2⟩
      have HA : Hid (AnsG w.heap.size R w (.returned (.iface 130 (.agg #[.string q]))) w2) := ⟨.inl ⟨by rw [HR2.out], _, rfl, by rw [HR2.out]; rfl⟩, HBs.out.trans (hb2.mono HBs.out.size)⟩
      clear hb2 HR2
      go_wp2
      go_ret
      exact HA.out
  have t6' : (tkD l[a].kind == 6) = false := by rw [t6, ← e1]; exact beq_false_of_ne h3
  by_cases h4 : kindAt l a = 4
  · have t1' : (tkD l[a].kind == 1) = true := by rw [t1, ← e1, h4]; rfl
    have HR1 : Hid (R = listD l (partsD l a)) := by
      show _ = _
      rw [show R = _ from HR.out]
      unfold formD
      rw [if_neg h3, if_pos h4]
    have HPb : Hid (∀ u, Below w.heap.size w u → Calls Tryz.prog 109 #[.pointer (some ⟨m, 0, none⟩), .int .i64 (a : Int)] u fun e w' => (∃ ap c, e = .returned (.slice ap (partsD l a).length c) ∧ w'.ownsRow u.heap.size 2 1 (.slice ap (partsD l a).length c) (partsD l a).length (cellsI (partsD l a))) ∧ Below u.heap.size u w') := fun u hu => (HPa.out u hu).mono fun e w' h => by
      rcases h with ⟨⟨_, h1⟩ | ⟨h2, _⟩, h3⟩
      · exact ⟨h1, h3⟩
      · exact absurd h4 h2
    generalize l[a].name = z at HTo
    generalize l[a].num = nn at HTo
    generalize tkD l[a].kind = kk at HTo t6' t1'
    generalize partsD l a = D at HPb HLi HR1
    clear t6 t1 e1 HPa HNa HR hR h HE
    by_cases h0 : R.1 = 0
    · have HLj : Hid (∀ (u : World) (ap : Option Addr) (c : Nat), Below w.heap.size w u → u.ownsRow w.heap.size 2 1 (.slice ap D.length c) D.length (cellsI D) → Calls Tryz.prog 108 #[.pointer (some ⟨m, 0, none⟩), .slice ap D.length c] u fun e w' => ∃ v, e = .returned v ∧ AnsG w.heap.size R w (.returned v) w') := fun u ap c hu ho => (HLi.out u ap c hu ho).mono fun e w' h => by
        rw [← show R = _ from HR1.out] at h
        obtain ⟨⟨h1, v, rfl, h3⟩ | ⟨h1, h2⟩, h4⟩ := h
        · exact ⟨v, rfl, .inl ⟨h1, v, rfl, h3⟩, h4⟩
        · exact absurd h0 h1
      clear HLi HR1 h0
      go_enter Tryz.func75, Tryz.ntmps75
      go_wp2_with fail
      refine HTo.out.mono ?_
      rintro e ws ⟨rfl, hws⟩
      have HBs : Hid (Below w.heap.size w ws) := hws
      have HPc : Hid (Calls Tryz.prog 109 #[.pointer (some ⟨m, 0, none⟩), .int .i64 (a : Int)] ws fun e w' => (∃ ap c, e = .returned (.slice ap D.length c) ∧ w'.ownsRow ws.heap.size 2 1 (.slice ap D.length c) D.length (cellsI D)) ∧ Below ws.heap.size ws w') := HPb.out ws hws
      clear HTo hws HPb
      go_wp2_with fail
      refine HPc.out.mono ?_
      rintro e w2 ⟨⟨ap, c, rfl, ho⟩, hb2⟩
      have HLk : Hid (Calls Tryz.prog 108 #[.pointer (some ⟨m, 0, none⟩), .slice ap D.length c] w2 fun e w' => ∃ v, e = .returned v ∧ AnsG w.heap.size R w (.returned v) w') := HLj.out w2 ap c (HBs.out.trans (hb2.mono HBs.out.size)) (own_base ho HBs.out.size)
      clear ho hb2 HLj
      go_wp2_with fail
      refine HLk.out.mono ?_
      rintro e w3 ⟨v, rfl, ha⟩
      have HA : Hid (AnsG w.heap.size R w (.returned v) w3) := ha
      clear ha
      go_wp2
      go_ret
      exact HA.out
    · have HLj : Hid (∀ (u : World) (ap : Option Addr) (c : Nat), Below w.heap.size w u → u.ownsRow w.heap.size 2 1 (.slice ap D.length c) D.length (cellsI D) → Calls Tryz.prog 108 #[.pointer (some ⟨m, 0, none⟩), .slice ap D.length c] u fun e w' => e = .panicked (pan R.1) ∧ AnsG w.heap.size R w (.panicked (pan R.1)) w') := fun u ap c hu ho => (HLi.out u ap c hu ho).mono fun e w' h => by
        rw [← show R = _ from HR1.out] at h
        obtain ⟨⟨h1, v, rfl, h3⟩ | ⟨h1, rfl⟩, h4⟩ := h
        · exact absurd h1 h0
        · exact ⟨rfl, .inr ⟨h1, rfl⟩, h4⟩
      clear HLi HR1 h0
      go_enter Tryz.func75, Tryz.ntmps75
      go_wp2_with fail
      refine HTo.out.mono ?_
      rintro e ws ⟨rfl, hws⟩
      have HBs : Hid (Below w.heap.size w ws) := hws
      have HPc : Hid (Calls Tryz.prog 109 #[.pointer (some ⟨m, 0, none⟩), .int .i64 (a : Int)] ws fun e w' => (∃ ap c, e = .returned (.slice ap D.length c) ∧ w'.ownsRow ws.heap.size 2 1 (.slice ap D.length c) D.length (cellsI D)) ∧ Below ws.heap.size ws w') := HPb.out ws hws
      clear HTo hws HPb
      go_wp2_with fail
      refine HPc.out.mono ?_
      rintro e w2 ⟨⟨ap, c, rfl, ho⟩, hb2⟩
      have HLk : Hid (Calls Tryz.prog 108 #[.pointer (some ⟨m, 0, none⟩), .slice ap D.length c] w2 fun e w' => e = .panicked (pan R.1) ∧ AnsG w.heap.size R w (.panicked (pan R.1)) w') := HLj.out w2 ap c (HBs.out.trans (hb2.mono HBs.out.size)) (own_base ho HBs.out.size)
      clear ho hb2 HLj
      go_wp2_with fail
      refine HLk.out.mono ?_
      rintro e w3 ⟨rfl, ha⟩
      exact ⟨rfl, ha⟩
  · have t1' : (tkD l[a].kind == 1) = false := by rw [t1, ← e1]; exact beq_false_of_ne h4
    have HR1 : Hid (R = (0, fmC a)) := by
      show _ = _
      rw [show R = _ from HR.out]
      unfold formD
      rw [if_neg h3, if_neg h4]
    generalize l[a].name = z at HTo
    generalize l[a].num = nn at HTo
    generalize tkD l[a].kind = kk at HTo t6' t1'
    clear t6 t1 e1 HPa HNa HR hR h HE HLi
    go_enter Tryz.func75, Tryz.ntmps75
    go_wp2_with fail
    refine HTo.out.mono ?_
    rintro e ws ⟨rfl, hws⟩
    have HA : Hid (AnsG w.heap.size R w (.returned (.iface 126 (.agg #[.int .i64 (a : Int)]))) ws) := ⟨.inl ⟨by rw [HR1.out], _, rfl, by rw [HR1.out]; rfl⟩, hws⟩
    clear HTo hws HR1
    go_wp2
    go_ret
    exact HA.out
end Go.Proofs.YtfdkklhigliciaaGreatDoor
