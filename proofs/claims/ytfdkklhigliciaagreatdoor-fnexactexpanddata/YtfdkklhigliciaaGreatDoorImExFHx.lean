/-
  Parts of the proof laid into one text, one behind the other; each says at its head what is proved in it.
-/
import Derived.Test.YtfdkklhigliciaaGreatDoorImExEHx
/-
  The program's forms as values; formAt: what kind of form a datum is, or the panic that carries a code; nothing that was there is turned.
-/
namespace Go.Proofs.YtfdkklhigliciaaGreatDoor
open Go.RowKit Go.Extern.Stop Go.Stop Go.Extern Num Go.Lib Go.Shelf

/-- Names in a row. -/
def NRow (w : World) (B : Nat) (v : Value) (N : List ByteArray) : Prop := w.ownsRow B 9 1 v N.length (cellsT N) ∧ N.length ≤ 3
/-- A form as a value. -/
def FmV (w : World) (B : Nat) (v : Value) (m : Fm) : Prop :=
  match m.tag with
  | 0 => v = .iface 126 (.agg #[.int .i64 m.spot])
  | 1 => v = .iface 130 (.agg #[.string m.nm])
  | 2 => ∃ ao c, v = .iface 133 (.agg #[.int .i64 m.num, .slice ao m.ps.length c]) ∧ IRow w B ao m.ps
  | 3 => ∃ nv, v = .iface 136 (.agg #[nv, .int .i64 m.spot]) ∧ NRow w B nv m.ns
  | 4 => ∃ nv ao c, v = .iface 139 (.agg #[nv, .int .i64 m.spot, .slice ao m.ps.length c]) ∧ NRow w B nv m.ns ∧ IRow w B ao m.ps
  | 5 => v = .iface 141 (.agg #[.string m.nm, .int .i64 m.spot])
  | _ => v = .iface 143 (.agg #[.string m.nm, .int .i64 m.spot])
def AnsF (r : Int × Fm) (w : World) (e : Ending) (w' : World) : Prop :=
  ((r.1 = 0 ∧ ∃ v, e = .returned v ∧ FmV w' w.heap.size v r.2) ∨ (r.1 ≠ 0 ∧ e = .panicked (pan r.1))) ∧ Below w.heap.size w w'
theorem AnsF.pre {r : Int × Fm} {w u w' : World} {e : Ending} (h : AnsF r u e w') (hb : Below w.heap.size w u) : AnsF r w e w' := by
  obtain ⟨h1, h2⟩ := h
  have hs := hb.size
  refine ⟨?_, hb.trans (h2.mono hs)⟩
  rcases h1 with ⟨h0, v, hv, hm⟩ | h1
  · refine .inl ⟨h0, v, hv, ?_⟩
    obtain ⟨c, m⟩ := r
    unfold FmV at hm ⊢
    simp only at hm ⊢
    split at hm
    · exact hm
    · exact hm
    · obtain ⟨ao, c, k1, k2⟩ := hm; exact ⟨ao, c, k1, k2.base hs⟩
    · obtain ⟨nv, k1, k2, k3⟩ := hm; exact ⟨nv, k1, own_base k2 hs, k3⟩
    · obtain ⟨nv, ao, c, k1, ⟨k2, k3⟩, k4⟩ := hm; exact ⟨nv, ao, c, k1, ⟨own_base k2 hs, k3⟩, k4.base hs⟩
    · exact hm
    · exact hm
  · exact .inr h1
/-- What is there of the tree of data, for what reads it alone. -/
structure Rd4 (w : World) (n₀ m tb : Nat) (l : List Dat) : Prop where
  tk : Tk w n₀ m tb l
  le : n₀ ≤ w.heap.size
  fine : Fine l
  sm : ∀ (k : Nat) (h : k < l.length), l[k].name.size ≤ 1048576
theorem Rd4.below {w w' : World} {n₀ m tb : Nat} {l : List Dat} (h : Rd4 w n₀ m tb l) (hb : Below w.heap.size w w') : Rd4 w' n₀ m tb l :=
  ⟨h.tk.below (hb.mono h.le), Nat.le_trans h.le hb.size, h.fine, h.sm⟩
theorem AnsF.code {r : Int × Fm} {w u : World} (h : r.1 ≠ 0) (hb : Below w.heap.size w u) : AnsF r w (.panicked (pan r.1)) u := ⟨.inr ⟨h, rfl⟩, hb⟩
theorem letC_three {l : List Dat} {L : List Int} (h : (letC l L).1 = 0) : (letC l L).2.1.length ≤ 3 := by
  unfold letC at h ⊢
  cases hp : letP l L with
  | none => rw [hp] at h; simp at h
  | some p =>
    rw [hp] at h
    simp only at h ⊢
    by_cases h0 : (lamC l p.1).1 = 0
    · simp only [if_pos h0]; exact lamC_three h0
    · rw [if_neg h0] at h; exact absurd h h0
theorem gd_lt {l : List Dat} (hF : Fine l) (x : Nat) : ∀ b ∈ partsD l x, ∃ j : Nat, b = (j : Int) ∧ j < l.length := fun b hb => by
  obtain ⟨j, h1, h2, _⟩ := mem_partsD hF hb
  exact ⟨j, h1, h2⟩
set_option maxRecDepth 100000 in
set_option maxHeartbeats 2000000 in
theorem naming_any (w : World) (n₀ m tb : Nat) (l : List Dat) (h : Rd4 w n₀ m tb l) (z : ByteArray) (x : Nat) (hx : x < l.length) (y : Int) :
    Calls Tryz.prog 171 #[.pointer (some ⟨m, 0, none⟩), .string z, .int .i64 (x : Int), .int .i64 y] w fun e w' => AnsF (nameD l z x y) w e w' := by
  obtain ⟨R, hR⟩ : ∃ R, R = nameD l z x y := ⟨_, rfl⟩
  rw [← hR]
  have HPa : Hid (Calls Tryz.prog 109 #[.pointer (some ⟨m, 0, none⟩), .int .i64 (x : Int)] w fun e w' => AnsPa l x w e w') := partsAt_any w n₀ m tb l h.tk h.le h.fine h.sm x hx
  have HNa : Hid (Calls Tryz.prog 107 #[.pointer (some ⟨m, 0, none⟩), .int .i64 (x : Int)] w fun e w' => ((symP l x = true ∧ e = .returned (.string (nameAt l x))) ∨ (symP l x = false ∧ e = .panicked (pan 1))) ∧ Below w.heap.size w w') := nameAt_any w n₀ m tb l h.tk x hx
  have hDl : (partsD l x).length ≤ 100 := Nat.le_trans (partsTo_len _ _ _) (by have := h.fine.len; omega)
  have HLa : Hid (∀ (u : World) (an : Option Addr) (c B' : Nat), Below w.heap.size w u → IRow u B' an (partsD l x) → Calls Tryz.prog 189 #[.pointer (some ⟨m, 0, none⟩), .slice an (partsD l x).length c, .int .i64 y] u fun e w' => AnsLa l (partsD l x) y u e w') := fun u an c B' hu hi => lambdaOf_any u n₀ m tb l (h.below hu).tk (h.below hu).le h.sm B' an c (partsD l x) hi (gd_lt h.fine x) hDl y
  have HLe : Hid (∀ (u : World) (an : Option Addr) (c B' : Nat), Below w.heap.size w u → IRow u B' an (partsD l x) → Calls Tryz.prog 190 #[.pointer (some ⟨m, 0, none⟩), .slice an (partsD l x).length c, .int .i64 y] u fun e w' => AnsLe l (partsD l x) y u e w') := fun u an c B' hu hi => letOf_any u n₀ m tb l (h.below hu).tk (h.below hu).le h.fine h.sm B' an c (partsD l x) hi (gd_lt h.fine x) hDl y
  have HR : Hid (R = nameD l z x y) := hR
  clear h hR
  by_cases g4 : (z.toList == [108, 97, 109, 98, 100, 97]) = true
  · have HR1 : Hid (R = if kindAt l x = 4 then (if (lamC l (partsD l x)).1 = 0 then (0, fmL (lamC l (partsD l x)).2 y) else ((lamC l (partsD l x)).1, fm0)) else (1, fm0)) := by
      show _ = _
      rw [show R = _ from HR.out]
      unfold nameD
      rw [if_pos g4]
    clear HR HNa HLe
    by_cases hk4 : kindAt l x = 4
    case neg =>
      have HR2 : Hid (R.1 = 1) := by show _ = _; rw [show R = _ from HR1.out, if_neg hk4]
      have HPb : Hid (Calls Tryz.prog 109 #[.pointer (some ⟨m, 0, none⟩), .int .i64 (x : Int)] w fun e w' => e = .panicked (pan 1) ∧ Below w.heap.size w w') := HPa.out.mono fun e w' h => by
        rcases h with ⟨⟨h1, _⟩ | ⟨_, h2⟩, h3⟩
        · exact absurd h1 hk4
        · exact ⟨h2, h3⟩
      clear HPa HLa HR1
      go_enter Tryz.func171, Tryz.ntmps171
      go_wp2_with fail
      refine HPb.out.mono ?_
      rintro e w2 ⟨rfl, hb2⟩
      have HA : Hid (AnsF R w (.panicked (pan 1)) w2) := by
        have := AnsF.code (r := R) (by rw [HR2.out]; decide) hb2
        rw [HR2.out] at this
        exact this
      clear hb2
      exact ⟨rfl, HA.out⟩
    have HPb : Hid (Calls Tryz.prog 109 #[.pointer (some ⟨m, 0, none⟩), .int .i64 (x : Int)] w fun e w' => (∃ ap cp, e = .returned (.slice ap (partsD l x).length cp) ∧ w'.ownsRow w.heap.size 2 1 (.slice ap (partsD l x).length cp) (partsD l x).length (cellsI (partsD l x))) ∧ Below w.heap.size w w') := HPa.out.mono fun e w' h => by
      rcases h with ⟨⟨_, h1⟩ | ⟨h2, _⟩, h3⟩
      · exact ⟨h1, h3⟩
      · exact absurd hk4 h2
    rw [if_pos hk4] at HR1
    clear HPa hk4
    generalize partsD l x = D at HPb HLa HR1
    by_cases h0 : (lamC l D).1 = 0
    case neg =>
      have HR2 : Hid (R = ((lamC l D).1, fm0)) := by show _ = _; rw [show R = _ from HR1.out, if_neg h0]
      have HLb : Hid (∀ (u : World) (an : Option Addr) (c B' : Nat), Below w.heap.size w u → IRow u B' an D → Calls Tryz.prog 189 #[.pointer (some ⟨m, 0, none⟩), .slice an D.length c, .int .i64 y] u fun e w' => e = .panicked (pan R.1) ∧ Below u.heap.size u w') := fun u an c B' hu hi => (HLa.out u an c B' hu hi).mono fun e w' h => by
        rcases h with ⟨⟨h1, _⟩ | ⟨_, h2⟩, h3⟩
        · exact absurd h1 h0
        · exact ⟨by rw [HR2.out]; exact h2, h3⟩
      have HN : Hid (R.1 ≠ 0) := by show _ ≠ _; rw [HR2.out]; exact h0
      clear HLa HR1 HR2 h0
      go_enter Tryz.func171, Tryz.ntmps171
      go_wp2_with fail
      refine HPb.out.mono ?_
      rintro e w2 ⟨⟨ap, cp, rfl, hop⟩, hb2⟩
      have HLc : Hid (Calls Tryz.prog 189 #[.pointer (some ⟨m, 0, none⟩), .slice ap D.length cp, .int .i64 y] w2 fun e w' => e = .panicked (pan R.1) ∧ Below w2.heap.size w2 w') := HLb.out w2 ap cp w.heap.size hb2 (IRow.of hop (Nat.le_refl _))
      have HB2 : Hid (Below w.heap.size w w2) := hb2
      clear hop hb2 HLb
      go_wp2_with fail
      refine HLc.out.mono ?_
      rintro e w3 ⟨rfl, hb3⟩
      have HA : Hid (AnsF R w (.panicked (pan R.1)) w3) := AnsF.code HN.out (HB2.out.trans (hb3.mono HB2.out.size))
      clear hb3
      exact ⟨rfl, HA.out⟩
    have HR2 : Hid (R = (0, fmL (lamC l D).2 y)) := by show _ = _; rw [show R = _ from HR1.out, if_pos h0]
    have HLb : Hid (∀ (u : World) (an : Option Addr) (c B' : Nat), Below w.heap.size w u → IRow u B' an D → Calls Tryz.prog 189 #[.pointer (some ⟨m, 0, none⟩), .slice an D.length c, .int .i64 y] u fun e w' => (∃ nv, e = .returned (.agg #[nv, .int .i64 y]) ∧ NRow w' u.heap.size nv (lamC l D).2) ∧ Below u.heap.size u w') := fun u an c B' hu hi => (HLa.out u an c B' hu hi).mono fun e w' h => by
      rcases h with ⟨⟨_, nv, h1, h2⟩ | ⟨h1, _⟩, h3⟩
      · exact ⟨⟨nv, h1, h2, lamC_three h0⟩, h3⟩
      · exact absurd h0 h1
    generalize (lamC l D).2 = M at HLb HR2
    clear HLa HR1 h0
    go_enter Tryz.func171, Tryz.ntmps171
    go_wp2_with fail
    refine HPb.out.mono ?_
    rintro e w2 ⟨⟨ap, cp, rfl, hop⟩, hb2⟩
    have HLc : Hid (Calls Tryz.prog 189 #[.pointer (some ⟨m, 0, none⟩), .slice ap D.length cp, .int .i64 y] w2 fun e w' => (∃ nv, e = .returned (.agg #[nv, .int .i64 y]) ∧ NRow w' w2.heap.size nv M) ∧ Below w2.heap.size w2 w') := HLb.out w2 ap cp w.heap.size hb2 (IRow.of hop (Nat.le_refl _))
    have HB2 : Hid (Below w.heap.size w w2) := hb2
    clear hop hb2 HLb
    go_wp2_with fail
    refine HLc.out.mono ?_
    rintro e w3 ⟨⟨nv, rfl, hnr⟩, hb3⟩
    have HA : Hid (AnsF R w (.returned (.iface 136 (.agg #[nv, .int .i64 y]))) w3) := ⟨.inl ⟨by rw [HR2.out], _, rfl, by rw [HR2.out]; exact ⟨nv, rfl, own_base hnr.1 HB2.out.size, hnr.2⟩⟩, HB2.out.trans (hb3.mono HB2.out.size)⟩
    clear hnr hb3 HLc HR2
    go_wp2
    go_ret
    exact HA.out
  by_cases g5 : (z.toList == [108, 101, 116]) = true
  · have HR1 : Hid (R = if kindAt l x = 4 then (if (letC l (partsD l x)).1 = 0 then (0, fmT (letC l (partsD l x)).2.1 y (letC l (partsD l x)).2.2) else ((letC l (partsD l x)).1, fm0)) else (1, fm0)) := by
      show _ = _
      rw [show R = _ from HR.out]
      unfold nameD
      rw [if_neg g4, if_pos g5]
    clear HR HNa HLa
    by_cases hk4 : kindAt l x = 4
    case neg =>
      have HR2 : Hid (R.1 = 1) := by show _ = _; rw [show R = _ from HR1.out, if_neg hk4]
      have HPb : Hid (Calls Tryz.prog 109 #[.pointer (some ⟨m, 0, none⟩), .int .i64 (x : Int)] w fun e w' => e = .panicked (pan 1) ∧ Below w.heap.size w w') := HPa.out.mono fun e w' h => by
        rcases h with ⟨⟨h1, _⟩ | ⟨_, h2⟩, h3⟩
        · exact absurd h1 hk4
        · exact ⟨h2, h3⟩
      clear HPa HLe HR1
      go_enter Tryz.func171, Tryz.ntmps171
      go_wp2_with fail
      refine HPb.out.mono ?_
      rintro e w2 ⟨rfl, hb2⟩
      have HA : Hid (AnsF R w (.panicked (pan 1)) w2) := by
        have := AnsF.code (r := R) (by rw [HR2.out]; decide) hb2
        rw [HR2.out] at this
        exact this
      clear hb2
      exact ⟨rfl, HA.out⟩
    have HPb : Hid (Calls Tryz.prog 109 #[.pointer (some ⟨m, 0, none⟩), .int .i64 (x : Int)] w fun e w' => (∃ ap cp, e = .returned (.slice ap (partsD l x).length cp) ∧ w'.ownsRow w.heap.size 2 1 (.slice ap (partsD l x).length cp) (partsD l x).length (cellsI (partsD l x))) ∧ Below w.heap.size w w') := HPa.out.mono fun e w' h => by
      rcases h with ⟨⟨_, h1⟩ | ⟨h2, _⟩, h3⟩
      · exact ⟨h1, h3⟩
      · exact absurd hk4 h2
    rw [if_pos hk4] at HR1
    clear HPa hk4
    generalize partsD l x = D at HPb HLe HR1
    by_cases h0 : (letC l D).1 = 0
    case neg =>
      have HR2 : Hid (R = ((letC l D).1, fm0)) := by show _ = _; rw [show R = _ from HR1.out, if_neg h0]
      have HLb : Hid (∀ (u : World) (an : Option Addr) (c B' : Nat), Below w.heap.size w u → IRow u B' an D → Calls Tryz.prog 190 #[.pointer (some ⟨m, 0, none⟩), .slice an D.length c, .int .i64 y] u fun e w' => e = .panicked (pan R.1) ∧ Below u.heap.size u w') := fun u an c B' hu hi => (HLe.out u an c B' hu hi).mono fun e w' h => by
        rcases h with ⟨⟨h1, _⟩ | ⟨_, h2⟩, h3⟩
        · exact absurd h1 h0
        · exact ⟨by rw [HR2.out]; exact h2, h3⟩
      have HN : Hid (R.1 ≠ 0) := by show _ ≠ _; rw [HR2.out]; exact h0
      clear HLe HR1 HR2 h0
      go_enter Tryz.func171, Tryz.ntmps171
      go_wp2_with fail
      refine HPb.out.mono ?_
      rintro e w2 ⟨⟨ap, cp, rfl, hop⟩, hb2⟩
      have HLc : Hid (Calls Tryz.prog 190 #[.pointer (some ⟨m, 0, none⟩), .slice ap D.length cp, .int .i64 y] w2 fun e w' => e = .panicked (pan R.1) ∧ Below w2.heap.size w2 w') := HLb.out w2 ap cp w.heap.size hb2 (IRow.of hop (Nat.le_refl _))
      have HB2 : Hid (Below w.heap.size w w2) := hb2
      clear hop hb2 HLb
      go_wp2_with fail
      refine HLc.out.mono ?_
      rintro e w3 ⟨rfl, hb3⟩
      have HA : Hid (AnsF R w (.panicked (pan R.1)) w3) := AnsF.code HN.out (HB2.out.trans (hb3.mono HB2.out.size))
      clear hb3
      exact ⟨rfl, HA.out⟩
    have HR2 : Hid (R = (0, fmT (letC l D).2.1 y (letC l D).2.2)) := by show _ = _; rw [show R = _ from HR1.out, if_pos h0]
    have HLb : Hid (∀ (u : World) (an : Option Addr) (c B' : Nat), Below w.heap.size w u → IRow u B' an D → Calls Tryz.prog 190 #[.pointer (some ⟨m, 0, none⟩), .slice an D.length c, .int .i64 y] u fun e w' => (∃ nv av cv, e = .returned (.agg #[nv, .int .i64 y, .slice av (letC l D).2.2.length cv]) ∧ NRow w' u.heap.size nv (letC l D).2.1 ∧ IRow w' u.heap.size av (letC l D).2.2) ∧ Below u.heap.size u w') := fun u an c B' hu hi => (HLe.out u an c B' hu hi).mono fun e w' h => by
      rcases h with ⟨⟨_, nv, av, cv, h1, h2, h4⟩ | ⟨h1, _⟩, h3⟩
      · exact ⟨⟨nv, av, cv, h1, ⟨h2, letC_three h0⟩, h4⟩, h3⟩
      · exact absurd h0 h1
    generalize (letC l D).2.1 = M at HLb HR2
    generalize (letC l D).2.2 = V at HLb HR2
    clear HLe HR1 h0
    go_enter Tryz.func171, Tryz.ntmps171
    go_wp2_with fail
    refine HPb.out.mono ?_
    rintro e w2 ⟨⟨ap, cp, rfl, hop⟩, hb2⟩
    have HLc : Hid (Calls Tryz.prog 190 #[.pointer (some ⟨m, 0, none⟩), .slice ap D.length cp, .int .i64 y] w2 fun e w' => (∃ nv av cv, e = .returned (.agg #[nv, .int .i64 y, .slice av V.length cv]) ∧ NRow w' w2.heap.size nv M ∧ IRow w' w2.heap.size av V) ∧ Below w2.heap.size w2 w') := HLb.out w2 ap cp w.heap.size hb2 (IRow.of hop (Nat.le_refl _))
    have HB2 : Hid (Below w.heap.size w w2) := hb2
    clear hop hb2 HLb
    go_wp2_with fail
    refine HLc.out.mono ?_
    rintro e w3 ⟨⟨nv, av, cv, rfl, hnr, hir⟩, hb3⟩
    have HA : Hid (AnsF R w (.returned (.iface 139 (.agg #[nv, .int .i64 y, .slice av V.length cv]))) w3) := ⟨.inl ⟨by rw [HR2.out], _, rfl, by rw [HR2.out]; exact ⟨nv, av, cv, rfl, ⟨own_base hnr.1 HB2.out.size, hnr.2⟩, hir.base HB2.out.size⟩⟩, HB2.out.trans (hb3.mono HB2.out.size)⟩
    clear hnr hir hb3 HLc HR2
    go_wp2
    go_ret
    exact HA.out
  by_cases g6 : (z.toList == [100, 101, 102, 105, 110, 101]) = true
  · have HR1 : Hid (R = if symP l x = true then (0, fmD (nameAt l x) y) else (1, fm0)) := by
      show _ = _
      rw [show R = _ from HR.out]
      unfold nameD
      rw [if_neg g4, if_neg g5, if_pos g6]
    clear HR HPa HLa HLe
    by_cases hs : symP l x = true
    case neg =>
      have HR2 : Hid (R.1 = 1) := by show _ = _; rw [show R = _ from HR1.out, if_neg hs]
      have HNb : Hid (Calls Tryz.prog 107 #[.pointer (some ⟨m, 0, none⟩), .int .i64 (x : Int)] w fun e w' => e = .panicked (pan 1) ∧ Below w.heap.size w w') := HNa.out.mono fun e w' h => by
        rcases h with ⟨⟨h1, _⟩ | ⟨_, h2⟩, h3⟩
        · exact absurd h1 hs
        · exact ⟨h2, h3⟩
      clear HNa HR1 hs
      go_enter Tryz.func171, Tryz.ntmps171
      go_wp2_with fail
      refine HNb.out.mono ?_
      rintro e w2 ⟨rfl, hb2⟩
      have HA : Hid (AnsF R w (.panicked (pan 1)) w2) := by
        have := AnsF.code (r := R) (by rw [HR2.out]; decide) hb2
        rw [HR2.out] at this
        exact this
      clear hb2
      exact ⟨rfl, HA.out⟩
    have HR2 : Hid (R = (0, fmD (nameAt l x) y)) := by show _ = _; rw [show R = _ from HR1.out, if_pos hs]
    have HNb : Hid (Calls Tryz.prog 107 #[.pointer (some ⟨m, 0, none⟩), .int .i64 (x : Int)] w fun e w' => e = .returned (.string (nameAt l x)) ∧ Below w.heap.size w w') := HNa.out.mono fun e w' h => by
      rcases h with ⟨⟨_, h1⟩ | ⟨h2, _⟩, h3⟩
      · exact ⟨h1, h3⟩
      · rw [hs] at h2; cases h2
    generalize nameAt l x = q at HNb HR2
    clear HNa HR1 hs
    go_enter Tryz.func171, Tryz.ntmps171
    go_wp2_with fail
    refine HNb.out.mono ?_
    rintro e w2 ⟨rfl, hb2⟩
    have HA : Hid (AnsF R w (.returned (.iface 141 (.agg #[.string q, .int .i64 y]))) w2) := ⟨.inl ⟨by rw [HR2.out], _, rfl, by rw [HR2.out]; rfl⟩, hb2⟩
    clear hb2 HR2 HNb
    go_wp2
    go_ret
    exact HA.out
  · have HR1 : Hid (R = if symP l x = true then (0, fmS (nameAt l x) y) else (1, fm0)) := by
      show _ = _
      rw [show R = _ from HR.out]
      unfold nameD
      rw [if_neg g4, if_neg g5, if_neg g6]
    clear HR HPa HLa HLe
    by_cases hs : symP l x = true
    case neg =>
      have HR2 : Hid (R.1 = 1) := by show _ = _; rw [show R = _ from HR1.out, if_neg hs]
      have HNb : Hid (Calls Tryz.prog 107 #[.pointer (some ⟨m, 0, none⟩), .int .i64 (x : Int)] w fun e w' => e = .panicked (pan 1) ∧ Below w.heap.size w w') := HNa.out.mono fun e w' h => by
        rcases h with ⟨⟨h1, _⟩ | ⟨_, h2⟩, h3⟩
        · exact absurd h1 hs
        · exact ⟨h2, h3⟩
      clear HNa HR1 hs
      go_enter Tryz.func171, Tryz.ntmps171
      go_wp2_with fail
      refine HNb.out.mono ?_
      rintro e w2 ⟨rfl, hb2⟩
      have HA : Hid (AnsF R w (.panicked (pan 1)) w2) := by
        have := AnsF.code (r := R) (by rw [HR2.out]; decide) hb2
        rw [HR2.out] at this
        exact this
      clear hb2
      exact ⟨rfl, HA.out⟩
    have HR2 : Hid (R = (0, fmS (nameAt l x) y)) := by show _ = _; rw [show R = _ from HR1.out, if_pos hs]
    have HNb : Hid (Calls Tryz.prog 107 #[.pointer (some ⟨m, 0, none⟩), .int .i64 (x : Int)] w fun e w' => e = .returned (.string (nameAt l x)) ∧ Below w.heap.size w w') := HNa.out.mono fun e w' h => by
      rcases h with ⟨⟨_, h1⟩ | ⟨h2, _⟩, h3⟩
      · exact ⟨h1, h3⟩
      · rw [hs] at h2; cases h2
    generalize nameAt l x = q at HNb HR2
    clear HNa HR1 hs
    go_enter Tryz.func171, Tryz.ntmps171
    go_wp2_with fail
    refine HNb.out.mono ?_
    rintro e w2 ⟨rfl, hb2⟩
    have HA : Hid (AnsF R w (.returned (.iface 143 (.agg #[.string q, .int .i64 y]))) w2) := ⟨.inl ⟨by rw [HR2.out], _, rfl, by rw [HR2.out]; rfl⟩, hb2⟩
    clear hb2 HR2 HNb
    go_wp2
    go_ret
    exact HA.out
end Go.Proofs.YtfdkklhigliciaaGreatDoor
