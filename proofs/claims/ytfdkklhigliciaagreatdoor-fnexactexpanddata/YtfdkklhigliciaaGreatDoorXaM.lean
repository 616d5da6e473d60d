/-
  Parts of the proof laid into one text, one behind the other; each says at its head what is proved in it.
-/
import Derived.Test.YtfdkklhigliciaaGreatDoorXaG
import Derived.Test.YtfdkklhigliciaaGreatDoorXaK
import Derived.Test.YtfdkklhigliciaaGreatDoorImExAHx
/-
  The program's treeAt: the tree of data and a place in it, or what is wrong; nothing that was there is turned.
-/
namespace Go.Proofs.YtfdkklhigliciaaGreatDoor
open Go.RowKit Go.Extern.Stop Go.Stop Go.Extern Num Go.Lib Go.Shelf

/-- What treeAt answers. -/
def AnsA (l : List Dat) (z : Int) (w : World) (e : Ending) (w' : World) : Prop :=
  (askD l z ≠ 0 ∧ e = .returned (.tuple #[.pointer none, .int .i64 (askD l z)]) ∧ Below w.heap.size w w') ∨
  (askD l z = 0 ∧ e = .returned (.tuple #[.pointer (some ⟨w.heap.size, 0, none⟩), .int .i64 0]) ∧ OwnT w.heap.size w.heap.size (nodes l) w' ∧ Below w.heap.size w w')
theorem pdn_nodes {l : List Dat} (F : Fine l) (hz : ∀ (k : Nat) (h : k < l.length), l[k].name.size ≤ 1048576) : ∀ (k : Nat) (h : k < (nodes l).length), PdN ((k : Int), (nodes l)[k]) := fun k h => by
  have hk : k < l.length := by rw [nodes_len] at h; exact h
  rw [nodes_at l k hk]
  have := F.parent k hk
  have := F.len
  exact ⟨hz k hk, by show -1 ≤ l[k].parent; omega, by show l[k].parent < 1000; omega⟩
end Go.Proofs.YtfdkklhigliciaaGreatDoor
/-
  The program's tokenAt, nameAt and partsAt: what stands at a place, or the panic that carries a code; nothing that was there is turned.
-/
namespace Go.Proofs.YtfdkklhigliciaaGreatDoor
open Go.RowKit Go.Extern.Stop Go.Stop Go.Extern Num Go.Lib Go.Shelf

/-- The expander's tree of data alone. -/
def Tk (w : World) (n₀ m tb : Nat) (l : List Dat) : Prop := m < n₀ ∧ w.cell? ⟨m, 0, none⟩ = some (.pointer (some ⟨tb, 0, none⟩)) ∧ IsTree n₀ w tb (nodes l)
theorem Tk.below {w w' : World} {n₀ m tb : Nat} {l : List Dat} (h : Tk w n₀ m tb l) (hb : Below n₀ w w') : Tk w' n₀ m tb l :=
  ⟨h.1, (hb.cell (p := ⟨m, 0, none⟩) h.1).trans h.2.1, h.2.2.below hb⟩
theorem Xp.tk {w : World} {B m tb : Nat} {l : List Dat} {P : List (Cor × Value)} (h : Xp w B m tb l P) : Tk w w.heap.size m tb l :=
  ⟨lt_of_cell h.hd, h.hd, h.tr.mono (Nat.le_of_lt (lt_of_cell h.hd))⟩
theorem tokenAt_any (w : World) (n₀ m tb : Nat) (l : List Dat) (h : Tk w n₀ m tb l) (a : Nat) (ha : a < l.length) :
    Calls Tryz.prog 106 #[.pointer (some ⟨m, 0, none⟩), .int .i64 (a : Int)] w fun e w' => e = .returned (.agg #[.int .i64 (tkD l[a].kind), .int .i64 l[a].num, .string l[a].name]) ∧ Below w.heap.size w w' := by
  obtain ⟨-, c0, ao, g, cap, ct, -, -, hao, hr⟩ := h
  obtain rfl := hao (by intro e; have := nodes_len l; rw [e] at this; simp at this; omega)
  have hla : a < (nodes l).length := by rw [nodes_len]; exact ha
  obtain ⟨c1, c2, c3, c4⟩ := hr a hla
  rw [nodes_at l a ha] at c1 c2 c3 c4
  rw [nodes_len] at ct
  simp only [nodD] at c1 c2 c3 c4
  have hm := lt_of_cell c0
  have ht := lt_of_cell ct
  have hg := lt_of_cell c1
  go_enter Tryz.func106, Tryz.ntmps106
  go_wp2
  refine bodyPost_ret (v := .agg #[.int .i64 (tkD l[a].kind), .int .i64 l[a].num, .string l[a].name]) (by simp [results, Tryz.results106, go_sem]) rfl ⟨rfl, ?_⟩
  exact (Below.refl _ _).alloc (Nat.le_refl _) _
theorem tk6 (k : Int) : (tkD k == 6) = (k == 3) := by
  by_cases h1 : k = 1
  · subst h1; rfl
  by_cases h2 : k = 2
  · subst h2; rfl
  by_cases h3 : k = 3
  · subst h3; rfl
  by_cases h4 : k = 4
  · subst h4; rfl
  have e : tkD k = 0 := by unfold tkD; rw [if_neg h1, if_neg h2, if_neg h3, if_neg h4]
  rw [e]
  have e2 : (k == 3) = false := beq_false_of_ne h3
  rw [e2]; rfl
theorem tk1 (k : Int) : (tkD k == 1) = (k == 4) := by
  by_cases h1 : k = 1
  · subst h1; rfl
  by_cases h2 : k = 2
  · subst h2; rfl
  by_cases h3 : k = 3
  · subst h3; rfl
  by_cases h4 : k = 4
  · subst h4; rfl
  have e : tkD k = 0 := by unfold tkD; rw [if_neg h1, if_neg h2, if_neg h3, if_neg h4]
  rw [e]
  have e2 : (k == 4) = false := beq_false_of_ne h4
  rw [e2]; rfl
set_option maxHeartbeats 1000000 in
theorem nameAt_any (w : World) (n₀ m tb : Nat) (l : List Dat) (h : Tk w n₀ m tb l) (a : Nat) (ha : a < l.length) :
    Calls Tryz.prog 107 #[.pointer (some ⟨m, 0, none⟩), .int .i64 (a : Int)] w fun e w' => ((symP l a = true ∧ e = .returned (.string (nameAt l a))) ∨ (symP l a = false ∧ e = .panicked (pan 1))) ∧ Below w.heap.size w w' := by
  have HT : Hid (Calls Tryz.prog 106 #[.pointer (some ⟨m, 0, none⟩), .int .i64 (a : Int)] w fun e w' => e = .returned (.agg #[.int .i64 (tkD l[a].kind), .int .i64 l[a].num, .string l[a].name]) ∧ Below w.heap.size w w') := tokenAt_any w n₀ m tb l h a ha
  have e1 : symP l a = ((l[a].kind == 3) && !kwB l[a].name) := by unfold symP kindAt nameAt; simp [ha]
  have e2 : nameAt l a = l[a].name := by unfold nameAt; simp [ha]
  rw [e1, e2]
  have e3 := tk6 l[a].kind
  have HK : Hid (∀ u, Calls Tryz.prog 138 #[.string l[a].name] u fun e w' => e = .returned (.bool (kwB l[a].name)) ∧ w' = u) := fun u => implKw_any _ u
  generalize l[a].name = z at HT HK ⊢
  generalize l[a].num = n at HT
  generalize tkD l[a].kind = kk at HT e3
  generalize (l[a].kind == 3) = b at e3 ⊢
  generalize kwB z = q at HK ⊢
  clear h e1 e2
  cases b with
  | false =>
    go_enter Tryz.func107, Tryz.ntmps107
    go_wp2_with (first | (go_at_call 106; refine HT.out.mono ?_; rintro e ws ⟨rfl, hws⟩; have HBs : Hid (Below w.heap.size w ws) := hws; clear hws) | (go_at_call 53; refine (demand_no _ _).mono ?_; rintro e wd1 ⟨rfl, hwd⟩; replace hwd := hwd.symm; subst hwd))
    exact ⟨rfl, .inr ⟨rfl, rfl⟩, (by repeat (first | exact HBs.out | refine Below.alloc ?_ (by have := HBs.out.size; omega) _))⟩
  | true =>
    cases q with
    | true =>
      go_enter Tryz.func107, Tryz.ntmps107
      go_wp2_with (first | (go_at_call 106; refine HT.out.mono ?_; rintro e ws ⟨rfl, hws⟩; have HBs : Hid (Below w.heap.size w ws) := hws; clear hws) | (go_at_call 138; refine (HK.out _).mono ?_; rintro e wk ⟨rfl, hwk⟩; replace hwk := hwk.symm; subst hwk) | (go_at_call 53; refine (demand_no _ _).mono ?_; rintro e wd1 ⟨rfl, hwd⟩; replace hwd := hwd.symm; subst hwd))
      exact ⟨rfl, .inr ⟨rfl, rfl⟩, (by repeat (first | exact HBs.out | refine Below.alloc ?_ (by have := HBs.out.size; omega) _))⟩
    | false =>
      go_enter Tryz.func107, Tryz.ntmps107
      go_wp2_with (first | (go_at_call 106; refine HT.out.mono ?_; rintro e ws ⟨rfl, hws⟩; have HBs : Hid (Below w.heap.size w ws) := hws; clear hws) | (go_at_call 138; refine (HK.out _).mono ?_; rintro e wk ⟨rfl, hwk⟩; replace hwk := hwk.symm; subst hwk) | (go_at_call 53; refine (demand_yes _ _).mono ?_; rintro e wd1 ⟨rfl, hwd⟩; replace hwd := hwd.symm; subst hwd))
      go_ret
      exact ⟨.inl ⟨rfl, rfl⟩, (by repeat (first | exact HBs.out | refine Below.alloc ?_ (by have := HBs.out.size; omega) _))⟩
theorem fieldTk0 (x y : Int) (z : ByteArray) (u : World) : (Instr.field 89 (.agg #[.int .i64 x, .int .i64 y, .string z]) 0).run Tryz.prog u = .ok (.int .i64 x) u := by kernel_rfl
theorem fieldTk2 (x y : Int) (z : ByteArray) (u : World) : (Instr.field 89 (.agg #[.int .i64 x, .int .i64 y, .string z]) 2).run Tryz.prog u = .ok (.string z) u := by kernel_rfl
/-- What partsAt answers. -/
def AnsPa (l : List Dat) (a : Nat) (w : World) (e : Ending) (w' : World) : Prop :=
  ((kindAt l a = 4 ∧ ∃ ao c, e = .returned (.slice ao (partsD l a).length c) ∧ w'.ownsRow w.heap.size 2 1 (.slice ao (partsD l a).length c) (partsD l a).length (cellsI (partsD l a))) ∨ (kindAt l a ≠ 4 ∧ e = .panicked (pan 1))) ∧ Below w.heap.size w w'
set_option maxRecDepth 100000 in
set_option maxHeartbeats 1000000 in
theorem partsAt_any (w : World) (n₀ m tb : Nat) (l : List Dat) (h : Tk w n₀ m tb l) (hn : n₀ ≤ w.heap.size) (F : Fine l) (hz : ∀ (k : Nat) (h : k < l.length), l[k].name.size ≤ 1048576) (a : Nat) (ha : a < l.length) :
    Calls Tryz.prog 109 #[.pointer (some ⟨m, 0, none⟩), .int .i64 (a : Int)] w fun e w' => AnsPa l a w e w' := by
  have HT : Hid (Calls Tryz.prog 106 #[.pointer (some ⟨m, 0, none⟩), .int .i64 (a : Int)] w fun e w' => e = .returned (.agg #[.int .i64 (tkD l[a].kind), .int .i64 l[a].num, .string l[a].name]) ∧ Below w.heap.size w w') := tokenAt_any w n₀ m tb l h a ha
  have e1 : kindAt l a = l[a].kind := by unfold kindAt; simp [ha]
  have e3 := tk1 l[a].kind
  have c0 := h.2.1
  have HD : Hid (∀ (ws u : World), Below w.heap.size w ws → u = (ws.alloc (.cells #[.pointer (some ⟨tb, 0, none⟩)] 51)).alloc (.cells #[.int .i64 (a : Int)] 2) →
      Calls Tryz.prog 140 #[.func (.func 173) #[] #[.pointer (some ⟨ws.heap.size, 0, none⟩), .pointer (some ⟨ws.heap.size + 1, 0, none⟩)]] u fun r W' => ∃ ao c, r = .returned (.slice ao (partsD l (a : Int)).length c) ∧ W'.ownsRow w.heap.size 2 1 (.slice ao (partsD l (a : Int)).length c) (partsD l (a : Int)).length (cellsI (partsD l (a : Int))) ∧ Below w.heap.size w W') := fun ws u hws hu => by
    have hs0 := hws.size
    have hb : Below w.heap.size w u := by rw [hu]; exact (hws.alloc hs0 _).alloc (by simp; omega) _
    have hs : u.heap.size = ws.heap.size + 2 := by rw [hu]; simp
    have := collect_in 9 (by omega) (ws.heap.size + 1) ws.heap.size ws.heap.size (ws.heap.size + 2) tb (nodes l) a (endD l a) (endAt_of F a ha) (by rw [nodes_len]; have := F.len; omega) (pdn_nodes F hz) u (by rw [hu]; simp) (by rw [hu]; simp) (by omega) (by omega) (by omega) (by omega) ((h.2.2.below (hb.mono hn)).mono (by omega))
    rw [kids_all F a ha] at this
    refine this.mono ?_
    rintro r W' ⟨ao, c, h1, h2, h3⟩
    exact ⟨ao, c, h1, own_base h2 (by omega), hb.trans (h3.mono (by omega))⟩
  have HTk : Hid (∀ ws, Below w.heap.size w ws → ws.cell? ⟨m, 0, none⟩ = some (.pointer (some ⟨tb, 0, none⟩)) ∧ m < ws.heap.size) := fun ws hws => ⟨(h.below (hws.mono hn)).2.1, lt_of_cell (h.below (hws.mono hn)).2.1⟩
  unfold AnsPa
  rw [e1]
  generalize l[a].name = z at HT
  generalize l[a].num = n at HT
  generalize tkD l[a].kind = kk at HT e3
  generalize partsD l a = D at HD ⊢
  have hB : ((l[a].kind == 4) = true ↔ l[a].kind = 4) := beq_iff_eq
  generalize l[a].kind = kd at hB e3 ⊢
  generalize (kd == 4) = b at e3 hB
  have HB : Hid (b = true ↔ kd = 4) := hB
  have hfK : ∀ u, (Instr.field 89 (.agg #[.int .i64 kk, .int .i64 n, .string z]) 0).run Tryz.prog u = .ok (.int .i64 kk) u := fun u => fieldTk0 kk n z u
  clear h e1 F hz ha hB c0
  cases b with
  | false =>
    have HN : Hid (kd ≠ 4) := fun e => by have := HB.out.2 e; cases this
    clear HB
    go_enter Tryz.func109, Tryz.ntmps109
    go_wp2_with (first | (go_at_call 106; refine HT.out.mono ?_; rintro e ws ⟨rfl, hws⟩; have HBs : Hid (Below w.heap.size w ws) := hws; obtain ⟨c0, c0l⟩ := HTk.out ws hws; clear hws) | (go_at_call 53; refine (demand_no _ _).mono ?_; rintro e wd1 ⟨rfl, hwd⟩; replace hwd := hwd.symm; subst hwd))
    exact ⟨rfl, .inr ⟨HN.out, rfl⟩, (by repeat (first | exact HBs.out | refine Below.alloc ?_ (by have := HBs.out.size; omega) _))⟩
  | true =>
    have HN : Hid (kd = 4) := HB.out.1 rfl
    clear HB
    go_enter Tryz.func109, Tryz.ntmps109
    go_wp2_with (first | (go_at_call 106; refine HT.out.mono ?_; rintro e ws ⟨rfl, hws⟩; have HBs : Hid (Below w.heap.size w ws) := hws; obtain ⟨c0, c0l⟩ := HTk.out ws hws; clear hws) | (go_at_call 53; refine (demand_yes _ _).mono ?_; rintro e wd1 ⟨rfl, hwd⟩; replace hwd := hwd.symm; subst hwd))
    refine (kids_any _ _ _).mono ?_
    rintro e w2 ⟨rfl, hw2⟩
    have HC : Hid (Calls Tryz.prog 140 #[.func (.func 173) #[] #[.pointer (some ⟨ws.heap.size, 0, none⟩), .pointer (some ⟨ws.heap.size + 1, 0, none⟩)]] w2 fun r W' => ∃ ao c, r = .returned (.slice ao D.length c) ∧ W'.ownsRow w.heap.size 2 1 (.slice ao D.length c) D.length (cellsI D) ∧ Below w.heap.size w W') := HD.out ws w2 HBs.out hw2
    clear hw2
    go_wp2_with fail
    refine HC.out.mono ?_
    rintro e w3 ⟨ao', c', rfl, ho3, hb3⟩
    have HO3 : Hid (w3.ownsRow w.heap.size 2 1 (.slice ao' D.length c') D.length (cellsI D)) := ho3
    have HB3 : Hid (Below w.heap.size w w3) := hb3
    clear ho3 hb3
    go_wp2
    go_ret
    exact ⟨.inl ⟨HN.out, ao', c', rfl, HO3.out⟩, HB3.out⟩
end Go.Proofs.YtfdkklhigliciaaGreatDoor
