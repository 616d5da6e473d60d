/-
  Parts of the proof laid into one text, one behind the other; each says at its head what is proved in it.
-/
import Derived.Test.YtfdkklhigliciaaGreatDoorRows
import Derived.WalkKit
import Derived.Test.YtfdkklhigliciaaGreatDoorImExNHx
/-
  The type switch over forms: what an assertion of a form to one of its kinds gives.
-/
namespace Go.Proofs.YtfdkklhigliciaaGreatDoor
open Go.RowKit

theorem ta_0_0 (S : TypeId) (x : Value) (u : World) : (Instr.typeAssert (.iface 126 x) S 126 true).run Tryz.prog u = .ok (.tuple #[x, .bool true]) u := by kernel_rfl
theorem ta_1_0 (S : TypeId) (x : Value) (u : World) : (Instr.typeAssert (.iface 130 x) S 126 true).run Tryz.prog u = .ok (.tuple #[.agg #[.int .i64 0], .bool false]) u := by kernel_rfl
theorem ta_1_1 (S : TypeId) (x : Value) (u : World) : (Instr.typeAssert (.iface 130 x) S 130 true).run Tryz.prog u = .ok (.tuple #[x, .bool true]) u := by kernel_rfl
theorem ta_2_0 (S : TypeId) (x : Value) (u : World) : (Instr.typeAssert (.iface 133 x) S 126 true).run Tryz.prog u = .ok (.tuple #[.agg #[.int .i64 0], .bool false]) u := by kernel_rfl
theorem ta_2_1 (S : TypeId) (x : Value) (u : World) : (Instr.typeAssert (.iface 133 x) S 130 true).run Tryz.prog u = .ok (.tuple #[.agg #[.string ⟨#[]⟩], .bool false]) u := by kernel_rfl
theorem ta_2_2 (S : TypeId) (x : Value) (u : World) : (Instr.typeAssert (.iface 133 x) S 133 true).run Tryz.prog u = .ok (.tuple #[x, .bool true]) u := by kernel_rfl
theorem ta_3_0 (S : TypeId) (x : Value) (u : World) : (Instr.typeAssert (.iface 136 x) S 126 true).run Tryz.prog u = .ok (.tuple #[.agg #[.int .i64 0], .bool false]) u := by kernel_rfl
theorem ta_3_1 (S : TypeId) (x : Value) (u : World) : (Instr.typeAssert (.iface 136 x) S 130 true).run Tryz.prog u = .ok (.tuple #[.agg #[.string ⟨#[]⟩], .bool false]) u := by kernel_rfl
theorem ta_3_2 (S : TypeId) (x : Value) (u : World) : (Instr.typeAssert (.iface 136 x) S 133 true).run Tryz.prog u = .ok (.tuple #[.agg #[.int .i64 0, .slice none 0 0], .bool false]) u := by kernel_rfl
theorem ta_3_3 (S : TypeId) (x : Value) (u : World) : (Instr.typeAssert (.iface 136 x) S 136 true).run Tryz.prog u = .ok (.tuple #[x, .bool true]) u := by kernel_rfl
theorem ta_4_0 (S : TypeId) (x : Value) (u : World) : (Instr.typeAssert (.iface 139 x) S 126 true).run Tryz.prog u = .ok (.tuple #[.agg #[.int .i64 0], .bool false]) u := by kernel_rfl
theorem ta_4_1 (S : TypeId) (x : Value) (u : World) : (Instr.typeAssert (.iface 139 x) S 130 true).run Tryz.prog u = .ok (.tuple #[.agg #[.string ⟨#[]⟩], .bool false]) u := by kernel_rfl
theorem ta_4_2 (S : TypeId) (x : Value) (u : World) : (Instr.typeAssert (.iface 139 x) S 133 true).run Tryz.prog u = .ok (.tuple #[.agg #[.int .i64 0, .slice none 0 0], .bool false]) u := by kernel_rfl
theorem ta_4_3 (S : TypeId) (x : Value) (u : World) : (Instr.typeAssert (.iface 139 x) S 136 true).run Tryz.prog u = .ok (.tuple #[.agg #[.slice none 0 0, .int .i64 0], .bool false]) u := by kernel_rfl
theorem ta_4_4 (S : TypeId) (x : Value) (u : World) : (Instr.typeAssert (.iface 139 x) S 139 true).run Tryz.prog u = .ok (.tuple #[x, .bool true]) u := by kernel_rfl
theorem ta_5_0 (S : TypeId) (x : Value) (u : World) : (Instr.typeAssert (.iface 141 x) S 126 true).run Tryz.prog u = .ok (.tuple #[.agg #[.int .i64 0], .bool false]) u := by kernel_rfl
theorem ta_5_1 (S : TypeId) (x : Value) (u : World) : (Instr.typeAssert (.iface 141 x) S 130 true).run Tryz.prog u = .ok (.tuple #[.agg #[.string ⟨#[]⟩], .bool false]) u := by kernel_rfl
theorem ta_5_2 (S : TypeId) (x : Value) (u : World) : (Instr.typeAssert (.iface 141 x) S 133 true).run Tryz.prog u = .ok (.tuple #[.agg #[.int .i64 0, .slice none 0 0], .bool false]) u := by kernel_rfl
theorem ta_5_3 (S : TypeId) (x : Value) (u : World) : (Instr.typeAssert (.iface 141 x) S 136 true).run Tryz.prog u = .ok (.tuple #[.agg #[.slice none 0 0, .int .i64 0], .bool false]) u := by kernel_rfl
theorem ta_5_4 (S : TypeId) (x : Value) (u : World) : (Instr.typeAssert (.iface 141 x) S 139 true).run Tryz.prog u = .ok (.tuple #[.agg #[.slice none 0 0, .int .i64 0, .slice none 0 0], .bool false]) u := by kernel_rfl
theorem ta_5_5 (S : TypeId) (x : Value) (u : World) : (Instr.typeAssert (.iface 141 x) S 141 true).run Tryz.prog u = .ok (.tuple #[x, .bool true]) u := by kernel_rfl
theorem ta_6_0 (S : TypeId) (x : Value) (u : World) : (Instr.typeAssert (.iface 143 x) S 126 true).run Tryz.prog u = .ok (.tuple #[.agg #[.int .i64 0], .bool false]) u := by kernel_rfl
theorem ta_6_1 (S : TypeId) (x : Value) (u : World) : (Instr.typeAssert (.iface 143 x) S 130 true).run Tryz.prog u = .ok (.tuple #[.agg #[.string ⟨#[]⟩], .bool false]) u := by kernel_rfl
theorem ta_6_2 (S : TypeId) (x : Value) (u : World) : (Instr.typeAssert (.iface 143 x) S 133 true).run Tryz.prog u = .ok (.tuple #[.agg #[.int .i64 0, .slice none 0 0], .bool false]) u := by kernel_rfl
theorem ta_6_3 (S : TypeId) (x : Value) (u : World) : (Instr.typeAssert (.iface 143 x) S 136 true).run Tryz.prog u = .ok (.tuple #[.agg #[.slice none 0 0, .int .i64 0], .bool false]) u := by kernel_rfl
theorem ta_6_4 (S : TypeId) (x : Value) (u : World) : (Instr.typeAssert (.iface 143 x) S 139 true).run Tryz.prog u = .ok (.tuple #[.agg #[.slice none 0 0, .int .i64 0, .slice none 0 0], .bool false]) u := by kernel_rfl
theorem ta_6_5 (S : TypeId) (x : Value) (u : World) : (Instr.typeAssert (.iface 143 x) S 141 true).run Tryz.prog u = .ok (.tuple #[.agg #[.string ⟨#[]⟩, .int .i64 0], .bool false]) u := by kernel_rfl
theorem ta_6_6 (S : TypeId) (x : Value) (u : World) : (Instr.typeAssert (.iface 143 x) S 143 true).run Tryz.prog u = .ok (.tuple #[x, .bool true]) u := by kernel_rfl
end Go.Proofs.YtfdkklhigliciaaGreatDoor
/-
  The program's expand, by kinds of forms: a form that has a code, a constant, a name.
-/
namespace Go.Proofs.YtfdkklhigliciaaGreatDoor
open Go.RowKit Go.Extern.Stop Go.Stop Go.Extern Num Go.Lib Go.Shelf

/-- What is there ahead of an expand. -/
structure XpS (w : World) (B m tb : Nat) (l : List Dat) (so : Option Addr) (E : Env) (C : List Cor) : Prop where
  xs : XS w B m tb l C
  ch : chS w B so E
  fine : Fine l
  sm : ∀ (k : Nat) (h : k < l.length), l[k].name.size ≤ 1048576
  el : E.length ≤ 1000
  cl : C.length < 1000
theorem XpS.below {w w' : World} {B m tb : Nat} {l : List Dat} {so : Option Addr} {E : Env} {C : List Cor} (h : XpS w B m tb l so E C) (hb : Below w.heap.size w w') : XpS w' B m tb l so E C :=
  ⟨h.xs.below hb, h.ch.below hb, h.fine, h.sm, h.el, h.cl⟩
theorem XpS.rd {w : World} {B m tb : Nat} {l : List Dat} {so : Option Addr} {E : Env} {C : List Cor} (h : XpS w B m tb l so E C) : Rd4 w w.heap.size m tb l := ⟨h.xs.tk, Nat.le_refl _, h.fine, h.sm⟩
theorem XpS.kx {w w' : World} {B m tb : Nat} {l : List Dat} {so : Option Addr} {E : Env} {C : List Cor} (h : XpS w B m tb l so E C) (hb : Below w.heap.size w w') : Kx B m w w' := Kx.of_below hb (by have := h.xs.lo; omega)
/-- formAt, where the form is known. -/
theorem formV {w : World} {B m tb : Nat} {l : List Dat} {so : Option Addr} {E : Env} {C : List Cor} (h : XpS w B m tb l so E C) {a : Nat} (ha : a < l.length) {f : Fm} (hf : formD l a = (0, f)) :
    Calls Tryz.prog 75 #[.pointer (some ⟨m, 0, none⟩), .int .i64 (a : Int)] w fun e w' => (∃ v, e = .returned v ∧ FmV w' w.heap.size v f) ∧ Below w.heap.size w w' := by
  refine (formAt_any w w.heap.size m tb l h.rd a ha).mono ?_
  rintro e w' ⟨⟨h0, v, h1, h2⟩ | ⟨h0, h1⟩, h3⟩
  · rw [hf] at h2
    exact ⟨⟨v, h1, h2⟩, h3⟩
  · rw [hf] at h0; exact absurd rfl h0
set_option maxRecDepth 100000 in
set_option maxHeartbeats 1000000 in
theorem exp_err (l : List Dat) (w : World) (B m tb a : Nat) (par : Int) (so : Option Addr) (E : Env) (C : List Cor) (h : XpS w B m tb l so E C) (ha : a < l.length) (hf : (formD l a).1 ≠ 0) :
    Calls Tryz.prog 52 #[.pointer (some ⟨m, 0, none⟩), .int .i64 (a : Int), .int .i64 par, .pointer so] w fun e w' => AnsE B m tb l ((formD l a).1, C) w e w' := by
  have HF : Hid (Calls Tryz.prog 75 #[.pointer (some ⟨m, 0, none⟩), .int .i64 (a : Int)] w fun e w' => e = .panicked (pan (formD l a).1) ∧ AnsE B m tb l ((formD l a).1, C) w (.panicked (pan (formD l a).1)) w') := by
    refine (formAt_any w w.heap.size m tb l h.rd a ha).mono ?_
    rintro e w' ⟨⟨h0, _⟩ | ⟨h0, rfl⟩, h3⟩
    · exact absurd h0 hf
    · exact ⟨rfl, .inr ⟨h0, rfl⟩, h.kx h3⟩
  clear h hf
  go_enter Tryz.func52, Tryz.ntmps52
  go_wp2_with fail
  refine HF.out.mono ?_
  rintro e w2 ⟨rfl, ha⟩
  exact ⟨rfl, ha⟩
set_option maxRecDepth 100000 in
set_option maxHeartbeats 1000000 in
theorem exp_const (l : List Dat) (w : World) (B m tb a : Nat) (par : Int) (so : Option Addr) (E : Env) (C : List Cor) (h : XpS w B m tb l so E C) (ha : a < l.length) (s : Nat) (hs : s < l.length) (hf : formD l a = (0, fmC s)) :
    Calls Tryz.prog 52 #[.pointer (some ⟨m, 0, none⟩), .int .i64 (a : Int), .int .i64 par, .pointer so] w fun e w' => AnsE B m tb l (0, C ++ [coC 1 par 0 0 ⟨#[]⟩ (subD l s)]) w e w' := by
  have HF : Hid (Calls Tryz.prog 75 #[.pointer (some ⟨m, 0, none⟩), .int .i64 (a : Int)] w fun e w' => (∃ v, e = .returned v ∧ FmV w' w.heap.size v (fmC s)) ∧ Below w.heap.size w w') := formV h ha hf
  go_enter Tryz.func52, Tryz.ntmps52
  go_wp2_with fail
  refine HF.out.mono ?_
  rintro e w2 ⟨⟨v, rfl, hv⟩, hb2⟩
  obtain rfl : v = .iface 126 (.agg #[.int .i64 (s : Int)]) := hv
  have t0 := ta_0_0
  have hfc : ∀ u, (Instr.field 126 (.agg #[.int .i64 (s : Int)]) 0).run Tryz.prog u = .ok (.int .i64 (s : Int)) u := fun u => by kernel_rfl
  have h2 := h.below hb2
  have hk2 := h.kx hb2
  have c0 : w2.cell? ⟨m, 0, none⟩ = some (.pointer (some ⟨tb, 0, none⟩)) := h2.xs.tk.2.1
  have hFi := h.fine
  have HD : Hid (∀ u, Below w2.heap.size w2 u → Calls Tryz.prog 77 #[.pointer (some ⟨tb, 0, none⟩), .int .i64 (s : Int)] u fun e w' => ∃ ad cd, e = .returned (.slice ad (subD l s).length cd) ∧ w'.ownsRow u.heap.size 49 4 (.slice ad (subD l s).length cd) (subD l s).length (cellsD (subD l s)) ∧ Below u.heap.size u w') := fun u hu => by
    have hT := ((h2.below hu).rd.tk).2.2
    have := (callsIn_wide (n := 4)).1 (dataBelow_in 4 (by omega) tb (nodes l) s (endD l s) (endAt_of hFi s hs) (by rw [nodes_len]; have := hFi.len; omega) (pdn_nodes hFi h.sm) u hT)
    rw [told_sub hFi s hs] at this
    refine this.mono ?_
    rintro e w' ⟨v, rfl, ho, hb⟩
    obtain ⟨ad, cd, rfl⟩ := own_form ho
    exact ⟨ad, cd, rfl, ho, hb⟩
  have HA : Hid (∀ (u0 u : World) (ad : Option Addr) (cd : Nat), Below w2.heap.size w2 u0 → Below u0.heap.size u0 u → u.ownsRow u0.heap.size 49 4 (.slice ad (subD l s).length cd) (subD l s).length (cellsD (subD l s)) → Calls Tryz.prog 76 #[.pointer (some ⟨m, 0, none⟩), .int .i64 par, .agg #[.int .i64 1, .int .i64 0, .int .i64 0, .int .i64 0, .string ⟨#[]⟩, .slice ad (subD l s).length cd]] u fun e w' => e = .returned (.int .i64 (C.length : Nat)) ∧ AnsE B m tb l (0, C ++ [coC 1 par 0 0 ⟨#[]⟩ (subD l s)]) w (.returned (.tuple #[])) w') := fun u0 u ad cd h0 h1 ho => by
    refine (addSD_any u0 u B m tb l C (subD l s) _ par (h2.below h0).xs h1 ho h.cl).mono ?_
    rintro e w' ⟨rfl, k1, k2⟩
    exact ⟨rfl, .inl ⟨rfl, rfl, k1⟩, (hk2.trans (h2.kx h0)).trans (((h2.below h0).kx h1).trans k2)⟩
  have hml : m < w2.heap.size := by have := h2.xs.lo; omega
  clear HF h hb2 h2 hk2 hf hFi
  go_wp2_with fail
  go_region_with (first
    | (go_at_call 77; refine (HD.out _ (by repeat (first | exact Below.refl _ _ | refine Below.drew ?_ | refine Below.alloc ?_ (by simp) _))).mono ?_; rintro e w3 ⟨ad, cd, rfl, ho3, hb3⟩; have HO3 : Hid _ := And.intro ho3 hb3; clear ho3 hb3)
    | (go_at_call 76; refine (HA.out _ _ ad cd (by repeat (first | exact Below.refl _ _ | refine Below.drew ?_ | refine Below.alloc ?_ (by simp) _)) HO3.out.2 HO3.out.1).mono ?_; rintro e w4 ⟨rfl, ha⟩; have HAn : Hid (AnsE B m tb l (0, C ++ [coC 1 par 0 0 ⟨#[]⟩ (subD l s)]) w (.returned (.tuple #[])) w4) := ha; clear ha)
    | fail)
  all_goals
    go_wp2
    go_end0
    exact HAn.out
end Go.Proofs.YtfdkklhigliciaaGreatDoor
/-
  The program's expand at a name.
-/
namespace Go.Proofs.YtfdkklhigliciaaGreatDoor
open Go.RowKit Go.Extern.Stop Go.Stop Go.Extern Num Go.Lib Go.Shelf

theorem Nm.size {l : List Dat} {z : ByteArray} (h : Nm l z) (hz : ∀ (k : Nat) (h : k < l.length), l[k].name.size ≤ 1048576) : z.size ≤ 1048576 := by
  obtain ⟨j, hj, rfl⟩ := h
  unfold nameAt
  simp [hj]
  exact hz j hj
theorem meanC_data (E : Env) (z : ByteArray) : (meanC E z).data = [] := by
  unfold meanC
  split <;> rfl
/-- A core without data, put behind the others. -/
theorem addST_any (w : World) (B m tb : Nat) (l : List Dat) (C : List Cor) (t : Cor) (ht : t.data = []) (par : Int) (h : XS w B m tb l C) (hl : C.length < 1000) :
    Calls Tryz.prog 76 #[.pointer (some ⟨m, 0, none⟩), .int .i64 par, t.val (.slice none 0 0)] w fun e w' => e = .returned (.int .i64 (C.length : Nat)) ∧ XS w' B m tb l (C ++ [{ t with parent := par }]) ∧ Kx B m w w' := by
  obtain ⟨P, h1, rfl⟩ := h
  rw [List.length_map] at hl ⊢
  refine (addX_any w B m tb l P t par (.slice none 0 0) h1 hl (by rw [ht]; exact World.ownsRow_nil _ _ _ _) (fun x _ g _ e => by cases e)).mono ?_
  rintro e w' ⟨rfl, h2, h3⟩
  exact ⟨rfl, ⟨_, h2, by simp⟩, h3⟩
set_option maxRecDepth 100000 in
set_option maxHeartbeats 1000000 in
theorem exp_name (l : List Dat) (w : World) (B m tb a : Nat) (par : Int) (so : Option Addr) (E : Env) (C : List Cor) (h : XpS w B m tb l so E C) (ha : a < l.length) (z : ByteArray) (hz : Nm l z) (hf : formD l a = (0, fmN z)) :
    Calls Tryz.prog 52 #[.pointer (some ⟨m, 0, none⟩), .int .i64 (a : Int), .int .i64 par, .pointer so] w fun e w' => AnsE B m tb l (0, C ++ [{ meanC E z with parent := par }]) w e w' := by
  have HF : Hid (Calls Tryz.prog 75 #[.pointer (some ⟨m, 0, none⟩), .int .i64 (a : Int)] w fun e w' => (∃ v, e = .returned v ∧ FmV w' w.heap.size v (fmN z)) ∧ Below w.heap.size w w') := formV h ha hf
  go_enter Tryz.func52, Tryz.ntmps52
  go_wp2_with fail
  refine HF.out.mono ?_
  rintro e w2 ⟨⟨v, rfl, hv⟩, hb2⟩
  obtain rfl : v = .iface 130 (.agg #[.string z]) := hv
  have t0 := ta_1_0
  have t1 := ta_1_1
  have hfc : ∀ u, (Instr.field 130 (.agg #[.string z]) 0).run Tryz.prog u = .ok (.string z) u := fun u => by kernel_rfl
  have h2 := h.below hb2
  have hk2 := h.kx hb2
  have c0 : w2.cell? ⟨m, 0, none⟩ = some (.pointer (some ⟨tb, 0, none⟩)) := h2.xs.tk.2.1
  have hzs := hz.size h.sm
  have HM : Hid (∀ u, Below w2.heap.size w2 u → Calls Tryz.prog 78 #[.pointer so, .string z] u fun e w' => e = .returned ((meanC E z).val (.slice none 0 0)) ∧ Below u.heap.size u w') := fun u hu => meaning_any u B so E z (h2.below hu).ch h.el hzs
  have HA : Hid (∀ u, Below w2.heap.size w2 u → Calls Tryz.prog 76 #[.pointer (some ⟨m, 0, none⟩), .int .i64 par, (meanC E z).val (.slice none 0 0)] u fun e w' => e = .returned (.int .i64 (C.length : Nat)) ∧ AnsE B m tb l (0, C ++ [{ meanC E z with parent := par }]) w (.returned (.tuple #[])) w') := fun u hu => by
    refine (addST_any u B m tb l C (meanC E z) (meanC_data E z) par (h2.below hu).xs h.cl).mono ?_
    rintro e w' ⟨rfl, k1, k2⟩
    exact ⟨rfl, .inl ⟨rfl, rfl, k1⟩, (hk2.trans (h2.kx hu)).trans k2⟩
  have hml : m < w2.heap.size := by have := h2.xs.lo; omega
  clear HF h hb2 h2 hk2 hf hz hzs
  go_wp2_with fail
  refine (HM.out _ ((Below.refl _ _).alloc (Nat.le_refl _) _)).mono ?_
  rintro e w3 ⟨rfl, hb3⟩
  have HC : Hid (Calls Tryz.prog 76 #[.pointer (some ⟨m, 0, none⟩), .int .i64 par, (meanC E z).val (.slice none 0 0)] w3 fun e w' => e = .returned (.int .i64 (C.length : Nat)) ∧ AnsE B m tb l (0, C ++ [{ meanC E z with parent := par }]) w (.returned (.tuple #[])) w') := HA.out w3 (((Below.refl _ _).alloc (Nat.le_refl _) _).trans (hb3.mono (by simp)))
  clear HA HM hb3
  generalize (meanC E z).val (.slice none 0 0) = mv at HC ⊢
  go_wp2_with fail
  refine HC.out.mono ?_
  rintro e w4 ⟨rfl, ha⟩
  have HAn : Hid (AnsE B m tb l (0, C ++ [{ meanC E z with parent := par }]) w (.returned (.tuple #[])) w4) := ha
  clear ha HC
  go_wp2
  go_end0
  exact HAn.out
end Go.Proofs.YtfdkklhigliciaaGreatDoor
