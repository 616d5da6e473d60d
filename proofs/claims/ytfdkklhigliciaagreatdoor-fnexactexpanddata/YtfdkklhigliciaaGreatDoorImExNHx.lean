/-
  Parts of the proof laid into one text, one behind the other; each says at its head what is proved in it.
-/
import Derived.Test.YtfdkklhigliciaaGreatDoorImExGHx
import Derived.Test.YtfdkklhigliciaaGreatDoorXaI
/-
  The program's addLambda, from what expand does so deep; a core put behind the others, in the expander's state.
-/
namespace Go.Proofs.YtfdkklhigliciaaGreatDoor
open Go.RowKit Go.Extern.Stop Go.Stop Go.Extern Num Go.Lib Go.Shelf

/-- A core without data, put behind the others. -/
theorem addS0_any (w : World) (B m tb : Nat) (l : List Dat) (C : List Cor) (k : Int) (a b : Nat) (z : ByteArray) (par : Int) (h : XS w B m tb l C) (hl : C.length < 1000) :
    Calls Tryz.prog 76 #[.pointer (some ⟨m, 0, none⟩), .int .i64 par, .agg #[.int .i64 k, .int .i64 0, .int .i64 (a : Int), .int .i64 (b : Int), .string z, .slice none 0 0]] w fun e w' => e = .returned (.int .i64 (C.length : Nat)) ∧ XS w' B m tb l (C ++ [coC k par a b z []]) ∧ Kx B m w w' := by
  obtain ⟨P, h1, rfl⟩ := h
  rw [List.length_map] at hl ⊢
  refine (addX_any w B m tb l P (coC k 0 a b z []) par (.slice none 0 0) h1 hl (World.ownsRow_nil _ _ _ _) (fun x _ g _ e => by cases e)).mono ?_
  rintro e w' ⟨rfl, h2, h3⟩
  exact ⟨rfl, ⟨_, h2, by simp [coC]⟩, h3⟩
/-- A core with data of its own, put behind the others. -/
theorem addSD_any (u w : World) (B m tb : Nat) (l : List Dat) (C : List Cor) (D : List Dat) (dv : Value) (par : Int) (h : XS u B m tb l C) (hb : Below u.heap.size u w) (ho : w.ownsRow u.heap.size 49 4 dv D.length (cellsD D)) (hl : C.length < 1000) :
    Calls Tryz.prog 76 #[.pointer (some ⟨m, 0, none⟩), .int .i64 par, .agg #[.int .i64 1, .int .i64 0, .int .i64 0, .int .i64 0, .string ⟨#[]⟩, dv]] w fun e w' => e = .returned (.int .i64 (C.length : Nat)) ∧ XS w' B m tb l (C ++ [coC 1 par 0 0 ⟨#[]⟩ D]) ∧ Kx B m w w' := by
  obtain ⟨P, h1, rfl⟩ := h
  rw [List.length_map] at hl ⊢
  refine (addX_any w B m tb l P (coC 1 0 0 0 ⟨#[]⟩ D) par dv (h1.below hb) hl (own_base ho h1.hi) (fun x hx g hg e => ?_)).mono ?_
  · have h2 := ((h1.dat x hx).lt g hg).2
    have h3 := (ho.lt g e).1
    omega
  rintro e w' ⟨rfl, h2, h3⟩
  exact ⟨rfl, ⟨_, h2, by simp [coC]⟩, h3⟩
set_option maxRecDepth 100000 in
set_option maxHeartbeats 1000000 in
theorem addLambda_of (l : List Dat) (n : Nat) (hX : ExI l n) (w : World) (B m tb : Nat) (ax : Option Addr) (cx : Nat) (N : List ByteArray) (b : Nat) (par : Int) (so : Option Addr) (E : Env) (C : List Cor) (h : XS w B m tb l C) (hc : chS w B so E) (hN : NRow w B (.slice ax N.length cx) N) (hb0 : 0 < b) (hbl : b < l.length) (hbn : l.length ≤ b + n) (hE : E.length + 1 + n ≤ 1000) (h9 : (expF l n b C.length (N :: E) (C ++ [coC 5 par N.length 0 ⟨#[]⟩ []])).2.length ≤ 900) :
    Calls Tryz.prog 80 #[.pointer (some ⟨m, 0, none⟩), .agg #[.slice ax N.length cx, .int .i64 (b : Int)], .int .i64 par, .pointer so] w fun e w' => AnsE B m tb l (expF l n b C.length (N :: E) (C ++ [coC 5 par N.length 0 ⟨#[]⟩ []])) w e w' := by
  have hC9 : C.length < 1000 := by
    have := expF_grows l n b C.length (N :: E) (C ++ [coC 5 par N.length 0 ⟨#[]⟩ []])
    simp at this; omega
  have hf0 : ∀ u, (Instr.field 136 (.agg #[.slice ax N.length cx, .int .i64 (b : Int)]) 0).run Tryz.prog u = .ok (.slice ax N.length cx) u := fun u => by kernel_rfl
  have hf1 : ∀ u, (Instr.field 136 (.agg #[.slice ax N.length cx, .int .i64 (b : Int)]) 1).run Tryz.prog u = .ok (.int .i64 (b : Int)) u := fun u => by kernel_rfl
  have HA : Hid (∀ u, Below w.heap.size w u → Calls Tryz.prog 76 #[.pointer (some ⟨m, 0, none⟩), .int .i64 par, .agg #[.int .i64 5, .int .i64 0, .int .i64 (N.length : Int), .int .i64 0, .string ⟨#[]⟩, .slice none 0 0]] u fun e w' => e = .returned (.int .i64 (C.length : Nat)) ∧ XS w' B m tb l (C ++ [coC 5 par N.length 0 ⟨#[]⟩ []]) ∧ Kx B m u w') := fun u hu => addS0_any u B m tb l C 5 N.length 0 ⟨#[]⟩ par (h.below hu) hC9
  obtain ⟨r, Hr⟩ : ∃ r, Hid (r = expF l n b C.length (N :: E) (C ++ [coC 5 par N.length 0 ⟨#[]⟩ []])) := ⟨_, rfl⟩
  rw [← show r = _ from Hr.out]
  go_enter Tryz.func80, Tryz.ntmps80
  go_wp2_with fail
  refine (HA.out _ ((Below.refl _ w).alloc (Nat.le_refl _) _)).mono ?_
  rintro e w2 ⟨rfl, hs2, hk2⟩
  have hml : m < w.heap.size := by have := h.lo; omega
  have hbx : w2.heap[w.heap.size]? = some (.cells #[.slice ax N.length cx, .int .i64 (b : Int)] 136 (0, 0)) := hk2.cells (by omega) (by decide) (heap_new' _ _ _ rfl)
  have c0 : w2.cell? ⟨w.heap.size, 0, none⟩ = some (.slice ax N.length cx) := by rw [cell_of_heap hbx]; rfl
  have c1 : w2.cell? ⟨w.heap.size, 1, none⟩ = some (.int .i64 (b : Int)) := by rw [cell_of_heap hbx]; rfl
  have hlt := lt_of_cell c0
  have HK2 : Hid (Kx B m w w2) := (Kx.of_below ((Below.refl _ w).alloc (Nat.le_refl _) _) (Nat.le_of_lt hml)).trans hk2
  have HS2 : Hid (XS w2 B m tb l (C ++ [coC 5 par N.length 0 ⟨#[]⟩ []])) := hs2
  have HX : Hid (∀ u, u = w2.alloc (.cells #[.slice ax N.length cx, .pointer so] 191) → Calls Tryz.prog 52 #[.pointer (some ⟨m, 0, none⟩), .int .i64 (b : Int), .int .i64 (C.length : Nat), .pointer (some ⟨w2.heap.size, 0, none⟩)] u fun e w' => AnsE B m tb l r w e w') := fun u hu => by
    rw [show r = _ from Hr.out]
    have hbu : Below w2.heap.size w2 u := by rw [hu]; exact (Below.refl _ _).alloc (Nat.le_refl _) _
    have hB2 : B ≤ w2.heap.size := hs2.lo.2
    have hmB : m < B := hs2.lo.1
    refine (hX u B m tb b C.length (some ⟨w2.heap.size, 0, none⟩) (N :: E) _ (hs2.below hbu) ?_ hbl hbn (.inr ⟨hb0, by omega⟩) (by simp; omega) h9).mono ?_
    · exact ⟨w2.heap.size, .slice ax N.length cx, so, (0, 0), rfl, hB2, by rw [hu]; exact heap_new' _ _ _ rfl, own_below (HK2.out.own typ_nc.2.1 hmB hN.1) hbu, hN.2, (hc.keep hmB HK2.out).below hbu⟩
    · intro e w' ha
      exact ha.pre (HK2.out.trans (Kx.of_below hbu (by omega)))
  clear hs2 hk2 hbx HA h9 hX h hc hN Hr
  by_cases hz : r.1 = 0
  · have HY : Hid (∀ u, u = w2.alloc (.cells #[.slice ax N.length cx, .pointer so] 191) → Calls Tryz.prog 52 #[.pointer (some ⟨m, 0, none⟩), .int .i64 (b : Int), .int .i64 (C.length : Nat), .pointer (some ⟨w2.heap.size, 0, none⟩)] u fun e w' => e = .returned (.tuple #[]) ∧ AnsE B m tb l r w (.returned (.tuple #[])) w') := fun u hu => (HX.out u hu).mono fun e w' h => by
      obtain ⟨⟨h0, rfl, h2⟩ | ⟨h1, _⟩, h3⟩ := h
      · exact ⟨rfl, .inl ⟨h0, rfl, h2⟩, h3⟩
      · exact absurd hz h1
    clear HX hz
    go_wp2_with fail
    refine (HY.out _ rfl).mono ?_
    rintro e w3 ⟨rfl, ha⟩
    have HA : Hid (AnsE B m tb l r w (.returned (.tuple #[])) w3) := ha
    clear ha HY
    go_wp2
    go_end0
    exact HA.out
  · have HY : Hid (∀ u, u = w2.alloc (.cells #[.slice ax N.length cx, .pointer so] 191) → Calls Tryz.prog 52 #[.pointer (some ⟨m, 0, none⟩), .int .i64 (b : Int), .int .i64 (C.length : Nat), .pointer (some ⟨w2.heap.size, 0, none⟩)] u fun e w' => e = .panicked (pan r.1) ∧ AnsE B m tb l r w (.panicked (pan r.1)) w') := fun u hu => (HX.out u hu).mono fun e w' h => by
      obtain ⟨⟨h0, _⟩ | ⟨h1, rfl⟩, h3⟩ := h
      · exact absurd h0 hz
      · exact ⟨rfl, .inr ⟨h1, rfl⟩, h3⟩
    clear HX hz
    go_wp2_with fail
    refine (HY.out _ rfl).mono ?_
    rintro e w3 ⟨rfl, ha⟩
    exact ⟨rfl, ha⟩
end Go.Proofs.YtfdkklhigliciaaGreatDoor
