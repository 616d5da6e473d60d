/-
  Parts of the proof laid into one text, one behind the other; each says at its head what is proved in it.
-/
import Derived.Test.YtfdkklhigliciaaGreatDoorAddXHx
import Derived.Test.YtfdkklhigliciaaGreatDoorXaJ
import Derived.Test.YtfdkklhigliciaaGreatDoorXaK
/-
  The program's expander: what lies in it, and what is kept while it grows; its add, and its tokens.
-/
namespace Go.Proofs.YtfdkklhigliciaaGreatDoor
open Go.RowKit Go.Extern.Stop Go.Stop Go.Extern Num Go.Lib Go.Shelf

/-- All lies as it lay, but for the expander's block, and rows of nodes above a base. -/
structure Kx (B m : Nat) (w w' : World) : Prop where
  low : Below m w w'
  blk : ∀ (r : Nat) (o : Obj), r ≠ m → w.heap[r]? = some o → (B ≤ r → ∀ xs T fr, o = .cells xs T fr → T ≠ 100) → w'.heap[r]? = some o
theorem Kx.refl (B m : Nat) (w : World) : Kx B m w w := ⟨Below.refl _ _, fun _ _ _ h _ => h⟩
theorem Kx.trans {B m : Nat} {w w1 w2 : World} (h : Kx B m w w1) (h' : Kx B m w1 w2) : Kx B m w w2 :=
  ⟨h.low.trans h'.low, fun r o hr ho ht => h'.blk r o hr (h.blk r o hr ho ht) ht⟩
theorem Kx.of_below {B m : Nat} {w w' : World} (h : Below w.heap.size w w') (hm : m ≤ w.heap.size) : Kx B m w w' :=
  ⟨h.mono hm, fun r o _ ho _ => by rw [h.block r (Array.getElem?_eq_some_iff.1 ho).1]; exact ho⟩
theorem Kx.size {B m : Nat} {w w' : World} (h : Kx B m w w') : w.heap.size ≤ w'.heap.size := h.low.size
theorem Kx.own {B m B' : Nat} {w w' : World} (h : Kx B m w w') {e : TypeId} {size n : Nat} {v : Value} {xs : List Value} (h1 : e ≠ 100) (hm : m < B') (ho : w.ownsRow B' e size v n xs) : w'.ownsRow B' e size v n xs := by
  refine ⟨ho.1, ?_⟩
  rcases ho.2 with hn | ⟨g, cap, cur, rfl, hbg, hgg, rest⟩
  · exact .inl hn
  · exact .inr ⟨g, cap, cur, rfl, hbg, h.blk g _ (by omega) hgg (fun _ xs T fr e' => by injection e' with _ e2 _; subst e2; exact h1), rest⟩
theorem Kx.cells {B m : Nat} {w w' : World} (h : Kx B m w w') {r : Nat} {cs : Array Value} {T : TypeId} {fr : Nat × Nat} (hr : r ≠ m) (h1 : T ≠ 100) (ho : w.heap[r]? = some (.cells cs T fr)) : w'.heap[r]? = some (.cells cs T fr) :=
  h.blk r _ hr ho (fun _ xs T' fr' e' => by injection e' with _ e2 _; subst e2; exact h1)
theorem Kx.put {B m f : Nat} {w u w1 : World} {e : TypeId} {size n : Nat} {v v' : Value} {xs : List Value} (hm : m < B) (hB : B ≤ w.heap.size) (hb : Below w.heap.size w u) (hg : u.grownBy w1 v.ownBlock) (ho : w.ownsRow B e size v n xs) (he : e = 100) : Kx B m w (w1.setCell ⟨m, f, none⟩ v') := by
  refine ⟨Below.setCell ((hb.mono (show m ≤ w.heap.size by omega)).grown hg (by have := hb.size; omega) (fun k hk => by have := (ho.lt k hk).1; omega)) (show m ≤ m from Nat.le_refl _) _, fun r o hr hro ht => ?_⟩
  have hlt := (Array.getElem?_eq_some_iff.1 hro).1
  rw [Below.heap_setCell _ _ _ _ (by show r ≠ m; exact hr)]
  by_cases hv : some r = v.ownBlock
  · exfalso
    rcases ho.2 with ⟨rfl, _⟩ | ⟨g, cap, cur, rfl, hbg, hgg, _⟩
    · cases hv
    · have : r = g := by simpa [Value.ownBlock] using hv
      subst this
      rw [hgg] at hro
      injection hro with hro
      exact ht hbg _ _ _ hro.symm he
  · rw [hg.block r (Nat.lt_of_lt_of_le hlt hb.size) hv, hb.block r hlt]
    exact hro
/-- The expander: the tree of the data, the cores and their data. -/
structure Xp (w : World) (B m tb : Nat) (l : List Dat) (P : List (Cor × Value)) : Prop where
  lo : m < B
  hi : B ≤ w.heap.size
  hd : w.cell? ⟨m, 0, none⟩ = some (.pointer (some ⟨tb, 0, none⟩))
  tr : IsTree m w tb (nodes l)
  hC : ∃ v, Fld w B m 1 100 7 v P.length (cellsNC P)
  fz : ∀ o, w.frozen? ⟨m, o, none⟩ = false
  dat : ∀ x ∈ P, w.ownsRow B 49 4 x.2 x.1.data.length (cellsD x.1.data)
  far : ∀ (i j : Nat) (hi : i < P.length) (hj : j < P.length), i ≠ j → farV P[i].2 P[j].2
theorem Xp.below {w w' : World} {B m tb : Nat} {l : List Dat} {P : List (Cor × Value)} (h : Xp w B m tb l P) (hb : Below w.heap.size w w') : Xp w' B m tb l P := by
  obtain ⟨v, hv⟩ := h.hC
  have h1 := h.lo
  have h2 := h.hi
  exact ⟨h.lo, Nat.le_trans h.hi hb.size, cell_keep hb h.hd, h.tr.below (hb.mono (by omega)), ⟨v, hv.below hb⟩, fun o => by rw [(bcell hb).2 _ _ (lt_of_cell h.hd)]; exact h.fz o, fun x hx => own_below (h.dat x hx) hb, h.far⟩
theorem typ_nc : (49 : TypeId) ≠ 100 ∧ (9 : TypeId) ≠ 100 ∧ (2 : TypeId) ≠ 100 ∧ (191 : TypeId) ≠ 100 := by decide
theorem Xp.put {w w' : World} {B m tb : Nat} {l : List Dat} {P : List (Cor × Value)} {v dv : Value} {t : Cor} (h : Xp w B m tb l P) (hv : Fld w B m 1 100 7 v P.length (cellsNC P)) (ha : AddK B m 1 100 7 v (P ++ [(t, dv)]).length (cellsNC (P ++ [(t, dv)])) w w') (ho : w.ownsRow B 49 4 dv t.data.length (cellsD t.data)) (hf : ∀ x ∈ P, farV x.2 dv) : Xp w' B m tb l (P ++ [(t, dv)]) ∧ Kx B m w w' := by
  obtain ⟨c0, fz⟩ := ha.cells hv h.hd (by omega) h.fz
  have hk : Kx B m w w' := by
    obtain ⟨u, w1, g', c', hb, hg, hw, hat, rfl⟩ := ha
    exact Kx.put h.lo h.hi hb hg hv.2.1 rfl
  refine ⟨⟨h.lo, Nat.le_trans h.hi hk.size, c0, h.tr.below hk.low, ha.fld hv, fz, fun x hx => ?_, fun i j hi hj hne => ?_⟩, hk⟩
  · rcases List.mem_append.1 hx with hx | hx
    · exact hk.own typ_nc.1 h.lo (h.dat x hx)
    · obtain rfl : x = (t, dv) := by simpa using hx
      exact hk.own typ_nc.1 h.lo ho
  · simp only [List.length_append, List.length_cons, List.length_nil] at hi hj
    by_cases h1 : i < P.length
    · rw [List.getElem_append_left h1]
      by_cases h2 : j < P.length
      · rw [List.getElem_append_left h2]; exact h.far i j h1 h2 hne
      · rw [List.getElem_append_right (by omega)]
        simpa using hf P[i] (List.getElem_mem h1)
    · rw [List.getElem_append_right (by omega)]
      have h2 : j < P.length := by omega
      rw [List.getElem_append_left h2]
      have h3 := hf P[j] (List.getElem_mem h2)
      intro g hg e
      have hg' : dv.ownBlock = some g := by simpa using hg
      exact h3 g e hg'
/-- A core put behind the others. -/
theorem addX_any (w : World) (B m tb : Nat) (l : List Dat) (P : List (Cor × Value)) (t : Cor) (par : Int) (dv : Value) (h : Xp w B m tb l P) (hl : P.length < 1000) (ho : w.ownsRow B 49 4 dv t.data.length (cellsD t.data)) (hf : ∀ x ∈ P, farV x.2 dv) :
    Calls Tryz.prog 76 #[.pointer (some ⟨m, 0, none⟩), .int .i64 par, t.val dv] w fun e w' => e = .returned (.int .i64 (P.length : Nat)) ∧ Xp w' B m tb l (P ++ [({ t with parent := par }, dv)]) ∧ Kx B m w w' := by
  obtain ⟨v, hv⟩ := h.hC
  obtain ⟨da, cd, rfl⟩ := own_form ho
  have HA : Hid (∀ u, Below w.heap.size w u → Calls Tryz.prog 110 #[.pointer (some ⟨m, 1, none⟩), .int .i64 par, Cor.val { t with parent := par } (.slice da t.data.length cd)] u fun e w' => e = .returned (.int .i64 (P.length : Nat)) ∧ Xp w' B m tb l (P ++ [({ t with parent := par }, .slice da t.data.length cd)]) ∧ Kx B m w w') := fun u hu => by
    have h' := h.below hu
    have hv' := hv.below hu
    refine (add_anyX B m v P { t with parent := par } _ ⟨_, _, _, rfl⟩ u h'.hi (h'.fz 1) hv' hl).mono ?_
    rintro e w' ⟨rfl, ha⟩
    obtain ⟨k1, k2⟩ := h'.put hv' ha (own_below ho hu) hf
    exact ⟨rfl, k1, (Kx.of_below hu (by have := h.lo; have := h.hi; omega)).trans k2⟩
  obtain ⟨k, p, na, nb, z, dl⟩ := t
  clear h hv ho hf
  go_enter Tryz.func76, Tryz.ntmps76
  go_wp2_with fail
  go_region_with (first
    | (go_at_call 110; refine (HA.out _ (by repeat (first | exact Below.refl _ _ | refine Below.drew ?_ | refine Below.alloc ?_ (by simp) _))).mono ?_; rintro e w1 ⟨rfl, h1, h2⟩; have H1 : Hid (Xp w1 B m tb l (P ++ [(({ kind := k, parent := par, a := na, b := nb, name := z, data := dl } : Cor), Value.slice da dl.length cd)]) ∧ Kx B m w w1) := ⟨h1, h2⟩; clear h1 h2)
    | fail)
  all_goals
    go_wp2
    go_ret
    exact ⟨rfl, H1.out⟩
end Go.Proofs.YtfdkklhigliciaaGreatDoor
