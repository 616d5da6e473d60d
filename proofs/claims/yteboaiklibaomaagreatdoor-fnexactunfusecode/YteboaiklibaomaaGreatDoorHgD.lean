/-
  Parts of the proof laid into one text, one behind the other; each says at its head what is proved in it.
-/
import Derived.Test.YteboaiklibaomaaGreatDoorRowKit0Ht
import Derived.WalkSmall
import Derived.Test.YteboaiklibaomaaGreatDoorCoE
import Derived.Test.YteboaiklibaomaaGreatDoorTiD
import Derived.Deep.RegionLaw
import Derived.Deep.DrawnRows
import Derived.Deep.RegionHeld3
/-
  A block whose cells hold slices that are owned, apart from one another: what a store into one leaves of the others.
-/
namespace Go.Proofs.YteboaiklibaomaaGreatDoor
open Go.RowKit Go.Extern.Stop Go.Stop Go.Extern Num Go.Lib

/-- A cell of a block that holds a slice, its row owned. -/
def Fld (w : World) (B r f : Nat) (e : TypeId) (size : Nat) (v : Value) (n : Nat) (xs : List Value) : Prop :=
  w.cell? ⟨r, f, none⟩ = some v ∧ w.ownsRow B e size v n xs ∧ ∀ g, v.ownBlock = some g → g ≠ r
section
variable {w w1 : World} {B r f : Nat} {e : TypeId} {size : Nat} {v : Value} {n : Nat} {xs : List Value}
theorem Fld.lt (h : Fld w B r f e size v n xs) : r < w.heap.size := lt_of_cell h.1
theorem Fld.put {v' : Value} {n' : Nat} {xs' : List Value} (h : Fld w B r f e size v n xs) (hg : w.grownBy w1 v.ownBlock) (ho : w1.ownsRow B e size v' n' xs') (hv : ∀ g, v'.ownBlock = some g → v.ownBlock = some g ∨ w.heap.size ≤ g) :
    Fld (w1.setCell ⟨r, f, none⟩ v') B r f e size v' n' xs' := by
  have hlt := h.lt
  have hcell : w1.cell? ⟨r, f, none⟩ = some v := hg.cell h.1 (fun e => h.2.2 r e.symm rfl)
  have hne : ∀ g, v'.ownBlock = some g → g ≠ r := fun g hg' => by
    rcases hv g hg' with h1 | h1
    · exact h.2.2 g h1
    · omega
  exact ⟨World.cell?_setCell_same' _ _ _ (by rw [hcell]; rfl), own_set' ho hne v', hne⟩
theorem Fld.other {ro : Option Nat} {f' : Nat} (h : Fld w B r f e size v n xs) (hg : w.grownBy w1 ro) (hro : ro ≠ some r) (hap : ∀ g, v.ownBlock = some g → ro ≠ some g) (hf : f' ≠ f) (v' : Value) :
    Fld (w1.setCell ⟨r, f', none⟩ v') B r f e size v n xs := by
  have hcell : w1.cell? ⟨r, f, none⟩ = some v := hg.cell h.1 (fun e => hro e.symm)
  refine ⟨?_, own_set' (own_apart h.2.1 hg hap) h.2.2 v', h.2.2⟩
  rw [World.cell?_setCell_other _ _ _ _ (by intro e; apply hf; injection e)]
  exact hcell
theorem Fld.below (h : Fld w B r f e size v n xs) (hb : Below w.heap.size w w1) : Fld w1 B r f e size v n xs := ⟨cell_keep hb h.1, own_below h.2.1 hb, h.2.2⟩
theorem Fld.own_lt (h : Fld w B r f e size v n xs) : ∀ g, v.ownBlock = some g → g < w.heap.size := fun g hg => (h.2.1.lt g hg).2
end
theorem apart_put {w : World} {v v' u : Value} (hv : ∀ g, v'.ownBlock = some g → v.ownBlock = some g ∨ w.heap.size ≤ g) (hap : ∀ g, v.ownBlock = some g → u.ownBlock ≠ some g) (hu : ∀ g, u.ownBlock = some g → g < w.heap.size) : ∀ g, v'.ownBlock = some g → u.ownBlock ≠ some g := by
  intro g hg e
  rcases hv g hg with h | h
  · exact hap g h e
  · have := hu g e; omega
theorem apart_sym {v u : Value} (h : ∀ g, v.ownBlock = some g → u.ownBlock ≠ some g) : ∀ g, u.ownBlock = some g → v.ownBlock ≠ some g := fun g hg e => h g e hg
theorem fz_grown {w w1 : World} {r : Nat} {ro : Option Nat} (hz : ∀ o, w.frozen? ⟨r, o, none⟩ = false) (hlt : r < w.heap.size) (hg : w.grownBy w1 ro) (hro : ro ≠ some r) (p : Addr) (v : Value) : ∀ o, (w1.setCell p v).frozen? ⟨r, o, none⟩ = false := fun o => by
  rw [World.frozen?_setCell, World.frozen?_of_block (a := ⟨r, o, none⟩) (hg.block r hlt (fun e => hro e.symm))]; exact hz o
/-- A cell ahead of a row that has grown. -/
theorem afterGrow {w u w1 : World} {row : Option Nat} {r f : Nat} {v : Value} (hb : Below w.heap.size w u) (c : w.cell? ⟨r, f, none⟩ = some v) (fz : w.frozen? ⟨r, f, none⟩ = false) (hg : u.grownBy w1 row) (hr : row ≠ some r) : w1.cell? ⟨r, f, none⟩ = some v ∧ w1.frozen? ⟨r, f, none⟩ = false := by
  have h1 := cell_keep hb c
  refine ⟨hg.cell h1 (Ne.symm hr), ?_⟩
  rw [World.frozen?_of_block (a := ⟨r, f, none⟩) (hg.block r (lt_of_cell h1) (Ne.symm hr)), (bcell hb).2 r f (lt_of_cell c)]
  exact fz
end Go.Proofs.YteboaiklibaomaaGreatDoor
/-
  The model's reader of data, as a block whose cells hold slices that are owned.
-/
namespace Go.Proofs.YteboaiklibaomaaGreatDoor
open Go.RowKit Go.Extern.Stop Go.Stop Go.Extern Num Go.Lib

def cellsB (l : List Bool) : List Value := l.map Value.bool
theorem cellsB_length (l : List Bool) : (cellsB l).length = l.length := by simp [cellsB]
theorem cellsB_append (a b : List Bool) : cellsB (a ++ b) = cellsB a ++ cellsB b := by simp [cellsB]
theorem infoB : (Tryz.prog.info? 4).map (fun i => (i.zero, i.size, i.bytes)) = some (some (.bool false), 1, 1) := by kernel_rfl
theorem rowB_at {w : World} {base g cap : Nat} {l : List Bool} (h : w.ownsRow base 4 1 (.slice (some ⟨g, 0, none⟩) l.length cap) l.length (cellsB l)) (k : Nat) (hk : k < l.length) :
    w.cell? ⟨g, k, none⟩ = some (.bool l[k]) := by
  have ha : ∀ j, (⟨g, 0, none⟩ : Addr).add j = ⟨g, j, none⟩ := fun j => by unfold Addr.add; split <;> simp_all
  rw [← ha]
  exact h.cells (g := g) rfl k _ (by simp [cellsB, hk])
/-- The reader: data that are read, open lists, and whether each ends behind one datum. -/
structure RdAt (w : World) (B r : Nat) (vD vO vQ : Value) (D : List Dat) (O : List Int) (Q : List Bool) : Prop where
  hr : B ≤ r
  fz : ∀ o, w.frozen? ⟨r, o, none⟩ = false
  fD : Fld w B r 0 133 4 vD D.length (cellsD D)
  fO : Fld w B r 1 2 1 vO O.length (cellsI O)
  fQ : Fld w B r 2 4 1 vQ Q.length (cellsB Q)
  dO : ∀ g, vD.ownBlock = some g → vO.ownBlock ≠ some g
  dQ : ∀ g, vD.ownBlock = some g → vQ.ownBlock ≠ some g
  oQ : ∀ g, vO.ownBlock = some g → vQ.ownBlock ≠ some g
section
variable {w w1 : World} {B r : Nat} {vD vO vQ v' : Value} {D D' : List Dat} {O O' : List Int} {Q Q' : List Bool}
theorem RdAt.keep (h : RdAt w B r vD vO vQ D O Q) (hb : Below w.heap.size w w1) : RdAt w1 B r vD vO vQ D O Q :=
  ⟨h.hr, fun o => by rw [(bcell hb).2 r o h.fD.lt]; exact h.fz o, h.fD.below hb, h.fO.below hb, h.fQ.below hb, h.dO, h.dQ, h.oQ⟩
theorem RdAt.data (h : RdAt w B r vD vO vQ D O Q) (hg : w.grownBy w1 vD.ownBlock) (ho : w1.ownsRow B 133 4 v' D'.length (cellsD D')) (hv : ∀ g, v'.ownBlock = some g → vD.ownBlock = some g ∨ w.heap.size ≤ g) :
    RdAt (w1.setCell ⟨r, 0, none⟩ v') B r v' vO vQ D' O Q := by
  have hro : vD.ownBlock ≠ some r := fun e => h.fD.2.2 r e rfl
  exact ⟨h.hr, fz_grown h.fz h.fD.lt hg hro _ _, h.fD.put hg ho hv, h.fO.other hg hro (apart_sym h.dO) (by omega) _, h.fQ.other hg hro (apart_sym h.dQ) (by omega) _, apart_put hv h.dO h.fO.own_lt, apart_put hv h.dQ h.fQ.own_lt, h.oQ⟩
theorem RdAt.opn (h : RdAt w B r vD vO vQ D O Q) (hg : w.grownBy w1 vO.ownBlock) (ho : w1.ownsRow B 2 1 v' O'.length (cellsI O')) (hv : ∀ g, v'.ownBlock = some g → vO.ownBlock = some g ∨ w.heap.size ≤ g) :
    RdAt (w1.setCell ⟨r, 1, none⟩ v') B r vD v' vQ D O' Q := by
  have hro : vO.ownBlock ≠ some r := fun e => h.fO.2.2 r e rfl
  exact ⟨h.hr, fz_grown h.fz h.fD.lt hg hro _ _, h.fD.other hg hro h.dO (by omega) _, h.fO.put hg ho hv, h.fQ.other hg hro (apart_sym h.oQ) (by omega) _, apart_sym (apart_put hv (apart_sym h.dO) h.fD.own_lt), h.dQ, apart_put hv h.oQ h.fQ.own_lt⟩
theorem RdAt.quo (h : RdAt w B r vD vO vQ D O Q) (hg : w.grownBy w1 vQ.ownBlock) (ho : w1.ownsRow B 4 1 v' Q'.length (cellsB Q')) (hv : ∀ g, v'.ownBlock = some g → vQ.ownBlock = some g ∨ w.heap.size ≤ g) :
    RdAt (w1.setCell ⟨r, 2, none⟩ v') B r vD vO v' D O Q' := by
  have hro : vQ.ownBlock ≠ some r := fun e => h.fQ.2.2 r e rfl
  exact ⟨h.hr, fz_grown h.fz h.fD.lt hg hro _ _, h.fD.other hg hro h.dQ (by omega) _, h.fO.other hg hro h.oQ (by omega) _, h.fQ.put hg ho hv, h.dO, apart_sym (apart_put hv (apart_sym h.dQ) h.fD.own_lt), apart_sym (apart_put hv (apart_sym h.oQ) h.fO.own_lt)⟩
end
def Rd (w : World) (B r : Nat) (D : List Dat) (O : List Int) (Q : List Bool) : Prop := ∃ vD vO vQ, RdAt w B r vD vO vQ D O Q
end Go.Proofs.YteboaiklibaomaaGreatDoor
/-
  The program's tokenKind, tokenOf and add: the token with which a datum begins, and a node put behind the others of a tree.
-/
namespace Go.Proofs.YteboaiklibaomaaGreatDoor
open Go.RowKit Go.Extern.Stop Go.Stop Go.Extern Num Go.Lib Go.Shelf

/-- The kind of the token with which a datum begins. -/
def tkD (k : Int) : Int := if k = 1 then 4 else if k = 2 then 5 else if k = 3 then 6 else if k = 4 then 1 else 0
theorem tokenKind_any (k : Int) (w : World) : Calls Tryz.prog 169 #[.int .i64 k] w fun e w' => e = .returned (.int .i64 (tkD k)) ∧ w' = w := by
  by_cases h1 : k = 1
  · subst h1
    go_enter Tryz.func169, Tryz.ntmps169
    go_wp2
    go_ret
    exact ⟨rfl, rfl⟩
  by_cases h2 : k = 2
  · subst h2
    go_enter Tryz.func169, Tryz.ntmps169
    go_wp2
    go_ret
    exact ⟨rfl, rfl⟩
  by_cases h3 : k = 3
  · subst h3
    go_enter Tryz.func169, Tryz.ntmps169
    go_wp2
    go_ret
    exact ⟨rfl, rfl⟩
  by_cases h4 : k = 4
  · subst h4
    go_enter Tryz.func169, Tryz.ntmps169
    go_wp2
    go_ret
    exact ⟨rfl, rfl⟩
  have e : tkD k = 0 := by simp [tkD, h1, h2, h3, h4]
  rw [e]
  have b1 : (k == 1) = false := by simpa using h1
  have b2 : (k == 2) = false := by simpa using h2
  have b3 : (k == 3) = false := by simpa using h3
  have b4 : (k == 4) = false := by simpa using h4
  go_enter Tryz.func169, Tryz.ntmps169
  go_wp2
  go_ret
  exact ⟨rfl, rfl⟩
set_option maxRecDepth 100000 in
set_option maxHeartbeats 1000000 in
theorem tokenOf_any (t : Dat) (w : World) : Calls Tryz.prog 163 #[t.val] w fun e w' => e = .returned (.agg #[.int .i64 (tkD t.kind), .int .i64 t.num, .string t.name]) ∧ Below w.heap.size w w' := by
  obtain ⟨k, p, n, z⟩ := t
  show Calls _ _ #[.agg #[.int .i64 k, .int .i64 p, .int .i64 n, .string z]] _ _
  go_enter Tryz.func163, Tryz.ntmps163
  go_wp2_with fail
  have hne : w.heap.size ≠ w.heap.size + 1 := by omega
  have hne' : w.heap.size + 1 ≠ w.heap.size := by omega
  go_region_held3 (fun w' => w'.cell? ⟨w.heap.size, 0, none⟩ = some (.int .i64 k) ∧ w'.cell? ⟨w.heap.size, 0 + 2, none⟩ = some (.int .i64 n) ∧ w'.cell? ⟨w.heap.size, 0 + 3, none⟩ = some (.string z)) (go_keep)
    ((go_at_call 169; refine (tokenKind_any _ _).mono ?_; rintro e w' ⟨rfl, rfl⟩))
  all_goals
    go_wp2
    exact bodyPost_ret (v := .agg #[.int .i64 (tkD k), .int .i64 n, .string z]) (by simp [results, Tryz.results163, go_sem]) rfl ⟨rfl, by
      repeat (first | exact Below.refl _ _ | refine Below.setCell ?_ (by simp) _ | refine Below.drew ?_ | refine Below.alloc ?_ (by simp <;> omega) _)⟩
theorem size_at (r m cap : Nat) (ao : Option Addr) (w : World) (hc : w.cell? ⟨r, 0, none⟩ = some (.slice ao m cap)) :
    Calls Tryz.prog 176 #[.pointer (some ⟨r, 0, none⟩)] w fun e w' => e = .returned (.int .i64 (m : Nat)) ∧ w' = w := by
  go_enter Tryz.func176, Tryz.ntmps176
  go_wp2
  go_ret
  exact ⟨rfl, rfl⟩
theorem infoN : (Tryz.prog.info? 236).map (fun i => (i.zero, i.size, i.bytes)) = some (some (.agg #[.int .i64 0, .int .i64 0, .int .i64 0, .string ⟨#[]⟩]), 4, 40) := by kernel_rfl
/-- A cell ahead of a row that has grown. -/
theorem aftGrow {w u w1 : World} {row : Option Nat} {r f : Nat} {v : Value} (hb : Below w.heap.size w u) (c : w.cell? ⟨r, f, none⟩ = some v) (fz : w.frozen? ⟨r, f, none⟩ = false) (hg : u.grownBy w1 row) (hr : row ≠ some r) : w1.cell? ⟨r, f, none⟩ = some v ∧ w1.frozen? ⟨r, f, none⟩ = false := by
  have h1 := cell_keep hb c
  refine ⟨hg.cell h1 (Ne.symm hr), ?_⟩
  rw [World.frozen?_of_block (a := ⟨r, f, none⟩) (hg.block r (lt_of_cell h1) (Ne.symm hr)), (bcell hb).2 r f (lt_of_cell c)]
  exact fz
/-- A node has been put behind the others: a row has grown, and its cell names it. -/
def AddR (B r : Nat) (v : Value) (N : List Dat) (w w' : World) : Prop :=
  ∃ u w1 g' c', Below w.heap.size w u ∧ u.grownBy w1 v.ownBlock ∧ w1.ownsRow B 236 4 (.slice (some ⟨g', 0, none⟩) N.length c') N.length (cellsN N) ∧ (v.ownBlock = some g' ∨ u.heap.size = g') ∧ w' = w1.setCell ⟨r, 0, none⟩ (.slice (some ⟨g', 0, none⟩) N.length c')
set_option maxRecDepth 100000 in
set_option maxHeartbeats 2000000 in
theorem add_any (B r : Nat) (v : Value) (N : List Dat) (p k n : Int) (z : ByteArray) (w : World) (hB : B ≤ w.heap.size) (fz : w.frozen? ⟨r, 0, none⟩ = false) (h : Fld w B r 0 236 4 v N.length (cellsN N)) (hl : N.length < 1000) :
    Calls Tryz.prog 166 #[.pointer (some ⟨r, 0, none⟩), .int .i64 p, .agg #[.int .i64 k, .int .i64 n, .string z]] w fun e w' => e = .returned (.int .i64 (N.length : Nat)) ∧ AddR B r v (N ++ [⟨k, p, n, z⟩]) w w' := by
  obtain ⟨aD, cD, rfl⟩ := own_form h.2.1
  have c0 := h.1
  have hlt := h.lt
  have HH : Hid _ := h
  obtain ⟨i0, hi, hz0, hz1, hz2⟩ := info_parts infoN
  clear h
  go_enter Tryz.func166, Tryz.ntmps166
  go_wp2_with fail
  have ag : (Value.slice aD N.length cD).ownBlock ≠ some r := fun e => HH.out.2.2 r e rfl
  have HO : Hid (w.ownsRow B 236 4 (.slice aD N.length cD) N.length (cellsN N)) := HH.out.2.1
  go_region_law
    ((refine step_append_lies _ (by rfl) _ _ _ (by rfl) B 236 i0 _ 4 40 Tryz.underlying218 hi hz0 hz1 hz2 rfl (by decide) (.slice aD N.length cD) N.length (cellsN N) (by rfl) (by repeat (first | exact HO.out | refine World.ownsRow.alloc ?_ _ | refine World.ownsRow.drew ?_))
        ⟨w.heap.size + 1, 0, none⟩ 1 1 [.int .i64 p, .int .i64 k, .int .i64 n, .string z] (by rfl) (by rfl) (World.news_of_block (cs := #[.int .i64 p, .int .i64 k, .int .i64 n, .string z]) (t := 236) (fr := (0, 0)) (heap_new' _ _ _ (by simp))) (by simp [Value.oneCell'])
        (by decide) (by unfold maxLen; omega) (by omega) (by simp; omega) (w.heap.size + 2) (by simp) ?_; intro g' cap' w1 hown1 hgrow hat hlt'; obtain ⟨k1, k2⟩ := aftGrow (w := w) (by repeat (first | exact Below.refl _ _ | refine Below.drew ?_ | refine Below.alloc ?_ (by simp <;> omega) _)) c0 fz hgrow ag))
  all_goals
    have hs : (w1.setCell ⟨r, 0, none⟩ (.slice (some ⟨g', 0, none⟩) (N.length + 1) cap')).cell? ⟨r, 0, none⟩ = some (.slice (some ⟨g', 0, none⟩) (N.length + 1) cap') := World.cell?_setCell_same' _ _ _ (by rw [k1]; rfl)
    have R : Hid (AddR B r (.slice aD N.length cD) (N ++ [⟨k, p, n, z⟩]) w (w1.setCell ⟨r, 0, none⟩ (.slice (some ⟨g', 0, none⟩) (N.length + 1) cap'))) := by
      refine ⟨_, w1, g', cap', ?_, hgrow, ?_, ?_, ?_⟩
      · repeat (first | exact Below.refl _ _ | refine Below.drew ?_ | refine Below.alloc ?_ (by simp <;> omega) _)
      · rw [cellsN_append, List.length_append]; exact hown1
      · rcases hat with h | h
        · exact .inl h
        · right; simp; omega
      · rw [List.length_append]; rfl
    clear hgrow hown1 hat k1 k2
    go_wp2_with ((go_at_call 176; refine (size_at _ _ _ _ _ hs).mono ?_; rintro e w' ⟨rfl, rfl⟩))
    go_ret
    exact ⟨by simp, R.out⟩
end Go.Proofs.YteboaiklibaomaaGreatDoor
