/-
  The program's heap: a block whose cell holds a slice of pointers, each to a block of four cells: what a new pair leaves of it.
-/
import Derived.Test.YtgfienijabkpjaaDoorFldKit
import Derived.Test.YtgfienijabkpjaaDoorImplBits
namespace Go.Proofs.YtgfienijabkpjaaDoor
open Go.RowKit Go.Extern.Stop Go.Stop Go.Extern Num Go.Lib

def ptrs (bs : List Nat) : List Value := bs.map fun b => .pointer (some ⟨b, 0, none⟩)
theorem ptrs_snoc (bs : List Nat) (b : Nat) : ptrs (bs ++ [b]) = ptrs bs ++ [.pointer (some ⟨b, 0, none⟩)] := by simp [ptrs]
theorem infoQ : (Tryd.prog.info? 105).map (fun i => (i.zero, i.size, i.bytes)) = some (some (.pointer none), 1, 8) := by kernel_rfl
/-- The two words of a pair, where it is pointed at. -/
structure CellAt (b : Nat) (x : Wd × Wd) (w : World) : Prop where
  c0 : w.cell? ⟨b, 0, none⟩ = some (.int .u8 x.1.tag)
  c1 : w.cell? ⟨b, 1, none⟩ = some (.int .u64 x.1.rest)
  c2 : w.cell? ⟨b, 2, none⟩ = some (.int .u8 x.2.tag)
  c3 : w.cell? ⟨b, 3, none⟩ = some (.int .u64 x.2.rest)
theorem CellAt.below {b : Nat} {x : Wd × Wd} {w w' : World} (h : CellAt b x w) (hb : Below w.heap.size w w') : CellAt b x w' := ⟨cell_keep hb h.c0, cell_keep hb h.c1, cell_keep hb h.c2, cell_keep hb h.c3⟩
theorem CellAt.grown {b : Nat} {x : Wd × Wd} {w w' : World} {r : Option Nat} (h : CellAt b x w) (hg : w.grownBy w' r) (hr : r ≠ some b) : CellAt b x w' := ⟨hg.cell h.c0 (Ne.symm hr), hg.cell h.c1 (Ne.symm hr), hg.cell h.c2 (Ne.symm hr), hg.cell h.c3 (Ne.symm hr)⟩
theorem CellAt.set {b r f : Nat} {x : Wd × Wd} {w : World} (h : CellAt b x w) (hr : b ≠ r) (v : Value) : CellAt b x (w.setCell ⟨r, f, none⟩ v) := by
  have ne : ∀ o, (⟨r, f, none⟩ : Addr) ≠ ⟨b, o, none⟩ := fun o e => hr (by injection e with e1; exact e1.symm)
  exact ⟨by rw [World.cell?_setCell_other _ _ _ _ (ne 0)]; exact h.c0, by rw [World.cell?_setCell_other _ _ _ _ (ne 1)]; exact h.c1, by rw [World.cell?_setCell_other _ _ _ _ (ne 2)]; exact h.c2, by rw [World.cell?_setCell_other _ _ _ _ (ne 3)]; exact h.c3⟩
structure HpAt (w : World) (B h : Nat) (v : Value) (bs : List Nat) (cs : List (Wd × Wd)) : Prop where
  hB : B ≤ h
  fz : ∀ o, w.frozen? ⟨h, o, none⟩ = false
  fd : Fld w B h 0 105 1 v bs.length (ptrs bs)
  len : bs.length = cs.length
  each : ∀ (k : Nat) (h1 : k < bs.length) (h2 : k < cs.length), CellAt bs[k] cs[k] w
  ap : ∀ b ∈ bs, b ≠ h ∧ v.ownBlock ≠ some b ∧ B ≤ b
section
variable {w w1 : World} {B h : Nat} {v : Value} {bs : List Nat} {cs : List (Wd × Wd)}
theorem HpAt.keep (H : HpAt w B h v bs cs) (hb : Below w.heap.size w w1) : HpAt w1 B h v bs cs :=
  ⟨H.hB, fun o => by rw [(bcell hb).2 h o H.fd.lt]; exact H.fz o, H.fd.below hb, H.len, fun k h1 h2 => (H.each k h1 h2).below hb, H.ap⟩
theorem HpAt.more {U : World} {v' : Value} {nb : Nat} {x : Wd × Wd} (H : HpAt w B h v bs cs) (hB : B ≤ w.heap.size) (hb : Below w.heap.size w U) (hn : CellAt nb x U) (hnb : w.heap.size ≤ nb) (hg : U.grownBy w1 v.ownBlock)
    (ho : w1.ownsRow B 105 1 v' (bs.length + 1) (ptrs bs ++ [.pointer (some ⟨nb, 0, none⟩)])) (hv : ∀ g, v'.ownBlock = some g → v.ownBlock = some g ∨ U.heap.size ≤ g) :
    HpAt (w1.setCell ⟨h, 0, none⟩ v') B h v' (bs ++ [nb]) (cs ++ [x]) := by
  have hlt := H.fd.lt
  have hro : v.ownBlock ≠ some h := fun e => H.fd.2.2 h e rfl
  have hnl : nb < U.heap.size := lt_of_cell hn.c0
  have hsz := hb.size
  have K := H.keep hb
  refine ⟨H.hB, fz_grown K.fz K.fd.lt hg hro _ _, ?_, by simp [H.len], ?_, ?_⟩
  · have := K.fd.put (n' := bs.length + 1) hg ho (fun g e => hv g e)
    rw [List.length_append, ptrs_snoc]; exact this
  · intro k h1 h2
    by_cases hk : k < bs.length
    · have hk2 : k < cs.length := by have := H.len; omega
      rw [List.getElem_append_left hk, List.getElem_append_left hk2]
      have hm := H.ap _ (List.getElem_mem hk)
      exact ((K.each k hk hk2).grown hg hm.2.1).set hm.1 _
    · have e1 : k = bs.length := by simp at h1; omega
      subst e1
      have e2 : (cs ++ [x])[bs.length]'h2 = x := by simp [H.len]
      rw [e2]
      simp only [List.getElem_append_right (Nat.le_refl _), Nat.sub_self, List.getElem_cons_zero]
      exact (hn.grown hg (fun e => by have := H.fd.own_lt nb e; omega)).set (by omega) _
  · intro b hm
    have key : ∀ b, b < U.heap.size → v.ownBlock ≠ some b → v'.ownBlock ≠ some b := fun b h1 h2 e => by
      rcases hv b e with h3 | h3
      · exact h2 h3
      · omega
    rcases List.mem_append.1 hm with hm | hm
    · have h1 := H.ap b hm
      obtain ⟨k, hk, rfl⟩ := List.getElem_of_mem hm
      have hlb := lt_of_cell (K.each k hk (by have := H.len; omega)).c0
      exact ⟨h1.1, key _ hlb h1.2.1, h1.2.2⟩
    · have e : b = nb := by simpa using hm
      subst e
      exact ⟨by omega, key _ hnl (fun e => by have := H.fd.own_lt b e; omega), by omega⟩
theorem HpAt.other {r o : Nat} {u : Value} (H : HpAt w B h v bs cs) (hr : r ≠ h) (hv : v.ownBlock ≠ some r) (hb : ∀ b ∈ bs, b ≠ r) : HpAt (w.setCell ⟨r, o, none⟩ u) B h v bs cs := by
  refine ⟨H.hB, fun o => by rw [World.frozen?_setCell]; exact H.fz o, ⟨?_, own_set' H.fd.2.1 (fun g hg e => hv (by rw [hg]; simpa using e)) u, H.fd.2.2⟩, H.len, fun k h1 h2 => (H.each k h1 h2).set (hb _ (List.getElem_mem h1)) _, H.ap⟩
  rw [World.cell?_setCell_other _ _ _ _ (by intro e; injection e with e1; exact hr e1)]; exact H.fd.1
/-- A pair put behind the others; a box of the call's own takes the answer. -/
theorem HpAt.cons {U : World} {g' c' nb r : Nat} {x : Wd × Wd} (H : HpAt w B h v bs cs) (hB : B ≤ w.heap.size) (hb : Below w.heap.size w U) (hn : CellAt nb x U) (hnb : w.heap.size ≤ nb) (hg : U.grownBy w1 v.ownBlock)
    (ho : w1.ownsRow B 105 1 (.slice (some ⟨g', 0, none⟩) (bs.length + 1) c') (bs.length + 1) (ptrs bs ++ [.pointer (some ⟨nb, 0, none⟩)])) (hv : v.ownBlock = some g' ∨ g' = U.heap.size)
    (hr : w.heap.size ≤ r) (hrn : r ≠ nb) (rc0 : U.cell? ⟨r, 0, none⟩ = some (.int .u8 0)) (rc1 : U.cell? ⟨r, 1, none⟩ = some (.int .u64 0)) (rf : ∀ o, U.frozen? ⟨r, o, none⟩ = false) :
    ((w1.setCell ⟨h, 0, none⟩ (.slice (some ⟨g', 0, none⟩) (bs.length + 1) c')).cell? ⟨h, 0, none⟩ = some (.slice (some ⟨g', 0, none⟩) (bs.length + 1) c') ∧ (w1.setCell ⟨h, 0, none⟩ (.slice (some ⟨g', 0, none⟩) (bs.length + 1) c')).cell? ⟨r, 0, none⟩ = some (.int .u8 0) ∧ (w1.setCell ⟨h, 0, none⟩ (.slice (some ⟨g', 0, none⟩) (bs.length + 1) c')).cell? ⟨r, 1, none⟩ = some (.int .u64 0) ∧ (∀ o, (w1.setCell ⟨h, 0, none⟩ (.slice (some ⟨g', 0, none⟩) (bs.length + 1) c')).frozen? ⟨r, o, none⟩ = false)) ∧
    ∀ a b, (∃ u es, HpAt (((w1.setCell ⟨h, 0, none⟩ (.slice (some ⟨g', 0, none⟩) (bs.length + 1) c')).setCell ⟨r, 0, none⟩ a).setCell ⟨r, 1, none⟩ b) B h u es (cs ++ [x])) ∧ Below B w (((w1.setCell ⟨h, 0, none⟩ (.slice (some ⟨g', 0, none⟩) (bs.length + 1) c')).setCell ⟨r, 0, none⟩ a).setCell ⟨r, 1, none⟩ b) := by
  have hlt := H.fd.lt
  have hsz := hb.size
  have hrl : r < U.heap.size := lt_of_cell rc0
  have hvr : v.ownBlock ≠ some r := fun e => by have := H.fd.own_lt r e; omega
  have hrh : r ≠ h := by omega
  have M := H.more hB hb hn hnb hg ho (fun g e => by
    have : g = g' := by simp [Value.ownBlock] at e; omega
    subst this
    rcases hv with h1 | h1
    · exact Or.inl h1
    · right; omega)
  have hgr : g' ≠ r := by
    rcases hv with h1 | h1
    · intro e; subst e; exact hvr h1
    · omega
  have ne : ∀ o, (⟨h, 0, none⟩ : Addr) ≠ ⟨r, o, none⟩ := fun o e => hrh (by injection e with e1; exact e1.symm)
  refine ⟨⟨M.fd.1, ?_, ?_, fun o => ?_⟩, fun a b => ⟨⟨_, _, (M.other hrh ?_ ?_).other hrh ?_ ?_⟩, ?_⟩⟩
  · rw [World.cell?_setCell_other _ _ _ _ (ne 0)]; exact hg.cell rc0 (Ne.symm hvr)
  · rw [World.cell?_setCell_other _ _ _ _ (ne 1)]; exact hg.cell rc1 (Ne.symm hvr)
  · rw [World.frozen?_setCell, World.frozen?_of_block (a := ⟨r, o, none⟩) (hg.block r hrl (Ne.symm hvr))]; exact rf o
  · intro e; simp [Value.ownBlock] at e; omega
  · intro b hm e
    subst e
    rcases List.mem_append.1 hm with hm | hm
    · obtain ⟨k, hk, e⟩ := List.getElem_of_mem hm
      have : b < w.heap.size := by rw [← e]; exact lt_of_cell (H.each k hk (by have := H.len; omega)).c0
      omega
    · exact hrn (by simpa using hm)
  · intro e; simp [Value.ownBlock] at e; omega
  · intro b hm e
    subst e
    rcases List.mem_append.1 hm with hm | hm
    · obtain ⟨k, hk, e⟩ := List.getElem_of_mem hm
      have : b < w.heap.size := by rw [← e]; exact lt_of_cell (H.each k hk (by have := H.len; omega)).c0
      omega
    · exact hrn (by simpa using hm)
  · exact (((hb.mono hB).grown hg (by omega) (fun k hk => (H.fd.2.1.lt k hk).1)).setCell (by simpa using H.hB) _ |>.setCell (by show B ≤ r; omega) _).setCell (by show B ≤ r; omega) _
end
/-- The program's heap of pairs, told by words. -/
def Heap (w : World) (B h : Nat) (cs : List (Wd × Wd)) : Prop := ∃ v bs, HpAt w B h v bs cs
theorem Heap.keep {w w1 : World} {B h : Nat} {cs : List (Wd × Wd)} (H : Heap w B h cs) (hb : Below w.heap.size w w1) : Heap w1 B h cs := by
  obtain ⟨v, bs, K⟩ := H
  exact ⟨v, bs, K.keep hb⟩
end Go.Proofs.YtgfienijabkpjaaDoor
