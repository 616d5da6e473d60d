/-
  The program's LoopLines: the lines that aren't blank, or a code; nothing that was there is turned.
-/
import Derived.Test.YtjcamjdfdalbcaaDoorLLDel
import Derived.Test.YtjcamjdfdalbcaaDoorClone
import Derived.Test.YtjcamjdfdalbcaaDoorShelfSplit
import Derived.Test.YtjcamjdfdalbcaaDoorLines
import Derived.Test.YtjcamjdfdalbcaaDoorFldKit
namespace Go.Proofs.YtjcamjdfdalbcaaDoor
open Go.RowKit Go.Extern.Stop Go.Stop Go.Extern Num Go.Lib

/-- The code, and the lines, that LoopLines answers. -/
def lcL (t : ByteArray) : Int := if 2000 < t.size then 2 else linesF (linesL t) 0
def lmL (t : ByteArray) : List ByteArray := if t.size ≤ 2000 ∧ linesF (linesL t) 0 = 0 then linesL t else []
def AnsLL (c0 : Int) (M : List ByteArray) (w w' : World) (e : Ending) : Prop :=
  ∃ ao c, e = .returned (.agg #[.int .i64 c0, .slice ao M.length c]) ∧ w'.ownsRow w.heap.size 9 1 (.slice ao M.length c) M.length (cellsT M) ∧ Below w.heap.size w w'
/-- A box that holds an answer. -/
structure RBx (w : World) (b : Nat) (c0 : Int) (v : Value) : Prop where
  p0 : w.cell? ⟨b, 0, none⟩ = some (.int .i64 c0)
  p1 : w.cell? ⟨b, 1, none⟩ = some v
  fz : ∀ o, w.frozen? ⟨b, o, none⟩ = false
theorem RBx.lt {w : World} {b : Nat} {c0 : Int} {v : Value} (h : RBx w b c0 v) : b < w.heap.size := lt_of_cell h.p0
theorem RBx.below {w w' : World} {b : Nat} {c0 : Int} {v : Value} (h : RBx w b c0 v) (hb : Below w.heap.size w w') : RBx w' b c0 v :=
  ⟨cell_keep hb h.p0, cell_keep hb h.p1, fun o => by rw [(bcell hb).2 _ _ h.lt]; exact h.fz o⟩
theorem RBx.grown {w w' : World} {b : Nat} {c0 : Int} {v : Value} {r : Option Nat} (h : RBx w b c0 v) (hg : w.grownBy w' r) (hr : r ≠ some b) : RBx w' b c0 v :=
  ⟨hg.cell h.p0 (Ne.symm hr), hg.cell h.p1 (Ne.symm hr), fun o => by rw [World.frozen?_of_block (a := ⟨b, o, none⟩) (hg.block b h.lt (Ne.symm hr))]; exact h.fz o⟩
theorem RBx.new (w : World) : RBx (w.alloc (.cells #[.int .i64 0, .slice none 0 0] 24)) w.heap.size 0 (.slice none 0 0) :=
  ⟨by rw [World.cell?_alloc_at _ _ _ _ rfl]; rfl, by rw [World.cell?_alloc_at _ _ _ _ rfl]; rfl, fun o => by simp [go_sem]⟩
theorem RBx.two {w : World} {b : Nat} {c0 : Int} {v : Value} (h : RBx w b c0 v) (x y : Value) : ((w.setCell ⟨b, 0, none⟩ x).setCell ⟨b, 1, none⟩ y).cell? ⟨b, 0, none⟩ = some x ∧ ((w.setCell ⟨b, 0, none⟩ x).setCell ⟨b, 1, none⟩ y).cell? ⟨b, 1, none⟩ = some y := by
  refine ⟨?_, ?_⟩
  · rw [World.cell?_setCell_other _ _ _ _ (by intro e; injection e with _ e2 _; exact absurd e2 (by decide))]
    exact World.cell?_setCell_same' _ _ _ (by rw [h.p0]; rfl)
  · refine World.cell?_setCell_same' _ _ _ ?_
    rw [World.cell?_setCell_other _ _ _ _ (by intro e; injection e with _ e2 _; exact absurd e2 (by decide)), h.p1]
    rfl
theorem splitL_len (t : ByteArray) (h : t.size ≤ 2000) : (splitL t).length = countB t feed + 1 ∧ (splitL t).length ≤ 2001 := by
  have h1 := splitB_all feed (by rw [feed_size]; omega) 0 _ t rfl
  have h2 := countB_le feed (by rw [feed_size]; omega) t.size t (Nat.le_refl _)
  have h1 : (splitL t).length = countB t feed + 1 := h1
  exact ⟨h1, by omega⟩
theorem own_newS (u : World) (l : List ByteArray) (hl : l.length ≤ 1048576) : (u.alloc (.cells (l.map Value.string).toArray 9)).ownsRow u.heap.size 9 1 (.slice (some ⟨u.heap.size, 0, none⟩) l.length l.length) l.length (cellsT l) := by
  refine ⟨by rw [cellsT_length]; omega, .inr ⟨u.heap.size, l.length, _, rfl, Nat.le_refl _, heap_alloc_new u _, Nat.le_refl _, by unfold maxLen; omega, by simp, ?_⟩⟩
  rw [List.take_of_length_le (by simp)]; rfl
set_option maxRecDepth 100000 in
set_option maxHeartbeats 2000000 in
theorem implLL_any (t : ByteArray) (m : Int) (w : World) (hs : t.size ≤ 1048576) (hm : w.cell? ⟨0, 0, none⟩ = some (.int .i64 m)) :
    Calls Tryd.prog 5 #[.string t] w fun e w' => AnsLL (lcL t) (lmL t) w w' e := by
  by_cases h2 : t.size ≤ 2000
  · have HC : Hid (∀ u, Calls Tryd.prog 13 #[.string t] u fun e w' => e = .returned (.string t) ∧ Below u.heap.size u w') := fun u => clone_any t u (by omega)
    obtain ⟨L, hL⟩ : ∃ L, L = splitL t := ⟨_, rfl⟩
    have hlen : L.length ≤ 2001 := by rw [hL]; exact (splitL_len t h2).2
    have hsz : ∀ (k : Nat) (h : k < L.length), L[k].size ≤ 1048576 := fun k h => by
      have h3 : L[k] ∈ splitL t := by rw [← hL]; exact List.getElem_mem h
      have := splitL_size _ t L[k] h3
      omega
    have HSp : Hid (∀ u : World, Below w.heap.size w u → Calls Tryd.prog 12 #[.string t, .string ⟨#[10]⟩] u fun e w' => e = .returned (.slice (some ⟨u.heap.size, 0, none⟩) L.length L.length) ∧ w' = u.alloc (.cells (L.map Value.string).toArray 9)) := fun u hu => by
      rw [hL, (splitL_len t h2).1]
      exact Tryd.strings_Split t feed m u (by omega) (cell_keep hu hm) (by rw [feed_size]; omega)
    obtain ⟨M, hM⟩ : ∃ M, M = L.filter nbB := ⟨_, rfl⟩
    have hMl : linesL t = M := by rw [hM, hL]; rfl
    have hMlen : M.length ≤ 2001 := by have h3 : M.length ≤ L.length := by rw [hM]; exact List.length_filter_le _ _
                                       omega
    have hMz : ∀ (k : Nat) (h : k < M.length), M[k].size ≤ 1048576 := fun k h => by
      have h4 : M[k] ∈ L.filter nbB := by rw [← hM]; exact List.getElem_mem h
      have h3 : M[k] ∈ L := (List.mem_filter.1 h4).1
      obtain ⟨j, hj, e⟩ := List.mem_iff_getElem.1 h3
      rw [← e]; exact hsz j hj
    have HD : Hid (∀ (u : World) (g B : Nat), u.ownsRow B 9 1 (.slice (some ⟨g, 0, none⟩) L.length L.length) L.length (cellsT L) → Calls Tryd.prog 11 #[.slice (some ⟨g, 0, none⟩) L.length L.length, .func (.func 14) #[] #[]] u fun e w' => e = .returned (.slice (some ⟨g, 0, none⟩) M.length L.length) ∧ w'.ownsRow B 9 1 (.slice (some ⟨g, 0, none⟩) M.length L.length) M.length (cellsT M) ∧ u.grownBy w' (some g)) := fun u g B h => (deleteS_any L g B u (by omega) h hsz).mono fun e w' ⟨M', h3, h4, h5, h6⟩ => by
      rw [hM, ← h3]; exact ⟨h4, h5, h6⟩
    have HLf : Hid (∀ (u : World) (a : Option Addr) (c : Nat), MemT u a M → Calls Tryd.prog 15 #[.slice a M.length c, .int .i64 0] u fun e w' => e = .returned (.int .i64 (linesF M 0)) ∧ w' = u) := fun u a c h => implLn_any a c M 0 u (by omega) h hMz
    have HN : Hid (∀ o, RBx ((w.alloc (.cells #[.int .i64 0, .slice none 0 0] o))) w.heap.size 0 (.slice none 0 0)) := fun o => ⟨by rw [World.cell?_alloc_at _ _ _ _ rfl]; rfl, by rw [World.cell?_alloc_at _ _ _ _ rfl]; rfl, fun o => by simp [go_sem]⟩
    obtain ⟨F, hF⟩ : ∃ F, F = linesF M 0 := ⟨_, rfl⟩
    have HA : Hid (lcL t = F ∧ lmL t = if F = 0 then M else []) := by
      refine ⟨by unfold lcL; rw [if_neg (by omega), hMl, hF], ?_⟩
      unfold lmL
      rw [hMl, ← hF]
      by_cases h3 : F = 0
      · rw [if_pos ⟨h2, h3⟩, if_pos h3]
      · rw [if_neg (fun h => h3 h.2), if_neg h3]
    rw [← hF] at HLf
    clear hF hMz hMl hM hsz hL hm
    have HB0 : Hid (∀ o, Below w.heap.size w (w.alloc o)) := fun o => (Below.refl _ _).alloc (Nat.le_refl _) _
    go_enter Tryd.func5, Tryd.ntmps5
    go_wp2_with fail
    refine (HC.out _).mono ?_
    rintro e w1 ⟨rfl, b1⟩
    have HB1 : Hid (Below w.heap.size w w1) := (HB0.out _).trans (b1.mono (by simp))
    have HX1 : Hid (RBx w1 w.heap.size 0 (.slice none 0 0)) := (HN.out _).below b1
    clear b1
    go_wp2_with fail
    refine (HSp.out _ HB1.out).mono ?_
    rintro e w2 ⟨rfl, hw2⟩
    have hz2 : w2.heap.size = w1.heap.size + 1 := by rw [hw2]; simp
    have HO2 : Hid (w2.ownsRow w1.heap.size 9 1 (.slice (some ⟨w1.heap.size, 0, none⟩) L.length L.length) L.length (cellsT L)) := by rw [hw2]; exact own_newS w1 L (by omega)
    have b2 : Below w1.heap.size w1 w2 := by rw [hw2]; exact (Below.refl _ _).alloc (Nat.le_refl _) _
    have HB2 : Hid (Below w.heap.size w w2) := HB1.out.trans (b2.mono HB1.out.size)
    have HX2 : Hid (RBx w2 w.heap.size 0 (.slice none 0 0)) := HX1.out.below b2
    clear b2 hw2
    go_wp2_with fail
    refine (HD.out _ _ _ HO2.out).mono ?_
    rintro e w3 ⟨rfl, o3, g3⟩
    have HO3 : Hid (w3.ownsRow w1.heap.size 9 1 (.slice (some ⟨w1.heap.size, 0, none⟩) M.length L.length) M.length (cellsT M)) := o3
    have hlt := HX1.out.lt
    have HX3 : Hid (RBx w3 w.heap.size 0 (.slice none 0 0)) := HX2.out.grown g3 (by simp; omega)
    have HB3 : Hid (Below w.heap.size w w3) := HB2.out.trans (below_of_grown g3 HB2.out.size (fun k hk => by have := HB1.out.size; simp at hk; omega))
    clear o3 g3 hz2
    go_wp2_with fail
    refine (HLf.out _ _ _ (MemT.of HO3.out)).mono ?_
    rintro e w4 ⟨rfl, rfl⟩
    obtain ⟨q0, q1, qf⟩ := HX3.out
    have f0 := qf 0
    have f1 := qf 1
    have hneq : w1.heap.size ≠ w.heap.size := by omega
    clear qf HD HLf HSp HC HN
    by_cases h0 : F = 0
    · subst h0
      obtain ⟨e0, e1⟩ := HX3.out.two (.int .i64 0) (.slice (some ⟨w1.heap.size, 0, none⟩) M.length L.length)
      go_wp2_with fail
      refine bodyPost_ret (v := .agg #[.int .i64 0, .slice (some ⟨w1.heap.size, 0, none⟩) M.length L.length]) (by simp [results, Tryd.results5, go_sem, e0, e1]) rfl ?_
      rw [HA.out.1, HA.out.2, if_pos trivial]
      have hnb : ∀ gg, (Value.slice (some ⟨w1.heap.size, 0, none⟩) M.length L.length).ownBlock = some gg → gg ≠ w.heap.size := fun gg hgg => by have := (HO3.out.lt gg hgg).1; omega
      exact ⟨_, _, rfl, own_base (own_set' (own_set' HO3.out hnb _) hnb _) (by omega), Below.setCell (Below.setCell HB3.out (Nat.le_refl _) _) (Nat.le_refl _) _⟩
    · have hne : (F != 0) = true := by simpa using h0
      obtain ⟨e0, e1⟩ := HX3.out.two (.int .i64 F) (.slice none 0 0)
      go_wp2_with fail
      refine bodyPost_ret (v := .agg #[.int .i64 F, .slice none 0 0]) (by simp [results, Tryd.results5, go_sem, e0, e1]) rfl ?_
      rw [HA.out.1, HA.out.2, if_neg h0]
      exact ⟨_, _, rfl, World.ownsRow_nil _ _ _ _, Below.setCell (Below.setCell HB3.out (Nat.le_refl _) _) (Nat.le_refl _) _⟩
  · have h3 : 2000 < t.size := by omega
    have HA : Hid (lcL t = 2 ∧ lmL t = []) := ⟨by unfold lcL; rw [if_pos h3], by unfold lmL; rw [if_neg (fun h => h2 h.1)]⟩
    clear h2 hm
    go_enter Tryd.func5, Tryd.ntmps5
    go_wp2_with fail
    refine bodyPost_ret (v := .agg #[.int .i64 2, .slice none 0 0]) (by simp [results, Tryd.results5, go_sem]) rfl ?_
    rw [HA.out.1, HA.out.2]
    refine ⟨_, _, rfl, World.ownsRow_nil _ _ _ _, ?_⟩
    repeat (first | exact Below.refl _ _ | refine Below.alloc ?_ (by simp) _ | refine Below.setCell ?_ (by simp) _)
end Go.Proofs.YtjcamjdfdalbcaaDoor
