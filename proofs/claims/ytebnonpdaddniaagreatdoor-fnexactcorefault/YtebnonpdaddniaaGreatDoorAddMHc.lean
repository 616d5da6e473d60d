/-
  Parts of the proof laid into one text, one behind the other; each says at its head what is proved in it.
-/
import Derived.Test.YtebnonpdaddniaaGreatDoorHcF
import Derived.Test.YtebnonpdaddniaaGreatDoorReadKitHc
import Derived.Deep.RegionLaw
import Derived.Deep.DrawnRows
import Derived.Deep.RegionHeld3
/-
  The program's tokenKind, tokenOf and add: the token with which a datum begins, and a node put behind the others of a tree.
-/
namespace Go.Proofs.YtebnonpdaddniaaGreatDoor
open Go.RowKit Go.Extern.Stop Go.Stop Go.Extern Num Go.Lib Go.Shelf

/-- The kind of the token with which a datum begins. -/
def tkD (k : Int) : Int := if k = 1 then 4 else if k = 2 then 5 else if k = 3 then 6 else if k = 4 then 1 else 0
theorem tokenKind_any (k : Int) (w : World) : Calls Tryz.prog 148 #[.int .i64 k] w fun e w' => e = .returned (.int .i64 (tkD k)) ∧ w' = w := by
  by_cases h1 : k = 1
  · subst h1
    go_enter Tryz.func148, Tryz.ntmps148
    go_wp2
    go_ret
    exact ⟨rfl, rfl⟩
  by_cases h2 : k = 2
  · subst h2
    go_enter Tryz.func148, Tryz.ntmps148
    go_wp2
    go_ret
    exact ⟨rfl, rfl⟩
  by_cases h3 : k = 3
  · subst h3
    go_enter Tryz.func148, Tryz.ntmps148
    go_wp2
    go_ret
    exact ⟨rfl, rfl⟩
  by_cases h4 : k = 4
  · subst h4
    go_enter Tryz.func148, Tryz.ntmps148
    go_wp2
    go_ret
    exact ⟨rfl, rfl⟩
  have e : tkD k = 0 := by simp [tkD, h1, h2, h3, h4]
  rw [e]
  have b1 : (k == 1) = false := by simpa using h1
  have b2 : (k == 2) = false := by simpa using h2
  have b3 : (k == 3) = false := by simpa using h3
  have b4 : (k == 4) = false := by simpa using h4
  go_enter Tryz.func148, Tryz.ntmps148
  go_wp2
  go_ret
  exact ⟨rfl, rfl⟩
set_option maxRecDepth 100000 in
set_option maxHeartbeats 1000000 in
theorem tokenOf_any (t : Dat) (w : World) : Calls Tryz.prog 109 #[t.val] w fun e w' => e = .returned (.agg #[.int .i64 (tkD t.kind), .int .i64 t.num, .string t.name]) ∧ Below w.heap.size w w' := by
  obtain ⟨k, p, n, z⟩ := t
  show Calls _ _ #[.agg #[.int .i64 k, .int .i64 p, .int .i64 n, .string z]] _ _
  go_enter Tryz.func109, Tryz.ntmps109
  go_wp2_with fail
  have hne : w.heap.size ≠ w.heap.size + 1 := by omega
  have hne' : w.heap.size + 1 ≠ w.heap.size := by omega
  go_region_held3 (fun w' => w'.cell? ⟨w.heap.size, 0, none⟩ = some (.int .i64 k) ∧ w'.cell? ⟨w.heap.size, 0 + 2, none⟩ = some (.int .i64 n) ∧ w'.cell? ⟨w.heap.size, 0 + 3, none⟩ = some (.string z)) (go_keep)
    ((go_at_call 148; refine (tokenKind_any _ _).mono ?_; rintro e w' ⟨rfl, rfl⟩))
  all_goals
    go_wp2
    exact bodyPost_ret (v := .agg #[.int .i64 (tkD k), .int .i64 n, .string z]) (by simp [results, Tryz.results109, go_sem]) rfl ⟨rfl, by
      repeat (first | exact Below.refl _ _ | refine Below.setCell ?_ (by simp) _ | refine Below.drew ?_ | refine Below.alloc ?_ (by simp <;> omega) _)⟩
theorem size_at (r m cap : Nat) (ao : Option Addr) (w : World) (hc : w.cell? ⟨r, 0, none⟩ = some (.slice ao m cap)) :
    Calls Tryz.prog 155 #[.pointer (some ⟨r, 0, none⟩)] w fun e w' => e = .returned (.int .i64 (m : Nat)) ∧ w' = w := by
  go_enter Tryz.func155, Tryz.ntmps155
  go_wp2
  go_ret
  exact ⟨rfl, rfl⟩
theorem infoN : (Tryz.prog.info? 210).map (fun i => (i.zero, i.size, i.bytes)) = some (some (.agg #[.int .i64 0, .int .i64 0, .int .i64 0, .string ⟨#[]⟩]), 4, 40) := by kernel_rfl
/-- A cell ahead of a row that has grown. -/
theorem aftGrow {w u w1 : World} {row : Option Nat} {r f : Nat} {v : Value} (hb : Below w.heap.size w u) (c : w.cell? ⟨r, f, none⟩ = some v) (fz : w.frozen? ⟨r, f, none⟩ = false) (hg : u.grownBy w1 row) (hr : row ≠ some r) : w1.cell? ⟨r, f, none⟩ = some v ∧ w1.frozen? ⟨r, f, none⟩ = false := by
  have h1 := cell_keep hb c
  refine ⟨hg.cell h1 (Ne.symm hr), ?_⟩
  rw [World.frozen?_of_block (a := ⟨r, f, none⟩) (hg.block r (lt_of_cell h1) (Ne.symm hr)), (bcell hb).2 r f (lt_of_cell c)]
  exact fz
/-- A node has been put behind the others: a row has grown, and its cell names it. -/
def AddR (B r : Nat) (v : Value) (N : List Dat) (w w' : World) : Prop :=
  ∃ u w1 g' c', Below w.heap.size w u ∧ u.grownBy w1 v.ownBlock ∧ w1.ownsRow B 210 4 (.slice (some ⟨g', 0, none⟩) N.length c') N.length (cellsN N) ∧ (v.ownBlock = some g' ∨ u.heap.size = g') ∧ w' = w1.setCell ⟨r, 0, none⟩ (.slice (some ⟨g', 0, none⟩) N.length c')
set_option maxRecDepth 100000 in
set_option maxHeartbeats 2000000 in
theorem add_any (B r : Nat) (v : Value) (N : List Dat) (p k n : Int) (z : ByteArray) (w : World) (hB : B ≤ w.heap.size) (fz : w.frozen? ⟨r, 0, none⟩ = false) (h : Fld w B r 0 210 4 v N.length (cellsN N)) (hl : N.length < 1000) :
    Calls Tryz.prog 112 #[.pointer (some ⟨r, 0, none⟩), .int .i64 p, .agg #[.int .i64 k, .int .i64 n, .string z]] w fun e w' => e = .returned (.int .i64 (N.length : Nat)) ∧ AddR B r v (N ++ [⟨k, p, n, z⟩]) w w' := by
  obtain ⟨aD, cD, rfl⟩ := own_form h.2.1
  have c0 := h.1
  have hlt := h.lt
  have HH : Hid _ := h
  obtain ⟨i0, hi, hz0, hz1, hz2⟩ := info_parts infoN
  clear h
  go_enter Tryz.func112, Tryz.ntmps112
  go_wp2_with fail
  have ag : (Value.slice aD N.length cD).ownBlock ≠ some r := fun e => HH.out.2.2 r e rfl
  have HO : Hid (w.ownsRow B 210 4 (.slice aD N.length cD) N.length (cellsN N)) := HH.out.2.1
  go_region_law
    ((refine step_append_lies _ (by rfl) _ _ _ (by rfl) B 210 i0 _ 4 40 Tryz.underlying161 hi hz0 hz1 hz2 rfl (by decide) (.slice aD N.length cD) N.length (cellsN N) (by rfl) (by repeat (first | exact HO.out | refine World.ownsRow.alloc ?_ _ | refine World.ownsRow.drew ?_))
        ⟨w.heap.size + 1, 0, none⟩ 1 1 [.int .i64 p, .int .i64 k, .int .i64 n, .string z] (by rfl) (by rfl) (World.news_of_block (cs := #[.int .i64 p, .int .i64 k, .int .i64 n, .string z]) (t := 210) (fr := (0, 0)) (heap_new' _ _ _ (by simp))) (by simp [Value.oneCell'])
        (by decide) (by unfold maxLen; omega) (by omega) (by simp; omega) (w.heap.size + 2) (by simp) ?_; intro g' cap' w1 hown1 hgrow hat hlt'; obtain ⟨k1, k2⟩ := aftGrow (w := w) (by repeat (first | exact Below.refl _ _ | refine Below.drew ?_ | refine Below.alloc ?_ (by simp <;> omega) _)) c0 fz hgrow ag))
  all_goals
    have hs : (w1.setCell ⟨r, 0, none⟩ (.slice (some ⟨g', 0, none⟩) (N.length + 1) cap')).cell? ⟨r, 0, none⟩ = some (.slice (some ⟨g', 0, none⟩) (N.length + 1) cap') := World.cell?_setCell_same' _ _ _ (by rw [k1]; rfl)
    have R : Hid (AddR B r (.slice aD N.length cD) (N ++ [⟨k, p, n, z⟩]) w (w1.setCell ⟨r, 0, none⟩ (.slice (some ⟨g', 0, none⟩) (N.length + 1) cap'))) := by
      refine ⟨_, w1, g', cap', ?_, hgrow, ?_, ?_, ?_⟩
      · repeat (first | exact Below.refl _ _ | refine Below.drew ?_ | refine Below.alloc ?_ (by simp <;> omega) _)
      · rw [cellsN_append, List.length_append]; exact hown1
      · rcases hat with h | h
        · exact .inl h
        · right; simp; omega
      · rw [List.length_append]; rfl
    clear hgrow hown1 hat k1 k2
    go_wp2_with ((go_at_call 155; refine (size_at _ _ _ _ _ hs).mono ?_; rintro e w' ⟨rfl, rfl⟩))
    go_ret
    exact ⟨by simp, R.out⟩
end Go.Proofs.YtebnonpdaddniaaGreatDoor
