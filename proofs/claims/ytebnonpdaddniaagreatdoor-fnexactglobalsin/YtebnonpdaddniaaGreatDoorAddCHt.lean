/-
  Parts of the proof laid into one text, one behind the other; each says at its head what is proved in it.
-/
import Derived.Test.YtebnonpdaddniaaGreatDoorHtJ
import Derived.Test.YtebnonpdaddniaaGreatDoorTreeWHt
/-
  The program's add to a tree of cores: a node put behind the others; and a tree of cores of one's own.
-/
namespace Go.Proofs.YtebnonpdaddniaaGreatDoor
open Go.RowKit Go.Extern.Stop Go.Stop Go.Extern Num Go.Lib Go.Shelf

theorem size_atC (r m cap : Nat) (ao : Option Addr) (w : World) (hc : w.cell? ⟨r, 0, none⟩ = some (.slice ao m cap)) :
    Calls Tryz.prog 116 #[.pointer (some ⟨r, 0, none⟩)] w fun e w' => e = .returned (.int .i64 (m : Nat)) ∧ w' = w := by
  go_enter Tryz.func116, Tryz.ntmps116
  go_wp2
  go_ret
  exact ⟨rfl, rfl⟩
theorem infoNC : (Tryz.prog.info? 118).map (fun i => (i.zero, i.size, i.bytes)) = some (some (.agg #[.int .i64 0, .int .i64 0, .int .i64 0, .int .i64 0, .int .i64 0, .string ⟨#[]⟩, .slice none 0 0]), 7, 80) := by kernel_rfl
/-- A node has been put behind the others: a row has grown, and its cell names it. -/
def AddRC (B r : Nat) (v : Value) (N : List (Cor × Value)) (w w' : World) : Prop :=
  ∃ u w1 g' c', Below w.heap.size w u ∧ u.grownBy w1 v.ownBlock ∧ w1.ownsRow B 118 7 (.slice (some ⟨g', 0, none⟩) N.length c') N.length (cellsNC N) ∧ (v.ownBlock = some g' ∨ u.heap.size = g') ∧ w' = w1.setCell ⟨r, 0, none⟩ (.slice (some ⟨g', 0, none⟩) N.length c')
set_option maxRecDepth 100000 in
set_option maxHeartbeats 2000000 in
theorem add_anyC (B r : Nat) (v : Value) (N : List (Cor × Value)) (t : Cor) (dv : Value) (hdv : ∃ da dn dc, dv = .slice da dn dc) (w : World) (hB : B ≤ w.heap.size) (fz : w.frozen? ⟨r, 0, none⟩ = false) (h : Fld w B r 0 118 7 v N.length (cellsNC N)) (hl : N.length < 1000) :
    Calls Tryz.prog 142 #[.pointer (some ⟨r, 0, none⟩), .int .i64 t.parent, t.val dv] w fun e w' => e = .returned (.int .i64 (N.length : Nat)) ∧ AddRC B r v (N ++ [(t, dv)]) w w' := by
  obtain ⟨da, dn, dc, rfl⟩ := hdv
  obtain ⟨k, p, na, nb, z, dl⟩ := t
  show Calls _ _ #[.pointer (some ⟨r, 0, none⟩), .int .i64 p, .agg #[.int .i64 k, .int .i64 p, .int .i64 na, .int .i64 nb, .string z, .slice da dn dc]] _ _
  obtain ⟨aD, cD, rfl⟩ := own_form h.2.1
  have c0 := h.1
  have hlt := h.lt
  have HH : Hid _ := h
  obtain ⟨i0, hi, hz0, hz1, hz2⟩ := info_parts infoNC
  clear h
  go_enter Tryz.func142, Tryz.ntmps142
  go_wp2_with fail
  have ag : (Value.slice aD N.length cD).ownBlock ≠ some r := fun e => HH.out.2.2 r e rfl
  have HO : Hid (w.ownsRow B 118 7 (.slice aD N.length cD) N.length (cellsNC N)) := HH.out.2.1
  go_region_law
    ((refine step_append_lies _ (by rfl) _ _ _ (by rfl) B 118 i0 _ 7 80 Tryz.underlying105 hi hz0 hz1 hz2 rfl (by decide) (.slice aD N.length cD) N.length (cellsNC N) (by rfl) (by repeat (first | exact HO.out | refine World.ownsRow.alloc ?_ _ | refine World.ownsRow.drew ?_))
        ⟨w.heap.size + 1, 0, none⟩ 1 1 [.int .i64 p, .int .i64 k, .int .i64 p, .int .i64 na, .int .i64 nb, .string z, .slice da dn dc] (by rfl) (by rfl) (World.news_of_block (cs := #[.int .i64 p, .int .i64 k, .int .i64 p, .int .i64 na, .int .i64 nb, .string z, .slice da dn dc]) (t := 118) (fr := (0, 0)) (heap_new' _ _ _ (by simp))) (by simp [Value.oneCell'])
        (by decide) (by unfold maxLen; omega) (by omega) (by simp; omega) (w.heap.size + 2) (by simp) ?_; intro g' cap' w1 hown1 hgrow hat hlt'; obtain ⟨k1, k2⟩ := aftGrow (w := w) (by repeat (first | exact Below.refl _ _ | refine Below.drew ?_ | refine Below.alloc ?_ (by simp <;> omega) _)) c0 fz hgrow ag))
  all_goals
    have hs : (w1.setCell ⟨r, 0, none⟩ (.slice (some ⟨g', 0, none⟩) (N.length + 1) cap')).cell? ⟨r, 0, none⟩ = some (.slice (some ⟨g', 0, none⟩) (N.length + 1) cap') := World.cell?_setCell_same' _ _ _ (by rw [k1]; rfl)
    have R : Hid (AddRC B r (.slice aD N.length cD) (N ++ [(⟨k, p, na, nb, z, dl⟩, .slice da dn dc)]) w (w1.setCell ⟨r, 0, none⟩ (.slice (some ⟨g', 0, none⟩) (N.length + 1) cap'))) := by
      refine ⟨_, w1, g', cap', ?_, hgrow, ?_, ?_, ?_⟩
      · repeat (first | exact Below.refl _ _ | refine Below.drew ?_ | refine Below.alloc ?_ (by simp <;> omega) _)
      · rw [cellsNC_append, List.length_append]; exact hown1
      · rcases hat with h | h
        · exact .inl h
        · right; simp; omega
      · rw [List.length_append]; rfl
    clear hgrow hown1 hat k1 k2
    go_wp2_with ((go_at_call 116; refine (size_atC _ _ _ _ _ hs).mono ?_; rintro e w' ⟨rfl, rfl⟩))
    go_ret
    exact ⟨by simp, R.out⟩
/-- A tree of one's own: its cell names a row that is owned. -/
def OwnTC (B r : Nat) (N : List (Cor × Value)) (w : World) : Prop := B ≤ r ∧ w.frozen? ⟨r, 0, none⟩ = false ∧ ∃ v, Fld w B r 0 118 7 v N.length (cellsNC N)
theorem OwnTC.below {B r : Nat} {N : List (Cor × Value)} {w w' : World} (h : OwnTC B r N w) (hb : Below w.heap.size w w') : OwnTC B r N w' := by
  obtain ⟨h1, h2, v, hv⟩ := h
  exact ⟨h1, by rw [(bcell hb).2 r 0 hv.lt]; exact h2, v, hv.below hb⟩
theorem OwnTC.tree {B r : Nat} {N : List (Cor × Value)} {w : World} (h : OwnTC B r N w) : IsTreeC w.heap.size w r N := by
  obtain ⟨h1, h2, v, hv⟩ := h
  obtain ⟨ao, cap, rfl⟩ := own_form hv.2.1
  cases N with
  | nil => exact ⟨ao, r, cap, hv.1, hv.lt, hv.lt, fun h => absurd rfl h, fun k hk => by simp at hk⟩
  | cons t N =>
    obtain ⟨g, c, e, _, _⟩ := hv.2.1.form (by simp)
    obtain ⟨rfl, rfl⟩ : ao = some ⟨g, 0, none⟩ ∧ cap = c := by simp at e; exact e
    exact ⟨_, g, cap, hv.1, hv.lt, (hv.own_lt g rfl), fun _ => rfl, RowNC.of hv.2.1⟩
theorem OwnTC.add {B r : Nat} {N M : List (Cor × Value)} {v : Value} {w w' : World} (hr : B ≤ r) (hB : B ≤ w.heap.size) (fz : w.frozen? ⟨r, 0, none⟩ = false) (hv : Fld w B r 0 118 7 v N.length (cellsNC N)) (h : AddRC B r v M w w') : OwnTC B r M w' ∧ Below B w w' := by
  obtain ⟨u, w1, g', c', hb, hg, ho, hat, rfl⟩ := h
  have hlt := hv.lt
  have hne : v.ownBlock ≠ some r := fun e => hv.2.2 r e rfl
  obtain ⟨k1, k2⟩ := aftGrow hb hv.1 fz hg hne
  have hsz := hb.size
  refine ⟨⟨hr, by rw [World.frozen?_setCell]; exact k2, _, (hv.below hb).put hg ho ?_⟩, ?_⟩
  · intro g e
    have : g = g' := by simp [Value.ownBlock] at e; omega
    subst this
    rcases hat with h | h
    · exact .inl h
    · right; omega
  · exact Below.setCell ((hb.mono hB).grown hg (by omega) (fun k hk => ((hv.2.1).lt k hk).1)) (by simpa using hr) _
end Go.Proofs.YtebnonpdaddniaaGreatDoor
