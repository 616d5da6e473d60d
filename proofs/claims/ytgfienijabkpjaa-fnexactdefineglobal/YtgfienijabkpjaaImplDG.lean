/-
  The program's DefineGlobal and SetGlobal: code and globals as the model's, in memory of their own; nothing that was there is turned. A box of a GlobalsResult that a law keeps, and the box of the value that came in.
-/
import Derived.Test.YtgfienijabkpjaaImplTu
import Derived.Test.YtgfienijabkpjaaResGlobalsResult
import Derived.Test.YtgfienijabkpjaaLawGF
import Derived.Test.YtgfienijabkpjaaFacts
import Derived.Test.YtgfienijabkpjaaOpValue
namespace Go.Proofs.Ytgfienijabkpjaa
open Go.RowKit Go.Extern.Stop Go.Stop Go.Extern Num Go.Lib

theorem putL_if (l : List Glb) (s : ByteArray) (v : Vlu) : putL l s v = if putC l s ≠ 0 then [] else putL l s v := by
  unfold putC putL
  cases atG l s with
  | none =>
    by_cases h : 60 ≤ l.length
    · simp [h]
    · simp [h]
  | some k => simp
theorem putL_len (l : List Glb) (s : ByteArray) (v : Vlu) (h : l.length ≤ 60) : (putL l s v).length ≤ 60 := by
  cases hat : atG l s with
  | none =>
    rw [putL_none hat]
    by_cases h6 : 60 ≤ l.length
    · rw [if_pos h6]; simp
    · rw [if_neg h6]; simp; omega
  | some k =>
    obtain ⟨hk, _⟩ := atG_some hat
    rw [putL_some hat hk]
    by_cases h9 : 99999 ≤ (l[k]'hk).ver
    · rw [if_pos h9]; simp
    · rw [if_neg h9, put_len l k hk]; exact h
theorem putL_fine (l : List Glb) (s : ByteArray) (v : Vlu) (hf : GFine l l.length) (hs : symL s.data.toList = true) (hv : vfault v = 0) : ∀ (k : Nat) (h : k < (putL l s v).length), symL (putL l s v)[k].name.data.toList = true ∧ vfault (putL l s v)[k].value = 0 := by
  have key : ∀ t ∈ putL l s v, symL t.name.data.toList = true ∧ vfault t.value = 0 := by
    have hl : ∀ t ∈ l, symL t.name.data.toList = true ∧ vfault t.value = 0 := fun t ht => by
      obtain ⟨j, hj, rfl⟩ := List.getElem_of_mem ht
      exact ⟨hf.sym j hj hj, hf.val j hj hj⟩
    intro t ht
    cases hat : atG l s with
    | none =>
      rw [putL_none hat] at ht
      by_cases h6 : 60 ≤ l.length
      · rw [if_pos h6] at ht; cases ht
      · rw [if_neg h6] at ht
        rcases List.mem_append.1 ht with h | h
        · exact hl t h
        · obtain rfl := List.mem_singleton.1 h
          exact ⟨hs, hv⟩
    | some k =>
      obtain ⟨hk, hn, _⟩ := atG_some hat
      rw [putL_some hat hk] at ht
      by_cases h9 : 99999 ≤ (l[k]'hk).ver
      · rw [if_pos h9] at ht; cases ht
      · rw [if_neg h9] at ht
        rcases List.mem_append.1 ht with h | h
        · rcases List.mem_append.1 h with h | h
          · exact hl t (List.mem_of_mem_take h)
          · obtain rfl := List.mem_singleton.1 h
            exact ⟨hf.sym k hk hk, hv⟩
        · exact hl t (List.mem_of_mem_drop h)
  exact fun k h => key _ (List.getElem_mem h)
theorem outDG_len (l : List Glb) (s : ByteArray) (v : Vlu) : (outDG l s v).length ≤ 60 := by
  unfold outDG
  by_cases h0 : askG l s = 0
  · rw [if_neg (by simp [h0])]
    by_cases h1 : vfault v = 0
    · rw [if_neg (by simp [h1])]; exact putL_len l s v (ask_glob h0).1
    · rw [if_pos h1]; simp
  · rw [if_pos h0]; simp
theorem outSG_len (l : List Glb) (s : ByteArray) (v : Vlu) : (outSG l s v).length ≤ 60 := by
  unfold outSG
  by_cases h0 : askG l s = 0
  · rw [if_neg (by simp [h0])]
    by_cases h1 : vfault v = 0
    · rw [if_neg (by simp [h1])]
      by_cases h2 : atG l s = none
      · rw [if_pos h2]; simp
      · rw [if_neg h2]; exact putL_len l s v (ask_glob h0).1
    · rw [if_pos h1]; simp
  · rw [if_pos h0]; simp
set_option maxHeartbeats 1000000 in
theorem implDG_any (ao : Option Addr) (cap g : Nat) (l : List Glb) (s : ByteArray) (v : Vlu) (w : World) (hl : l.length ≤ 1048576) (hao : 0 < l.length → ao = some ⟨g, 0, none⟩) (hr : RowG w g l) (hz : ableG l) (hs : s.size ≤ 9223372036854775807) (hv : v.name.size ≤ 9223372036854775807) :
    Calls Try.prog 10 #[.slice ao l.length cap, .string s, v.val] w fun e w' => AnsD w (codeDG l s v) (outDG l s v) e w' := by
  obtain ⟨R, hR⟩ : ∃ R, R = codeDG l s v := ⟨_, rfl⟩
  obtain ⟨M, hM⟩ : ∃ M, M = outDG l s v := ⟨_, rfl⟩
  rw [← hR, ← hM]
  have HT : Hid (∀ u, Below w.heap.size w u → Calls Try.prog 38 #[.slice ao l.length cap, .string s, v.val, .func (.func 39) #[] #[]] u fun e w' => AnsD u R M e w') := fun u hu =>
    turned_define ao cap g l s v u R M (putL l s v) (putC l s) hl hao (hr.below hu) hz hs hv (fun C b q h1 h2 h3 h4 h5 _ => define_any C b l s v q h1 h2 h3 h4 h5) (fun h1 h2 h3 _ => putL_fine l s v h1 h2 h3) (by rw [hR]; rfl) (by rw [hM, ← putL_if]; rfl)
  clear hR hM hl hao hr hz hs hv
  go_enter Try.func10, Try.ntmps10
  go_wp2_with fail
  refine (HT.out _ (by repeat (first | exact Below.refl _ _ | refine Below.alloc ?_ (by simp) _))).mono ?_
  rintro e w1 ⟨aq, cq, rfl, ho, hb⟩
  have r0 : w1.cell? ⟨w.heap.size + 1, 0, none⟩ = some (.int .i64 0) := cell_keep hb (by rw [World.cell?_alloc_at _ _ _ _ (by simp)]; rfl)
  have r1 : w1.cell? ⟨w.heap.size + 1, 1, none⟩ = some (.slice none 0 0) := cell_keep hb (by rw [World.cell?_alloc_at _ _ _ _ (by simp)]; rfl)
  have rf : ∀ o, w1.frozen? ⟨w.heap.size + 1, o, none⟩ = false := fun o => by rw [(bcell hb).2 _ _ (by simp), World.frozen?_alloc_at _ _ _ _ (by simp)]
  have z1 : w.heap.size + 1 < w1.heap.size := lt_of_cell r0
  have HO : Hid (w1.ownsRow w.heap.size 33 5 (.slice aq M.length cq) M.length (cellsG M)) := own_base ho (by simp; omega)
  have HNE : Hid (∀ g, (Value.slice aq M.length cq).ownBlock = some g → w.heap.size + 1 < g) := fun g hg => by have := ho.lt g hg; simp at this; omega
  have HB : Hid (Below w.heap.size w w1) := Below.trans (by repeat (first | exact Below.refl _ _ | refine Below.alloc ?_ (by simp) _)) (hb.mono (by simp; omega))
  clear hb ho
  go_wp2
  refine bodyPost_ret (v := .agg #[.int .i64 R, .slice aq M.length cq]) (by simp [results, Try.results10, go_sem, r0, r1]) rfl ⟨aq, cq, rfl, ?_, ?_⟩
  · repeat (first | exact HO.out | refine own_set' ?_ (fun g hg e => by have := HNE.out g hg; simp at e; omega) _)
  · repeat (first | refine Below.setCell ?_ (by simp <;> omega) _ | exact HB.out)
set_option maxHeartbeats 1000000 in
theorem implSG_any (ao : Option Addr) (cap g : Nat) (l : List Glb) (s : ByteArray) (v : Vlu) (w : World) (hl : l.length ≤ 1048576) (hao : 0 < l.length → ao = some ⟨g, 0, none⟩) (hr : RowG w g l) (hz : ableG l) (hs : s.size ≤ 9223372036854775807) (hv : v.name.size ≤ 9223372036854775807) :
    Calls Try.prog 11 #[.slice ao l.length cap, .string s, v.val] w fun e w' => AnsD w (codeSG l s v) (outSG l s v) e w' := by
  obtain ⟨R, hR⟩ : ∃ R, R = codeSG l s v := ⟨_, rfl⟩
  obtain ⟨M, hM⟩ : ∃ M, M = outSG l s v := ⟨_, rfl⟩
  rw [← hR, ← hM]
  have hM2 : M = if askG l s ≠ 0 then [] else if vfault v ≠ 0 then [] else if setC l s ≠ 0 then [] else putL l s v := by
    rw [hM]
    unfold outSG setC
    by_cases h2 : atG l s = none
    · simp [h2]
    · rw [if_neg h2, if_neg h2, ← putL_if]
  have HT : Hid (∀ u, Below w.heap.size w u → Calls Try.prog 38 #[.slice ao l.length cap, .string s, v.val, .func (.func 40) #[] #[]] u fun e w' => AnsD u R M e w') := fun u hu =>
    turned_set ao cap g l s v u R M (putL l s v) (setC l s) hl hao (hr.below hu) hz hs hv (fun C b q h1 h2 h3 h4 h5 _ => set_any C b l s v q h1 h2 h3 h4 h5) (fun h1 h2 h3 _ => putL_fine l s v h1 h2 h3) (by rw [hR]; rfl) hM2
  clear hR hM hl hao hr hz hs hv hM2
  go_enter Try.func11, Try.ntmps11
  go_wp2_with fail
  refine (HT.out _ (by repeat (first | exact Below.refl _ _ | refine Below.alloc ?_ (by simp) _))).mono ?_
  rintro e w1 ⟨aq, cq, rfl, ho, hb⟩
  have r0 : w1.cell? ⟨w.heap.size + 1, 0, none⟩ = some (.int .i64 0) := cell_keep hb (by rw [World.cell?_alloc_at _ _ _ _ (by simp)]; rfl)
  have r1 : w1.cell? ⟨w.heap.size + 1, 1, none⟩ = some (.slice none 0 0) := cell_keep hb (by rw [World.cell?_alloc_at _ _ _ _ (by simp)]; rfl)
  have rf : ∀ o, w1.frozen? ⟨w.heap.size + 1, o, none⟩ = false := fun o => by rw [(bcell hb).2 _ _ (by simp), World.frozen?_alloc_at _ _ _ _ (by simp)]
  have z1 : w.heap.size + 1 < w1.heap.size := lt_of_cell r0
  have HO : Hid (w1.ownsRow w.heap.size 33 5 (.slice aq M.length cq) M.length (cellsG M)) := own_base ho (by simp; omega)
  have HNE : Hid (∀ g, (Value.slice aq M.length cq).ownBlock = some g → w.heap.size + 1 < g) := fun g hg => by have := ho.lt g hg; simp at this; omega
  have HB : Hid (Below w.heap.size w w1) := Below.trans (by repeat (first | exact Below.refl _ _ | refine Below.alloc ?_ (by simp) _)) (hb.mono (by simp; omega))
  clear hb ho
  go_wp2
  refine bodyPost_ret (v := .agg #[.int .i64 R, .slice aq M.length cq]) (by simp [results, Try.results11, go_sem, r0, r1]) rfl ⟨aq, cq, rfl, ?_, ?_⟩
  · repeat (first | exact HO.out | refine own_set' ?_ (fun g hg e => by have := HNE.out g hg; simp at e; omega) _)
  · repeat (first | refine Below.setCell ?_ (by simp <;> omega) _ | exact HB.out)
theorem lt_blk {u : World} {x : Nat} {o : Obj} (h : u.heap[x]? = some o) : x < u.heap.size := (Array.getElem?_eq_some_iff.1 h).1
structure GrA (x : Nat) (c : Int) (s : Value) (u : World) : Prop where
  c0 : u.cell? ⟨x, 0, none⟩ = some (.int .i64 c)
  c1 : u.cell? ⟨x, 1, none⟩ = some s
theorem GrA.below {x : Nat} {c : Int} {s : Value} {u v : World} (h : GrA x c s u) (hb : Below u.heap.size u v) : GrA x c s v := ⟨cell_keep hb h.c0, cell_keep hb h.c1⟩
theorem GrA.grown {x : Nat} {c : Int} {s : Value} {u v : World} {r : Option Nat} (h : GrA x c s u) (hg : u.grownBy v r) (hx : some x ≠ r) : GrA x c s v := ⟨hg.cell h.c0 hx, hg.cell h.c1 hx⟩
/-- The box of a GlobalsResult, all zero. -/
def GrZ (n x : Nat) (u : World) : Prop := n ≤ x ∧ u.heap[x]? = some (.cells #[.int .i64 0, .slice none 0 0] 30 (0, 0))
theorem GrZ.below {n x : Nat} {u v : World} (h : GrZ n x u) (hb : Below u.heap.size u v) : GrZ n x v := ⟨h.1, by rw [hb.block x (lt_blk h.2)]; exact h.2⟩
theorem GrZ.cells {n x : Nat} {u : World} (h : GrZ n x u) : u.cell? ⟨x, 0, none⟩ = some (.int .i64 0) ∧ u.cell? ⟨x, 1, none⟩ = some (.slice none 0 0) ∧ ∀ o, u.frozen? ⟨x, o, none⟩ = false :=
  ⟨by rw [cell_of_row u x 0 _ _ _ h.2]; rfl, by rw [cell_of_row u x 1 _ _ _ h.2]; rfl, fun o => by unfold World.frozen?; simp [h.2]⟩
theorem GrZ.put {n x : Nat} {u : World} {c : Int} {s : Value} (h : GrZ n x u) : GrA x c s ((u.setCell ⟨x, 0, none⟩ (.int .i64 c)).setCell ⟨x, 1, none⟩ s) ∧ u.grownBy ((u.setCell ⟨x, 0, none⟩ (.int .i64 c)).setCell ⟨x, 1, none⟩ s) (some x) := by
  obtain ⟨c0, c1, _⟩ := h.cells
  refine ⟨⟨?_, ?_⟩, gb_set (gb_set (gb_refl _ _) _) _⟩
  · rw [World.cell?_setCell_other _ _ _ _ (by simp), World.cell?_setCell_same _ _ _ c0]
  · rw [World.cell?_setCell_same _ _ _ (by rw [World.cell?_setCell_other _ _ _ _ (by simp)]; exact c1)]
theorem own_neG {u : World} {base x size n : Nat} {e T : TypeId} {v : Value} {xs : List Value} {cs : Array Value} {fz : Nat × Nat} (h : u.ownsRow base e size v n xs) (hx : u.heap[x]? = some (.cells cs T fz)) (hne : e ≠ T) : ∀ g, v.ownBlock = some g → g ≠ x := by
  intro g hg hgx
  rcases h.2 with ⟨rfl, _⟩ | ⟨g', cap, cur, rfl, _, hgg, _⟩
  · cases hg
  · have : g' = g := by simpa [Value.ownBlock] using hg
    subst this
    subst hgx
    rw [hgg] at hx
    injection hx with h1
    injection h1 with _ h2
    exact hne h2
/-- The box of the value, and what was there. -/
structure VVG (w : World) (V : Vlu) (u : World) : Prop where
  b0 : VBox w.heap.size V u
  old : Below w.heap.size w u
theorem VVG.below {w u v : World} {V : Vlu} (h : VVG w V u) (hb : Below u.heap.size u v) : VVG w V v := ⟨h.b0.below hb, h.old.trans (hb.mono h.old.size)⟩
theorem VVG.size {w u : World} {V : Vlu} (h : VVG w V u) : w.heap.size + 1 ≤ u.heap.size := by have h1 : w.heap.size < u.heap.size := lt_of_cell h.b0.c0; omega
theorem VVG.grown {w u v : World} {V : Vlu} {x : Nat} (h : VVG w V u) (hg : u.grownBy v (some x)) (hx : w.heap.size + 1 ≤ x) : VVG w V v :=
  ⟨⟨hg.cell h.b0.c0 (by simp; omega), hg.cell h.b0.c1 (by simp; omega), hg.cell h.b0.c2 (by simp; omega)⟩, h.old.trans (below_of_grown hg h.old.size (fun k hk => by have := Option.some.inj hk; omega))⟩
theorem vvg_new (w : World) (V : Vlu) (T : TypeId) : VVG w V (w.alloc (.cells #[.int .i64 V.kind, .int .i64 V.num, .string V.name] T)) :=
  ⟨⟨by rw [World.cell?_alloc_at _ _ _ _ rfl]; rfl, by rw [World.cell?_alloc_at _ _ _ _ rfl]; rfl, by rw [World.cell?_alloc_at _ _ _ _ rfl]; rfl⟩, (Below.refl _ _).alloc (Nat.le_refl _) _⟩
end Go.Proofs.Ytgfienijabkpjaa
