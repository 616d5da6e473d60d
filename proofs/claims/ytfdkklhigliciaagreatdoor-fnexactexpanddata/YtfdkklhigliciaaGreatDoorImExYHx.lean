/-
  Parts of the proof laid into one text, one behind the other; each says at its head what is proved in it.
-/
import Derived.Test.YtfdkklhigliciaaGreatDoorImExWHx
/-
  The program's ExpandData: a code, or the cores that data come to, with rows of their own, apart from one another; nothing that was there is turned.
-/
namespace Go.Proofs.YtfdkklhigliciaaGreatDoor
open Go.RowKit Go.Extern.Stop Go.Stop Go.Extern Num Go.Lib Go.Shelf

/-- What the closure that is handed to codeOf answers. -/
def AnsEx1 (B m s : Nat) (r : Int × List Cor) (w : World) (e : Ending) (w' : World) : Prop :=
  (r.1 = 0 ∧ e = .returned (.tuple #[]) ∧ ∃ y P ao c, w' = y.setCell ⟨s, 0, none⟩ (.slice ao P.length c) ∧ CV y B (.slice ao P.length c) P ∧ apartCr P ∧ P.map Prod.fst = r.2 ∧ Kx B m w y) ∨ (r.1 ≠ 0 ∧ e = .panicked (pan r.1) ∧ Kx B m w w')
theorem Kx.cellx {B m : Nat} {w w' : World} (h : Kx B m w w') {s : Nat} {cs : Array Value} {T : TypeId} (hs : s ≠ m) (hB : s < B) (ho : w.heap[s]? = some (.cells cs T (0, 0))) : w'.heap[s]? = some (.cells cs T (0, 0)) ∧ (∀ o, w'.frozen? ⟨s, o, none⟩ = w.frozen? ⟨s, o, none⟩) := by
  have h1 := h.blk s _ hs ho (fun h => absurd h (by omega))
  exact ⟨h1, fun o => World.frozen?_of_block (a := ⟨s, o, none⟩) (by show w'.heap[s]? = w.heap[s]?; rw [h1, ho])⟩
set_option maxHeartbeats 1000000 in
theorem ex1_any (l : List Dat) (hF : Fine l) (hz : ∀ (k : Nat) (h : k < l.length), l[k].name.size ≤ 1048576) (w : World) (B m tb s : Nat) (h : XS w B m tb l []) (hs : s ≠ m) (hB : s < B) (ho : w.heap[s]? = some (.cells #[.slice none 0 0] 24 (0, 0))) (hfz : w.frozen? ⟨s, 0, none⟩ = false) :
    Calls Tryz.prog 23 #[.pointer (some ⟨m, 0, none⟩), .pointer (some ⟨s, 0, none⟩)] w fun e w' => AnsEx1 B m s (wholeF l) w e w' := by
  have HW : Hid (Calls Tryz.prog 24 #[.pointer (some ⟨m, 0, none⟩)] w fun e w' => AnsW B m (wholeF l) w e w') := whole_any l hF hz w B m tb h
  have HO : Hid (∀ u, Kx B m w u → u.cell? ⟨s, 0, none⟩ = some (.slice none 0 0) ∧ u.frozen? ⟨s, 0, none⟩ = false) := fun u hu => by
    obtain ⟨k1, k2⟩ := hu.cellx hs hB ho
    exact ⟨by rw [cell_of_heap k1]; rfl, by rw [k2]; exact hfz⟩
  generalize wholeF l = r at HW ⊢
  clear h hs hB ho hfz
  by_cases hr : r.1 = 0
  · have HY : Hid (Calls Tryz.prog 24 #[.pointer (some ⟨m, 0, none⟩)] w fun e w' => (∃ P ao c, e = .returned (.slice ao P.length c) ∧ CV w' B (.slice ao P.length c) P ∧ apartCr P ∧ P.map Prod.fst = r.2) ∧ Kx B m w w') := HW.out.mono fun e w' h => by
      obtain ⟨⟨_, h1⟩ | ⟨h1, _⟩, h3⟩ := h
      · exact ⟨h1, h3⟩
      · exact absurd hr h1
    have HZ : Hid (r.1 = 0) := hr
    clear HW hr
    go_enter Tryz.func23, Tryz.ntmps23
    go_wp2_with fail
    refine HY.out.mono ?_
    rintro e y ⟨⟨P, ao, c, rfl, hcv, hap, hP⟩, hk⟩
    obtain ⟨k1, k2⟩ := HO.out y hk
    have HE : Hid (CV y B (.slice ao P.length c) P ∧ apartCr P ∧ P.map Prod.fst = r.2 ∧ Kx B m w y) := ⟨hcv, hap, hP, hk⟩
    clear hcv hap hP hk
    go_wp2
    go_end0
    exact .inl ⟨HZ.out, rfl, y, P, ao, c, rfl, HE.out⟩
  · have HY : Hid (Calls Tryz.prog 24 #[.pointer (some ⟨m, 0, none⟩)] w fun e w' => e = .panicked (pan r.1) ∧ Kx B m w w') := HW.out.mono fun e w' h => by
      obtain ⟨⟨h0, _⟩ | ⟨_, h1⟩, h3⟩ := h
      · exact absurd h0 hr
      · exact ⟨h1, h3⟩
    have HZ : Hid (r.1 ≠ 0) := hr
    clear HW hr
    go_enter Tryz.func23, Tryz.ntmps23
    go_wp2_with fail
    refine HY.out.mono ?_
    rintro e y ⟨rfl, hk⟩
    exact ⟨rfl, .inr ⟨HZ.out, rfl, hk⟩⟩
theorem expD_whole {l : List Dat} (h : dataFault l = 0) : expD l = wholeF l := by
  unfold expD wholeF
  rw [if_neg (fun e => e h)]
theorem wholeF_nil {l : List Dat} (h : (wholeF l).1 ≠ 0) : (wholeF l).2 = [] := by
  unfold wholeF at h ⊢
  split
  · rfl
  · rename_i h1
    rw [if_neg h1] at h
    split
    · rfl
    · rename_i h2
      rw [if_neg h2] at h
      exact absurd rfl h
/-- What ExpandData answers. -/
def AnsED (l : List Dat) (w : World) (e : Ending) (w' : World) : Prop :=
  ∃ v P, e = .returned (.agg #[.int .i64 (expD l).1, v]) ∧ CV w' w.heap.size v P ∧ apartCr P ∧ P.map Prod.fst = (expD l).2 ∧ Below w.heap.size w w'
theorem CV.nil (w : World) (B : Nat) : CV w B (.slice none 0 0) [] := ⟨World.ownsRow_nil _ _ _ _, fun i h => absurd h (by simp)⟩
theorem apartCr_nil : apartCr [] := fun i j hi => absurd hi (by simp)
theorem CV.low {w : World} {B : Nat} {v : Value} {P : List (Cor × Value)} (h : CV w B v P) {b o : Nat} (hb : b < B) (x : Value) : CV (w.setCell ⟨b, o, none⟩ x) B v P := ⟨own_set_low h.row hb _, fun i hi => own_set_low (h.data i hi) hb _⟩
set_option maxRecDepth 100000 in
set_option maxHeartbeats 2000000 in
theorem implEx_any (ao : Option Addr) (cap base : Nat) (l : List Dat) (w : World) (h : w.ownsRow base 49 4 (.slice ao l.length cap) l.length (cellsD l)) (hz : ∀ (k : Nat) (h : k < l.length), l[k].name.size ≤ 1048576) (hL : LT w) :
    Calls Tryz.prog 8 #[.slice ao l.length cap] w fun e w' => AnsED l w e w' := by
  have HT : Hid (∀ o : Obj, Calls Tryz.prog 21 #[.slice ao l.length cap] (w.alloc o) fun e w' => AnsTr l (w.alloc o) e w') := fun o => treeOf_any ao cap base l _ (h.alloc o) hz (hL.alloc o)
  by_cases hd : dataFault l = 0
  · have HT2 : Hid (∀ o : Obj, Calls Tryz.prog 21 #[.slice ao l.length cap] (w.alloc o) fun e w' => e = .returned (.tuple #[.pointer (some ⟨w.heap.size + 1, 0, none⟩), .int .i64 0]) ∧ OwnT (w.heap.size + 1) (w.heap.size + 1) (nodes l) w' ∧ Below (w.heap.size + 1) (w.alloc o) w') := fun o => (HT.out o).mono fun e w' h => by
      rcases h with h | ⟨_, h1, h2, h3⟩
      · exact absurd hd h.1
      · rw [World.size_alloc] at h1 h2 h3; exact ⟨h1, h2, h3⟩
    have HEx : Hid (expD l = wholeF l) := expD_whole hd
    have HFi : Hid (Fine l) := fine_of hd
    have HZs : Hid (∀ (k : Nat) (h : k < l.length), l[k].name.size ≤ 1048576) := hz
    have hcf : ∀ args w, (callFunc 23 args).run Tryz.prog w = .ok (.enter 23 args) w := enters_of Tryz.func23 (by kernel_rfl) rfl
    clear HT h hz hL hd
    go_enter Tryz.func8, Tryz.ntmps8
    go_wp2_with fail
    refine (HT2.out _).mono ?_
    rintro e w1 ⟨rfl, ho, hb⟩
    obtain ⟨hc1, hf1⟩ := bcell (W := w.alloc (.cells #[.int .i64 0, .slice none 0 0] 26)) (by rw [World.size_alloc]; exact hb)
    have hs1 : w.heap.size + 1 < w1.heap.size := by
      obtain ⟨_, _, v, hv⟩ := ho
      exact hv.lt
    have d0 : w1.cell? ⟨w.heap.size, 0, none⟩ = some (.int .i64 0) := by rw [hc1 _ _ (by simp)]; simp
    have d1 : w1.cell? ⟨w.heap.size, 1, none⟩ = some (.slice none 0 0) := by rw [hc1 _ _ (by simp)]; simp
    have df : ∀ o, w1.frozen? ⟨w.heap.size, o, none⟩ = false := fun o => by rw [hf1 _ _ (by simp)]; simp [go_sem]
    have HBx : Hid (w1.cell? ⟨w.heap.size, 0, none⟩ = some (.int .i64 0) ∧ w1.cell? ⟨w.heap.size, 1, none⟩ = some (.slice none 0 0) ∧ ∀ o, w1.frozen? ⟨w.heap.size, o, none⟩ = false) := ⟨d0, d1, df⟩
    have HB1 : Hid (Below w.heap.size w w1) := ((Below.refl _ w).alloc (Nat.le_refl _) _).trans (hb.mono (by omega))
    have HTr : Hid (IsTree w1.heap.size w1 (w.heap.size + 1) (nodes l)) := ho.tree
    clear hc1 hf1 ho hb d0 d1 df HT2
    obtain ⟨W, hW⟩ : ∃ W, W = (w1.alloc (.cells #[.pointer (some ⟨w.heap.size + 1, 0, none⟩), .slice none 0 0] 58)).alloc (.cells #[.slice none 0 0] 24) := ⟨_, rfl⟩
    have hWs : W.heap.size = w1.heap.size + 2 := by rw [hW]; simp
    obtain ⟨U, hU⟩ : ∃ U, U = W.alloc (.cells #[.int .i64 0] 2) := ⟨_, rfl⟩
    have hUs : U.heap.size = w1.heap.size + 3 := by rw [hU]; simp [hWs]
    have hbW : Below w1.heap.size w1 W := by rw [hW]; exact ((Below.refl _ _).alloc (Nat.le_refl _) _).alloc (by simp) _
    have hbU : Below w1.heap.size w1 U := by rw [hU]; exact hbW.alloc (by omega) _
    have u0 : U.heap[w1.heap.size]? = some (.cells #[.pointer (some ⟨w.heap.size + 1, 0, none⟩), .slice none 0 0] 58 (0, 0)) := by
      rw [hU, Below.heap_alloc W _ _ (by omega), hW, Below.heap_alloc _ _ _ (by simp)]
      exact heap_new' _ _ _ rfl
    have u1 : U.heap[w1.heap.size + 1]? = some (.cells #[.slice none 0 0] 24 (0, 0)) := by
      rw [hU, Below.heap_alloc W _ _ (by omega), hW]
      exact heap_new' _ _ _ (by simp)
    have u2 : U.heap[w1.heap.size + 2]? = some (.cells #[.int .i64 0] 2 (0, 0)) := by
      rw [hU]
      exact heap_new' _ _ _ (by omega)
    have uf1 : ∀ o, U.frozen? ⟨w1.heap.size, o, none⟩ = false := fun o => by
      rw [hU, hW]; simp [go_sem]
    have uf2 : U.frozen? ⟨w1.heap.size + 1, 0, none⟩ = false := by
      rw [hU, hW]; simp [go_sem]
    have uf3 : U.frozen? ⟨w1.heap.size + 2, 0, none⟩ = false := by
      rw [hU, hW]; simp [go_sem]
    have hXS : XS U (w1.heap.size + 3) w1.heap.size (w.heap.size + 1) l [] :=
      ⟨[], ⟨by omega, by omega, by rw [cell_of_heap u0]; rfl, HTr.out.below hbU, ⟨.slice none 0 0, by rw [cell_of_heap u0]; rfl, World.ownsRow_nil _ _ _ _, fun g hg => by cases hg⟩, uf1, (fun x hx => by cases hx), (fun i j hi => absurd hi (by simp))⟩, rfl⟩
    have HC1 : Hid (Calls Tryz.prog 23 #[.pointer (some ⟨w1.heap.size, 0, none⟩), .pointer (some ⟨w1.heap.size + 1, 0, none⟩)] U fun e w' => AnsEx1 (w1.heap.size + 3) w1.heap.size (w1.heap.size + 1) (wholeF l) U e w') := ex1_any l HFi.out HZs.out U _ _ _ _ hXS (by omega) (by omega) u1 uf2
    have HU2 : Hid (∀ u, Kx (w1.heap.size + 3) w1.heap.size U u → u.cell? ⟨w1.heap.size + 2, 0, none⟩ = some (.int .i64 0) ∧ u.frozen? ⟨w1.heap.size + 2, 0, none⟩ = false) := fun u hu => by
      obtain ⟨k1, k2⟩ := hu.cellx (by omega) (by omega) u2
      exact ⟨by rw [cell_of_heap k1]; rfl, by rw [k2]; exact uf3⟩
    have HU1 : Hid (∀ u, Kx (w1.heap.size + 3) w1.heap.size U u → u.cell? ⟨w1.heap.size + 1, 0, none⟩ = some (.slice none 0 0) ∧ u.frozen? ⟨w1.heap.size + 1, 0, none⟩ = false) := fun u hu => by
      obtain ⟨k1, k2⟩ := hu.cellx (by omega) (by omega) u1
      exact ⟨by rw [cell_of_heap k1]; rfl, by rw [k2]; exact uf2⟩
    have HBU : Hid (Below w1.heap.size w1 U) := hbU
    have HWs : Hid (W.heap.size = w1.heap.size + 2) := hWs
    have HW : Hid (W = (w1.alloc (.cells #[.pointer (some ⟨w.heap.size + 1, 0, none⟩), .slice none 0 0] 58)).alloc (.cells #[.slice none 0 0] 24)) := hW
    have HUe : Hid (U = W.alloc (.cells #[.int .i64 0] 2)) := hU
    clear hXS u0 u1 u2 uf1 uf2 uf3 hbW hbU HTr hW hU hWs hUs HFi HZs
    by_cases hr : (wholeF l).1 = 0
    · have HC : Hid (Calls Tryz.prog 22 #[.func (.func 23) #[] #[.pointer (some ⟨w1.heap.size, 0, none⟩), .pointer (some ⟨w1.heap.size + 1, 0, none⟩)]] W fun e w' => ∃ u, e = .returned (.int .i64 0) ∧ (∃ y P ap c, u = y.setCell ⟨w1.heap.size + 1, 0, none⟩ (.slice ap P.length c) ∧ CV y (w1.heap.size + 3) (.slice ap P.length c) P ∧ apartCr P ∧ P.map Prod.fst = (wholeF l).2 ∧ Kx (w1.heap.size + 3) w1.heap.size U y) ∧ w' = u.setCell ⟨W.heap.size, 0, none⟩ (.int .i64 0)) :=
        codeOf_ret _ _ W _ hcf (by
          rw [← show U = _ from HUe.out]
          refine HC1.out.mono ?_
          rintro e w' (⟨-, he, y, P, ap, c, hy, h1, h2, h3, h4⟩ | ⟨h0, _⟩)
          · obtain ⟨k1, k2⟩ := HU2.out y h4
            rw [HWs.out]
            refine ⟨he, ⟨?_, ?_⟩, y, P, ap, c, hy, h1, h2, h3, h4⟩
            · rw [hy, World.cell?_setCell_far _ _ _ _ (by show w1.heap.size + 1 ≠ w1.heap.size + 2; omega)]; exact k1
            · rw [hy, World.frozen?_setCell]; exact k2
          · exact absurd hr h0)
      have HR0 : Hid ((expD l).1 = 0 ∧ (expD l).2 = (wholeF l).2) := ⟨by rw [HEx.out]; exact hr, by rw [HEx.out]⟩
      clear HC1 HU2 hr
      go_wp2_with fail
      rw [← show W = _ from HW.out]
      refine HC.out.mono ?_
      rintro e w2 ⟨u, rfl, ⟨y, P, ap, c, rfl, hcv, hap, hPm, hk⟩, rfl⟩
      rw [HWs.out]
      obtain ⟨Y, hY⟩ : ∃ Y, Y = (y.setCell ⟨w1.heap.size + 1, 0, none⟩ (.slice ap P.length c)).setCell ⟨w1.heap.size + 2, 0, none⟩ (.int .i64 0) := ⟨_, rfl⟩
      have hlow : Below w1.heap.size w1 y := HBU.out.trans hk.low
      obtain ⟨q0, q1, qf⟩ := HBx.out
      have y1 : Y.cell? ⟨w1.heap.size + 1, 0, none⟩ = some (.slice ap P.length c) := by
        rw [hY, World.cell?_setCell_far _ _ _ _ (by show w1.heap.size + 2 ≠ w1.heap.size + 1; omega)]
        exact World.cell?_setCell_same' _ _ _ (by rw [(HU1.out y hk).1]; rfl)
      have bY : ∀ o, Y.cell? ⟨w.heap.size, o, none⟩ = w1.cell? ⟨w.heap.size, o, none⟩ := fun o => by
        rw [hY, World.cell?_setCell_far _ _ _ _ (by show w1.heap.size + 2 ≠ w.heap.size; omega), World.cell?_setCell_far _ _ _ _ (by show w1.heap.size + 1 ≠ w.heap.size; omega)]
        exact hlow.cell (p := ⟨w.heap.size, o, none⟩) (by show w.heap.size < w1.heap.size; omega)
      have b0 : Y.cell? ⟨w.heap.size, 0, none⟩ = some (.int .i64 0) := (bY 0).trans q0
      have b1 : Y.cell? ⟨w.heap.size, 1, none⟩ = some (.slice none 0 0) := (bY 1).trans q1
      have bf : ∀ o, Y.frozen? ⟨w.heap.size, o, none⟩ = false := fun o => by
        rw [hY, World.frozen?_setCell, World.frozen?_setCell, (bcell hlow).2 _ _ (by omega)]
        exact qf o
      have HCV : Hid (CV Y (w1.heap.size + 3) (.slice ap P.length c) P) := by
        rw [hY]
        exact (hcv.low (by omega) _).low (by omega) _
      have HBY : Hid (Below w.heap.size w Y) := by
        rw [hY]
        exact Below.setCell (Below.setCell (HB1.out.trans (hlow.mono (by omega))) (by show w.heap.size ≤ w1.heap.size + 1; omega) _) (by show w.heap.size ≤ w1.heap.size + 2; omega) _
      have HPm : Hid (P.map Prod.fst = (wholeF l).2 ∧ apartCr P) := ⟨hPm, hap⟩
      rw [← hY]
      clear hY bY q0 q1 qf hlow hcv hap hPm hk HC HU1 HBU HW HUe
      go_wp2
      have e0 : ((Y.setCell ⟨w.heap.size, 0, none⟩ (.int .i64 0)).setCell ⟨w.heap.size, 1, none⟩ (.slice ap P.length c)).cell? ⟨w.heap.size, 0, none⟩ = some (.int .i64 0) := by
        rw [World.cell?_setCell_other _ _ _ _ (by intro e; injection e with _ e2 _; exact absurd e2 (by decide))]
        refine World.cell?_setCell_same' _ _ _ ?_
        rw [b0]
        rfl
      have e1 : ((Y.setCell ⟨w.heap.size, 0, none⟩ (.int .i64 0)).setCell ⟨w.heap.size, 1, none⟩ (.slice ap P.length c)).cell? ⟨w.heap.size, 1, none⟩ = some (.slice ap P.length c) := by
        refine World.cell?_setCell_same' _ _ _ ?_
        rw [World.cell?_setCell_other _ _ _ _ (by intro e; injection e with _ e2 _; exact absurd e2 (by decide)), b1]
        rfl
      refine bodyPost_ret (v := .agg #[.int .i64 0, .slice ap P.length c]) (by simp [results, Tryz.results8, go_sem, e0, e1]) rfl ⟨.slice ap P.length c, P, by rw [HR0.out.1], ?_, HPm.out.2, by rw [HR0.out.2]; exact HPm.out.1, ?_⟩
      · exact ((HCV.out.low (by omega) _).low (by omega) _).base (by omega)
      · exact Below.setCell (Below.setCell HBY.out (Nat.le_refl _) _) (Nat.le_refl _) _
    · obtain ⟨cc, Hcc⟩ : ∃ cc, Hid (cc = (wholeF l).1) := ⟨_, rfl⟩
      have HC : Hid (Calls Tryz.prog 22 #[.func (.func 23) #[] #[.pointer (some ⟨w1.heap.size, 0, none⟩), .pointer (some ⟨w1.heap.size + 1, 0, none⟩)]] W fun e w' => ∃ u, e = .returned (.int .i64 cc) ∧ Kx (w1.heap.size + 3) w1.heap.size U u ∧ w' = u.setCell ⟨W.heap.size, 0, none⟩ (.int .i64 cc)) :=
        codeOf_pan _ _ cc W _ hcf (by
          rw [← show U = _ from HUe.out]
          refine HC1.out.mono ?_
          rintro e w' (⟨h0, _⟩ | ⟨-, he, h4⟩)
          · exact absurd h0 hr
          · obtain ⟨k1, k2⟩ := HU2.out w' h4
            rw [HWs.out]
            exact ⟨by rw [he, show cc = _ from Hcc.out], ⟨k1, k2⟩, h4⟩)
      have HR0 : Hid ((expD l).1 = cc ∧ (expD l).2 = []) := ⟨by rw [HEx.out, ← show cc = _ from Hcc.out], by rw [HEx.out]; exact wholeF_nil hr⟩
      clear HC1 HU2 hr Hcc
      go_wp2_with fail
      rw [← show W = _ from HW.out]
      refine HC.out.mono ?_
      rintro e w2 ⟨y, rfl, hk, rfl⟩
      rw [HWs.out]
      obtain ⟨Y, hY⟩ : ∃ Y, Y = y.setCell ⟨w1.heap.size + 2, 0, none⟩ (.int .i64 cc) := ⟨_, rfl⟩
      have hlow : Below w1.heap.size w1 y := HBU.out.trans hk.low
      obtain ⟨q0, q1, qf⟩ := HBx.out
      have y1 : Y.cell? ⟨w1.heap.size + 1, 0, none⟩ = some (.slice none 0 0) := by
        rw [hY, World.cell?_setCell_far _ _ _ _ (by show w1.heap.size + 2 ≠ w1.heap.size + 1; omega)]
        exact (HU1.out y hk).1
      have bY : ∀ o, Y.cell? ⟨w.heap.size, o, none⟩ = w1.cell? ⟨w.heap.size, o, none⟩ := fun o => by
        rw [hY, World.cell?_setCell_far _ _ _ _ (by show w1.heap.size + 2 ≠ w.heap.size; omega)]
        exact hlow.cell (p := ⟨w.heap.size, o, none⟩) (by show w.heap.size < w1.heap.size; omega)
      have b0 : Y.cell? ⟨w.heap.size, 0, none⟩ = some (.int .i64 0) := (bY 0).trans q0
      have b1 : Y.cell? ⟨w.heap.size, 1, none⟩ = some (.slice none 0 0) := (bY 1).trans q1
      have bf : ∀ o, Y.frozen? ⟨w.heap.size, o, none⟩ = false := fun o => by
        rw [hY, World.frozen?_setCell, (bcell hlow).2 _ _ (by omega)]
        exact qf o
      have HBY : Hid (Below w.heap.size w Y) := by
        rw [hY]
        exact Below.setCell (HB1.out.trans (hlow.mono (by omega))) (by show w.heap.size ≤ w1.heap.size + 2; omega) _
      rw [← hY]
      clear hY bY q0 q1 qf hlow hk HC HU1 HBU HW HUe
      go_wp2
      have e0 : ((Y.setCell ⟨w.heap.size, 0, none⟩ (.int .i64 cc)).setCell ⟨w.heap.size, 1, none⟩ (.slice none 0 0)).cell? ⟨w.heap.size, 0, none⟩ = some (.int .i64 cc) := by
        rw [World.cell?_setCell_other _ _ _ _ (by intro e; injection e with _ e2 _; exact absurd e2 (by decide))]
        refine World.cell?_setCell_same' _ _ _ ?_
        rw [b0]
        rfl
      have e1 : ((Y.setCell ⟨w.heap.size, 0, none⟩ (.int .i64 cc)).setCell ⟨w.heap.size, 1, none⟩ (.slice none 0 0)).cell? ⟨w.heap.size, 1, none⟩ = some (.slice none 0 0) := by
        refine World.cell?_setCell_same' _ _ _ ?_
        rw [World.cell?_setCell_other _ _ _ _ (by intro e; injection e with _ e2 _; exact absurd e2 (by decide)), b1]
        rfl
      refine bodyPost_ret (v := .agg #[.int .i64 cc, .slice none 0 0]) (by simp [results, Tryz.results8, go_sem, e0, e1]) rfl ⟨.slice none 0 0, [], by rw [HR0.out.1], CV.nil _ _, apartCr_nil, by rw [HR0.out.2]; rfl, ?_⟩
      exact Below.setCell (Below.setCell HBY.out (Nat.le_refl _) _) (Nat.le_refl _) _
  · have HT2 : Hid (∀ o : Obj, Calls Tryz.prog 21 #[.slice ao l.length cap] (w.alloc o) fun e w' => e = .returned (.tuple #[.pointer none, .int .i64 (dataFault l)]) ∧ Below (w.heap.size + 1) (w.alloc o) w') := fun o => (HT.out o).mono fun e w' h => by
      rcases h with ⟨_, h1, h2⟩ | h
      · rw [World.size_alloc] at h2; exact ⟨h1, h2⟩
      · exact absurd h.1 hd
    have HR0 : Hid ((expD l).1 = dataFault l ∧ (expD l).2 = []) := by
      show _ ∧ _
      unfold expD
      rw [if_pos hd]
      exact ⟨rfl, rfl⟩
    have hne : (dataFault l != 0) = true := by simpa using hd
    generalize dataFault l = k at HT2 HR0 hne
    clear HT h hz hL hd
    go_enter Tryz.func8, Tryz.ntmps8
    go_wp2_with fail
    refine (HT2.out _).mono ?_
    rintro e w1 ⟨rfl, hb⟩
    obtain ⟨hc1, hf1⟩ := bcell (W := w.alloc (.cells #[.int .i64 0, .slice none 0 0] 26)) (by rw [World.size_alloc]; exact hb)
    have HB1 : Hid (Below w.heap.size w w1) := ((Below.refl _ w).alloc (Nat.le_refl _) _).trans (hb.mono (by omega))
    clear hb
    go_wp2
    refine bodyPost_ret (v := .agg #[.int .i64 k, .slice none 0 0]) (by simp [results, Tryz.results8, go_sem, hc1]) rfl ⟨.slice none 0 0, [], by rw [HR0.out.1], CV.nil _ _, apartCr_nil, by rw [HR0.out.2]; rfl, ?_⟩
    exact Below.setCell (Below.setCell HB1.out (Nat.le_refl _) _) (Nat.le_refl _) _
end Go.Proofs.YtfdkklhigliciaaGreatDoor
