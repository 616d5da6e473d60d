/-
  NewGlobals: a global for each primitive: program and model answer alike, in memory of their own; nothing that was there is turned.
-/
import Derived.Test.YtlamkbggfbancaaGreatDoorPrimText
import Derived.Test.YtlamkbggfbancaaGreatDoorStGlobal
import Derived.Test.YtlamkbggfbancaaGreatDoorFldKit
namespace Go.Proofs.YtlamkbggfbancaaGreatDoor
open Go.RowKit Go.Extern.Stop Go.Stop Go.Extern Num Go.Lib

/-- The global of a primitive. -/
def newG (p : Int) (k : Nat) : Glb := ⟨nameP k, ⟨8, (k : Int), ⟨#[]⟩⟩, p⟩
def newL (p : Int) : Nat → List Glb
  | 0 => []
  | n + 1 => newL p n ++ [newG p n]
theorem newL_len (p : Int) (n : Nat) : (newL p n).length = n := by
  induction n with
  | zero => rfl
  | succ n ih => simp [newL, ih]
def codeNG (p : Int) : Int := if 1 ≤ p ∧ p ≤ 99999 then 0 else 3
def listNG (p : Int) : List Glb := if 1 ≤ p ∧ p ≤ 99999 then newL p 16 else []
theorem listNG_len (p : Int) : (listNG p).length ≤ 16 := by unfold listNG; split <;> simp [newL_len]
/-- An answer of a code and globals in a row of its own. -/
def AnsG (w : World) (c : Int) (m : List Glb) (e : Ending) (w' : World) : Prop :=
  ∃ ao cp, e = .returned (.agg #[.int .i64 c, .slice ao m.length cp]) ∧ w'.ownsRow w.heap.size 35 5 (.slice ao m.length cp) m.length (cellsG m) ∧ Below w.heap.size w w'
theorem none_rowG (w : World) (B : Nat) : w.ownsRow B 35 5 (.slice none ([] : List Glb).length 0) ([] : List Glb).length (cellsG []) := ⟨by simp [cellsG], .inl ⟨rfl, rfl⟩⟩
theorem own_other {w : World} {base n b o : Nat} {v x : Value} {xs : List Value} (h : w.ownsRow base 35 5 v n xs) (hne : ∀ g, v.ownBlock = some g → g = b → False) : (w.setCell ⟨b, o, none⟩ x).ownsRow base 35 5 v n xs :=
  own_set' h (fun g hg e => hne g hg e) x
theorem l7Ver2_any (p : Int) (w : World) : Calls Tryz.prog 15 #[.int .i64 p] w fun e w' => e = .returned (.bool (decide (1 ≤ p) && decide (p ≤ 99999))) ∧ w' = w := by
  go_enter Tryz.func15, Tryz.ntmps15
  go_wp2_with (go_at_call 39; refine (l1In_any _ _ _ _).mono ?_; rintro e w' ⟨rfl, rfl⟩)
  go_ret
  exact ⟨rfl, rfl⟩
theorem isVer2_any (p : Int) (w : World) : Calls Tryz.prog 13 #[.int .i64 p] w fun e w' => e = .returned (.bool (decide (1 ≤ p) && decide (p ≤ 99999))) ∧ w' = w := by
  by_cases h1 : 1 ≤ p
  · go_enter Tryz.func13, Tryz.ntmps13
    go_wp2
    go_ret
    exact ⟨by simp [h1], rfl⟩
  · go_enter Tryz.func13, Tryz.ntmps13
    go_wp2
    go_ret
    exact ⟨by simp; omega, rfl⟩
set_option maxRecDepth 100000 in
set_option maxHeartbeats 4000000 in
theorem l7New_any (p : Int) (w : World) :
    Calls Tryz.prog 16 #[.int .i64 p] w fun e w' => ∃ ao cp, e = .returned (.slice ao 16 cp) ∧ w'.ownsRow w.heap.size 35 5 (.slice ao 16 cp) 16 (cellsG (newL p 16)) ∧ Below w.heap.size w w' := by
  obtain ⟨i0, hi, hz0, hz1, hz2⟩ := info_parts infoG
  go_enter Tryz.func16, Tryz.ntmps16
  go_wp2_with fail
  refine (names_any _).mono ?_
  rintro e w1 ⟨rfl, hw1⟩
  have HCE : Hid (∀ k, k < 16 → w1.cell? ⟨w.heap.size + 1, k, none⟩ = some (.string (nameP k))) := fun k hk => by
    have h0 := names_cell (w.alloc (.cells #[] 35)) k hk
    rw [← hw1] at h0
    rwa [show (w.alloc (.cells #[] 35)).heap.size = w.heap.size + 1 by simp] at h0
  have HB1 : Hid (Below w.heap.size w w1) := by rw [hw1]; exact ((Below.refl _ _).alloc (Nat.le_refl _) _).alloc (by simp) _
  have HO1 : Hid (w1.ownsRow w.heap.size 35 5 (.slice (some ⟨w.heap.size, 0, none⟩) 0 0) 0 (cellsG (newL p 0))) := by
    rw [hw1]
    refine World.ownsRow.alloc ?_ _
    exact ⟨by simp [newL, cellsG], .inr ⟨w.heap.size, 0, _, rfl, Nat.le_refl _, heap_alloc_new w _, Nat.le_refl _, by unfold maxLen; omega, by simp, by simp [newL, cellsG]⟩⟩
  have z1 : w.heap.size + 1 < w1.heap.size := by rw [hw1]; simp
  clear hw1
  go_wp2_with fail
  go_loopw [3, 5] (fun v i wr => ∃ (k : Nat) (ao : Option Addr) (cp : Nat), k ≤ 16 ∧ i = .int .i64 (k : Int) ∧ v = .slice ao k cp ∧ Hid (wr.ownsRow w.heap.size 35 5 (.slice ao k cp) k (cellsG (newL p k))) ∧ Hid (∀ j, j < 16 → wr.cell? ⟨w.heap.size + 1, j, none⟩ = some (.string (nameP j))) ∧ Hid (Below w.heap.size w wr ∧ ((Value.slice ao k cp).ownBlock ≠ some (w.heap.size + 1)))) (fun _ i _ => 16 - (RowKit.intOf i).toNat)
  case atStart => exact ⟨0, some ⟨w.heap.size, 0, none⟩, 0, Nat.zero_le _, rfl, rfl, HO1.out, HCE.out, HB1.out, by simp [Value.ownBlock]⟩
  case round =>
    clear HO1 HCE HB1
    obtain ⟨k, ao, cp, hk, rfl, rfl, HO, HCE, HB⟩ := hrel
    by_cases hlt : k < 16
    · have c0 := HCE.out k hlt
      obtain ⟨s, hs⟩ : ∃ s, s = nameP k := ⟨_, rfl⟩
      rw [← hs] at c0
      have HN : Hid (cellsG (newL p (k + 1)) = cellsG (newL p k) ++ [.string s, .int .i64 8, .int .i64 (k : Int), .string ⟨#[]⟩, .int .i64 p]) := by
        show _ = _
        rw [newL, cellsG_append, hs]; rfl
      have zw := HB.out.1.size
      have zc : w.heap.size + 1 < wr.heap.size := lt_of_cell c0
      clear hs
      go_wp2_with (at_builtin; refine wpList_append_lies _ rfl (.tmp 14) (.tmp 23) 25 rfl w.heap.size 35 i0 _ 5 56 Tryz.underlying25 hi hz0 hz1 hz2 rfl (by decide) _ k (cellsG (newL p k)) rfl (HO.out.alloc _) ⟨_, 0, none⟩ 1 1 [.string s, .int .i64 8, .int .i64 (k : Int), .string ⟨#[]⟩, .int .i64 p] rfl rfl ?c1 ?c2 (by decide) ?c3 ?c4 ?c5 _ rfl ?_)
      case c1 => exact World.news_of_block (cs := #[.string s, .int .i64 8, .int .i64 (k : Int), .string ⟨#[]⟩, .int .i64 p]) (t := 35) (fr := (0, 0)) (heap_new' _ _ _ (by simp))
      case c2 => intro u hu; simp at hu; rcases hu with rfl | rfl | rfl | rfl | rfl <;> rfl
      case c3 => unfold maxLen; omega
      case c4 => omega
      case c5 => simp; omega
      intro g' cap' w4 hown4 hgrow4 hat4 hlt4
      have HO4 : Hid (w4.ownsRow w.heap.size 35 5 (.slice (some ⟨g', 0, none⟩) (k + 1) cap') (k + 1) (cellsG (newL p (k + 1)))) := by
        show World.ownsRow _ _ _ _ _ _ _
        rw [HN.out]; exact hown4
      have HB4 : Hid (Below w.heap.size w w4) := Below.grown (HB.out.1.alloc zw _) hgrow4 (by simp; omega) (fun j hj => (HO.out.lt j hj).1)
      have HC4 : Hid (∀ j, j < 16 → w4.cell? ⟨w.heap.size + 1, j, none⟩ = some (.string (nameP j))) := fun j hj => hgrow4.cell (by rw [World.cell?_alloc_past _ _ _ zc]; exact HCE.out j hj) (Ne.symm HB.out.2)
      have HD4 : Hid (Below w.heap.size w w4 ∧ (Value.slice (some ⟨g', 0, none⟩) (k + 1) cap').ownBlock ≠ some (w.heap.size + 1)) := ⟨HB4.out, fun e => by
        simp [Value.ownBlock] at e
        rcases hat4 with h | h
        · exact HB.out.2 (h.trans (by rw [e]))
        · omega⟩
      clear hown4 hgrow4 hat4 HO HCE HB HB4 c0
      go_wp2
      exact ⟨⟨k + 1, some ⟨g', 0, none⟩, cap', by omega, by go_num, rfl, HO4.out, HC4.out, HD4.out⟩, by simp [RowKit.intOf]; omega⟩
    · have hk16 : k = 16 := by omega
      subst hk16
      go_wp2
      go_ret
      exact ⟨ao, cp, rfl, HO.out, HB.out.1⟩
theorem specNG_any (p : Int) (w : World) :
    Calls Tryz.prog 7 #[.int .i64 p] w fun e w' => AnsG w (codeNG p) (listNG p) e w' := by
  by_cases h : 1 ≤ p ∧ p ≤ 99999
  · have e1 : codeNG p = 0 := if_pos h
    have e2 : listNG p = newL p 16 := if_pos h
    rw [e1, e2]
    have HV : Hid (∀ w, Calls Tryz.prog 15 #[.int .i64 p] w fun e w' => e = .returned (.bool true) ∧ w' = w) := fun w => by
      refine (l7Ver2_any p w).mono ?_
      rintro e w' ⟨rfl, rfl⟩
      exact ⟨by simp [h], rfl⟩
    have HL : Hid ((newL p 16).length = 16) := newL_len p 16
    clear e1 e2 h
    go_enter Tryz.func7, Tryz.ntmps7
    go_wp2_with fail
    refine (HV.out _).mono ?_
    rintro e w1 ⟨rfl, rfl⟩
    go_wp2_with fail
    refine (l7New_any p _).mono ?_
    rintro e w2 ⟨ao, cp, rfl, ho, hb⟩
    have HO : Hid (w2.ownsRow w.heap.size 35 5 (.slice ao 16 cp) 16 (cellsG (newL p 16))) := own_base ho (by simp)
    have hne : ∀ g, (Value.slice ao 16 cp).ownBlock = some g → w.heap.size < g := fun g hg => by have := ho.lt g hg; simp at this; omega
    obtain ⟨hc, hf⟩ := bcell hb
    have z1 : w.heap.size < w2.heap.size := by have := hb.size; simp at this; omega
    have HB : Hid (Below w.heap.size w w2) := Below.trans ((Below.refl _ w).alloc (Nat.le_refl _) _) (hb.mono (by simp))
    have HNE : Hid (∀ g, (Value.slice ao 16 cp).ownBlock = some g → w.heap.size < g) := hne
    clear hb ho hne
    go_wp2
    refine bodyPost_ret (v := .agg #[.int .i64 0, .slice ao (newL p 16).length cp]) (by rw [HL.out]; simp [results, Tryz.results7, go_sem, hc]) rfl ⟨ao, cp, rfl, ?_, ?_⟩
    · rw [HL.out]
      repeat (first | exact HO.out | refine own_other ?_ (fun g hg e => by have := HNE.out g hg; omega))
    · repeat (first | refine Below.setCell ?_ (by simp <;> omega) _ | exact HB.out)
  · have e1 : codeNG p = 3 := if_neg h
    have e2 : listNG p = [] := if_neg h
    rw [e1, e2]
    have HV : Hid (∀ w, Calls Tryz.prog 15 #[.int .i64 p] w fun e w' => e = .returned (.bool false) ∧ w' = w) := fun w => by
      refine (l7Ver2_any p w).mono ?_
      rintro e w' ⟨rfl, rfl⟩
      refine ⟨?_, rfl⟩
      have : (decide (1 ≤ p) && decide (p ≤ 99999)) = false := by rw [Bool.and_eq_false_iff]; simp only [decide_eq_false_iff_not]; omega
      rw [this]
    clear e1 e2 h
    go_enter Tryz.func7, Tryz.ntmps7
    go_wp2_with fail
    refine (HV.out _).mono ?_
    rintro e w1 ⟨rfl, rfl⟩
    go_wp2
    refine bodyPost_ret (v := .agg #[.int .i64 3, .slice none 0 0]) (by simp [results, Tryz.results7, go_sem]) rfl ⟨_, _, rfl, none_rowG _ _, ?_⟩
    repeat (first | refine Below.setCell ?_ (by simp <;> omega) _ | refine Below.alloc ?_ (by simp <;> omega) _ | exact Below.refl _ _)
set_option maxRecDepth 100000 in
set_option maxHeartbeats 4000000 in
theorem implNG_any (p : Int) (w : World) :
    Calls Tryz.prog 6 #[.int .i64 p] w fun e w' => AnsG w (codeNG p) (listNG p) e w' := by
  by_cases h : 1 ≤ p ∧ p ≤ 99999
  · have e1 : codeNG p = 0 := if_pos h
    have e2 : listNG p = newL p 16 := if_pos h
    rw [e1, e2]
    have HV : Hid (∀ w, Calls Tryz.prog 13 #[.int .i64 p] w fun e w' => e = .returned (.bool true) ∧ w' = w) := fun w => by
      refine (isVer2_any p w).mono ?_
      rintro e w' ⟨rfl, rfl⟩
      exact ⟨by simp [h], rfl⟩
    have HL : Hid ((newL p 16).length = 16) := newL_len p 16
    obtain ⟨i0, hi, hz0, hz1, hz2⟩ := info_parts infoG
    clear e1 e2 h
    go_enter Tryz.func6, Tryz.ntmps6
    go_wp2_with fail
    refine (HV.out _).mono ?_
    rintro e w1 ⟨rfl, rfl⟩
    go_wp2_with fail
    refine (prims_any (w.heap.size + 1) _ (by simp)).mono ?_
    rintro e w1 ⟨gp, ws, rfl, hg, hws, hb⟩
    have HCE : Hid (∀ k, k < 16 → w1.cell? ⟨gp, k * 4, none⟩ = some (.string (nameP k)) ∧ w1.cell? ⟨gp, k * 4 + 1, none⟩ = some (.int .i64 (leastP k)) ∧ w1.cell? ⟨gp, k * 4 + 2, none⟩ = some (.int .i64 (mostP k)) ∧ w1.cell? ⟨gp, k * 4 + 3, none⟩ = some (ws.getD k .nilFunc)) := fun k hk => prims_cells hg hws k hk
    have HSH : Hid (∀ k, k < 16 → ws.getD k .nilFunc = .nilFunc ∨ ∃ f b, ws.getD k .nilFunc = .func f #[] b) := fun k hk => works_shape hws k hk
    have q0 : w1.cell? ⟨w.heap.size, 0, none⟩ = some (.int .i64 0) := cell_keep hb (by rw [World.cell?_alloc_at _ _ _ _ rfl]; rfl)
    have q1 : w1.cell? ⟨w.heap.size, 1, none⟩ = some (.slice none 0 0) := cell_keep hb (by rw [World.cell?_alloc_at _ _ _ _ rfl]; rfl)
    have qf : ∀ o, w1.frozen? ⟨w.heap.size, o, none⟩ = false := fun o => by rw [(bcell hb).2 _ _ (by simp), World.frozen?_alloc_at _ _ _ _ rfl]
    have HB1 : Hid (Below w.heap.size w w1) := Below.trans ((Below.refl _ w).alloc (Nat.le_refl _) _) (hb.mono (by simp))
    have z1 : w.heap.size < w1.heap.size := by have := hb.size; simp at this; omega
    have HQ : Hid (w1.cell? ⟨w.heap.size, 0, none⟩ = some (.int .i64 0) ∧ w1.cell? ⟨w.heap.size, 1, none⟩ = some (.slice none 0 0) ∧ ∀ o, w1.frozen? ⟨w.heap.size, o, none⟩ = false) := ⟨q0, q1, qf⟩
    clear hg hws hb q0 q1 qf
    go_wp2_with fail
    go_loopw [3, 12] (fun v i wr => ∃ (k : Nat) (ao : Option Addr) (cp : Nat), k ≤ 16 ∧ i = .int .i64 (k : Int) ∧ v = .slice ao k cp ∧ Hid (wr.ownsRow w1.heap.size 35 5 (.slice ao k cp) k (cellsG (newL p k))) ∧ Hid (Below w1.heap.size w1 wr)) (fun _ i _ => 16 - (RowKit.intOf i).toNat)
    case atStart => exact ⟨0, none, 0, Nat.zero_le _, rfl, rfl, ⟨by simp [newL, cellsG], .inl ⟨rfl, rfl⟩⟩, Below.refl _ _⟩
    case round =>
      obtain ⟨k, ao, cp, hk, rfl, rfl, HO, HB⟩ := hrel
      by_cases hlt : k < 16
      · obtain ⟨c0, c1, c2, c3⟩ := HCE.out k hlt
        replace c0 := cell_keep HB.out c0
        replace c1 := cell_keep HB.out c1
        replace c2 := cell_keep HB.out c2
        replace c3 := cell_keep HB.out c3
        have hsh := HSH.out k hlt
        obtain ⟨s, hs⟩ : ∃ s, s = nameP k := ⟨_, rfl⟩
        rw [← hs] at c0
        have HN : Hid (cellsG (newL p (k + 1)) = cellsG (newL p k) ++ [.string s, .int .i64 8, .int .i64 (k : Int), .string ⟨#[]⟩, .int .i64 p]) := by
          show _ = _
          rw [newL, cellsG_append, hs]; rfl
        have zw := HB.out.size
        clear hs
        generalize ws.getD k .nilFunc = v at c3 hsh
        generalize leastP k = m0 at c1
        generalize mostP k = m1 at c2
        rcases hsh with rfl | ⟨f, b, rfl⟩
        all_goals
          go_wp2_with (at_builtin; refine wpList_append_lies _ rfl (.tmp 17) (.tmp 24) 25 rfl w1.heap.size 35 i0 _ 5 56 Tryz.underlying25 hi hz0 hz1 hz2 rfl (by decide) _ k (cellsG (newL p k)) rfl ((HO.out.alloc _).alloc _) ⟨_, 0, none⟩ 1 1 [.string s, .int .i64 8, .int .i64 (k : Int), .string ⟨#[]⟩, .int .i64 p] rfl rfl ?c1 ?c2 (by decide) ?c3 ?c4 ?c5 _ rfl ?_)
          case c1 => exact World.news_of_block (cs := #[.string s, .int .i64 8, .int .i64 (k : Int), .string ⟨#[]⟩, .int .i64 p]) (t := 35) (fr := (0, 0)) (heap_new' _ _ _ (by simp))
          case c2 => intro u hu; simp at hu; rcases hu with rfl | rfl | rfl | rfl | rfl <;> rfl
          case c3 => unfold maxLen; omega
          case c4 => omega
          case c5 => simp; omega
          intro g' cap' w4 hown4 hgrow4 hat4 hlt4
          have HO4 : Hid (w4.ownsRow w1.heap.size 35 5 (.slice (some ⟨g', 0, none⟩) (k + 1) cap') (k + 1) (cellsG (newL p (k + 1)))) := by
            show World.ownsRow _ _ _ _ _ _ _
            rw [HN.out]; exact hown4
          have HB4 : Hid (Below w1.heap.size w1 w4) := Below.grown ((HB.out.alloc zw _).alloc (by simp; omega) _) hgrow4 (by simp; omega) (fun j hj => (HO.out.lt j hj).1)
          clear hown4 hgrow4 hat4 HO HB c0 c1 c2 c3
          go_wp2
          exact ⟨⟨k + 1, some ⟨g', 0, none⟩, cap', by omega, by go_num, rfl, HO4.out, HB4.out⟩, by simp [RowKit.intOf]; omega⟩
      · have hk16 : k = 16 := by omega
        subst hk16
        have q0 := cell_keep HB.out HQ.out.1
        have q1 := cell_keep HB.out HQ.out.2.1
        have qf : ∀ o, wr.frozen? ⟨w.heap.size, o, none⟩ = false := fun o => by rw [(bcell HB.out).2 _ _ z1]; exact HQ.out.2.2 o
        have HBw : Hid (Below w.heap.size w wr) := HB1.out.trans (HB.out.mono HB1.out.size)
        go_wp2
        refine bodyPost_ret (v := .agg #[.int .i64 0, .slice ao (newL p 16).length cp]) (by rw [HL.out]; simp [results, Tryz.results6, go_sem, q0, q1]) rfl ⟨ao, cp, rfl, ?_, ?_⟩
        · rw [HL.out]
          have HOb : Hid (wr.ownsRow w.heap.size 35 5 (.slice ao 16 cp) 16 (cellsG (newL p 16))) := own_base HO.out (by omega)
          repeat (first | exact HOb.out | refine own_other ?_ (fun g hg e => by have := (HO.out.lt g hg).1; omega))
        · repeat (first | refine Below.setCell ?_ (by simp <;> omega) _ | exact HBw.out)
  · have e1 : codeNG p = 3 := if_neg h
    have e2 : listNG p = [] := if_neg h
    rw [e1, e2]
    have HV : Hid (∀ w, Calls Tryz.prog 13 #[.int .i64 p] w fun e w' => e = .returned (.bool false) ∧ w' = w) := fun w => by
      refine (isVer2_any p w).mono ?_
      rintro e w' ⟨rfl, rfl⟩
      refine ⟨?_, rfl⟩
      have : (decide (1 ≤ p) && decide (p ≤ 99999)) = false := by rw [Bool.and_eq_false_iff]; simp only [decide_eq_false_iff_not]; omega
      rw [this]
    clear e1 e2 h
    go_enter Tryz.func6, Tryz.ntmps6
    go_wp2_with fail
    refine (HV.out _).mono ?_
    rintro e w1 ⟨rfl, rfl⟩
    go_wp2
    refine bodyPost_ret (v := .agg #[.int .i64 3, .slice none 0 0]) (by simp [results, Tryz.results6, go_sem]) rfl ⟨_, _, rfl, none_rowG _ _, ?_⟩
    repeat (first | refine Below.setCell ?_ (by simp <;> omega) _ | refine Below.alloc ?_ (by simp <;> omega) _ | exact Below.refl _ _)
end Go.Proofs.YtlamkbggfbancaaGreatDoor
