/-
  ArgsFor: how many arguments a primitive takes: program and model answer alike, in memory of their own; nothing that was there is turned.
-/
import Derived.Test.YtbfhoennafopaaaDoorPrimText
import Derived.Test.YtbfhoennafopaaaDoorResIntsResult
namespace Go.Proofs.YtbfhoennafopaaaDoor
open Go.RowKit Go.Extern.Stop Go.Stop Go.Extern Num Go.Lib

def listAF (p : Int) : List Int := if 0 ≤ p ∧ p < 16 then [leastP p.toNat, mostP p.toNat] else []
theorem listAF_len (p : Int) : (listAF p).length ≤ 2 := by unfold listAF; split <;> simp
/-- An answer of a code and integers in a row of its own. -/
def AnsI (w : World) (c : Int) (m : List Int) (e : Ending) (w' : World) : Prop :=
  ∃ ao cp, e = .returned (.agg #[.int .i64 c, .slice ao m.length cp]) ∧ w'.ownsRow w.heap.size 2 1 (.slice ao m.length cp) m.length (cellsI m) ∧ Below w.heap.size w w'
theorem none_rowI (w : World) (B : Nat) : w.ownsRow B 2 1 (.slice none ([] : List Int).length 0) ([] : List Int).length (cellsI []) := ⟨by simp [cellsI], .inl ⟨rfl, rfl⟩⟩
theorem two_rowI (w : World) (B n : Nat) (a b : Int) (hn : w.heap.size = n) (hB : B ≤ n) : (w.alloc (.cells #[.int .i64 a, .int .i64 b] 2)).ownsRow B 2 1 (.slice (some ⟨n, 0, none⟩) [a, b].length 2) [a, b].length (cellsI [a, b]) := by
  subst hn
  exact ⟨by simp [cellsI], .inr ⟨w.heap.size, 2, _, rfl, hB, heap_alloc_new w _, Nat.le_refl _, by unfold maxLen; omega, by simp, by simp [cellsI]⟩⟩
set_option maxHeartbeats 1000000 in
theorem implAF_any (p : Int) (w : World) :
    Calls Tryd.prog 13 #[.int .i64 p] w fun e w' => AnsI w (codePT p) (listAF p) e w' := by
  by_cases h : 0 ≤ p ∧ p < 16
  · obtain ⟨k, rfl⟩ : ∃ k : Nat, p = (k : Int) := ⟨p.toNat, by omega⟩
    have hk : k < 16 := by omega
    have e1 : codePT (k : Int) = 0 := if_pos h
    have e2 : listAF (k : Int) = [leastP k, mostP k] := by rw [listAF, if_pos h]; simp
    rw [e1, e2]
    clear e1 e2
    go_enter Tryd.func13, Tryd.ntmps13
    go_wp2_with fail
    refine (primAt_in k hk _).mono ?_
    rintro e w1 ⟨v, rfl, _, hsh, hb⟩
    obtain ⟨hc, hf⟩ := bcell hb
    have z1 : w.heap.size < w1.heap.size := by have := hb.size; simp at this; omega
    have HB : Hid (Below w.heap.size w w1) := Below.trans ((Below.refl _ w).alloc (Nat.le_refl _) _) (hb.mono (by simp))
    clear hb
    rcases hsh with rfl | ⟨f, b, rfl⟩
    all_goals
      go_wp2
      refine bodyPost_ret (v := .agg #[.int .i64 0, .slice (some ⟨w1.heap.size + 1, 0, none⟩) 2 2]) (by simp [results, Tryd.results13, go_sem, hc, z1, World.cell?_alloc_lt]) rfl ⟨_, _, rfl, ?_, ?_⟩
      · exact two_rowI _ _ _ _ _ (by simp) (by omega)
      · repeat (first | refine Below.setCell ?_ (by simp <;> omega) _ | refine Below.alloc ?_ (by simp <;> omega) _ | exact HB.out)
  · have e1 : codePT p = 3 := if_neg h
    have e2 : listAF p = [] := if_neg h
    rw [e1, e2]
    clear e1 e2
    have HP : Hid (p < 0 ∨ 16 ≤ p) := (by omega : p < 0 ∨ 16 ≤ p)
    clear h
    go_enter Tryd.func13, Tryd.ntmps13
    go_wp2_with fail
    refine (primAt_out p HP.out _).mono ?_
    rintro e w1 ⟨rfl, hb⟩
    obtain ⟨hc, hf⟩ := bcell hb
    have z1 : w.heap.size < w1.heap.size := by have := hb.size; simp at this; omega
    have HB : Hid (Below w.heap.size w w1) := Below.trans ((Below.refl _ w).alloc (Nat.le_refl _) _) (hb.mono (by simp))
    clear hb
    go_wp2
    refine bodyPost_ret (v := .agg #[.int .i64 3, .slice none 0 0]) (by simp [results, Tryd.results13, go_sem, hc, z1, World.cell?_alloc_lt]) rfl ⟨_, _, rfl, none_rowI _ _, ?_⟩
    repeat (first | refine Below.setCell ?_ (by simp <;> omega) _ | refine Below.alloc ?_ (by simp <;> omega) _ | exact HB.out)
set_option maxHeartbeats 1000000 in
theorem takes_any (k : Nat) (hk : k < 16) (w : World) :
    Calls Tryd.prog 47 #[.int .i64 (k : Int)] w fun e w' => e = .returned (.tuple #[.int .i64 (leastP k), .int .i64 (mostP k)]) ∧ w' = w := by
  have : k = 0 ∨ k = 1 ∨ k = 2 ∨ k = 3 ∨ k = 4 ∨ k = 5 ∨ k = 6 ∨ k = 7 ∨ k = 8 ∨ k = 9 ∨ k = 10 ∨ k = 11 ∨ k = 12 ∨ k = 13 ∨ k = 14 ∨ k = 15 := by omega
  rcases this with rfl | rfl | rfl | rfl | rfl | rfl | rfl | rfl | rfl | rfl | rfl | rfl | rfl | rfl | rfl | rfl <;>
    (go_enter Tryd.func47, Tryd.ntmps47
     go_wp2
     refine bodyPost_ret (v := .tuple #[_, _]) (by simp [results, Tryd.results47]; exact ⟨rfl, rfl⟩) rfl ⟨rfl, rfl⟩)
set_option maxHeartbeats 1000000 in
theorem specAF_any (p : Int) (w : World) :
    Calls Tryd.prog 25 #[.int .i64 p] w fun e w' => AnsI w (codePT p) (listAF p) e w' := by
  by_cases h : 0 ≤ p ∧ p < 16
  · obtain ⟨k, rfl⟩ : ∃ k : Nat, p = (k : Int) := ⟨p.toNat, by omega⟩
    have hk : k < 16 := by omega
    have e1 : codePT (k : Int) = 0 := if_pos h
    have e2 : listAF (k : Int) = [leastP k, mostP k] := by rw [listAF, if_pos h]; simp
    rw [e1, e2]
    have HL : Hid (∀ w, Calls Tryd.prog 46 #[.int .i64 (k : Int)] w fun e w' => e = .returned (.bool true) ∧ w' = w) := fun w => by
      refine (l6Prim_any (k : Int) w).mono ?_
      rintro e w' ⟨rfl, rfl⟩
      exact ⟨by simp; omega, rfl⟩
    clear e1 e2 h
    go_enter Tryd.func25, Tryd.ntmps25
    go_wp2_with fail
    refine (HL.out _).mono ?_
    rintro e w1 ⟨rfl, rfl⟩
    go_wp2_with fail
    refine (takes_any k hk _).mono ?_
    rintro e w1 ⟨rfl, rfl⟩
    go_wp2
    refine bodyPost_ret (v := .agg #[.int .i64 0, .slice (some ⟨w.heap.size + 1, 0, none⟩) 2 2]) (by simp [results, Tryd.results25, go_sem]) rfl ⟨_, _, rfl, ?_, ?_⟩
    · skip
      exact two_rowI _ _ _ _ _ (by simp) (by omega)
    · repeat (first | refine Below.setCell ?_ (by simp <;> omega) _ | refine Below.alloc ?_ (by simp <;> omega) _ | exact Below.refl _ _)
  · have e1 : codePT p = 3 := if_neg h
    have e2 : listAF p = [] := if_neg h
    rw [e1, e2]
    have HL : Hid (∀ w, Calls Tryd.prog 46 #[.int .i64 p] w fun e w' => e = .returned (.bool false) ∧ w' = w) := fun w => by
      refine (l6Prim_any p w).mono ?_
      rintro e w' ⟨rfl, rfl⟩
      refine ⟨?_, rfl⟩
      have : (decide (0 ≤ p) && decide (p ≤ 15)) = false := by rw [Bool.and_eq_false_iff]; simp; omega
      rw [this]
    clear e1 e2 h
    go_enter Tryd.func25, Tryd.ntmps25
    go_wp2_with fail
    refine (HL.out _).mono ?_
    rintro e w1 ⟨rfl, rfl⟩
    go_wp2
    refine bodyPost_ret (v := .agg #[.int .i64 3, .slice none 0 0]) (by simp [results, Tryd.results25, go_sem]) rfl ⟨_, _, rfl, none_rowI _ _, ?_⟩
    repeat (first | refine Below.setCell ?_ (by simp <;> omega) _ | refine Below.alloc ?_ (by simp <;> omega) _ | exact Below.refl _ _)
end Go.Proofs.YtbfhoennafopaaaDoor
