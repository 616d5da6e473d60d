/-
  PrimText and PrimOf: the name of a number, the number of a name: program and model answer alike; the exact laws answer true at every argument; nothing that was there is turned.
-/
import Derived.Test.YtbfhoennafopaaaDoorPrimAt
import Derived.Test.YtbfhoennafopaaaDoorSpecNum
import Derived.RangeFuncRecord
namespace Go.Proofs.YtbfhoennafopaaaDoor
open Go.RowKit Go.Extern.Stop Go.Stop Go.Extern Num Go.Lib

set_option maxHeartbeats 1000000 in
theorem primAt_out (p : Int) (hp : p < 0 ∨ 16 ≤ p) (w : World) :
    Calls Tryd.prog 34 #[.int .i64 p] w fun e w' => e = .returned (.tuple #[.agg #[.string ⟨#[]⟩, .int .i64 0, .int .i64 0, .nilFunc], .int .i64 3]) ∧ Below w.heap.size w w' := by
  have HP : Hid (p < 0 ∨ 16 ≤ p) := hp
  clear hp
  go_enter Tryd.func34, Tryd.ntmps34
  go_wp2_with fail
  refine (prims_any (w.heap.size + 1) _ (by simp)).mono ?_
  rintro e w1 ⟨g, ws, rfl, hg, hws, hb⟩
  have r0 : w1.cell? ⟨w.heap.size, 0, none⟩ = some (.string ⟨#[]⟩) := cell_keep hb (by rw [World.cell?_alloc_at _ _ _ _ rfl]; rfl)
  have r1 : w1.cell? ⟨w.heap.size, 1, none⟩ = some (.int .i64 0) := cell_keep hb (by rw [World.cell?_alloc_at _ _ _ _ rfl]; rfl)
  have r2 : w1.cell? ⟨w.heap.size, 2, none⟩ = some (.int .i64 0) := cell_keep hb (by rw [World.cell?_alloc_at _ _ _ _ rfl]; rfl)
  have r3 : w1.cell? ⟨w.heap.size, 3, none⟩ = some .nilFunc := cell_keep hb (by rw [World.cell?_alloc_at _ _ _ _ rfl]; rfl)
  have rf : ∀ o, w1.frozen? ⟨w.heap.size, o, none⟩ = false := fun o => by rw [(bcell hb).2 _ _ (by simp), World.frozen?_alloc_at _ _ _ _ rfl]
  have z1 : w.heap.size < w1.heap.size := by have := hb.size; simp at this; omega
  have HO : Hid (Below w.heap.size w ((((w1.setCell ⟨w.heap.size, 0, none⟩ (.string ⟨#[]⟩)).setCell ⟨w.heap.size, 1, none⟩ (.int .i64 0)).setCell ⟨w.heap.size, 2, none⟩ (.int .i64 0)).setCell ⟨w.heap.size, 3, none⟩ .nilFunc)) := by
    have h0 : Below w.heap.size w w1 := Below.trans ((Below.refl _ w).alloc (Nat.le_refl _) _) (hb.mono (by simp))
    repeat (first | refine Below.setCell ?_ (by simp) _ | exact h0)
  clear hg hws hb
  rcases HP.out with hp | hp
  · go_wp2
    refine bodyPost_ret (v := .tuple #[.agg #[.string ⟨#[]⟩, .int .i64 0, .int .i64 0, .nilFunc], .int .i64 3]) (by simp [results, Tryd.results34, go_sem, r0, r1, r2, r3]) rfl ⟨rfl, HO.out⟩
  · go_wp2
    refine bodyPost_ret (v := .tuple #[.agg #[.string ⟨#[]⟩, .int .i64 0, .int .i64 0, .nilFunc], .int .i64 3]) (by simp [results, Tryd.results34, go_sem, r0, r1, r2, r3]) rfl ⟨rfl, HO.out⟩
def codePT (p : Int) : Int := if 0 ≤ p ∧ p < 16 then 0 else 3
def textPT (p : Int) : ByteArray := if 0 ≤ p ∧ p < 16 then nameP p.toNat else ⟨#[]⟩
set_option maxHeartbeats 1000000 in
theorem implPT_any (p : Int) (w : World) :
    Calls Tryd.prog 12 #[.int .i64 p] w fun e w' => e = .returned (.agg #[.int .i64 (codePT p), .string (textPT p)]) ∧ Below w.heap.size w w' := by
  by_cases h : 0 ≤ p ∧ p < 16
  · obtain ⟨k, rfl⟩ : ∃ k : Nat, p = (k : Int) := ⟨p.toNat, by omega⟩
    have hk : k < 16 := by omega
    have e1 : codePT (k : Int) = 0 := if_pos h
    have e2 : textPT (k : Int) = nameP k := by rw [textPT, if_pos h]; simp
    rw [e1, e2]
    clear e1 e2
    go_enter Tryd.func12, Tryd.ntmps12
    go_wp2_with fail
    refine (primAt_in k hk _).mono ?_
    rintro e w1 ⟨v, rfl, _, hsh, hb⟩
    obtain ⟨hc, hf⟩ := bcell hb
    have z1 : w.heap.size < w1.heap.size := by have := hb.size; simp at this; omega
    have HB : Hid (Below w.heap.size w w1) := Below.trans ((Below.refl _ w).alloc (Nat.le_refl _) _) (hb.mono (by simp))
    clear hb
    rcases hsh with rfl | ⟨f, b, rfl⟩
    · go_wp2
      refine bodyPost_ret (v := .agg #[.int .i64 0, .string (nameP k)]) (by simp [results, Tryd.results12, go_sem, hc, z1, World.cell?_alloc_lt]) rfl ⟨rfl, ?_⟩
      repeat (first | refine Below.setCell ?_ (by simp <;> omega) _ | refine Below.alloc ?_ (by simp <;> omega) _ | exact HB.out)
    · go_wp2
      refine bodyPost_ret (v := .agg #[.int .i64 0, .string (nameP k)]) (by simp [results, Tryd.results12, go_sem, hc, z1, World.cell?_alloc_lt]) rfl ⟨rfl, ?_⟩
      repeat (first | refine Below.setCell ?_ (by simp <;> omega) _ | refine Below.alloc ?_ (by simp <;> omega) _ | exact HB.out)
  · have e1 : codePT p = 3 := if_neg h
    have e2 : textPT p = ⟨#[]⟩ := if_neg h
    rw [e1, e2]
    clear e1 e2
    have HP : Hid (p < 0 ∨ 16 ≤ p) := (by omega : p < 0 ∨ 16 ≤ p)
    clear h
    go_enter Tryd.func12, Tryd.ntmps12
    go_wp2_with fail
    refine (primAt_out p HP.out _).mono ?_
    rintro e w1 ⟨rfl, hb⟩
    obtain ⟨hc, hf⟩ := bcell hb
    have z1 : w.heap.size < w1.heap.size := by have := hb.size; simp at this; omega
    have HB : Hid (Below w.heap.size w w1) := Below.trans ((Below.refl _ w).alloc (Nat.le_refl _) _) (hb.mono (by simp))
    clear hb
    go_wp2
    refine bodyPost_ret (v := .agg #[.int .i64 3, .string ⟨#[]⟩]) (by simp [results, Tryd.results12, go_sem, hc, z1, World.cell?_alloc_lt]) rfl ⟨rfl, ?_⟩
    repeat (first | refine Below.setCell ?_ (by simp <;> omega) _ | refine Below.alloc ?_ (by simp <;> omega) _ | exact HB.out)
/-- The model's names. -/
theorem names_any (w : World) : Calls Tryd.prog 32 #[] w fun e w' => e = .returned (.slice (some ⟨w.heap.size, 0, none⟩) 16 16) ∧ w' = w.alloc (.cells #[.string ⟨#[43]⟩, .string ⟨#[45]⟩, .string ⟨#[42]⟩, .string ⟨#[113, 117, 111]⟩, .string ⟨#[114, 101, 109]⟩, .string ⟨#[60]⟩, .string ⟨#[61]⟩, .string ⟨#[99, 111, 110, 115]⟩, .string ⟨#[99, 97, 114]⟩, .string ⟨#[99, 100, 114]⟩, .string ⟨#[110, 117, 108, 108, 63]⟩, .string ⟨#[112, 97, 105, 114, 63]⟩, .string ⟨#[101, 113, 63]⟩, .string ⟨#[110, 111, 116]⟩, .string ⟨#[108, 105, 115, 116]⟩, .string ⟨#[99, 97, 108, 108, 47, 99, 99]⟩] 9) := by
  go_enter Tryd.func32, Tryd.ntmps32
  go_wp2
  go_ret
  exact ⟨rfl, rfl⟩
theorem names_cell (w : World) (k : Nat) (hk : k < 16) : (w.alloc (.cells #[.string ⟨#[43]⟩, .string ⟨#[45]⟩, .string ⟨#[42]⟩, .string ⟨#[113, 117, 111]⟩, .string ⟨#[114, 101, 109]⟩, .string ⟨#[60]⟩, .string ⟨#[61]⟩, .string ⟨#[99, 111, 110, 115]⟩, .string ⟨#[99, 97, 114]⟩, .string ⟨#[99, 100, 114]⟩, .string ⟨#[110, 117, 108, 108, 63]⟩, .string ⟨#[112, 97, 105, 114, 63]⟩, .string ⟨#[101, 113, 63]⟩, .string ⟨#[110, 111, 116]⟩, .string ⟨#[108, 105, 115, 116]⟩, .string ⟨#[99, 97, 108, 108, 47, 99, 99]⟩] 9)).cell? ⟨w.heap.size, k, none⟩ = some (.string (nameP k)) := by
  have : k = 0 ∨ k = 1 ∨ k = 2 ∨ k = 3 ∨ k = 4 ∨ k = 5 ∨ k = 6 ∨ k = 7 ∨ k = 8 ∨ k = 9 ∨ k = 10 ∨ k = 11 ∨ k = 12 ∨ k = 13 ∨ k = 14 ∨ k = 15 := by omega
  rcases this with rfl | rfl | rfl | rfl | rfl | rfl | rfl | rfl | rfl | rfl | rfl | rfl | rfl | rfl | rfl | rfl <;> (rw [World.cell?_alloc_at _ _ _ _ rfl]; rfl)
theorem l6Prim_any (p : Int) (w : World) : Calls Tryd.prog 46 #[.int .i64 p] w fun e w' => e = .returned (.bool (decide (0 ≤ p) && decide (p ≤ 15))) ∧ w' = w := by
  go_enter Tryd.func46, Tryd.ntmps46
  go_wp2_with (go_at_call 80; refine (l1In_any _ _ _ _).mono ?_; rintro e w' ⟨rfl, rfl⟩)
  go_ret
  exact ⟨rfl, rfl⟩
set_option maxHeartbeats 1000000 in
theorem specPT_any (p : Int) (w : World) :
    Calls Tryd.prog 23 #[.int .i64 p] w fun e w' => e = .returned (.agg #[.int .i64 (codePT p), .string (textPT p)]) ∧ Below w.heap.size w w' := by
  by_cases h : 0 ≤ p ∧ p < 16
  · obtain ⟨k, rfl⟩ : ∃ k : Nat, p = (k : Int) := ⟨p.toNat, by omega⟩
    have hk : k < 16 := by omega
    have e1 : codePT (k : Int) = 0 := if_pos h
    have e2 : textPT (k : Int) = nameP k := by rw [textPT, if_pos h]; simp
    rw [e1, e2]
    have HL : Hid (∀ w, Calls Tryd.prog 46 #[.int .i64 (k : Int)] w fun e w' => e = .returned (.bool true) ∧ w' = w) := fun w => by
      refine (l6Prim_any (k : Int) w).mono ?_
      rintro e w' ⟨rfl, rfl⟩
      exact ⟨by simp; omega, rfl⟩
    clear e1 e2 h
    go_enter Tryd.func23, Tryd.ntmps23
    go_wp2_with fail
    refine (HL.out _).mono ?_
    rintro e w1 ⟨rfl, rfl⟩
    go_wp2_with fail
    refine (names_any _).mono ?_
    rintro e w1 ⟨rfl, hw1⟩
    have c0 : w1.cell? ⟨w.heap.size + 1, k, none⟩ = some (.string (nameP k)) := by
      have h0 := names_cell (w.alloc (.cells #[.int .i64 0, .string ⟨#[]⟩] 29)) k hk
      rw [← hw1] at h0
      rwa [show (w.alloc (.cells #[.int .i64 0, .string ⟨#[]⟩] 29)).heap.size = w.heap.size + 1 by simp] at h0
    have hb : Below (w.alloc (.cells #[.int .i64 0, .string ⟨#[]⟩] 29)).heap.size (w.alloc (.cells #[.int .i64 0, .string ⟨#[]⟩] 29)) w1 := by rw [hw1]; exact (Below.refl _ _).alloc (Nat.le_refl _) _
    obtain ⟨hc, hf⟩ := bcell hb
    have z1 : w.heap.size < w1.heap.size := by have := hb.size; simp at this; omega
    have HB : Hid (Below w.heap.size w w1) := Below.trans ((Below.refl _ w).alloc (Nat.le_refl _) _) (hb.mono (by simp))
    clear hb hw1
    go_wp2
    refine bodyPost_ret (v := .agg #[.int .i64 0, .string (nameP k)]) (by simp [results, Tryd.results23, go_sem, hc]) rfl ⟨rfl, ?_⟩
    repeat (first | refine Below.setCell ?_ (by simp <;> omega) _ | refine Below.alloc ?_ (by simp <;> omega) _ | exact HB.out)
  · have e1 : codePT p = 3 := if_neg h
    have e2 : textPT p = ⟨#[]⟩ := if_neg h
    rw [e1, e2]
    have HL : Hid (∀ w, Calls Tryd.prog 46 #[.int .i64 p] w fun e w' => e = .returned (.bool false) ∧ w' = w) := fun w => by
      refine (l6Prim_any p w).mono ?_
      rintro e w' ⟨rfl, rfl⟩
      refine ⟨?_, rfl⟩
      have : (decide (0 ≤ p) && decide (p ≤ 15)) = false := by rw [Bool.and_eq_false_iff]; simp; omega
      rw [this]
    clear e1 e2 h
    go_enter Tryd.func23, Tryd.ntmps23
    go_wp2_with fail
    refine (HL.out _).mono ?_
    rintro e w1 ⟨rfl, rfl⟩
    go_wp2
    refine bodyPost_ret (v := .agg #[.int .i64 3, .string ⟨#[]⟩]) (by simp [results, Tryd.results23, go_sem]) rfl ⟨rfl, ?_⟩
    repeat (first | refine Below.setCell ?_ (by simp <;> omega) _ | refine Below.alloc ?_ (by simp <;> omega) _ | exact Below.refl _ _)
/-- The number of a name. -/
def findP (s : ByteArray) : Option Nat := (List.range 16).find? fun k => (nameP k).toList == s.toList
def codePO (s : ByteArray) : Int := match findP s with | some _ => 0 | none => 4
def valPO (s : ByteArray) : Int := match findP s with | some k => (k : Int) | none => 0
theorem find_hit (s : ByteArray) (k : Nat) (hk : k < 16) (h : ∀ j, j < k → ((nameP j).toList == s.toList) = false) (hh : ((nameP k).toList == s.toList) = true) : findP s = some k := by
  unfold findP
  rw [List.find?_eq_some_iff_append]
  refine ⟨hh, List.range k, (List.range' (k + 1) (15 - k)), ?_, fun a ha => by rw [h a (List.mem_range.1 ha)]; rfl⟩
  rw [List.range_eq_range', List.range_eq_range', show 16 = k + (1 + (15 - k)) by omega, ← List.range'_append_1, ← List.range'_append_1]
  simp
theorem find_none (s : ByteArray) (h : ∀ j, j < 16 → ((nameP j).toList == s.toList) = false) : findP s = none := by
  unfold findP
  rw [List.find?_eq_none]
  intro x hx
  rw [h x (List.mem_range.1 hx)]
  simp
set_option maxHeartbeats 2000000 in
theorem implPO_any (s : ByteArray) (w : World) :
    Calls Tryd.prog 10 #[.string s] w fun e w' => e = .returned (.agg #[.int .i64 (codePO s), .int .i64 (valPO s)]) ∧ Below w.heap.size w w' := by
  obtain ⟨c, hc⟩ : ∃ c, c = codePO s := ⟨_, rfl⟩
  obtain ⟨x, hx⟩ : ∃ x, x = valPO s := ⟨_, rfl⟩
  rw [← hc, ← hx]
  have HC : Hid (c = codePO s ∧ x = valPO s) := ⟨hc, hx⟩
  clear hc hx
  go_enter Tryd.func10, Tryd.ntmps10
  go_wp2_with fail
  refine (prims_any 0 _ (Nat.zero_le _)).mono ?_
  rintro e w1 ⟨g, ws, rfl, hg, hws, hb⟩
  have HCE : Hid (∀ k, k < 16 → w1.cell? ⟨g, k * 4, none⟩ = some (.string (nameP k)) ∧ w1.cell? ⟨g, k * 4 + 1, none⟩ = some (.int .i64 (leastP k)) ∧ w1.cell? ⟨g, k * 4 + 2, none⟩ = some (.int .i64 (mostP k)) ∧ w1.cell? ⟨g, k * 4 + 3, none⟩ = some (ws.getD k .nilFunc)) := fun k hk => prims_cells hg hws k hk
  have HSH : Hid (∀ k, k < 16 → ws.getD k .nilFunc = .nilFunc ∨ ∃ f b, ws.getD k .nilFunc = .func f #[] b) := fun k hk => works_shape hws k hk
  have HB : Hid (Below (w.alloc (.cells #[.int .i64 0, .int .i64 0] 26)).heap.size (w.alloc (.cells #[.int .i64 0, .int .i64 0] 26)) w1) := hb
  clear hg hws hb
  go_wp2_with fail
  go_loopw [7] (fun i wr => ∃ k : Nat, k ≤ 16 ∧ i = .int .i64 (k : Int) ∧ Hid (∀ j, j < k → ((nameP j).toList == s.toList) = false) ∧ Hid (Below w1.heap.size w1 wr)) (fun i _ => 16 - (RowKit.intOf i).toNat)
  case atStart => exact ⟨0, Nat.zero_le _, rfl, fun j h => by omega, Below.refl _ _⟩
  case round =>
    obtain ⟨k, hk, rfl, HS, HW⟩ := hrel
    have hb2 : Below (w.alloc (.cells #[.int .i64 0, .int .i64 0] 26)).heap.size (w.alloc (.cells #[.int .i64 0, .int .i64 0] 26)) wr := HB.out.trans (HW.out.mono HB.out.size)
    have HB2 : Hid (Below w.heap.size w wr) := Below.trans ((Below.refl _ w).alloc (Nat.le_refl _) _) (hb2.mono (by simp))
    obtain ⟨hcc, hff⟩ := bcell hb2
    have z1 : w.heap.size < wr.heap.size := by have := hb2.size; simp at this; omega
    clear hb2
    by_cases hlt : k < 16
    · obtain ⟨c0, c1, c2, c3⟩ := HCE.out k hlt
      replace c0 := cell_keep HW.out c0
      replace c1 := cell_keep HW.out c1
      replace c2 := cell_keep HW.out c2
      replace c3 := cell_keep HW.out c3
      have hsh := HSH.out k hlt
      have HN : Hid (∀ b, ((nameP k).toList == s.toList) = b → (b = true → c = 0 ∧ x = (k : Int)) ∧ (b = false → ∀ j, j < k + 1 → ((nameP j).toList == s.toList) = false)) := fun b hb => ⟨fun h => by
          have := find_hit s k hlt HS.out (hb.trans h)
          exact ⟨by rw [HC.out.1, codePO, this], by rw [HC.out.2, valPO, this]⟩, fun h j hj => by
          by_cases e : j = k
          · subst e; exact hb.trans h
          · exact HS.out j (by omega)⟩
      generalize ws.getD k .nilFunc = v at c3 hsh
      generalize nameP k = t at c0 HN
      cases e : (t.toList == s.toList) with
      | true =>
        obtain ⟨rfl, rfl⟩ := (HN.out _ e).1 rfl
        rcases hsh with rfl | ⟨f, b, rfl⟩
        · go_wp2
          refine bodyPost_ret (v := .agg #[.int .i64 0, .int .i64 (k : Int)]) (by simp [results, Tryd.results10, go_sem, hcc, z1, World.cell?_alloc_lt]) rfl ⟨rfl, ?_⟩
          repeat (first | refine Below.setCell ?_ (by simp <;> omega) _ | refine Below.alloc ?_ (by simp <;> omega) _ | exact HB2.out)
        · go_wp2
          refine bodyPost_ret (v := .agg #[.int .i64 0, .int .i64 (k : Int)]) (by simp [results, Tryd.results10, go_sem, hcc, z1, World.cell?_alloc_lt]) rfl ⟨rfl, ?_⟩
          repeat (first | refine Below.setCell ?_ (by simp <;> omega) _ | refine Below.alloc ?_ (by simp <;> omega) _ | exact HB2.out)
      | false =>
        have HF : Hid (∀ j, j < k + 1 → ((nameP j).toList == s.toList) = false) := (HN.out _ e).2 rfl
        rcases hsh with rfl | ⟨f, b, rfl⟩
        · go_wp2
          exact ⟨⟨k + 1, by omega, by go_num, HF, HW.out.alloc HW.out.size _⟩, by simp [RowKit.intOf]; omega⟩
        · go_wp2
          exact ⟨⟨k + 1, by omega, by go_num, HF, HW.out.alloc HW.out.size _⟩, by simp [RowKit.intOf]; omega⟩
    · have hn := find_none s (fun j hj => HS.out j (by omega))
      have e1 : c = 4 := by rw [HC.out.1, codePO, hn]
      have e2 : x = 0 := by rw [HC.out.2, valPO, hn]
      subst e1 e2
      clear hn
      go_wp2
      refine bodyPost_ret (v := .agg #[.int .i64 4, .int .i64 0]) (by simp [results, Tryd.results10, go_sem, hcc]) rfl ⟨rfl, ?_⟩
      repeat (first | refine Below.setCell ?_ (by simp <;> omega) _ | refine Below.alloc ?_ (by simp <;> omega) _ | exact HB2.out)
set_option maxHeartbeats 2000000 in
theorem specPO_any (s : ByteArray) (w : World) :
    Calls Tryd.prog 11 #[.string s] w fun e w' => e = .returned (.agg #[.int .i64 (codePO s), .int .i64 (valPO s)]) ∧ Below w.heap.size w w' := by
  obtain ⟨c, hc⟩ : ∃ c, c = codePO s := ⟨_, rfl⟩
  obtain ⟨x, hx⟩ : ∃ x, x = valPO s := ⟨_, rfl⟩
  rw [← hc, ← hx]
  have HC : Hid (c = codePO s ∧ x = valPO s) := ⟨hc, hx⟩
  clear hc hx
  go_enter Tryd.func11, Tryd.ntmps11
  go_wp2_with fail
  refine (names_any _).mono ?_
  rintro e w1 ⟨rfl, hw1⟩
  have HCE : Hid (∀ k, k < 16 → w1.cell? ⟨w.heap.size + 1, k, none⟩ = some (.string (nameP k))) := fun k hk => by
    have h0 := names_cell (w.alloc (.cells #[.int .i64 0, .int .i64 0] 26)) k hk
    rw [← hw1] at h0
    rwa [show (w.alloc (.cells #[.int .i64 0, .int .i64 0] 26)).heap.size = w.heap.size + 1 by simp] at h0
  have hb : Below (w.alloc (.cells #[.int .i64 0, .int .i64 0] 26)).heap.size (w.alloc (.cells #[.int .i64 0, .int .i64 0] 26)) w1 := by rw [hw1]; exact (Below.refl _ _).alloc (Nat.le_refl _) _
  have HB2 : Hid (Below w.heap.size w w1) := Below.trans ((Below.refl _ w).alloc (Nat.le_refl _) _) (hb.mono (by simp))
  obtain ⟨hcc, hff⟩ := bcell hb
  have z1 : w.heap.size < w1.heap.size := by have := hb.size; simp at this; omega
  clear hb hw1
  go_wp2_with fail
  go_loopw [4] (fun i wr => ∃ k : Nat, k ≤ 16 ∧ i = .int .i64 (k : Int) ∧ Hid (∀ j, j < k → ((nameP j).toList == s.toList) = false) ∧ wr = w1) (fun i _ => 16 - (RowKit.intOf i).toNat)
  case atStart => exact ⟨0, Nat.zero_le _, rfl, fun j h => by omega, rfl⟩
  case round =>
    obtain ⟨k, hk, rfl, HS, rfl⟩ := hrel
    by_cases hlt : k < 16
    · have c0 := HCE.out k hlt
      have HN : Hid (∀ b, ((nameP k).toList == s.toList) = b → (b = true → c = 0 ∧ x = (k : Int)) ∧ (b = false → ∀ j, j < k + 1 → ((nameP j).toList == s.toList) = false)) := fun b hb => ⟨fun h => by
          have := find_hit s k hlt HS.out (hb.trans h)
          exact ⟨by rw [HC.out.1, codePO, this], by rw [HC.out.2, valPO, this]⟩, fun h j hj => by
          by_cases e : j = k
          · subst e; exact hb.trans h
          · exact HS.out j (by omega)⟩
      generalize nameP k = t at c0 HN
      cases e : (t.toList == s.toList) with
      | true =>
        obtain ⟨rfl, rfl⟩ := (HN.out _ e).1 rfl
        go_wp2
        refine bodyPost_ret (v := .agg #[.int .i64 0, .int .i64 (k : Int)]) (by simp [results, Tryd.results11, go_sem, hcc]) rfl ⟨rfl, ?_⟩
        repeat (first | refine Below.setCell ?_ (by simp <;> omega) _ | refine Below.alloc ?_ (by simp <;> omega) _ | exact HB2.out)
      | false =>
        have HF : Hid (∀ j, j < k + 1 → ((nameP j).toList == s.toList) = false) := (HN.out _ e).2 rfl
        go_wp2
        exact ⟨⟨k + 1, by omega, by go_num, HF, by first | rfl | trivial⟩, by simp [RowKit.intOf]; omega⟩
    · have hn := find_none s (fun j hj => HS.out j (by omega))
      have e1 : c = 4 := by rw [HC.out.1, codePO, hn]
      have e2 : x = 0 := by rw [HC.out.2, valPO, hn]
      subst e1 e2
      clear hn
      go_wp2
      refine bodyPost_ret (v := .agg #[.int .i64 4, .int .i64 0]) (by simp [results, Tryd.results11, go_sem, hcc]) rfl ⟨rfl, ?_⟩
      repeat (first | refine Below.setCell ?_ (by simp <;> omega) _ | refine Below.alloc ?_ (by simp <;> omega) _ | exact HB2.out)
end Go.Proofs.YtbfhoennafopaaaDoor
