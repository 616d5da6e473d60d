/-
  PrimText and PrimOf: the name of a number, the number of a name: program and model answer alike; the exact laws answer true at every argument; nothing that was there is turned.
-/
import Derived.Test.YtlamkbggfbancaaGreatDoorPrimAt
import Derived.Test.YtlamkbggfbancaaGreatDoorSpecNum
import Derived.RangeFuncRecord
namespace Go.Proofs.YtlamkbggfbancaaGreatDoor
open Go.RowKit Go.Extern.Stop Go.Stop Go.Extern Num Go.Lib

def codePT (p : Int) : Int := if 0 ≤ p ∧ p < 16 then 0 else 3
def textPT (p : Int) : ByteArray := if 0 ≤ p ∧ p < 16 then nameP p.toNat else ⟨#[]⟩
/-- The model's names. -/
theorem names_any (w : World) : Calls Tryz.prog 40 #[] w fun e w' => e = .returned (.slice (some ⟨w.heap.size, 0, none⟩) 16 16) ∧ w' = w.alloc (.cells #[.string ⟨#[43]⟩, .string ⟨#[45]⟩, .string ⟨#[42]⟩, .string ⟨#[113, 117, 111]⟩, .string ⟨#[114, 101, 109]⟩, .string ⟨#[60]⟩, .string ⟨#[61]⟩, .string ⟨#[99, 111, 110, 115]⟩, .string ⟨#[99, 97, 114]⟩, .string ⟨#[99, 100, 114]⟩, .string ⟨#[110, 117, 108, 108, 63]⟩, .string ⟨#[112, 97, 105, 114, 63]⟩, .string ⟨#[101, 113, 63]⟩, .string ⟨#[110, 111, 116]⟩, .string ⟨#[108, 105, 115, 116]⟩, .string ⟨#[99, 97, 108, 108, 47, 99, 99]⟩] 9) := by
  go_enter Tryz.func40, Tryz.ntmps40
  go_wp2
  go_ret
  exact ⟨rfl, rfl⟩
theorem names_cell (w : World) (k : Nat) (hk : k < 16) : (w.alloc (.cells #[.string ⟨#[43]⟩, .string ⟨#[45]⟩, .string ⟨#[42]⟩, .string ⟨#[113, 117, 111]⟩, .string ⟨#[114, 101, 109]⟩, .string ⟨#[60]⟩, .string ⟨#[61]⟩, .string ⟨#[99, 111, 110, 115]⟩, .string ⟨#[99, 97, 114]⟩, .string ⟨#[99, 100, 114]⟩, .string ⟨#[110, 117, 108, 108, 63]⟩, .string ⟨#[112, 97, 105, 114, 63]⟩, .string ⟨#[101, 113, 63]⟩, .string ⟨#[110, 111, 116]⟩, .string ⟨#[108, 105, 115, 116]⟩, .string ⟨#[99, 97, 108, 108, 47, 99, 99]⟩] 9)).cell? ⟨w.heap.size, k, none⟩ = some (.string (nameP k)) := by
  have : k = 0 ∨ k = 1 ∨ k = 2 ∨ k = 3 ∨ k = 4 ∨ k = 5 ∨ k = 6 ∨ k = 7 ∨ k = 8 ∨ k = 9 ∨ k = 10 ∨ k = 11 ∨ k = 12 ∨ k = 13 ∨ k = 14 ∨ k = 15 := by omega
  rcases this with rfl | rfl | rfl | rfl | rfl | rfl | rfl | rfl | rfl | rfl | rfl | rfl | rfl | rfl | rfl | rfl <;> (rw [World.cell?_alloc_at _ _ _ _ rfl]; rfl)
/-- The number of a name. -/
def findP (s : ByteArray) : Option Nat := (List.range 16).find? fun k => (nameP k).toList == s.toList
def codePO (s : ByteArray) : Int := match findP s with | some _ => 0 | none => 4
def valPO (s : ByteArray) : Int := match findP s with | some k => (k : Int) | none => 0
theorem findP_hit (s : ByteArray) (k : Nat) (hk : k < 16) (h : ∀ j, j < k → ((nameP j).toList == s.toList) = false) (hh : ((nameP k).toList == s.toList) = true) : findP s = some k := by
  unfold findP
  rw [List.find?_eq_some_iff_append]
  refine ⟨hh, List.range k, (List.range' (k + 1) (15 - k)), ?_, fun a ha => by rw [h a (List.mem_range.1 ha)]; rfl⟩
  rw [List.range_eq_range', List.range_eq_range', show 16 = k + (1 + (15 - k)) by omega, ← List.range'_append_1, ← List.range'_append_1]
  simp
theorem findP_none (s : ByteArray) (h : ∀ j, j < 16 → ((nameP j).toList == s.toList) = false) : findP s = none := by
  unfold findP
  rw [List.find?_eq_none]
  intro x hx
  rw [h x (List.mem_range.1 hx)]
  simp
set_option maxHeartbeats 2000000 in
theorem implPO_any (s : ByteArray) (w : World) :
    Calls Tryz.prog 8 #[.string s] w fun e w' => e = .returned (.agg #[.int .i64 (codePO s), .int .i64 (valPO s)]) ∧ Below w.heap.size w w' := by
  obtain ⟨c, hc⟩ : ∃ c, c = codePO s := ⟨_, rfl⟩
  obtain ⟨x, hx⟩ : ∃ x, x = valPO s := ⟨_, rfl⟩
  rw [← hc, ← hx]
  have HC : Hid (c = codePO s ∧ x = valPO s) := ⟨hc, hx⟩
  clear hc hx
  go_enter Tryz.func8, Tryz.ntmps8
  go_wp2_with fail
  refine (prims_any 0 _ (Nat.zero_le _)).mono ?_
  rintro e w1 ⟨g, ws, rfl, hg, hws, hb⟩
  have HCE : Hid (∀ k, k < 16 → w1.cell? ⟨g, k * 4, none⟩ = some (.string (nameP k)) ∧ w1.cell? ⟨g, k * 4 + 1, none⟩ = some (.int .i64 (leastP k)) ∧ w1.cell? ⟨g, k * 4 + 2, none⟩ = some (.int .i64 (mostP k)) ∧ w1.cell? ⟨g, k * 4 + 3, none⟩ = some (ws.getD k .nilFunc)) := fun k hk => prims_cells hg hws k hk
  have HSH : Hid (∀ k, k < 16 → ws.getD k .nilFunc = .nilFunc ∨ ∃ f b, ws.getD k .nilFunc = .func f #[] b) := fun k hk => works_shape hws k hk
  have HB : Hid (Below (w.alloc (.cells #[.int .i64 0, .int .i64 0] 30)).heap.size (w.alloc (.cells #[.int .i64 0, .int .i64 0] 30)) w1) := hb
  clear hg hws hb
  go_wp2_with fail
  go_loopw [7] (fun i wr => ∃ k : Nat, k ≤ 16 ∧ i = .int .i64 (k : Int) ∧ Hid (∀ j, j < k → ((nameP j).toList == s.toList) = false) ∧ Hid (Below w1.heap.size w1 wr)) (fun i _ => 16 - (RowKit.intOf i).toNat)
  case atStart => exact ⟨0, Nat.zero_le _, rfl, fun j h => by omega, Below.refl _ _⟩
  case round =>
    obtain ⟨k, hk, rfl, HS, HW⟩ := hrel
    have hb2 : Below (w.alloc (.cells #[.int .i64 0, .int .i64 0] 30)).heap.size (w.alloc (.cells #[.int .i64 0, .int .i64 0] 30)) wr := HB.out.trans (HW.out.mono HB.out.size)
    have HB2 : Hid (Below w.heap.size w wr) := Below.trans ((Below.refl _ w).alloc (Nat.le_refl _) _) (hb2.mono (by simp))
    obtain ⟨hcc, hff⟩ := bcell hb2
    have z1 : w.heap.size < wr.heap.size := by have := hb2.size; simp at this; omega
    clear hb2
    by_cases hlt : k < 16
    · obtain ⟨c0, c1, c2, c3⟩ := HCE.out k hlt
      replace c0 := cell_keep HW.out c0
      replace c1 := cell_keep HW.out c1
      replace c2 := cell_keep HW.out c2
      replace c3 := cell_keep HW.out c3
      have hsh := HSH.out k hlt
      have HN : Hid (∀ b, ((nameP k).toList == s.toList) = b → (b = true → c = 0 ∧ x = (k : Int)) ∧ (b = false → ∀ j, j < k + 1 → ((nameP j).toList == s.toList) = false)) := fun b hb => ⟨fun h => by
          have := findP_hit s k hlt HS.out (hb.trans h)
          exact ⟨by rw [HC.out.1, codePO, this], by rw [HC.out.2, valPO, this]⟩, fun h j hj => by
          by_cases e : j = k
          · subst e; exact hb.trans h
          · exact HS.out j (by omega)⟩
      generalize ws.getD k .nilFunc = v at c3 hsh
      generalize nameP k = t at c0 HN
      cases e : (t.toList == s.toList) with
      | true =>
        obtain ⟨rfl, rfl⟩ := (HN.out _ e).1 rfl
        rcases hsh with rfl | ⟨f, b, rfl⟩
        · go_wp2
          refine bodyPost_ret (v := .agg #[.int .i64 0, .int .i64 (k : Int)]) (by simp [results, Tryz.results8, go_sem, hcc, z1, World.cell?_alloc_lt]) rfl ⟨rfl, ?_⟩
          repeat (first | refine Below.setCell ?_ (by simp <;> omega) _ | refine Below.alloc ?_ (by simp <;> omega) _ | exact HB2.out)
        · go_wp2
          refine bodyPost_ret (v := .agg #[.int .i64 0, .int .i64 (k : Int)]) (by simp [results, Tryz.results8, go_sem, hcc, z1, World.cell?_alloc_lt]) rfl ⟨rfl, ?_⟩
          repeat (first | refine Below.setCell ?_ (by simp <;> omega) _ | refine Below.alloc ?_ (by simp <;> omega) _ | exact HB2.out)
      | false =>
        have HF : Hid (∀ j, j < k + 1 → ((nameP j).toList == s.toList) = false) := (HN.out _ e).2 rfl
        rcases hsh with rfl | ⟨f, b, rfl⟩
        · go_wp2
          exact ⟨⟨k + 1, by omega, by go_num, HF, HW.out.alloc HW.out.size _⟩, by simp [RowKit.intOf]; omega⟩
        · go_wp2
          exact ⟨⟨k + 1, by omega, by go_num, HF, HW.out.alloc HW.out.size _⟩, by simp [RowKit.intOf]; omega⟩
    · have hn := findP_none s (fun j hj => HS.out j (by omega))
      have e1 : c = 4 := by rw [HC.out.1, codePO, hn]
      have e2 : x = 0 := by rw [HC.out.2, valPO, hn]
      subst e1 e2
      clear hn
      go_wp2
      refine bodyPost_ret (v := .agg #[.int .i64 4, .int .i64 0]) (by simp [results, Tryz.results8, go_sem, hcc]) rfl ⟨rfl, ?_⟩
      repeat (first | refine Below.setCell ?_ (by simp <;> omega) _ | refine Below.alloc ?_ (by simp <;> omega) _ | exact HB2.out)
end Go.Proofs.YtlamkbggfbancaaGreatDoor
