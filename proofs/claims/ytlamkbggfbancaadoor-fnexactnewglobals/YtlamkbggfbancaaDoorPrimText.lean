/-
  PrimText and PrimOf: the name of a number, the number of a name: program and model answer alike; the exact laws answer true at every argument; nothing that was there is turned.
-/
import Derived.Test.YtlamkbggfbancaaDoorPrimAt
import Derived.Test.YtlamkbggfbancaaDoorSpecNum
import Derived.RangeFuncRecord
namespace Go.Proofs.YtlamkbggfbancaaDoor
open Go.RowKit Go.Extern.Stop Go.Stop Go.Extern Num Go.Lib

def codePT (p : Int) : Int := if 0 ≤ p ∧ p < 16 then 0 else 3
def textPT (p : Int) : ByteArray := if 0 ≤ p ∧ p < 16 then nameP p.toNat else ⟨#[]⟩
/-- The model's names. -/
theorem names_any (w : World) : Calls Tryd.prog 41 #[] w fun e w' => e = .returned (.slice (some ⟨w.heap.size, 0, none⟩) 16 16) ∧ w' = w.alloc (.cells #[.string ⟨#[43]⟩, .string ⟨#[45]⟩, .string ⟨#[42]⟩, .string ⟨#[113, 117, 111]⟩, .string ⟨#[114, 101, 109]⟩, .string ⟨#[60]⟩, .string ⟨#[61]⟩, .string ⟨#[99, 111, 110, 115]⟩, .string ⟨#[99, 97, 114]⟩, .string ⟨#[99, 100, 114]⟩, .string ⟨#[110, 117, 108, 108, 63]⟩, .string ⟨#[112, 97, 105, 114, 63]⟩, .string ⟨#[101, 113, 63]⟩, .string ⟨#[110, 111, 116]⟩, .string ⟨#[108, 105, 115, 116]⟩, .string ⟨#[99, 97, 108, 108, 47, 99, 99]⟩] 9) := by
  go_enter Tryd.func41, Tryd.ntmps41
  go_wp2
  go_ret
  exact ⟨rfl, rfl⟩
theorem names_cell (w : World) (k : Nat) (hk : k < 16) : (w.alloc (.cells #[.string ⟨#[43]⟩, .string ⟨#[45]⟩, .string ⟨#[42]⟩, .string ⟨#[113, 117, 111]⟩, .string ⟨#[114, 101, 109]⟩, .string ⟨#[60]⟩, .string ⟨#[61]⟩, .string ⟨#[99, 111, 110, 115]⟩, .string ⟨#[99, 97, 114]⟩, .string ⟨#[99, 100, 114]⟩, .string ⟨#[110, 117, 108, 108, 63]⟩, .string ⟨#[112, 97, 105, 114, 63]⟩, .string ⟨#[101, 113, 63]⟩, .string ⟨#[110, 111, 116]⟩, .string ⟨#[108, 105, 115, 116]⟩, .string ⟨#[99, 97, 108, 108, 47, 99, 99]⟩] 9)).cell? ⟨w.heap.size, k, none⟩ = some (.string (nameP k)) := by
  have : k = 0 ∨ k = 1 ∨ k = 2 ∨ k = 3 ∨ k = 4 ∨ k = 5 ∨ k = 6 ∨ k = 7 ∨ k = 8 ∨ k = 9 ∨ k = 10 ∨ k = 11 ∨ k = 12 ∨ k = 13 ∨ k = 14 ∨ k = 15 := by omega
  rcases this with rfl | rfl | rfl | rfl | rfl | rfl | rfl | rfl | rfl | rfl | rfl | rfl | rfl | rfl | rfl | rfl <;> (rw [World.cell?_alloc_at _ _ _ _ rfl]; rfl)
/-- The number of a name. -/
def findP (s : ByteArray) : Option Nat := (List.range 16).find? fun k => (nameP k).toList == s.toList
def codePO (s : ByteArray) : Int := match findP s with | some _ => 0 | none => 4
def valPO (s : ByteArray) : Int := match findP s with | some k => (k : Int) | none => 0
theorem find_hit (s : ByteArray) (k : Nat) (hk : k < 16) (h : ∀ j, j < k → ((nameP j).toList == s.toList) = false) (hh : ((nameP k).toList == s.toList) = true) : findP s = some k := by
  unfold findP
  rw [List.find?_eq_some_iff_append]
  refine ⟨hh, List.range k, (List.range' (k + 1) (15 - k)), ?_, fun a ha => by rw [h a (List.mem_range.1 ha)]; rfl⟩
  rw [List.range_eq_range', List.range_eq_range', show 16 = k + (1 + (15 - k)) by omega, ← List.range'_append_1, ← List.range'_append_1]
  simp
theorem find_none (s : ByteArray) (h : ∀ j, j < 16 → ((nameP j).toList == s.toList) = false) : findP s = none := by
  unfold findP
  rw [List.find?_eq_none]
  intro x hx
  rw [h x (List.mem_range.1 hx)]
  simp
end Go.Proofs.YtlamkbggfbancaaDoor
