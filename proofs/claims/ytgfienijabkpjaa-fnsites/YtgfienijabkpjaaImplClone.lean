/-
  maps.Clone at the program's own map: a new block with the same entries; nothing that was there is turned.
-/
import Derived.Test.YtgfienijabkpjaaMapKit
import Derived.Shelf.SlMaps.Clone
namespace Go.Proofs.Ytgfienijabkpjaa
open Go.RowKit Go.Extern.Stop Go.Stop Go.Extern Num Go.Lib Go.Maps

set_option maxRecDepth 100000 in
set_option maxHeartbeats 2000000 in
theorem mapClone_any (b : Nat) (ws : List Wd) (w : World) (h : MapW w b ws) :
    Calls Try.prog 67 #[.map (some b)] w fun e w' => e = .returned (.map (some w.heap.size)) ∧ MapW w' w.heap.size ws ∧ w'.heap.size = w.heap.size + 1 ∧ Below w.heap.size w w' := by
  obtain ⟨es, clock, hb, he, hf⟩ := h
  have HF : Hid (es.toList.map (fun e => (e.key, e.val)) = entW 0 ws ∧ ∀ x ∈ ws, x.fit) := ⟨he, hf⟩
  have HB : Hid (w.heap[b]? = some (.map es clock)) := hb
  have hq := fun w => run_eql_map_nil_sl (P := Try.prog) w 71 _ _ (some b) Try.underlying71
  clear he hf hb
  go_enter Try.func67, Try.ntmps67
  go_wp2
  rw [run_callFunc_extern Try.func88 (by kernel_rfl) (by kernel_rfl) (by kernel_rfl) (e := Extern.MapsClone.clone) (by kernel_rfl), run_maps_clone_sl w 71 HB.out]
  simp only [Result.andThen]
  rw [Oper.upon_value]
  go_wp2
  rw [run_typeAssert_map_sl _ 71 _ _ _ _ Try.underlying71]
  simp only [Result.andThen]
  rw [Oper.upon_value]
  go_wp2
  go_ret
  exact ⟨rfl, ⟨es, clock, heap_alloc_new w _, HF.out.1, HF.out.2⟩, by simp, (Below.refl _ _).alloc (Nat.le_refl _) _⟩
end Go.Proofs.Ytgfienijabkpjaa
