/-
  The model's DrawPushSegs and DrawResizeSegs: a stack that may have a fault, and a number; nothing that was there is turned.
-/
import Derived.Test.YtienmmgkiphkdaaDrawSg
namespace Go.Proofs.Ytienmmgkiphkdaa
open Go.RowKit Go.Extern.Stop Go.Stop Go.Extern Num Go.Lib

/-- What is drawn: a stack, and a number. -/
def SegD (w : World) (e : Ending) (w' : World) : Prop :=
  ∃ (size : Int) (v : Value) (ps : List (List Int)) (x : Int), e = .returned (.tuple #[segV size v, .int .i64 x]) ∧ SeeP w' v ps ∧ SmallS ps ∧ Below w.heap.size w w'
set_option maxRecDepth 100000 in
set_option maxHeartbeats 1000000 in
theorem drawPush_any (w : World) (ca : Option Addr) (len cap : Nat) (h : Bytes w ca len) (hmax : (len : Int) ≤ 9223372036854775807) :
    Calls Try.prog 13 #[.slice ca len cap] w fun e w' => SegD w e w' := by
  have HBy : Hid (Bytes w ca len) := h
  have hrb0 : (w.alloc (.cells #[.int .i64 0, .slice none 0 0] 26)).heap[w.heap.size]? = some (.cells #[.int .i64 0, .slice none 0 0] 26) := heap_alloc_new _ _
  clear h
  go_enter Try.func13, Try.ntmps13
  go_wp2_with fail
  refine (source_any _ ca len cap (HBy.out.below ((Below.refl _ _).alloc (Nat.le_refl _) _))).mono ?_
  rintro e w1 ⟨rfl, h1, b1⟩
  simp only [World.size_alloc] at h1 b1 ⊢
  have HS1 : Hid (SrcAt w1 (w.heap.size + 1) ca len cap 0) := h1
  have HR1 : Hid (w1.heap[w.heap.size]? = some (.cells #[.int .i64 0, .slice none 0 0] 26)) := by show _ = _; rw [b1.block _ (by omega)]; exact hrb0
  have B1 : Hid (Below w.heap.size w w1) := ((Below.refl _ _).alloc (Nat.le_refl _) _).trans (b1.mono (by omega))
  have hlt := h1.lt
  clear h1 b1 hrb0
  go_wp2_with fail
  refine (bentD_any _ _ ca len cap 0 HS1.out hmax (by omega) (by omega)).mono ?_
  rintro e w2 ⟨size, v, P, k2, rfl, hpv, hsm, k21, k22, h2, o2⟩
  have HS2 : Hid (SrcAt w2 (w.heap.size + 1) ca len cap k2) := h2
  have HSm : Hid (SmallS (P.map Prod.fst)) := hsm
  have HV2 : Hid (PV 78 w2 w1.heap.size v P) := hpv
  have HR2 : Hid (w2.heap[w.heap.size]? = some (.cells #[.int .i64 0, .slice none 0 0] 26)) := by show _ = _; rw [o2.block _ (by omega) (by omega)]; exact HR1.out
  have B2 : Hid (Below w.heap.size w w2) := B1.out.trans (o2.below (by omega) (by have := B1.out.size; omega))
  obtain ⟨av, cv, rfl⟩ := hpv.form
  clear h2 hsm hpv o2 B1 HR1 HS1
  go_wp2_with fail
  refine (next_any _ _ ca len cap k2 _ HS2.out hmax (by omega) (by omega)).mono ?_
  rintro e w3 ⟨x, q, rfl, -, -, hw3⟩
  have o3 : Only (w.heap.size + 1) w2 w3 := by rw [hw3]; exact only_next _ _ k2 q
  clear hw3
  have HR3 : Hid (w3.heap[w.heap.size]? = some (.cells #[.int .i64 0, .slice none 0 0] 26)) := by show _ = _; rw [o3.block _ (Array.getElem?_eq_some_iff.1 HR2.out).1 (by omega)]; exact HR2.out
  have B3 : Hid (Below w.heap.size w w3) := B2.out.trans (o3.below (by omega) (by have := B2.out.size; omega))
  have HV3 : Hid (PV 78 w3 w1.heap.size (.slice av P.length cv) P) := HV2.out.keeps (onlyKeeps o3) (fun b hb e => by have := (HV2.out.foot hb).1; omega)
  have hzz : w.heap.size < w1.heap.size := by omega
  have r0 : w3.cell? ⟨w.heap.size, 0, none⟩ = some (.int .i64 0) := by rw [cell_of_row w3 _ 0 _ _ _ HR3.out]; rfl
  have r1 : w3.cell? ⟨w.heap.size, 1, none⟩ = some (.slice none 0 0) := by rw [cell_of_row w3 _ 1 _ _ _ HR3.out]; rfl
  have rf : ∀ j, w3.frozen? ⟨w.heap.size, j, none⟩ = false := fun j => by simp [World.frozen?, HR3.out]
  clear o3 HR2 B2 HV2 HS2
  go_wp2
  refine bodyPost_ret (v := .tuple #[segV size (.slice av P.length cv), .int .i64 x]) (by simp [results, Try.results13, go_sem, r0, r1]) rfl ⟨size, _, P.map Prod.fst, x, rfl, ?_, HSm.out, ?_⟩
  · exact PV.see (B := w1.heap.size) ((HV3.out.setLow hzz).setLow hzz)
  · exact (B3.out.setCell (by simp) _).setCell (by simp) _
set_option maxRecDepth 100000 in
set_option maxHeartbeats 1000000 in
theorem drawRes_any (w : World) (ca : Option Addr) (len cap : Nat) (h : Bytes w ca len) (hmax : (len : Int) ≤ 9223372036854775807) :
    Calls Try.prog 21 #[.slice ca len cap] w fun e w' => SegD w e w' := by
  have HBy : Hid (Bytes w ca len) := h
  have hrb0 : (w.alloc (.cells #[.int .i64 0, .slice none 0 0] 26)).heap[w.heap.size]? = some (.cells #[.int .i64 0, .slice none 0 0] 26) := heap_alloc_new _ _
  clear h
  go_enter Try.func21, Try.ntmps21
  go_wp2_with fail
  refine (source_any _ ca len cap (HBy.out.below ((Below.refl _ _).alloc (Nat.le_refl _) _))).mono ?_
  rintro e w1 ⟨rfl, h1, b1⟩
  simp only [World.size_alloc] at h1 b1 ⊢
  have HS1 : Hid (SrcAt w1 (w.heap.size + 1) ca len cap 0) := h1
  have HR1 : Hid (w1.heap[w.heap.size]? = some (.cells #[.int .i64 0, .slice none 0 0] 26)) := by show _ = _; rw [b1.block _ (by omega)]; exact hrb0
  have B1 : Hid (Below w.heap.size w w1) := ((Below.refl _ _).alloc (Nat.le_refl _) _).trans (b1.mono (by omega))
  have hlt := h1.lt
  clear h1 b1 hrb0
  go_wp2_with fail
  refine (bentD_any _ _ ca len cap 0 HS1.out hmax (by omega) (by omega)).mono ?_
  rintro e w2 ⟨size, v, P, k2, rfl, hpv, hsm, k21, k22, h2, o2⟩
  have HS2 : Hid (SrcAt w2 (w.heap.size + 1) ca len cap k2) := h2
  have HSm : Hid (SmallS (P.map Prod.fst)) := hsm
  have HV2 : Hid (PV 78 w2 w1.heap.size v P) := hpv
  have HR2 : Hid (w2.heap[w.heap.size]? = some (.cells #[.int .i64 0, .slice none 0 0] 26)) := by show _ = _; rw [o2.block _ (by omega) (by omega)]; exact HR1.out
  have B2 : Hid (Below w.heap.size w w2) := B1.out.trans (o2.below (by omega) (by have := B1.out.size; omega))
  obtain ⟨av, cv, rfl⟩ := hpv.form
  clear h2 hsm hpv o2 B1 HR1 HS1
  go_wp2_with fail
  refine (pick_any _ (w.heap.size + 1) w2.heap.size 6 ca len cap k2 (HS2.out.alloc _) hmax (by omega) (by omega) (Nat.ne_of_gt HS2.out.lt) (by omega) (by omega) AnyI (fun j hj => ints_at w2 [1, 2, 7, 64, 65, 0] _ AnyI (fun _ _ => trivial) j (by simpa using hj))).mono ?_
  rintro e w3 ⟨x, k3, rfl, -, -, -, -, o3'⟩
  have o3 : Only (w.heap.size + 1) w2 w3 := ((Only.refl _ _).alloc _).trans o3'
  clear o3'
  have HR3 : Hid (w3.heap[w.heap.size]? = some (.cells #[.int .i64 0, .slice none 0 0] 26)) := by show _ = _; rw [o3.block _ (Array.getElem?_eq_some_iff.1 HR2.out).1 (by omega)]; exact HR2.out
  have B3 : Hid (Below w.heap.size w w3) := B2.out.trans (o3.below (by omega) (by have := B2.out.size; omega))
  have HV3 : Hid (PV 78 w3 w1.heap.size (.slice av P.length cv) P) := HV2.out.keeps (onlyKeeps o3) (fun b hb e => by have := (HV2.out.foot hb).1; omega)
  have hzz : w.heap.size < w1.heap.size := by omega
  have r0 : w3.cell? ⟨w.heap.size, 0, none⟩ = some (.int .i64 0) := by rw [cell_of_row w3 _ 0 _ _ _ HR3.out]; rfl
  have r1 : w3.cell? ⟨w.heap.size, 1, none⟩ = some (.slice none 0 0) := by rw [cell_of_row w3 _ 1 _ _ _ HR3.out]; rfl
  have rf : ∀ j, w3.frozen? ⟨w.heap.size, j, none⟩ = false := fun j => by simp [World.frozen?, HR3.out]
  clear o3 HR2 B2 HV2 HS2
  go_wp2
  refine bodyPost_ret (v := .tuple #[segV size (.slice av P.length cv), .int .i64 x]) (by simp [results, Try.results21, go_sem, r0, r1]) rfl ⟨size, _, P.map Prod.fst, x, rfl, ?_, HSm.out, ?_⟩
  · exact PV.see (B := w1.heap.size) ((HV3.out.setLow hzz).setLow hzz)
  · exact (B3.out.setCell (by simp) _).setCell (by simp) _
end Go.Proofs.Ytienmmgkiphkdaa
