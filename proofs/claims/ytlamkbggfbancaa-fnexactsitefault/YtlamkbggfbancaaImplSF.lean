/-
  The program's SiteFault; nothing that was there is turned.
-/
import Derived.Test.YtlamkbggfbancaaImplGt
namespace Go.Proofs.Ytlamkbggfbancaa
open Go.RowKit Go.Extern.Stop Go.Stop Go.Extern Num Go.Lib

set_option maxRecDepth 100000 in
set_option maxHeartbeats 2000000 in
theorem implSF_any (ao : Option Addr) (cap g : Nat) (l : List Glb) (s : ByteArray) (t : Ste) (w : World) (hl : l.length ≤ 1048576) (hao : 0 < l.length → ao = some ⟨g, 0, none⟩) (hr : RowG w g l) (hz : ableG l) (hs : s.size ≤ 9223372036854775807) (ht : t.value.name.size ≤ 9223372036854775807) :
    Calls Try.prog 22 #[.slice ao l.length cap, .string s, t.val] w fun e w' => e = .returned (.int .i64 (codeSF l s t)) ∧ Below w.heap.size w w' := by
  obtain ⟨R, hR⟩ : ∃ R, R = codeSF l s t := ⟨_, rfl⟩
  have HC : Hid (∀ u, Below w.heap.size w u → Calls Try.prog 57 #[.slice ao l.length cap, .string s, t.val] u fun e w' => AnsGt u l s t R e w') := fun u hu => by rw [hR]; exact globalsAt_any ao cap g l s t u hl hao (hr.below hu) hz hs ht
  rw [← hR]
  clear hR hl hao hr hz hs ht
  go_enter Try.func22, Try.ntmps22
  go_wp2_with fail
  refine (HC.out _ ((Below.refl _ _).alloc (Nat.le_refl _) _)).mono ?_
  rintro e w1 ⟨C, x, m, rfl, hCs, hCa, _, hb⟩
  have HB0 : Hid (Below w.heap.size w w1) := Below.trans ((Below.refl _ w).alloc (Nat.le_refl _) _) (hb.mono (by simp))
  have z1 : w.heap.size < w1.heap.size := by have := hb.size; simp at this; omega
  have HT : Hid ((((w1.alloc (.cells Try.zeroCells82 82)).alloc (.cells #[.int .u8 0, .int .u64 0] 77)).alloc (.cells #[.int .i64 0, .int .u8 0, .int .u64 0] 100)).there w1.heap.size 0 C.size) := by rw [hCs]; exact World.there_alloc (World.there_alloc (there_new w1 _ _ (by simp)) _) _
  have HCa : Hid (C.all (·.oneCell') = true) := hCa
  obtain ⟨U, hU⟩ : ∃ U, U = (((w1.alloc (.cells Try.zeroCells82 82)).alloc (.cells #[.int .u8 0, .int .u64 0] 77)).alloc (.cells #[.int .i64 0, .int .u8 0, .int .u64 0] 100)).setCells w1.heap.size 0 C.toList := ⟨_, rfl⟩
  have HU : Hid (U = (((w1.alloc (.cells Try.zeroCells82 82)).alloc (.cells #[.int .u8 0, .int .u64 0] 77)).alloc (.cells #[.int .i64 0, .int .u8 0, .int .u64 0] 100)).setCells w1.heap.size 0 C.toList) := hU
  have HB : Hid (Below w.heap.size w U) := by rw [hU]; exact below_setCells (((HB0.out.alloc (by omega) _).alloc (by simp; omega) _).alloc (by simp; omega) _) (by omega) _ _
  have u0 : U.cell? ⟨w1.heap.size + 1, 0, none⟩ = some (.int .u8 0) := by rw [hU, cell_setCells (by omega), World.cell?_alloc_past _ _ _ (by simp), World.cell?_alloc_at _ _ _ _ (by simp)]; rfl
  have u1 : U.cell? ⟨w1.heap.size + 1, 1, none⟩ = some (.int .u64 0) := by rw [hU, cell_setCells (by omega), World.cell?_alloc_past _ _ _ (by simp), World.cell?_alloc_at _ _ _ _ (by simp)]; rfl
  have uf : ∀ o, U.frozen? ⟨w1.heap.size + 1, o, none⟩ = false := fun o => by rw [hU, World.frozen?_setCells, World.frozen?_alloc_past _ _ _ (by simp), World.frozen?_alloc_at _ _ _ _ (by simp)]
  have v0 : U.cell? ⟨w1.heap.size + 1 + 1, 0, none⟩ = some (.int .i64 0) := by rw [hU, cell_setCells (by omega), World.cell?_alloc_at _ _ _ _ (by simp)]; rfl
  have v1 : U.cell? ⟨w1.heap.size + 1 + 1, 1, none⟩ = some (.int .u8 0) := by rw [hU, cell_setCells (by omega), World.cell?_alloc_at _ _ _ _ (by simp)]; rfl
  have v2 : U.cell? ⟨w1.heap.size + 1 + 1, 2, none⟩ = some (.int .u64 0) := by rw [hU, cell_setCells (by omega), World.cell?_alloc_at _ _ _ _ (by simp)]; rfl
  have vf : ∀ o, U.frozen? ⟨w1.heap.size + 1 + 1, o, none⟩ = false := fun o => by rw [hU, World.frozen?_setCells, World.frozen?_alloc_at _ _ _ _ (by simp)]
  clear hb hCa hU
  go_wp2_with (refine wpList_store_mid rfl 82 _ _ rfl w1.heap.size 0 C rfl rfl HT.out (by rw [infoGl, hCs]) HCa.out ?_; rw [← HU.out])
  go_ret
  exact ⟨rfl, by repeat (first | refine Below.setCell ?_ (by simp <;> omega) _ | exact HB.out)⟩
end Go.Proofs.Ytlamkbggfbancaa
