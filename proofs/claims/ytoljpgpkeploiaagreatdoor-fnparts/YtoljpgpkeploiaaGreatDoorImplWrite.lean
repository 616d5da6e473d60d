/-
  The program's WriteData: the text of data, or what is wrong; nothing that was there is turned. Its exact law.
-/
import Derived.Test.YtoljpgpkeploiaaGreatDoorFpK
import Derived.Test.YtoljpgpkeploiaaGreatDoorLawsD3
namespace Go.Proofs.YtoljpgpkeploiaaGreatDoor
open Go.RowKit Go.Extern.Stop Go.Stop Go.Extern Num Go.Lib Go.Shelf

set_option maxHeartbeats 2000000 in
theorem implWD_any (ao : Option Addr) (cap base : Nat) (l : List Dat) (w : World) (h : w.ownsRow base 61 4 (.slice ao l.length cap) l.length (cellsD l)) (hz : ∀ (k : Nat) (h : k < l.length), l[k].name.size ≤ 1048576) (hL : LT w) :
    Calls Tryz.prog 11 #[.slice ao l.length cap] w fun e w' => e = .returned (WD l) ∧ Below w.heap.size w w' := by
  have HT : Hid (∀ o : Obj, Calls Tryz.prog 26 #[.slice ao l.length cap] (w.alloc o) fun e w' => AnsTr l (w.alloc o) e w') := fun o => treeOf_any ao cap base l _ (h.alloc o) hz (hL.alloc o)
  clear h
  by_cases hf : dataFault l = 0
  · have F := fine_of hf
    have HT' : Hid (∀ o : Obj, Calls Tryz.prog 26 #[.slice ao l.length cap] (w.alloc o) fun e w' => e = .returned (.tuple #[.pointer (some ⟨w.heap.size + 1, 0, none⟩), .int .i64 0]) ∧ OwnT (w.heap.size + 1) (w.heap.size + 1) (nodes l) w' ∧ Below (w.heap.size + 1) (w.alloc o) w') := fun o =>
      (HT.out o).mono fun e w' h => by
        rcases h with h | ⟨_, h1, h2, h3⟩
        · exact absurd hf h.1
        · rw [World.size_alloc] at h1 h2 h3; exact ⟨h1, h2, h3⟩
    have HW : Hid (∀ (u : World) (tb : Nat), LT u → IsTree u.heap.size u tb (nodes l) → Calls Tryz.prog 28 #[.pointer (some ⟨tb, 0, none⟩)] u fun e W' => e = .returned (.string ⟨(writeF l l.length 0).toArray⟩) ∧ Below u.heap.size u W') := fun u tb hu hT => wt_any F (pdn_nodes F hz) F.pos hz tb u hu hT
    have ew : WD l = if 400 < (writeF l l.length 0).length then .agg #[.int .i64 2, .string ⟨#[]⟩] else .agg #[.int .i64 0, S (writeF l l.length 0)] := by unfold WD; rw [if_pos hf]; rfl
    have hsm := write_small F l.length 0 F.pos
    rw [ew]
    clear HT hf ew hz
    generalize writeF l l.length 0 = T at HW hsm ⊢
    have hsz : (⟨T.toArray⟩ : ByteArray).size = T.length := by simp [ByteArray.size]
    by_cases h4 : 400 < T.length
    · rw [if_pos h4]
      have h5 : (400 : Int) < ((⟨T.toArray⟩ : ByteArray).size : Int) := by omega
      have HL : Hid (LT w) := hL
      clear hL hsm h4 hsz
      generalize (⟨T.toArray⟩ : ByteArray) = tx at HW h5
      go_enter Tryz.func11, Tryz.ntmps11
      go_wp2_with fail
      refine (HT'.out _).mono ?_
      rintro e w1 ⟨rfl, ho, hb⟩
      have HO : Hid (OwnT (w.heap.size + 1) (w.heap.size + 1) (nodes l) w1) := ho
      obtain ⟨hc1, hf1⟩ := bcell (W := w.alloc (.cells #[.int .i64 0, .string ⟨#[]⟩] 32)) (by rw [World.size_alloc]; exact hb)
      have HB1 : Hid (Below w.heap.size w w1) := ((Below.refl _ w).alloc (Nat.le_refl _) _).trans (hb.mono (by omega))
      have hs1 : w.heap.size < w1.heap.size := by have := hb.size; simp at this; omega
      have HL1 : Hid (LT w1) := HL.out.below HB1.out
      clear ho hb
      go_wp2_with fail
      refine (HW.out _ _ HL1.out HO.out.tree).mono ?_
      rintro e w2 ⟨rfl, b2⟩
      obtain ⟨hc2, hf2⟩ := bcell b2
      have HB2 : Hid (Below w.heap.size w w2) := HB1.out.trans (b2.mono (by omega))
      clear b2
      have d0 : w2.cell? ⟨w.heap.size, 0, none⟩ = some (.int .i64 0) := by rw [hc2 _ _ hs1, hc1 _ _ (by simp)]; simp
      have d1 : w2.cell? ⟨w.heap.size, 1, none⟩ = some (.string ⟨#[]⟩) := by rw [hc2 _ _ hs1, hc1 _ _ (by simp)]; simp
      have f0 : w2.frozen? ⟨w.heap.size, 0, none⟩ = false := by rw [hf2 _ _ hs1, hf1 _ _ (by simp)]; simp
      have f1 : w2.frozen? ⟨w.heap.size, 1, none⟩ = false := by rw [hf2 _ _ hs1, hf1 _ _ (by simp)]; simp
      clear hc1 hc2 hf1 hf2
      go_wp2
      refine bodyPost_ret (v := .agg #[.int .i64 2, .string ⟨#[]⟩]) (by simp [results, Tryz.results11, go_sem, d0, d1]) rfl ⟨rfl, ?_⟩
      repeat (first | exact HB2.out | refine Below.setCell ?_ (by simp) _)
    · rw [if_neg h4]
      have h5 : ((⟨T.toArray⟩ : ByteArray).size : Int) ≤ 400 := by omega
      have HL : Hid (LT w) := hL
      clear hL hsm h4 hsz
      show Calls Tryz.prog _ _ _ fun e w' => e = .returned (.agg #[.int .i64 0, .string ⟨T.toArray⟩]) ∧ _
      generalize (⟨T.toArray⟩ : ByteArray) = tx at HW h5 ⊢
      go_enter Tryz.func11, Tryz.ntmps11
      go_wp2_with fail
      refine (HT'.out _).mono ?_
      rintro e w1 ⟨rfl, ho, hb⟩
      have HO : Hid (OwnT (w.heap.size + 1) (w.heap.size + 1) (nodes l) w1) := ho
      obtain ⟨hc1, hf1⟩ := bcell (W := w.alloc (.cells #[.int .i64 0, .string ⟨#[]⟩] 32)) (by rw [World.size_alloc]; exact hb)
      have HB1 : Hid (Below w.heap.size w w1) := ((Below.refl _ w).alloc (Nat.le_refl _) _).trans (hb.mono (by omega))
      have hs1 : w.heap.size < w1.heap.size := by have := hb.size; simp at this; omega
      have HL1 : Hid (LT w1) := HL.out.below HB1.out
      clear ho hb
      go_wp2_with fail
      refine (HW.out _ _ HL1.out HO.out.tree).mono ?_
      rintro e w2 ⟨rfl, b2⟩
      obtain ⟨hc2, hf2⟩ := bcell b2
      have HB2 : Hid (Below w.heap.size w w2) := HB1.out.trans (b2.mono (by omega))
      clear b2
      have d0 : w2.cell? ⟨w.heap.size, 0, none⟩ = some (.int .i64 0) := by rw [hc2 _ _ hs1, hc1 _ _ (by simp)]; simp
      have d1 : w2.cell? ⟨w.heap.size, 1, none⟩ = some (.string ⟨#[]⟩) := by rw [hc2 _ _ hs1, hc1 _ _ (by simp)]; simp
      have f0 : w2.frozen? ⟨w.heap.size, 0, none⟩ = false := by rw [hf2 _ _ hs1, hf1 _ _ (by simp)]; simp
      have f1 : w2.frozen? ⟨w.heap.size, 1, none⟩ = false := by rw [hf2 _ _ hs1, hf1 _ _ (by simp)]; simp
      clear hc1 hc2 hf1 hf2
      go_wp2
      refine bodyPost_ret (v := .agg #[.int .i64 0, .string tx]) (by simp [results, Tryz.results11, go_sem, d0, d1]) rfl ⟨rfl, ?_⟩
      repeat (first | exact HB2.out | refine Below.setCell ?_ (by simp) _)
  · have HT' : Hid (∀ o : Obj, Calls Tryz.prog 26 #[.slice ao l.length cap] (w.alloc o) fun e w' => e = .returned (.tuple #[.pointer none, .int .i64 (dataFault l)]) ∧ Below (w.heap.size + 1) (w.alloc o) w') := fun o =>
      (HT.out o).mono fun e w' h => by
        rcases h with ⟨_, h1, h2⟩ | h
        · rw [World.size_alloc] at h2; exact ⟨h1, h2⟩
        · exact absurd h.1 hf
    have ew : WD l = .agg #[.int .i64 (dataFault l), .string ⟨#[]⟩] := by unfold WD; rw [if_neg hf]
    rw [ew]
    clear HT ew hz hL
    generalize dataFault l = k at HT' hf ⊢
    have hne : (k != 0) = true := by simpa using hf
    go_enter Tryz.func11, Tryz.ntmps11
    go_wp2_with fail
    refine (HT'.out _).mono ?_
    rintro e w1 ⟨rfl, hb⟩
    obtain ⟨hc1, hf1⟩ := bcell (W := w.alloc (.cells #[.int .i64 0, .string ⟨#[]⟩] 32)) (by rw [World.size_alloc]; exact hb)
    have HB1 : Hid (Below w.heap.size w w1) := ((Below.refl _ w).alloc (Nat.le_refl _) _).trans (hb.mono (by omega))
    clear hb
    go_wp2
    refine bodyPost_ret (v := .agg #[.int .i64 k, .string ⟨#[]⟩]) (by simp [results, Tryz.results11, go_sem, hc1]) rfl ⟨rfl, ?_⟩
    repeat (first | exact HB1.out | refine Below.setCell ?_ (by simp) _)
end Go.Proofs.YtoljpgpkeploiaaGreatDoor
