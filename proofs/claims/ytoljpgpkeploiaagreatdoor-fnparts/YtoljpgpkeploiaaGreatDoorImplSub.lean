/-
  The program's treeAt and SubData: what is taken out of data at a place, or what is wrong; nothing that was there is turned.
-/
import Derived.Test.YtoljpgpkeploiaaGreatDoorTreeAtM
import Derived.Test.YtoljpgpkeploiaaGreatDoorLawsDS
namespace Go.Proofs.YtoljpgpkeploiaaGreatDoor
open Go.RowKit Go.Extern.Stop Go.Stop Go.Extern Num Go.Lib Go.Shelf

set_option maxHeartbeats 1000000 in
theorem implSub_any (ao : Option Addr) (cap base : Nat) (l : List Dat) (z : Int) (w : World) (h : w.ownsRow base 61 4 (.slice ao l.length cap) l.length (cellsD l)) (hz : ∀ (k : Nat) (h : k < l.length), l[k].name.size ≤ 1048576) (hL : LT w) :
    Calls Tryz.prog 15 #[.slice ao l.length cap, .int .i64 z] w fun e w' => ∃ ao c, e = .returned (.agg #[.int .i64 (askD l z), .int .i64 0, .slice ao (outS l z).length c]) ∧ w'.ownsRow w.heap.size 61 4 (.slice ao (outS l z).length c) (outS l z).length (cellsD (outS l z)) ∧ Below w.heap.size w w' := by
  have HT : Hid (∀ o : Obj, Calls Tryz.prog 32 #[.slice ao l.length cap, .int .i64 z] (w.alloc o) fun e w' => AnsA l z (w.alloc o) e w') := fun o => treeAt_any ao cap base l z _ (h.alloc o) hz (hL.alloc o)
  have HZ : Hid (∀ (k : Nat) (h : k < l.length), l[k].name.size ≤ 1048576) := hz
  clear h hz hL
  by_cases ha : askD l z = 0
  · obtain ⟨F, hz0, hzl⟩ := ask_zero ha
    obtain ⟨a, rfl⟩ : ∃ a : Nat, z = (a : Int) := ⟨z.toNat, by omega⟩
    have hal : a < l.length := by omega
    have HT' : Hid (∀ o : Obj, Calls Tryz.prog 32 #[.slice ao l.length cap, .int .i64 (a : Int)] (w.alloc o) fun e w' => e = .returned (.tuple #[.pointer (some ⟨w.heap.size + 1, 0, none⟩), .int .i64 0]) ∧ OwnT (w.heap.size + 1) (w.heap.size + 1) (nodes l) w' ∧ Below (w.heap.size + 1) (w.alloc o) w') := fun o =>
      (HT.out o).mono fun e w' h => by
        rcases h with h | ⟨_, h1, h2, h3⟩
        · exact absurd ha h.1
        · rw [World.size_alloc] at h1 h2 h3; exact ⟨h1, h2, h3⟩
    have eo : outS l (a : Int) = subD l a := by unfold outS; rw [if_pos ha]; simp
    have HD : Hid (∀ u : World, IsTree u.heap.size u (w.heap.size + 1) (nodes l) → Calls Tryz.prog 33 #[.pointer (some ⟨w.heap.size + 1, 0, none⟩), .int .i64 (a : Int)] u fun r W' => ∃ ao c, r = .returned (.slice ao (subD l a).length c) ∧ W'.ownsRow u.heap.size 61 4 (.slice ao (subD l a).length c) (subD l a).length (cellsD (subD l a)) ∧ Below u.heap.size u W') := fun u hu => by
      refine ((callsIn_wide (n := 9)).1 (dataBelow_in 9 (by omega) _ (nodes l) a (endD l a) (endAt_of F a hal) (by rw [nodes_len]; have := F.len; omega) (pdn_nodes F HZ.out) u hu)).mono ?_
      rintro r W' ⟨v, rfl, h1, h2⟩
      rw [told_sub F a hal] at h1
      obtain ⟨ao, c, rfl⟩ := own_form h1
      exact ⟨ao, c, rfl, h1, h2⟩
    rw [eo, ha]
    clear HT ha eo hz0 hzl
    generalize subD l a = D at HD ⊢
    go_enter Tryz.func15, Tryz.ntmps15
    go_wp2_with fail
    refine (HT'.out _).mono ?_
    rintro e w1 ⟨rfl, ho, hb⟩
    have HO : Hid (OwnT (w.heap.size + 1) (w.heap.size + 1) (nodes l) w1) := ho
    obtain ⟨hc1, hf1⟩ := bcell (W := w.alloc (.cells #[.int .i64 0, .int .i64 0, .slice none 0 0] 27)) (by rw [World.size_alloc]; exact hb)
    have hs1 : w.heap.size < w1.heap.size := by have := hb.size; simp at this; omega
    have HB1 : Hid (Below w.heap.size w w1) := ((Below.refl _ w).alloc (Nat.le_refl _) _).trans (hb.mono (by omega))
    clear ho hb
    go_wp2_with fail
    refine (HD.out _ HO.out.tree).mono ?_
    rintro e w2 ⟨ao', c', rfl, ho2, hb2⟩
    obtain ⟨hc2, hf2⟩ := bcell hb2
    have HO2 : Hid (w2.ownsRow w1.heap.size 61 4 (.slice ao' D.length c') D.length (cellsD D)) := ho2
    have HB2 : Hid (Below w.heap.size w w2) := HB1.out.trans (hb2.mono (by omega))
    have hs2 := hb2.size
    have d0 : w2.cell? ⟨w.heap.size, 0, none⟩ = some (.int .i64 0) := by rw [hc2 _ _ hs1, hc1 _ _ (by simp)]; simp
    have d1 : w2.cell? ⟨w.heap.size, 1, none⟩ = some (.int .i64 0) := by rw [hc2 _ _ hs1, hc1 _ _ (by simp)]; simp
    have d2 : w2.cell? ⟨w.heap.size, 2, none⟩ = some (.slice none 0 0) := by rw [hc2 _ _ hs1, hc1 _ _ (by simp)]; simp
    clear ho2 hb2
    go_wp2
    refine bodyPost_ret (v := .agg #[.int .i64 0, .int .i64 0, .slice ao' D.length c']) (by simp [results, Tryz.results15, go_sem, d0, d1, d2]) rfl ⟨ao', c', rfl, ?_, ?_⟩
    · refine own_base (base := w1.heap.size) ?_ (by omega)
      repeat (first | exact HO2.out | refine own_set_low ?_ hs1 _)
    · repeat (first | exact HB2.out | refine Below.setCell ?_ (by simp) _)
  · have HT' : Hid (∀ o : Obj, Calls Tryz.prog 32 #[.slice ao l.length cap, .int .i64 z] (w.alloc o) fun e w' => e = .returned (.tuple #[.pointer none, .int .i64 (askD l z)]) ∧ Below (w.heap.size + 1) (w.alloc o) w') := fun o =>
      (HT.out o).mono fun e w' h => by
        rcases h with ⟨_, h1, h2⟩ | h
        · rw [World.size_alloc] at h2; exact ⟨h1, h2⟩
        · exact absurd h.1 ha
    have eo : outS l z = [] := by unfold outS; rw [if_neg ha]
    rw [eo]
    clear HT eo
    generalize askD l z = k at HT' ha ⊢
    have hne : (k != 0) = true := by simpa using ha
    go_enter Tryz.func15, Tryz.ntmps15
    go_wp2_with fail
    refine (HT'.out _).mono ?_
    rintro e w1 ⟨rfl, hb⟩
    obtain ⟨hc1, hf1⟩ := bcell (W := w.alloc (.cells #[.int .i64 0, .int .i64 0, .slice none 0 0] 27)) (by rw [World.size_alloc]; exact hb)
    have HB1 : Hid (Below w.heap.size w w1) := ((Below.refl _ w).alloc (Nat.le_refl _) _).trans (hb.mono (by omega))
    clear hb
    go_wp2
    refine bodyPost_ret (v := .agg #[.int .i64 k, .int .i64 0, .slice none 0 0]) (by simp [results, Tryz.results15, go_sem, hc1]) rfl ⟨none, 0, rfl, World.ownsRow_nil _ _ _ _, ?_⟩
    repeat (first | exact HB1.out | refine Below.setCell ?_ (by simp) _)
end Go.Proofs.YtoljpgpkeploiaaGreatDoor
