/-
  The program's PartsOf: the places of the parts of a datum, or what is wrong; nothing that was there is turned. Its exact law.
-/
import Derived.Test.YtoljpgpkeploiaaGreatDoorFpJ
import Derived.Test.YtoljpgpkeploiaaGreatDoorTreeAtM
import Derived.Test.YtoljpgpkeploiaaGreatDoorLawsD2
namespace Go.Proofs.YtoljpgpkeploiaaGreatDoor
open Go.RowKit Go.Extern.Stop Go.Stop Go.Extern Num Go.Lib Go.Shelf

theorem parts_low {l : List Dat} (F : Fine l) (a : Nat) (ha : a < l.length) : ∀ k, k ≤ a → partsTo l (a : Int) k = []
  | 0, _ => rfl
  | k + 1, h => by
    have hp := F.parent k (by omega)
    simp only [partsTo]
    rw [if_neg (by rw [par_at l k (by omega)]; omega)]
    exact parts_low F a ha k (by omega)
theorem kids_parts {l : List Dat} (F : Fine l) (a : Nat) (ha : a < l.length) : ∀ m, a + m ≤ l.length → kidsT a (tellN (nodes l) a m) = partsTo l (a : Int) (a + m)
  | 0, _ => (parts_low F a ha a (Nat.le_refl _)).symm
  | m + 1, h => by
    have hk : a + m < l.length := by omega
    rw [tellN_next (nodes l) a m (by rw [nodes_len]; exact hk), nodes_at l (a + m) hk]
    show _ = (if par l (a + m) = (a : Int) then partsTo l (a : Int) (a + m) ++ [((a + m : Nat) : Int)] else partsTo l (a : Int) (a + m))
    have ih := kids_parts F a ha m (by omega)
    by_cases hp : par l (a + m) = (a : Int)
    · rw [if_pos hp, kidsT_hit _ _ _ (by show (l[a + m].parent == (a : Int)) = true; rw [← par_at l _ hk]; simpa using hp), ih]
    · rw [if_neg hp, kidsT_miss _ _ _ (by show (l[a + m].parent == (a : Int)) = false; rw [← par_at l _ hk]; simpa using hp), ih]
theorem kids_all {l : List Dat} (F : Fine l) (a : Nat) (ha : a < l.length) : kidsT a (tellN (nodes l) a (endD l a - a)) = partsD l (a : Int) := by
  obtain ⟨h1, h2, _, _⟩ := end_facts l a ha
  rw [kids_parts F a ha _ (by omega), show a + (endD l a - a) = endD l a by omega]
  exact (parts_stop F a ha l.length h2 (Nat.le_refl _)).symm
theorem kids_any (p : Option Addr) (a : Int) (w : World) :
    Calls Tryz.prog 37 #[.pointer p, .int .i64 a] w fun e w' => e = .returned (.func (.func 66) #[] #[.pointer (some ⟨w.heap.size, 0, none⟩), .pointer (some ⟨w.heap.size + 1, 0, none⟩)]) ∧
      w' = (w.alloc (.cells #[.pointer p] 55)).alloc (.cells #[.int .i64 a] 2) := (callsIn_wide (n := 3)).1 (kids_in Fence.wide 3 (fun _ => trivial) rfl p a w)
set_option maxHeartbeats 2000000 in
theorem implParts_any (ao : Option Addr) (cap base : Nat) (l : List Dat) (z : Int) (w : World) (h : w.ownsRow base 61 4 (.slice ao l.length cap) l.length (cellsD l)) (hz : ∀ (k : Nat) (h : k < l.length), l[k].name.size ≤ 1048576) (hL : LT w) :
    Calls Tryz.prog 17 #[.slice ao l.length cap, .int .i64 z] w fun e w' => ∃ ao c, e = .returned (.agg #[.int .i64 (askD l z), .slice ao (outP l z).length c]) ∧ w'.ownsRow w.heap.size 2 1 (.slice ao (outP l z).length c) (outP l z).length (cellsI (outP l z)) ∧ Below w.heap.size w w' := by
  have HT : Hid (∀ o : Obj, Calls Tryz.prog 32 #[.slice ao l.length cap, .int .i64 z] (w.alloc o) fun e w' => AnsA l z (w.alloc o) e w') := fun o => treeAt_any ao cap base l z _ (h.alloc o) hz (hL.alloc o)
  have HZ : Hid (∀ (k : Nat) (h : k < l.length), l[k].name.size ≤ 1048576) := hz
  clear h hz hL
  by_cases ha : askD l z = 0
  · obtain ⟨F, hz0, hzl⟩ := ask_zero ha
    obtain ⟨a, rfl⟩ : ∃ a : Nat, z = (a : Int) := ⟨z.toNat, by omega⟩
    have hal : a < l.length := by omega
    have HT' : Hid (∀ o : Obj, Calls Tryz.prog 32 #[.slice ao l.length cap, .int .i64 (a : Int)] (w.alloc o) fun e w' => e = .returned (.tuple #[.pointer (some ⟨w.heap.size + 1, 0, none⟩), .int .i64 0]) ∧ OwnT (w.heap.size + 1) (w.heap.size + 1) (nodes l) w' ∧ Below (w.heap.size + 1) (w.alloc o) w') := fun o =>
      (HT.out o).mono fun e w' h => by
        rcases h with h | ⟨_, h1, h2, h3⟩
        · exact absurd ha h.1
        · rw [World.size_alloc] at h1 h2 h3; exact ⟨h1, h2, h3⟩
    have eo : outP l (a : Int) = partsD l (a : Int) := by unfold outP; rw [if_pos ha]
    have HD : Hid (∀ (u : World) (b : Nat), u.heap.size = b + 2 → u.cell? ⟨b, 0, none⟩ = some (.pointer (some ⟨w.heap.size + 1, 0, none⟩)) → u.cell? ⟨b + 1, 0, none⟩ = some (.int .i64 (a : Int)) → IsTree u.heap.size u (w.heap.size + 1) (nodes l) →
        Calls Tryz.prog 36 #[.func (.func 66) #[] #[.pointer (some ⟨b, 0, none⟩), .pointer (some ⟨b + 1, 0, none⟩)]] u fun r W' => ∃ ao c, r = .returned (.slice ao (partsD l (a : Int)).length c) ∧ W'.ownsRow u.heap.size 2 1 (.slice ao (partsD l (a : Int)).length c) (partsD l (a : Int)).length (cellsI (partsD l (a : Int))) ∧ Below u.heap.size u W') := fun u b hs c1 c2 hu => by
      have := collect_in 9 (by omega) (b + 1) b b (b + 2) _ (nodes l) a (endD l a) (endAt_of F a hal) (by rw [nodes_len]; have := F.len; omega) (pdn_nodes F HZ.out) u c2 c1 (by omega) (by omega) (by omega) (by omega) hu
      rw [kids_all F a hal] at this
      exact this
    rw [eo, ha]
    clear HT ha eo hz0 hzl
    generalize partsD l (a : Int) = D at HD ⊢
    go_enter Tryz.func17, Tryz.ntmps17
    go_wp2_with fail
    refine (HT'.out _).mono ?_
    rintro e w1 ⟨rfl, ho, hb⟩
    have HO : Hid (OwnT (w.heap.size + 1) (w.heap.size + 1) (nodes l) w1) := ho
    obtain ⟨hc1, hf1⟩ := bcell (W := w.alloc (.cells #[.int .i64 0, .slice none 0 0] 40)) (by rw [World.size_alloc]; exact hb)
    have hs1 : w.heap.size < w1.heap.size := by have := hb.size; simp at this; omega
    have HB1 : Hid (Below w.heap.size w w1) := ((Below.refl _ w).alloc (Nat.le_refl _) _).trans (hb.mono (by omega))
    clear ho hb
    go_wp2_with fail
    refine (kids_any _ _ _).mono ?_
    rintro e w2 ⟨rfl, hw2⟩
    have hs2 : w2.heap.size = w1.heap.size + 2 := by rw [hw2]; simp
    have b2 : Below w1.heap.size w1 w2 := by rw [hw2]; exact ((Below.refl _ _).alloc (Nat.le_refl _) _).alloc (by simp) _
    have k1 : w2.cell? ⟨w1.heap.size, 0, none⟩ = some (.pointer (some ⟨w.heap.size + 1, 0, none⟩)) := by rw [hw2]; simp
    have k2 : w2.cell? ⟨w1.heap.size + 1, 0, none⟩ = some (.int .i64 (a : Int)) := by rw [hw2]; simp
    have HT2 : Hid (IsTree w2.heap.size w2 (w.heap.size + 1) (nodes l)) := (HO.out.below b2).tree
    have HC : Hid (Calls Tryz.prog 36 #[.func (.func 66) #[] #[.pointer (some ⟨w1.heap.size, 0, none⟩), .pointer (some ⟨w1.heap.size + 1, 0, none⟩)]] w2 fun r W' => ∃ ao c, r = .returned (.slice ao D.length c) ∧ W'.ownsRow w2.heap.size 2 1 (.slice ao D.length c) D.length (cellsI D) ∧ Below w2.heap.size w2 W') := HD.out w2 _ hs2 k1 k2 HT2.out
    have HB2 : Hid (Below w.heap.size w w2) := HB1.out.trans (b2.mono (by omega))
    obtain ⟨hc2, hf2⟩ := bcell b2
    clear hw2 k1 k2 b2
    go_wp2_with fail
    refine HC.out.mono ?_
    rintro e w3 ⟨ao', c', rfl, ho3, hb3⟩
    obtain ⟨hc3, hf3⟩ := bcell hb3
    have HO3 : Hid (w3.ownsRow w2.heap.size 2 1 (.slice ao' D.length c') D.length (cellsI D)) := ho3
    have HB3 : Hid (Below w.heap.size w w3) := HB2.out.trans (hb3.mono (by omega))
    have hs3 := hb3.size
    have hl2 : w.heap.size < w2.heap.size := by omega
    have d0 : w3.cell? ⟨w.heap.size, 0, none⟩ = some (.int .i64 0) := by rw [hc3 _ _ hl2, hc2 _ _ hs1, hc1 _ _ (by simp)]; simp
    have d1 : w3.cell? ⟨w.heap.size, 1, none⟩ = some (.slice none 0 0) := by rw [hc3 _ _ hl2, hc2 _ _ hs1, hc1 _ _ (by simp)]; simp
    have f0 : w3.frozen? ⟨w.heap.size, 0, none⟩ = false := by rw [hf3 _ _ hl2, hf2 _ _ hs1, hf1 _ _ (by simp)]; simp
    have f1 : w3.frozen? ⟨w.heap.size, 1, none⟩ = false := by rw [hf3 _ _ hl2, hf2 _ _ hs1, hf1 _ _ (by simp)]; simp
    have HS : Hid (w2.heap.size = w1.heap.size + 2) := hs2
    clear ho3 hb3 hs2 hc1 hc2 hc3 hf1 hf2 hf3
    go_wp2
    refine bodyPost_ret (v := .agg #[.int .i64 0, .slice ao' D.length c']) (by simp [results, Tryz.results17, go_sem, d0, d1]) rfl ⟨ao', c', rfl, ?_, ?_⟩
    · refine own_base (base := w2.heap.size) ?_ (by have := HS.out; omega)
      repeat (first | exact HO3.out | refine own_set_low ?_ hl2 _)
    · repeat (first | exact HB3.out | refine Below.setCell ?_ (by simp) _)
  · have HT' : Hid (∀ o : Obj, Calls Tryz.prog 32 #[.slice ao l.length cap, .int .i64 z] (w.alloc o) fun e w' => e = .returned (.tuple #[.pointer none, .int .i64 (askD l z)]) ∧ Below (w.heap.size + 1) (w.alloc o) w') := fun o =>
      (HT.out o).mono fun e w' h => by
        rcases h with ⟨_, h1, h2⟩ | h
        · rw [World.size_alloc] at h2; exact ⟨h1, h2⟩
        · exact absurd h.1 ha
    have eo : outP l z = [] := by unfold outP; rw [if_neg ha]
    rw [eo]
    clear HT eo
    generalize askD l z = k at HT' ha ⊢
    have hne : (k != 0) = true := by simpa using ha
    go_enter Tryz.func17, Tryz.ntmps17
    go_wp2_with fail
    refine (HT'.out _).mono ?_
    rintro e w1 ⟨rfl, hb⟩
    obtain ⟨hc1, hf1⟩ := bcell (W := w.alloc (.cells #[.int .i64 0, .slice none 0 0] 40)) (by rw [World.size_alloc]; exact hb)
    have HB1 : Hid (Below w.heap.size w w1) := ((Below.refl _ w).alloc (Nat.le_refl _) _).trans (hb.mono (by omega))
    clear hb
    go_wp2
    refine bodyPost_ret (v := .agg #[.int .i64 k, .slice none 0 0]) (by simp [results, Tryz.results17, go_sem, hc1]) rfl ⟨none, 0, rfl, World.ownsRow_nil _ _ _ _, ?_⟩
    repeat (first | exact HB1.out | refine Below.setCell ?_ (by simp) _)
end Go.Proofs.YtoljpgpkeploiaaGreatDoor
