/-
  The program's treeAt: the tree of data and a place in it, or what is wrong; nothing that was there is turned.
-/
import Derived.Test.YtoljpgpkeploiaaGreatDoorTreeW
import Derived.Test.YtoljpgpkeploiaaGreatDoorFpJ
namespace Go.Proofs.YtoljpgpkeploiaaGreatDoor
open Go.RowKit Go.Extern.Stop Go.Stop Go.Extern Num Go.Lib Go.Shelf

/-- What treeAt answers. -/
def AnsA (l : List Dat) (z : Int) (w : World) (e : Ending) (w' : World) : Prop :=
  (askD l z ≠ 0 ∧ e = .returned (.tuple #[.pointer none, .int .i64 (askD l z)]) ∧ Below w.heap.size w w') ∨
  (askD l z = 0 ∧ e = .returned (.tuple #[.pointer (some ⟨w.heap.size, 0, none⟩), .int .i64 0]) ∧ OwnT w.heap.size w.heap.size (nodes l) w' ∧ Below w.heap.size w w')
set_option maxHeartbeats 1000000 in
theorem treeAt_any (ao : Option Addr) (cap base : Nat) (l : List Dat) (z : Int) (w : World) (h : w.ownsRow base 61 4 (.slice ao l.length cap) l.length (cellsD l)) (hz : ∀ (k : Nat) (h : k < l.length), l[k].name.size ≤ 1048576) (hL : LT w) :
    Calls Tryz.prog 32 #[.slice ao l.length cap, .int .i64 z] w fun e w' => AnsA l z w e w' := by
  have HT : Hid (Calls Tryz.prog 26 #[.slice ao l.length cap] w fun e w' => AnsTr l w e w') := treeOf_any ao cap base l w h hz hL
  clear h hz hL
  by_cases hf : dataFault l = 0
  · have HT' : Hid (Calls Tryz.prog 26 #[.slice ao l.length cap] w fun e w' => e = .returned (.tuple #[.pointer (some ⟨w.heap.size, 0, none⟩), .int .i64 0]) ∧ OwnT w.heap.size w.heap.size (nodes l) w' ∧ Below w.heap.size w w') :=
      HT.out.mono fun e w' h => h.elim (fun h => absurd hf h.1) (fun h => h.2)
    clear HT
    by_cases hn : z < 0
    · have ea : askD l z = 3 := by unfold askD; rw [if_neg (by simp [hf]), if_neg (by omega)]
      go_enter Tryz.func32, Tryz.ntmps32
      go_wp2_with (go_at_call 26; refine HT'.out.mono ?_; rintro e w1 ⟨rfl, ho, hb⟩)
      exact bodyPost_ret (v := .tuple #[.pointer none, .int .i64 3]) (by simp [results, Tryz.results32, go_sem]) rfl (Or.inl ⟨by rw [ea]; decide, by rw [ea], hb⟩)
    · by_cases hm : (l.length : Int) ≤ z
      · have ea : askD l z = 3 := by unfold askD; rw [if_neg (by simp [hf]), if_neg (by omega)]
        have hm' : ((nodes l).length : Int) ≤ z := by rw [nodes_len]; exact hm
        have h0 : 0 ≤ z := by omega
        go_enter Tryz.func32, Tryz.ntmps32
        go_wp2_with (first | (go_at_call 26; refine HT'.out.mono ?_; rintro e w1 ⟨rfl, ho, hb⟩; have HO : Hid (OwnT w.heap.size w.heap.size (nodes l) w1) := ho; clear ho) | (go_at_call 61; refine (size_any _ _ _ _ HO.out.tree).mono ?_; rintro e w2 ⟨rfl, hw2⟩; replace hw2 := hw2.symm; subst hw2))
        exact bodyPost_ret (v := .tuple #[.pointer none, .int .i64 3]) (by simp [results, Tryz.results32, go_sem]) rfl (Or.inl ⟨by rw [ea]; decide, by rw [ea], hb⟩)
      · have ea : askD l z = 0 := by unfold askD; rw [if_neg (by simp [hf]), if_pos (by omega)]
        have hm' : z < ((nodes l).length : Int) := by rw [nodes_len]; omega
        have h0 : 0 ≤ z := by omega
        go_enter Tryz.func32, Tryz.ntmps32
        go_wp2_with (first | (go_at_call 26; refine HT'.out.mono ?_; rintro e w1 ⟨rfl, ho, hb⟩; have HO : Hid (OwnT w.heap.size w.heap.size (nodes l) w1) := ho; clear ho) | (go_at_call 61; refine (size_any _ _ _ _ HO.out.tree).mono ?_; rintro e w2 ⟨rfl, hw2⟩; replace hw2 := hw2.symm; subst hw2))
        exact bodyPost_ret (v := .tuple #[.pointer (some ⟨w.heap.size, 0, none⟩), .int .i64 0]) (by simp [results, Tryz.results32, go_sem]) rfl (Or.inr ⟨ea, rfl, HO.out, hb⟩)
  · have ea : askD l z = dataFault l := by unfold askD; rw [if_pos hf]
    have HT' : Hid (Calls Tryz.prog 26 #[.slice ao l.length cap] w fun e w' => e = .returned (.tuple #[.pointer none, .int .i64 (dataFault l)]) ∧ Below w.heap.size w w') :=
      HT.out.mono fun e w' h => h.elim (fun h => h.2) (fun h => absurd h.1 hf)
    clear HT
    obtain ⟨df, hdf⟩ : ∃ df, df = dataFault l := ⟨_, rfl⟩
    rw [← hdf] at HT' ea hf
    have hne : (df != 0) = true := by simpa using hf
    clear hdf
    go_enter Tryz.func32, Tryz.ntmps32
    go_wp2_with (go_at_call 26; refine HT'.out.mono ?_; rintro e w1 ⟨rfl, hb⟩)
    exact bodyPost_ret (v := .tuple #[.pointer none, .int .i64 df]) (by simp [results, Tryz.results32, go_sem]) rfl (Or.inl ⟨by rw [ea]; exact hf, by rw [ea], hb⟩)
theorem pdn_nodes {l : List Dat} (F : Fine l) (hz : ∀ (k : Nat) (h : k < l.length), l[k].name.size ≤ 1048576) : ∀ (k : Nat) (h : k < (nodes l).length), PdN ((k : Int), (nodes l)[k]) := fun k h => by
  have hk : k < l.length := by rw [nodes_len] at h; exact h
  rw [nodes_at l k hk]
  have := F.parent k hk
  have := F.len
  exact ⟨hz k hk, by show -1 ≤ l[k].parent; omega, by show l[k].parent < 1000; omega⟩
end Go.Proofs.YtoljpgpkeploiaaGreatDoor
