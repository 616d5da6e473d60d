/-
  The laws' lwNums at lists of which the same is read, wherever they lie: true. What is put on a stack is taken first, and what is left is as it was.
-/
import Derived.Test.YtienmmgkiphkdaaSgPop
import Derived.Test.YtienmmgkiphkdaaSgResize
namespace Go.Proofs.Ytienmmgkiphkdaa
open Go.RowKit Go.Extern.Stop Go.Stop Go.Extern Num Go.Lib

set_option maxRecDepth 100000 in
set_option maxHeartbeats 1000000 in
theorem nums_see (v u : Value) (l : List Int) (w : World) (hl : l.length ≤ 1048576) (h1 : SeeI w v l) (h2 : SeeI w u l) :
    Calls Try.prog 19 #[v, u] w fun e w' => e = .returned (.bool true) ∧ Below w.heap.size w w' := by
  obtain ⟨a1, c1, rfl, k1⟩ := h1
  obtain ⟨a2, c2, rfl, k2⟩ := h2
  have H1 : Hid (0 < l.length → ∃ b off, a1 = some ⟨b, off, none⟩ ∧ ∀ (k : Nat) (h : k < l.length), w.cell? ⟨b, off + k, none⟩ = some (.int .i64 l[k])) := k1
  have H2 : Hid (0 < l.length → ∃ b off, a2 = some ⟨b, off, none⟩ ∧ ∀ (k : Nat) (h : k < l.length), w.cell? ⟨b, off + k, none⟩ = some (.int .i64 l[k])) := k2
  clear k1 k2
  go_enter Try.func19, Try.ntmps19
  go_wp2_with fail
  go_loopw [5] (fun i wr => ∃ k : Nat, k ≤ l.length ∧ i = .int .i64 (k : Int) ∧ Below w.heap.size w wr) (fun i _ => l.length - (RowKit.intOf i).toNat)
  case atStart => exact ⟨0, Nat.zero_le _, rfl, Below.refl _ _⟩
  case round =>
    obtain ⟨k, hk, rfl, hb⟩ := hrel
    have HB : Hid (Below w.heap.size w wr) := hb
    clear hb
    by_cases hlt : k < l.length
    · obtain ⟨g1, o1, rfl, q1⟩ := H1.out (by omega)
      obtain ⟨g2, o2, rfl, q2⟩ := H2.out (by omega)
      have a0 : ∀ p : BW wr, p.x.cell? ⟨g1, o1 + k, none⟩ = some (.int .i64 (l[k]'hlt)) := fun p => p.cell (cell_keep HB.out (q1 k hlt))
      have d0 : ∀ p : BW wr, p.x.cell? ⟨g2, o2 + k, none⟩ = some (.int .i64 (l[k]'hlt)) := fun p => p.cell (cell_keep HB.out (q2 k hlt))
      have hne := bw_some wr
      clear q1 q2
      go_wp2_with fail
      refine wp_region_below (by kernel_rfl) (by kernel_rfl) ?_
      repeat (go_big_quiet_step (fail))
      refine wpQuiet_nil ?_
      intro wq hw'
      obtain ⟨⟨_, bq⟩, rfl⟩ := hw'
      have HB2 : Hid _ := HB.out.trans (bq.mono HB.out.size)
      clear bq a0 d0 hne
      go_wp2
      exact ⟨⟨k + 1, by omega, by go_num, HB2.out⟩, by simp [RowKit.intOf]; omega⟩
    · go_wp2
      go_ret
      exact ⟨rfl, HB.out⟩
theorem pushL_ne (n : Nat) (ps : List (List Int)) (x : Int) : pushL n ps x ≠ [] := by
  intro e
  have h := pushL_flat n ps x
  rw [e] at h
  simp at h
theorem topL_push {n : Nat} {ps : List (List Int)} (h : FineP n ps) (hn : 1 ≤ n) (x : Int) : topL (pushL n ps x) = x ∧ popL (pushL n ps x) = ps := by
  have hf := pushL_fine h hn x
  obtain ⟨h1, h2⟩ := popL_both hf (pushL_ne n ps x)
  rw [pushL_flat] at h2
  obtain ⟨e1, e2⟩ := List.append_inj' h2 rfl
  exact ⟨by injection e2 with e; exact e.symm, h1.uniq h e1.symm⟩
theorem push_pop {size : Int} {ps : List (List Int)} (h : pushC size ps = 0) (x : Int) :
    popC size (pushL size.toNat ps x) = 0 ∧ popN size (pushL size.toNat ps x) = x ∧ popZ size (pushL size.toNat ps x) = size ∧ popQ size (pushL size.toNat ps x) = ps ∧ faultS size ps = 0 ∧ faultS size (pushL size.toNat ps x) = 0 ∧ pushZ size ps = size ∧ pushQ size ps x = pushL size.toNat ps x := by
  have hF := pushL_fineS h x
  have hf := (pushC_zero h).1
  have hlo := hf.lo
  obtain ⟨t1, t2⟩ := topL_push hf.parts (by omega) x
  have hc : popC size (pushL size.toNat ps x) = 0 := by
    unfold popC
    rw [hF.fault, if_pos rfl, if_neg (fun e => pushL_ne _ _ _ (List.eq_nil_of_length_eq_zero e))]
  refine ⟨hc, ?_, ?_, ?_, hf.fault, hF.fault, ?_, ?_⟩
  · unfold popN; rw [if_pos hc]; exact t1
  · unfold popZ; rw [if_pos hc]
  · unfold popQ; rw [if_pos hc]; exact t2
  · unfold pushZ; rw [if_pos h]
  · unfold pushQ; rw [if_pos h]
theorem listC_fine {size : Int} {ps : List (List Int)} (h : faultS size ps = 0) : listC size ps = ps.flatten := by unfold listC; rw [if_pos h]
end Go.Proofs.Ytienmmgkiphkdaa
