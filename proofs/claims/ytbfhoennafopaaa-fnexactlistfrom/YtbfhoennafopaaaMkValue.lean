/-
  The laws' markValueS and heldValueS: the marks that are put into a row, and that they are there; nothing but that row is turned.
-/
import Derived.Test.YtbfhoennafopaaaVluBase
import Derived.Test.YtbfhoennafopaaaMark
namespace Go.Proofs.Ytbfhoennafopaaa
open Go.RowKit Go.Extern.Stop Go.Stop Go.Extern Num Go.Lib

/-- What is put as the mark of a place. -/
def markV (k i : Nat) : Vlu := ⟨((k + 3 * i : Nat) : Int), ((k + 3 * i : Nat) : Int) + 1, ⟨(109 :: decDigits (k + 3 * i + 2)).toArray⟩⟩
def marksV (k : Nat) : Nat → List Vlu
  | 0 => []
  | n + 1 => marksV k n ++ [markV k n]
theorem marksV_len (k n : Nat) : (marksV k n).length = n := by
  induction n with
  | zero => rfl
  | succ n ih => simp [marksV, ih]
theorem marksV_at (k n i : Nat) (h : i < n) : (marksV k n)[i]'(by rw [marksV_len]; exact h) = markV k i := by
  induction n with
  | zero => omega
  | succ n ih =>
    simp only [marksV]
    by_cases hi : i < n
    · rw [List.getElem_append_left (by rw [marksV_len]; exact hi)]; exact ih hi
    · have : i = n := by omega
      subst this
      rw [List.getElem_append_right (by rw [marksV_len]; omega)]
      simp [marksV_len]
theorem setV (A R : List Vlu) (t t' : Vlu) (i : Nat) (hA : A.length = i) :
    ((((cellsV (A ++ t :: R)).set (i * 3) (.int .i64 t'.kind)).set (i * 3 + 1) (.int .i64 t'.num)).set (i * 3 + 2) (.string t'.name)) = cellsV ((A ++ [t']) ++ R) := by
  have hl : (cellsV A).length = i * 3 := by rw [cellsV_length, hA]
  rw [cellsV_append, cellsV_append, cellsV_append]
  rw [List.set_append_right _ _ (by omega), List.set_append_right _ _ (by omega), List.set_append_right _ _ (by omega)]
  rw [hl, show i * 3 - i * 3 = 0 by omega, show i * 3 + 1 - i * 3 = 1 by omega, show i * 3 + 2 - i * 3 = 2 by omega]
  simp [cellsV, Vlu.cells]
theorem midV_at (k i : Nat) (l : List Vlu) (hi : i < l.length) : (marksV k i ++ l.drop i).length = l.length ∧ ∃ R, l.drop i = (l[i]'hi) :: R ∧ R = l.drop (i + 1) := by
  refine ⟨by rw [List.length_append, marksV_len, List.length_drop]; omega, l.drop (i + 1), ?_, rfl⟩
  exact List.drop_eq_getElem_cons hi
theorem markV_next {w wr w2 : World} {g cap base k i q : Nat} {l : List Vlu}
    (ho : wr.ownsRow base 26 3 (.slice (some ⟨g, 0, none⟩) l.length cap) l.length (cellsV (marksV k i ++ l.drop i))) (hg : w.grownBy wr (some g)) (hi : i < l.length) (hq : q = k + 3 * i)
    (hb : Below ((wr.setCell ⟨g, i * 3, none⟩ (.int .i64 ((q : Int)))).setCell ⟨g, i * 3 + 1, none⟩ (.int .i64 ((q : Int) + 1))).heap.size ((wr.setCell ⟨g, i * 3, none⟩ (.int .i64 ((q : Int)))).setCell ⟨g, i * 3 + 1, none⟩ (.int .i64 ((q : Int) + 1))) w2) :
    (w2.setCell ⟨g, i * 3 + 2, none⟩ (S (109 :: decDigits (q + 2)))).ownsRow base 26 3 (.slice (some ⟨g, 0, none⟩) l.length cap) l.length (cellsV (marksV k (i + 1) ++ l.drop (i + 1))) ∧ w.grownBy (w2.setCell ⟨g, i * 3 + 2, none⟩ (S (109 :: decDigits (q + 2)))) (some g) := by
  refine ⟨?_, gb_set (gb_below (gb_set (gb_set hg _) _) hb) _⟩
  have h := own_put (own_below (own_put (own_put ho (i * 3) (.int .i64 ((q : Int)))) (i * 3 + 1) (.int .i64 ((q : Int) + 1))) hb) (i * 3 + 2) (S (109 :: decDigits (q + 2)))
  obtain ⟨_, R, hR, rfl⟩ := midV_at k i l hi
  rw [hR] at h
  have e := setV (marksV k i) (l.drop (i + 1)) (l[i]'hi) (markV k i) i (marksV_len k i)
  subst hq
  have e2 : ((((cellsV (marksV k i ++ (l[i]'hi) :: l.drop (i + 1))).set (i * 3) (.int .i64 (((k + 3 * i : Nat) : Int)))).set (i * 3 + 1) (.int .i64 (((k + 3 * i : Nat) : Int) + 1))).set (i * 3 + 2) (S (109 :: decDigits (k + 3 * i + 2)))) = cellsV (marksV k (i + 1) ++ l.drop (i + 1)) := e
  rw [e2] at h
  exact h
set_option maxRecDepth 100000 in
set_option maxHeartbeats 2000000 in
theorem markVS_some (g cap base k : Nat) (l : List Vlu) (w : World) (hl : l.length ≤ 1048576) (hk : 1 ≤ k) (hk2 : k ≤ 1000000) (h : w.ownsRow base 26 3 (.slice (some ⟨g, 0, none⟩) l.length cap) l.length (cellsV l)) :
    Calls Try.prog 46 #[.slice (some ⟨g, 0, none⟩) l.length cap, .int .i64 (k : Int)] w fun e w' => e = .returned (.int .i64 ((k + 3 * l.length : Nat) : Int)) ∧ w'.ownsRow base 26 3 (.slice (some ⟨g, 0, none⟩) l.length cap) l.length (cellsV (marksV k l.length)) ∧ w.grownBy w' (some g) := by
  go_enter Try.func46, Try.ntmps46
  go_wp2_with fail
  go_loopw [1, 5] (fun v n wr => ∃ i q : Nat, i ≤ l.length ∧ n = .int .i64 (i : Int) ∧ v = .int .i64 (q : Int) ∧ q = k + 3 * i ∧ wr.ownsRow base 26 3 (.slice (some ⟨g, 0, none⟩) l.length cap) l.length (cellsV (marksV k i ++ l.drop i)) ∧ w.grownBy wr (some g)) (fun _ n _ => l.length - (RowKit.intOf n).toNat)
  case atStart => exact ⟨0, k, Nat.zero_le _, rfl, rfl, by omega, by simpa [marksV] using h, gb_refl _ _⟩
  case round =>
    obtain ⟨i, q, hi, rfl, rfl, hq, ho, hg⟩ := hrel
    have HO : Hid (wr.ownsRow base 26 3 (.slice (some ⟨g, 0, none⟩) l.length cap) l.length (cellsV (marksV k i ++ l.drop i))) := ho
    have HG : Hid (w.grownBy wr (some g)) := hg
    have HQ : Hid (q = k + 3 * i) := hq
    have hq1 : 1 ≤ q := by omega
    have hq2 : q ≤ 9000000 := by omega
    clear ho hg hq h
    by_cases hlt : i < l.length
    · have hgl : g < wr.heap.size := (HO.out.lt g rfl).2
      have HT : Hid (∀ w, Calls Try.prog 43 #[.int .i64 ((q : Int) + 1 + 1)] w fun e w' => e = .returned (S (109 :: decDigits (q + 2))) ∧ Below w.heap.size w w') := fun w => markText_any (q + 2) w (by omega) (by omega)
      have hlen := (midV_at k i l hlt).1
      have HR : Hid (∀ j, j < l.length * 3 → ∃ u, wr.cell? ⟨g, j, none⟩ = some u) := fun j hj => own_cell HO.out j (by rw [cellsV_length, hlen]; exact hj)
      obtain ⟨x0, e0⟩ := HR.out (i * 3) (by omega)
      obtain ⟨x1, e1⟩ := HR.out (i * 3 + 1) (by omega)
      obtain ⟨x2, e2⟩ := HR.out (i * 3 + 2) (by omega)
      have ff : ∀ j, wr.frozen? ⟨g, j, none⟩ = false := own_frozen HO.out
      go_wp2_with (go_at_call 43; refine (HT.out _).mono ?_; rintro e w2 ⟨rfl, hb⟩; obtain ⟨hc, hf⟩ := bcell hb)
      have R := markV_next (q := q) HO.out HG.out hlt HQ.out hb
      exact ⟨⟨i + 1, q + 3, by omega, by go_num, by go_num, by have := HQ.out; omega, R.1, R.2⟩, by simp [RowKit.intOf]; omega⟩
    · have hil : i = l.length := by omega
      have HE : Hid ((q : Int) = ((k + 3 * l.length : Nat) : Int)) := by have := HQ.out; show (q : Int) = _; rw [this, hil]
      have HO2 : Hid (wr.ownsRow base 26 3 (.slice (some ⟨g, 0, none⟩) l.length cap) l.length (cellsV (marksV k l.length))) := by
        have h := HO.out
        rw [hil, List.drop_length, List.append_nil] at h
        exact h
      clear hil
      go_wp2
      go_ret
      exact ⟨by rw [← HE.out]; rfl, HO2.out, HG.out⟩
theorem heldV_at {w : World} {g cap base k n i q : Nat} (h : w.ownsRow base 26 3 (.slice (some ⟨g, 0, none⟩) n cap) n (cellsV (marksV k n))) (hi : i < n) (hq : q = k + 3 * i) :
    w.cell? ⟨g, i * 3, none⟩ = some (.int .i64 ((q : Int))) ∧ w.cell? ⟨g, i * 3 + 1, none⟩ = some (.int .i64 ((q : Int) + 1)) ∧ w.cell? ⟨g, i * 3 + 2, none⟩ = some (S (109 :: decDigits (q + 2))) := by
  subst hq
  have hl := marksV_len k n
  have h' : w.ownsRow base 26 3 (.slice (some ⟨g, 0, none⟩) (marksV k n).length cap) (marksV k n).length (cellsV (marksV k n)) := by rw [hl]; exact h
  obtain ⟨h1, h2, h3⟩ := rowV_at h' i (by rw [hl]; exact hi)
  rw [marksV_at k n i hi] at h1 h2 h3
  exact ⟨h1, h2, h3⟩
set_option maxRecDepth 100000 in
set_option maxHeartbeats 2000000 in
theorem heldVS_some (g cap base k n : Nat) (w : World) (hl : n ≤ 1048576) (hk : 1 ≤ k) (hk2 : k ≤ 1000000) (h : w.ownsRow base 26 3 (.slice (some ⟨g, 0, none⟩) n cap) n (cellsV (marksV k n))) :
    Calls Try.prog 47 #[.slice (some ⟨g, 0, none⟩) n cap, .int .i64 (k : Int)] w fun e w' => e = .returned (.int .i64 ((k + 3 * n : Nat) : Int)) ∧ Below w.heap.size w w' := by
  have HO : Hid (w.ownsRow base 26 3 (.slice (some ⟨g, 0, none⟩) n cap) n (cellsV (marksV k n))) := h
  clear h
  go_enter Try.func47, Try.ntmps47
  go_wp2_with fail
  go_loopw [1, 5] (fun v m wr => ∃ i q : Nat, i ≤ n ∧ m = .int .i64 (i : Int) ∧ v = .int .i64 (q : Int) ∧ q = k + 3 * i ∧ Below w.heap.size w wr) (fun _ m _ => n - (RowKit.intOf m).toNat)
  case atStart => exact ⟨0, k, Nat.zero_le _, rfl, rfl, by omega, Below.refl _ _⟩
  case round =>
    obtain ⟨i, q, hi, rfl, rfl, hq, hb⟩ := hrel
    have HB : Hid (Below w.heap.size w wr) := hb
    have HQ : Hid (q = k + 3 * i) := hq
    have hq1 : 1 ≤ q := by omega
    have hq2 : q ≤ 9000000 := by omega
    clear hb hq
    by_cases hlt : i < n
    · have HA : Hid _ := heldV_at (own_below HO.out HB.out) hlt HQ.out
      have a0 := HA.out.1
      have a1 := HA.out.2.1
      have a2 : ∀ p : BW wr, p.x.cell? ⟨g, i * 3 + 2, none⟩ = some (S (109 :: decDigits (q + 2))) := fun p => p.cell HA.out.2.2
      have hne := bw_some wr
      have HT : Hid (∀ w, Calls Try.prog 43 #[.int .i64 ((q : Int) + 1 + 1)] w fun e w' => e = .returned (S (109 :: decDigits (q + 2))) ∧ Below w.heap.size w w') := fun w => markText_any (q + 2) w (by omega) (by omega)
      go_wp2_with fail
      refine wp_region_below (by kernel_rfl) (by kernel_rfl) ?_
      repeat (go_big_quiet_step ((go_at_call 43; exact calls_bw (HT.out _))))
      refine wpQuiet_nil ?_
      intro wq hw'
      obtain ⟨⟨_, bq⟩, rfl⟩ := hw'
      have HB2 : Hid _ := HB.out.trans (bq.mono HB.out.size)
      clear bq a0 a1 a2 hne
      go_wp2
      exact ⟨⟨i + 1, q + 3, by omega, by go_num, by go_num, by have := HQ.out; omega, HB2.out⟩, by simp [RowKit.intOf]; omega⟩
    · have hil : i = n := by omega
      have HE : Hid ((q : Int) = ((k + 3 * n : Nat) : Int)) := by have := HQ.out; show (q : Int) = _; rw [this, hil]
      clear hil
      go_wp2
      go_ret
      exact ⟨by rw [← HE.out]; rfl, HB.out⟩
theorem markVS_nil (ao : Option Addr) (cap k : Nat) (w : World) :
    Calls Try.prog 46 #[.slice ao 0 cap, .int .i64 (k : Int)] w fun e w' => e = .returned (.int .i64 (k : Int)) ∧ w' = w := by
  go_enter Try.func46, Try.ntmps46
  go_wp2_with fail
  go_loop [1, 5] (fun v i => v = .int .i64 (k : Int) ∧ i = .int .i64 0) (fun _ _ => 0)
  case atStart => exact ⟨rfl, rfl⟩
  case round =>
    obtain ⟨rfl, rfl⟩ := hrel
    go_wp2
    go_ret
    exact ⟨rfl, rfl⟩
theorem heldVS_nil (ao : Option Addr) (cap k : Nat) (w : World) :
    Calls Try.prog 47 #[.slice ao 0 cap, .int .i64 (k : Int)] w fun e w' => e = .returned (.int .i64 (k : Int)) ∧ w' = w := by
  go_enter Try.func47, Try.ntmps47
  go_wp2_with fail
  go_loop [1, 5] (fun v i => v = .int .i64 (k : Int) ∧ i = .int .i64 0) (fun _ _ => 0)
  case atStart => exact ⟨rfl, rfl⟩
  case round =>
    obtain ⟨rfl, rfl⟩ := hrel
    go_wp2
    go_ret
    exact ⟨rfl, rfl⟩
theorem markVS_any (ao : Option Addr) (cap base k : Nat) (l : List Vlu) (w : World) (hl : l.length ≤ 1048576) (hk : 1 ≤ k) (hk2 : k ≤ 1000000) (h : w.ownsRow base 26 3 (.slice ao l.length cap) l.length (cellsV l)) :
    Calls Try.prog 46 #[.slice ao l.length cap, .int .i64 (k : Int)] w fun e w' => e = .returned (.int .i64 ((k + 3 * l.length : Nat) : Int)) ∧ w'.ownsRow base 26 3 (.slice ao l.length cap) l.length (cellsV (marksV k l.length)) ∧ w.grownBy w' (Value.slice ao l.length cap).ownBlock := by
  cases l with
  | nil =>
    refine (markVS_nil ao cap k w).mono ?_
    rintro e w' ⟨rfl, rfl⟩
    exact ⟨rfl, h, gb_refl _ _⟩
  | cons t r =>
    obtain ⟨g, c, hv, _, _⟩ := h.form (by simp)
    obtain ⟨rfl, rfl⟩ : ao = some ⟨g, 0, none⟩ ∧ cap = c := by simp at hv; exact hv
    exact markVS_some g cap base k (t :: r) w hl hk hk2 h
theorem heldVS_any (ao : Option Addr) (cap base k n : Nat) (w : World) (hl : n ≤ 1048576) (hk : 1 ≤ k) (hk2 : k ≤ 1000000) (h : w.ownsRow base 26 3 (.slice ao n cap) n (cellsV (marksV k n))) :
    Calls Try.prog 47 #[.slice ao n cap, .int .i64 (k : Int)] w fun e w' => e = .returned (.int .i64 ((k + 3 * n : Nat) : Int)) ∧ Below w.heap.size w w' := by
  cases n with
  | zero =>
    refine (heldVS_nil ao cap k w).mono ?_
    rintro e w' ⟨rfl, rfl⟩
    exact ⟨rfl, Below.refl _ _⟩
  | succ n =>
    obtain ⟨g, c, hv, _, _⟩ := h.form (by simp)
    obtain ⟨rfl, rfl⟩ : ao = some ⟨g, 0, none⟩ ∧ cap = c := by simp at hv; exact hv
    exact heldVS_some g cap base k (n + 1) w hl hk hk2 h
end Go.Proofs.Ytbfhoennafopaaa
