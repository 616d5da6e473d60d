/-
  The laws' markPairS and heldPairS: the marks that are put into a row, and that they are there; nothing but that row is turned.
-/
import Derived.Test.YtbfhoennafopaaaStPair
import Derived.Test.YtbfhoennafopaaaMark
namespace Go.Proofs.Ytbfhoennafopaaa
open Go.RowKit Go.Extern.Stop Go.Stop Go.Extern Num Go.Lib

/-- What is put as the mark of a place. -/
def markP (k i : Nat) : Pai := ⟨⟨((k + 6 * i : Nat) : Int), ((k + 6 * i : Nat) : Int) + 1, ⟨(109 :: decDigits (k + 6 * i + 2)).toArray⟩⟩, ⟨((k + 6 * i : Nat) : Int) + 1 + 1 + 1, ((k + 6 * i : Nat) : Int) + 1 + 1 + 1 + 1, ⟨(109 :: decDigits (k + 6 * i + 5)).toArray⟩⟩⟩
def marksP (k : Nat) : Nat → List Pai
  | 0 => []
  | n + 1 => marksP k n ++ [markP k n]
theorem marksP_len (k n : Nat) : (marksP k n).length = n := by
  induction n with
  | zero => rfl
  | succ n ih => simp [marksP, ih]
theorem marksP_at (k n i : Nat) (h : i < n) : (marksP k n)[i]'(by rw [marksP_len]; exact h) = markP k i := by
  induction n with
  | zero => omega
  | succ n ih =>
    simp only [marksP]
    by_cases hi : i < n
    · rw [List.getElem_append_left (by rw [marksP_len]; exact hi)]; exact ih hi
    · have : i = n := by omega
      subst this
      rw [List.getElem_append_right (by rw [marksP_len]; omega)]
      simp [marksP_len]
theorem setP (A R : List Pai) (t t' : Pai) (i : Nat) (hA : A.length = i) :
    (((((((cellsP (A ++ t :: R)).set (i * 6) (.int .i64 t'.head.kind)).set (i * 6 + 1) (.int .i64 t'.head.num)).set (i * 6 + 2) (.string t'.head.name)).set (i * 6 + 3) (.int .i64 t'.tail.kind)).set (i * 6 + 4) (.int .i64 t'.tail.num)).set (i * 6 + 5) (.string t'.tail.name)) = cellsP ((A ++ [t']) ++ R) := by
  have hl : (cellsP A).length = i * 6 := by rw [cellsP_length, hA]
  rw [cellsP_append, cellsP_append, cellsP_append]
  rw [List.set_append_right _ _ (by omega), List.set_append_right _ _ (by omega), List.set_append_right _ _ (by omega), List.set_append_right _ _ (by omega), List.set_append_right _ _ (by omega), List.set_append_right _ _ (by omega)]
  rw [hl, show i * 6 - i * 6 = 0 by omega, show i * 6 + 1 - i * 6 = 1 by omega, show i * 6 + 2 - i * 6 = 2 by omega, show i * 6 + 3 - i * 6 = 3 by omega, show i * 6 + 4 - i * 6 = 4 by omega, show i * 6 + 5 - i * 6 = 5 by omega]
  simp [cellsP, Pai.cells]
theorem midP_at (k i : Nat) (l : List Pai) (hi : i < l.length) : (marksP k i ++ l.drop i).length = l.length ∧ ∃ R, l.drop i = (l[i]'hi) :: R ∧ R = l.drop (i + 1) := by
  refine ⟨by rw [List.length_append, marksP_len, List.length_drop]; omega, l.drop (i + 1), ?_, rfl⟩
  exact List.drop_eq_getElem_cons hi
theorem markP_next {w wr w2 w3 : World} {g cap base k i q : Nat} {l : List Pai}
    (ho : wr.ownsRow base 71 6 (.slice (some ⟨g, 0, none⟩) l.length cap) l.length (cellsP (marksP k i ++ l.drop i))) (hg : w.grownBy wr (some g)) (hi : i < l.length) (hq : q = k + 6 * i)
    (hb : Below ((wr.setCell ⟨g, i * 6, none⟩ (.int .i64 ((q : Int)))).setCell ⟨g, i * 6 + 1, none⟩ (.int .i64 ((q : Int) + 1))).heap.size ((wr.setCell ⟨g, i * 6, none⟩ (.int .i64 ((q : Int)))).setCell ⟨g, i * 6 + 1, none⟩ (.int .i64 ((q : Int) + 1))) w2) (hb2 : Below (((w2.setCell ⟨g, i * 6 + 2, none⟩ (S (109 :: decDigits (q + 2)))).setCell ⟨g, i * 6 + 3, none⟩ (.int .i64 ((q : Int) + 1 + 1 + 1))).setCell ⟨g, i * 6 + 4, none⟩ (.int .i64 ((q : Int) + 1 + 1 + 1 + 1))).heap.size (((w2.setCell ⟨g, i * 6 + 2, none⟩ (S (109 :: decDigits (q + 2)))).setCell ⟨g, i * 6 + 3, none⟩ (.int .i64 ((q : Int) + 1 + 1 + 1))).setCell ⟨g, i * 6 + 4, none⟩ (.int .i64 ((q : Int) + 1 + 1 + 1 + 1))) w3) :
    (w3.setCell ⟨g, i * 6 + 5, none⟩ (S (109 :: decDigits (q + 5)))).ownsRow base 71 6 (.slice (some ⟨g, 0, none⟩) l.length cap) l.length (cellsP (marksP k (i + 1) ++ l.drop (i + 1))) ∧ w.grownBy (w3.setCell ⟨g, i * 6 + 5, none⟩ (S (109 :: decDigits (q + 5)))) (some g) := by
  refine ⟨?_, gb_set (gb_below (gb_set (gb_set (gb_set (gb_below (gb_set (gb_set hg _) _) hb) _) _) _) hb2) _⟩
  have h := (own_put (own_below (own_put (own_put (own_put (own_below (own_put (own_put ho (i * 6) (.int .i64 ((q : Int)))) (i * 6 + 1) (.int .i64 ((q : Int) + 1))) hb) (i * 6 + 2) (S (109 :: decDigits (q + 2)))) (i * 6 + 3) (.int .i64 ((q : Int) + 1 + 1 + 1))) (i * 6 + 4) (.int .i64 ((q : Int) + 1 + 1 + 1 + 1))) hb2) (i * 6 + 5) (S (109 :: decDigits (q + 5))))
  obtain ⟨_, R, hR, rfl⟩ := midP_at k i l hi
  rw [hR] at h
  have e := setP (marksP k i) (l.drop (i + 1)) (l[i]'hi) (markP k i) i (marksP_len k i)
  subst hq
  have e2 : (((((((cellsP (marksP k i ++ (l[i]'hi) :: l.drop (i + 1))).set (i * 6) (.int .i64 (((k + 6 * i : Nat) : Int)))).set (i * 6 + 1) (.int .i64 (((k + 6 * i : Nat) : Int) + 1))).set (i * 6 + 2) (S (109 :: decDigits (k + 6 * i + 2)))).set (i * 6 + 3) (.int .i64 (((k + 6 * i : Nat) : Int) + 1 + 1 + 1))).set (i * 6 + 4) (.int .i64 (((k + 6 * i : Nat) : Int) + 1 + 1 + 1 + 1))).set (i * 6 + 5) (S (109 :: decDigits (k + 6 * i + 5)))) = cellsP (marksP k (i + 1) ++ l.drop (i + 1)) := by
    have e3 : marksP k (i + 1) = marksP k i ++ [markP k i] := rfl
    rw [e3, ← e]; rfl
  rw [e2] at h
  exact h
set_option maxRecDepth 100000 in
set_option maxHeartbeats 2000000 in
theorem markPS_some (g cap base k : Nat) (l : List Pai) (w : World) (hl : l.length ≤ 1048576) (hk : 1 ≤ k) (hk2 : k ≤ 1000000) (h : w.ownsRow base 71 6 (.slice (some ⟨g, 0, none⟩) l.length cap) l.length (cellsP l)) :
    Calls Try.prog 19 #[.slice (some ⟨g, 0, none⟩) l.length cap, .int .i64 (k : Int)] w fun e w' => e = .returned (.int .i64 ((k + 6 * l.length : Nat) : Int)) ∧ w'.ownsRow base 71 6 (.slice (some ⟨g, 0, none⟩) l.length cap) l.length (cellsP (marksP k l.length)) ∧ w.grownBy w' (some g) := by
  go_enter Try.func19, Try.ntmps19
  go_wp2_with fail
  go_loopw [1, 5] (fun v n wr => ∃ i q : Nat, i ≤ l.length ∧ n = .int .i64 (i : Int) ∧ v = .int .i64 (q : Int) ∧ q = k + 6 * i ∧ wr.ownsRow base 71 6 (.slice (some ⟨g, 0, none⟩) l.length cap) l.length (cellsP (marksP k i ++ l.drop i)) ∧ w.grownBy wr (some g)) (fun _ n _ => l.length - (RowKit.intOf n).toNat)
  case atStart => exact ⟨0, k, Nat.zero_le _, rfl, rfl, by omega, by simpa [marksP] using h, gb_refl _ _⟩
  case round =>
    obtain ⟨i, q, hi, rfl, rfl, hq, ho, hg⟩ := hrel
    have HO : Hid (wr.ownsRow base 71 6 (.slice (some ⟨g, 0, none⟩) l.length cap) l.length (cellsP (marksP k i ++ l.drop i))) := ho
    have HG : Hid (w.grownBy wr (some g)) := hg
    have HQ : Hid (q = k + 6 * i) := hq
    have hq1 : 1 ≤ q := by omega
    have hq2 : q ≤ 9000000 := by omega
    clear ho hg hq h
    by_cases hlt : i < l.length
    · have hgl : g < wr.heap.size := (HO.out.lt g rfl).2
      have HT : Hid (∀ w, Calls Try.prog 43 #[.int .i64 ((q : Int) + 1 + 1)] w fun e w' => e = .returned (S (109 :: decDigits (q + 2))) ∧ Below w.heap.size w w') := fun w => markText_any (q + 2) w (by omega) (by omega)
      have HU : Hid (∀ w, Calls Try.prog 43 #[.int .i64 ((q : Int) + 1 + 1 + 1 + 1 + 1)] w fun e w' => e = .returned (S (109 :: decDigits (q + 5))) ∧ Below w.heap.size w w') := fun w => markText_any (q + 5) w (by omega) (by omega)
      have hlen := (midP_at k i l hlt).1
      have HR : Hid (∀ j, j < l.length * 6 → ∃ u, wr.cell? ⟨g, j, none⟩ = some u) := fun j hj => own_cell HO.out j (by rw [cellsP_length, hlen]; exact hj)
      obtain ⟨x0, e0⟩ := HR.out (i * 6) (by omega)
      obtain ⟨x1, e1⟩ := HR.out (i * 6 + 1) (by omega)
      obtain ⟨x2, e2⟩ := HR.out (i * 6 + 2) (by omega)
      obtain ⟨x3, e3⟩ := HR.out (i * 6 + 3) (by omega)
      obtain ⟨x4, e4⟩ := HR.out (i * 6 + 4) (by omega)
      obtain ⟨x5, e5⟩ := HR.out (i * 6 + 5) (by omega)
      have ff : ∀ j, wr.frozen? ⟨g, j, none⟩ = false := own_frozen HO.out
      go_wp2_with fail
      refine (HT.out _).mono ?_
      rintro e w2 ⟨rfl, hb⟩
      obtain ⟨hc, hf⟩ := bcell hb
      have hgl2 : g < w2.heap.size := by have := hb.size; simp at this; omega
      go_wp2_with fail
      refine (HU.out _).mono ?_
      rintro e w3 ⟨rfl, hb2⟩
      obtain ⟨hc2, hf2⟩ := bcell hb2
      go_wp2
      have R := markP_next (q := q) HO.out HG.out hlt HQ.out hb hb2
      exact ⟨⟨i + 1, q + 6, by omega, by go_num, by go_num, by have := HQ.out; omega, R.1, R.2⟩, by simp [RowKit.intOf]; omega⟩
    · have hil : i = l.length := by omega
      have HE : Hid ((q : Int) = ((k + 6 * l.length : Nat) : Int)) := by have := HQ.out; show (q : Int) = _; rw [this, hil]
      have HO2 : Hid (wr.ownsRow base 71 6 (.slice (some ⟨g, 0, none⟩) l.length cap) l.length (cellsP (marksP k l.length))) := by
        have h := HO.out
        rw [hil, List.drop_length, List.append_nil] at h
        exact h
      clear hil
      go_wp2
      go_ret
      exact ⟨by rw [← HE.out]; rfl, HO2.out, HG.out⟩
theorem heldP_at {w : World} {g cap base k n i q : Nat} (h : w.ownsRow base 71 6 (.slice (some ⟨g, 0, none⟩) n cap) n (cellsP (marksP k n))) (hi : i < n) (hq : q = k + 6 * i) :
    w.cell? ⟨g, i * 6, none⟩ = some (.int .i64 ((q : Int))) ∧ w.cell? ⟨g, i * 6 + 1, none⟩ = some (.int .i64 ((q : Int) + 1)) ∧ w.cell? ⟨g, i * 6 + 2, none⟩ = some (S (109 :: decDigits (q + 2))) ∧ w.cell? ⟨g, i * 6 + 3, none⟩ = some (.int .i64 ((q : Int) + 1 + 1 + 1)) ∧ w.cell? ⟨g, i * 6 + 4, none⟩ = some (.int .i64 ((q : Int) + 1 + 1 + 1 + 1)) ∧ w.cell? ⟨g, i * 6 + 5, none⟩ = some (S (109 :: decDigits (q + 5))) := by
  subst hq
  have hl := marksP_len k n
  have h' : w.ownsRow base 71 6 (.slice (some ⟨g, 0, none⟩) (marksP k n).length cap) (marksP k n).length (cellsP (marksP k n)) := by rw [hl]; exact h
  obtain ⟨h1, h2, h3, h4, h5, h6⟩ := rowP_at h' i (by rw [hl]; exact hi)
  rw [marksP_at k n i hi] at h1 h2 h3 h4 h5 h6
  exact ⟨h1, h2, h3, h4, h5, h6⟩
set_option maxRecDepth 100000 in
set_option maxHeartbeats 2000000 in
theorem heldPS_some (g cap base k n : Nat) (w : World) (hl : n ≤ 1048576) (hk : 1 ≤ k) (hk2 : k ≤ 1000000) (h : w.ownsRow base 71 6 (.slice (some ⟨g, 0, none⟩) n cap) n (cellsP (marksP k n))) :
    Calls Try.prog 44 #[.slice (some ⟨g, 0, none⟩) n cap, .int .i64 (k : Int)] w fun e w' => e = .returned (.int .i64 ((k + 6 * n : Nat) : Int)) ∧ Below w.heap.size w w' := by
  have HO : Hid (w.ownsRow base 71 6 (.slice (some ⟨g, 0, none⟩) n cap) n (cellsP (marksP k n))) := h
  clear h
  go_enter Try.func44, Try.ntmps44
  go_wp2_with fail
  go_loopw [1, 5] (fun v m wr => ∃ i q : Nat, i ≤ n ∧ m = .int .i64 (i : Int) ∧ v = .int .i64 (q : Int) ∧ q = k + 6 * i ∧ Below w.heap.size w wr) (fun _ m _ => n - (RowKit.intOf m).toNat)
  case atStart => exact ⟨0, k, Nat.zero_le _, rfl, rfl, by omega, Below.refl _ _⟩
  case round =>
    obtain ⟨i, q, hi, rfl, rfl, hq, hb⟩ := hrel
    have HB : Hid (Below w.heap.size w wr) := hb
    have HQ : Hid (q = k + 6 * i) := hq
    have hq1 : 1 ≤ q := by omega
    have hq2 : q ≤ 9000000 := by omega
    clear hb hq
    by_cases hlt : i < n
    · have HA : Hid _ := heldP_at (own_below HO.out HB.out) hlt HQ.out
      have a0 := HA.out.1
      have a1 := HA.out.2.1
      have a2 : ∀ p : BW wr, p.x.cell? ⟨g, i * 6 + 2, none⟩ = some (S (109 :: decDigits (q + 2))) := fun p => p.cell HA.out.2.2.1
      have hne := bw_some wr
      have HT : Hid (∀ w, Calls Try.prog 43 #[.int .i64 ((q : Int) + 1 + 1)] w fun e w' => e = .returned (S (109 :: decDigits (q + 2))) ∧ Below w.heap.size w w') := fun w => markText_any (q + 2) w (by omega) (by omega)
      have HU : Hid (∀ w, Calls Try.prog 43 #[.int .i64 ((q : Int) + 1 + 1 + 1 + 1 + 1)] w fun e w' => e = .returned (S (109 :: decDigits (q + 5))) ∧ Below w.heap.size w w') := fun w => markText_any (q + 5) w (by omega) (by omega)
      go_wp2_with fail
      refine wp_region_below (by kernel_rfl) (by kernel_rfl) ?_
      repeat (go_big_quiet_step ((go_at_call 43; exact calls_bw (HT.out _))))
      refine wpQuiet_nil ?_
      intro wq hw'
      obtain ⟨⟨_, bq⟩, rfl⟩ := hw'
      have HB2 : Hid (Below w.heap.size w wq) := HB.out.trans (bq.mono HB.out.size)
      clear bq a0 a1 a2 hne
      have HA2 : Hid _ := heldP_at (own_below HO.out HB2.out) hlt HQ.out
      have a3 := HA2.out.2.2.2.1
      have a4 := HA2.out.2.2.2.2.1
      have a5 : ∀ p : BW wq, p.x.cell? ⟨g, i * 6 + 5, none⟩ = some (S (109 :: decDigits (q + 5))) := fun p => p.cell HA2.out.2.2.2.2.2
      have hne := bw_some wq
      go_wp2_with fail
      refine wp_region_below (by kernel_rfl) (by kernel_rfl) ?_
      repeat (go_big_quiet_step ((go_at_call 43; exact calls_bw (HU.out _))))
      refine wpQuiet_nil ?_
      intro wz hw'
      obtain ⟨⟨_, bq⟩, rfl⟩ := hw'
      have HB3 : Hid (Below w.heap.size w wz) := HB2.out.trans (bq.mono HB2.out.size)
      clear bq a3 a4 a5 hne
      go_wp2
      exact ⟨⟨i + 1, q + 6, by omega, by go_num, by go_num, by have := HQ.out; omega, HB3.out⟩, by simp [RowKit.intOf]; omega⟩
    · have hil : i = n := by omega
      have HE : Hid ((q : Int) = ((k + 6 * n : Nat) : Int)) := by have := HQ.out; show (q : Int) = _; rw [this, hil]
      clear hil
      go_wp2
      go_ret
      exact ⟨by rw [← HE.out]; rfl, HB.out⟩
theorem markPS_nil (ao : Option Addr) (cap k : Nat) (w : World) :
    Calls Try.prog 19 #[.slice ao 0 cap, .int .i64 (k : Int)] w fun e w' => e = .returned (.int .i64 (k : Int)) ∧ w' = w := by
  go_enter Try.func19, Try.ntmps19
  go_wp2_with fail
  go_loop [1, 5] (fun v i => v = .int .i64 (k : Int) ∧ i = .int .i64 0) (fun _ _ => 0)
  case atStart => exact ⟨rfl, rfl⟩
  case round =>
    obtain ⟨rfl, rfl⟩ := hrel
    go_wp2
    go_ret
    exact ⟨rfl, rfl⟩
theorem heldPS_nil (ao : Option Addr) (cap k : Nat) (w : World) :
    Calls Try.prog 44 #[.slice ao 0 cap, .int .i64 (k : Int)] w fun e w' => e = .returned (.int .i64 (k : Int)) ∧ w' = w := by
  go_enter Try.func44, Try.ntmps44
  go_wp2_with fail
  go_loop [1, 5] (fun v i => v = .int .i64 (k : Int) ∧ i = .int .i64 0) (fun _ _ => 0)
  case atStart => exact ⟨rfl, rfl⟩
  case round =>
    obtain ⟨rfl, rfl⟩ := hrel
    go_wp2
    go_ret
    exact ⟨rfl, rfl⟩
theorem markPS_any (ao : Option Addr) (cap base k : Nat) (l : List Pai) (w : World) (hl : l.length ≤ 1048576) (hk : 1 ≤ k) (hk2 : k ≤ 1000000) (h : w.ownsRow base 71 6 (.slice ao l.length cap) l.length (cellsP l)) :
    Calls Try.prog 19 #[.slice ao l.length cap, .int .i64 (k : Int)] w fun e w' => e = .returned (.int .i64 ((k + 6 * l.length : Nat) : Int)) ∧ w'.ownsRow base 71 6 (.slice ao l.length cap) l.length (cellsP (marksP k l.length)) ∧ w.grownBy w' (Value.slice ao l.length cap).ownBlock := by
  cases l with
  | nil =>
    refine (markPS_nil ao cap k w).mono ?_
    rintro e w' ⟨rfl, rfl⟩
    exact ⟨rfl, h, gb_refl _ _⟩
  | cons t r =>
    obtain ⟨g, c, hv, _, _⟩ := h.form (by simp)
    obtain ⟨rfl, rfl⟩ : ao = some ⟨g, 0, none⟩ ∧ cap = c := by simp at hv; exact hv
    exact markPS_some g cap base k (t :: r) w hl hk hk2 h
theorem heldPS_any (ao : Option Addr) (cap base k n : Nat) (w : World) (hl : n ≤ 1048576) (hk : 1 ≤ k) (hk2 : k ≤ 1000000) (h : w.ownsRow base 71 6 (.slice ao n cap) n (cellsP (marksP k n))) :
    Calls Try.prog 44 #[.slice ao n cap, .int .i64 (k : Int)] w fun e w' => e = .returned (.int .i64 ((k + 6 * n : Nat) : Int)) ∧ Below w.heap.size w w' := by
  cases n with
  | zero =>
    refine (heldPS_nil ao cap k w).mono ?_
    rintro e w' ⟨rfl, rfl⟩
    exact ⟨rfl, Below.refl _ _⟩
  | succ n =>
    obtain ⟨g, c, hv, _, _⟩ := h.form (by simp)
    obtain ⟨rfl, rfl⟩ : ao = some ⟨g, 0, none⟩ ∧ cap = c := by simp at hv; exact hv
    exact heldPS_some g cap base k (n + 1) w hl hk hk2 h
end Go.Proofs.Ytbfhoennafopaaa
