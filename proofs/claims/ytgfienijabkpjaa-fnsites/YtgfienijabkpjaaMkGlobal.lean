/-
  The laws' markGlobalS and heldGlobalS: the marks that are put into a row, and that they are there; nothing but that row is turned.
-/
import Derived.Test.YtgfienijabkpjaaStGlobal
import Derived.Test.YtgfienijabkpjaaMark
namespace Go.Proofs.Ytgfienijabkpjaa
open Go.RowKit Go.Extern.Stop Go.Stop Go.Extern Num Go.Lib

/-- What is put as the mark of a place. -/
def markG (k i : Nat) : Glb := ⟨⟨(109 :: decDigits (k + 5 * i)).toArray⟩, ⟨((k + 5 * i : Nat) : Int) + 1, ((k + 5 * i : Nat) : Int) + 1 + 1, ⟨(109 :: decDigits (k + 5 * i + 3)).toArray⟩⟩, ((k + 5 * i : Nat) : Int) + 1 + 1 + 1 + 1⟩
def marksG (k : Nat) : Nat → List Glb
  | 0 => []
  | n + 1 => marksG k n ++ [markG k n]
theorem marksG_len (k n : Nat) : (marksG k n).length = n := by
  induction n with
  | zero => rfl
  | succ n ih => simp [marksG, ih]
theorem marksG_at (k n i : Nat) (h : i < n) : (marksG k n)[i]'(by rw [marksG_len]; exact h) = markG k i := by
  induction n with
  | zero => omega
  | succ n ih =>
    simp only [marksG]
    by_cases hi : i < n
    · rw [List.getElem_append_left (by rw [marksG_len]; exact hi)]; exact ih hi
    · have : i = n := by omega
      subst this
      rw [List.getElem_append_right (by rw [marksG_len]; omega)]
      simp [marksG_len]
theorem setG (A R : List Glb) (t t' : Glb) (i : Nat) (hA : A.length = i) :
    ((((((cellsG (A ++ t :: R)).set (i * 5) (.string t'.name)).set (i * 5 + 1) (.int .i64 t'.value.kind)).set (i * 5 + 2) (.int .i64 t'.value.num)).set (i * 5 + 3) (.string t'.value.name)).set (i * 5 + 4) (.int .i64 t'.ver)) = cellsG ((A ++ [t']) ++ R) := by
  have hl : (cellsG A).length = i * 5 := by rw [cellsG_length, hA]
  rw [cellsG_append, cellsG_append, cellsG_append]
  rw [List.set_append_right _ _ (by omega), List.set_append_right _ _ (by omega), List.set_append_right _ _ (by omega), List.set_append_right _ _ (by omega), List.set_append_right _ _ (by omega)]
  rw [hl, show i * 5 - i * 5 = 0 by omega, show i * 5 + 1 - i * 5 = 1 by omega, show i * 5 + 2 - i * 5 = 2 by omega, show i * 5 + 3 - i * 5 = 3 by omega, show i * 5 + 4 - i * 5 = 4 by omega]
  simp [cellsG, Glb.cells]
theorem midG_at (k i : Nat) (l : List Glb) (hi : i < l.length) : (marksG k i ++ l.drop i).length = l.length ∧ ∃ R, l.drop i = (l[i]'hi) :: R ∧ R = l.drop (i + 1) := by
  refine ⟨by rw [List.length_append, marksG_len, List.length_drop]; omega, l.drop (i + 1), ?_, rfl⟩
  exact List.drop_eq_getElem_cons hi
theorem markG_next {w wr w2 w3 : World} {g cap base k i q : Nat} {l : List Glb}
    (ho : wr.ownsRow base 33 5 (.slice (some ⟨g, 0, none⟩) l.length cap) l.length (cellsG (marksG k i ++ l.drop i))) (hg : w.grownBy wr (some g)) (hi : i < l.length) (hq : q = k + 5 * i)
    (hb : Below wr.heap.size wr w2) (hb2 : Below (((w2.setCell ⟨g, i * 5, none⟩ (S (109 :: decDigits q))).setCell ⟨g, i * 5 + 1, none⟩ (.int .i64 ((q : Int) + 1))).setCell ⟨g, i * 5 + 2, none⟩ (.int .i64 ((q : Int) + 1 + 1))).heap.size (((w2.setCell ⟨g, i * 5, none⟩ (S (109 :: decDigits q))).setCell ⟨g, i * 5 + 1, none⟩ (.int .i64 ((q : Int) + 1))).setCell ⟨g, i * 5 + 2, none⟩ (.int .i64 ((q : Int) + 1 + 1))) w3) :
    ((w3.setCell ⟨g, i * 5 + 3, none⟩ (S (109 :: decDigits (q + 3)))).setCell ⟨g, i * 5 + 4, none⟩ (.int .i64 ((q : Int) + 1 + 1 + 1 + 1))).ownsRow base 33 5 (.slice (some ⟨g, 0, none⟩) l.length cap) l.length (cellsG (marksG k (i + 1) ++ l.drop (i + 1))) ∧ w.grownBy ((w3.setCell ⟨g, i * 5 + 3, none⟩ (S (109 :: decDigits (q + 3)))).setCell ⟨g, i * 5 + 4, none⟩ (.int .i64 ((q : Int) + 1 + 1 + 1 + 1))) (some g) := by
  refine ⟨?_, gb_set (gb_set (gb_below (gb_set (gb_set (gb_set (gb_below hg hb) _) _) _) hb2) _) _⟩
  have h := own_put (own_put (own_below (own_put (own_put (own_put (own_below ho hb) (i * 5) (S (109 :: decDigits q))) (i * 5 + 1) (.int .i64 ((q : Int) + 1))) (i * 5 + 2) (.int .i64 ((q : Int) + 1 + 1))) hb2) (i * 5 + 3) (S (109 :: decDigits (q + 3)))) (i * 5 + 4) (.int .i64 ((q : Int) + 1 + 1 + 1 + 1))
  obtain ⟨_, R, hR, rfl⟩ := midG_at k i l hi
  rw [hR] at h
  have e := setG (marksG k i) (l.drop (i + 1)) (l[i]'hi) (markG k i) i (marksG_len k i)
  subst hq
  have e2 : ((((((cellsG (marksG k i ++ (l[i]'hi) :: l.drop (i + 1))).set (i * 5) (S (109 :: decDigits (k + 5 * i)))).set (i * 5 + 1) (.int .i64 (((k + 5 * i : Nat) : Int) + 1))).set (i * 5 + 2) (.int .i64 (((k + 5 * i : Nat) : Int) + 1 + 1))).set (i * 5 + 3) (S (109 :: decDigits (k + 5 * i + 3)))).set (i * 5 + 4) (.int .i64 (((k + 5 * i : Nat) : Int) + 1 + 1 + 1 + 1))) = cellsG (marksG k (i + 1) ++ l.drop (i + 1)) := by
    have e3 : marksG k (i + 1) = marksG k i ++ [markG k i] := rfl
    rw [e3, ← e]; rfl
  rw [e2] at h
  exact h
set_option maxRecDepth 100000 in
set_option maxHeartbeats 2000000 in
theorem markGS_some (g cap base k : Nat) (l : List Glb) (w : World) (hl : l.length ≤ 1048576) (hk : 1 ≤ k) (hk2 : k ≤ 1000000) (h : w.ownsRow base 33 5 (.slice (some ⟨g, 0, none⟩) l.length cap) l.length (cellsG l)) :
    Calls Try.prog 26 #[.slice (some ⟨g, 0, none⟩) l.length cap, .int .i64 (k : Int)] w fun e w' => e = .returned (.int .i64 ((k + 5 * l.length : Nat) : Int)) ∧ w'.ownsRow base 33 5 (.slice (some ⟨g, 0, none⟩) l.length cap) l.length (cellsG (marksG k l.length)) ∧ w.grownBy w' (some g) := by
  go_enter Try.func26, Try.ntmps26
  go_wp2_with fail
  go_loopw [1, 5] (fun v n wr => ∃ i q : Nat, i ≤ l.length ∧ n = .int .i64 (i : Int) ∧ v = .int .i64 (q : Int) ∧ q = k + 5 * i ∧ wr.ownsRow base 33 5 (.slice (some ⟨g, 0, none⟩) l.length cap) l.length (cellsG (marksG k i ++ l.drop i)) ∧ w.grownBy wr (some g)) (fun _ n _ => l.length - (RowKit.intOf n).toNat)
  case atStart => exact ⟨0, k, Nat.zero_le _, rfl, rfl, by omega, by simpa [marksG] using h, gb_refl _ _⟩
  case round =>
    obtain ⟨i, q, hi, rfl, rfl, hq, ho, hg⟩ := hrel
    have HO : Hid (wr.ownsRow base 33 5 (.slice (some ⟨g, 0, none⟩) l.length cap) l.length (cellsG (marksG k i ++ l.drop i))) := ho
    have HG : Hid (w.grownBy wr (some g)) := hg
    have HQ : Hid (q = k + 5 * i) := hq
    have hq1 : 1 ≤ q := by omega
    have hq2 : q ≤ 9000000 := by omega
    clear ho hg hq h
    by_cases hlt : i < l.length
    · have hgl : g < wr.heap.size := (HO.out.lt g rfl).2
      have HT : Hid (∀ w, Calls Try.prog 59 #[.int .i64 (q : Int)] w fun e w' => e = .returned (S (109 :: decDigits q)) ∧ Below w.heap.size w w') := fun w => markText_any q w (by omega) (by omega)
      have HU : Hid (∀ w, Calls Try.prog 59 #[.int .i64 ((q : Int) + 1 + 1 + 1)] w fun e w' => e = .returned (S (109 :: decDigits (q + 3))) ∧ Below w.heap.size w w') := fun w => markText_any (q + 3) w (by omega) (by omega)
      have hlen := (midG_at k i l hlt).1
      have HR : Hid (∀ j, j < l.length * 5 → ∃ u, wr.cell? ⟨g, j, none⟩ = some u) := fun j hj => own_cell HO.out j (by rw [cellsG_length, hlen]; exact hj)
      obtain ⟨x0, e0⟩ := HR.out (i * 5) (by omega)
      obtain ⟨x1, e1⟩ := HR.out (i * 5 + 1) (by omega)
      obtain ⟨x2, e2⟩ := HR.out (i * 5 + 2) (by omega)
      obtain ⟨x3, e3⟩ := HR.out (i * 5 + 3) (by omega)
      obtain ⟨x4, e4⟩ := HR.out (i * 5 + 4) (by omega)
      have ff : ∀ j, wr.frozen? ⟨g, j, none⟩ = false := own_frozen HO.out
      go_wp2_with fail
      refine (HT.out _).mono ?_
      rintro e w2 ⟨rfl, hb⟩
      obtain ⟨hc, hf⟩ := bcell hb
      have hgl2 : g < w2.heap.size := by have := hb.size; omega
      go_wp2_with fail
      refine (HU.out _).mono ?_
      rintro e w3 ⟨rfl, hb2⟩
      obtain ⟨hc2, hf2⟩ := bcell hb2
      go_wp2
      have R := markG_next (q := q) HO.out HG.out hlt HQ.out hb hb2
      exact ⟨⟨i + 1, q + 5, by omega, by go_num, by go_num, by have := HQ.out; omega, R.1, R.2⟩, by simp [RowKit.intOf]; omega⟩
    · have hil : i = l.length := by omega
      have HE : Hid ((q : Int) = ((k + 5 * l.length : Nat) : Int)) := by have := HQ.out; show (q : Int) = _; rw [this, hil]
      have HO2 : Hid (wr.ownsRow base 33 5 (.slice (some ⟨g, 0, none⟩) l.length cap) l.length (cellsG (marksG k l.length))) := by
        have h := HO.out
        rw [hil, List.drop_length, List.append_nil] at h
        exact h
      clear hil
      go_wp2
      go_ret
      exact ⟨by rw [← HE.out]; rfl, HO2.out, HG.out⟩
theorem heldG_at {w : World} {g cap base k n i q : Nat} (h : w.ownsRow base 33 5 (.slice (some ⟨g, 0, none⟩) n cap) n (cellsG (marksG k n))) (hi : i < n) (hq : q = k + 5 * i) :
    w.cell? ⟨g, i * 5, none⟩ = some (S (109 :: decDigits q)) ∧ w.cell? ⟨g, i * 5 + 1, none⟩ = some (.int .i64 ((q : Int) + 1)) ∧ w.cell? ⟨g, i * 5 + 2, none⟩ = some (.int .i64 ((q : Int) + 1 + 1)) ∧ w.cell? ⟨g, i * 5 + 3, none⟩ = some (S (109 :: decDigits (q + 3))) ∧ w.cell? ⟨g, i * 5 + 4, none⟩ = some (.int .i64 ((q : Int) + 1 + 1 + 1 + 1)) := by
  subst hq
  have hl := marksG_len k n
  have h' : w.ownsRow base 33 5 (.slice (some ⟨g, 0, none⟩) (marksG k n).length cap) (marksG k n).length (cellsG (marksG k n)) := by rw [hl]; exact h
  obtain ⟨h1, h2, h3, h4, h5⟩ := rowG_at h' i (by rw [hl]; exact hi)
  rw [marksG_at k n i hi] at h1 h2 h3 h4 h5
  exact ⟨h1, h2, h3, h4, h5⟩
set_option maxRecDepth 100000 in
set_option maxHeartbeats 2000000 in
theorem heldGS_some (g cap base k n : Nat) (w : World) (hl : n ≤ 1048576) (hk : 1 ≤ k) (hk2 : k ≤ 1000000) (h : w.ownsRow base 33 5 (.slice (some ⟨g, 0, none⟩) n cap) n (cellsG (marksG k n))) :
    Calls Try.prog 60 #[.slice (some ⟨g, 0, none⟩) n cap, .int .i64 (k : Int)] w fun e w' => e = .returned (.int .i64 ((k + 5 * n : Nat) : Int)) ∧ Below w.heap.size w w' := by
  have HO : Hid (w.ownsRow base 33 5 (.slice (some ⟨g, 0, none⟩) n cap) n (cellsG (marksG k n))) := h
  clear h
  go_enter Try.func60, Try.ntmps60
  go_wp2_with fail
  go_loopw [1, 5] (fun v m wr => ∃ i q : Nat, i ≤ n ∧ m = .int .i64 (i : Int) ∧ v = .int .i64 (q : Int) ∧ q = k + 5 * i ∧ Below w.heap.size w wr) (fun _ m _ => n - (RowKit.intOf m).toNat)
  case atStart => exact ⟨0, k, Nat.zero_le _, rfl, rfl, by omega, Below.refl _ _⟩
  case round =>
    obtain ⟨i, q, hi, rfl, rfl, hq, hb⟩ := hrel
    have HB : Hid (Below w.heap.size w wr) := hb
    have HQ : Hid (q = k + 5 * i) := hq
    have hq1 : 1 ≤ q := by omega
    have hq2 : q ≤ 9000000 := by omega
    clear hb hq
    by_cases hlt : i < n
    · have HA : Hid _ := heldG_at (own_below HO.out HB.out) hlt HQ.out
      have a0 : ∀ p : BW wr, p.x.cell? ⟨g, i * 5, none⟩ = some (S (109 :: decDigits q)) := fun p => p.cell HA.out.1
      have hne := bw_some wr
      have HT : Hid (∀ w, Calls Try.prog 59 #[.int .i64 (q : Int)] w fun e w' => e = .returned (S (109 :: decDigits q)) ∧ Below w.heap.size w w') := fun w => markText_any q w (by omega) (by omega)
      have HU : Hid (∀ w, Calls Try.prog 59 #[.int .i64 ((q : Int) + 1 + 1 + 1)] w fun e w' => e = .returned (S (109 :: decDigits (q + 3))) ∧ Below w.heap.size w w') := fun w => markText_any (q + 3) w (by omega) (by omega)
      go_wp2_with fail
      refine wp_region_below (by kernel_rfl) (by kernel_rfl) ?_
      repeat (go_big_quiet_step ((go_at_call 59; exact calls_bw (HT.out _))))
      refine wpQuiet_nil ?_
      intro wq hw'
      obtain ⟨⟨_, bq⟩, rfl⟩ := hw'
      have HB2 : Hid (Below w.heap.size w wq) := HB.out.trans (bq.mono HB.out.size)
      clear bq a0 hne
      have HA2 : Hid _ := heldG_at (own_below HO.out HB2.out) hlt HQ.out
      have a1 := HA2.out.2.1
      have a2 := HA2.out.2.2.1
      have a3 : ∀ p : BW wq, p.x.cell? ⟨g, i * 5 + 3, none⟩ = some (S (109 :: decDigits (q + 3))) := fun p => p.cell HA2.out.2.2.2.1
      have hne := bw_some wq
      go_wp2_with fail
      refine wp_region_below (by kernel_rfl) (by kernel_rfl) ?_
      repeat (go_big_quiet_step ((go_at_call 59; exact calls_bw (HU.out _))))
      refine wpQuiet_nil ?_
      intro wz hw'
      obtain ⟨⟨_, bq⟩, rfl⟩ := hw'
      have HB3 : Hid (Below w.heap.size w wz) := HB2.out.trans (bq.mono HB2.out.size)
      clear bq a1 a2 a3 hne
      have a4 := (heldG_at (own_below HO.out HB3.out) hlt HQ.out).2.2.2.2
      go_wp2
      exact ⟨⟨i + 1, q + 5, by omega, by go_num, by go_num, by have := HQ.out; omega, HB3.out⟩, by simp [RowKit.intOf]; omega⟩
    · have hil : i = n := by omega
      have HE : Hid ((q : Int) = ((k + 5 * n : Nat) : Int)) := by have := HQ.out; show (q : Int) = _; rw [this, hil]
      clear hil
      go_wp2
      go_ret
      exact ⟨by rw [← HE.out]; rfl, HB.out⟩
theorem markGS_nil (ao : Option Addr) (cap k : Nat) (w : World) :
    Calls Try.prog 26 #[.slice ao 0 cap, .int .i64 (k : Int)] w fun e w' => e = .returned (.int .i64 (k : Int)) ∧ w' = w := by
  go_enter Try.func26, Try.ntmps26
  go_wp2_with fail
  go_loop [1, 5] (fun v i => v = .int .i64 (k : Int) ∧ i = .int .i64 0) (fun _ _ => 0)
  case atStart => exact ⟨rfl, rfl⟩
  case round =>
    obtain ⟨rfl, rfl⟩ := hrel
    go_wp2
    go_ret
    exact ⟨rfl, rfl⟩
theorem heldGS_nil (ao : Option Addr) (cap k : Nat) (w : World) :
    Calls Try.prog 60 #[.slice ao 0 cap, .int .i64 (k : Int)] w fun e w' => e = .returned (.int .i64 (k : Int)) ∧ w' = w := by
  go_enter Try.func60, Try.ntmps60
  go_wp2_with fail
  go_loop [1, 5] (fun v i => v = .int .i64 (k : Int) ∧ i = .int .i64 0) (fun _ _ => 0)
  case atStart => exact ⟨rfl, rfl⟩
  case round =>
    obtain ⟨rfl, rfl⟩ := hrel
    go_wp2
    go_ret
    exact ⟨rfl, rfl⟩
theorem markGS_any (ao : Option Addr) (cap base k : Nat) (l : List Glb) (w : World) (hl : l.length ≤ 1048576) (hk : 1 ≤ k) (hk2 : k ≤ 1000000) (h : w.ownsRow base 33 5 (.slice ao l.length cap) l.length (cellsG l)) :
    Calls Try.prog 26 #[.slice ao l.length cap, .int .i64 (k : Int)] w fun e w' => e = .returned (.int .i64 ((k + 5 * l.length : Nat) : Int)) ∧ w'.ownsRow base 33 5 (.slice ao l.length cap) l.length (cellsG (marksG k l.length)) ∧ w.grownBy w' (Value.slice ao l.length cap).ownBlock := by
  cases l with
  | nil =>
    refine (markGS_nil ao cap k w).mono ?_
    rintro e w' ⟨rfl, rfl⟩
    exact ⟨rfl, h, gb_refl _ _⟩
  | cons t r =>
    obtain ⟨g, c, hv, _, _⟩ := h.form (by simp)
    obtain ⟨rfl, rfl⟩ : ao = some ⟨g, 0, none⟩ ∧ cap = c := by simp at hv; exact hv
    exact markGS_some g cap base k (t :: r) w hl hk hk2 h
theorem heldGS_any (ao : Option Addr) (cap base k n : Nat) (w : World) (hl : n ≤ 1048576) (hk : 1 ≤ k) (hk2 : k ≤ 1000000) (h : w.ownsRow base 33 5 (.slice ao n cap) n (cellsG (marksG k n))) :
    Calls Try.prog 60 #[.slice ao n cap, .int .i64 (k : Int)] w fun e w' => e = .returned (.int .i64 ((k + 5 * n : Nat) : Int)) ∧ Below w.heap.size w w' := by
  cases n with
  | zero =>
    refine (heldGS_nil ao cap k w).mono ?_
    rintro e w' ⟨rfl, rfl⟩
    exact ⟨rfl, Below.refl _ _⟩
  | succ n =>
    obtain ⟨g, c, hv, _, _⟩ := h.form (by simp)
    obtain ⟨rfl, rfl⟩ : ao = some ⟨g, 0, none⟩ ∧ cap = c := by simp at hv; exact hv
    exact heldGS_some g cap base k (n + 1) w hl hk hk2 h
end Go.Proofs.Ytgfienijabkpjaa
