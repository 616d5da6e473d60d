/-
  Parts of the proof laid into one text, one behind the other; each says at its head what is proved in it.
-/
import Derived.Test.YtfdkklhigliciaaGreatDoorXaB
import Derived.Test.YtfdkklhigliciaaGreatDoorXaC
/-
  The laws' markText: the text of a number that marks a place; nothing that was there is turned.
-/
namespace Go.Proofs.YtfdkklhigliciaaGreatDoor
open Go.RowKit Go.Extern.Stop Go.Stop Go.Extern Num Go.Lib

theorem add_cons (d : Nat) (o : List UInt8) (ho : o.length ≤ 1000) (w : World) : (Op.stringOp .add ⟨[digB d].toArray⟩ ⟨o.toArray⟩).run Tryz.prog w = .ok (S (digB d :: o)) w :=
  run_string_add_lists w [digB d] o (by simp) (by omega)
theorem add_m (o : List UInt8) (ho : o.length ≤ 1000) (w : World) : (Op.stringOp .add ⟨#[109]⟩ ⟨o.toArray⟩).run Tryz.prog w = .ok (S (109 :: o)) w :=
  run_string_add_lists w [109] o (by simp) (by omega)
theorem mark_len {k m : Nat} {o : List UInt8} (hk : k ≤ 4800000000000000000) (he : (if m = 0 then o else decDigits m ++ o) = decDigits k) : o.length ≤ 19 := by
  have h : (decDigits k).length ≤ 19 := by rw [decDigits_length]; exact nDigits_le_of_lt k 18 (by omega)
  rw [← he] at h
  split at h
  · exact h
  · rw [List.length_append] at h; omega
theorem mark_step {k m : Nat} {o : List UInt8} (h0 : ¬ m = 0) (he : (if m = 0 then o else decDigits m ++ o) = decDigits k) : (if m / 10 = 0 then digB (m % 10) :: o else decDigits (m / 10) ++ (digB (m % 10) :: o)) = decDigits k := by
  rw [if_neg h0] at he
  rw [← he]
  by_cases h : m < 10
  · rw [if_pos (by omega), decDigits_one h, Nat.mod_eq_of_lt h]; rfl
  · rw [if_neg (by omega), ← dig_step m (m / 10) (m % 10) h rfl rfl]; simp
set_option maxRecDepth 100000 in
theorem markText_any (k : Nat) (w : World) (hk : 1 ≤ k) (hk2 : k ≤ 4800000000000000000) :
    Calls Tryz.prog 27 #[.int .i64 (k : Int)] w fun e w' => e = .returned (S (109 :: decDigits k)) ∧ Below w.heap.size w w' := by
  go_enter Tryz.func27, Tryz.ntmps27
  go_wp2_with fail
  go_loopw [0, 3] (fun n v wr => ∃ (m : Nat) (o : List UInt8), n = .int .i64 (m : Int) ∧ v = S o ∧ m ≤ k ∧ (if m = 0 then o else decDigits m ++ o) = decDigits k ∧ Below w.heap.size w wr) (fun n _ _ => (RowKit.intOf n).toNat)
  case atStart => exact ⟨k, [], rfl, rfl, Nat.le_refl _, by rw [if_neg (by omega)]; simp, Below.refl _ _⟩
  case round =>
    obtain ⟨m, o, rfl, rfl, hm, he, hb⟩ := hrel
    have hl := mark_len hk2 he
    have HE : Hid ((if m = 0 then o else decDigits m ++ o) = decDigits k) := he
    have HB : Hid (Below w.heap.size w wr) := hb
    clear he hb
    by_cases h0 : m = 0
    · subst h0
      have HO : Hid (o = decDigits k) := HE.out
      have hsa := fun (w : World) => add_m o (by omega) w
      go_wp2
      go_ret
      exact ⟨by rw [← HO.out]; rfl, HB.out⟩
    · have hcv := fun W b => conv_one (m % 10) (by omega) W b
      have hsa := fun (w : World) => add_cons (m % 10) o (by omega) w
      go_wp2
      exact ⟨⟨m / 10, _, by go_num, rfl, by omega, mark_step h0 HE.out, HB.out.alloc HB.out.size _⟩, by simp [RowKit.intOf]; omega⟩
end Go.Proofs.YtfdkklhigliciaaGreatDoor
/-
  The laws' markDatumS: what it writes into data; nothing but the marked row is turned.
-/
namespace Go.Proofs.YtfdkklhigliciaaGreatDoor
open Go.RowKit Go.Extern.Stop Go.Stop Go.Extern Num Go.Lib

/-- What is put as the mark of a place. -/
def markD (k i : Nat) : Dat := ⟨((k + 4 * i : Nat) : Int), ((k + 4 * i : Nat) : Int) + 1, ((k + 4 * i : Nat) : Int) + 1 + 1, ⟨(109 :: decDigits (k + 4 * i + 3)).toArray⟩⟩
def marksD (k : Nat) : Nat → List Dat
  | 0 => []
  | n + 1 => marksD k n ++ [markD k n]
theorem marksD_len (k n : Nat) : (marksD k n).length = n := by
  induction n with
  | zero => rfl
  | succ n ih => simp [marksD, ih]
theorem marksD_at (k n i : Nat) (h : i < n) : (marksD k n)[i]'(by rw [marksD_len]; exact h) = markD k i := by
  induction n with
  | zero => omega
  | succ n ih =>
    simp only [marksD]
    by_cases hi : i < n
    · rw [List.getElem_append_left (by rw [marksD_len]; exact hi)]; exact ih hi
    · have : i = n := by omega
      subst this
      rw [List.getElem_append_right (by rw [marksD_len]; omega)]
      simp [marksD_len]
theorem setD (A R : List Dat) (t t' : Dat) (i : Nat) (hA : A.length = i) :
    (((((cellsD (A ++ t :: R)).set (i * 4) (.int .i64 t'.kind)).set (i * 4 + 1) (.int .i64 t'.parent)).set (i * 4 + 2) (.int .i64 t'.num)).set (i * 4 + 3) (.string t'.name)) = cellsD ((A ++ [t']) ++ R) := by
  have hl : (cellsD A).length = i * 4 := by rw [cellsD_length, hA]
  rw [cellsD_append, cellsD_append, cellsD_append]
  rw [List.set_append_right _ _ (by omega), List.set_append_right _ _ (by omega), List.set_append_right _ _ (by omega), List.set_append_right _ _ (by omega)]
  rw [hl, show i * 4 - i * 4 = 0 by omega, show i * 4 + 1 - i * 4 = 1 by omega, show i * 4 + 2 - i * 4 = 2 by omega, show i * 4 + 3 - i * 4 = 3 by omega]
  simp [cellsD, Dat.cells]
theorem midD_at (k i : Nat) (l : List Dat) (hi : i < l.length) : (marksD k i ++ l.drop i).length = l.length ∧ ∃ R, l.drop i = (l[i]'hi) :: R ∧ R = l.drop (i + 1) := by
  refine ⟨by rw [List.length_append, marksD_len, List.length_drop]; omega, l.drop (i + 1), ?_, rfl⟩
  exact List.drop_eq_getElem_cons hi
theorem markD_next {w wr w2 : World} {g cap base k i q : Nat} {l : List Dat}
    (ho : wr.ownsRow base 49 4 (.slice (some ⟨g, 0, none⟩) l.length cap) l.length (cellsD (marksD k i ++ l.drop i))) (hg : w.grownBy wr (some g)) (hi : i < l.length) (hq : q = k + 4 * i)
    (hb : Below (((wr.setCell ⟨g, i * 4, none⟩ (.int .i64 ((q : Int)))).setCell ⟨g, i * 4 + 1, none⟩ (.int .i64 ((q : Int) + 1))).setCell ⟨g, i * 4 + 2, none⟩ (.int .i64 ((q : Int) + 1 + 1))).heap.size (((wr.setCell ⟨g, i * 4, none⟩ (.int .i64 ((q : Int)))).setCell ⟨g, i * 4 + 1, none⟩ (.int .i64 ((q : Int) + 1))).setCell ⟨g, i * 4 + 2, none⟩ (.int .i64 ((q : Int) + 1 + 1))) w2) :
    (w2.setCell ⟨g, i * 4 + 3, none⟩ (S (109 :: decDigits (q + 3)))).ownsRow base 49 4 (.slice (some ⟨g, 0, none⟩) l.length cap) l.length (cellsD (marksD k (i + 1) ++ l.drop (i + 1))) ∧ w.grownBy (w2.setCell ⟨g, i * 4 + 3, none⟩ (S (109 :: decDigits (q + 3)))) (some g) := by
  refine ⟨?_, gb_set (gb_below (gb_set (gb_set (gb_set hg _) _) _) hb) _⟩
  have h := own_put (own_below (own_put (own_put (own_put ho (i * 4) (.int .i64 ((q : Int)))) (i * 4 + 1) (.int .i64 ((q : Int) + 1))) (i * 4 + 2) (.int .i64 ((q : Int) + 1 + 1))) hb) (i * 4 + 3) (S (109 :: decDigits (q + 3)))
  obtain ⟨_, R, hR, rfl⟩ := midD_at k i l hi
  rw [hR] at h
  have e := setD (marksD k i) (l.drop (i + 1)) (l[i]'hi) (markD k i) i (marksD_len k i)
  subst hq
  have e2 : (((((cellsD (marksD k i ++ (l[i]'hi) :: l.drop (i + 1))).set (i * 4) (.int .i64 (((k + 4 * i : Nat) : Int)))).set (i * 4 + 1) (.int .i64 (((k + 4 * i : Nat) : Int) + 1))).set (i * 4 + 2) (.int .i64 (((k + 4 * i : Nat) : Int) + 1 + 1))).set (i * 4 + 3) (S (109 :: decDigits (k + 4 * i + 3)))) = cellsD (marksD k (i + 1) ++ l.drop (i + 1)) := e
  rw [e2] at h
  exact h
set_option maxRecDepth 100000 in
set_option maxHeartbeats 2000000 in
theorem markDS_some (g cap base k : Nat) (l : List Dat) (w : World) (hl : l.length ≤ 1048576) (hk : 1 ≤ k) (hk2 : k ≤ 4700000000000000000) (h : w.ownsRow base 49 4 (.slice (some ⟨g, 0, none⟩) l.length cap) l.length (cellsD l)) :
    Calls Tryz.prog 11 #[.slice (some ⟨g, 0, none⟩) l.length cap, .int .i64 (k : Int)] w fun e w' => e = .returned (.int .i64 ((k + 4 * l.length : Nat) : Int)) ∧ w'.ownsRow base 49 4 (.slice (some ⟨g, 0, none⟩) l.length cap) l.length (cellsD (marksD k l.length)) ∧ w.grownBy w' (some g) := by
  go_enter Tryz.func11, Tryz.ntmps11
  go_wp2_with fail
  go_loopw [1, 5] (fun v n wr => ∃ i q : Nat, i ≤ l.length ∧ n = .int .i64 (i : Int) ∧ v = .int .i64 (q : Int) ∧ q = k + 4 * i ∧ wr.ownsRow base 49 4 (.slice (some ⟨g, 0, none⟩) l.length cap) l.length (cellsD (marksD k i ++ l.drop i)) ∧ w.grownBy wr (some g)) (fun _ n _ => l.length - (RowKit.intOf n).toNat)
  case atStart => exact ⟨0, k, Nat.zero_le _, rfl, rfl, by omega, by simpa [marksD] using h, gb_refl _ _⟩
  case round =>
    obtain ⟨i, q, hi, rfl, rfl, hq, ho, hg⟩ := hrel
    have HO : Hid (wr.ownsRow base 49 4 (.slice (some ⟨g, 0, none⟩) l.length cap) l.length (cellsD (marksD k i ++ l.drop i))) := ho
    have HG : Hid (w.grownBy wr (some g)) := hg
    have HQ : Hid (q = k + 4 * i) := hq
    have hq1 : 1 ≤ q := by omega
    have hq2 : q ≤ 4710000000000000000 := by omega
    clear ho hg hq h
    by_cases hlt : i < l.length
    · have hgl : g < wr.heap.size := (HO.out.lt g rfl).2
      have HT : Hid (∀ w, Calls Tryz.prog 27 #[.int .i64 ((q : Int) + 1 + 1 + 1)] w fun e w' => e = .returned (S (109 :: decDigits (q + 3))) ∧ Below w.heap.size w w') := fun w => markText_any (q + 3) w (by omega) (by omega)
      have hlen := (midD_at k i l hlt).1
      have HR : Hid (∀ j, j < l.length * 4 → ∃ u, wr.cell? ⟨g, j, none⟩ = some u) := fun j hj => own_cell HO.out j (by rw [cellsD_length, hlen]; exact hj)
      obtain ⟨x0, e0⟩ := HR.out (i * 4) (by omega)
      obtain ⟨x1, e1⟩ := HR.out (i * 4 + 1) (by omega)
      obtain ⟨x2, e2⟩ := HR.out (i * 4 + 2) (by omega)
      obtain ⟨x3, e3⟩ := HR.out (i * 4 + 3) (by omega)
      have ff : ∀ j, wr.frozen? ⟨g, j, none⟩ = false := own_frozen HO.out
      go_wp2_with (go_at_call 27; refine (HT.out _).mono ?_; rintro e w2 ⟨rfl, hb⟩; obtain ⟨hc, hf⟩ := bcell hb)
      have R := markD_next (q := q) HO.out HG.out hlt HQ.out hb
      exact ⟨⟨i + 1, q + 4, by omega, by go_num, by go_num, by have := HQ.out; omega, R.1, R.2⟩, by simp [RowKit.intOf]; omega⟩
    · have hil : i = l.length := by omega
      have HE : Hid ((q : Int) = ((k + 4 * l.length : Nat) : Int)) := by have := HQ.out; show (q : Int) = _; rw [this, hil]
      have HO2 : Hid (wr.ownsRow base 49 4 (.slice (some ⟨g, 0, none⟩) l.length cap) l.length (cellsD (marksD k l.length))) := by
        have h := HO.out
        rw [hil, List.drop_length, List.append_nil] at h
        exact h
      clear hil
      go_wp2
      go_ret
      exact ⟨by rw [← HE.out]; rfl, HO2.out, HG.out⟩
theorem markDS_nil (ao : Option Addr) (cap k : Nat) (w : World) :
    Calls Tryz.prog 11 #[.slice ao 0 cap, .int .i64 (k : Int)] w fun e w' => e = .returned (.int .i64 (k : Int)) ∧ w' = w := by
  go_enter Tryz.func11, Tryz.ntmps11
  go_wp2_with fail
  go_loop [1, 5] (fun v i => v = .int .i64 (k : Int) ∧ i = .int .i64 0) (fun _ _ => 0)
  case atStart => exact ⟨rfl, rfl⟩
  case round =>
    obtain ⟨rfl, rfl⟩ := hrel
    go_wp2
    go_ret
    exact ⟨rfl, rfl⟩
theorem markDS_any (ao : Option Addr) (cap base k : Nat) (l : List Dat) (w : World) (hl : l.length ≤ 1048576) (hk : 1 ≤ k) (hk2 : k ≤ 4700000000000000000) (h : w.ownsRow base 49 4 (.slice ao l.length cap) l.length (cellsD l)) :
    Calls Tryz.prog 11 #[.slice ao l.length cap, .int .i64 (k : Int)] w fun e w' => e = .returned (.int .i64 ((k + 4 * l.length : Nat) : Int)) ∧ w'.ownsRow base 49 4 (.slice ao l.length cap) l.length (cellsD (marksD k l.length)) ∧ w.grownBy w' (Value.slice ao l.length cap).ownBlock := by
  cases l with
  | nil =>
    refine (markDS_nil ao cap k w).mono ?_
    rintro e w' ⟨rfl, rfl⟩
    exact ⟨rfl, h, gb_refl _ _⟩
  | cons t r =>
    obtain ⟨g, c, hv, _, _⟩ := h.form (by simp)
    obtain ⟨rfl, rfl⟩ : ao = some ⟨g, 0, none⟩ ∧ cap = c := by simp at hv; exact hv
    exact markDS_some g cap base k (t :: r) w hl hk hk2 h
end Go.Proofs.YtfdkklhigliciaaGreatDoor
/-
  The laws' heldDatumS: whether data still hold the marks.
-/
namespace Go.Proofs.YtfdkklhigliciaaGreatDoor
open Go.RowKit Go.Extern.Stop Go.Stop Go.Extern Num Go.Lib

theorem heldD_at {w : World} {g cap base k n i q : Nat} (h : w.ownsRow base 49 4 (.slice (some ⟨g, 0, none⟩) n cap) n (cellsD (marksD k n))) (hi : i < n) (hq : q = k + 4 * i) :
    w.cell? ⟨g, i * 4, none⟩ = some (.int .i64 ((q : Int))) ∧ w.cell? ⟨g, i * 4 + 1, none⟩ = some (.int .i64 ((q : Int) + 1)) ∧ w.cell? ⟨g, i * 4 + 2, none⟩ = some (.int .i64 ((q : Int) + 1 + 1)) ∧ w.cell? ⟨g, i * 4 + 3, none⟩ = some (S (109 :: decDigits (q + 3))) := by
  subst hq
  have hl := marksD_len k n
  have h' : w.ownsRow base 49 4 (.slice (some ⟨g, 0, none⟩) (marksD k n).length cap) (marksD k n).length (cellsD (marksD k n)) := by rw [hl]; exact h
  obtain ⟨h1, h2, h3, h4⟩ := rowD_at h' i (by rw [hl]; exact hi)
  rw [marksD_at k n i hi] at h1 h2 h3 h4
  exact ⟨h1, h2, h3, h4⟩
set_option maxRecDepth 100000 in
set_option maxHeartbeats 2000000 in
theorem heldDS_some (g cap base k n : Nat) (w : World) (hl : n ≤ 1048576) (hk : 1 ≤ k) (hk2 : k ≤ 4700000000000000000) (h : w.ownsRow base 49 4 (.slice (some ⟨g, 0, none⟩) n cap) n (cellsD (marksD k n))) :
    Calls Tryz.prog 56 #[.slice (some ⟨g, 0, none⟩) n cap, .int .i64 (k : Int)] w fun e w' => e = .returned (.int .i64 ((k + 4 * n : Nat) : Int)) ∧ Below w.heap.size w w' := by
  have HO : Hid (w.ownsRow base 49 4 (.slice (some ⟨g, 0, none⟩) n cap) n (cellsD (marksD k n))) := h
  clear h
  go_enter Tryz.func56, Tryz.ntmps56
  go_wp2_with fail
  go_loopw [1, 5] (fun v m wr => ∃ i q : Nat, i ≤ n ∧ m = .int .i64 (i : Int) ∧ v = .int .i64 (q : Int) ∧ q = k + 4 * i ∧ Below w.heap.size w wr) (fun _ m _ => n - (RowKit.intOf m).toNat)
  case atStart => exact ⟨0, k, Nat.zero_le _, rfl, rfl, by omega, Below.refl _ _⟩
  case round =>
    obtain ⟨i, q, hi, rfl, rfl, hq, hb⟩ := hrel
    have HB : Hid (Below w.heap.size w wr) := hb
    have HQ : Hid (q = k + 4 * i) := hq
    have hq1 : 1 ≤ q := by omega
    have hq2 : q ≤ 4710000000000000000 := by omega
    clear hb hq
    by_cases hlt : i < n
    · have HA : Hid _ := heldD_at (own_below HO.out HB.out) hlt HQ.out
      have a0 := HA.out.1
      have a1 := HA.out.2.1
      have a2 := HA.out.2.2.1
      have a3 : ∀ p : BW wr, p.x.cell? ⟨g, i * 4 + 3, none⟩ = some (S (109 :: decDigits (q + 3))) := fun p => p.cell HA.out.2.2.2
      have hne := bw_some wr
      have HT : Hid (∀ w, Calls Tryz.prog 27 #[.int .i64 ((q : Int) + 1 + 1 + 1)] w fun e w' => e = .returned (S (109 :: decDigits (q + 3))) ∧ Below w.heap.size w w') := fun w => markText_any (q + 3) w (by omega) (by omega)
      go_wp2_with fail
      refine wp_region_below (by kernel_rfl) (by kernel_rfl) ?_
      repeat (go_big_quiet_step ((go_at_call 27; exact calls_bw (HT.out _))))
      refine wpQuiet_nil ?_
      intro wq hw'
      obtain ⟨⟨_, bq⟩, rfl⟩ := hw'
      have HB2 : Hid _ := HB.out.trans (bq.mono HB.out.size)
      clear bq a0 a1 a2 a3 hne
      go_wp2
      exact ⟨⟨i + 1, q + 4, by omega, by go_num, by go_num, by have := HQ.out; omega, HB2.out⟩, by simp [RowKit.intOf]; omega⟩
    · have hil : i = n := by omega
      have HE : Hid ((q : Int) = ((k + 4 * n : Nat) : Int)) := by have := HQ.out; show (q : Int) = _; rw [this, hil]
      clear hil
      go_wp2
      go_ret
      exact ⟨by rw [← HE.out]; rfl, HB.out⟩
theorem heldDS_nil (ao : Option Addr) (cap k : Nat) (w : World) :
    Calls Tryz.prog 56 #[.slice ao 0 cap, .int .i64 (k : Int)] w fun e w' => e = .returned (.int .i64 (k : Int)) ∧ w' = w := by
  go_enter Tryz.func56, Tryz.ntmps56
  go_wp2_with fail
  go_loop [1, 5] (fun v i => v = .int .i64 (k : Int) ∧ i = .int .i64 0) (fun _ _ => 0)
  case atStart => exact ⟨rfl, rfl⟩
  case round =>
    obtain ⟨rfl, rfl⟩ := hrel
    go_wp2
    go_ret
    exact ⟨rfl, rfl⟩
theorem heldDS_any (ao : Option Addr) (cap base k n : Nat) (w : World) (hl : n ≤ 1048576) (hk : 1 ≤ k) (hk2 : k ≤ 4700000000000000000) (h : w.ownsRow base 49 4 (.slice ao n cap) n (cellsD (marksD k n))) :
    Calls Tryz.prog 56 #[.slice ao n cap, .int .i64 (k : Int)] w fun e w' => e = .returned (.int .i64 ((k + 4 * n : Nat) : Int)) ∧ Below w.heap.size w w' := by
  cases n with
  | zero =>
    refine (heldDS_nil ao cap k w).mono ?_
    rintro e w' ⟨rfl, rfl⟩
    exact ⟨rfl, Below.refl _ _⟩
  | succ n =>
    obtain ⟨g, c, hv, _, _⟩ := h.form (by simp)
    obtain ⟨rfl, rfl⟩ : ao = some ⟨g, 0, none⟩ ∧ cap = c := by simp at hv; exact hv
    exact heldDS_some g cap base k (n + 1) w hl hk hk2 h
end Go.Proofs.YtfdkklhigliciaaGreatDoor
