/-
  Rows of int64 that a slice owns; the laws' eqInt64S, markInt64S and heldInt64S; nothing but a marked row is turned.
-/
import Derived.Test.YtdohpfckiahlcaaRowKit0
namespace Go.Proofs.Ytdohpfckiahlcaa
open Go.RowKit Go.Extern.Stop Go.Stop Go.Extern Num Go.Lib

def cellsI (l : List Int) : List Value := l.map (Value.int .i64)
theorem cellsI_length (l : List Int) : (cellsI l).length = l.length := by simp [cellsI]
theorem cellsI_append (a b : List Int) : cellsI (a ++ b) = cellsI a ++ cellsI b := by simp [cellsI]
theorem infoI : (Try.prog.info? 2).map (fun i => (i.zero, i.size, i.bytes)) = some (some (.int .i64 0), 1, 8) := by kernel_rfl
theorem rowI_at {w : World} {base g cap : Nat} {l : List Int} (h : w.ownsRow base 2 1 (.slice (some ⟨g, 0, none⟩) l.length cap) l.length (cellsI l)) (k : Nat) (hk : k < l.length) :
    w.cell? ⟨g, k, none⟩ = some (.int .i64 l[k]) := by
  have ha : ∀ j, (⟨g, 0, none⟩ : Addr).add j = ⟨g, j, none⟩ := fun j => by unfold Addr.add; split <;> simp_all
  rw [← ha]
  exact h.cells (g := g) rfl k _ (by simp [cellsI, hk])
theorem newsI {W : World} {b : Nat} {x : Value} {ty : TypeId} {fr : Nat × Nat} (h : W.heap[b]? = some (.cells #[x] ty fr)) : ∀ j u, [x][j]? = some u → W.cell? ((⟨b, 0, none⟩ : Addr).add j) = some u := by
  intro j u hj
  have ha : ∀ j, (⟨b, 0, none⟩ : Addr).add j = ⟨b, j, none⟩ := fun j => by unfold Addr.add; split <;> simp_all
  rw [ha, cell_of_row W b j _ ty fr h]
  match j, hj with
  | 0, hj => simpa using hj
theorem eqIS_nil (ao bo : Option Addr) (ca cb : Nat) (w : World) :
    Calls Try.prog 47 #[.slice ao 0 ca, .slice bo 0 cb] w fun e w' => e = .returned (.bool true) ∧ Below w.heap.size w w' := by
  go_enter Try.func47, Try.ntmps47
  go_wp2_with fail
  go_loop [5] (fun i => i = .int .i64 0) (fun _ => 0)
  case atStart => rfl
  case round =>
    obtain rfl := hrel
    go_wp2
    go_ret
    exact ⟨rfl, Below.refl _ _⟩
set_option maxRecDepth 100000 in
set_option maxHeartbeats 1000000 in
theorem eqIS_some (g1 g2 c1 c2 b1 b2 : Nat) (l : List Int) (w : World) (hl : l.length ≤ 1048576) (h1 : w.ownsRow b1 2 1 (.slice (some ⟨g1, 0, none⟩) l.length c1) l.length (cellsI l)) (h2 : w.ownsRow b2 2 1 (.slice (some ⟨g2, 0, none⟩) l.length c2) l.length (cellsI l)) :
    Calls Try.prog 47 #[.slice (some ⟨g1, 0, none⟩) l.length c1, .slice (some ⟨g2, 0, none⟩) l.length c2] w fun e w' => e = .returned (.bool true) ∧ Below w.heap.size w w' := by
  have H1 : Hid _ := fun k hk => rowI_at h1 k hk
  have H2 : Hid _ := fun k hk => rowI_at h2 k hk
  clear h1 h2
  go_enter Try.func47, Try.ntmps47
  go_wp2_with fail
  go_loopw [5] (fun i wr => ∃ k : Nat, k ≤ l.length ∧ i = .int .i64 (k : Int) ∧ Below w.heap.size w wr) (fun i _ => l.length - (RowKit.intOf i).toNat)
  case atStart => exact ⟨0, Nat.zero_le _, rfl, Below.refl _ _⟩
  case round =>
    obtain ⟨k, hk, rfl, hb⟩ := hrel
    have HB : Hid (Below w.heap.size w wr) := hb
    clear hb
    by_cases hlt : k < l.length
    · have a0 : ∀ p : BW wr, p.x.cell? ⟨g1, k, none⟩ = some (.int .i64 (l[k]'hlt)) := fun p => p.cell (cell_keep HB.out (H1.out k hlt))
      have d0 : ∀ p : BW wr, p.x.cell? ⟨g2, k, none⟩ = some (.int .i64 (l[k]'hlt)) := fun p => p.cell (cell_keep HB.out (H2.out k hlt))
      have hne := bw_some wr
      go_wp2_with fail
      refine wp_region_below (by kernel_rfl) (by kernel_rfl) ?_
      repeat (go_big_quiet_step (fail))
      refine wpQuiet_nil ?_
      intro wq hw'
      obtain ⟨⟨_, bq⟩, rfl⟩ := hw'
      have HB2 : Hid _ := HB.out.trans (bq.mono HB.out.size)
      clear bq a0 d0 hne
      go_wp2
      exact ⟨⟨k + 1, by omega, by go_num, HB2.out⟩, by simp [RowKit.intOf]; omega⟩
    · go_wp2
      go_ret
      exact ⟨rfl, HB.out⟩
theorem eqIS_same (a b : Value) (b1 b2 : Nat) (l : List Int) (w : World) (hl : l.length ≤ 1048576) (h1 : w.ownsRow b1 2 1 a l.length (cellsI l)) (h2 : w.ownsRow b2 2 1 b l.length (cellsI l)) :
    Calls Try.prog 47 #[a, b] w fun e w' => e = .returned (.bool true) ∧ Below w.heap.size w w' := by
  cases l with
  | nil =>
    obtain ⟨ao, ca, rfl⟩ := own_form h1
    obtain ⟨bo, cb, rfl⟩ := own_form h2
    exact eqIS_nil ao bo ca cb w
  | cons t r =>
    obtain ⟨g1, c1, rfl, _, _⟩ := h1.form (by simp)
    obtain ⟨g2, c2, rfl, _, _⟩ := h2.form (by simp)
    exact eqIS_some g1 g2 c1 c2 b1 b2 (t :: r) w hl h1 h2
/-- The marks of a row. -/
def marksI (k : Nat) : Nat → List Int
  | 0 => []
  | n + 1 => marksI k n ++ [((k + n : Nat) : Int)]
theorem marksI_len (k n : Nat) : (marksI k n).length = n := by
  induction n with
  | zero => rfl
  | succ n ih => simp [marksI, ih]
theorem marksI_at (k n i : Nat) (h : i < n) : (marksI k n)[i]'(by rw [marksI_len]; exact h) = ((k + i : Nat) : Int) := by
  induction n with
  | zero => omega
  | succ n ih =>
    simp only [marksI]
    by_cases hi : i < n
    · rw [List.getElem_append_left (by rw [marksI_len]; exact hi)]; exact ih hi
    · have : i = n := by omega
      subst this
      rw [List.getElem_append_right (by rw [marksI_len]; omega)]
      simp [marksI_len]
theorem marksI_zero (k : Nat) (l : List Int) : marksI k 0 ++ l.drop 0 = l := by simp [marksI]
theorem markI_next {w wr : World} {g cap base k i q : Nat} {l : List Int}
    (ho : wr.ownsRow base 2 1 (.slice (some ⟨g, 0, none⟩) l.length cap) l.length (cellsI (marksI k i ++ l.drop i))) (hg : w.grownBy wr (some g)) (hi : i < l.length) (hq : q = k + i) :
    (wr.setCell ⟨g, i, none⟩ (.int .i64 (q : Int))).ownsRow base 2 1 (.slice (some ⟨g, 0, none⟩) l.length cap) l.length (cellsI (marksI k (i + 1) ++ l.drop (i + 1))) ∧ w.grownBy (wr.setCell ⟨g, i, none⟩ (.int .i64 (q : Int))) (some g) := by
  refine ⟨?_, gb_set hg _⟩
  have h := own_put ho i (.int .i64 (q : Int))
  have e : (cellsI (marksI k i ++ l.drop i)).set i (.int .i64 (q : Int)) = cellsI (marksI k (i + 1) ++ l.drop (i + 1)) := by
    have e1 : l.drop i = l[i] :: l.drop (i + 1) := List.drop_eq_getElem_cons hi
    obtain ⟨R, hR⟩ : ∃ R, R = l.drop (i + 1) := ⟨_, rfl⟩
    rw [← hR] at e1 ⊢
    rw [e1, cellsI_append, cellsI_append, List.set_append_right _ _ (by rw [cellsI_length, marksI_len]; omega), cellsI_length, marksI_len, Nat.sub_self]
    simp [marksI, cellsI, hq]
  rw [e] at h
  exact h
set_option maxHeartbeats 1000000 in
theorem markIS_some (g cap base k : Nat) (l : List Int) (w : World) (hl : l.length ≤ 1048576) (hk2 : k ≤ 7000000) (h : w.ownsRow base 2 1 (.slice (some ⟨g, 0, none⟩) l.length cap) l.length (cellsI l)) :
    Calls Try.prog 35 #[.slice (some ⟨g, 0, none⟩) l.length cap, .int .i64 (k : Int)] w fun e w' => e = .returned (.int .i64 ((k + l.length : Nat) : Int)) ∧ w'.ownsRow base 2 1 (.slice (some ⟨g, 0, none⟩) l.length cap) l.length (cellsI (marksI k l.length)) ∧ w.grownBy w' (some g) := by
  obtain ⟨R, hR⟩ : ∃ R : Nat, R = k + l.length := ⟨_, rfl⟩
  rw [← hR]
  have HRn : Hid (R = k + l.length) := hR
  clear hR
  go_enter Try.func35, Try.ntmps35
  go_wp2_with fail
  go_loopw [1, 5] (fun v n wr => ∃ i q : Nat, i ≤ l.length ∧ n = .int .i64 (i : Int) ∧ v = .int .i64 (q : Int) ∧ q = k + i ∧ Hid (wr.ownsRow base 2 1 (.slice (some ⟨g, 0, none⟩) l.length cap) l.length (cellsI (marksI k i ++ l.drop i))) ∧ Hid (w.grownBy wr (some g))) (fun _ n _ => l.length - (RowKit.intOf n).toNat)
  case atStart => exact ⟨0, k, Nat.zero_le _, rfl, rfl, by omega, by rw [marksI_zero]; exact h, gb_refl _ _⟩
  case round =>
    obtain ⟨i, q, hi, rfl, rfl, hq, HO, HG⟩ := hrel
    have HQ : Hid (q = k + i) := hq
    have hq2 : q ≤ 9000000 := by omega
    clear hq h
    by_cases hlt : i < l.length
    · obtain ⟨x0, e0⟩ := own_cell HO.out i (by rw [cellsI_length, List.length_append, marksI_len, List.length_drop]; omega)
      have ff : ∀ j, wr.frozen? ⟨g, j, none⟩ = false := own_frozen HO.out
      go_wp2
      have R := markI_next (q := q) HO.out HG.out hlt HQ.out
      exact ⟨⟨i + 1, q + 1, by omega, by go_num, by go_num, by have := HQ.out; omega, R.1, R.2⟩, by simp [RowKit.intOf]; omega⟩
    · have hil : i = l.length := by omega
      have HE : Hid (q = R) := by have := HQ.out; have := HRn.out; show q = R; omega
      have HO2 : Hid (wr.ownsRow base 2 1 (.slice (some ⟨g, 0, none⟩) l.length cap) l.length (cellsI (marksI k l.length))) := by
        have h := HO.out
        rw [hil, List.drop_length, List.append_nil] at h
        exact h
      clear hil
      go_wp2
      go_ret
      exact ⟨by rw [HE.out]; rfl, HO2.out, HG.out⟩
set_option maxHeartbeats 1000000 in
theorem heldIS_some (g cap base k n : Nat) (w : World) (hl : n ≤ 1048576) (hk2 : k ≤ 7000000) (h : w.ownsRow base 2 1 (.slice (some ⟨g, 0, none⟩) n cap) n (cellsI (marksI k n))) :
    Calls Try.prog 48 #[.slice (some ⟨g, 0, none⟩) n cap, .int .i64 (k : Int)] w fun e w' => e = .returned (.int .i64 ((k + n : Nat) : Int)) ∧ Below w.heap.size w w' := by
  have HA : Hid (∀ i, i < n → w.cell? ⟨g, i, none⟩ = some (.int .i64 ((k + i : Nat) : Int))) := fun i hi => by
    have h' : w.ownsRow base 2 1 (.slice (some ⟨g, 0, none⟩) (marksI k n).length cap) (marksI k n).length (cellsI (marksI k n)) := by rw [marksI_len]; exact h
    have := rowI_at h' i (by rw [marksI_len]; exact hi)
    rw [marksI_at k n i hi] at this
    exact this
  clear h
  obtain ⟨R, hR⟩ : ∃ R : Nat, R = k + n := ⟨_, rfl⟩
  rw [← hR]
  have HRn : Hid (R = k + n) := hR
  clear hR
  go_enter Try.func48, Try.ntmps48
  go_wp2_with fail
  go_loopw [1, 5] (fun v m wr => ∃ i q : Nat, i ≤ n ∧ m = .int .i64 (i : Int) ∧ v = .int .i64 (q : Int) ∧ q = k + i ∧ Hid (wr = w)) (fun _ m _ => n - (RowKit.intOf m).toNat)
  case atStart => exact ⟨0, k, Nat.zero_le _, rfl, rfl, by omega, rfl⟩
  case round =>
    obtain ⟨i, q, hi, rfl, rfl, hq, HW⟩ := hrel
    have hw : wr = w := HW.out
    subst hw
    have HQ : Hid (q = k + i) := hq
    have hq2 : q ≤ 9000000 := by omega
    clear hq
    by_cases hlt : i < n
    · have a0 : wr.cell? ⟨g, i, none⟩ = some (.int .i64 (q : Int)) := by rw [HA.out i hlt, HQ.out]
      go_wp2
      exact ⟨⟨i + 1, q + 1, by omega, by go_num, by go_num, by have := HQ.out; omega, trivial⟩, by simp [RowKit.intOf]; omega⟩
    · have hil : i = n := by omega
      have HE : Hid (q = R) := by have := HQ.out; have := HRn.out; show q = R; omega
      clear hil
      go_wp2
      go_ret
      exact ⟨by rw [HE.out]; rfl, Below.refl _ _⟩
theorem markIS_nil (ao : Option Addr) (cap k : Nat) (w : World) :
    Calls Try.prog 35 #[.slice ao 0 cap, .int .i64 (k : Int)] w fun e w' => e = .returned (.int .i64 (k : Int)) ∧ w' = w := by
  go_enter Try.func35, Try.ntmps35
  go_wp2_with fail
  go_loop [1, 5] (fun v i => v = .int .i64 (k : Int) ∧ i = .int .i64 0) (fun _ _ => 0)
  case atStart => exact ⟨rfl, rfl⟩
  case round =>
    obtain ⟨rfl, rfl⟩ := hrel
    go_wp2
    go_ret
    exact ⟨rfl, rfl⟩
theorem heldIS_nil (ao : Option Addr) (cap k : Nat) (w : World) :
    Calls Try.prog 48 #[.slice ao 0 cap, .int .i64 (k : Int)] w fun e w' => e = .returned (.int .i64 (k : Int)) ∧ w' = w := by
  go_enter Try.func48, Try.ntmps48
  go_wp2_with fail
  go_loop [1, 5] (fun v i => v = .int .i64 (k : Int) ∧ i = .int .i64 0) (fun _ _ => 0)
  case atStart => exact ⟨rfl, rfl⟩
  case round =>
    obtain ⟨rfl, rfl⟩ := hrel
    go_wp2
    go_ret
    exact ⟨rfl, rfl⟩
theorem markIS_any (ao : Option Addr) (cap base k : Nat) (l : List Int) (w : World) (hl : l.length ≤ 1048576) (hk2 : k ≤ 7000000) (h : w.ownsRow base 2 1 (.slice ao l.length cap) l.length (cellsI l)) :
    Calls Try.prog 35 #[.slice ao l.length cap, .int .i64 (k : Int)] w fun e w' => e = .returned (.int .i64 ((k + l.length : Nat) : Int)) ∧ w'.ownsRow base 2 1 (.slice ao l.length cap) l.length (cellsI (marksI k l.length)) ∧ w.grownBy w' (Value.slice ao l.length cap).ownBlock := by
  cases l with
  | nil =>
    refine (markIS_nil ao cap k w).mono ?_
    rintro e w' ⟨rfl, rfl⟩
    exact ⟨rfl, h, gb_refl _ _⟩
  | cons t r =>
    obtain ⟨g, c, hv, _, _⟩ := h.form (by simp)
    obtain ⟨rfl, rfl⟩ : ao = some ⟨g, 0, none⟩ ∧ cap = c := by simp at hv; exact hv
    exact markIS_some g cap base k (t :: r) w hl hk2 h
theorem heldIS_any (ao : Option Addr) (cap base k n : Nat) (w : World) (hl : n ≤ 1048576) (hk2 : k ≤ 7000000) (h : w.ownsRow base 2 1 (.slice ao n cap) n (cellsI (marksI k n))) :
    Calls Try.prog 48 #[.slice ao n cap, .int .i64 (k : Int)] w fun e w' => e = .returned (.int .i64 ((k + n : Nat) : Int)) ∧ Below w.heap.size w w' := by
  cases n with
  | zero =>
    refine (heldIS_nil ao cap k w).mono ?_
    rintro e w' ⟨rfl, rfl⟩
    exact ⟨rfl, Below.refl _ _⟩
  | succ n =>
    obtain ⟨g, c, hv, _, _⟩ := h.form (by simp)
    obtain ⟨rfl, rfl⟩ : ao = some ⟨g, 0, none⟩ ∧ cap = c := by simp at hv; exact hv
    exact heldIS_some g cap base k (n + 1) w hl hk2 h
end Go.Proofs.Ytdohpfckiahlcaa
