/-
  The laws' markStringS, heldStringS, eqTextsResult, markTextsResult and heldTextsResult; nothing but a marked row is turned.
-/
import Derived.Test.YtjcamjdfdalbcaaDoorStStr
import Derived.Test.YtjcamjdfdalbcaaDoorMark
import Derived.Test.YtjcamjdfdalbcaaDoorRegion
namespace Go.Proofs.YtjcamjdfdalbcaaDoor
open Go.RowKit Go.Extern.Stop Go.Stop Go.Extern Num Go.Lib

/-- The text that marks a place. -/
def mkS (k : Nat) : ByteArray := ⟨(109 :: decDigits k).toArray⟩
def marksT (k : Nat) : Nat → List ByteArray
  | 0 => []
  | n + 1 => marksT k n ++ [mkS (k + n)]
theorem marksT_len (k n : Nat) : (marksT k n).length = n := by
  induction n with
  | zero => rfl
  | succ n ih => simp [marksT, ih]
theorem marksT_at (k n i : Nat) (h : i < n) : (marksT k n)[i]'(by rw [marksT_len]; exact h) = mkS (k + i) := by
  induction n with
  | zero => omega
  | succ n ih =>
    simp only [marksT]
    by_cases hi : i < n
    · rw [List.getElem_append_left (by rw [marksT_len]; exact hi)]; exact ih hi
    · have : i = n := by omega
      subst this
      rw [List.getElem_append_right (by rw [marksT_len]; omega)]
      simp [marksT_len]
theorem marksT_zero (k : Nat) (l : List ByteArray) : marksT k 0 ++ l.drop 0 = l := by simp [marksT]
theorem markT_next {w wr w2 : World} {g cap base k i q : Nat} {l : List ByteArray}
    (ho : wr.ownsRow base 9 1 (.slice (some ⟨g, 0, none⟩) l.length cap) l.length (cellsT (marksT k i ++ l.drop i))) (hg : w.grownBy wr (some g)) (hi : i < l.length) (hq : q = k + i) (hb : Below wr.heap.size wr w2) :
    (w2.setCell ⟨g, i, none⟩ (.string (mkS q))).ownsRow base 9 1 (.slice (some ⟨g, 0, none⟩) l.length cap) l.length (cellsT (marksT k (i + 1) ++ l.drop (i + 1))) ∧ w.grownBy (w2.setCell ⟨g, i, none⟩ (.string (mkS q))) (some g) := by
  refine ⟨?_, gb_set (gb_below hg hb) _⟩
  have h := own_put (own_below ho hb) i (.string (mkS q))
  have e : (cellsT (marksT k i ++ l.drop i)).set i (.string (mkS q)) = cellsT (marksT k (i + 1) ++ l.drop (i + 1)) := by
    have e1 : l.drop i = l[i] :: l.drop (i + 1) := List.drop_eq_getElem_cons hi
    obtain ⟨R, hR⟩ : ∃ R, R = l.drop (i + 1) := ⟨_, rfl⟩
    rw [← hR] at e1 ⊢
    rw [e1, cellsT_append, cellsT_append, List.set_append_right _ _ (by rw [cellsT_length, marksT_len]; omega), cellsT_length, marksT_len, Nat.sub_self]
    simp [marksT, cellsT, hq]
  rw [e] at h
  exact h
set_option maxHeartbeats 1000000 in
theorem markTS_some (g cap base k : Nat) (l : List ByteArray) (w : World) (hl : l.length ≤ 1048576) (hk1 : 1 ≤ k) (hk2 : k ≤ 7000000) (h : w.ownsRow base 9 1 (.slice (some ⟨g, 0, none⟩) l.length cap) l.length (cellsT l)) :
    Calls Tryd.prog 17 #[.slice (some ⟨g, 0, none⟩) l.length cap, .int .i64 (k : Int)] w fun e w' => e = .returned (.int .i64 ((k + l.length : Nat) : Int)) ∧ w'.ownsRow base 9 1 (.slice (some ⟨g, 0, none⟩) l.length cap) l.length (cellsT (marksT k l.length)) ∧ w.grownBy w' (some g) := by
  obtain ⟨R, hR⟩ : ∃ R : Nat, R = k + l.length := ⟨_, rfl⟩
  rw [← hR]
  have HRn : Hid (R = k + l.length) := hR
  clear hR
  go_enter Tryd.func17, Tryd.ntmps17
  go_wp2_with fail
  go_loopw [1, 5] (fun v n wr => ∃ i q : Nat, i ≤ l.length ∧ n = .int .i64 (i : Int) ∧ v = .int .i64 (q : Int) ∧ q = k + i ∧ Hid (wr.ownsRow base 9 1 (.slice (some ⟨g, 0, none⟩) l.length cap) l.length (cellsT (marksT k i ++ l.drop i))) ∧ Hid (w.grownBy wr (some g))) (fun _ n _ => l.length - (RowKit.intOf n).toNat)
  case atStart => exact ⟨0, k, Nat.zero_le _, rfl, rfl, by omega, by rw [marksT_zero]; exact h, gb_refl _ _⟩
  case round =>
    obtain ⟨i, q, hi, rfl, rfl, hq, HO, HG⟩ := hrel
    have HQ : Hid (q = k + i) := hq
    have hq2 : q ≤ 9000000 := by omega
    have hq1 : 1 ≤ q := by omega
    clear hq h
    by_cases hlt : i < l.length
    · have HT : Hid (∀ w, Calls Tryd.prog 24 #[.int .i64 (q : Int)] w fun e w' => e = .returned (.string (mkS q)) ∧ Below w.heap.size w w') := fun w => markText_any q w hq1 (by omega)
      obtain ⟨x0, e0⟩ := own_cell HO.out i (by rw [cellsT_length, List.length_append, marksT_len, List.length_drop]; omega)
      have hgl : g < wr.heap.size := (HO.out.lt g rfl).2
      have ff : ∀ j, wr.frozen? ⟨g, j, none⟩ = false := own_frozen HO.out
      go_wp2_with (go_at_call 24; refine (HT.out _).mono ?_; rintro e w2 ⟨rfl, hb⟩; obtain ⟨hc, hf⟩ := bcell hb)
      have R := markT_next (q := q) HO.out HG.out hlt HQ.out hb
      exact ⟨⟨i + 1, q + 1, by omega, by go_num, by go_num, by have := HQ.out; omega, R.1, R.2⟩, by simp [RowKit.intOf]; omega⟩
    · have hil : i = l.length := by omega
      have HE : Hid (q = R) := by have := HQ.out; have := HRn.out; show q = R; omega
      have HO2 : Hid (wr.ownsRow base 9 1 (.slice (some ⟨g, 0, none⟩) l.length cap) l.length (cellsT (marksT k l.length))) := by
        have h := HO.out
        rw [hil, List.drop_length, List.append_nil] at h
        exact h
      clear hil
      go_wp2
      go_ret
      exact ⟨by rw [HE.out]; rfl, HO2.out, HG.out⟩
set_option maxHeartbeats 1000000 in
theorem heldTS_some (g cap base k n : Nat) (w : World) (hl : n ≤ 1048576) (hk1 : 1 ≤ k) (hk2 : k ≤ 7000000) (h : w.ownsRow base 9 1 (.slice (some ⟨g, 0, none⟩) n cap) n (cellsT (marksT k n))) :
    Calls Tryd.prog 18 #[.slice (some ⟨g, 0, none⟩) n cap, .int .i64 (k : Int)] w fun e w' => e = .returned (.int .i64 ((k + n : Nat) : Int)) ∧ Below w.heap.size w w' := by
  have HA : Hid (∀ i, i < n → w.cell? ⟨g, i, none⟩ = some (.string (mkS (k + i)))) := fun i hi => by
    have h' : w.ownsRow base 9 1 (.slice (some ⟨g, 0, none⟩) (marksT k n).length cap) (marksT k n).length (cellsT (marksT k n)) := by rw [marksT_len]; exact h
    have := rowT_at h' i (by rw [marksT_len]; exact hi)
    rw [marksT_at k n i hi] at this
    exact this
  clear h
  obtain ⟨R, hR⟩ : ∃ R : Nat, R = k + n := ⟨_, rfl⟩
  rw [← hR]
  have HRn : Hid (R = k + n) := hR
  clear hR
  go_enter Tryd.func18, Tryd.ntmps18
  go_wp2_with fail
  go_loopw [1, 5] (fun v m wr => ∃ i q : Nat, i ≤ n ∧ m = .int .i64 (i : Int) ∧ v = .int .i64 (q : Int) ∧ q = k + i ∧ Hid (Below w.heap.size w wr)) (fun _ m _ => n - (RowKit.intOf m).toNat)
  case atStart => exact ⟨0, k, Nat.zero_le _, rfl, rfl, by omega, Below.refl _ _⟩
  case round =>
    obtain ⟨i, q, hi, rfl, rfl, hq, HB⟩ := hrel
    have HQ : Hid (q = k + i) := hq
    have hq2 : q ≤ 9000000 := by omega
    have hq1 : 1 ≤ q := by omega
    clear hq
    by_cases hlt : i < n
    · obtain ⟨s, hs⟩ : ∃ s, s = mkS q := ⟨_, rfl⟩
      have a0 : ∀ p : BW wr, p.x.cell? ⟨g, i, none⟩ = some (.string s) := fun p => p.cell (cell_keep HB.out (by rw [HA.out i hlt, hs, HQ.out]))
      have HT : Hid (∀ p : BW wr, Calls Tryd.prog 24 #[.int .i64 (q : Int)] p.x fun e w' => e = .returned (.string s) ∧ Below p.x.heap.size p.x w') := fun p => by rw [hs]; exact markText_any q _ hq1 (by omega)
      have hne := bw_some wr
      have hss : (s.toList != s.toList) = false := by simp
      have hss2 : (s.toList == s.toList) = true := by simp
      clear hs
      go_wp2_with fail
      refine wp_region_below (by kernel_rfl) (by kernel_rfl) ?_
      repeat (go_big_quiet_step ((go_at_call 24; exact calls_bw (HT.out _))))
      refine wpQuiet_nil ?_
      intro wq hw'
      obtain ⟨⟨_, bq⟩, rfl⟩ := hw'
      have HB2 : Hid (Below w.heap.size w wq) := HB.out.trans (bq.mono HB.out.size)
      clear bq a0 hne HT
      go_wp2
      exact ⟨⟨i + 1, q + 1, by omega, by go_num, by go_num, by have := HQ.out; omega, HB2.out⟩, by simp [RowKit.intOf]; omega⟩
    · have hil : i = n := by omega
      have HE : Hid (q = R) := by have := HQ.out; have := HRn.out; show q = R; omega
      clear hil
      go_wp2
      go_ret
      exact ⟨by rw [HE.out]; rfl, HB.out⟩
theorem markTS_nil (ao : Option Addr) (cap k : Nat) (w : World) :
    Calls Tryd.prog 17 #[.slice ao 0 cap, .int .i64 (k : Int)] w fun e w' => e = .returned (.int .i64 (k : Int)) ∧ w' = w := by
  go_enter Tryd.func17, Tryd.ntmps17
  go_wp2_with fail
  go_loop [1, 5] (fun v i => v = .int .i64 (k : Int) ∧ i = .int .i64 0) (fun _ _ => 0)
  case atStart => exact ⟨rfl, rfl⟩
  case round =>
    obtain ⟨rfl, rfl⟩ := hrel
    go_wp2
    go_ret
    exact ⟨rfl, rfl⟩
theorem heldTS_nil (ao : Option Addr) (cap k : Nat) (w : World) :
    Calls Tryd.prog 18 #[.slice ao 0 cap, .int .i64 (k : Int)] w fun e w' => e = .returned (.int .i64 (k : Int)) ∧ w' = w := by
  go_enter Tryd.func18, Tryd.ntmps18
  go_wp2_with fail
  go_loop [1, 5] (fun v i => v = .int .i64 (k : Int) ∧ i = .int .i64 0) (fun _ _ => 0)
  case atStart => exact ⟨rfl, rfl⟩
  case round =>
    obtain ⟨rfl, rfl⟩ := hrel
    go_wp2
    go_ret
    exact ⟨rfl, rfl⟩
theorem markTS_any (ao : Option Addr) (cap base k : Nat) (l : List ByteArray) (w : World) (hl : l.length ≤ 1048576) (hk1 : 1 ≤ k) (hk2 : k ≤ 7000000) (h : w.ownsRow base 9 1 (.slice ao l.length cap) l.length (cellsT l)) :
    Calls Tryd.prog 17 #[.slice ao l.length cap, .int .i64 (k : Int)] w fun e w' => e = .returned (.int .i64 ((k + l.length : Nat) : Int)) ∧ w'.ownsRow base 9 1 (.slice ao l.length cap) l.length (cellsT (marksT k l.length)) ∧ w.grownBy w' (Value.slice ao l.length cap).ownBlock := by
  cases l with
  | nil =>
    refine (markTS_nil ao cap k w).mono ?_
    rintro e w' ⟨rfl, rfl⟩
    exact ⟨rfl, h, gb_refl _ _⟩
  | cons t r =>
    obtain ⟨g, c, hv, _, _⟩ := h.form (by simp)
    obtain ⟨rfl, rfl⟩ : ao = some ⟨g, 0, none⟩ ∧ cap = c := by simp at hv; exact hv
    exact markTS_some g cap base k (t :: r) w hl hk1 hk2 h
theorem heldTS_any (ao : Option Addr) (cap base k n : Nat) (w : World) (hl : n ≤ 1048576) (hk1 : 1 ≤ k) (hk2 : k ≤ 7000000) (h : w.ownsRow base 9 1 (.slice ao n cap) n (cellsT (marksT k n))) :
    Calls Tryd.prog 18 #[.slice ao n cap, .int .i64 (k : Int)] w fun e w' => e = .returned (.int .i64 ((k + n : Nat) : Int)) ∧ Below w.heap.size w w' := by
  cases n with
  | zero =>
    refine (heldTS_nil ao cap k w).mono ?_
    rintro e w' ⟨rfl, rfl⟩
    exact ⟨rfl, Below.refl _ _⟩
  | succ n =>
    obtain ⟨g, c, hv, _, _⟩ := h.form (by simp)
    obtain ⟨rfl, rfl⟩ : ao = some ⟨g, 0, none⟩ ∧ cap = c := by simp at hv; exact hv
    exact heldTS_some g cap base k (n + 1) w hl hk1 hk2 h
theorem eqRT_same (c0 : Int) (ao bo : Option Addr) (ca cb b1 b2 : Nat) (l : List ByteArray) (w : World) (hl : l.length ≤ 1048576) (h1 : w.ownsRow b1 9 1 (.slice ao l.length ca) l.length (cellsT l)) (h2 : w.ownsRow b2 9 1 (.slice bo l.length cb) l.length (cellsT l)) :
    Calls Tryd.prog 6 #[.agg #[.int .i64 c0, .slice ao l.length ca], .agg #[.int .i64 c0, .slice bo l.length cb]] w fun e w' => e = .returned (.bool true) ∧ Below w.heap.size w w' := by
  have HS : Hid (∀ o o', Calls Tryd.prog 16 #[.slice ao l.length ca, .slice bo l.length cb] ((w.alloc o).alloc o') fun e w' => e = .returned (.bool true) ∧ Below ((w.alloc o).alloc o').heap.size ((w.alloc o).alloc o') w') := fun o o' => eqTS_same _ _ b1 b2 l _ hl ((h1.alloc _).alloc _) ((h2.alloc _).alloc _)
  clear h1 h2
  go_enter Tryd.func6, Tryd.ntmps6
  go_wp2_with (go_at_call 16; refine (HS.out _ _).mono ?_; rintro e w1 ⟨rfl, hq⟩)
  go_ret
  refine ⟨rfl, ?_⟩
  repeat (first | exact Below.refl _ _ | refine Below.trans ?_ (hq.mono (by simp <;> omega)) | refine Below.alloc ?_ (by simp <;> omega) _ | refine Below.drew ?_)
theorem markRT_any (c0 : Int) (ao : Option Addr) (cap base : Nat) (l : List ByteArray) (w : World) (hl : l.length ≤ 1048576) (h : w.ownsRow base 9 1 (.slice ao l.length cap) l.length (cellsT l)) :
    Calls Tryd.prog 7 #[.agg #[.int .i64 c0, .slice ao l.length cap], .int .i64 1] w fun e w' => e = .returned (.int .i64 ((1 + l.length : Nat) : Int)) ∧ w'.ownsRow base 9 1 (.slice ao l.length cap) l.length (cellsT (marksT 1 l.length)) ∧ w.grownBy w' (Value.slice ao l.length cap).ownBlock := by
  obtain ⟨q, hq⟩ : ∃ q : Nat, q = 1 + l.length := ⟨_, rfl⟩
  have HS : Hid (∀ o, Calls Tryd.prog 17 #[.slice ao l.length cap, .int .i64 1] (w.alloc o) fun e w' => e = .returned (.int .i64 (q : Int)) ∧ w'.ownsRow base 9 1 (.slice ao l.length cap) l.length (cellsT (marksT 1 l.length)) ∧ w.grownBy w' (Value.slice ao l.length cap).ownBlock) := fun o => by
    rw [hq]
    refine (markTS_any ao cap base 1 l (w.alloc o) hl (Nat.le_refl _) (by omega) (h.alloc _)).mono ?_
    rintro e w' ⟨rfl, h1, h2⟩
    refine ⟨rfl, h1, ⟨h2.os, h2.tape, h2.output, Nat.le_trans (by simp) h2.size, fun k hk hn => (h2.block k (by simp; omega) hn).trans (Below.heap_alloc _ _ _ hk)⟩⟩
  rw [← hq]
  clear h hq
  go_enter Tryd.func7, Tryd.ntmps7
  go_wp2_with (go_at_call 17; refine (HS.out _).mono ?_; rintro e w1 ⟨rfl, hq⟩; have HQ : Hid _ := hq; clear hq)
  go_ret
  exact ⟨rfl, HQ.out.1, HQ.out.2⟩
theorem heldRT_any (c0 : Int) (ao : Option Addr) (cap base n : Nat) (w : World) (hl : n ≤ 1048576) (h : w.ownsRow base 9 1 (.slice ao n cap) n (cellsT (marksT 1 n))) :
    Calls Tryd.prog 8 #[.agg #[.int .i64 c0, .slice ao n cap], .int .i64 1] w fun e w' => e = .returned (.int .i64 ((1 + n : Nat) : Int)) ∧ Below w.heap.size w w' := by
  obtain ⟨q, hq⟩ : ∃ q : Nat, q = 1 + n := ⟨_, rfl⟩
  have HS : Hid (∀ o, Calls Tryd.prog 18 #[.slice ao n cap, .int .i64 1] (w.alloc o) fun e w' => e = .returned (.int .i64 (q : Int)) ∧ Below w.heap.size w w') := fun o => by
    rw [hq]
    refine (heldTS_any ao cap base 1 n (w.alloc o) hl (Nat.le_refl _) (by omega) (h.alloc _)).mono ?_
    rintro e w' ⟨rfl, h1⟩
    exact ⟨rfl, ((Below.refl _ _).alloc (Nat.le_refl _) _).trans (h1.mono (by simp))⟩
  rw [← hq]
  clear h hq
  go_enter Tryd.func8, Tryd.ntmps8
  go_wp2_with (go_at_call 18; refine (HS.out _).mono ?_; rintro e w1 ⟨rfl, hq⟩; have HQ : Hid _ := hq; clear hq)
  go_ret
  exact ⟨rfl, HQ.out⟩
/-- The two boxes in which a law keeps two answers. -/
structure BoxT (x y : Nat) (c0 : Int) (ao bo : Option Addr) (n ca cb : Nat) (w : World) : Prop where
  p0 : w.cell? ⟨x, 0, none⟩ = some (.int .i64 c0)
  p1 : w.cell? ⟨x, 1, none⟩ = some (.slice ao n ca)
  q0 : w.cell? ⟨y, 0, none⟩ = some (.int .i64 c0)
  q1 : w.cell? ⟨y, 1, none⟩ = some (.slice bo n cb)
theorem BoxT.below {x y : Nat} {c0 : Int} {ao bo : Option Addr} {n ca cb : Nat} {w w' : World} (h : BoxT x y c0 ao bo n ca cb w) (hb : Below w.heap.size w w') : BoxT x y c0 ao bo n ca cb w' :=
  ⟨cell_keep hb h.p0, cell_keep hb h.p1, cell_keep hb h.q0, cell_keep hb h.q1⟩
theorem BoxT.grown {x y : Nat} {c0 : Int} {ao bo : Option Addr} {n ca cb : Nat} {w w' : World} {r : Option Nat} (h : BoxT x y c0 ao bo n ca cb w) (hg : w.grownBy w' r) (hx : some x ≠ r) (hy : some y ≠ r) : BoxT x y c0 ao bo n ca cb w' :=
  ⟨hg.cell h.p0 hx, hg.cell h.p1 hx, hg.cell h.q0 hy, hg.cell h.q1 hy⟩
theorem BoxT.mk' {c0 : Int} {ao bo : Option Addr} {n ca cb : Nat} {w1 w2 : World} (hb : Below (w1.alloc (.cells #[.int .i64 c0, .slice ao n ca] 24)).heap.size (w1.alloc (.cells #[.int .i64 c0, .slice ao n ca] 24)) w2) :
    BoxT w1.heap.size w2.heap.size c0 ao bo n ca cb (w2.alloc (.cells #[.int .i64 c0, .slice bo n cb] 24)) := by
  have h1 : ∀ j u, #[Value.int .i64 c0, Value.slice ao n ca][j]? = some u → (w2.alloc (.cells #[.int .i64 c0, .slice bo n cb] 24)).cell? ⟨w1.heap.size, j, none⟩ = some u := fun j u h => by
    refine cell_laid _ (cell_keep hb ?_)
    rw [cell_of_row _ _ j _ _ _ (heap_alloc_new w1 _)]; exact h
  have h2 : ∀ j u, #[Value.int .i64 c0, Value.slice bo n cb][j]? = some u → (w2.alloc (.cells #[.int .i64 c0, .slice bo n cb] 24)).cell? ⟨w2.heap.size, j, none⟩ = some u := fun j u h => by
    rw [cell_of_row _ _ j _ _ _ (heap_alloc_new w2 _)]; exact h
  exact ⟨h1 0 _ rfl, h1 1 _ rfl, h2 0 _ rfl, h2 1 _ rfl⟩
end Go.Proofs.YtjcamjdfdalbcaaDoor
