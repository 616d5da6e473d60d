/-
  Parts of the proof laid into one text, one behind the other; each says at its head what is proved in it.
-/
import Derived.Test.YtkdhmijebkhmaaaGreatDoorRowKit0
import Derived.Test.YtkdhmijebkhmaaaGreatDoorSpecFaultD
/-
  Rows of int64 that a slice owns; the laws' eqInt64S, markInt64S and heldInt64S; nothing but a marked row is turned.
-/
namespace Go.Proofs.YtkdhmijebkhmaaaGreatDoor
open Go.RowKit Go.Extern.Stop Go.Stop Go.Extern Num Go.Lib

def cellsI (l : List Int) : List Value := l.map (Value.int .i64)
theorem cellsI_length (l : List Int) : (cellsI l).length = l.length := by simp [cellsI]
theorem cellsI_append (a b : List Int) : cellsI (a ++ b) = cellsI a ++ cellsI b := by simp [cellsI]
theorem infoI : (Tryz.prog.info? 2).map (fun i => (i.zero, i.size, i.bytes)) = some (some (.int .i64 0), 1, 8) := by kernel_rfl
theorem rowI_at {w : World} {base g cap : Nat} {l : List Int} (h : w.ownsRow base 2 1 (.slice (some ⟨g, 0, none⟩) l.length cap) l.length (cellsI l)) (k : Nat) (hk : k < l.length) :
    w.cell? ⟨g, k, none⟩ = some (.int .i64 l[k]) := by
  have ha : ∀ j, (⟨g, 0, none⟩ : Addr).add j = ⟨g, j, none⟩ := fun j => by unfold Addr.add; split <;> simp_all
  rw [← ha]
  exact h.cells (g := g) rfl k _ (by simp [cellsI, hk])
theorem newsI {W : World} {b : Nat} {x : Value} {ty : TypeId} {fr : Nat × Nat} (h : W.heap[b]? = some (.cells #[x] ty fr)) : ∀ j u, [x][j]? = some u → W.cell? ((⟨b, 0, none⟩ : Addr).add j) = some u := by
  intro j u hj
  have ha : ∀ j, (⟨b, 0, none⟩ : Addr).add j = ⟨b, j, none⟩ := fun j => by unfold Addr.add; split <;> simp_all
  rw [ha, cell_of_row W b j _ ty fr h]
  match j, hj with
  | 0, hj => simpa using hj
theorem eqIS_nil (ao bo : Option Addr) (ca cb : Nat) (w : World) :
    Calls Tryz.prog 38 #[.slice ao 0 ca, .slice bo 0 cb] w fun e w' => e = .returned (.bool true) ∧ Below w.heap.size w w' := by
  go_enter Tryz.func38, Tryz.ntmps38
  go_wp2_with fail
  go_loop [5] (fun i => i = .int .i64 0) (fun _ => 0)
  case atStart => rfl
  case round =>
    obtain rfl := hrel
    go_wp2
    go_ret
    exact ⟨rfl, Below.refl _ _⟩
set_option maxRecDepth 100000 in
set_option maxHeartbeats 1000000 in
theorem eqIS_some (g1 g2 c1 c2 b1 b2 : Nat) (l : List Int) (w : World) (hl : l.length ≤ 1048576) (h1 : w.ownsRow b1 2 1 (.slice (some ⟨g1, 0, none⟩) l.length c1) l.length (cellsI l)) (h2 : w.ownsRow b2 2 1 (.slice (some ⟨g2, 0, none⟩) l.length c2) l.length (cellsI l)) :
    Calls Tryz.prog 38 #[.slice (some ⟨g1, 0, none⟩) l.length c1, .slice (some ⟨g2, 0, none⟩) l.length c2] w fun e w' => e = .returned (.bool true) ∧ Below w.heap.size w w' := by
  have H1 : Hid _ := fun k hk => rowI_at h1 k hk
  have H2 : Hid _ := fun k hk => rowI_at h2 k hk
  clear h1 h2
  go_enter Tryz.func38, Tryz.ntmps38
  go_wp2_with fail
  go_loopw [5] (fun i wr => ∃ k : Nat, k ≤ l.length ∧ i = .int .i64 (k : Int) ∧ Below w.heap.size w wr) (fun i _ => l.length - (RowKit.intOf i).toNat)
  case atStart => exact ⟨0, Nat.zero_le _, rfl, Below.refl _ _⟩
  case round =>
    obtain ⟨k, hk, rfl, hb⟩ := hrel
    have HB : Hid (Below w.heap.size w wr) := hb
    clear hb
    by_cases hlt : k < l.length
    · have a0 : ∀ p : BW wr, p.x.cell? ⟨g1, k, none⟩ = some (.int .i64 (l[k]'hlt)) := fun p => p.cell (cell_keep HB.out (H1.out k hlt))
      have d0 : ∀ p : BW wr, p.x.cell? ⟨g2, k, none⟩ = some (.int .i64 (l[k]'hlt)) := fun p => p.cell (cell_keep HB.out (H2.out k hlt))
      have hne := bw_some wr
      go_wp2_with fail
      refine wp_region_below (by kernel_rfl) (by kernel_rfl) ?_
      repeat (go_big_quiet_step (fail))
      refine wpQuiet_nil ?_
      intro wq hw'
      obtain ⟨⟨_, bq⟩, rfl⟩ := hw'
      have HB2 : Hid _ := HB.out.trans (bq.mono HB.out.size)
      clear bq a0 d0 hne
      go_wp2
      exact ⟨⟨k + 1, by omega, by go_num, HB2.out⟩, by simp [RowKit.intOf]; omega⟩
    · go_wp2
      go_ret
      exact ⟨rfl, HB.out⟩
theorem eqIS_same (a b : Value) (b1 b2 : Nat) (l : List Int) (w : World) (hl : l.length ≤ 1048576) (h1 : w.ownsRow b1 2 1 a l.length (cellsI l)) (h2 : w.ownsRow b2 2 1 b l.length (cellsI l)) :
    Calls Tryz.prog 38 #[a, b] w fun e w' => e = .returned (.bool true) ∧ Below w.heap.size w w' := by
  cases l with
  | nil =>
    obtain ⟨ao, ca, rfl⟩ := own_form h1
    obtain ⟨bo, cb, rfl⟩ := own_form h2
    exact eqIS_nil ao bo ca cb w
  | cons t r =>
    obtain ⟨g1, c1, rfl, _, _⟩ := h1.form (by simp)
    obtain ⟨g2, c2, rfl, _, _⟩ := h2.form (by simp)
    exact eqIS_some g1 g2 c1 c2 b1 b2 (t :: r) w hl h1 h2
/-- The marks of a row. -/
def marksI (k : Nat) : Nat → List Int
  | 0 => []
  | n + 1 => marksI k n ++ [((k + n : Nat) : Int)]
theorem marksI_len (k n : Nat) : (marksI k n).length = n := by
  induction n with
  | zero => rfl
  | succ n ih => simp [marksI, ih]
theorem marksI_at (k n i : Nat) (h : i < n) : (marksI k n)[i]'(by rw [marksI_len]; exact h) = ((k + i : Nat) : Int) := by
  induction n with
  | zero => omega
  | succ n ih =>
    simp only [marksI]
    by_cases hi : i < n
    · rw [List.getElem_append_left (by rw [marksI_len]; exact hi)]; exact ih hi
    · have : i = n := by omega
      subst this
      rw [List.getElem_append_right (by rw [marksI_len]; omega)]
      simp [marksI_len]
theorem marksI_zero (k : Nat) (l : List Int) : marksI k 0 ++ l.drop 0 = l := by simp [marksI]
theorem markI_next {w wr : World} {g cap base k i q : Nat} {l : List Int}
    (ho : wr.ownsRow base 2 1 (.slice (some ⟨g, 0, none⟩) l.length cap) l.length (cellsI (marksI k i ++ l.drop i))) (hg : w.grownBy wr (some g)) (hi : i < l.length) (hq : q = k + i) :
    (wr.setCell ⟨g, i, none⟩ (.int .i64 (q : Int))).ownsRow base 2 1 (.slice (some ⟨g, 0, none⟩) l.length cap) l.length (cellsI (marksI k (i + 1) ++ l.drop (i + 1))) ∧ w.grownBy (wr.setCell ⟨g, i, none⟩ (.int .i64 (q : Int))) (some g) := by
  refine ⟨?_, gb_set hg _⟩
  have h := own_put ho i (.int .i64 (q : Int))
  have e : (cellsI (marksI k i ++ l.drop i)).set i (.int .i64 (q : Int)) = cellsI (marksI k (i + 1) ++ l.drop (i + 1)) := by
    have e1 : l.drop i = l[i] :: l.drop (i + 1) := List.drop_eq_getElem_cons hi
    obtain ⟨R, hR⟩ : ∃ R, R = l.drop (i + 1) := ⟨_, rfl⟩
    rw [← hR] at e1 ⊢
    rw [e1, cellsI_append, cellsI_append, List.set_append_right _ _ (by rw [cellsI_length, marksI_len]; omega), cellsI_length, marksI_len, Nat.sub_self]
    simp [marksI, cellsI, hq]
  rw [e] at h
  exact h
set_option maxHeartbeats 1000000 in
theorem markIS_some (g cap base k : Nat) (l : List Int) (w : World) (hl : l.length ≤ 1048576) (hk2 : k ≤ 1000000) (h : w.ownsRow base 2 1 (.slice (some ⟨g, 0, none⟩) l.length cap) l.length (cellsI l)) :
    Calls Tryz.prog 41 #[.slice (some ⟨g, 0, none⟩) l.length cap, .int .i64 (k : Int)] w fun e w' => e = .returned (.int .i64 ((k + l.length : Nat) : Int)) ∧ w'.ownsRow base 2 1 (.slice (some ⟨g, 0, none⟩) l.length cap) l.length (cellsI (marksI k l.length)) ∧ w.grownBy w' (some g) := by
  obtain ⟨R, hR⟩ : ∃ R : Nat, R = k + l.length := ⟨_, rfl⟩
  rw [← hR]
  have HRn : Hid (R = k + l.length) := hR
  clear hR
  go_enter Tryz.func41, Tryz.ntmps41
  go_wp2_with fail
  go_loopw [1, 5] (fun v n wr => ∃ i q : Nat, i ≤ l.length ∧ n = .int .i64 (i : Int) ∧ v = .int .i64 (q : Int) ∧ q = k + i ∧ Hid (wr.ownsRow base 2 1 (.slice (some ⟨g, 0, none⟩) l.length cap) l.length (cellsI (marksI k i ++ l.drop i))) ∧ Hid (w.grownBy wr (some g))) (fun _ n _ => l.length - (RowKit.intOf n).toNat)
  case atStart => exact ⟨0, k, Nat.zero_le _, rfl, rfl, by omega, by rw [marksI_zero]; exact h, gb_refl _ _⟩
  case round =>
    obtain ⟨i, q, hi, rfl, rfl, hq, HO, HG⟩ := hrel
    have HQ : Hid (q = k + i) := hq
    have hq2 : q ≤ 9000000 := by omega
    clear hq h
    by_cases hlt : i < l.length
    · obtain ⟨x0, e0⟩ := own_cell HO.out i (by rw [cellsI_length, List.length_append, marksI_len, List.length_drop]; omega)
      have ff : ∀ j, wr.frozen? ⟨g, j, none⟩ = false := own_frozen HO.out
      go_wp2
      have R := markI_next (q := q) HO.out HG.out hlt HQ.out
      exact ⟨⟨i + 1, q + 1, by omega, by go_num, by go_num, by have := HQ.out; omega, R.1, R.2⟩, by simp [RowKit.intOf]; omega⟩
    · have hil : i = l.length := by omega
      have HE : Hid (q = R) := by have := HQ.out; have := HRn.out; show q = R; omega
      have HO2 : Hid (wr.ownsRow base 2 1 (.slice (some ⟨g, 0, none⟩) l.length cap) l.length (cellsI (marksI k l.length))) := by
        have h := HO.out
        rw [hil, List.drop_length, List.append_nil] at h
        exact h
      clear hil
      go_wp2
      go_ret
      exact ⟨by rw [HE.out]; rfl, HO2.out, HG.out⟩
set_option maxHeartbeats 1000000 in
theorem heldIS_some (g cap base k n : Nat) (w : World) (hl : n ≤ 1048576) (hk2 : k ≤ 1000000) (h : w.ownsRow base 2 1 (.slice (some ⟨g, 0, none⟩) n cap) n (cellsI (marksI k n))) :
    Calls Tryz.prog 42 #[.slice (some ⟨g, 0, none⟩) n cap, .int .i64 (k : Int)] w fun e w' => e = .returned (.int .i64 ((k + n : Nat) : Int)) ∧ Below w.heap.size w w' := by
  have HA : Hid (∀ i, i < n → w.cell? ⟨g, i, none⟩ = some (.int .i64 ((k + i : Nat) : Int))) := fun i hi => by
    have h' : w.ownsRow base 2 1 (.slice (some ⟨g, 0, none⟩) (marksI k n).length cap) (marksI k n).length (cellsI (marksI k n)) := by rw [marksI_len]; exact h
    have := rowI_at h' i (by rw [marksI_len]; exact hi)
    rw [marksI_at k n i hi] at this
    exact this
  clear h
  obtain ⟨R, hR⟩ : ∃ R : Nat, R = k + n := ⟨_, rfl⟩
  rw [← hR]
  have HRn : Hid (R = k + n) := hR
  clear hR
  go_enter Tryz.func42, Tryz.ntmps42
  go_wp2_with fail
  go_loopw [1, 5] (fun v m wr => ∃ i q : Nat, i ≤ n ∧ m = .int .i64 (i : Int) ∧ v = .int .i64 (q : Int) ∧ q = k + i ∧ Hid (wr = w)) (fun _ m _ => n - (RowKit.intOf m).toNat)
  case atStart => exact ⟨0, k, Nat.zero_le _, rfl, rfl, by omega, rfl⟩
  case round =>
    obtain ⟨i, q, hi, rfl, rfl, hq, HW⟩ := hrel
    have hw : wr = w := HW.out
    subst hw
    have HQ : Hid (q = k + i) := hq
    have hq2 : q ≤ 9000000 := by omega
    clear hq
    by_cases hlt : i < n
    · have a0 : wr.cell? ⟨g, i, none⟩ = some (.int .i64 (q : Int)) := by rw [HA.out i hlt, HQ.out]
      go_wp2
      exact ⟨⟨i + 1, q + 1, by omega, by go_num, by go_num, by have := HQ.out; omega, trivial⟩, by simp [RowKit.intOf]; omega⟩
    · have hil : i = n := by omega
      have HE : Hid (q = R) := by have := HQ.out; have := HRn.out; show q = R; omega
      clear hil
      go_wp2
      go_ret
      exact ⟨by rw [HE.out]; rfl, Below.refl _ _⟩
theorem markIS_nil (ao : Option Addr) (cap k : Nat) (w : World) :
    Calls Tryz.prog 41 #[.slice ao 0 cap, .int .i64 (k : Int)] w fun e w' => e = .returned (.int .i64 (k : Int)) ∧ w' = w := by
  go_enter Tryz.func41, Tryz.ntmps41
  go_wp2_with fail
  go_loop [1, 5] (fun v i => v = .int .i64 (k : Int) ∧ i = .int .i64 0) (fun _ _ => 0)
  case atStart => exact ⟨rfl, rfl⟩
  case round =>
    obtain ⟨rfl, rfl⟩ := hrel
    go_wp2
    go_ret
    exact ⟨rfl, rfl⟩
theorem heldIS_nil (ao : Option Addr) (cap k : Nat) (w : World) :
    Calls Tryz.prog 42 #[.slice ao 0 cap, .int .i64 (k : Int)] w fun e w' => e = .returned (.int .i64 (k : Int)) ∧ w' = w := by
  go_enter Tryz.func42, Tryz.ntmps42
  go_wp2_with fail
  go_loop [1, 5] (fun v i => v = .int .i64 (k : Int) ∧ i = .int .i64 0) (fun _ _ => 0)
  case atStart => exact ⟨rfl, rfl⟩
  case round =>
    obtain ⟨rfl, rfl⟩ := hrel
    go_wp2
    go_ret
    exact ⟨rfl, rfl⟩
theorem markIS_any (ao : Option Addr) (cap base k : Nat) (l : List Int) (w : World) (hl : l.length ≤ 1048576) (hk2 : k ≤ 1000000) (h : w.ownsRow base 2 1 (.slice ao l.length cap) l.length (cellsI l)) :
    Calls Tryz.prog 41 #[.slice ao l.length cap, .int .i64 (k : Int)] w fun e w' => e = .returned (.int .i64 ((k + l.length : Nat) : Int)) ∧ w'.ownsRow base 2 1 (.slice ao l.length cap) l.length (cellsI (marksI k l.length)) ∧ w.grownBy w' (Value.slice ao l.length cap).ownBlock := by
  cases l with
  | nil =>
    refine (markIS_nil ao cap k w).mono ?_
    rintro e w' ⟨rfl, rfl⟩
    exact ⟨rfl, h, gb_refl _ _⟩
  | cons t r =>
    obtain ⟨g, c, hv, _, _⟩ := h.form (by simp)
    obtain ⟨rfl, rfl⟩ : ao = some ⟨g, 0, none⟩ ∧ cap = c := by simp at hv; exact hv
    exact markIS_some g cap base k (t :: r) w hl hk2 h
theorem heldIS_any (ao : Option Addr) (cap base k n : Nat) (w : World) (hl : n ≤ 1048576) (hk2 : k ≤ 1000000) (h : w.ownsRow base 2 1 (.slice ao n cap) n (cellsI (marksI k n))) :
    Calls Tryz.prog 42 #[.slice ao n cap, .int .i64 (k : Int)] w fun e w' => e = .returned (.int .i64 ((k + n : Nat) : Int)) ∧ Below w.heap.size w w' := by
  cases n with
  | zero =>
    refine (heldIS_nil ao cap k w).mono ?_
    rintro e w' ⟨rfl, rfl⟩
    exact ⟨rfl, Below.refl _ _⟩
  | succ n =>
    obtain ⟨g, c, hv, _, _⟩ := h.form (by simp)
    obtain ⟨rfl, rfl⟩ : ao = some ⟨g, 0, none⟩ ∧ cap = c := by simp at hv; exact hv
    exact heldIS_some g cap base k (n + 1) w hl hk2 h
end Go.Proofs.YtkdhmijebkhmaaaGreatDoor
/-
  The model's l3Asked, l3Parts and PartsOf: the places of a datum's parts; nothing that was there is turned.
-/
namespace Go.Proofs.YtkdhmijebkhmaaaGreatDoor
open Go.RowKit Go.Extern.Stop Go.Stop Go.Extern Num Go.Lib

/-- The places, below k, of the parts of a place. -/
def partsTo (l : List Dat) (a : Int) : Nat → List Int
  | 0 => []
  | k + 1 => if par l k = a then partsTo l a k ++ [(k : Int)] else partsTo l a k
def partsD (l : List Dat) (a : Int) : List Int := partsTo l a l.length
theorem partsTo_len (l : List Dat) (a : Int) (k : Nat) : (partsTo l a k).length ≤ k := by
  induction k with
  | zero => simp [partsTo]
  | succ k ih =>
    simp only [partsTo]
    split
    · rw [List.length_append]; simp; omega
    · omega
set_option maxRecDepth 100000 in
set_option maxHeartbeats 2000000 in
theorem l3Parts_any (g cap : Nat) (l : List Dat) (a : Int) (w : World) (hR : RowD w g l) (hl : l.length ≤ 1048576) :
    Calls Tryz.prog 64 #[.slice (some ⟨g, 0, none⟩) l.length cap, .int .i64 a] w fun e w' => ∃ q c, e = .returned (.slice (some ⟨q, 0, none⟩) (partsD l a).length c) ∧ w'.ownsRow w.heap.size 2 1 (.slice (some ⟨q, 0, none⟩) (partsD l a).length c) (partsD l a).length (cellsI (partsD l a)) ∧ Below w.heap.size w w' := by
  have HR : Hid (RowD w g l) := hR
  obtain ⟨i0, hi, hz0, hz1, hz2⟩ := info_parts infoI
  clear hR
  go_enter Tryz.func64, Tryz.ntmps64
  go_wp2_with fail
  go_loopw [5, 6] (fun v i wr => ∃ (k q c : Nat) (L : List Int), k ≤ l.length ∧ i = .int .i64 (k : Int) ∧ v = .slice (some ⟨q, 0, none⟩) L.length c ∧ L.length ≤ k ∧ Hid (L = partsTo l a k) ∧ Hid (wr.ownsRow w.heap.size 2 1 (.slice (some ⟨q, 0, none⟩) L.length c) L.length (cellsI L)) ∧ Hid (Below w.heap.size w wr)) (fun _ i _ => l.length - (RowKit.intOf i).toNat)
  case atStart => exact ⟨0, _, _, [], Nat.zero_le _, rfl, rfl, Nat.le_refl _, rfl, World.ownsRow_made _ #[] 0 (Nat.le_refl _) (Nat.zero_le _) rfl, (Below.refl _ _).alloc (Nat.le_refl _) _⟩
  case round =>
    obtain ⟨k, q, c, L, hk, rfl, rfl, hLk, HL, HO, HB⟩ := hrel
    have hz : w.heap.size ≤ wr.heap.size := HB.out.size
    by_cases hlt : k < l.length
    · have c1 : wr.cell? ⟨g, k * 4 + 1, none⟩ = some (.int .i64 (l[k]'hlt).parent) := (HR.out.below HB.out k hlt).2.1
      by_cases he : (l[k]'hlt).parent = a
      · have hb : ((l[k]'hlt).parent == a) = true := by simpa using he
        have HL2 : Hid (L ++ [(k : Int)] = partsTo l a (k + 1)) := by
          show _ = _
          rw [partsTo, par_at l k hlt, if_pos he, HL.out]
        clear he
        go_wp2_with (first | (at_builtin; refine wpList_append_lies _ rfl (.tmp 21) (.tmp 23) 40 rfl w.heap.size 2 i0 _ 1 8 Tryz.underlying40 hi hz0 hz1 hz2 rfl (by decide) _ L.length (cellsI L) rfl (HO.out.alloc _) ⟨_, 0, none⟩ 1 1 [.int .i64 (k : Int)] rfl rfl ?c1 ?c2 (by decide) ?c3 ?c4 ?c5 _ rfl ?_))
        case c1 => exact newsI (heap_new' _ _ _ (by simp))
        case c2 => intro u hu; simp at hu; subst hu; rfl
        case c3 => unfold maxLen; omega
        case c4 => omega
        case c5 => simp; omega
        intro g' cap' w1 hown1 hgrow1 _ _
        have HO1 : Hid (w1.ownsRow w.heap.size 2 1 (.slice (some ⟨g', 0, none⟩) (L ++ [(k : Int)]).length cap') (L ++ [(k : Int)]).length (cellsI (L ++ [(k : Int)]))) := by
          rw [cellsI_append, List.length_append]
          exact hown1
        have HB1 : Hid (Below w.heap.size w w1) := (HB.out.alloc hz _).grown hgrow1 (by simp; omega) (fun j hj => (HO.out.lt j hj).1)
        clear hown1 hgrow1
        go_wp2
        exact ⟨⟨k + 1, g', cap', L ++ [(k : Int)], by omega, by go_num, by simp, by simp; omega, HL2.out, HO1.out, HB1.out⟩, by simp [RowKit.intOf]; omega⟩
      · have hb : ((l[k]'hlt).parent == a) = false := by simpa using he
        have HL2 : Hid (L = partsTo l a (k + 1)) := by
          show _ = _
          rw [partsTo, par_at l k hlt, if_neg he, HL.out]
        clear he
        go_wp2
        exact ⟨⟨k + 1, q, c, L, by omega, by go_num, rfl, by omega, HL2.out, HO.out, HB.out⟩, by simp [RowKit.intOf]; omega⟩
    · have HF : Hid (L = partsD l a) := by
        have hkl : k = l.length := by omega
        show L = partsTo l a l.length
        rw [HL.out, hkl]
      go_wp2
      go_ret
      rw [← HF.out]
      exact ⟨q, c, rfl, HO.out, HB.out⟩
/-- What is asked ahead of a place. -/
def askD (l : List Dat) (a : Int) : Int := if dataFault l ≠ 0 then dataFault l else if 0 ≤ a ∧ a ≤ (l.length : Int) - 1 then 0 else 3
/-- An answer of PartsOf. -/
def AnsP (l : List Dat) (a : Int) (w : World) (e : Ending) (w' : World) : Prop :=
  ∃ ao c, e = .returned (.agg #[.int .i64 (askD l a), .slice ao (if askD l a = 0 then partsD l a else []).length c]) ∧ w'.ownsRow w.heap.size 2 1 (.slice ao (if askD l a = 0 then partsD l a else []).length c) (if askD l a = 0 then partsD l a else []).length (cellsI (if askD l a = 0 then partsD l a else [])) ∧ Below w.heap.size w w'
end Go.Proofs.YtkdhmijebkhmaaaGreatDoor
/-
  The model's l3Sub and SubData: a datum with all its parts, as data by themselves; nothing that was there is turned.
-/
namespace Go.Proofs.YtkdhmijebkhmaaaGreatDoor
open Go.RowKit Go.Extern.Stop Go.Stop Go.Extern Num Go.Lib

/-- A datum as part of what is taken out at a place. -/
def shiftD (a i : Nat) (t : Dat) : Dat := ⟨t.kind, if i = a then -1 else t.parent - (a : Int), t.num, t.name⟩
/-- What is taken out, from a place on. -/
def subFrom (l : List Dat) (a : Nat) : Nat → Nat → List Dat
  | 0, _ => []
  | f + 1, i => match l[i]? with
    | none => []
    | some t => if i = a ∨ deepF l 100 (a : Int) < deepF l 100 (i : Int) then shiftD a i t :: subFrom l a f (i + 1) else []
def subD (l : List Dat) (a : Nat) : List Dat := subFrom l a l.length a
theorem subFrom_end (l : List Dat) (a f i : Nat) (h : l.length ≤ i) : subFrom l a f i = [] := by
  cases f with
  | zero => rfl
  | succ f => simp [subFrom, List.getElem?_eq_none h]
theorem subFrom_on (l : List Dat) (a f i : Nat) (h : i < l.length) (hd : i = a ∨ deepF l 100 (a : Int) < deepF l 100 (i : Int)) : subFrom l a (f + 1) i = shiftD a i l[i] :: subFrom l a f (i + 1) := by
  simp only [subFrom, List.getElem?_eq_getElem h, if_pos hd]
theorem subFrom_off (l : List Dat) (a f i : Nat) (h : i < l.length) (hd : ¬ (i = a ∨ deepF l 100 (a : Int) < deepF l 100 (i : Int))) : subFrom l a (f + 1) i = [] := by
  simp only [subFrom, List.getElem?_eq_getElem h, if_neg hd]
theorem news4 {W : World} {b : Nat} {x y z v : Value} {ty : TypeId} {fr : Nat × Nat} (h : W.heap[b]? = some (.cells #[x, y, z, v] ty fr)) : ∀ j u, [x, y, z, v][j]? = some u → W.cell? ((⟨b, 0, none⟩ : Addr).add j) = some u := by
  intro j u hj
  have ha : ∀ j, (⟨b, 0, none⟩ : Addr).add j = ⟨b, j, none⟩ := fun j => by unfold Addr.add; split <;> simp_all
  rw [ha, cell_of_row W b j _ ty fr h]
  match j, hj with
  | 0, hj => simpa using hj
  | 1, hj => simpa using hj
  | 2, hj => simpa using hj
  | 3, hj => simpa using hj
/-- Data with which nothing is wrong. -/
structure Fine (l : List Dat) : Prop where
  pos : 0 < l.length
  len : l.length ≤ 80
  ok : okUpto l l.length
theorem fine_of {l : List Dat} (h : dataFault l = 0) : Fine l := by
  unfold dataFault at h
  split at h
  · cases h
  · rename_i hn
    refine ⟨by omega, by omega, ?_⟩
    have key : ∀ k, k ≤ l.length → okUpto l k := by
      intro k
      induction k with
      | zero => intro _ j _ hj; omega
      | succ k ih =>
        intro hk
        have h1 := ih (by omega)
        refine okUpto_next h1 (by omega) ?_
        by_cases hc : chkD l k (l[k]'(by omega)) = 0
        · exact hc
        · exfalso
          rw [fault_hit l k (by omega) h1 hc] at h
          exact hc h
    exact key l.length (Nat.le_refl _)
theorem Fine.parent {l : List Dat} (h : Fine l) (j : Nat) (hj : j < l.length) : l[j].parent < (j : Int) ∧ -1 ≤ l[j].parent := chk_par (h.ok j hj hj)
theorem Fine.le {l : List Dat} (h : Fine l) (i : Nat) : ∀ (j : Nat) (hj : j < l.length), j ≤ i → l[j].parent ≤ (j : Int) := fun j hj _ => by have := (h.parent j hj).1; omega
/-- Behind an append of one datum. -/
theorem datD_next {w W w1 : World} {B g c g' c' : Nat} {l : List Dat} {t : Dat}
    (hown : W.ownsRow B 112 4 (.slice (some ⟨g, 0, none⟩) l.length c) l.length (cellsD l)) (hb : Below B w W) (hB : B ≤ W.heap.size)
    (hown' : w1.ownsRow B 112 4 (.slice (some ⟨g', 0, none⟩) (l.length + 1) c') (l.length + 1) (cellsD l ++ [.int .i64 t.kind, .int .i64 t.parent, .int .i64 t.num, .string t.name])) (hgrow : W.grownBy w1 (Value.slice (some ⟨g, 0, none⟩) l.length c).ownBlock) :
    w1.ownsRow B 112 4 (.slice (some ⟨g', 0, none⟩) (l ++ [t]).length c') (l ++ [t]).length (cellsD (l ++ [t])) ∧ Below B w w1 := by
  refine ⟨?_, hb.grown hgrow hB (fun j hj => (hown.lt j hj).1)⟩
  rw [cellsD_append, List.length_append]
  exact hown'
/-- An answer of SubData. -/
def outS (l : List Dat) (a : Int) : List Dat := if askD l a = 0 then subD l a.toNat else []
def AnsS (l : List Dat) (a : Int) (w : World) (e : Ending) (w' : World) : Prop :=
  ∃ ao c, e = .returned (.agg #[.int .i64 (askD l a), .int .i64 0, .slice ao (outS l a).length c]) ∧ w'.ownsRow w.heap.size 112 4 (.slice ao (outS l a).length c) (outS l a).length (cellsD (outS l a)) ∧ Below w.heap.size w w'
theorem ask_zero {l : List Dat} {a : Int} (h : askD l a = 0) : Fine l ∧ 0 ≤ a ∧ a < (l.length : Int) := by
  have hd : dataFault l = 0 := by
    by_cases hd : dataFault l = 0
    · exact hd
    · simp [askD, hd] at h
  unfold askD at h
  rw [if_neg (by simpa using hd)] at h
  split at h
  · rename_i h1
    exact ⟨fine_of hd, by omega, by omega⟩
  · cases h
end Go.Proofs.YtkdhmijebkhmaaaGreatDoor
