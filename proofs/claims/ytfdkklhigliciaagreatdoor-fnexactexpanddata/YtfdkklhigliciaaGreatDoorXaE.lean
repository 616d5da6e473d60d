/-
  Parts of the proof laid into one text, one behind the other; each says at its head what is proved in it.
-/
import Derived.Test.YtfdkklhigliciaaGreatDoorXaC
import Derived.WalkSmall
import Derived.Test.YtfdkklhigliciaaGreatDoorXaD
import Derived.Deep.RegionLaw
import Derived.Deep.DrawnRows
import Derived.Deep.RegionHeld3
/-
  Rows of int64 that a slice owns; the laws' eqInt64S, markInt64S and heldInt64S; nothing but a marked row is turned.
-/
namespace Go.Proofs.YtfdkklhigliciaaGreatDoor
open Go.RowKit Go.Extern.Stop Go.Stop Go.Extern Num Go.Lib

def cellsI (l : List Int) : List Value := l.map (Value.int .i64)
theorem cellsI_length (l : List Int) : (cellsI l).length = l.length := by simp [cellsI]
theorem cellsI_append (a b : List Int) : cellsI (a ++ b) = cellsI a ++ cellsI b := by simp [cellsI]
theorem infoI : (Tryz.prog.info? 2).map (fun i => (i.zero, i.size, i.bytes)) = some (some (.int .i64 0), 1, 8) := by kernel_rfl
theorem rowI_at {w : World} {base g cap : Nat} {l : List Int} (h : w.ownsRow base 2 1 (.slice (some ⟨g, 0, none⟩) l.length cap) l.length (cellsI l)) (k : Nat) (hk : k < l.length) :
    w.cell? ⟨g, k, none⟩ = some (.int .i64 l[k]) := by
  have ha : ∀ j, (⟨g, 0, none⟩ : Addr).add j = ⟨g, j, none⟩ := fun j => by unfold Addr.add; split <;> simp_all
  rw [← ha]
  exact h.cells (g := g) rfl k _ (by simp [cellsI, hk])
theorem newsI {W : World} {b : Nat} {x : Value} {ty : TypeId} {fr : Nat × Nat} (h : W.heap[b]? = some (.cells #[x] ty fr)) : ∀ j u, [x][j]? = some u → W.cell? ((⟨b, 0, none⟩ : Addr).add j) = some u := by
  intro j u hj
  have ha : ∀ j, (⟨b, 0, none⟩ : Addr).add j = ⟨b, j, none⟩ := fun j => by unfold Addr.add; split <;> simp_all
  rw [ha, cell_of_row W b j _ ty fr h]
  match j, hj with
  | 0, hj => simpa using hj
/-- The marks of a row. -/
def marksI (k : Nat) : Nat → List Int
  | 0 => []
  | n + 1 => marksI k n ++ [((k + n : Nat) : Int)]
theorem marksI_len (k n : Nat) : (marksI k n).length = n := by
  induction n with
  | zero => rfl
  | succ n ih => simp [marksI, ih]
theorem marksI_at (k n i : Nat) (h : i < n) : (marksI k n)[i]'(by rw [marksI_len]; exact h) = ((k + i : Nat) : Int) := by
  induction n with
  | zero => omega
  | succ n ih =>
    simp only [marksI]
    by_cases hi : i < n
    · rw [List.getElem_append_left (by rw [marksI_len]; exact hi)]; exact ih hi
    · have : i = n := by omega
      subst this
      rw [List.getElem_append_right (by rw [marksI_len]; omega)]
      simp [marksI_len]
theorem marksI_zero (k : Nat) (l : List Int) : marksI k 0 ++ l.drop 0 = l := by simp [marksI]
theorem markI_next {w wr : World} {g cap base k i q : Nat} {l : List Int}
    (ho : wr.ownsRow base 2 1 (.slice (some ⟨g, 0, none⟩) l.length cap) l.length (cellsI (marksI k i ++ l.drop i))) (hg : w.grownBy wr (some g)) (hi : i < l.length) (hq : q = k + i) :
    (wr.setCell ⟨g, i, none⟩ (.int .i64 (q : Int))).ownsRow base 2 1 (.slice (some ⟨g, 0, none⟩) l.length cap) l.length (cellsI (marksI k (i + 1) ++ l.drop (i + 1))) ∧ w.grownBy (wr.setCell ⟨g, i, none⟩ (.int .i64 (q : Int))) (some g) := by
  refine ⟨?_, gb_set hg _⟩
  have h := own_put ho i (.int .i64 (q : Int))
  have e : (cellsI (marksI k i ++ l.drop i)).set i (.int .i64 (q : Int)) = cellsI (marksI k (i + 1) ++ l.drop (i + 1)) := by
    have e1 : l.drop i = l[i] :: l.drop (i + 1) := List.drop_eq_getElem_cons hi
    obtain ⟨R, hR⟩ : ∃ R, R = l.drop (i + 1) := ⟨_, rfl⟩
    rw [← hR] at e1 ⊢
    rw [e1, cellsI_append, cellsI_append, List.set_append_right _ _ (by rw [cellsI_length, marksI_len]; omega), cellsI_length, marksI_len, Nat.sub_self]
    simp [marksI, cellsI, hq]
  rw [e] at h
  exact h
end Go.Proofs.YtfdkklhigliciaaGreatDoor
/-
  The model's l3Asked, l3Parts and PartsOf: the places of a datum's parts; nothing that was there is turned.
-/
namespace Go.Proofs.YtfdkklhigliciaaGreatDoor
open Go.RowKit Go.Extern.Stop Go.Stop Go.Extern Num Go.Lib

/-- The places, below k, of the parts of a place. -/
def partsTo (l : List Dat) (a : Int) : Nat → List Int
  | 0 => []
  | k + 1 => if par l k = a then partsTo l a k ++ [(k : Int)] else partsTo l a k
def partsD (l : List Dat) (a : Int) : List Int := partsTo l a l.length
theorem partsTo_len (l : List Dat) (a : Int) (k : Nat) : (partsTo l a k).length ≤ k := by
  induction k with
  | zero => simp [partsTo]
  | succ k ih =>
    simp only [partsTo]
    split
    · rw [List.length_append]; simp; omega
    · omega
set_option maxRecDepth 100000 in
set_option maxHeartbeats 2000000 in
theorem l3Parts_any (g cap : Nat) (l : List Dat) (a : Int) (w : World) (hR : RowD w g l) (hl : l.length ≤ 1048576) :
    Calls Tryz.prog 44 #[.slice (some ⟨g, 0, none⟩) l.length cap, .int .i64 a] w fun e w' => ∃ q c, e = .returned (.slice (some ⟨q, 0, none⟩) (partsD l a).length c) ∧ w'.ownsRow w.heap.size 2 1 (.slice (some ⟨q, 0, none⟩) (partsD l a).length c) (partsD l a).length (cellsI (partsD l a)) ∧ Below w.heap.size w w' := by
  have HR : Hid (RowD w g l) := hR
  obtain ⟨i0, hi, hz0, hz1, hz2⟩ := info_parts infoI
  clear hR
  go_enter Tryz.func44, Tryz.ntmps44
  go_wp2_with fail
  go_loopw [5, 6] (fun v i wr => ∃ (k q c : Nat) (L : List Int), k ≤ l.length ∧ i = .int .i64 (k : Int) ∧ v = .slice (some ⟨q, 0, none⟩) L.length c ∧ L.length ≤ k ∧ Hid (L = partsTo l a k) ∧ Hid (wr.ownsRow w.heap.size 2 1 (.slice (some ⟨q, 0, none⟩) L.length c) L.length (cellsI L)) ∧ Hid (Below w.heap.size w wr)) (fun _ i _ => l.length - (RowKit.intOf i).toNat)
  case atStart => exact ⟨0, _, _, [], Nat.zero_le _, rfl, rfl, Nat.le_refl _, rfl, World.ownsRow_made _ #[] 0 (Nat.le_refl _) (Nat.zero_le _) rfl, (Below.refl _ _).alloc (Nat.le_refl _) _⟩
  case round =>
    obtain ⟨k, q, c, L, hk, rfl, rfl, hLk, HL, HO, HB⟩ := hrel
    have hz : w.heap.size ≤ wr.heap.size := HB.out.size
    by_cases hlt : k < l.length
    · have c1 : wr.cell? ⟨g, k * 4 + 1, none⟩ = some (.int .i64 (l[k]'hlt).parent) := (HR.out.below HB.out k hlt).2.1
      by_cases he : (l[k]'hlt).parent = a
      · have hb : ((l[k]'hlt).parent == a) = true := by simpa using he
        have HL2 : Hid (L ++ [(k : Int)] = partsTo l a (k + 1)) := by
          show _ = _
          rw [partsTo, par_at l k hlt, if_pos he, HL.out]
        clear he
        go_wp2_with (first | (at_builtin; refine wpList_append_lies _ rfl (.tmp 21) (.tmp 23) 81 rfl w.heap.size 2 i0 _ 1 8 Tryz.underlying81 hi hz0 hz1 hz2 rfl (by decide) _ L.length (cellsI L) rfl (HO.out.alloc _) ⟨_, 0, none⟩ 1 1 [.int .i64 (k : Int)] rfl rfl ?c1 ?c2 (by decide) ?c3 ?c4 ?c5 _ rfl ?_))
        case c1 => exact newsI (heap_new' _ _ _ (by simp))
        case c2 => intro u hu; simp at hu; subst hu; rfl
        case c3 => unfold maxLen; omega
        case c4 => omega
        case c5 => simp; omega
        intro g' cap' w1 hown1 hgrow1 _ _
        have HO1 : Hid (w1.ownsRow w.heap.size 2 1 (.slice (some ⟨g', 0, none⟩) (L ++ [(k : Int)]).length cap') (L ++ [(k : Int)]).length (cellsI (L ++ [(k : Int)]))) := by
          rw [cellsI_append, List.length_append]
          exact hown1
        have HB1 : Hid (Below w.heap.size w w1) := (HB.out.alloc hz _).grown hgrow1 (by simp; omega) (fun j hj => (HO.out.lt j hj).1)
        clear hown1 hgrow1
        go_wp2
        exact ⟨⟨k + 1, g', cap', L ++ [(k : Int)], by omega, by go_num, by simp, by simp; omega, HL2.out, HO1.out, HB1.out⟩, by simp [RowKit.intOf]; omega⟩
      · have hb : ((l[k]'hlt).parent == a) = false := by simpa using he
        have HL2 : Hid (L = partsTo l a (k + 1)) := by
          show _ = _
          rw [partsTo, par_at l k hlt, if_neg he, HL.out]
        clear he
        go_wp2
        exact ⟨⟨k + 1, q, c, L, by omega, by go_num, rfl, by omega, HL2.out, HO.out, HB.out⟩, by simp [RowKit.intOf]; omega⟩
    · have HF : Hid (L = partsD l a) := by
        have hkl : k = l.length := by omega
        show L = partsTo l a l.length
        rw [HL.out, hkl]
      go_wp2
      go_ret
      rw [← HF.out]
      exact ⟨q, c, rfl, HO.out, HB.out⟩
/-- What is asked ahead of a place. -/
def askD (l : List Dat) (a : Int) : Int := if dataFault l ≠ 0 then dataFault l else if 0 ≤ a ∧ a ≤ (l.length : Int) - 1 then 0 else 3
/-- An answer of PartsOf. -/
def AnsP (l : List Dat) (a : Int) (w : World) (e : Ending) (w' : World) : Prop :=
  ∃ ao c, e = .returned (.agg #[.int .i64 (askD l a), .slice ao (if askD l a = 0 then partsD l a else []).length c]) ∧ w'.ownsRow w.heap.size 2 1 (.slice ao (if askD l a = 0 then partsD l a else []).length c) (if askD l a = 0 then partsD l a else []).length (cellsI (if askD l a = 0 then partsD l a else [])) ∧ Below w.heap.size w w'
end Go.Proofs.YtfdkklhigliciaaGreatDoor
/-
  The model's l3Sub and SubData: a datum with all its parts, as data by themselves; nothing that was there is turned.
-/
namespace Go.Proofs.YtfdkklhigliciaaGreatDoor
open Go.RowKit Go.Extern.Stop Go.Stop Go.Extern Num Go.Lib

/-- A datum as part of what is taken out at a place. -/
def shiftD (a i : Nat) (t : Dat) : Dat := ⟨t.kind, if i = a then -1 else t.parent - (a : Int), t.num, t.name⟩
/-- What is taken out, from a place on. -/
def subFrom (l : List Dat) (a : Nat) : Nat → Nat → List Dat
  | 0, _ => []
  | f + 1, i => match l[i]? with
    | none => []
    | some t => if i = a ∨ deepF l 100 (a : Int) < deepF l 100 (i : Int) then shiftD a i t :: subFrom l a f (i + 1) else []
def subD (l : List Dat) (a : Nat) : List Dat := subFrom l a l.length a
theorem subFrom_end (l : List Dat) (a f i : Nat) (h : l.length ≤ i) : subFrom l a f i = [] := by
  cases f with
  | zero => rfl
  | succ f => simp [subFrom, List.getElem?_eq_none h]
theorem subFrom_on (l : List Dat) (a f i : Nat) (h : i < l.length) (hd : i = a ∨ deepF l 100 (a : Int) < deepF l 100 (i : Int)) : subFrom l a (f + 1) i = shiftD a i l[i] :: subFrom l a f (i + 1) := by
  simp only [subFrom, List.getElem?_eq_getElem h, if_pos hd]
theorem subFrom_off (l : List Dat) (a f i : Nat) (h : i < l.length) (hd : ¬ (i = a ∨ deepF l 100 (a : Int) < deepF l 100 (i : Int))) : subFrom l a (f + 1) i = [] := by
  simp only [subFrom, List.getElem?_eq_getElem h, if_neg hd]
theorem news4 {W : World} {b : Nat} {x y z v : Value} {ty : TypeId} {fr : Nat × Nat} (h : W.heap[b]? = some (.cells #[x, y, z, v] ty fr)) : ∀ j u, [x, y, z, v][j]? = some u → W.cell? ((⟨b, 0, none⟩ : Addr).add j) = some u := by
  intro j u hj
  have ha : ∀ j, (⟨b, 0, none⟩ : Addr).add j = ⟨b, j, none⟩ := fun j => by unfold Addr.add; split <;> simp_all
  rw [ha, cell_of_row W b j _ ty fr h]
  match j, hj with
  | 0, hj => simpa using hj
  | 1, hj => simpa using hj
  | 2, hj => simpa using hj
  | 3, hj => simpa using hj
/-- Data with which nothing is wrong. -/
structure Fine (l : List Dat) : Prop where
  pos : 0 < l.length
  len : l.length ≤ 80
  ok : okUpto l l.length
theorem fine_of {l : List Dat} (h : dataFault l = 0) : Fine l := by
  unfold dataFault at h
  split at h
  · cases h
  · rename_i hn
    refine ⟨by omega, by omega, ?_⟩
    have key : ∀ k, k ≤ l.length → okUpto l k := by
      intro k
      induction k with
      | zero => intro _ j _ hj; omega
      | succ k ih =>
        intro hk
        have h1 := ih (by omega)
        refine okUpto_next h1 (by omega) ?_
        by_cases hc : chkD l k (l[k]'(by omega)) = 0
        · exact hc
        · exfalso
          rw [fault_hit l k (by omega) h1 hc] at h
          exact hc h
    exact key l.length (Nat.le_refl _)
theorem Fine.parent {l : List Dat} (h : Fine l) (j : Nat) (hj : j < l.length) : l[j].parent < (j : Int) ∧ -1 ≤ l[j].parent := chk_par (h.ok j hj hj)
theorem Fine.le {l : List Dat} (h : Fine l) (i : Nat) : ∀ (j : Nat) (hj : j < l.length), j ≤ i → l[j].parent ≤ (j : Int) := fun j hj _ => by have := (h.parent j hj).1; omega
/-- Behind an append of one datum. -/
theorem datD_next {w W w1 : World} {B g c g' c' : Nat} {l : List Dat} {t : Dat}
    (hown : W.ownsRow B 49 4 (.slice (some ⟨g, 0, none⟩) l.length c) l.length (cellsD l)) (hb : Below B w W) (hB : B ≤ W.heap.size)
    (hown' : w1.ownsRow B 49 4 (.slice (some ⟨g', 0, none⟩) (l.length + 1) c') (l.length + 1) (cellsD l ++ [.int .i64 t.kind, .int .i64 t.parent, .int .i64 t.num, .string t.name])) (hgrow : W.grownBy w1 (Value.slice (some ⟨g, 0, none⟩) l.length c).ownBlock) :
    w1.ownsRow B 49 4 (.slice (some ⟨g', 0, none⟩) (l ++ [t]).length c') (l ++ [t]).length (cellsD (l ++ [t])) ∧ Below B w w1 := by
  refine ⟨?_, hb.grown hgrow hB (fun j hj => (hown.lt j hj).1)⟩
  rw [cellsD_append, List.length_append]
  exact hown'
set_option maxRecDepth 100000 in
set_option maxHeartbeats 4000000 in
theorem l3Sub_any (g cap : Nat) (l : List Dat) (a : Nat) (w : World) (hR : RowD w g l) (hF : Fine l) (ha : a < l.length) :
    Calls Tryz.prog 41 #[.slice (some ⟨g, 0, none⟩) l.length cap, .int .i64 (a : Int)] w fun e w' => ∃ q c, e = .returned (.slice (some ⟨q, 0, none⟩) (subD l a).length c) ∧ w'.ownsRow w.heap.size 49 4 (.slice (some ⟨q, 0, none⟩) (subD l a).length c) (subD l a).length (cellsD (subD l a)) ∧ Below w.heap.size w w' := by
  have HR : Hid (RowD w g l) := hR
  have HF : Hid (Fine l) := hF
  have hlen : l.length ≤ 80 := hF.len
  obtain ⟨i0, hi, hz0, hz1, hz2⟩ := info_parts infoD
  clear hR hF
  have HD : Hid (∀ (i : Nat) (u : World), i < l.length → RowD u g l → Calls Tryz.prog 39 #[.slice (some ⟨g, 0, none⟩) l.length cap, .int .i64 (i : Int)] u fun e w' => e = .returned (.int .i64 (deepF l 100 (i : Int) : Nat)) ∧ w' = u) := fun i u hi hu => l3Deep_any g cap l u i (i : Int) hu hi (HF.out.le i) (Int.le_refl _)
  obtain ⟨dp, hdp⟩ : ∃ dp, dp = deepF l 100 (a : Int) := ⟨_, rfl⟩
  have HDa : Hid (Calls Tryz.prog 39 #[.slice (some ⟨g, 0, none⟩) l.length cap, .int .i64 (a : Int)] w fun e w' => e = .returned (.int .i64 (dp : Int)) ∧ w' = w) := by rw [hdp]; exact HD.out a w ha HR.out
  have HDP : Hid (dp = deepF l 100 (a : Int)) := hdp
  clear hdp
  go_enter Tryz.func41, Tryz.ntmps41
  go_wp2_with fail
  refine HDa.out.mono ?_
  rintro e w' ⟨rfl, hw'⟩
  replace hw' := hw'.symm
  subst hw'
  go_wp2_with fail
  go_loopw [6, 7, 8] (fun v m x wr => ∃ (i q c f : Nat) (D : List Dat), a ≤ i ∧ i ≤ l.length ∧ m = .int .i64 (i : Int) ∧ v = .slice (some ⟨q, 0, none⟩) D.length c ∧ D.length ≤ i ∧ f + i = l.length + a ∧ Hid (D ++ subFrom l a f i = subD l a) ∧ Hid (wr.ownsRow w.heap.size 49 4 (.slice (some ⟨q, 0, none⟩) D.length c) D.length (cellsD D)) ∧ Hid (Below w.heap.size w wr)) (fun _ m _ _ => l.length - (RowKit.intOf m).toNat)
  case atStart => exact ⟨a, _, _, l.length, [], Nat.le_refl _, by omega, rfl, rfl, Nat.zero_le _, rfl, rfl, World.ownsRow_made _ #[] 0 (Nat.le_refl _) (Nat.zero_le _) rfl, (Below.refl _ _).alloc (Nat.le_refl _) _⟩
  case round =>
    obtain ⟨i, q, c, f, D, hai, hil, rfl, rfl, hDi, hfi, HT, HO, HB⟩ := hrel
    have hz : w.heap.size ≤ wr.heap.size := HB.out.size
    by_cases hlt : i < l.length
    · obtain ⟨c0, c1, c2, c3⟩ := HR.out.below HB.out i hlt
      have hpl := (HF.out.parent i hlt).1
      have hpm := (HF.out.parent i hlt).2
      obtain ⟨f', rfl⟩ : ∃ f', f = f' + 1 := ⟨f - 1, by omega⟩
      by_cases hia : i = a
      · have hb : ((i : Int) == (a : Int)) = true := by rw [beq_iff_eq]; omega
        have HN : Hid ((D ++ [⟨(l[i]'hlt).kind, -1, (l[i]'hlt).num, (l[i]'hlt).name⟩]) ++ subFrom l a f' (i + 1) = subD l a) := by
          have := HT.out
          rw [subFrom_on l a f' i hlt (Or.inl hia)] at this
          show _ = _
          rw [← this]
          simp [shiftD, hia]
        clear hia
        go_wp2_with (first | (at_builtin; refine wpList_append_lies _ rfl (.tmp 45) (.tmp 47) 28 rfl w.heap.size 49 i0 _ 4 40 Tryz.underlying28 hi hz0 hz1 hz2 rfl (by decide) _ D.length (cellsD D) rfl ?c0 ⟨_, 0, none⟩ 1 1 [.int .i64 (l[i]'hlt).kind, .int .i64 (-1), .int .i64 (l[i]'hlt).num, .string (l[i]'hlt).name] rfl rfl ?c1 ?c2 (by decide) ?c3 ?c4 ?c5 _ rfl ?_))
        case c0 => exact (HO.out.alloc _).alloc _
        case c1 => exact news4 (heap_new' _ _ _ (by simp))
        case c2 => intro u hu; simp at hu; rcases hu with rfl | rfl | rfl | rfl <;> rfl
        case c3 => unfold maxLen; omega
        case c4 => omega
        case c5 => simp; omega
        intro g' cap' w1 hown1 hgrow1 _ _
        have R : Hid _ := datD_next (t := ⟨(l[i]'hlt).kind, -1, (l[i]'hlt).num, (l[i]'hlt).name⟩) ((HO.out.alloc _).alloc _) ((HB.out.alloc hz _).alloc (by simp; omega) _) (by simp; omega) hown1 hgrow1
        clear hown1 hgrow1
        go_wp2
        exact ⟨⟨i + 1, g', cap', f', D ++ [_], by omega, by omega, by go_num, by simp, by simp; omega, by omega, HN.out, R.out.1, R.out.2⟩, by simp [RowKit.intOf]; omega⟩
      · have hb : ((i : Int) == (a : Int)) = false := by rw [beq_eq_false_iff_ne]; omega
        obtain ⟨di, hdi⟩ : ∃ di, di = deepF l 100 (i : Int) := ⟨_, rfl⟩
        have HDi : Hid (Calls Tryz.prog 39 #[.slice (some ⟨g, 0, none⟩) l.length cap, .int .i64 (i : Int)] wr fun e w' => e = .returned (.int .i64 (di : Int)) ∧ w' = wr) := by rw [hdi]; exact HD.out i wr hlt (HR.out.below HB.out)
        by_cases hd : (dp : Int) < (di : Int)
        · have HN : Hid ((D ++ [⟨(l[i]'hlt).kind, (l[i]'hlt).parent - (a : Int), (l[i]'hlt).num, (l[i]'hlt).name⟩]) ++ subFrom l a f' (i + 1) = subD l a) := by
            have := HT.out
            rw [subFrom_on l a f' i hlt (Or.inr (by rw [← HDP.out, ← hdi]; omega))] at this
            show _ = _
            rw [← this]
            simp [shiftD, hia]
          clear hia hdi
          go_wp2_with (first | (go_at_call 39; refine HDi.out.mono ?_; rintro e w' ⟨rfl, hw'⟩; replace hw' := hw'.symm; subst hw') | (at_builtin; refine wpList_append_lies _ rfl (.tmp 45) (.tmp 47) 28 rfl w.heap.size 49 i0 _ 4 40 Tryz.underlying28 hi hz0 hz1 hz2 rfl (by decide) _ D.length (cellsD D) rfl ?c0 ⟨_, 0, none⟩ 1 1 [.int .i64 (l[i]'hlt).kind, .int .i64 ((l[i]'hlt).parent - (a : Int)), .int .i64 (l[i]'hlt).num, .string (l[i]'hlt).name] rfl rfl ?c1 ?c2 (by decide) ?c3 ?c4 ?c5 _ rfl ?_))
          case c0 => exact (HO.out.alloc _).alloc _
          case c1 => exact news4 (heap_new' _ _ _ (by simp))
          case c2 => intro u hu; simp at hu; rcases hu with rfl | rfl | rfl | rfl <;> rfl
          case c3 => unfold maxLen; omega
          case c4 => omega
          case c5 => simp; omega
          intro g' cap' w1 hown1 hgrow1 _ _
          have R : Hid _ := datD_next (t := ⟨(l[i]'hlt).kind, (l[i]'hlt).parent - (a : Int), (l[i]'hlt).num, (l[i]'hlt).name⟩) ((HO.out.alloc _).alloc _) ((HB.out.alloc hz _).alloc (by simp; omega) _) (by simp; omega) hown1 hgrow1
          clear hown1 hgrow1
          go_wp2
          exact ⟨⟨i + 1, g', cap', f', D ++ [_], by omega, by omega, by go_num, by simp, by simp; omega, by omega, HN.out, R.out.1, R.out.2⟩, by simp [RowKit.intOf]; omega⟩
        · have HN : Hid (D = subD l a) := by
            have := HT.out
            rw [subFrom_off l a f' i hlt (by rw [← HDP.out, ← hdi]; omega), List.append_nil] at this
            exact this
          clear hia hdi
          go_wp2_with (go_at_call 39; refine HDi.out.mono ?_; rintro e w' ⟨rfl, hw'⟩; replace hw' := hw'.symm; subst hw')
          go_ret
          rw [← HN.out]
          exact ⟨q, c, rfl, HO.out, HB.out⟩
    · have HN : Hid (D = subD l a) := by
        have := HT.out
        rw [subFrom_end l a f i (by omega), List.append_nil] at this
        exact this
      go_wp2
      go_ret
      rw [← HN.out]
      exact ⟨q, c, rfl, HO.out, HB.out⟩
/-- An answer of SubData. -/
def outS (l : List Dat) (a : Int) : List Dat := if askD l a = 0 then subD l a.toNat else []
def AnsS (l : List Dat) (a : Int) (w : World) (e : Ending) (w' : World) : Prop :=
  ∃ ao c, e = .returned (.agg #[.int .i64 (askD l a), .int .i64 0, .slice ao (outS l a).length c]) ∧ w'.ownsRow w.heap.size 49 4 (.slice ao (outS l a).length c) (outS l a).length (cellsD (outS l a)) ∧ Below w.heap.size w w'
theorem ask_zero {l : List Dat} {a : Int} (h : askD l a = 0) : Fine l ∧ 0 ≤ a ∧ a < (l.length : Int) := by
  have hd : dataFault l = 0 := by
    by_cases hd : dataFault l = 0
    · exact hd
    · simp [askD, hd] at h
  unfold askD at h
  rw [if_neg (by simpa using hd)] at h
  split at h
  · rename_i h1
    exact ⟨fine_of hd, by omega, by omega⟩
  · cases h
end Go.Proofs.YtfdkklhigliciaaGreatDoor
/-
  A block whose cells hold slices that are owned, apart from one another: what a store into one leaves of the others.
-/
namespace Go.Proofs.YtfdkklhigliciaaGreatDoor
open Go.RowKit Go.Extern.Stop Go.Stop Go.Extern Num Go.Lib

/-- A cell of a block that holds a slice, its row owned. -/
def Fld (w : World) (B r f : Nat) (e : TypeId) (size : Nat) (v : Value) (n : Nat) (xs : List Value) : Prop :=
  w.cell? ⟨r, f, none⟩ = some v ∧ w.ownsRow B e size v n xs ∧ ∀ g, v.ownBlock = some g → g ≠ r
section
variable {w w1 : World} {B r f : Nat} {e : TypeId} {size : Nat} {v : Value} {n : Nat} {xs : List Value}
theorem Fld.lt (h : Fld w B r f e size v n xs) : r < w.heap.size := lt_of_cell h.1
theorem Fld.put {v' : Value} {n' : Nat} {xs' : List Value} (h : Fld w B r f e size v n xs) (hg : w.grownBy w1 v.ownBlock) (ho : w1.ownsRow B e size v' n' xs') (hv : ∀ g, v'.ownBlock = some g → v.ownBlock = some g ∨ w.heap.size ≤ g) :
    Fld (w1.setCell ⟨r, f, none⟩ v') B r f e size v' n' xs' := by
  have hlt := h.lt
  have hcell : w1.cell? ⟨r, f, none⟩ = some v := hg.cell h.1 (fun e => h.2.2 r e.symm rfl)
  have hne : ∀ g, v'.ownBlock = some g → g ≠ r := fun g hg' => by
    rcases hv g hg' with h1 | h1
    · exact h.2.2 g h1
    · omega
  exact ⟨World.cell?_setCell_same' _ _ _ (by rw [hcell]; rfl), own_set' ho hne v', hne⟩
theorem Fld.other {ro : Option Nat} {f' : Nat} (h : Fld w B r f e size v n xs) (hg : w.grownBy w1 ro) (hro : ro ≠ some r) (hap : ∀ g, v.ownBlock = some g → ro ≠ some g) (hf : f' ≠ f) (v' : Value) :
    Fld (w1.setCell ⟨r, f', none⟩ v') B r f e size v n xs := by
  have hcell : w1.cell? ⟨r, f, none⟩ = some v := hg.cell h.1 (fun e => hro e.symm)
  refine ⟨?_, own_set' (own_apart h.2.1 hg hap) h.2.2 v', h.2.2⟩
  rw [World.cell?_setCell_other _ _ _ _ (by intro e; apply hf; injection e)]
  exact hcell
theorem Fld.below (h : Fld w B r f e size v n xs) (hb : Below w.heap.size w w1) : Fld w1 B r f e size v n xs := ⟨cell_keep hb h.1, own_below h.2.1 hb, h.2.2⟩
theorem Fld.own_lt (h : Fld w B r f e size v n xs) : ∀ g, v.ownBlock = some g → g < w.heap.size := fun g hg => (h.2.1.lt g hg).2
end
theorem apart_put {w : World} {v v' u : Value} (hv : ∀ g, v'.ownBlock = some g → v.ownBlock = some g ∨ w.heap.size ≤ g) (hap : ∀ g, v.ownBlock = some g → u.ownBlock ≠ some g) (hu : ∀ g, u.ownBlock = some g → g < w.heap.size) : ∀ g, v'.ownBlock = some g → u.ownBlock ≠ some g := by
  intro g hg e
  rcases hv g hg with h | h
  · exact hap g h e
  · have := hu g e; omega
theorem apart_sym {v u : Value} (h : ∀ g, v.ownBlock = some g → u.ownBlock ≠ some g) : ∀ g, u.ownBlock = some g → v.ownBlock ≠ some g := fun g hg e => h g e hg
theorem fz_grown {w w1 : World} {r : Nat} {ro : Option Nat} (hz : ∀ o, w.frozen? ⟨r, o, none⟩ = false) (hlt : r < w.heap.size) (hg : w.grownBy w1 ro) (hro : ro ≠ some r) (p : Addr) (v : Value) : ∀ o, (w1.setCell p v).frozen? ⟨r, o, none⟩ = false := fun o => by
  rw [World.frozen?_setCell, World.frozen?_of_block (a := ⟨r, o, none⟩) (hg.block r hlt (fun e => hro e.symm))]; exact hz o
/-- A cell ahead of a row that has grown. -/
theorem afterGrow {w u w1 : World} {row : Option Nat} {r f : Nat} {v : Value} (hb : Below w.heap.size w u) (c : w.cell? ⟨r, f, none⟩ = some v) (fz : w.frozen? ⟨r, f, none⟩ = false) (hg : u.grownBy w1 row) (hr : row ≠ some r) : w1.cell? ⟨r, f, none⟩ = some v ∧ w1.frozen? ⟨r, f, none⟩ = false := by
  have h1 := cell_keep hb c
  refine ⟨hg.cell h1 (Ne.symm hr), ?_⟩
  rw [World.frozen?_of_block (a := ⟨r, f, none⟩) (hg.block r (lt_of_cell h1) (Ne.symm hr)), (bcell hb).2 r f (lt_of_cell c)]
  exact fz
end Go.Proofs.YtfdkklhigliciaaGreatDoor
/-
  The model's reader of data, as a block whose cells hold slices that are owned.
-/
namespace Go.Proofs.YtfdkklhigliciaaGreatDoor
open Go.RowKit Go.Extern.Stop Go.Stop Go.Extern Num Go.Lib

def cellsB (l : List Bool) : List Value := l.map Value.bool
theorem cellsB_length (l : List Bool) : (cellsB l).length = l.length := by simp [cellsB]
theorem cellsB_append (a b : List Bool) : cellsB (a ++ b) = cellsB a ++ cellsB b := by simp [cellsB]
theorem infoB : (Tryz.prog.info? 4).map (fun i => (i.zero, i.size, i.bytes)) = some (some (.bool false), 1, 1) := by kernel_rfl
theorem rowB_at {w : World} {base g cap : Nat} {l : List Bool} (h : w.ownsRow base 4 1 (.slice (some ⟨g, 0, none⟩) l.length cap) l.length (cellsB l)) (k : Nat) (hk : k < l.length) :
    w.cell? ⟨g, k, none⟩ = some (.bool l[k]) := by
  have ha : ∀ j, (⟨g, 0, none⟩ : Addr).add j = ⟨g, j, none⟩ := fun j => by unfold Addr.add; split <;> simp_all
  rw [← ha]
  exact h.cells (g := g) rfl k _ (by simp [cellsB, hk])
/-- The reader: data that are read, open lists, and whether each ends behind one datum. -/
structure RdAt (w : World) (B r : Nat) (vD vO vQ : Value) (D : List Dat) (O : List Int) (Q : List Bool) : Prop where
  hr : B ≤ r
  fz : ∀ o, w.frozen? ⟨r, o, none⟩ = false
  fD : Fld w B r 0 49 4 vD D.length (cellsD D)
  fO : Fld w B r 1 2 1 vO O.length (cellsI O)
  fQ : Fld w B r 2 4 1 vQ Q.length (cellsB Q)
  dO : ∀ g, vD.ownBlock = some g → vO.ownBlock ≠ some g
  dQ : ∀ g, vD.ownBlock = some g → vQ.ownBlock ≠ some g
  oQ : ∀ g, vO.ownBlock = some g → vQ.ownBlock ≠ some g
section
variable {w w1 : World} {B r : Nat} {vD vO vQ v' : Value} {D D' : List Dat} {O O' : List Int} {Q Q' : List Bool}
theorem RdAt.keep (h : RdAt w B r vD vO vQ D O Q) (hb : Below w.heap.size w w1) : RdAt w1 B r vD vO vQ D O Q :=
  ⟨h.hr, fun o => by rw [(bcell hb).2 r o h.fD.lt]; exact h.fz o, h.fD.below hb, h.fO.below hb, h.fQ.below hb, h.dO, h.dQ, h.oQ⟩
theorem RdAt.data (h : RdAt w B r vD vO vQ D O Q) (hg : w.grownBy w1 vD.ownBlock) (ho : w1.ownsRow B 49 4 v' D'.length (cellsD D')) (hv : ∀ g, v'.ownBlock = some g → vD.ownBlock = some g ∨ w.heap.size ≤ g) :
    RdAt (w1.setCell ⟨r, 0, none⟩ v') B r v' vO vQ D' O Q := by
  have hro : vD.ownBlock ≠ some r := fun e => h.fD.2.2 r e rfl
  exact ⟨h.hr, fz_grown h.fz h.fD.lt hg hro _ _, h.fD.put hg ho hv, h.fO.other hg hro (apart_sym h.dO) (by omega) _, h.fQ.other hg hro (apart_sym h.dQ) (by omega) _, apart_put hv h.dO h.fO.own_lt, apart_put hv h.dQ h.fQ.own_lt, h.oQ⟩
theorem RdAt.opn (h : RdAt w B r vD vO vQ D O Q) (hg : w.grownBy w1 vO.ownBlock) (ho : w1.ownsRow B 2 1 v' O'.length (cellsI O')) (hv : ∀ g, v'.ownBlock = some g → vO.ownBlock = some g ∨ w.heap.size ≤ g) :
    RdAt (w1.setCell ⟨r, 1, none⟩ v') B r vD v' vQ D O' Q := by
  have hro : vO.ownBlock ≠ some r := fun e => h.fO.2.2 r e rfl
  exact ⟨h.hr, fz_grown h.fz h.fD.lt hg hro _ _, h.fD.other hg hro h.dO (by omega) _, h.fO.put hg ho hv, h.fQ.other hg hro (apart_sym h.oQ) (by omega) _, apart_sym (apart_put hv (apart_sym h.dO) h.fD.own_lt), h.dQ, apart_put hv h.oQ h.fQ.own_lt⟩
theorem RdAt.quo (h : RdAt w B r vD vO vQ D O Q) (hg : w.grownBy w1 vQ.ownBlock) (ho : w1.ownsRow B 4 1 v' Q'.length (cellsB Q')) (hv : ∀ g, v'.ownBlock = some g → vQ.ownBlock = some g ∨ w.heap.size ≤ g) :
    RdAt (w1.setCell ⟨r, 2, none⟩ v') B r vD vO v' D O Q' := by
  have hro : vQ.ownBlock ≠ some r := fun e => h.fQ.2.2 r e rfl
  exact ⟨h.hr, fz_grown h.fz h.fD.lt hg hro _ _, h.fD.other hg hro h.dQ (by omega) _, h.fO.other hg hro h.oQ (by omega) _, h.fQ.put hg ho hv, h.dO, apart_sym (apart_put hv (apart_sym h.dQ) h.fD.own_lt), apart_sym (apart_put hv (apart_sym h.oQ) h.fO.own_lt)⟩
end
def Rd (w : World) (B r : Nat) (D : List Dat) (O : List Int) (Q : List Bool) : Prop := ∃ vD vO vQ, RdAt w B r vD vO vQ D O Q
end Go.Proofs.YtfdkklhigliciaaGreatDoor
/-
  The program's tokenKind, tokenOf and add: the token with which a datum begins, and a node put behind the others of a tree.
-/
namespace Go.Proofs.YtfdkklhigliciaaGreatDoor
open Go.RowKit Go.Extern.Stop Go.Stop Go.Extern Num Go.Lib Go.Shelf

/-- The kind of the token with which a datum begins. -/
def tkD (k : Int) : Int := if k = 1 then 4 else if k = 2 then 5 else if k = 3 then 6 else if k = 4 then 1 else 0
theorem tokenKind_any (k : Int) (w : World) : Calls Tryz.prog 67 #[.int .i64 k] w fun e w' => e = .returned (.int .i64 (tkD k)) ∧ w' = w := by
  by_cases h1 : k = 1
  · subst h1
    go_enter Tryz.func67, Tryz.ntmps67
    go_wp2
    go_ret
    exact ⟨rfl, rfl⟩
  by_cases h2 : k = 2
  · subst h2
    go_enter Tryz.func67, Tryz.ntmps67
    go_wp2
    go_ret
    exact ⟨rfl, rfl⟩
  by_cases h3 : k = 3
  · subst h3
    go_enter Tryz.func67, Tryz.ntmps67
    go_wp2
    go_ret
    exact ⟨rfl, rfl⟩
  by_cases h4 : k = 4
  · subst h4
    go_enter Tryz.func67, Tryz.ntmps67
    go_wp2
    go_ret
    exact ⟨rfl, rfl⟩
  have e : tkD k = 0 := by simp [tkD, h1, h2, h3, h4]
  rw [e]
  have b1 : (k == 1) = false := by simpa using h1
  have b2 : (k == 2) = false := by simpa using h2
  have b3 : (k == 3) = false := by simpa using h3
  have b4 : (k == 4) = false := by simpa using h4
  go_enter Tryz.func67, Tryz.ntmps67
  go_wp2
  go_ret
  exact ⟨rfl, rfl⟩
set_option maxRecDepth 100000 in
set_option maxHeartbeats 1000000 in
theorem tokenOf_any (t : Dat) (w : World) : Calls Tryz.prog 47 #[t.val] w fun e w' => e = .returned (.agg #[.int .i64 (tkD t.kind), .int .i64 t.num, .string t.name]) ∧ Below w.heap.size w w' := by
  obtain ⟨k, p, n, z⟩ := t
  show Calls _ _ #[.agg #[.int .i64 k, .int .i64 p, .int .i64 n, .string z]] _ _
  go_enter Tryz.func47, Tryz.ntmps47
  go_wp2_with fail
  have hne : w.heap.size ≠ w.heap.size + 1 := by omega
  have hne' : w.heap.size + 1 ≠ w.heap.size := by omega
  go_region_held3 (fun w' => w'.cell? ⟨w.heap.size, 0, none⟩ = some (.int .i64 k) ∧ w'.cell? ⟨w.heap.size, 0 + 2, none⟩ = some (.int .i64 n) ∧ w'.cell? ⟨w.heap.size, 0 + 3, none⟩ = some (.string z)) (go_keep)
    ((go_at_call 67; refine (tokenKind_any _ _).mono ?_; rintro e w' ⟨rfl, rfl⟩))
  all_goals
    go_wp2
    exact bodyPost_ret (v := .agg #[.int .i64 (tkD k), .int .i64 n, .string z]) (by simp [results, Tryz.results47, go_sem]) rfl ⟨rfl, by
      repeat (first | exact Below.refl _ _ | refine Below.setCell ?_ (by simp) _ | refine Below.drew ?_ | refine Below.alloc ?_ (by simp <;> omega) _)⟩
theorem size_at (r m cap : Nat) (ao : Option Addr) (w : World) (hc : w.cell? ⟨r, 0, none⟩ = some (.slice ao m cap)) :
    Calls Tryz.prog 74 #[.pointer (some ⟨r, 0, none⟩)] w fun e w' => e = .returned (.int .i64 (m : Nat)) ∧ w' = w := by
  go_enter Tryz.func74, Tryz.ntmps74
  go_wp2
  go_ret
  exact ⟨rfl, rfl⟩
theorem infoN : (Tryz.prog.info? 121).map (fun i => (i.zero, i.size, i.bytes)) = some (some (.agg #[.int .i64 0, .int .i64 0, .int .i64 0, .string ⟨#[]⟩]), 4, 40) := by kernel_rfl
/-- A cell ahead of a row that has grown. -/
theorem aftGrow {w u w1 : World} {row : Option Nat} {r f : Nat} {v : Value} (hb : Below w.heap.size w u) (c : w.cell? ⟨r, f, none⟩ = some v) (fz : w.frozen? ⟨r, f, none⟩ = false) (hg : u.grownBy w1 row) (hr : row ≠ some r) : w1.cell? ⟨r, f, none⟩ = some v ∧ w1.frozen? ⟨r, f, none⟩ = false := by
  have h1 := cell_keep hb c
  refine ⟨hg.cell h1 (Ne.symm hr), ?_⟩
  rw [World.frozen?_of_block (a := ⟨r, f, none⟩) (hg.block r (lt_of_cell h1) (Ne.symm hr)), (bcell hb).2 r f (lt_of_cell c)]
  exact fz
/-- A node has been put behind the others: a row has grown, and its cell names it. -/
def AddR (B r : Nat) (v : Value) (N : List Dat) (w w' : World) : Prop :=
  ∃ u w1 g' c', Below w.heap.size w u ∧ u.grownBy w1 v.ownBlock ∧ w1.ownsRow B 121 4 (.slice (some ⟨g', 0, none⟩) N.length c') N.length (cellsN N) ∧ (v.ownBlock = some g' ∨ u.heap.size = g') ∧ w' = w1.setCell ⟨r, 0, none⟩ (.slice (some ⟨g', 0, none⟩) N.length c')
set_option maxRecDepth 100000 in
set_option maxHeartbeats 2000000 in
theorem add_any (B r : Nat) (v : Value) (N : List Dat) (p k n : Int) (z : ByteArray) (w : World) (hB : B ≤ w.heap.size) (fz : w.frozen? ⟨r, 0, none⟩ = false) (h : Fld w B r 0 121 4 v N.length (cellsN N)) (hl : N.length < 1000) :
    Calls Tryz.prog 50 #[.pointer (some ⟨r, 0, none⟩), .int .i64 p, .agg #[.int .i64 k, .int .i64 n, .string z]] w fun e w' => e = .returned (.int .i64 (N.length : Nat)) ∧ AddR B r v (N ++ [⟨k, p, n, z⟩]) w w' := by
  obtain ⟨aD, cD, rfl⟩ := own_form h.2.1
  have c0 := h.1
  have hlt := h.lt
  have HH : Hid _ := h
  obtain ⟨i0, hi, hz0, hz1, hz2⟩ := info_parts infoN
  clear h
  go_enter Tryz.func50, Tryz.ntmps50
  go_wp2_with fail
  have ag : (Value.slice aD N.length cD).ownBlock ≠ some r := fun e => HH.out.2.2 r e rfl
  have HO : Hid (w.ownsRow B 121 4 (.slice aD N.length cD) N.length (cellsN N)) := HH.out.2.1
  go_region_law
    ((refine step_append_lies _ (by rfl) _ _ _ (by rfl) B 121 i0 _ 4 40 Tryz.underlying85 hi hz0 hz1 hz2 rfl (by decide) (.slice aD N.length cD) N.length (cellsN N) (by rfl) (by repeat (first | exact HO.out | refine World.ownsRow.alloc ?_ _ | refine World.ownsRow.drew ?_))
        ⟨w.heap.size + 1, 0, none⟩ 1 1 [.int .i64 p, .int .i64 k, .int .i64 n, .string z] (by rfl) (by rfl) (World.news_of_block (cs := #[.int .i64 p, .int .i64 k, .int .i64 n, .string z]) (t := 121) (fr := (0, 0)) (heap_new' _ _ _ (by simp))) (by simp [Value.oneCell'])
        (by decide) (by unfold maxLen; omega) (by omega) (by simp; omega) (w.heap.size + 2) (by simp) ?_; intro g' cap' w1 hown1 hgrow hat hlt'; obtain ⟨k1, k2⟩ := aftGrow (w := w) (by repeat (first | exact Below.refl _ _ | refine Below.drew ?_ | refine Below.alloc ?_ (by simp <;> omega) _)) c0 fz hgrow ag))
  all_goals
    have hs : (w1.setCell ⟨r, 0, none⟩ (.slice (some ⟨g', 0, none⟩) (N.length + 1) cap')).cell? ⟨r, 0, none⟩ = some (.slice (some ⟨g', 0, none⟩) (N.length + 1) cap') := World.cell?_setCell_same' _ _ _ (by rw [k1]; rfl)
    have R : Hid (AddR B r (.slice aD N.length cD) (N ++ [⟨k, p, n, z⟩]) w (w1.setCell ⟨r, 0, none⟩ (.slice (some ⟨g', 0, none⟩) (N.length + 1) cap'))) := by
      refine ⟨_, w1, g', cap', ?_, hgrow, ?_, ?_, ?_⟩
      · repeat (first | exact Below.refl _ _ | refine Below.drew ?_ | refine Below.alloc ?_ (by simp <;> omega) _)
      · rw [cellsN_append, List.length_append]; exact hown1
      · rcases hat with h | h
        · exact .inl h
        · right; simp; omega
      · rw [List.length_append]; rfl
    clear hgrow hown1 hat k1 k2
    go_wp2_with ((go_at_call 74; refine (size_at _ _ _ _ _ hs).mono ?_; rintro e w' ⟨rfl, rfl⟩))
    go_ret
    exact ⟨by simp, R.out⟩
end Go.Proofs.YtfdkklhigliciaaGreatDoor
