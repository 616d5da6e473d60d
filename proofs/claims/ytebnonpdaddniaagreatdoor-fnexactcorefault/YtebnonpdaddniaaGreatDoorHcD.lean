/-
  Parts of the proof laid into one text, one behind the other; each says at its head what is proved in it.
-/
import Derived.Test.YtebnonpdaddniaaGreatDoorRowKit0
import Derived.Test.YtebnonpdaddniaaGreatDoorSpecFaultD
/-
  Rows of int64 that a slice owns; the laws' eqInt64S, markInt64S and heldInt64S; nothing but a marked row is turned.
-/
namespace Go.Proofs.YtebnonpdaddniaaGreatDoor
open Go.RowKit Go.Extern.Stop Go.Stop Go.Extern Num Go.Lib

def cellsI (l : List Int) : List Value := l.map (Value.int .i64)
theorem cellsI_length (l : List Int) : (cellsI l).length = l.length := by simp [cellsI]
theorem cellsI_append (a b : List Int) : cellsI (a ++ b) = cellsI a ++ cellsI b := by simp [cellsI]
theorem infoI : (Tryz.prog.info? 2).map (fun i => (i.zero, i.size, i.bytes)) = some (some (.int .i64 0), 1, 8) := by kernel_rfl
theorem rowI_at {w : World} {base g cap : Nat} {l : List Int} (h : w.ownsRow base 2 1 (.slice (some ⟨g, 0, none⟩) l.length cap) l.length (cellsI l)) (k : Nat) (hk : k < l.length) :
    w.cell? ⟨g, k, none⟩ = some (.int .i64 l[k]) := by
  have ha : ∀ j, (⟨g, 0, none⟩ : Addr).add j = ⟨g, j, none⟩ := fun j => by unfold Addr.add; split <;> simp_all
  rw [← ha]
  exact h.cells (g := g) rfl k _ (by simp [cellsI, hk])
theorem newsI {W : World} {b : Nat} {x : Value} {ty : TypeId} {fr : Nat × Nat} (h : W.heap[b]? = some (.cells #[x] ty fr)) : ∀ j u, [x][j]? = some u → W.cell? ((⟨b, 0, none⟩ : Addr).add j) = some u := by
  intro j u hj
  have ha : ∀ j, (⟨b, 0, none⟩ : Addr).add j = ⟨b, j, none⟩ := fun j => by unfold Addr.add; split <;> simp_all
  rw [ha, cell_of_row W b j _ ty fr h]
  match j, hj with
  | 0, hj => simpa using hj
/-- The marks of a row. -/
def marksI (k : Nat) : Nat → List Int
  | 0 => []
  | n + 1 => marksI k n ++ [((k + n : Nat) : Int)]
theorem marksI_len (k n : Nat) : (marksI k n).length = n := by
  induction n with
  | zero => rfl
  | succ n ih => simp [marksI, ih]
theorem marksI_at (k n i : Nat) (h : i < n) : (marksI k n)[i]'(by rw [marksI_len]; exact h) = ((k + i : Nat) : Int) := by
  induction n with
  | zero => omega
  | succ n ih =>
    simp only [marksI]
    by_cases hi : i < n
    · rw [List.getElem_append_left (by rw [marksI_len]; exact hi)]; exact ih hi
    · have : i = n := by omega
      subst this
      rw [List.getElem_append_right (by rw [marksI_len]; omega)]
      simp [marksI_len]
theorem marksI_zero (k : Nat) (l : List Int) : marksI k 0 ++ l.drop 0 = l := by simp [marksI]
theorem markI_next {w wr : World} {g cap base k i q : Nat} {l : List Int}
    (ho : wr.ownsRow base 2 1 (.slice (some ⟨g, 0, none⟩) l.length cap) l.length (cellsI (marksI k i ++ l.drop i))) (hg : w.grownBy wr (some g)) (hi : i < l.length) (hq : q = k + i) :
    (wr.setCell ⟨g, i, none⟩ (.int .i64 (q : Int))).ownsRow base 2 1 (.slice (some ⟨g, 0, none⟩) l.length cap) l.length (cellsI (marksI k (i + 1) ++ l.drop (i + 1))) ∧ w.grownBy (wr.setCell ⟨g, i, none⟩ (.int .i64 (q : Int))) (some g) := by
  refine ⟨?_, gb_set hg _⟩
  have h := own_put ho i (.int .i64 (q : Int))
  have e : (cellsI (marksI k i ++ l.drop i)).set i (.int .i64 (q : Int)) = cellsI (marksI k (i + 1) ++ l.drop (i + 1)) := by
    have e1 : l.drop i = l[i] :: l.drop (i + 1) := List.drop_eq_getElem_cons hi
    obtain ⟨R, hR⟩ : ∃ R, R = l.drop (i + 1) := ⟨_, rfl⟩
    rw [← hR] at e1 ⊢
    rw [e1, cellsI_append, cellsI_append, List.set_append_right _ _ (by rw [cellsI_length, marksI_len]; omega), cellsI_length, marksI_len, Nat.sub_self]
    simp [marksI, cellsI, hq]
  rw [e] at h
  exact h
end Go.Proofs.YtebnonpdaddniaaGreatDoor
/-
  The model's l3Asked, l3Parts and PartsOf: the places of a datum's parts; nothing that was there is turned.
-/
namespace Go.Proofs.YtebnonpdaddniaaGreatDoor
open Go.RowKit Go.Extern.Stop Go.Stop Go.Extern Num Go.Lib

/-- The places, below k, of the parts of a place. -/
def partsTo (l : List Dat) (a : Int) : Nat → List Int
  | 0 => []
  | k + 1 => if par l k = a then partsTo l a k ++ [(k : Int)] else partsTo l a k
def partsD (l : List Dat) (a : Int) : List Int := partsTo l a l.length
theorem partsTo_len (l : List Dat) (a : Int) (k : Nat) : (partsTo l a k).length ≤ k := by
  induction k with
  | zero => simp [partsTo]
  | succ k ih =>
    simp only [partsTo]
    split
    · rw [List.length_append]; simp; omega
    · omega
set_option maxRecDepth 100000 in
set_option maxHeartbeats 2000000 in
theorem l3Parts_any (g cap : Nat) (l : List Dat) (a : Int) (w : World) (hR : RowD w g l) (hl : l.length ≤ 1048576) :
    Calls Tryz.prog 106 #[.slice (some ⟨g, 0, none⟩) l.length cap, .int .i64 a] w fun e w' => ∃ q c, e = .returned (.slice (some ⟨q, 0, none⟩) (partsD l a).length c) ∧ w'.ownsRow w.heap.size 2 1 (.slice (some ⟨q, 0, none⟩) (partsD l a).length c) (partsD l a).length (cellsI (partsD l a)) ∧ Below w.heap.size w w' := by
  have HR : Hid (RowD w g l) := hR
  obtain ⟨i0, hi, hz0, hz1, hz2⟩ := info_parts infoI
  clear hR
  go_enter Tryz.func106, Tryz.ntmps106
  go_wp2_with fail
  go_loopw [5, 6] (fun v i wr => ∃ (k q c : Nat) (L : List Int), k ≤ l.length ∧ i = .int .i64 (k : Int) ∧ v = .slice (some ⟨q, 0, none⟩) L.length c ∧ L.length ≤ k ∧ Hid (L = partsTo l a k) ∧ Hid (wr.ownsRow w.heap.size 2 1 (.slice (some ⟨q, 0, none⟩) L.length c) L.length (cellsI L)) ∧ Hid (Below w.heap.size w wr)) (fun _ i _ => l.length - (RowKit.intOf i).toNat)
  case atStart => exact ⟨0, _, _, [], Nat.zero_le _, rfl, rfl, Nat.le_refl _, rfl, World.ownsRow_made _ #[] 0 (Nat.le_refl _) (Nat.zero_le _) rfl, (Below.refl _ _).alloc (Nat.le_refl _) _⟩
  case round =>
    obtain ⟨k, q, c, L, hk, rfl, rfl, hLk, HL, HO, HB⟩ := hrel
    have hz : w.heap.size ≤ wr.heap.size := HB.out.size
    by_cases hlt : k < l.length
    · have c1 : wr.cell? ⟨g, k * 4 + 1, none⟩ = some (.int .i64 (l[k]'hlt).parent) := (HR.out.below HB.out k hlt).2.1
      by_cases he : (l[k]'hlt).parent = a
      · have hb : ((l[k]'hlt).parent == a) = true := by simpa using he
        have HL2 : Hid (L ++ [(k : Int)] = partsTo l a (k + 1)) := by
          show _ = _
          rw [partsTo, par_at l k hlt, if_pos he, HL.out]
        clear he
        go_wp2_with (first | (at_builtin; refine wpList_append_lies _ rfl (.tmp 21) (.tmp 23) 127 rfl w.heap.size 2 i0 _ 1 8 Tryz.underlying127 hi hz0 hz1 hz2 rfl (by decide) _ L.length (cellsI L) rfl (HO.out.alloc _) ⟨_, 0, none⟩ 1 1 [.int .i64 (k : Int)] rfl rfl ?c1 ?c2 (by decide) ?c3 ?c4 ?c5 _ rfl ?_))
        case c1 => exact newsI (heap_new' _ _ _ (by simp))
        case c2 => intro u hu; simp at hu; subst hu; rfl
        case c3 => unfold maxLen; omega
        case c4 => omega
        case c5 => simp; omega
        intro g' cap' w1 hown1 hgrow1 _ _
        have HO1 : Hid (w1.ownsRow w.heap.size 2 1 (.slice (some ⟨g', 0, none⟩) (L ++ [(k : Int)]).length cap') (L ++ [(k : Int)]).length (cellsI (L ++ [(k : Int)]))) := by
          rw [cellsI_append, List.length_append]
          exact hown1
        have HB1 : Hid (Below w.heap.size w w1) := (HB.out.alloc hz _).grown hgrow1 (by simp; omega) (fun j hj => (HO.out.lt j hj).1)
        clear hown1 hgrow1
        go_wp2
        exact ⟨⟨k + 1, g', cap', L ++ [(k : Int)], by omega, by go_num, by simp, by simp; omega, HL2.out, HO1.out, HB1.out⟩, by simp [RowKit.intOf]; omega⟩
      · have hb : ((l[k]'hlt).parent == a) = false := by simpa using he
        have HL2 : Hid (L = partsTo l a (k + 1)) := by
          show _ = _
          rw [partsTo, par_at l k hlt, if_neg he, HL.out]
        clear he
        go_wp2
        exact ⟨⟨k + 1, q, c, L, by omega, by go_num, rfl, by omega, HL2.out, HO.out, HB.out⟩, by simp [RowKit.intOf]; omega⟩
    · have HF : Hid (L = partsD l a) := by
        have hkl : k = l.length := by omega
        show L = partsTo l a l.length
        rw [HL.out, hkl]
      go_wp2
      go_ret
      rw [← HF.out]
      exact ⟨q, c, rfl, HO.out, HB.out⟩
/-- What is asked ahead of a place. -/
def askD (l : List Dat) (a : Int) : Int := if dataFault l ≠ 0 then dataFault l else if 0 ≤ a ∧ a ≤ (l.length : Int) - 1 then 0 else 3
/-- An answer of PartsOf. -/
def AnsP (l : List Dat) (a : Int) (w : World) (e : Ending) (w' : World) : Prop :=
  ∃ ao c, e = .returned (.agg #[.int .i64 (askD l a), .slice ao (if askD l a = 0 then partsD l a else []).length c]) ∧ w'.ownsRow w.heap.size 2 1 (.slice ao (if askD l a = 0 then partsD l a else []).length c) (if askD l a = 0 then partsD l a else []).length (cellsI (if askD l a = 0 then partsD l a else [])) ∧ Below w.heap.size w w'
end Go.Proofs.YtebnonpdaddniaaGreatDoor
/-
  The model's l3Sub and SubData: a datum with all its parts, as data by themselves; nothing that was there is turned.
-/
namespace Go.Proofs.YtebnonpdaddniaaGreatDoor
open Go.RowKit Go.Extern.Stop Go.Stop Go.Extern Num Go.Lib

/-- A datum as part of what is taken out at a place. -/
def shiftD (a i : Nat) (t : Dat) : Dat := ⟨t.kind, if i = a then -1 else t.parent - (a : Int), t.num, t.name⟩
/-- What is taken out, from a place on. -/
def subFrom (l : List Dat) (a : Nat) : Nat → Nat → List Dat
  | 0, _ => []
  | f + 1, i => match l[i]? with
    | none => []
    | some t => if i = a ∨ deepF l 100 (a : Int) < deepF l 100 (i : Int) then shiftD a i t :: subFrom l a f (i + 1) else []
def subD (l : List Dat) (a : Nat) : List Dat := subFrom l a l.length a
theorem subFrom_end (l : List Dat) (a f i : Nat) (h : l.length ≤ i) : subFrom l a f i = [] := by
  cases f with
  | zero => rfl
  | succ f => simp [subFrom, List.getElem?_eq_none h]
theorem subFrom_on (l : List Dat) (a f i : Nat) (h : i < l.length) (hd : i = a ∨ deepF l 100 (a : Int) < deepF l 100 (i : Int)) : subFrom l a (f + 1) i = shiftD a i l[i] :: subFrom l a f (i + 1) := by
  simp only [subFrom, List.getElem?_eq_getElem h, if_pos hd]
theorem subFrom_off (l : List Dat) (a f i : Nat) (h : i < l.length) (hd : ¬ (i = a ∨ deepF l 100 (a : Int) < deepF l 100 (i : Int))) : subFrom l a (f + 1) i = [] := by
  simp only [subFrom, List.getElem?_eq_getElem h, if_neg hd]
theorem news4 {W : World} {b : Nat} {x y z v : Value} {ty : TypeId} {fr : Nat × Nat} (h : W.heap[b]? = some (.cells #[x, y, z, v] ty fr)) : ∀ j u, [x, y, z, v][j]? = some u → W.cell? ((⟨b, 0, none⟩ : Addr).add j) = some u := by
  intro j u hj
  have ha : ∀ j, (⟨b, 0, none⟩ : Addr).add j = ⟨b, j, none⟩ := fun j => by unfold Addr.add; split <;> simp_all
  rw [ha, cell_of_row W b j _ ty fr h]
  match j, hj with
  | 0, hj => simpa using hj
  | 1, hj => simpa using hj
  | 2, hj => simpa using hj
  | 3, hj => simpa using hj
/-- Data with which nothing is wrong. -/
structure Fine (l : List Dat) : Prop where
  pos : 0 < l.length
  len : l.length ≤ 80
  ok : okUpto l l.length
theorem fine_of {l : List Dat} (h : dataFault l = 0) : Fine l := by
  unfold dataFault at h
  split at h
  · cases h
  · rename_i hn
    refine ⟨by omega, by omega, ?_⟩
    have key : ∀ k, k ≤ l.length → okUpto l k := by
      intro k
      induction k with
      | zero => intro _ j _ hj; omega
      | succ k ih =>
        intro hk
        have h1 := ih (by omega)
        refine okUpto_next h1 (by omega) ?_
        by_cases hc : chkD l k (l[k]'(by omega)) = 0
        · exact hc
        · exfalso
          rw [fault_hit l k (by omega) h1 hc] at h
          exact hc h
    exact key l.length (Nat.le_refl _)
theorem Fine.parent {l : List Dat} (h : Fine l) (j : Nat) (hj : j < l.length) : l[j].parent < (j : Int) ∧ -1 ≤ l[j].parent := chk_par (h.ok j hj hj)
theorem Fine.le {l : List Dat} (h : Fine l) (i : Nat) : ∀ (j : Nat) (hj : j < l.length), j ≤ i → l[j].parent ≤ (j : Int) := fun j hj _ => by have := (h.parent j hj).1; omega
/-- Behind an append of one datum. -/
theorem datD_next {w W w1 : World} {B g c g' c' : Nat} {l : List Dat} {t : Dat}
    (hown : W.ownsRow B 100 4 (.slice (some ⟨g, 0, none⟩) l.length c) l.length (cellsD l)) (hb : Below B w W) (hB : B ≤ W.heap.size)
    (hown' : w1.ownsRow B 100 4 (.slice (some ⟨g', 0, none⟩) (l.length + 1) c') (l.length + 1) (cellsD l ++ [.int .i64 t.kind, .int .i64 t.parent, .int .i64 t.num, .string t.name])) (hgrow : W.grownBy w1 (Value.slice (some ⟨g, 0, none⟩) l.length c).ownBlock) :
    w1.ownsRow B 100 4 (.slice (some ⟨g', 0, none⟩) (l ++ [t]).length c') (l ++ [t]).length (cellsD (l ++ [t])) ∧ Below B w w1 := by
  refine ⟨?_, hb.grown hgrow hB (fun j hj => (hown.lt j hj).1)⟩
  rw [cellsD_append, List.length_append]
  exact hown'
set_option maxRecDepth 100000 in
set_option maxHeartbeats 4000000 in
theorem l3Sub_any (g cap : Nat) (l : List Dat) (a : Nat) (w : World) (hR : RowD w g l) (hF : Fine l) (ha : a < l.length) :
    Calls Tryz.prog 103 #[.slice (some ⟨g, 0, none⟩) l.length cap, .int .i64 (a : Int)] w fun e w' => ∃ q c, e = .returned (.slice (some ⟨q, 0, none⟩) (subD l a).length c) ∧ w'.ownsRow w.heap.size 100 4 (.slice (some ⟨q, 0, none⟩) (subD l a).length c) (subD l a).length (cellsD (subD l a)) ∧ Below w.heap.size w w' := by
  have HR : Hid (RowD w g l) := hR
  have HF : Hid (Fine l) := hF
  have hlen : l.length ≤ 80 := hF.len
  obtain ⟨i0, hi, hz0, hz1, hz2⟩ := info_parts infoD
  clear hR hF
  have HD : Hid (∀ (i : Nat) (u : World), i < l.length → RowD u g l → Calls Tryz.prog 101 #[.slice (some ⟨g, 0, none⟩) l.length cap, .int .i64 (i : Int)] u fun e w' => e = .returned (.int .i64 (deepF l 100 (i : Int) : Nat)) ∧ w' = u) := fun i u hi hu => l3Deep_any g cap l u i (i : Int) hu hi (HF.out.le i) (Int.le_refl _)
  obtain ⟨dp, hdp⟩ : ∃ dp, dp = deepF l 100 (a : Int) := ⟨_, rfl⟩
  have HDa : Hid (Calls Tryz.prog 101 #[.slice (some ⟨g, 0, none⟩) l.length cap, .int .i64 (a : Int)] w fun e w' => e = .returned (.int .i64 (dp : Int)) ∧ w' = w) := by rw [hdp]; exact HD.out a w ha HR.out
  have HDP : Hid (dp = deepF l 100 (a : Int)) := hdp
  clear hdp
  go_enter Tryz.func103, Tryz.ntmps103
  go_wp2_with fail
  refine HDa.out.mono ?_
  rintro e w' ⟨rfl, hw'⟩
  replace hw' := hw'.symm
  subst hw'
  go_wp2_with fail
  go_loopw [6, 7, 8] (fun v m x wr => ∃ (i q c f : Nat) (D : List Dat), a ≤ i ∧ i ≤ l.length ∧ m = .int .i64 (i : Int) ∧ v = .slice (some ⟨q, 0, none⟩) D.length c ∧ D.length ≤ i ∧ f + i = l.length + a ∧ Hid (D ++ subFrom l a f i = subD l a) ∧ Hid (wr.ownsRow w.heap.size 100 4 (.slice (some ⟨q, 0, none⟩) D.length c) D.length (cellsD D)) ∧ Hid (Below w.heap.size w wr)) (fun _ m _ _ => l.length - (RowKit.intOf m).toNat)
  case atStart => exact ⟨a, _, _, l.length, [], Nat.le_refl _, by omega, rfl, rfl, Nat.zero_le _, rfl, rfl, World.ownsRow_made _ #[] 0 (Nat.le_refl _) (Nat.zero_le _) rfl, (Below.refl _ _).alloc (Nat.le_refl _) _⟩
  case round =>
    obtain ⟨i, q, c, f, D, hai, hil, rfl, rfl, hDi, hfi, HT, HO, HB⟩ := hrel
    have hz : w.heap.size ≤ wr.heap.size := HB.out.size
    by_cases hlt : i < l.length
    · obtain ⟨c0, c1, c2, c3⟩ := HR.out.below HB.out i hlt
      have hpl := (HF.out.parent i hlt).1
      have hpm := (HF.out.parent i hlt).2
      obtain ⟨f', rfl⟩ : ∃ f', f = f' + 1 := ⟨f - 1, by omega⟩
      by_cases hia : i = a
      · have hb : ((i : Int) == (a : Int)) = true := by rw [beq_iff_eq]; omega
        have HN : Hid ((D ++ [⟨(l[i]'hlt).kind, -1, (l[i]'hlt).num, (l[i]'hlt).name⟩]) ++ subFrom l a f' (i + 1) = subD l a) := by
          have := HT.out
          rw [subFrom_on l a f' i hlt (Or.inl hia)] at this
          show _ = _
          rw [← this]
          simp [shiftD, hia]
        clear hia
        go_wp2_with (first | (at_builtin; refine wpList_append_lies _ rfl (.tmp 45) (.tmp 47) 47 rfl w.heap.size 100 i0 _ 4 40 Tryz.underlying47 hi hz0 hz1 hz2 rfl (by decide) _ D.length (cellsD D) rfl ?c0 ⟨_, 0, none⟩ 1 1 [.int .i64 (l[i]'hlt).kind, .int .i64 (-1), .int .i64 (l[i]'hlt).num, .string (l[i]'hlt).name] rfl rfl ?c1 ?c2 (by decide) ?c3 ?c4 ?c5 _ rfl ?_))
        case c0 => exact (HO.out.alloc _).alloc _
        case c1 => exact news4 (heap_new' _ _ _ (by simp))
        case c2 => intro u hu; simp at hu; rcases hu with rfl | rfl | rfl | rfl <;> rfl
        case c3 => unfold maxLen; omega
        case c4 => omega
        case c5 => simp; omega
        intro g' cap' w1 hown1 hgrow1 _ _
        have R : Hid _ := datD_next (t := ⟨(l[i]'hlt).kind, -1, (l[i]'hlt).num, (l[i]'hlt).name⟩) ((HO.out.alloc _).alloc _) ((HB.out.alloc hz _).alloc (by simp; omega) _) (by simp; omega) hown1 hgrow1
        clear hown1 hgrow1
        go_wp2
        exact ⟨⟨i + 1, g', cap', f', D ++ [_], by omega, by omega, by go_num, by simp, by simp; omega, by omega, HN.out, R.out.1, R.out.2⟩, by simp [RowKit.intOf]; omega⟩
      · have hb : ((i : Int) == (a : Int)) = false := by rw [beq_eq_false_iff_ne]; omega
        obtain ⟨di, hdi⟩ : ∃ di, di = deepF l 100 (i : Int) := ⟨_, rfl⟩
        have HDi : Hid (Calls Tryz.prog 101 #[.slice (some ⟨g, 0, none⟩) l.length cap, .int .i64 (i : Int)] wr fun e w' => e = .returned (.int .i64 (di : Int)) ∧ w' = wr) := by rw [hdi]; exact HD.out i wr hlt (HR.out.below HB.out)
        by_cases hd : (dp : Int) < (di : Int)
        · have HN : Hid ((D ++ [⟨(l[i]'hlt).kind, (l[i]'hlt).parent - (a : Int), (l[i]'hlt).num, (l[i]'hlt).name⟩]) ++ subFrom l a f' (i + 1) = subD l a) := by
            have := HT.out
            rw [subFrom_on l a f' i hlt (Or.inr (by rw [← HDP.out, ← hdi]; omega))] at this
            show _ = _
            rw [← this]
            simp [shiftD, hia]
          clear hia hdi
          go_wp2_with (first | (go_at_call 101; refine HDi.out.mono ?_; rintro e w' ⟨rfl, hw'⟩; replace hw' := hw'.symm; subst hw') | (at_builtin; refine wpList_append_lies _ rfl (.tmp 45) (.tmp 47) 47 rfl w.heap.size 100 i0 _ 4 40 Tryz.underlying47 hi hz0 hz1 hz2 rfl (by decide) _ D.length (cellsD D) rfl ?c0 ⟨_, 0, none⟩ 1 1 [.int .i64 (l[i]'hlt).kind, .int .i64 ((l[i]'hlt).parent - (a : Int)), .int .i64 (l[i]'hlt).num, .string (l[i]'hlt).name] rfl rfl ?c1 ?c2 (by decide) ?c3 ?c4 ?c5 _ rfl ?_))
          case c0 => exact (HO.out.alloc _).alloc _
          case c1 => exact news4 (heap_new' _ _ _ (by simp))
          case c2 => intro u hu; simp at hu; rcases hu with rfl | rfl | rfl | rfl <;> rfl
          case c3 => unfold maxLen; omega
          case c4 => omega
          case c5 => simp; omega
          intro g' cap' w1 hown1 hgrow1 _ _
          have R : Hid _ := datD_next (t := ⟨(l[i]'hlt).kind, (l[i]'hlt).parent - (a : Int), (l[i]'hlt).num, (l[i]'hlt).name⟩) ((HO.out.alloc _).alloc _) ((HB.out.alloc hz _).alloc (by simp; omega) _) (by simp; omega) hown1 hgrow1
          clear hown1 hgrow1
          go_wp2
          exact ⟨⟨i + 1, g', cap', f', D ++ [_], by omega, by omega, by go_num, by simp, by simp; omega, by omega, HN.out, R.out.1, R.out.2⟩, by simp [RowKit.intOf]; omega⟩
        · have HN : Hid (D = subD l a) := by
            have := HT.out
            rw [subFrom_off l a f' i hlt (by rw [← HDP.out, ← hdi]; omega), List.append_nil] at this
            exact this
          clear hia hdi
          go_wp2_with (go_at_call 101; refine HDi.out.mono ?_; rintro e w' ⟨rfl, hw'⟩; replace hw' := hw'.symm; subst hw')
          go_ret
          rw [← HN.out]
          exact ⟨q, c, rfl, HO.out, HB.out⟩
    · have HN : Hid (D = subD l a) := by
        have := HT.out
        rw [subFrom_end l a f i (by omega), List.append_nil] at this
        exact this
      go_wp2
      go_ret
      rw [← HN.out]
      exact ⟨q, c, rfl, HO.out, HB.out⟩
/-- An answer of SubData. -/
def outS (l : List Dat) (a : Int) : List Dat := if askD l a = 0 then subD l a.toNat else []
def AnsS (l : List Dat) (a : Int) (w : World) (e : Ending) (w' : World) : Prop :=
  ∃ ao c, e = .returned (.agg #[.int .i64 (askD l a), .int .i64 0, .slice ao (outS l a).length c]) ∧ w'.ownsRow w.heap.size 100 4 (.slice ao (outS l a).length c) (outS l a).length (cellsD (outS l a)) ∧ Below w.heap.size w w'
theorem ask_zero {l : List Dat} {a : Int} (h : askD l a = 0) : Fine l ∧ 0 ≤ a ∧ a < (l.length : Int) := by
  have hd : dataFault l = 0 := by
    by_cases hd : dataFault l = 0
    · exact hd
    · simp [askD, hd] at h
  unfold askD at h
  rw [if_neg (by simpa using hd)] at h
  split at h
  · rename_i h1
    exact ⟨fine_of hd, by omega, by omega⟩
  · cases h
end Go.Proofs.YtebnonpdaddniaaGreatDoor
