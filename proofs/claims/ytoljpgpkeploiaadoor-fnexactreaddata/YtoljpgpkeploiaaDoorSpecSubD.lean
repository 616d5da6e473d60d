/-
  The model's l3Sub and SubData: a datum with all its parts, as data by themselves; nothing that was there is turned.
-/
import Derived.Test.YtoljpgpkeploiaaDoorSpecPartsD
namespace Go.Proofs.YtoljpgpkeploiaaDoor
open Go.RowKit Go.Extern.Stop Go.Stop Go.Extern Num Go.Lib

/-- A datum as part of what is taken out at a place. -/
def shiftD (a i : Nat) (t : Dat) : Dat := ⟨t.kind, if i = a then -1 else t.parent - (a : Int), t.num, t.name⟩
/-- What is taken out, from a place on. -/
def subFrom (l : List Dat) (a : Nat) : Nat → Nat → List Dat
  | 0, _ => []
  | f + 1, i => match l[i]? with
    | none => []
    | some t => if i = a ∨ deepF l 100 (a : Int) < deepF l 100 (i : Int) then shiftD a i t :: subFrom l a f (i + 1) else []
def subD (l : List Dat) (a : Nat) : List Dat := subFrom l a l.length a
theorem subFrom_end (l : List Dat) (a f i : Nat) (h : l.length ≤ i) : subFrom l a f i = [] := by
  cases f with
  | zero => rfl
  | succ f => simp [subFrom, List.getElem?_eq_none h]
theorem subFrom_on (l : List Dat) (a f i : Nat) (h : i < l.length) (hd : i = a ∨ deepF l 100 (a : Int) < deepF l 100 (i : Int)) : subFrom l a (f + 1) i = shiftD a i l[i] :: subFrom l a f (i + 1) := by
  simp only [subFrom, List.getElem?_eq_getElem h, if_pos hd]
theorem subFrom_off (l : List Dat) (a f i : Nat) (h : i < l.length) (hd : ¬ (i = a ∨ deepF l 100 (a : Int) < deepF l 100 (i : Int))) : subFrom l a (f + 1) i = [] := by
  simp only [subFrom, List.getElem?_eq_getElem h, if_neg hd]
theorem news4 {W : World} {b : Nat} {x y z v : Value} {ty : TypeId} {fr : Nat × Nat} (h : W.heap[b]? = some (.cells #[x, y, z, v] ty fr)) : ∀ j u, [x, y, z, v][j]? = some u → W.cell? ((⟨b, 0, none⟩ : Addr).add j) = some u := by
  intro j u hj
  have ha : ∀ j, (⟨b, 0, none⟩ : Addr).add j = ⟨b, j, none⟩ := fun j => by unfold Addr.add; split <;> simp_all
  rw [ha, cell_of_row W b j _ ty fr h]
  match j, hj with
  | 0, hj => simpa using hj
  | 1, hj => simpa using hj
  | 2, hj => simpa using hj
  | 3, hj => simpa using hj
/-- Data with which nothing is wrong. -/
structure Fine (l : List Dat) : Prop where
  pos : 0 < l.length
  len : l.length ≤ 80
  ok : okUpto l l.length
theorem fine_of {l : List Dat} (h : dataFault l = 0) : Fine l := by
  unfold dataFault at h
  split at h
  · cases h
  · rename_i hn
    refine ⟨by omega, by omega, ?_⟩
    have key : ∀ k, k ≤ l.length → okUpto l k := by
      intro k
      induction k with
      | zero => intro _ j _ hj; omega
      | succ k ih =>
        intro hk
        have h1 := ih (by omega)
        refine okUpto_next h1 (by omega) ?_
        by_cases hc : chkD l k (l[k]'(by omega)) = 0
        · exact hc
        · exfalso
          rw [fault_hit l k (by omega) h1 hc] at h
          exact hc h
    exact key l.length (Nat.le_refl _)
theorem Fine.parent {l : List Dat} (h : Fine l) (j : Nat) (hj : j < l.length) : l[j].parent < (j : Int) ∧ -1 ≤ l[j].parent := chk_par (h.ok j hj hj)
theorem Fine.le {l : List Dat} (h : Fine l) (i : Nat) : ∀ (j : Nat) (hj : j < l.length), j ≤ i → l[j].parent ≤ (j : Int) := fun j hj _ => by have := (h.parent j hj).1; omega
/-- Behind an append of one datum. -/
theorem datD_next {w W w1 : World} {B g c g' c' : Nat} {l : List Dat} {t : Dat}
    (hown : W.ownsRow B 51 4 (.slice (some ⟨g, 0, none⟩) l.length c) l.length (cellsD l)) (hb : Below B w W) (hB : B ≤ W.heap.size)
    (hown' : w1.ownsRow B 51 4 (.slice (some ⟨g', 0, none⟩) (l.length + 1) c') (l.length + 1) (cellsD l ++ [.int .i64 t.kind, .int .i64 t.parent, .int .i64 t.num, .string t.name])) (hgrow : W.grownBy w1 (Value.slice (some ⟨g, 0, none⟩) l.length c).ownBlock) :
    w1.ownsRow B 51 4 (.slice (some ⟨g', 0, none⟩) (l ++ [t]).length c') (l ++ [t]).length (cellsD (l ++ [t])) ∧ Below B w w1 := by
  refine ⟨?_, hb.grown hgrow hB (fun j hj => (hown.lt j hj).1)⟩
  rw [cellsD_append, List.length_append]
  exact hown'
set_option maxRecDepth 100000 in
set_option maxHeartbeats 4000000 in
theorem l3Sub_any (g cap : Nat) (l : List Dat) (a : Nat) (w : World) (hR : RowD w g l) (hF : Fine l) (ha : a < l.length) :
    Calls Tryd.prog 50 #[.slice (some ⟨g, 0, none⟩) l.length cap, .int .i64 (a : Int)] w fun e w' => ∃ q c, e = .returned (.slice (some ⟨q, 0, none⟩) (subD l a).length c) ∧ w'.ownsRow w.heap.size 51 4 (.slice (some ⟨q, 0, none⟩) (subD l a).length c) (subD l a).length (cellsD (subD l a)) ∧ Below w.heap.size w w' := by
  have HR : Hid (RowD w g l) := hR
  have HF : Hid (Fine l) := hF
  have hlen : l.length ≤ 80 := hF.len
  obtain ⟨i0, hi, hz0, hz1, hz2⟩ := info_parts infoD
  clear hR hF
  have HD : Hid (∀ (i : Nat) (u : World), i < l.length → RowD u g l → Calls Tryd.prog 57 #[.slice (some ⟨g, 0, none⟩) l.length cap, .int .i64 (i : Int)] u fun e w' => e = .returned (.int .i64 (deepF l 100 (i : Int) : Nat)) ∧ w' = u) := fun i u hi hu => l3Deep_any g cap l u i (i : Int) hu hi (HF.out.le i) (Int.le_refl _)
  obtain ⟨dp, hdp⟩ : ∃ dp, dp = deepF l 100 (a : Int) := ⟨_, rfl⟩
  have HDa : Hid (Calls Tryd.prog 57 #[.slice (some ⟨g, 0, none⟩) l.length cap, .int .i64 (a : Int)] w fun e w' => e = .returned (.int .i64 (dp : Int)) ∧ w' = w) := by rw [hdp]; exact HD.out a w ha HR.out
  have HDP : Hid (dp = deepF l 100 (a : Int)) := hdp
  clear hdp
  go_enter Tryd.func50, Tryd.ntmps50
  go_wp2_with fail
  refine HDa.out.mono ?_
  rintro e w' ⟨rfl, hw'⟩
  replace hw' := hw'.symm
  subst hw'
  go_wp2_with fail
  go_loopw [6, 7, 8] (fun v m x wr => ∃ (i q c f : Nat) (D : List Dat), a ≤ i ∧ i ≤ l.length ∧ m = .int .i64 (i : Int) ∧ v = .slice (some ⟨q, 0, none⟩) D.length c ∧ D.length ≤ i ∧ f + i = l.length + a ∧ Hid (D ++ subFrom l a f i = subD l a) ∧ Hid (wr.ownsRow w.heap.size 51 4 (.slice (some ⟨q, 0, none⟩) D.length c) D.length (cellsD D)) ∧ Hid (Below w.heap.size w wr)) (fun _ m _ _ => l.length - (RowKit.intOf m).toNat)
  case atStart => exact ⟨a, _, _, l.length, [], Nat.le_refl _, by omega, rfl, rfl, Nat.zero_le _, rfl, rfl, World.ownsRow_made _ #[] 0 (Nat.le_refl _) (Nat.zero_le _) rfl, (Below.refl _ _).alloc (Nat.le_refl _) _⟩
  case round =>
    obtain ⟨i, q, c, f, D, hai, hil, rfl, rfl, hDi, hfi, HT, HO, HB⟩ := hrel
    have hz : w.heap.size ≤ wr.heap.size := HB.out.size
    by_cases hlt : i < l.length
    · obtain ⟨c0, c1, c2, c3⟩ := HR.out.below HB.out i hlt
      have hpl := (HF.out.parent i hlt).1
      have hpm := (HF.out.parent i hlt).2
      obtain ⟨f', rfl⟩ : ∃ f', f = f' + 1 := ⟨f - 1, by omega⟩
      by_cases hia : i = a
      · have hb : ((i : Int) == (a : Int)) = true := by rw [beq_iff_eq]; omega
        have HN : Hid ((D ++ [⟨(l[i]'hlt).kind, -1, (l[i]'hlt).num, (l[i]'hlt).name⟩]) ++ subFrom l a f' (i + 1) = subD l a) := by
          have := HT.out
          rw [subFrom_on l a f' i hlt (Or.inl hia)] at this
          show _ = _
          rw [← this]
          simp [shiftD, hia]
        clear hia
        go_wp2_with (first | (at_builtin; refine wpList_append_lies _ rfl (.tmp 45) (.tmp 47) 25 rfl w.heap.size 51 i0 _ 4 40 Tryd.underlying25 hi hz0 hz1 hz2 rfl (by decide) _ D.length (cellsD D) rfl ?c0 ⟨_, 0, none⟩ 1 1 [.int .i64 (l[i]'hlt).kind, .int .i64 (-1), .int .i64 (l[i]'hlt).num, .string (l[i]'hlt).name] rfl rfl ?c1 ?c2 (by decide) ?c3 ?c4 ?c5 _ rfl ?_))
        case c0 => exact (HO.out.alloc _).alloc _
        case c1 => exact news4 (heap_new' _ _ _ (by simp))
        case c2 => intro u hu; simp at hu; rcases hu with rfl | rfl | rfl | rfl <;> rfl
        case c3 => unfold maxLen; omega
        case c4 => omega
        case c5 => simp; omega
        intro g' cap' w1 hown1 hgrow1 _ _
        have R : Hid _ := datD_next (t := ⟨(l[i]'hlt).kind, -1, (l[i]'hlt).num, (l[i]'hlt).name⟩) ((HO.out.alloc _).alloc _) ((HB.out.alloc hz _).alloc (by simp; omega) _) (by simp; omega) hown1 hgrow1
        clear hown1 hgrow1
        go_wp2
        exact ⟨⟨i + 1, g', cap', f', D ++ [_], by omega, by omega, by go_num, by simp, by simp; omega, by omega, HN.out, R.out.1, R.out.2⟩, by simp [RowKit.intOf]; omega⟩
      · have hb : ((i : Int) == (a : Int)) = false := by rw [beq_eq_false_iff_ne]; omega
        obtain ⟨di, hdi⟩ : ∃ di, di = deepF l 100 (i : Int) := ⟨_, rfl⟩
        have HDi : Hid (Calls Tryd.prog 57 #[.slice (some ⟨g, 0, none⟩) l.length cap, .int .i64 (i : Int)] wr fun e w' => e = .returned (.int .i64 (di : Int)) ∧ w' = wr) := by rw [hdi]; exact HD.out i wr hlt (HR.out.below HB.out)
        by_cases hd : (dp : Int) < (di : Int)
        · have HN : Hid ((D ++ [⟨(l[i]'hlt).kind, (l[i]'hlt).parent - (a : Int), (l[i]'hlt).num, (l[i]'hlt).name⟩]) ++ subFrom l a f' (i + 1) = subD l a) := by
            have := HT.out
            rw [subFrom_on l a f' i hlt (Or.inr (by rw [← HDP.out, ← hdi]; omega))] at this
            show _ = _
            rw [← this]
            simp [shiftD, hia]
          clear hia hdi
          go_wp2_with (first | (go_at_call 57; refine HDi.out.mono ?_; rintro e w' ⟨rfl, hw'⟩; replace hw' := hw'.symm; subst hw') | (at_builtin; refine wpList_append_lies _ rfl (.tmp 45) (.tmp 47) 25 rfl w.heap.size 51 i0 _ 4 40 Tryd.underlying25 hi hz0 hz1 hz2 rfl (by decide) _ D.length (cellsD D) rfl ?c0 ⟨_, 0, none⟩ 1 1 [.int .i64 (l[i]'hlt).kind, .int .i64 ((l[i]'hlt).parent - (a : Int)), .int .i64 (l[i]'hlt).num, .string (l[i]'hlt).name] rfl rfl ?c1 ?c2 (by decide) ?c3 ?c4 ?c5 _ rfl ?_))
          case c0 => exact (HO.out.alloc _).alloc _
          case c1 => exact news4 (heap_new' _ _ _ (by simp))
          case c2 => intro u hu; simp at hu; rcases hu with rfl | rfl | rfl | rfl <;> rfl
          case c3 => unfold maxLen; omega
          case c4 => omega
          case c5 => simp; omega
          intro g' cap' w1 hown1 hgrow1 _ _
          have R : Hid _ := datD_next (t := ⟨(l[i]'hlt).kind, (l[i]'hlt).parent - (a : Int), (l[i]'hlt).num, (l[i]'hlt).name⟩) ((HO.out.alloc _).alloc _) ((HB.out.alloc hz _).alloc (by simp; omega) _) (by simp; omega) hown1 hgrow1
          clear hown1 hgrow1
          go_wp2
          exact ⟨⟨i + 1, g', cap', f', D ++ [_], by omega, by omega, by go_num, by simp, by simp; omega, by omega, HN.out, R.out.1, R.out.2⟩, by simp [RowKit.intOf]; omega⟩
        · have HN : Hid (D = subD l a) := by
            have := HT.out
            rw [subFrom_off l a f' i hlt (by rw [← HDP.out, ← hdi]; omega), List.append_nil] at this
            exact this
          clear hia hdi
          go_wp2_with (go_at_call 57; refine HDi.out.mono ?_; rintro e w' ⟨rfl, hw'⟩; replace hw' := hw'.symm; subst hw')
          go_ret
          rw [← HN.out]
          exact ⟨q, c, rfl, HO.out, HB.out⟩
    · have HN : Hid (D = subD l a) := by
        have := HT.out
        rw [subFrom_end l a f i (by omega), List.append_nil] at this
        exact this
      go_wp2
      go_ret
      rw [← HN.out]
      exact ⟨q, c, rfl, HO.out, HB.out⟩
/-- An answer of SubData. -/
def outS (l : List Dat) (a : Int) : List Dat := if askD l a = 0 then subD l a.toNat else []
def AnsS (l : List Dat) (a : Int) (w : World) (e : Ending) (w' : World) : Prop :=
  ∃ ao c, e = .returned (.agg #[.int .i64 (askD l a), .int .i64 0, .slice ao (outS l a).length c]) ∧ w'.ownsRow w.heap.size 51 4 (.slice ao (outS l a).length c) (outS l a).length (cellsD (outS l a)) ∧ Below w.heap.size w w'
theorem ask_zero {l : List Dat} {a : Int} (h : askD l a = 0) : Fine l ∧ 0 ≤ a ∧ a < (l.length : Int) := by
  have hd : dataFault l = 0 := by
    by_cases hd : dataFault l = 0
    · exact hd
    · simp [askD, hd] at h
  unfold askD at h
  rw [if_neg (by simpa using hd)] at h
  split at h
  · rename_i h1
    exact ⟨fine_of hd, by omega, by omega⟩
  · cases h
theorem specSub_any (ao : Option Addr) (cap base : Nat) (l : List Dat) (a : Int) (w : World) (h : w.ownsRow base 51 4 (.slice ao l.length cap) l.length (cellsD l)) (hl : l.length ≤ 1048576) (hz : ∀ (k : Nat) (h : k < l.length), l[k].name.size ≤ 9223372036854775807) :
    Calls Tryd.prog 27 #[.slice ao l.length cap, .int .i64 a] w fun e w' => AnsS l a w e w' := by
  have HA : Hid (∀ o, Calls Tryd.prog 41 #[.slice ao l.length cap, .int .i64 a] (w.alloc o) fun e w' => e = .returned (.int .i64 (askD l a)) ∧ w' = w.alloc o) := fun o => l3Asked_any ao cap base l a (w.alloc o) (h.alloc _) hl hz
  by_cases hf : askD l a = 0
  · obtain ⟨hfi, ha0, ha1⟩ := ask_zero hf
    obtain ⟨g, c, hv, _, _⟩ := h.form hfi.pos
    obtain ⟨rfl, rfl⟩ : ao = some ⟨g, 0, none⟩ ∧ cap = c := by simp at hv; exact hv
    obtain ⟨k, rfl⟩ := Int.eq_ofNat_of_zero_le ha0
    have HP : Hid (∀ o, Calls Tryd.prog 50 #[.slice (some ⟨g, 0, none⟩) l.length cap, .int .i64 (k : Int)] (w.alloc o) fun e w' => ∃ q c, e = .returned (.slice (some ⟨q, 0, none⟩) (subD l k).length c) ∧ w'.ownsRow (w.alloc o).heap.size 51 4 (.slice (some ⟨q, 0, none⟩) (subD l k).length c) (subD l k).length (cellsD (subD l k)) ∧ Below (w.alloc o).heap.size (w.alloc o) w') := fun o => l3Sub_any g cap l k (w.alloc o) (RowD.of (h.alloc _)) hfi (by omega)
    have ho : outS l (k : Int) = subD l k := by simp [outS, hf]
    unfold AnsS
    rw [hf] at HA
    rw [hf, ho]
    clear hv h hf hz ho hfi
    generalize subD l k = L at HP
    go_enter Tryd.func27, Tryd.ntmps27
    go_wp2_with fail
    refine (HA.out _).mono ?_
    rintro e w' ⟨rfl, rfl⟩
    go_wp2_with fail
    refine (HP.out _).mono ?_
    rintro e w1 ⟨q, c, rfl, hown, hb⟩
    have HO : Hid (World.ownsRow w1 _ 51 4 (.slice (some ⟨q, 0, none⟩) L.length c) L.length (cellsD L)) := hown
    clear hown
    obtain ⟨hc, hf⟩ := bcell hb
    go_wp2
    refine bodyPost_ret (v := .agg #[.int .i64 0, .int .i64 0, .slice (some ⟨q, 0, none⟩) L.length c]) (by simp [results, Tryd.results27, go_sem, hc]) rfl ⟨_, _, rfl, ?_, ?_⟩
    · have h1 := own_base HO.out (show w.heap.size ≤ _ by simp)
      have h2 : ∀ g, (Value.slice (some ⟨q, 0, none⟩) L.length c).ownBlock = some g → w.heap.size < g := fun g hg => by have := (HO.out.lt g hg).1; simp at this; omega
      repeat (first | exact h1 | refine own_set' ?_ (fun g hg => by have := h2 g hg; show g ≠ w.heap.size; omega) _)
    · repeat (first | exact Below.refl _ _ | refine Below.setCell ?_ (by simp) _ | refine Below.trans ?_ (hb.mono (by simp)) | refine Below.alloc ?_ (by simp <;> omega) _)
  · have hb : (askD l a != 0) = true := by simpa using hf
    have ho : outS l a = [] := by simp [outS, hf]
    unfold AnsS
    rw [ho]
    clear hf h hz ho
    go_enter Tryd.func27, Tryd.ntmps27
    go_wp2_with (go_at_call 41; refine (HA.out _).mono ?_; rintro e w' ⟨rfl, rfl⟩)
    refine bodyPost_ret (v := .agg #[.int .i64 (askD l a), .int .i64 0, .slice none 0 0]) (by simp [results, Tryd.results27, go_sem]) rfl ⟨none, 0, rfl, World.ownsRow_nil _ _ _ _, ?_⟩
    repeat (first | exact Below.refl _ _ | refine Below.setCell ?_ (by simp) _ | refine Below.alloc ?_ (by simp <;> omega) _)
end Go.Proofs.YtoljpgpkeploiaaDoor
