/-
  The model's l3Asked, l3Parts and PartsOf: the places of a datum's parts; nothing that was there is turned.
-/
import Derived.Test.YtoljpgpkeploiaaDoorSpecFaultD
import Derived.Test.YtoljpgpkeploiaaDoorIntRow
namespace Go.Proofs.YtoljpgpkeploiaaDoor
open Go.RowKit Go.Extern.Stop Go.Stop Go.Extern Num Go.Lib

/-- The places, below k, of the parts of a place. -/
def partsTo (l : List Dat) (a : Int) : Nat → List Int
  | 0 => []
  | k + 1 => if par l k = a then partsTo l a k ++ [(k : Int)] else partsTo l a k
def partsD (l : List Dat) (a : Int) : List Int := partsTo l a l.length
theorem partsTo_len (l : List Dat) (a : Int) (k : Nat) : (partsTo l a k).length ≤ k := by
  induction k with
  | zero => simp [partsTo]
  | succ k ih =>
    simp only [partsTo]
    split
    · rw [List.length_append]; simp; omega
    · omega
set_option maxRecDepth 100000 in
set_option maxHeartbeats 2000000 in
theorem l3Parts_any (g cap : Nat) (l : List Dat) (a : Int) (w : World) (hR : RowD w g l) (hl : l.length ≤ 1048576) :
    Calls Tryd.prog 42 #[.slice (some ⟨g, 0, none⟩) l.length cap, .int .i64 a] w fun e w' => ∃ q c, e = .returned (.slice (some ⟨q, 0, none⟩) (partsD l a).length c) ∧ w'.ownsRow w.heap.size 2 1 (.slice (some ⟨q, 0, none⟩) (partsD l a).length c) (partsD l a).length (cellsI (partsD l a)) ∧ Below w.heap.size w w' := by
  have HR : Hid (RowD w g l) := hR
  obtain ⟨i0, hi, hz0, hz1, hz2⟩ := info_parts infoI
  clear hR
  go_enter Tryd.func42, Tryd.ntmps42
  go_wp2_with fail
  go_loopw [5, 6] (fun v i wr => ∃ (k q c : Nat) (L : List Int), k ≤ l.length ∧ i = .int .i64 (k : Int) ∧ v = .slice (some ⟨q, 0, none⟩) L.length c ∧ L.length ≤ k ∧ Hid (L = partsTo l a k) ∧ Hid (wr.ownsRow w.heap.size 2 1 (.slice (some ⟨q, 0, none⟩) L.length c) L.length (cellsI L)) ∧ Hid (Below w.heap.size w wr)) (fun _ i _ => l.length - (RowKit.intOf i).toNat)
  case atStart => exact ⟨0, _, _, [], Nat.zero_le _, rfl, rfl, Nat.le_refl _, rfl, World.ownsRow_made _ #[] 0 (Nat.le_refl _) (Nat.zero_le _) rfl, (Below.refl _ _).alloc (Nat.le_refl _) _⟩
  case round =>
    obtain ⟨k, q, c, L, hk, rfl, rfl, hLk, HL, HO, HB⟩ := hrel
    have hz : w.heap.size ≤ wr.heap.size := HB.out.size
    by_cases hlt : k < l.length
    · have c1 : wr.cell? ⟨g, k * 4 + 1, none⟩ = some (.int .i64 (l[k]'hlt).parent) := (HR.out.below HB.out k hlt).2.1
      by_cases he : (l[k]'hlt).parent = a
      · have hb : ((l[k]'hlt).parent == a) = true := by simpa using he
        have HL2 : Hid (L ++ [(k : Int)] = partsTo l a (k + 1)) := by
          show _ = _
          rw [partsTo, par_at l k hlt, if_pos he, HL.out]
        clear he
        go_wp2_with (first | (at_builtin; refine wpList_append_lies _ rfl (.tmp 21) (.tmp 23) 39 rfl w.heap.size 2 i0 _ 1 8 Tryd.underlying39 hi hz0 hz1 hz2 rfl (by decide) _ L.length (cellsI L) rfl (HO.out.alloc _) ⟨_, 0, none⟩ 1 1 [.int .i64 (k : Int)] rfl rfl ?c1 ?c2 (by decide) ?c3 ?c4 ?c5 _ rfl ?_))
        case c1 => exact newsI (heap_new' _ _ _ (by simp))
        case c2 => intro u hu; simp at hu; subst hu; rfl
        case c3 => unfold maxLen; omega
        case c4 => omega
        case c5 => simp; omega
        intro g' cap' w1 hown1 hgrow1 _ _
        have HO1 : Hid (w1.ownsRow w.heap.size 2 1 (.slice (some ⟨g', 0, none⟩) (L ++ [(k : Int)]).length cap') (L ++ [(k : Int)]).length (cellsI (L ++ [(k : Int)]))) := by
          rw [cellsI_append, List.length_append]
          exact hown1
        have HB1 : Hid (Below w.heap.size w w1) := (HB.out.alloc hz _).grown hgrow1 (by simp; omega) (fun j hj => (HO.out.lt j hj).1)
        clear hown1 hgrow1
        go_wp2
        exact ⟨⟨k + 1, g', cap', L ++ [(k : Int)], by omega, by go_num, by simp, by simp; omega, HL2.out, HO1.out, HB1.out⟩, by simp [RowKit.intOf]; omega⟩
      · have hb : ((l[k]'hlt).parent == a) = false := by simpa using he
        have HL2 : Hid (L = partsTo l a (k + 1)) := by
          show _ = _
          rw [partsTo, par_at l k hlt, if_neg he, HL.out]
        clear he
        go_wp2
        exact ⟨⟨k + 1, q, c, L, by omega, by go_num, rfl, by omega, HL2.out, HO.out, HB.out⟩, by simp [RowKit.intOf]; omega⟩
    · have HF : Hid (L = partsD l a) := by
        have hkl : k = l.length := by omega
        show L = partsTo l a l.length
        rw [HL.out, hkl]
      go_wp2
      go_ret
      rw [← HF.out]
      exact ⟨q, c, rfl, HO.out, HB.out⟩
/-- What is asked ahead of a place. -/
def askD (l : List Dat) (a : Int) : Int := if dataFault l ≠ 0 then dataFault l else if 0 ≤ a ∧ a ≤ (l.length : Int) - 1 then 0 else 3
theorem l3Asked_any (ao : Option Addr) (cap base : Nat) (l : List Dat) (a : Int) (w : World) (h : w.ownsRow base 51 4 (.slice ao l.length cap) l.length (cellsD l)) (hl : l.length ≤ 1048576) (hz : ∀ (k : Nat) (h : k < l.length), l[k].name.size ≤ 9223372036854775807) :
    Calls Tryd.prog 41 #[.slice ao l.length cap, .int .i64 a] w fun e w' => e = .returned (.int .i64 (askD l a)) ∧ w' = w := by
  have HF : Hid (Calls Tryd.prog 30 #[.slice ao l.length cap] w fun e w' => e = .returned (.int .i64 (dataFault l)) ∧ w' = w) := l3Fault_any ao cap base l w h hz
  clear h hz
  by_cases hf : dataFault l = 0
  · cases hin : (decide (0 ≤ a) && decide (a ≤ (l.length : Int) - 1))
    · have e : askD l a = 3 := by
        unfold askD
        rw [if_neg (by simpa using hf), if_neg]
        intro h
        simp [h] at hin
      rw [e]
      rw [hf] at HF
      clear e hf
      go_enter Tryd.func41, Tryd.ntmps41
      go_wp2_with (first | (go_at_call 30; refine HF.out.mono ?_; rintro e w' ⟨rfl, rfl⟩) | (go_at_call 54; refine (l1In_any _ _ _ _).mono ?_; rintro e w' ⟨rfl, rfl⟩))
      go_ret
      exact ⟨rfl, rfl⟩
    · have e : askD l a = 0 := by
        unfold askD
        rw [if_neg (by simpa using hf), if_pos]
        simpa using hin
      rw [e]
      rw [hf] at HF
      clear e hf
      go_enter Tryd.func41, Tryd.ntmps41
      go_wp2_with (first | (go_at_call 30; refine HF.out.mono ?_; rintro e w' ⟨rfl, rfl⟩) | (go_at_call 54; refine (l1In_any _ _ _ _).mono ?_; rintro e w' ⟨rfl, rfl⟩))
      go_ret
      exact ⟨rfl, rfl⟩
  · have e : askD l a = dataFault l := by unfold askD; rw [if_pos hf]
    rw [e]
    have hb : (dataFault l != 0) = true := by simpa using hf
    clear e hf
    go_enter Tryd.func41, Tryd.ntmps41
    go_wp2_with (go_at_call 30; refine HF.out.mono ?_; rintro e w' ⟨rfl, rfl⟩)
    go_ret
    exact ⟨rfl, rfl⟩
/-- An answer of PartsOf. -/
def AnsP (l : List Dat) (a : Int) (w : World) (e : Ending) (w' : World) : Prop :=
  ∃ ao c, e = .returned (.agg #[.int .i64 (askD l a), .slice ao (if askD l a = 0 then partsD l a else []).length c]) ∧ w'.ownsRow w.heap.size 2 1 (.slice ao (if askD l a = 0 then partsD l a else []).length c) (if askD l a = 0 then partsD l a else []).length (cellsI (if askD l a = 0 then partsD l a else [])) ∧ Below w.heap.size w w'
theorem specParts_any (ao : Option Addr) (cap base : Nat) (l : List Dat) (a : Int) (w : World) (h : w.ownsRow base 51 4 (.slice ao l.length cap) l.length (cellsD l)) (hl : l.length ≤ 1048576) (hz : ∀ (k : Nat) (h : k < l.length), l[k].name.size ≤ 9223372036854775807) :
    Calls Tryd.prog 21 #[.slice ao l.length cap, .int .i64 a] w fun e w' => AnsP l a w e w' := by
  have HA : Hid (∀ o, Calls Tryd.prog 41 #[.slice ao l.length cap, .int .i64 a] (w.alloc o) fun e w' => e = .returned (.int .i64 (askD l a)) ∧ w' = w.alloc o) := fun o => l3Asked_any ao cap base l a (w.alloc o) (h.alloc _) hl hz
  by_cases hf : askD l a = 0
  · have hd : dataFault l = 0 := by
      by_cases hd : dataFault l = 0
      · exact hd
      · simp [askD, hd] at hf
    have hlen : 0 < l.length := by
      unfold dataFault at hd
      split at hd
      · cases hd
      · omega
    obtain ⟨g, c, hv, _, _⟩ := h.form hlen
    obtain ⟨rfl, rfl⟩ : ao = some ⟨g, 0, none⟩ ∧ cap = c := by simp at hv; exact hv
    have HP : Hid (∀ o, Calls Tryd.prog 42 #[.slice (some ⟨g, 0, none⟩) l.length cap, .int .i64 a] (w.alloc o) fun e w' => ∃ q c, e = .returned (.slice (some ⟨q, 0, none⟩) (partsD l a).length c) ∧ w'.ownsRow (w.alloc o).heap.size 2 1 (.slice (some ⟨q, 0, none⟩) (partsD l a).length c) (partsD l a).length (cellsI (partsD l a)) ∧ Below (w.alloc o).heap.size (w.alloc o) w') := fun o => l3Parts_any g cap l a (w.alloc o) (RowD.of (h.alloc _)) hl
    unfold AnsP
    rw [hf] at HA
    rw [hf, if_pos rfl]
    clear hv h hd hf hz
    generalize partsD l a = L at HP
    go_enter Tryd.func21, Tryd.ntmps21
    go_wp2_with fail
    refine (HA.out _).mono ?_
    rintro e w' ⟨rfl, rfl⟩
    go_wp2_with fail
    refine (HP.out _).mono ?_
    rintro e w1 ⟨q, c, rfl, hown, hb⟩
    have HO : Hid (World.ownsRow w1 _ 2 1 (.slice (some ⟨q, 0, none⟩) L.length c) L.length (cellsI L)) := hown
    clear hown
    obtain ⟨hc, hf⟩ := bcell hb
    go_wp2
    refine bodyPost_ret (v := .agg #[.int .i64 0, .slice (some ⟨q, 0, none⟩) L.length c]) (by simp [results, Tryd.results21, go_sem, hc]) rfl ⟨_, _, rfl, ?_, ?_⟩
    · have h1 := own_base HO.out (show w.heap.size ≤ _ by simp)
      have h2 : ∀ g, (Value.slice (some ⟨q, 0, none⟩) L.length c).ownBlock = some g → w.heap.size < g := fun g hg => by have := (HO.out.lt g hg).1; simp at this; omega
      repeat (first | exact h1 | refine own_set' ?_ (fun g hg => by have := h2 g hg; show g ≠ w.heap.size; omega) _)
    · repeat (first | exact Below.refl _ _ | refine Below.setCell ?_ (by simp) _ | refine Below.trans ?_ (hb.mono (by simp)) | refine Below.alloc ?_ (by simp <;> omega) _)
  · have hb : (askD l a != 0) = true := by simpa using hf
    unfold AnsP
    rw [if_neg hf]
    clear hf h hz
    go_enter Tryd.func21, Tryd.ntmps21
    go_wp2_with (go_at_call 41; refine (HA.out _).mono ?_; rintro e w' ⟨rfl, rfl⟩)
    refine bodyPost_ret (v := .agg #[.int .i64 (askD l a), .slice none 0 0]) (by simp [results, Tryd.results21, go_sem]) rfl ⟨none, 0, rfl, World.ownsRow_nil _ _ _ _, ?_⟩
    repeat (first | exact Below.refl _ _ | refine Below.setCell ?_ (by simp) _ | refine Below.alloc ?_ (by simp <;> omega) _)
end Go.Proofs.YtoljpgpkeploiaaDoor
