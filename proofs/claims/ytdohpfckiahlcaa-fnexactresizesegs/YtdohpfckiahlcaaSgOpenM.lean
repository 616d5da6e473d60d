/-
  The model's l12Open, OpenSegs, PushSegs and ResizeSegs: their codes, and stacks in rows of their own; nothing that was there is turned.
-/
import Derived.Test.YtdohpfckiahlcaaSgPushM
import Derived.Test.YtdohpfckiahlcaaSgAns
import Derived.Test.YtdohpfckiahlcaaFacts
namespace Go.Proofs.Ytdohpfckiahlcaa
open Go.RowKit Go.Extern.Stop Go.Stop Go.Extern Num Go.Lib

def openC (size : Int) (l : List Int) : Int := if sizeB size then (if 4000 < l.length then 2 else 0) else 3
def openZ (size : Int) (l : List Int) : Int := if openC size l = 0 then size else 0
def openQ (size : Int) (l : List Int) : List (List Int) := if openC size l = 0 then openL size.toNat l else []
def pushC (size : Int) (ps : List (List Int)) : Int := if faultS size ps = 0 then (if 4000 ≤ ps.flatten.length then 2 else 0) else faultS size ps
def pushZ (size : Int) (ps : List (List Int)) : Int := if pushC size ps = 0 then size else 0
def pushQ (size : Int) (ps : List (List Int)) (item : Int) : List (List Int) := if pushC size ps = 0 then pushL size.toNat ps item else []
def resC (size : Int) (ps : List (List Int)) (n : Int) : Int := if faultS size ps = 0 then openC n ps.flatten else faultS size ps
def resZ (size : Int) (ps : List (List Int)) (n : Int) : Int := if resC size ps n = 0 then n else 0
def resQ (size : Int) (ps : List (List Int)) (n : Int) : List (List Int) := if resC size ps n = 0 then openL n.toNat ps.flatten else []
theorem small_nil : SmallS [] := ⟨by simp, by simp⟩
theorem openC_zero {size : Int} {l : List Int} (h : openC size l = 0) : 1 ≤ size ∧ size ≤ 64 ∧ l.length ≤ 4000 := by
  unfold openC at h
  by_cases h1 : sizeB size = true
  · rw [if_pos h1] at h
    by_cases h2 : 4000 < l.length
    · rw [if_pos h2] at h; cases h
    · unfold sizeB at h1
      simp only [Bool.and_eq_true, decide_eq_true_eq] at h1
      exact ⟨h1.1, h1.2, by omega⟩
  · rw [if_neg h1] at h; cases h
theorem openL_fineS {size : Int} {l : List Int} (h : openC size l = 0) : FineS size (openL size.toNat l) := by
  obtain ⟨h1, h2, h3⟩ := openC_zero h
  obtain ⟨k1, k2⟩ := openL_both size.toNat (by omega) l
  exact ⟨h1, h2, k1, by rw [k2]; exact h3⟩
theorem openQ_small (size : Int) (l : List Int) : SmallS (openQ size l) := by
  unfold openQ
  by_cases h : openC size l = 0
  · rw [if_pos h]; exact (openL_fineS h).small
  · rw [if_neg h]; exact small_nil
theorem pushC_zero {size : Int} {ps : List (List Int)} (h : pushC size ps = 0) : FineS size ps ∧ ps.flatten.length < 4000 := by
  unfold pushC at h
  by_cases h1 : faultS size ps = 0
  · rw [if_pos h1] at h
    by_cases h2 : 4000 ≤ ps.flatten.length
    · rw [if_pos h2] at h; cases h
    · exact ⟨faultS_fine h1, by omega⟩
  · rw [if_neg h1] at h; exact absurd h h1
theorem pushL_fineS {size : Int} {ps : List (List Int)} (h : pushC size ps = 0) (item : Int) : FineS size (pushL size.toNat ps item) := by
  obtain ⟨hf, hl⟩ := pushC_zero h
  have := hf.lo
  exact ⟨hf.lo, hf.hi, pushL_fine hf.parts (by omega) item, by rw [pushL_flat, List.length_append, List.length_singleton]; omega⟩
theorem pushQ_small (size : Int) (ps : List (List Int)) (item : Int) : SmallS (pushQ size ps item) := by
  unfold pushQ
  by_cases h : pushC size ps = 0
  · rw [if_pos h]; exact (pushL_fineS h item).small
  · rw [if_neg h]; exact small_nil
theorem resC_zero {size : Int} {ps : List (List Int)} {n : Int} (h : resC size ps n = 0) : FineS size ps ∧ openC n ps.flatten = 0 := by
  unfold resC at h
  by_cases h1 : faultS size ps = 0
  · rw [if_pos h1] at h; exact ⟨faultS_fine h1, h⟩
  · rw [if_neg h1] at h; exact absurd h h1
theorem resQ_small (size : Int) (ps : List (List Int)) (n : Int) : SmallS (resQ size ps n) := by
  unfold resQ
  by_cases h : resC size ps n = 0
  · rw [if_pos h]; exact (openL_fineS (resC_zero h).2).small
  · rw [if_neg h]; exact small_nil
theorem pv_nil (T : TypeId) (w : World) (B : Nat) : PV T w B (.slice none 0 0) [] := ⟨own_nil _ _ _ _, IV.nil _ _⟩
theorem map_len {P : List (List Int × Value)} {ps : List (List Int)} (h : P.map Prod.fst = ps) : P.length = ps.length := by rw [← h]; simp
theorem open_bounds {n : Nat} (hn : 1 ≤ n) {l : List Int} (hl : l.length ≤ 4000) (k : Nat) {P : List (List Int × Value)} (h : P.map Prod.fst = openL n (l.take k)) : P.length ≤ 1048576 ∧ ∀ (i : Nat) (h : i < P.length), P[i].1.length ≤ 1048576 := by
  obtain ⟨h1, h2⟩ := openL_both n hn (l.take k)
  have hfl : (openL n (l.take k)).flatten.length ≤ 4000 := by rw [h2, List.length_take]; omega
  have hF : FineS 1 ((openL n (l.take k)).flatten.map (fun x => [x])) → True := fun _ => trivial
  have hlen : (openL n (l.take k)).length ≤ (openL n (l.take k)).flatten.length := by
    have : ∀ (ps : List (List Int)), FineP n ps → ps.length ≤ ps.flatten.length := fun ps => by
      induction ps with
      | nil => intro _; simp
      | cons p r ih => intro h; have := ih h.2.2.2; have := h.1; simp only [List.length_cons, List.flatten_cons, List.length_append]; omega
    exact this _ h1
  refine ⟨by rw [map_len h]; omega, fun i hi => ?_⟩
  have hi' : i < (openL n (l.take k)).length := by rw [← map_len h]; exact hi
  have e : P[i].1 = (openL n (l.take k))[i] := by simp only [← h]; simp
  rw [e]
  have := part_le _ i hi'
  omega
set_option maxRecDepth 100000 in
set_option maxHeartbeats 1000000 in
theorem l12Open_any (size : Int) (lv : Value) (l : List Int) (w : World) (h1 : 1 ≤ size) (hl : l.length ≤ 4000) (h : SeeI w lv l) :
    Calls Try.prog 25 #[.int .i64 size, lv] w fun e w' => ∃ v P, e = .returned (segV size v) ∧ PV 54 w' w.heap.size v P ∧ P.map Prod.fst = openL size.toNat l ∧ Below w.heap.size w w' := by
  have hn : 1 ≤ size.toNat := by omega
  have HT : Hid (∀ u, Below w.heap.size w u → SeeI u lv l) := fun u hu => h.below hu
  obtain ⟨a, c, rfl, -⟩ := id h
  obtain ⟨b, hb⟩ : ∃ b, b = w.heap.size + 1 := ⟨_, rfl⟩
  obtain ⟨W, hW⟩ : ∃ W, W = (w.alloc (.cells #[.int .i64 0, .slice none 0 0] 28)).alloc (.cells #[.int .i64 size, .slice none 0 0] 28) := ⟨_, rfl⟩
  have HW : Hid (W = (w.alloc (.cells #[.int .i64 0, .slice none 0 0] 28)).alloc (.cells #[.int .i64 size, .slice none 0 0] 28)) := hW
  have HI : Hid (SgB 54 28 W b (w.heap.size + 2) size (.slice none 0 0) []) := by
    rw [hW, hb]
    have := SgB.new (T := 54) (Tb := 28) (w := w.alloc (.cells #[.int .i64 0, .slice none 0 0] 28)) (size := size) (pv_nil 54 (w.alloc (.cells #[.int .i64 0, .slice none 0 0] 28)) (w.heap.size + 2))
    have e1 : (w.alloc (.cells #[.int .i64 0, .slice none 0 0] 28)).heap.size = w.heap.size + 1 := by simp
    rw [e1] at this
    exact this
  have HWw : Hid (Below w.heap.size w W) := by rw [hW]; exact ((Below.refl _ _).alloc (Nat.le_refl _) _).alloc (by simp) _
  have hzW : W.heap.size = w.heap.size + 2 := by rw [hW]; simp
  have HzW : Hid (W.heap.size = w.heap.size + 2) := hzW
  have HR0 : Hid (W.cell? ⟨w.heap.size, 0, none⟩ = some (.int .i64 0) ∧ W.cell? ⟨w.heap.size, 1, none⟩ = some (.slice none 0 0) ∧ ∀ j, W.frozen? ⟨w.heap.size, j, none⟩ = false) := by rw [hW]; exact ⟨by simp [go_sem], by simp [go_sem], fun j => by simp [go_sem]⟩
  have HBk : Hid (∀ u, KB b (w.heap.size + 2) W u → Below w.heap.size w u ∧ u.cell? ⟨w.heap.size, 0, none⟩ = some (.int .i64 0) ∧ u.cell? ⟨w.heap.size, 1, none⟩ = some (.slice none 0 0) ∧ (∀ j, u.frozen? ⟨w.heap.size, j, none⟩ = false) ∧ w.heap.size + 2 ≤ u.heap.size) := fun u hu => by
    have h1 := hu.to (C := w.heap.size + 1) (by omega) (by omega) (by omega)
    have hlt : w.heap.size < w.heap.size + 1 := by omega
    refine ⟨HWw.out.trans (h1.mono (by omega)), ?_, ?_, fun j => ?_, by have := hu.size; omega⟩
    · rw [h1.cell (p := ⟨w.heap.size, 0, none⟩) hlt]; exact HR0.out.1
    · rw [h1.cell (p := ⟨w.heap.size, 1, none⟩) hlt]; exact HR0.out.2.1
    · rw [h1.frozen (p := ⟨w.heap.size, j, none⟩) hlt]; exact HR0.out.2.2 j
  have HPu : Hid (∀ (u : World) (v : Value) (P : List (List Int × Value)) (k : Nat) (x : Int), KB b (w.heap.size + 2) W u → P.map Prod.fst = openL size.toNat (l.take k) → SgB 54 28 u b (w.heap.size + 2) size v P → Calls Try.prog 39 #[.pointer (some ⟨b, 0, none⟩), .int .i64 x] u fun e w' => e = .returned (.tuple #[]) ∧ ∃ v' P', SgB 54 28 w' b (w.heap.size + 2) size v' P' ∧ P'.map Prod.fst = pushL size.toNat (P.map Prod.fst) x ∧ KB b (w.heap.size + 2) u w') := fun u v P k x hk hm hs => l12Push_any b _ size x v P u (HBk.out u hk).2.2.2.2 h1 (open_bounds hn hl k hm).1 (open_bounds hn hl k hm).2 hs
  have HBe : Hid (b = w.heap.size + 1) := hb
  clear h hW hzW hb
  go_enter Try.func25, Try.ntmps25
  go_wp2_with fail
  rw [← HW.out, ← HBe.out]
  clear HW
  go_loopw [6] (fun i wr => ∃ k : Nat, k ≤ l.length ∧ i = .int .i64 (k : Int) ∧ Hid (∃ v P, SgB 54 28 wr b (w.heap.size + 2) size v P ∧ P.map Prod.fst = openL size.toNat (l.take k)) ∧ Hid (KB b (w.heap.size + 2) W wr)) (fun i _ => l.length - (RowKit.intOf i).toNat)
  case atStart => exact ⟨0, Nat.zero_le _, rfl, ⟨_, _, HI.out, rfl⟩, KB.refl _ _ _⟩
  case round =>
    obtain ⟨k, hk, rfl, HX, HK⟩ := hrel
    by_cases hlt : k < l.length
    · obtain ⟨a', c', e', hc⟩ := HT.out wr (HBk.out wr HK.out).1
      obtain ⟨rfl, rfl⟩ : a = a' ∧ c = c' := by simp at e'; exact e'
      obtain ⟨g, off, rfl, h2⟩ := hc (by omega)
      have cz := h2 k hlt
      obtain ⟨v, P, hs, hm⟩ := HX.out
      have HN : Hid (openL size.toNat (l.take (k + 1)) = pushL size.toNat (P.map Prod.fst) (l[k]'hlt)) := by show _ = _; rw [hm]; exact openL_next _ l k hlt
      obtain ⟨x, hx⟩ : ∃ x, x = (l[k]'hlt) := ⟨_, rfl⟩
      rw [← hx] at cz HN
      have HC : Hid (Calls Try.prog 39 #[.pointer (some ⟨b, 0, none⟩), .int .i64 x] wr fun e w' => e = .returned (.tuple #[]) ∧ ∃ v' P', SgB 54 28 w' b (w.heap.size + 2) size v' P' ∧ P'.map Prod.fst = pushL size.toNat (P.map Prod.fst) x ∧ KB b (w.heap.size + 2) wr w') := HPu.out wr v P k x HK.out hm hs
      clear hc h2 e' hs hm hx HX
      go_wp2_with fail
      refine HC.out.mono ?_
      rintro e w1 ⟨rfl, v', P', hs', hm', hk'⟩
      have HX1 : Hid (∃ v P, SgB 54 28 w1 b (w.heap.size + 2) size v P ∧ P.map Prod.fst = openL size.toNat (l.take (k + 1))) := ⟨v', P', hs', by rw [hm', HN.out]⟩
      have HK1 : Hid (KB b (w.heap.size + 2) W w1) := HK.out.trans hk'
      clear hs' hm' hk' cz
      go_wp2
      exact ⟨⟨k + 1, by omega, by go_num, HX1.out, HK1.out⟩, by simp [RowKit.intOf]; omega⟩
    · obtain ⟨v, P, hs, hm⟩ := HX.out
      have HM : Hid (P.map Prod.fst = openL size.toNat l) := by rw [List.take_of_length_le (by omega)] at hm; exact hm
      have HV : Hid (PV 54 wr (w.heap.size + 2) v P) := hs.pv
      obtain ⟨c0, c1⟩ := hs.at
      obtain ⟨hb0, r0, r1, rf, hzr⟩ := HBk.out wr HK.out
      have HB0 : Hid (Below w.heap.size w wr) := hb0
      have hrl : w.heap.size < wr.heap.size := by omega
      obtain ⟨av, cv, rfl⟩ := hs.pv.form
      generalize P.length = m at HV c1 ⊢
      clear hs hm HX hb0
      go_wp2
      refine bodyPost_ret (v := segV size (.slice av m cv)) (by simp [results, Try.results25, go_sem, r0, r1]) rfl ⟨_, P, rfl, ?_, HM.out, ?_⟩
      · refine PV.base (B := w.heap.size + 2) ?_ (by omega)
        iterate 2 (refine PV.setLow ?_ (by omega))
        exact HV.out
      · iterate 2 (refine Below.setCell ?_ (by simp <;> omega) _)
        exact HB0.out
set_option maxHeartbeats 1000000 in
theorem specOs_any (size : Int) (lv : Value) (l : List Int) (w : World) (hl : l.length ≤ 1048576) (h : SeeI w lv l) :
    Calls Try.prog 15 #[.int .i64 size, lv] w fun e w' => AnsS (openC size l) 0 (openZ size l) (openQ size l) w e w' := by
  have HS : Hid (∀ u, Calls Try.prog 24 #[.int .i64 size] u fun e w' => e = .returned (.bool (sizeB size)) ∧ w' = u) := fun u => l12Size_any size u
  have HO : Hid (openC size l = 0 → ∀ u, Below w.heap.size w u → Calls Try.prog 25 #[.int .i64 size, lv] u fun e w' => ∃ v P, e = .returned (segV size v) ∧ PV 54 w' u.heap.size v P ∧ P.map Prod.fst = openL size.toNat l ∧ Below u.heap.size u w') := fun h0 u hu => l12Open_any size lv l u (openC_zero h0).1 (openC_zero h0).2.2 (h.below hu)
  obtain ⟨a, c, rfl, -⟩ := id h
  obtain ⟨R, hR⟩ : ∃ R, R = openC size l := ⟨_, rfl⟩
  obtain ⟨Z, hZ⟩ : ∃ Z, Z = openZ size l := ⟨_, rfl⟩
  obtain ⟨Q, hQ⟩ : ∃ Q, Q = openQ size l := ⟨_, rfl⟩
  have HZ : Hid (Z = if R = 0 then size else 0) := by show _ = _; rw [hZ, hR]; rfl
  have HQ : Hid (Q = if R = 0 then openL size.toNat l else []) := by show _ = _; rw [hQ, hR]; rfl
  have HR : Hid (R = if sizeB size then (if 4000 < l.length then 2 else 0) else 3) := by show _ = _; rw [hR]; rfl
  rw [← hR] at HO
  rw [← hR, ← hZ, ← hQ]
  clear h hR hZ hQ
  cases hz : sizeB size with
  | false =>
    rw [hz] at HS
    have e1 : R = 3 := by rw [HR.out, hz]; rfl
    have HZ0 : Hid (Z = 0) := by show _ = _; rw [HZ.out, e1]; rfl
    have HQ0 : Hid (Q = []) := by show _ = _; rw [HQ.out, e1]; rfl
    have HR3 : Hid (R = 3) := e1
    clear HR HZ HQ e1 hz HO
    go_enter Try.func15, Try.ntmps15
    go_wp2_with (go_at_call 24; refine (HS.out _).mono ?_; rintro e w' ⟨rfl, rfl⟩)
    refine bodyPost_ret (v := srV 3 0 0 (.slice none 0 0)) (by simp [results, Try.results15, go_sem]) rfl ⟨_, [], by rw [HR3.out, HZ0.out], pv_nil _ _ _, by rw [HQ0.out]; rfl, ?_⟩
    repeat (first | exact Below.refl _ _ | refine Below.setCell ?_ (by simp) _ | refine Below.alloc ?_ (by simp <;> omega) _)
  | true =>
    rw [hz] at HS
    by_cases h4 : (4000 : Int) < (l.length : Int)
    · have e1 : R = 2 := by rw [HR.out, hz]; simp; omega
      have HZ0 : Hid (Z = 0) := by show _ = _; rw [HZ.out, e1]; rfl
      have HQ0 : Hid (Q = []) := by show _ = _; rw [HQ.out, e1]; rfl
      have HR3 : Hid (R = 2) := e1
      clear HR HZ HQ e1 hz HO
      go_enter Try.func15, Try.ntmps15
      go_wp2_with (go_at_call 24; refine (HS.out _).mono ?_; rintro e w' ⟨rfl, rfl⟩)
      refine bodyPost_ret (v := srV 2 0 0 (.slice none 0 0)) (by simp [results, Try.results15, go_sem]) rfl ⟨_, [], by rw [HR3.out, HZ0.out], pv_nil _ _ _, by rw [HQ0.out]; rfl, ?_⟩
      repeat (first | exact Below.refl _ _ | refine Below.setCell ?_ (by simp) _ | refine Below.alloc ?_ (by simp <;> omega) _)
    · have e1 : R = 0 := by rw [HR.out, hz]; simp; omega
      have HZ0 : Hid (Z = size) := by show _ = _; rw [HZ.out, e1]; rfl
      have HQ0 : Hid (Q = openL size.toNat l) := by show _ = _; rw [HQ.out, e1]; rfl
      have HR3 : Hid (R = 0) := e1
      have HO2 := HO.out e1
      have HO3 : Hid (∀ u, Below w.heap.size w u → Calls Try.prog 25 #[.int .i64 size, .slice a l.length c] u fun e w' => ∃ v P, e = .returned (segV size v) ∧ PV 54 w' u.heap.size v P ∧ P.map Prod.fst = openL size.toNat l ∧ Below u.heap.size u w') := HO2
      clear HR HZ HQ e1 hz HO HO2
      go_enter Try.func15, Try.ntmps15
      go_wp2_with fail
      refine (HS.out _).mono ?_
      rintro e w1 ⟨rfl, e1⟩
      replace e1 := e1.symm
      subst e1
      go_wp2_with fail
      refine (HO3.out _ ((Below.refl _ _).alloc (Nat.le_refl _) _)).mono ?_
      rintro e w2 ⟨v, P, rfl, o2, m2, b2⟩
      obtain ⟨hc1, hf1⟩ := bcell b2
      have r0 : w2.cell? ⟨w.heap.size, 0, none⟩ = some (.int .i64 0) := by rw [hc1 _ _ (by simp)]; simp [go_sem]
      have r1 : w2.cell? ⟨w.heap.size, 1, none⟩ = some (.int .i64 0) := by rw [hc1 _ _ (by simp)]; simp [go_sem]
      have r2 : w2.cell? ⟨w.heap.size, 2, none⟩ = some (.int .i64 0) := by rw [hc1 _ _ (by simp)]; simp [go_sem]
      have r3 : w2.cell? ⟨w.heap.size, 3, none⟩ = some (.slice none 0 0) := by rw [hc1 _ _ (by simp)]; simp [go_sem]
      have rf : ∀ j, w2.frozen? ⟨w.heap.size, j, none⟩ = false := fun j => by rw [hf1 _ _ (by simp)]; simp [go_sem]
      have HV : Hid (PV 54 w2 (w.heap.size + 1) v P) := by have := o2; simp only [World.size_alloc] at this; exact this
      have HM : Hid (P.map Prod.fst = openL size.toNat l) := m2
      have HB : Hid (Below w.heap.size w w2) := ((Below.refl _ w).alloc (Nat.le_refl _) _).trans (b2.mono (by simp))
      have hrl : w.heap.size < w2.heap.size := by have := b2.size; simp at this; omega
      obtain ⟨av, cv, rfl⟩ := o2.form
      generalize P.length = m at HV ⊢
      clear o2 m2 b2 hc1 hf1
      go_wp2
      refine bodyPost_ret (v := srV 0 0 size (.slice av m cv)) (by simp [results, Try.results15, go_sem, r0, r1, r2, r3]) rfl ⟨_, P, by rw [HR3.out, HZ0.out], ?_, by rw [HQ0.out]; exact HM.out, ?_⟩
      · refine PV.base (B := w.heap.size + 1) ?_ (by omega)
        repeat (first | exact HV.out | refine PV.setLow ?_ (by omega))
      · repeat (first | exact HB.out | refine Below.setCell ?_ (by simp <;> omega) _)
end Go.Proofs.Ytdohpfckiahlcaa
