/-
  The program's ParseConfig: of a text that is a setting's the setting, of every other one the code; nothing that was there is turned.
-/
import Derived.Test.YtebnonpdaddniaaGreatDoorConfT
import Derived.Test.YtebnonpdaddniaaGreatDoorParse
import Derived.Test.YtebnonpdaddniaaGreatDoorShelfSplit
import Derived.Deep.CutRange
namespace Go.Proofs.YtebnonpdaddniaaGreatDoor
open Go.RowKit Go.Extern.Stop Go.Stop Go.Extern Num Go.Lib

/-- What ParseConfig answers, by a text. -/
def AnsP (x : List UInt8) (k s t : Int) (p c : Bool) : Prop := (k = 0 ∧ 0 ≤ s ∧ 0 ≤ t ∧ isCfg x s.toNat t.toNat p c) ∨ (k = 5 ∧ s = 0 ∧ t = 0 ∧ p = false ∧ c = false ∧ ∀ s t p c, ¬ isCfg x s t p c)
theorem ansP_ex (x : List UInt8) : ∃ k s t p c, AnsP x k s t p c := by
  by_cases h : ∃ s t p c, isCfg x s t p c
  · obtain ⟨s, t, p, c, h⟩ := h
    exact ⟨0, s, t, p, c, .inl ⟨rfl, by omega, by omega, h⟩⟩
  · exact ⟨5, 0, 0, false, false, .inr ⟨rfl, rfl, rfl, rfl, rfl, fun s t p c hh => h ⟨s, t, p, c, hh⟩⟩⟩
theorem ansP_some {x : List UInt8} {k s t : Int} {p c : Bool} (h : AnsP x k s t p c) {s' t' : Nat} {p' c' : Bool} (h' : isCfg x s' t' p' c') : k = 0 ∧ s = s' ∧ t = t' ∧ p = p' ∧ c = c' := by
  rcases h with ⟨rfl, h0, h1, h⟩ | ⟨_, _, _, _, _, h⟩
  · obtain ⟨a, b, rfl, rfl⟩ := isCfg_inj h h'
    exact ⟨rfl, by omega, by omega, rfl, rfl⟩
  · exact absurd h' (h _ _ _ _)
theorem ansP_none {x : List UInt8} {k s t : Int} {p c : Bool} (h : AnsP x k s t p c) (h' : ∀ s t p c, ¬ isCfg x s t p c) : k = 5 ∧ s = 0 ∧ t = 0 ∧ p = false ∧ c = false := by
  rcases h with ⟨rfl, h0, h1, h⟩ | ⟨a, b, c, d, e, _⟩
  · exact absurd h (h' _ _ _ _)
  · exact ⟨a, b, c, d, e⟩
/-- What ParseNum answers, by a text. -/
def PNum (s : ByteArray) (k v : Int) : Prop := (inB v = true ∧ itoa v = s.data.toList ∧ k = 0) ∨ ((∀ v, inB v = true → itoa v ≠ s.data.toList) ∧ k = 5 ∧ v = 0)
theorem pnum_ex (s : ByteArray) : ∃ k v, PNum s k v := by
  by_cases h : ∃ v, inB v = true ∧ itoa v = s.data.toList
  · obtain ⟨v, h1, h2⟩ := h
    exact ⟨0, v, .inl ⟨h1, h2, rfl⟩⟩
  · exact ⟨5, 0, .inr ⟨fun v h1 h2 => h ⟨v, h1, h2⟩, rfl, rfl⟩⟩
theorem pnum_any {s : ByteArray} {k v : Int} (h : PNum s k v) (w : World) (hs : s.size ≤ 9223372036854775807) (hL : LW w) :
    Calls Tryz.prog 81 #[.string s] w fun e w' => e = .returned (.agg #[.int .i64 k, .int .i64 v]) ∧ Below w.heap.size w w' := by
  rcases h with ⟨h1, h2, rfl⟩ | ⟨h1, rfl, rfl⟩
  · exact implParse_good s w v h1 h2 hL
  · exact implParse_bad s w hs h1 hL
theorem pnum_dig {s : ByteArray} {k v : Int} (h : PNum s k v) {n : Nat} (hn : n ≤ 64) (e : s.data.toList = decDigits n) : v = n := by
  have e2 : itoa (n : Int) = s.data.toList := by rw [e]; exact itoa_nonneg n
  have e3 : inB (n : Int) = true := by unfold inB; simp; omega
  rcases h with ⟨h1, h2, rfl⟩ | ⟨h1, -, -⟩
  · exact itoa_inj (h2.trans e2.symm)
  · exact absurd e2 (h1 _ e3)
/-- The words of a text. -/
def wordsP (x : ByteArray) : List ByteArray := Lib.splitB ⟨#[32]⟩ 0 (min 7 (x.size + 1) - 1) x
theorem words_cfg {x : ByteArray} {s t : Nat} {p c : Bool} (h : isCfg x.data.toList s t p c) : (wordsP x).map (·.data.toList) = [wSeg, decDigits s, wTab, decDigits t, wP p, wC c] := by
  obtain ⟨h1, h2, h3, h4⟩ := h
  have hl := cfg_len s t p c
  rw [h4] at hl
  have hsz : 17 ≤ x.size := by rw [Lib.size_eq]; exact hl
  unfold wordsP
  rw [show min 7 (x.size + 1) - 1 = 6 by omega, splitB_data]
  show splitK [32] 0 6 _ = _
  rw [← h4]
  exact cfg_split p c (by omega) (by omega)
theorem six_of {l : List ByteArray} (h : l.length = 6) : ∃ a0 a1 a2 a3 a4 a5, l = [a0, a1, a2, a3, a4, a5] := by
  match l, h with
  | [a0, a1, a2, a3, a4, a5], _ => exact ⟨a0, a1, a2, a3, a4, a5, rfl⟩
theorem eqB_list {a b : ByteArray} (h : a.data.toList = b.data.toList) : a = b := by
  cases a; cases b; simp at h; simp [h]
theorem word_p {a : ByteArray} {p : Bool} (h : a.data.toList = wP p) : (a.toList == [112, 101, 101, 112]) = p := by
  rw [Lib.toList_data, h]
  cases p <;> rfl
theorem word_c {a : ByteArray} {p : Bool} (h : a.data.toList = wC p) : (a.toList == [99, 97, 99, 104, 101]) = p := by
  rw [Lib.toList_data, h]
  cases p <;> rfl
theorem splitB_size (sep : ByteArray) (n : Nat) : ∀ (k : Nat) (s : ByteArray), s.size ≤ n → ∀ a ∈ Lib.splitB sep 0 k s, a.size ≤ n
  | 0, s, h, a, ha => by rw [Lib.splitB_zero] at ha; simp at ha; rw [ha]; exact h
  | k + 1, s, h, a, ha => by
    unfold Lib.splitB at ha
    split at ha
    · simp at ha; rw [ha]; exact h
    · rcases List.mem_cons.1 ha with e | e
      · rw [e, ByteArray.size_extract]; omega
      · exact splitB_size sep n k _ (by rw [ByteArray.size_extract]; omega) a e
set_option maxRecDepth 100000 in
set_option maxHeartbeats 1500000 in
theorem readCf_any (g cap : Nat) (a1 a3 a4 a5 : ByteArray) (k1 n1 k3 n3 : Int) (w : World) (h1 : PNum a1 k1 n1) (h3 : PNum a3 k3 n3) (hs1 : a1.size ≤ 1048576) (hs3 : a3.size ≤ 1048576) (hL : LW w)
    (hc : w.cell? ⟨g, 1, none⟩ = some (.string a1) ∧ w.cell? ⟨g, 3, none⟩ = some (.string a3) ∧ w.cell? ⟨g, 4, none⟩ = some (.string a4) ∧ w.cell? ⟨g, 5, none⟩ = some (.string a5)) :
    Calls Tryz.prog 45 #[.slice (some ⟨g, 0, none⟩) 6 cap] w fun e w' => e = .returned (cfV n1 n3 (a4.toList == [112, 101, 101, 112]) (a5.toList == [99, 97, 99, 104, 101])) ∧ Below w.heap.size w w' := by
  obtain ⟨W, hW⟩ : ∃ W, W = w.alloc (.cells #[.int .i64 0, .int .i64 0, .bool false, .bool false] 26) := ⟨_, rfl⟩
  have HW : Hid (W = w.alloc (.cells #[.int .i64 0, .int .i64 0, .bool false, .bool false] 26)) := hW
  have hb0 : Below w.heap.size w W := by rw [hW]; exact bnewC _ _
  have hr := box4 w 0 0 false false 26
  rw [← hW] at hr
  have rf : ∀ j, W.frozen? ⟨w.heap.size, j, none⟩ = false := fun j => by rw [hW]; simp [go_sem]
  have rl : w.heap.size < W.heap.size := by rw [hW]; simp
  have HR : Hid (∀ u, Below W.heap.size W u → u.cell? ⟨w.heap.size, 0, none⟩ = some (.int .i64 0) ∧ u.cell? ⟨w.heap.size, 1, none⟩ = some (.int .i64 0) ∧ u.cell? ⟨w.heap.size, 2, none⟩ = some (.bool false) ∧ u.cell? ⟨w.heap.size, 3, none⟩ = some (.bool false) ∧ (∀ j, u.frozen? ⟨w.heap.size, j, none⟩ = false) ∧ w.heap.size < u.heap.size) := fun u hu => ⟨cell_keep hu hr.1, cell_keep hu hr.2.1, cell_keep hu hr.2.2.1, cell_keep hu hr.2.2.2, fun j => by rw [(bcell hu).2 _ _ rl]; exact rf j, Nat.lt_of_lt_of_le rl hu.size⟩
  have HBw : Hid (∀ u, Below W.heap.size W u → Below w.heap.size w u) := fun u hu => hb0.trans (hu.mono hb0.size)
  have HC : Hid (∀ u, Below W.heap.size W u → u.cell? ⟨g, 1, none⟩ = some (.string a1) ∧ u.cell? ⟨g, 3, none⟩ = some (.string a3) ∧ u.cell? ⟨g, 4, none⟩ = some (.string a4) ∧ u.cell? ⟨g, 5, none⟩ = some (.string a5)) := fun u hu => by
    have hu' := HBw.out u hu
    exact ⟨cell_keep hu' hc.1, cell_keep hu' hc.2.1, cell_keep hu' hc.2.2.1, cell_keep hu' hc.2.2.2⟩
  have HP1 : Hid (∀ u, Below W.heap.size W u → Calls Tryz.prog 81 #[.string a1] u fun e w' => e = .returned (.agg #[.int .i64 k1, .int .i64 n1]) ∧ Below u.heap.size u w') := fun u hu => pnum_any h1 u (by omega) (hL.below (HBw.out u hu))
  have HP3 : Hid (∀ u, Below W.heap.size W u → Calls Tryz.prog 81 #[.string a3] u fun e w' => e = .returned (.agg #[.int .i64 k3, .int .i64 n3]) ∧ Below u.heap.size u w') := fun u hu => pnum_any h3 u (by omega) (hL.below (HBw.out u hu))
  have HF : Hid (∀ (k v : Int) (u : World), (Instr.field 130 (.agg #[.int .i64 k, .int .i64 v]) 1).run Tryz.prog u = .ok (.int .i64 v) u) := fun k v u => by kernel_rfl
  obtain ⟨P4, hP4⟩ : ∃ P4, P4 = (a4.toList == [112, 101, 101, 112]) := ⟨_, rfl⟩
  obtain ⟨P5, hP5⟩ : ∃ P5, P5 = (a5.toList == [99, 97, 99, 104, 101]) := ⟨_, rfl⟩
  have HP4 : Hid (P4 = (a4.toList == [112, 101, 101, 112])) := hP4
  have HP5 : Hid (P5 = (a5.toList == [99, 97, 99, 104, 101])) := hP5
  rw [← hP4, ← hP5]
  clear hW hb0 hr rf rl hc h1 h3 hs1 hs3 hL hP4 hP5
  go_enter Tryz.func45, Tryz.ntmps45
  go_wp2_with fail
  rw [← HW.out]
  clear HW
  refine wp_region_facts (by kernel_rfl) 19 (fun v => Below W.heap.size W v) (fun u v => Below u.heap.size u v) (fun i v u => match i with | 0 => (fun v u => v = .slice (some ⟨g, 0, none⟩) 6 cap) v u | 1 => (fun v u => v = .pointer (some ⟨g, 1, none⟩)) v u | 2 => (fun v u => v = .string a1) v u | 3 => (fun v u => v = .agg #[.int .i64 k1, .int .i64 n1]) v u | 4 => (fun v u => v = .int .i64 n1) v u | 5 => (fun v u => v = .slice (some ⟨g, 0, none⟩) 6 cap) v u | 6 => (fun v u => v = .pointer (some ⟨g, 3, none⟩)) v u | 7 => (fun v u => v = .string a3) v u | 8 => (fun v u => v = .agg #[.int .i64 k3, .int .i64 n3]) v u | 9 => (fun v u => v = .int .i64 n3) v u | 10 => (fun v u => v = .slice (some ⟨g, 0, none⟩) 6 cap) v u | 11 => (fun v u => v = .pointer (some ⟨g, 4, none⟩)) v u | 12 => (fun v u => v = .string a4) v u | 13 => (fun v u => v = .bool P4) v u | 14 => (fun v u => v = .slice (some ⟨g, 0, none⟩) 6 cap) v u | 15 => (fun v u => v = .pointer (some ⟨g, 5, none⟩)) v u | 16 => (fun v u => v = .string a5) v u | 17 => (fun v u => v = .bool P5) v u | 18 => (fun v u => v = cfV n1 n3 P4 P5) v u | _ => True) (by kernel_rfl) [0, 1, 2, 3, 4, 5, 6, 7, 8, 9, 10, 11, 12, 13, 14, 15, 16, 17, 18] (by kernel_rfl) ?b0 ?bk ?fk ⟨?s0, ?s1, ?s2, ?s3, ?s4, ?s5, ?s6, ?s7, ?s8, ?s9, ?s10, ?s11, ?s12, ?s13, ?s14, ?s15, ?s16, ?s17, ?s18, trivial⟩ _ rfl [(0, some 3), (1, some 4), (2, some 5), (3, some 6), (4, some 7), (5, some 8), (6, some 9), (7, some 10), (8, some 11), (9, some 12), (10, some 13), (11, some 14), (12, some 15), (13, some 16), (14, some 17), (15, some 18), (16, some 19), (17, some 20), (18, some 21)] (by kernel_rfl) ?last
  case b0 => exact Below.drew (Below.refl _ _)
  case bk => exact fun u v h hb => h.trans (hb.mono h.size)
  case fk => intro i v u u' h hb; match i, h with | 0, h => exact (h) | 1, h => exact (h) | 2, h => exact (h) | 3, h => exact (h) | 4, h => exact (h) | 5, h => exact (h) | 6, h => exact (h) | 7, h => exact (h) | 8, h => exact (h) | 9, h => exact (h) | 10, h => exact (h) | 11, h => exact (h) | 12, h => exact (h) | 13, h => exact (h) | 14, h => exact (h) | 15, h => exact (h) | 16, h => exact (h) | 17, h => exact (h) | 18, h => exact (h) | _ + 19, _ => exact trivial
  case s0 =>
    refine StepF.of rfl [] (by kernel_rfl) ?_
    intro vs u hB hf K hK
    clear hf
    simp only [putsA, List.foldl_nil, Act.put, List.setIfInBounds_toArray] at hK ⊢
    rw [if_pos (by rfl)]
    go_simp
    exact hK.out _ _ (Below.refl _ _) rfl
  case s1 =>
    refine StepF.of rfl [(0, some 3)] (by kernel_rfl) ?_
    intro vs u hB hf K hK
    have f0 : (fun v u => v = .slice (some ⟨g, 0, none⟩) 6 cap) (vs 0) u := hf.1
    clear hf
    simp only [putsA, List.foldl_cons, List.foldl_nil, Act.put, List.setIfInBounds_toArray, List.set_cons_zero, List.set_cons_succ] at hK ⊢
    generalize vs 0 = v0 at f0 hK ⊢
    rw [if_pos (by rfl)]
    subst f0
    go_simp
    exact hK.out _ _ (Below.refl _ _) rfl
  case s2 =>
    refine StepF.of rfl [(1, some 4)] (by kernel_rfl) ?_
    intro vs u hB hf K hK
    have f1 : (fun v u => v = .pointer (some ⟨g, 1, none⟩)) (vs 1) u := hf.1
    clear hf
    simp only [putsA, List.foldl_cons, List.foldl_nil, Act.put, List.setIfInBounds_toArray, List.set_cons_zero, List.set_cons_succ] at hK ⊢
    generalize vs 1 = v1 at f1 hK ⊢
    rw [if_pos (by rfl)]
    subst f1
    have c0 := (HC.out u hB).1
    go_simp
    exact hK.out _ _ (Below.refl _ _) rfl
  case s3 =>
    refine StepF.of rfl [(2, some 5)] (by kernel_rfl) ?_
    intro vs u hB hf K hK
    have f2 : (fun v u => v = .string a1) (vs 2) u := hf.1
    clear hf
    simp only [putsA, List.foldl_cons, List.foldl_nil, Act.put, List.setIfInBounds_toArray, List.set_cons_zero, List.set_cons_succ] at hK ⊢
    generalize vs 2 = v2 at f2 hK ⊢
    rw [if_pos (by rfl)]
    subst f2
    go_simp
    refine (HP1.out u hB).mono ?_
    rintro e w4 ⟨rfl, b4⟩
    exact hK.out _ _ b4 rfl
  case s4 =>
    refine StepF.of rfl [(3, some 6)] (by kernel_rfl) ?_
    intro vs u hB hf K hK
    have f3 : (fun v u => v = .agg #[.int .i64 k1, .int .i64 n1]) (vs 3) u := hf.1
    clear hf
    simp only [putsA, List.foldl_cons, List.foldl_nil, Act.put, List.setIfInBounds_toArray, List.set_cons_zero, List.set_cons_succ] at hK ⊢
    generalize vs 3 = v3 at f3 hK ⊢
    rw [if_pos (by rfl)]
    subst f3
    have hf1 := HF.out k1 n1 u
    go_simp
    exact hK.out _ _ (Below.refl _ _) rfl
  case s5 =>
    refine StepF.of rfl [] (by kernel_rfl) ?_
    intro vs u hB hf K hK
    clear hf
    simp only [putsA, List.foldl_nil, Act.put, List.setIfInBounds_toArray] at hK ⊢
    rw [if_pos (by rfl)]
    go_simp
    exact hK.out _ _ (Below.refl _ _) rfl
  case s6 =>
    refine StepF.of rfl [(5, some 8)] (by kernel_rfl) ?_
    intro vs u hB hf K hK
    have f5 : (fun v u => v = .slice (some ⟨g, 0, none⟩) 6 cap) (vs 5) u := hf.1
    clear hf
    simp only [putsA, List.foldl_cons, List.foldl_nil, Act.put, List.setIfInBounds_toArray, List.set_cons_zero, List.set_cons_succ] at hK ⊢
    generalize vs 5 = v5 at f5 hK ⊢
    rw [if_pos (by rfl)]
    subst f5
    go_simp
    exact hK.out _ _ (Below.refl _ _) rfl
  case s7 =>
    refine StepF.of rfl [(6, some 9)] (by kernel_rfl) ?_
    intro vs u hB hf K hK
    have f6 : (fun v u => v = .pointer (some ⟨g, 3, none⟩)) (vs 6) u := hf.1
    clear hf
    simp only [putsA, List.foldl_cons, List.foldl_nil, Act.put, List.setIfInBounds_toArray, List.set_cons_zero, List.set_cons_succ] at hK ⊢
    generalize vs 6 = v6 at f6 hK ⊢
    rw [if_pos (by rfl)]
    subst f6
    have c0 := (HC.out u hB).2.1
    go_simp
    exact hK.out _ _ (Below.refl _ _) rfl
  case s8 =>
    refine StepF.of rfl [(3, some 6), (7, some 10)] (by kernel_rfl) ?_
    intro vs u hB hf K hK
    have f3 : (fun v u => v = .agg #[.int .i64 k1, .int .i64 n1]) (vs 3) u := hf.1
    have f7 : (fun v u => v = .string a3) (vs 7) u := hf.2.1
    clear hf
    simp only [putsA, List.foldl_cons, List.foldl_nil, Act.put, List.setIfInBounds_toArray, List.set_cons_zero, List.set_cons_succ] at hK ⊢
    generalize vs 3 = v3 at f3 hK ⊢
    generalize vs 7 = v7 at f7 hK ⊢
    rw [if_pos (by rfl)]
    subst f7
    clear f3
    go_simp
    refine (HP3.out u hB).mono ?_
    rintro e w4 ⟨rfl, b4⟩
    exact hK.out _ _ b4 rfl
  case s9 =>
    refine StepF.of rfl [(8, some 11)] (by kernel_rfl) ?_
    intro vs u hB hf K hK
    have f8 : (fun v u => v = .agg #[.int .i64 k3, .int .i64 n3]) (vs 8) u := hf.1
    clear hf
    simp only [putsA, List.foldl_cons, List.foldl_nil, Act.put, List.setIfInBounds_toArray, List.set_cons_zero, List.set_cons_succ] at hK ⊢
    generalize vs 8 = v8 at f8 hK ⊢
    rw [if_pos (by rfl)]
    subst f8
    have hf1 := HF.out k3 n3 u
    go_simp
    exact hK.out _ _ (Below.refl _ _) rfl
  case s10 =>
    refine StepF.of rfl [] (by kernel_rfl) ?_
    intro vs u hB hf K hK
    clear hf
    simp only [putsA, List.foldl_nil, Act.put, List.setIfInBounds_toArray] at hK ⊢
    rw [if_pos (by rfl)]
    go_simp
    exact hK.out _ _ (Below.refl _ _) rfl
  case s11 =>
    refine StepF.of rfl [(10, some 13)] (by kernel_rfl) ?_
    intro vs u hB hf K hK
    have f10 : (fun v u => v = .slice (some ⟨g, 0, none⟩) 6 cap) (vs 10) u := hf.1
    clear hf
    simp only [putsA, List.foldl_cons, List.foldl_nil, Act.put, List.setIfInBounds_toArray, List.set_cons_zero, List.set_cons_succ] at hK ⊢
    generalize vs 10 = v10 at f10 hK ⊢
    rw [if_pos (by rfl)]
    subst f10
    go_simp
    exact hK.out _ _ (Below.refl _ _) rfl
  case s12 =>
    refine StepF.of rfl [(11, some 14)] (by kernel_rfl) ?_
    intro vs u hB hf K hK
    have f11 : (fun v u => v = .pointer (some ⟨g, 4, none⟩)) (vs 11) u := hf.1
    clear hf
    simp only [putsA, List.foldl_cons, List.foldl_nil, Act.put, List.setIfInBounds_toArray, List.set_cons_zero, List.set_cons_succ] at hK ⊢
    generalize vs 11 = v11 at f11 hK ⊢
    rw [if_pos (by rfl)]
    subst f11
    have c0 := (HC.out u hB).2.2.1
    go_simp
    exact hK.out _ _ (Below.refl _ _) rfl
  case s13 =>
    refine StepF.of rfl [(12, some 15)] (by kernel_rfl) ?_
    intro vs u hB hf K hK
    have f12 : (fun v u => v = .string a4) (vs 12) u := hf.1
    clear hf
    simp only [putsA, List.foldl_cons, List.foldl_nil, Act.put, List.setIfInBounds_toArray, List.set_cons_zero, List.set_cons_succ] at hK ⊢
    generalize vs 12 = v12 at f12 hK ⊢
    rw [if_pos (by rfl)]
    subst f12
    go_simp
    exact hK.out _ _ (Below.refl _ _) (by rw [HP4.out])
  case s14 =>
    refine StepF.of rfl [] (by kernel_rfl) ?_
    intro vs u hB hf K hK
    clear hf
    simp only [putsA, List.foldl_nil, Act.put, List.setIfInBounds_toArray] at hK ⊢
    rw [if_pos (by rfl)]
    go_simp
    exact hK.out _ _ (Below.refl _ _) rfl
  case s15 =>
    refine StepF.of rfl [(14, some 17)] (by kernel_rfl) ?_
    intro vs u hB hf K hK
    have f14 : (fun v u => v = .slice (some ⟨g, 0, none⟩) 6 cap) (vs 14) u := hf.1
    clear hf
    simp only [putsA, List.foldl_cons, List.foldl_nil, Act.put, List.setIfInBounds_toArray, List.set_cons_zero, List.set_cons_succ] at hK ⊢
    generalize vs 14 = v14 at f14 hK ⊢
    rw [if_pos (by rfl)]
    subst f14
    go_simp
    exact hK.out _ _ (Below.refl _ _) rfl
  case s16 =>
    refine StepF.of rfl [(15, some 18)] (by kernel_rfl) ?_
    intro vs u hB hf K hK
    have f15 : (fun v u => v = .pointer (some ⟨g, 5, none⟩)) (vs 15) u := hf.1
    clear hf
    simp only [putsA, List.foldl_cons, List.foldl_nil, Act.put, List.setIfInBounds_toArray, List.set_cons_zero, List.set_cons_succ] at hK ⊢
    generalize vs 15 = v15 at f15 hK ⊢
    rw [if_pos (by rfl)]
    subst f15
    have c0 := (HC.out u hB).2.2.2
    go_simp
    exact hK.out _ _ (Below.refl _ _) rfl
  case s17 =>
    refine StepF.of rfl [(16, some 19)] (by kernel_rfl) ?_
    intro vs u hB hf K hK
    have f16 : (fun v u => v = .string a5) (vs 16) u := hf.1
    clear hf
    simp only [putsA, List.foldl_cons, List.foldl_nil, Act.put, List.setIfInBounds_toArray, List.set_cons_zero, List.set_cons_succ] at hK ⊢
    generalize vs 16 = v16 at f16 hK ⊢
    rw [if_pos (by rfl)]
    subst f16
    go_simp
    exact hK.out _ _ (Below.refl _ _) (by rw [HP5.out])
  case s18 =>
    refine StepF.of rfl [(4, some 7), (9, some 12), (13, some 16), (17, some 20)] (by kernel_rfl) ?_
    intro vs u hB hf K hK
    have f4 : (fun v u => v = .int .i64 n1) (vs 4) u := hf.1
    have f9 : (fun v u => v = .int .i64 n3) (vs 9) u := hf.2.1
    have f13 : (fun v u => v = .bool P4) (vs 13) u := hf.2.2.1
    have f17 : (fun v u => v = .bool P5) (vs 17) u := hf.2.2.2.1
    clear hf
    simp only [putsA, List.foldl_cons, List.foldl_nil, Act.put, List.setIfInBounds_toArray, List.set_cons_zero, List.set_cons_succ] at hK ⊢
    generalize vs 4 = v4 at f4 hK ⊢
    generalize vs 9 = v9 at f9 hK ⊢
    generalize vs 13 = v13 at f13 hK ⊢
    generalize vs 17 = v17 at f17 hK ⊢
    rw [if_pos (by rfl)]
    subst f4
    subst f9
    subst f13
    subst f17
    go_simp
    exact hK.out _ _ (Below.refl _ _) rfl
  case last =>
    intro vs u hB hf K hK
    have f0 : (fun v u => v = .slice (some ⟨g, 0, none⟩) 6 cap) (vs 0) u := hf.1
    have f1 : (fun v u => v = .pointer (some ⟨g, 1, none⟩)) (vs 1) u := hf.2.1
    have f2 : (fun v u => v = .string a1) (vs 2) u := hf.2.2.1
    have f3 : (fun v u => v = .agg #[.int .i64 k1, .int .i64 n1]) (vs 3) u := hf.2.2.2.1
    have f4 : (fun v u => v = .int .i64 n1) (vs 4) u := hf.2.2.2.2.1
    have f5 : (fun v u => v = .slice (some ⟨g, 0, none⟩) 6 cap) (vs 5) u := hf.2.2.2.2.2.1
    have f6 : (fun v u => v = .pointer (some ⟨g, 3, none⟩)) (vs 6) u := hf.2.2.2.2.2.2.1
    have f7 : (fun v u => v = .string a3) (vs 7) u := hf.2.2.2.2.2.2.2.1
    have f8 : (fun v u => v = .agg #[.int .i64 k3, .int .i64 n3]) (vs 8) u := hf.2.2.2.2.2.2.2.2.1
    have f9 : (fun v u => v = .int .i64 n3) (vs 9) u := hf.2.2.2.2.2.2.2.2.2.1
    have f10 : (fun v u => v = .slice (some ⟨g, 0, none⟩) 6 cap) (vs 10) u := hf.2.2.2.2.2.2.2.2.2.2.1
    have f11 : (fun v u => v = .pointer (some ⟨g, 4, none⟩)) (vs 11) u := hf.2.2.2.2.2.2.2.2.2.2.2.1
    have f12 : (fun v u => v = .string a4) (vs 12) u := hf.2.2.2.2.2.2.2.2.2.2.2.2.1
    have f13 : (fun v u => v = .bool P4) (vs 13) u := hf.2.2.2.2.2.2.2.2.2.2.2.2.2.1
    have f14 : (fun v u => v = .slice (some ⟨g, 0, none⟩) 6 cap) (vs 14) u := hf.2.2.2.2.2.2.2.2.2.2.2.2.2.2.1
    have f15 : (fun v u => v = .pointer (some ⟨g, 5, none⟩)) (vs 15) u := hf.2.2.2.2.2.2.2.2.2.2.2.2.2.2.2.1
    have f16 : (fun v u => v = .string a5) (vs 16) u := hf.2.2.2.2.2.2.2.2.2.2.2.2.2.2.2.2.1
    have f17 : (fun v u => v = .bool P5) (vs 17) u := hf.2.2.2.2.2.2.2.2.2.2.2.2.2.2.2.2.2.1
    have f18 : (fun v u => v = cfV n1 n3 P4 P5) (vs 18) u := hf.2.2.2.2.2.2.2.2.2.2.2.2.2.2.2.2.2.2.1
    clear hf
    simp only [putsA, List.foldl_cons, List.foldl_nil, Act.put, List.setIfInBounds_toArray, List.set_cons_zero, List.set_cons_succ]
    generalize vs 0 = v0 at f0 ⊢
    generalize vs 1 = v1 at f1 ⊢
    generalize vs 2 = v2 at f2 ⊢
    generalize vs 3 = v3 at f3 ⊢
    generalize vs 4 = v4 at f4 ⊢
    generalize vs 5 = v5 at f5 ⊢
    generalize vs 6 = v6 at f6 ⊢
    generalize vs 7 = v7 at f7 ⊢
    generalize vs 8 = v8 at f8 ⊢
    generalize vs 9 = v9 at f9 ⊢
    generalize vs 10 = v10 at f10 ⊢
    generalize vs 11 = v11 at f11 ⊢
    generalize vs 12 = v12 at f12 ⊢
    generalize vs 13 = v13 at f13 ⊢
    generalize vs 14 = v14 at f14 ⊢
    generalize vs 15 = v15 at f15 ⊢
    generalize vs 16 = v16 at f16 ⊢
    generalize vs 17 = v17 at f17 ⊢
    generalize vs 18 = v18 at f18 ⊢
    rw [if_pos (by rfl)]
    subst f18
    clear f0 f1 f2 f3 f4 f5 f6 f7 f8 f9 f10 f11 f12 f13 f14 f15 f16 f17
    obtain ⟨r0, r1, r2, r3, rf, rl⟩ := HR.out u hB
    have HB1 : Hid (Below w.heap.size w u) := HBw.out u hB
    go_simp
    refine hK.out _ _ ?_
    clear hB hK HC HP1 HP3 HF
    go_wp2
    refine bodyPost_ret (v := cfV n1 n3 P4 P5) (by simp [results, Tryz.results45, go_sem, r0, r1, r2, r3]) rfl ⟨rfl, ?_⟩
    repeat (first | exact HB1.out | refine Below.setCell ?_ (by simp) _)
/-- What a setting that was read is, as a value. -/
abbrev crV (k s t : Int) (p c : Bool) : Value := .agg #[.int .i64 k, .int .i64 s, .int .i64 t, .bool p, .bool c]
theorem cells_six (W : World) (a0 a1 a2 a3 a4 a5 : ByteArray) (n : Nat) (T : TypeId) : ∀ (j : Nat) x, ([a0, a1, a2, a3, a4, a5] : List ByteArray)[j]? = some x → (W.alloc (.cells (Lib.cellsOf [a0, a1, a2, a3, a4, a5] n) T)).cell? ⟨W.heap.size, j, none⟩ = some (.string x) := fun j x hx => by
  rw [World.cell?_alloc_at _ _ _ _ rfl]
  unfold Lib.cellsOf
  match j, hx with
  | 0, hx => injection hx with hx; subst hx; rfl
  | 1, hx => injection hx with hx; subst hx; rfl
  | 2, hx => injection hx with hx; subst hx; rfl
  | 3, hx => injection hx with hx; subst hx; rfl
  | 4, hx => injection hx with hx; subst hx; rfl
  | 5, hx => injection hx with hx; subst hx; rfl
  | _ + 6, hx => simp at hx
set_option maxRecDepth 100000 in
set_option maxHeartbeats 1500000 in
theorem implPC_any (x : ByteArray) (k s t : Int) (p c : Bool) (h : AnsP x.data.toList k s t p c) (m : Int) (w : World) (hs : x.size ≤ 1048576) (hL : LW w) (hM : w.cell? ⟨1, 0, none⟩ = some (.int .i64 m)) :
    Calls Tryz.prog 10 #[.string x] w fun e w' => e = .returned (crV k s t p c) ∧ Below w.heap.size w w' := by
  obtain ⟨W, hW⟩ : ∃ W, W = w.alloc (.cells #[.int .i64 0, .int .i64 0, .int .i64 0, .bool false, .bool false] 28) := ⟨_, rfl⟩
  have HW : Hid (W = w.alloc (.cells #[.int .i64 0, .int .i64 0, .int .i64 0, .bool false, .bool false] 28)) := hW
  have hb0 : Below w.heap.size w W := by rw [hW]; exact bnewC _ _
  have hr : ∀ (j : Nat) v, (#[.int .i64 0, .int .i64 0, .int .i64 0, .bool false, .bool false] : Array Value)[j]? = some v → W.cell? ⟨w.heap.size, j, none⟩ = some v := fun j v hj => by rw [hW, World.cell?_alloc_at _ _ _ _ rfl]; exact hj
  have rf : ∀ j, W.frozen? ⟨w.heap.size, j, none⟩ = false := fun j => by rw [hW]; simp [go_sem]
  have rl : w.heap.size < W.heap.size := by rw [hW]; simp
  have HR : Hid (∀ u, Below W.heap.size W u → (u.cell? ⟨w.heap.size, 0, none⟩ = some (.int .i64 0) ∧ u.cell? ⟨w.heap.size, 1, none⟩ = some (.int .i64 0) ∧ u.cell? ⟨w.heap.size, 2, none⟩ = some (.int .i64 0) ∧ u.cell? ⟨w.heap.size, 3, none⟩ = some (.bool false) ∧ u.cell? ⟨w.heap.size, 4, none⟩ = some (.bool false)) ∧ (∀ j, u.frozen? ⟨w.heap.size, j, none⟩ = false) ∧ w.heap.size < u.heap.size) := fun u hu => ⟨⟨cell_keep hu (hr 0 _ rfl), cell_keep hu (hr 1 _ rfl), cell_keep hu (hr 2 _ rfl), cell_keep hu (hr 3 _ rfl), cell_keep hu (hr 4 _ rfl)⟩, fun j => by rw [(bcell hu).2 _ _ rl]; exact rf j, Nat.lt_of_lt_of_le rl hu.size⟩
  have HBw : Hid (∀ u, Below W.heap.size W u → Below w.heap.size w u) := fun u hu => hb0.trans (hu.mono hb0.size)
  have HSp : Hid (Calls Tryz.prog 44 #[.string x, .string ⟨#[32]⟩, .int .i64 7] W fun e w' => e = .returned (.slice (some ⟨W.heap.size, 0, none⟩) (wordsP x).length (min 7 (x.size + 1))) ∧ w' = W.alloc (.cells (Lib.cellsOf (wordsP x) (min 7 (x.size + 1))) 9)) := Tryz.strings_SplitN x ⟨#[32]⟩ 7 m W (by omega) (cell_keep hb0 hM) (by decide) (by omega) (by omega)
  have HA : Hid (AnsP x.data.toList k s t p c) := h
  have HLu : Hid (∀ u, Below W.heap.size W u → LW u) := fun u hu => hL.below (HBw.out u hu)
  have HSz : Hid (∀ a ∈ wordsP x, a.size ≤ 1048576) := splitB_size _ _ _ x hs
  have HWd : Hid (∀ s t p c, isCfg x.data.toList s t p c → (wordsP x).map (·.data.toList) = [wSeg, decDigits s, wTab, decDigits t, wP p, wC c]) := fun s t p c h => words_cfg h
  obtain ⟨L, hL0⟩ : ∃ L, L = wordsP x := ⟨_, rfl⟩
  have hLl : L.length ≤ 7 := by
    rw [hL0]; unfold wordsP
    have := splitB_length_le (⟨#[32]⟩ : ByteArray) 0 (min 7 (x.size + 1) - 1) x
    omega
  rw [← hL0] at HSp HSz HWd
  obtain ⟨cap, hcap⟩ : ∃ n, n = min 7 (x.size + 1) := ⟨_, rfl⟩
  rw [← hcap] at HSp
  clear hW hb0 hr rf rl h hL hL0 hM hcap
  by_cases h6 : L.length = 6
  · obtain ⟨a0, a1, a2, a3, a4, a5, rfl⟩ := six_of h6
    obtain ⟨k1, v1, hp1⟩ := pnum_ex a1
    obtain ⟨k3, v3, hp3⟩ := pnum_ex a3
    have hz1 := HSz.out a1 (by simp)
    have hz3 := HSz.out a3 (by simp)
    obtain ⟨X, hX⟩ : ∃ X, X = W.alloc (.cells (Lib.cellsOf [a0, a1, a2, a3, a4, a5] cap) 9) := ⟨_, rfl⟩
    have HX : Hid (X = W.alloc (.cells (Lib.cellsOf [a0, a1, a2, a3, a4, a5] cap) 9)) := hX
    have hbX : Below W.heap.size W X := by rw [hX]; exact bnewC _ _
    have hcs := cells_six W a0 a1 a2 a3 a4 a5 cap 9
    rw [← hX] at hcs
    have HCI : Hid (Calls Tryz.prog 45 #[.slice (some ⟨W.heap.size, 0, none⟩) 6 cap] X fun e w' => e = .returned (cfV v1 v3 (a4.toList == [112, 101, 101, 112]) (a5.toList == [99, 97, 99, 104, 101])) ∧ Below X.heap.size X w') := readCf_any _ _ a1 a3 a4 a5 k1 v1 k3 v3 X hp1 hp3 hz1 hz3 (HLu.out X hbX) ⟨hcs 1 _ rfl, hcs 3 _ rfl, hcs 4 _ rfl, hcs 5 _ rfl⟩
    have HBX : Hid (∀ u, Below X.heap.size X u → Below W.heap.size W u) := fun u hu => hbX.trans (hu.mono hbX.size)
    have HYes : Hid (∀ s t p c, isCfg x.data.toList s t p c → v1 = s ∧ v3 = t ∧ (a4.toList == [112, 101, 101, 112]) = p ∧ (a5.toList == [99, 97, 99, 104, 101]) = c) := fun s t p c hh => by
      have e := HWd.out s t p c hh
      simp only [List.map_cons, List.map_nil, List.cons.injEq, and_true] at e
      obtain ⟨-, e1, -, e3, e4, e5⟩ := e
      obtain ⟨q1, q2, q3, -⟩ := hh
      exact ⟨pnum_dig hp1 (by omega) e1, pnum_dig hp3 (by omega) e3, word_p e4, word_c e5⟩
    generalize (a4.toList == [112, 101, 101, 112]) = P4 at HCI HYes
    generalize (a5.toList == [99, 97, 99, 104, 101]) = P5 at HCI HYes
    have HCT : Hid (∀ u, Below X.heap.size X u → Calls Tryz.prog 11 #[cfV v1 v3 P4 P5] u fun e w' => e = .returned (TR (cfF v1 v3) (cfL v1 v3 P4 P5)) ∧ Below u.heap.size u w') := fun u hu => implCfT_any v1 v3 P4 P5 u (HLu.out u (HBX.out u hu)).lt.tab
    obtain ⟨y, hy⟩ : ∃ y : ByteArray, y = ⟨(cfL v1 v3 P4 P5).toArray⟩ := ⟨_, rfl⟩
    obtain ⟨F, hF⟩ : ∃ F, F = cfF v1 v3 := ⟨_, rfl⟩
    have HCT2 : Hid (∀ u, Below X.heap.size X u → Calls Tryz.prog 11 #[cfV v1 v3 P4 P5] u fun e w' => e = .returned (.agg #[.int .i64 F, .string y]) ∧ Below u.heap.size u w') := fun u hu => by rw [hy, hF]; exact HCT.out u hu
    have HRes : Hid ((F = 0 ∧ y = x → k = 0 ∧ s = v1 ∧ t = v3 ∧ p = P4 ∧ c = P5) ∧ (¬ (F = 0 ∧ y = x) → k = 5 ∧ s = 0 ∧ t = 0 ∧ p = false ∧ c = false)) := by
      constructor
      · rintro ⟨h1, h2⟩
        have hok : okS v1 v3 = true := by
          cases e : okS v1 v3 with
          | true => rfl
          | false => rw [hF] at h1; unfold cfF at h1; rw [e] at h1; simp at h1
        obtain ⟨q1, q2, q3, q4⟩ := okS_iff.1 hok
        have hc2 : isCfg x.data.toList v1.toNat v3.toNat P4 P5 := ⟨by omega, by omega, by omega, by
          rw [← h2, hy]; unfold cfL; rw [hok]; simp⟩
        obtain ⟨r1, r2, r3, r4, r5⟩ := ansP_some HA.out hc2
        exact ⟨r1, by omega, by omega, r4, r5⟩
      · intro hn
        refine ansP_none HA.out (fun s' t' p' c' hh => hn ?_)
        obtain ⟨r1, r2, r3, r4⟩ := HYes.out s' t' p' c' hh
        obtain ⟨q1, q2, q3, q4⟩ := hh
        have hok : okS v1 v3 = true := okS_iff.2 (by omega)
        refine ⟨by rw [hF]; unfold cfF; rw [hok]; rfl, ?_⟩
        rw [hy]
        unfold cfL
        rw [hok]
        apply eqB_list
        have e1 : v1.toNat = s' := by omega
        have e3 : v3.toNat = t' := by omega
        simp only [if_true]
        rw [e1, e3, r3, r4]
        simpa using q4
    clear hX hbX hcs HCT hy hF hp1 hp3 hz1 hz3 HSz HWd HYes HLu HA
    go_enter Tryz.func10, Tryz.ntmps10
    go_wp2_with fail
    rw [← HW.out]
    clear HW
    refine HSp.out.mono ?_
    rintro e wx ⟨rfl, ewx⟩
    rw [← HX.out] at ewx
    replace ewx := ewx.symm
    subst ewx
    clear HSp HX
    go_wp2_with fail
    refine HCI.out.mono ?_
    rintro e w3 ⟨rfl, b3⟩
    obtain ⟨u3, hu3⟩ : ∃ u, u = w3.alloc (.cells #[.int .i64 v1, .int .i64 v3, .bool P4, .bool P5] 26) := ⟨_, rfl⟩
    have HU3 : Hid (u3 = w3.alloc (.cells #[.int .i64 v1, .int .i64 v3, .bool P4, .bool P5] 26)) := hu3
    have HB3 : Hid (Below X.heap.size X u3) := by show Below _ _ _; rw [hu3]; exact b3.alloc b3.size _
    have hcc := box4 w3 v1 v3 P4 P5 26
    have HC3 : Hid (∀ u, Below u3.heap.size u3 u → u.cell? ⟨w3.heap.size, 0, none⟩ = some (.int .i64 v1) ∧ u.cell? ⟨w3.heap.size, 1, none⟩ = some (.int .i64 v3) ∧ u.cell? ⟨w3.heap.size, 2, none⟩ = some (.bool P4) ∧ u.cell? ⟨w3.heap.size, 3, none⟩ = some (.bool P5)) := fun u hu => by
      rw [← hu3] at hcc
      exact ⟨cell_keep hu hcc.1, cell_keep hu hcc.2.1, cell_keep hu hcc.2.2.1, cell_keep hu hcc.2.2.2⟩
    clear b3 hu3 hcc HCI
    go_upto_region 5 with fail
    rw [← HU3.out]
    have hs3 : w3.heap.size < u3.heap.size := by rw [HU3.out]; simp
    clear HU3
    obtain ⟨c0, c1, c2, c3⟩ := HC3.out u3 (Below.refl _ _)
    go_wp2_with fail
    refine (HCT2.out u3 HB3.out).mono ?_
    rintro e w4 ⟨rfl, b4⟩
    obtain ⟨u4, hu4⟩ : ∃ u, u = w4.alloc (.cells #[.int .i64 F, .string y] 31) := ⟨_, rfl⟩
    have HU4 : Hid (u4 = w4.alloc (.cells #[.int .i64 F, .string y] 31)) := hu4
    have HB4 : Hid (Below u3.heap.size u3 u4) := by show Below _ _ _; rw [hu4]; exact b4.alloc b4.size _
    have hd0 : u4.cell? ⟨w4.heap.size, 0, none⟩ = some (.int .i64 F) := by rw [hu4, World.cell?_alloc_at _ _ _ _ rfl]; rfl
    have hd1 : u4.cell? ⟨w4.heap.size, 1, none⟩ = some (.string y) := by rw [hu4, World.cell?_alloc_at _ _ _ _ rfl]; rfl
    clear b4 hu4 HCT2 c0 c1 c2 c3
    go_upto_region 6 with fail
    rw [← HU4.out]
    clear HU4
    obtain ⟨c0, c1, c2, c3⟩ := HC3.out u4 HB4.out
    have HBW4 : Hid (Below W.heap.size W u4) := HBX.out u4 (HB3.out.trans (HB4.out.mono HB3.out.size))
    obtain ⟨⟨r0, r1, r2, r3, r4⟩, rf, rl⟩ := HR.out u4 HBW4.out
    have HB1 : Hid (Below w.heap.size w u4) := HBw.out u4 HBW4.out
    clear HC3 HB3 HB4 HBX HR HBw
    by_cases hF : F = 0
    · by_cases hyx : y = x
      · obtain ⟨rfl, rfl, rfl, rfl, rfl⟩ := HRes.out.1 ⟨hF, hyx⟩
        subst hF
        subst hyx
        clear HRes HBW4
        go_wp2
        refine bodyPost_ret (v := crV 0 s t p c) (by simp [results, Tryz.results10, go_sem, r0, r1, r2, r3, r4]) rfl ⟨rfl, ?_⟩
        repeat (first | exact HB1.out | refine Below.setCell ?_ (by simp) _)
      · obtain ⟨rfl, rfl, rfl, rfl, rfl⟩ := HRes.out.2 (fun h => hyx h.2)
        subst hF
        have hb0 : ¬ y.toList = x.toList := fun e => hyx (eqB_list (by rw [← Lib.toList_data, ← Lib.toList_data]; exact e))
        have hb2 : (y.toList != x.toList) = true := by simpa using hb0
        have hb3 : (y.toList == x.toList) = false := by simpa using hb0
        clear HRes HBW4
        go_wp2
        refine bodyPost_ret (v := crV 5 0 0 false false) (by simp [results, Tryz.results10, go_sem, r0, r1, r2, r3, r4]) rfl ⟨rfl, ?_⟩
        repeat (first | exact HB1.out | refine Below.setCell ?_ (by simp) _)
    · obtain ⟨rfl, rfl, rfl, rfl, rfl⟩ := HRes.out.2 (fun h => hF h.1)
      have hb1 : (F == 0) = false := by simpa using hF
      have hb2 : (F != 0) = true := by simpa using hF
      clear HRes HBW4
      go_wp2
      refine bodyPost_ret (v := crV 5 0 0 false false) (by simp [results, Tryz.results10, go_sem, r0, r1, r2, r3, r4]) rfl ⟨rfl, ?_⟩
      repeat (first | exact HB1.out | refine Below.setCell ?_ (by simp) _)
  · have HN : Hid (k = 5 ∧ s = 0 ∧ t = 0 ∧ p = false ∧ c = false) := ansP_none HA.out (fun s' t' p' c' hh => h6 (by
      have := congrArg List.length (HWd.out s' t' p' c' hh)
      simpa using this))
    obtain ⟨rfl, rfl, rfl, rfl, rfl⟩ := HN.out
    obtain ⟨n, hn⟩ : ∃ n, n = L.length := ⟨_, rfl⟩
    rw [← hn] at HSp h6
    rw [← hn] at hLl
    have hb2 : ((n : Int) != 6) = true := by rw [bne_iff_ne]; omega
    clear HA HSz HWd HLu
    go_enter Tryz.func10, Tryz.ntmps10
    go_wp2_with fail
    rw [← HW.out]
    clear HW
    refine HSp.out.mono ?_
    rintro e wx ⟨rfl, ewx⟩
    have HBX : Hid (Below W.heap.size W wx) := by rw [ewx]; exact bnewC _ _
    clear ewx
    obtain ⟨⟨r0, r1, r2, r3, r4⟩, rf, rl⟩ := HR.out wx HBX.out
    have HB1 : Hid (Below w.heap.size w wx) := HBw.out wx HBX.out
    clear HSp HR HBw HBX
    go_wp2
    refine bodyPost_ret (v := crV 5 0 0 false false) (by simp [results, Tryz.results10, go_sem, r0, r1, r2, r3, r4]) rfl ⟨rfl, ?_⟩
    repeat (first | exact HB1.out | refine Below.setCell ?_ (by simp) _)
end Go.Proofs.YtebnonpdaddniaaGreatDoor
