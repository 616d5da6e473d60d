/-
  The program's writeCode, if its opText answers what the plain function tells: the text of code; nothing that was there is turned.
-/
import Derived.Test.YtkdhmijebkhmaaaGreatDoorImplDT
import Derived.Test.YtkdhmijebkhmaaaGreatDoorSpecCT9
import Derived.Test.YtkdhmijebkhmaaaGreatDoorCtM
import Derived.Test.YtkdhmijebkhmaaaGreatDoorFacts
namespace Go.Proofs.YtkdhmijebkhmaaaGreatDoor
open Go.RowKit Go.Extern.Stop Go.Stop Go.Extern Num Go.Lib Go.Shelf

theorem itoa9_any (n : Int) (w : World) (h0 : -9223372036854775808 ≤ n) (h1 : n ≤ 9223372036854775807) (hL : TB w) :
    Calls Tryz.prog 49 #[.int .i64 n] w fun e w' => e = .returned (.string ⟨(itoa n).toArray⟩) ∧ Below w.heap.size w w' := by
  refine (Tryz.strconv_Itoa n h0 h1 w hL).mono ?_
  rintro e w' ⟨rfl, k, os, rfl⟩
  exact ⟨rfl, below_grow _ w (Nat.le_refl _) k os⟩
/-- A builder at the place that was the next one, with a text. -/
def JW (w : World) (T : List UInt8) (X : World) : Prop := (∃ v, BldV w.heap.size w.heap.size v (byteCells T) X) ∧ Below w.heap.size w X
theorem JW.below {w : World} {T : List UInt8} {X X' : World} (h : JW w T X) (hb : Below X.heap.size X X') : JW w T X' := by
  obtain ⟨⟨v, hv⟩, hw⟩ := h
  exact ⟨⟨v, hv.below hb⟩, hw.trans (hb.mono hw.size)⟩
theorem JW.write {w : World} {T : List UInt8} (s : ByteArray) {X : World} (h : JW w T X) (hlen : T.length + s.size ≤ 100000000) :
    Calls Tryz.prog 48 #[.pointer (some ⟨w.heap.size, 0, none⟩), .string s] X fun e X' => ∃ r, e = .returned r ∧ JW w (T ++ s.data.toList) X' ∧ (∀ k, k < X.heap.size → ¬ Mb w.heap.size X k → X'.heap[k]? = X.heap[k]?) := by
  obtain ⟨⟨v, hv⟩, hw⟩ := h
  refine (ws_any w.heap.size w.heap.size v (byteCells T) s X hv (by rw [byteCells_len]; omega) hw.size).mono ?_
  rintro e X' ⟨r, v', rfl, hv', hk⟩
  rw [cells_str] at hv'
  exact ⟨r, rfl, ⟨⟨v', hv'⟩, hw.trans hk.1⟩, hk.2.1⟩
theorem JW.not_new {w : World} {T : List UInt8} {X : World} (h : JW w T X) (o : Obj) : ¬ Mb w.heap.size (X.alloc o) X.heap.size := fun hm => by
  obtain ⟨⟨v, hv⟩, hw⟩ := h
  obtain ⟨o', ho, _⟩ := hv.cells (Mb.read (Below.heap_alloc X o _ hv.lt) hm)
  have := (Array.getElem?_eq_some_iff.1 ho).1
  omega
theorem JW.lt {w : World} {T : List UInt8} {X : World} (h : JW w T X) : w.heap.size < X.heap.size := by
  obtain ⟨⟨v, hv⟩, hw⟩ := h
  exact hv.lt
theorem toL (M : List UInt8) : (⟨M.toArray⟩ : ByteArray).data.toList = M := by simp
theorem blkLine_len (i : Nat) (b : Blk) (hi : i ≤ 999) (h0 : 0 ≤ b.args) (h1 : b.args ≤ 3) : (blkLine i b).length ≤ 20 := by
  have e1 := itoa_nat_len i hi
  have e2 := itoa_len3 b.args h0 (by omega)
  unfold blkLine
  simp only [List.length_append, List.length_cons, List.length_nil]
  omega
theorem opLine_len (k : Nat) (t : Opr) (hk : k ≤ 999) (h : opFault t = 0) : (opLine k t).length ≤ 1720 := by
  have e1 := itoa_nat_len k hk
  have e2 := opT_len h
  unfold opLine
  simp only [List.length_append, List.length_cons, List.length_nil]
  omega
theorem opsTo_len (l : List Opr) (hl : l.length ≤ 200) (h : ∀ t ∈ l, opFault t = 0) : ∀ k, k ≤ l.length → (opsTo l k).length ≤ 1720 * k
  | 0, _ => by simp [opsTo]
  | k + 1, hk => by
    have ih := opsTo_len l hl h k (by omega)
    rw [opsTo_next l k (by omega), List.length_append]
    have := opLine_len k _ (by omega) (h _ (List.getElem_mem (show k < l.length by omega)))
    omega
theorem codeTo_len (l : List Blk) (hl : l.length ≤ 60) (h : ∀ b ∈ l, blkFault b = 0) : ∀ i, i ≤ l.length → (codeTo l i).length ≤ 400000 * i
  | 0, _ => by simp [codeTo]
  | i + 1, hi => by
    have ih := codeTo_len l hl h i (by omega)
    have hb := blkOk (h _ (List.getElem_mem (show i < l.length by omega)))
    rw [codeTo_next l i (by omega), List.length_append]
    unfold blkT
    rw [List.length_append]
    have e1 := blkLine_len i l[i] (by omega) hb.1.1 hb.1.2
    have e2 := opsTo_len l[i].ops hb.2.1 hb.2.2 _ (Nat.le_refl _)
    omega
set_option maxRecDepth 100000 in
set_option maxHeartbeats 2000000 in
theorem writeCode_of (hOp : ∀ (k : Nat) (t : Opr) (gx B : Nat) (u : World), k ≤ 999 → opFault t = 0 → t.small → IsD u B gx t.data.length t.data → LT u → Calls Tryz.prog 51 #[.int .i64 (k : Int), t.val (.slice (some ⟨gx, 0, none⟩) t.data.length t.data.length)] u fun e w' => e = .returned (.string ⟨(opLine k t).toArray⟩) ∧ Below u.heap.size u w') (g c B : Nat) (l : List Blk) (w : World) (hf : codeFault9 l = 0) (hz : ∀ (k : Nat) (h : k < l.length), l[k].small) (hB : RowBl w B g l) (hL : LT w) :
    Calls Tryz.prog 28 #[.slice (some ⟨g, 0, none⟩) l.length c] w fun e w' => e = .returned (.string ⟨(codeT l).toArray⟩) ∧ Below w.heap.size w w' := by
  have hl60 := (codeOk hf).1
  have HOK : Hid (∀ b ∈ l, blkFault b = 0) := (codeOk hf).2
  have HB : Hid (RowBl w B g l) := hB
  have HZ : Hid (∀ (k : Nat) (h : k < l.length), l[k].small) := hz
  have HL : Hid (LT w) := hL
  have HOp : Hid _ := hOp
  obtain ⟨R, hR⟩ : ∃ R : ByteArray, R = ⟨(codeT l).toArray⟩ := ⟨_, rfl⟩
  have HR : Hid (R = ⟨(codeT l).toArray⟩) := hR
  rw [← hR]
  have HJ0 : Hid (JW w [] (w.alloc (.cells #[.pointer none, .slice none 0 0] 88))) := ⟨⟨.slice none 0 0, Nat.le_refl _, ⟨_, .inl rfl, heap_alloc_new _ _⟩, World.ownsRow_nil _ _ _ _, by simp [Value.ownBlock]⟩, bnew0 _ _⟩
  clear hf hB hz hL hOp hR
  go_enter Tryz.func28, Tryz.ntmps28
  go_wp2_with fail
  go_loopw [10] (fun i wr => ∃ j : Nat, j ≤ l.length ∧ i = .int .i64 (j : Int) ∧ Hid (JW w (codeTo l j) wr)) (fun i _ => l.length - (RowKit.intOf i).toNat)
  case atStart => exact ⟨0, Nat.zero_le _, rfl, HJ0.out⟩
  case round =>
    obtain ⟨j, hj, rfl, HJ⟩ := hrel
    by_cases hlt : j < l.length
    · have hrb := HB.out.below HJ.out.2 j hlt
      obtain ⟨b, hb⟩ : ∃ b, b = l[j]'hlt := ⟨_, rfl⟩
      have hbok := blkOk (HOK.out _ (List.getElem_mem hlt))
      have HSm : Hid (b.small) := by rw [hb]; exact HZ.out j hlt
      have HCN : Hid (codeTo l (j + 1) = codeTo l j ++ (blkLine j b ++ opsTo b.ops b.ops.length)) := by rw [hb]; exact codeTo_next l j hlt
      have hcl := codeTo_len l hl60 HOK.out j hj
      rw [← hb] at hrb hbok
      obtain ⟨p0, gx, p1, ho⟩ := hrb
      have hol : b.ops.length ≤ 200 := hbok.2.1
      have HBL : Hid ((blkLine j b).length ≤ 20) := blkLine_len j b (by omega) hbok.1.1 hbok.1.2
      have HFo : Hid (∀ t ∈ b.ops, opFault t = 0) := hbok.2.2
      obtain ⟨Di, hDi⟩ : ∃ Di : ByteArray, Di = ⟨(itoa (j : Int)).toArray⟩ := ⟨_, rfl⟩
      obtain ⟨Da, hDa⟩ : ∃ Da : ByteArray, Da = ⟨(itoa b.args).toArray⟩ := ⟨_, rfl⟩
      have sDi : Di.size ≤ 3 := by rw [hDi, size_mk]; exact itoa_nat_len j (by omega)
      have sDa : Da.size ≤ 3 := by rw [hDa, size_mk]; exact itoa_len3 _ (by omega) (by omega)
      have hLw := HL.out.below HJ.out.2
      obtain ⟨u0, hu0⟩ : ∃ u0, u0 = wr.alloc (.cells #[.int .i64 b.args, .slice (some ⟨gx, 0, none⟩) b.ops.length b.ops.length] 46) := ⟨_, rfl⟩
      have HU0 : Hid (u0 = wr.alloc (.cells #[.int .i64 b.args, .slice (some ⟨gx, 0, none⟩) b.ops.length b.ops.length] 46)) := hu0
      have hbu : Below wr.heap.size wr u0 := by rw [hu0]; exact bnew0 _ _
      have HDi : Hid (∀ u, Below u0.heap.size u0 u → Calls Tryz.prog 49 #[.int .i64 (j : Int)] u fun e w' => e = .returned (.string Di) ∧ Below u.heap.size u w') := fun u hu => by rw [hDi]; exact itoa9_any _ u (by omega) (by omega) ((hLw.below hbu).below hu).tab
      have HDa : Hid (∀ u, Below u0.heap.size u0 u → Calls Tryz.prog 50 #[.int .i64 b.args, .int .i64 10] u fun e w' => e = .returned (.string Da) ∧ Below u.heap.size u w') := fun u hu => by rw [hDa]; exact fmt_in _ u (inB_small _ (by omega) (by omega)) ((hLw.below hbu).below hu).tab
      have k6 : (⟨#[98, 108, 111, 99, 107, 32]⟩ : ByteArray).size = 6 := rfl
      have k1 : (⟨#[32]⟩ : ByteArray).size = 1 := rfl
      have k2 : (⟨#[10]⟩ : ByteArray).size = 1 := rfl
      obtain ⟨X1, hX1⟩ : ∃ X1 : ByteArray, X1 = ⟨#[98, 108, 111, 99, 107, 32]⟩ ++ Di := ⟨_, rfl⟩
      have sX1 : X1.size = (⟨#[98, 108, 111, 99, 107, 32]⟩ : ByteArray).size + (Di : ByteArray).size := by rw [hX1, ByteArray.size_append]
      have a1 := fun (w : World) => run_string_add_sum (P := Tryz.prog) w ⟨#[98, 108, 111, 99, 107, 32]⟩ Di (by omega)
      rw [← hX1] at a1
      obtain ⟨X2, hX2⟩ : ∃ X2 : ByteArray, X2 = X1 ++ ⟨#[32]⟩ := ⟨_, rfl⟩
      have sX2 : X2.size = (X1 : ByteArray).size + (⟨#[32]⟩ : ByteArray).size := by rw [hX2, ByteArray.size_append]
      have a2 := fun (w : World) => run_string_add_sum (P := Tryz.prog) w X1 ⟨#[32]⟩ (by omega)
      rw [← hX2] at a2
      obtain ⟨X3, hX3⟩ : ∃ X3 : ByteArray, X3 = X2 ++ Da := ⟨_, rfl⟩
      have sX3 : X3.size = (X2 : ByteArray).size + (Da : ByteArray).size := by rw [hX3, ByteArray.size_append]
      have a3 := fun (w : World) => run_string_add_sum (P := Tryz.prog) w X2 Da (by omega)
      rw [← hX3] at a3
      obtain ⟨X4, hX4⟩ : ∃ X4 : ByteArray, X4 = X3 ++ ⟨#[10]⟩ := ⟨_, rfl⟩
      have sX4 : X4.size = (X3 : ByteArray).size + (⟨#[10]⟩ : ByteArray).size := by rw [hX4, ByteArray.size_append]
      have a4 := fun (w : World) => run_string_add_sum (P := Tryz.prog) w X3 ⟨#[10]⟩ (by omega)
      rw [← hX4] at a4
      have HX4 : Hid (X4.data.toList = blkLine j b ∧ X4.size ≤ 20) := by
        refine ⟨?_, by omega⟩
        rw [hX4, hX3, hX2, hX1, hDi, hDa]
        simp [blkLine]
      have HJu : Hid (JW w (codeTo l j) u0) := HJ.out.below hbu
      have HNu : Hid (¬ Mb w.heap.size u0 wr.heap.size) := by rw [hu0]; exact HJ.out.not_new _
      have HCu : Hid (u0.cell? ⟨wr.heap.size, 0, none⟩ = some (.int .i64 b.args) ∧ u0.cell? ⟨wr.heap.size, 1, none⟩ = some (.slice (some ⟨gx, 0, none⟩) b.ops.length b.ops.length)) := by rw [hu0]; exact ⟨by rw [World.cell?_alloc_at _ _ _ _ rfl]; rfl, by rw [World.cell?_alloc_at _ _ _ _ rfl]; rfl⟩
      have HIo : Hid (∀ X, Below w.heap.size w X → RowOp X B gx b.ops) := by
        obtain ⟨-, gx', p1', ho'⟩ := HB.out j hlt
        rw [← hb] at p1' ho'
        have e := cell_keep HJ.out.2 p1'
        rw [p1] at e
        have hgg : gx = gx' := by simpa using e
        subst hgg
        exact fun X hX => (ho'.below hX).row
      have hlu : wr.heap.size < u0.heap.size := by rw [hu0]; simp
      clear hX1 hX2 hX3 hX4 sX1 sX2 sX3 sX4 hDi hDa sDi sDa k6 k1 k2 hb hbok ho hLw hbu hu0
      go_wp2_with fail
      rw [← HU0.out]
      clear p0 p1 HU0
      refine wp_region_facts (by kernel_rfl) 9 (fun v => Below u0.heap.size u0 v) (fun u v => Below u.heap.size u v) (fun i v u => match i with | 0 => (fun v u => v = .int .i64 (j : Int)) v u | 1 => (fun v u => v = .string Di) v u | 2 => (fun v u => v = .string X1) v u | 3 => (fun v u => v = .string X2) v u | 4 => (fun v u => v = .pointer (some ⟨wr.heap.size, 0, none⟩)) v u | 5 => (fun v u => v = .int .i64 b.args) v u | 6 => (fun v u => v = .string Da) v u | 7 => (fun v u => v = .string X3) v u | 8 => (fun v u => v = .string X4) v u | _ => True) (by kernel_rfl) [0, 1, 2, 3, 4, 5, 6, 7, 8] (by kernel_rfl) ?b0 ?bk ?fk ⟨?s0, ?s1, ?s2, ?s3, ?s4, ?s5, ?s6, ?s7, ?s8, trivial⟩ _ rfl [(0, some 15), (1, some 16), (2, some 17), (3, some 18), (4, some 19), (5, some 20), (6, some 21), (7, some 22), (8, some 23)] (by kernel_rfl) ?last
      case b0 => exact Below.drew (Below.refl _ _)
      case bk => exact fun u v h hb => h.trans (hb.mono h.size)
      case fk => intro i v u u' h hb; match i, h with | 0, h => exact (h) | 1, h => exact (h) | 2, h => exact (h) | 3, h => exact (h) | 4, h => exact (h) | 5, h => exact (h) | 6, h => exact (h) | 7, h => exact (h) | 8, h => exact (h) | _ + 9, _ => exact trivial
      case s0 =>
        refine StepF.of rfl [] (by kernel_rfl) ?_
        intro vs u hB hf K hK
        clear hf
        simp only [putsA, List.foldl_nil, Act.put, List.setIfInBounds_toArray] at hK ⊢
        rw [if_pos (by rfl)]
        go_simp
        exact hK.out _ _ (Below.refl _ _) rfl
      case s1 =>
        refine StepF.of rfl [(0, some 15)] (by kernel_rfl) ?_
        intro vs u hB hf K hK
        have f0 : (fun v u => v = .int .i64 (j : Int)) (vs 0) u := hf.1
        clear hf
        simp only [putsA, List.foldl_cons, List.foldl_nil, Act.put, List.setIfInBounds_toArray, List.set_cons_zero, List.set_cons_succ] at hK ⊢
        generalize vs 0 = v0 at f0 hK ⊢
        rw [if_pos (by rfl)]
        subst f0
        go_simp
        refine (HDi.out _ hB).mono ?_
        rintro e w4 ⟨rfl, b4⟩
        exact hK.out _ _ b4 rfl
      case s2 =>
        refine StepF.of rfl [(1, some 16)] (by kernel_rfl) ?_
        intro vs u hB hf K hK
        have f1 : (fun v u => v = .string Di) (vs 1) u := hf.1
        clear hf
        simp only [putsA, List.foldl_cons, List.foldl_nil, Act.put, List.setIfInBounds_toArray, List.set_cons_zero, List.set_cons_succ] at hK ⊢
        generalize vs 1 = v1 at f1 hK ⊢
        rw [if_pos (by rfl)]
        subst f1
        go_simp
        exact hK.out _ _ (Below.refl _ _) rfl
      case s3 =>
        refine StepF.of rfl [(2, some 17)] (by kernel_rfl) ?_
        intro vs u hB hf K hK
        have f2 : (fun v u => v = .string X1) (vs 2) u := hf.1
        clear hf
        simp only [putsA, List.foldl_cons, List.foldl_nil, Act.put, List.setIfInBounds_toArray, List.set_cons_zero, List.set_cons_succ] at hK ⊢
        generalize vs 2 = v2 at f2 hK ⊢
        rw [if_pos (by rfl)]
        subst f2
        go_simp
        exact hK.out _ _ (Below.refl _ _) rfl
      case s4 =>
        refine StepF.of rfl [] (by kernel_rfl) ?_
        intro vs u hB hf K hK
        clear hf
        simp only [putsA, List.foldl_nil, Act.put, List.setIfInBounds_toArray] at hK ⊢
        rw [if_pos (by rfl)]
        go_simp
        exact hK.out _ _ (Below.refl _ _) rfl
      case s5 =>
        refine StepF.of rfl [(4, some 19)] (by kernel_rfl) ?_
        intro vs u hB hf K hK
        have f4 : (fun v u => v = .pointer (some ⟨wr.heap.size, 0, none⟩)) (vs 4) u := hf.1
        clear hf
        simp only [putsA, List.foldl_cons, List.foldl_nil, Act.put, List.setIfInBounds_toArray, List.set_cons_zero, List.set_cons_succ] at hK ⊢
        generalize vs 4 = v4 at f4 hK ⊢
        rw [if_pos (by rfl)]
        subst f4
        have d0 := cell_keep hB HCu.out.1
        go_simp
        exact hK.out _ _ (Below.refl _ _) rfl
      case s6 =>
        refine StepF.of rfl [(1, some 16), (5, some 20)] (by kernel_rfl) ?_
        intro vs u hB hf K hK
        have f1 : (fun v u => v = .string Di) (vs 1) u := hf.1
        have f5 : (fun v u => v = .int .i64 b.args) (vs 5) u := hf.2.1
        clear hf
        simp only [putsA, List.foldl_cons, List.foldl_nil, Act.put, List.setIfInBounds_toArray, List.set_cons_zero, List.set_cons_succ] at hK ⊢
        generalize vs 1 = v1 at f1 hK ⊢
        generalize vs 5 = v5 at f5 hK ⊢
        rw [if_pos (by rfl)]
        clear f1
        subst f5
        go_simp
        refine (HDa.out _ hB).mono ?_
        rintro e w4 ⟨rfl, b4⟩
        exact hK.out _ _ b4 rfl
      case s7 =>
        refine StepF.of rfl [(3, some 18), (6, some 21)] (by kernel_rfl) ?_
        intro vs u hB hf K hK
        have f3 : (fun v u => v = .string X2) (vs 3) u := hf.1
        have f6 : (fun v u => v = .string Da) (vs 6) u := hf.2.1
        clear hf
        simp only [putsA, List.foldl_cons, List.foldl_nil, Act.put, List.setIfInBounds_toArray, List.set_cons_zero, List.set_cons_succ] at hK ⊢
        generalize vs 3 = v3 at f3 hK ⊢
        generalize vs 6 = v6 at f6 hK ⊢
        rw [if_pos (by rfl)]
        subst f3 f6
        go_simp
        exact hK.out _ _ (Below.refl _ _) rfl
      case s8 =>
        refine StepF.of rfl [(7, some 22)] (by kernel_rfl) ?_
        intro vs u hB hf K hK
        have f7 : (fun v u => v = .string X3) (vs 7) u := hf.1
        clear hf
        simp only [putsA, List.foldl_cons, List.foldl_nil, Act.put, List.setIfInBounds_toArray, List.set_cons_zero, List.set_cons_succ] at hK ⊢
        generalize vs 7 = v7 at f7 hK ⊢
        rw [if_pos (by rfl)]
        subst f7
        go_simp
        exact hK.out _ _ (Below.refl _ _) rfl
      case last =>
        intro vs u hB hf K hK
        have f0 : (fun v u => v = .int .i64 (j : Int)) (vs 0) u := hf.1
        have f1 : (fun v u => v = .string Di) (vs 1) u := hf.2.1
        have f2 : (fun v u => v = .string X1) (vs 2) u := hf.2.2.1
        have f3 : (fun v u => v = .string X2) (vs 3) u := hf.2.2.2.1
        have f4 : (fun v u => v = .pointer (some ⟨wr.heap.size, 0, none⟩)) (vs 4) u := hf.2.2.2.2.1
        have f5 : (fun v u => v = .int .i64 b.args) (vs 5) u := hf.2.2.2.2.2.1
        have f6 : (fun v u => v = .string Da) (vs 6) u := hf.2.2.2.2.2.2.1
        have f7 : (fun v u => v = .string X3) (vs 7) u := hf.2.2.2.2.2.2.2.1
        have f8 : (fun v u => v = .string X4) (vs 8) u := hf.2.2.2.2.2.2.2.2.1
        clear hf
        simp only [putsA, List.foldl_cons, List.foldl_nil, Act.put, List.setIfInBounds_toArray, List.set_cons_zero, List.set_cons_succ]
        generalize vs 0 = v0 at f0 ⊢
        generalize vs 1 = v1 at f1 ⊢
        generalize vs 2 = v2 at f2 ⊢
        generalize vs 3 = v3 at f3 ⊢
        generalize vs 4 = v4 at f4 ⊢
        generalize vs 5 = v5 at f5 ⊢
        generalize vs 6 = v6 at f6 ⊢
        generalize vs 7 = v7 at f7 ⊢
        generalize vs 8 = v8 at f8 ⊢
        rw [if_pos (by rfl)]
        subst f8
        clear f0 f1 f2 f3 f4 f5 f6 f7
        go_simp
        refine ((HJu.out.below hB).write X4 (by have := HX4.out.2; omega)).mono ?_
        rintro e w5 ⟨r, rfl, j5, k5⟩
        have h5 : JW w (codeTo l j ++ (blkLine j b ++ opsTo b.ops 0)) w5 := by have := j5; rw [HX4.out.1] at this; simpa [opsTo] using this
        have J5 : Hid (JW w (codeTo l j ++ (blkLine j b ++ opsTo b.ops 0)) w5) := h5
        clear h5
        have C5 : Hid (w5.cell? ⟨wr.heap.size, 1, none⟩ = some (.slice (some ⟨gx, 0, none⟩) b.ops.length b.ops.length)) := by
          show _ = _
          rw [World.cell?_of_block (a := ⟨wr.heap.size, 1, none⟩) (k5 _ (Nat.lt_of_lt_of_le hlu hB.size) (fun hm => HNu.out (Mb.read (hB.block _ (HJu.out.lt)) hm)))]
          exact cell_keep hB HCu.out.2
        clear j5 k5 hB
        refine hK.out _ _ ?_
        clear hK
        have c5 := C5.out
        go_wp2_with fail
        clear c5 C5
        go_loopw [28] (fun i wx => ∃ k : Nat, k ≤ b.ops.length ∧ i = .int .i64 (k : Int) ∧ Hid (JW w (codeTo l j ++ (blkLine j b ++ opsTo b.ops k)) wx)) (fun i _ => b.ops.length - (RowKit.intOf i).toNat)
        case atStart => exact ⟨0, Nat.zero_le _, rfl, J5.out⟩
        case round =>
          obtain ⟨k, hk, rfl, HK⟩ := hrel
          by_cases hlk : k < b.ops.length
          · obtain ⟨gy, hoy⟩ := (HIo.out wr HK.out.2).at k hlk
            obtain ⟨t, ht⟩ : ∃ t, t = b.ops[k]'hlk := ⟨_, rfl⟩
            have hft := HFo.out _ (List.getElem_mem hlk)
            have hsm := HSm.out.names k hlk
            have hopl := opsTo_len b.ops hol HFo.out k hk
            have HON : Hid (opsTo b.ops (k + 1) = opsTo b.ops k ++ opLine k t) := by rw [ht]; exact opsTo_next b.ops k hlk
            rw [← ht] at hoy hft hsm
            have hll := opLine_len k t (by omega) hft
            obtain ⟨Ot, hOt⟩ : ∃ Ot : ByteArray, Ot = ⟨(opLine k t).toArray⟩ := ⟨_, rfl⟩
            have HOt : Hid (∀ u, Below wr.heap.size wr u → Calls Tryz.prog 51 #[.int .i64 (k : Int), t.val (.slice (some ⟨gy, 0, none⟩) t.data.length t.data.length)] u fun e w' => e = .returned (.string Ot) ∧ Below u.heap.size u w') := fun u hu => by rw [hOt]; exact HOp.out k t gy B u (by omega) hft hsm (hoy.data.below hu) ((HL.out.below HK.out.2).below hu)
            have hbl : (codeTo l j ++ (blkLine j b ++ opsTo b.ops k)).length ≤ 30000000 := by
              have hbb := HBL.out
              rw [List.length_append, List.length_append]
              omega
            have HOs : Hid (Ot.size ≤ 1720 ∧ Ot.data.toList = opLine k t) := ⟨by rw [hOt, size_mk]; exact hll, by rw [hOt]⟩
            have HBl : Hid ((codeTo l j ++ (blkLine j b ++ opsTo b.ops k)).length ≤ 30000000) := hbl
            obtain ⟨c0, c1, c2, c3, c4, c5, c6, _⟩ := hoy
            clear hft hsm hopl ht hll hOt hbl
            go_wp2_with fail
            refine (HOt.out _ (bnew0 _ _)).mono ?_
            rintro e w6 ⟨rfl, b6⟩
            have J6 : Hid (JW w (codeTo l j ++ (blkLine j b ++ opsTo b.ops k)) w6) := (HK.out.below (bnew0 _ _)).below b6
            clear b6 c0 c1 c2 c3 c4 c5 c6 HOt
            go_wp2_with fail
            refine (J6.out.write Ot (by have h1 := HBl.out; have h2 := HOs.out.1; omega)).mono ?_
            rintro e w7 ⟨r7, rfl, j7, -⟩
            have h7 : JW w (codeTo l j ++ (blkLine j b ++ opsTo b.ops (k + 1))) w7 := by
              have := j7
              rw [HOs.out.2] at this
              rw [HON.out]
              simpa using this
            have J7 : Hid (JW w (codeTo l j ++ (blkLine j b ++ opsTo b.ops (k + 1))) w7) := h7
            clear j7 h7 J6
            go_wp2
            exact ⟨⟨k + 1, by omega, by go_num, J7.out⟩, by simp [RowKit.intOf]; omega⟩
          · have hke : k = b.ops.length := by omega
            have h8 : JW w (codeTo l (j + 1)) wr := by rw [HCN.out, ← hke]; exact HK.out
            have J8 : Hid (JW w (codeTo l (j + 1)) wr) := h8
            clear h8 HK
            go_wp2
            exact ⟨⟨j + 1, by omega, by go_num, J8.out⟩, by simp [RowKit.intOf]; omega⟩
    · have hkl : j = l.length := by omega
      have HJl : Hid (JW w (codeT l) wr) := by have := HJ.out; rw [hkl] at this; exact this
      obtain ⟨⟨v, hv⟩, hw⟩ := HJl.out
      have HS : Hid (Calls Tryz.prog 52 #[.pointer (some ⟨w.heap.size, 0, none⟩)] wr fun e w' => e = .returned (.string R) ∧ Below w.heap.size wr w') := by
        rw [HR.out]
        exact (Tryz.Builder_String_any_k w.heap.size w.heap.size (codeT l) wr (IsBuilderF.of hv.is) hw.size).mono fun e w' h => ⟨h.1, h.2.2.1⟩
      have HBw : Hid (Below w.heap.size w wr) := hw
      clear hv hw
      go_wp2_with (go_at_call 52; refine HS.out.mono ?_; rintro e w' ⟨rfl, b9⟩)
      go_ret
      exact ⟨rfl, HBw.out.trans b9⟩
end Go.Proofs.YtkdhmijebkhmaaaGreatDoor
