/-
  The program's opText: the line of an operation; nothing that was there is turned.
-/
import Derived.Test.YtkdhmijebkhmaaaGreatDoorImplWC
import Derived.Test.YtkdhmijebkhmaaaGreatDoorCtK
import Derived.Deep.Upon
namespace Go.Proofs.YtkdhmijebkhmaaaGreatDoor
open Go.RowKit Go.Extern.Stop Go.Stop Go.Extern Num Go.Lib Go.Shelf

/-- A slice of one's own that holds these words. -/
def WdsAt (W : World) (L : List ByteArray) (v : Value) (x : World) : Prop := ∃ ao cp, v = .slice ao L.length cp ∧ x.ownsRow W.heap.size 9 1 v L.length (cellsT L) ∧ Below W.heap.size W x
theorem WdsAt.below {W : World} {L : List ByteArray} {v : Value} {x y : World} (h : WdsAt W L v x) (hb : Below x.heap.size x y) : WdsAt W L v y := by
  obtain ⟨ao, cp, rfl, h1, h2⟩ := h
  exact ⟨ao, cp, rfl, own_below h1 hb, h2.trans (hb.mono h2.size)⟩
def optB (b : Bool) (x : ByteArray) : List ByteArray := if b then [x] else []
theorem optB_len (b : Bool) (x : ByteArray) : (optB b x).length ≤ 1 := by cases b <;> simp [optB]
/-- The words of an operation's line. -/
def wordsOf (k : Nat) (t : Opr) : List ByteArray := (([itB (k : Int) ++ ⟨#[58]⟩, wordO t.kind] ++ optB (namedO t.kind) t.name) ++ optB (constO t.kind) ⟨(writeF t.data t.data.length 0).toArray⟩) ++ txts [t.a, t.b, t.c, t.d] (numsO t.kind)
theorem flat_txts (L : List Int) (n : Nat) : joinTail [32] ((txts L n).map (·.data.toList)) = (L.take n).flatMap (fun x => 32 :: itoa x) := by
  unfold txts joinTail
  induction L.take n with
  | nil => rfl
  | cons x r ih => simp only [List.map_cons, List.flatten_cons, List.flatMap_cons, ih]; rfl
theorem joinTail_app (s : List UInt8) (a b : List (List UInt8)) : joinTail s (a ++ b) = joinTail s a ++ joinTail s b := by simp [joinTail]
theorem joinTail_opt (s : List UInt8) (b : Bool) (x : ByteArray) : joinTail s ((optB b x).map (·.data.toList)) = if b then s ++ x.data.toList else [] := by cases b <;> simp [joinTail, optB]
theorem join_words (k : Nat) (t : Opr) : Lib.join ((wordsOf k t).map (·.data.toList)) [32] ++ [10] = opLine k t := by
  unfold wordsOf
  simp only [List.map_append, List.map_cons, List.cons_append, List.nil_append, join_cons]
  rw [show ∀ (a : List UInt8) (b c d : List (List UInt8)), joinTail [32] (a :: (b ++ c ++ d)) = (32 :: a) ++ (joinTail [32] b ++ (joinTail [32] c ++ joinTail [32] d)) from fun a b c d => by simp [joinTail]]
  rw [flat_txts, joinTail_opt, joinTail_opt]
  unfold opLine opT nameT dataT numsTo numsL itB
  simp

/-- Words behind words: also none. -/
theorem append_words (W : World) (L T : List ByteArray) (v v2 : Value) (x : World) (N : Nat) {o : Oper} {a : Act} {K : Act → World → Prop} {Q : Exit → Act → World → Prop} (s y : Operand) (ho : o.op = .call { callee := .builtin .append, args := #[s, y], argTypes := #[81, 81] }) (hs : a.eval s = v) (hw : WdsAt W L v x) (hy : a.eval y = v2)
    (ht : ∃ ao cp, v2 = .slice ao T.length cp ∧ x.ownsRow N 9 1 v2 T.length (cellsT T)) (hl : L.length + T.length ≤ 100) (h : ∀ v' x', WdsAt W (L ++ T) v' x' → K (a.put o.dst v') x') : o.wp Tryz.prog a x K Q := by
  obtain ⟨i0, hi, hy0, hy1, hy2⟩ := info_parts infoT
  obtain ⟨ao, cp, rfl, hown, hb⟩ := hw
  obtain ⟨at2, cp2, rfl, ho2⟩ := ht
  by_cases h0 : T = []
  · subst h0
    have hle : L.length ≤ cp := by
      rcases hown.2 with ⟨hv, hn⟩ | ⟨g, cap, cur, hv, _, _, hle, _⟩
      · omega
      · simp at hv; omega
    have hsrc : Src Tryz.prog i0.size 81 (.slice at2 ([] : List ByteArray).length cp2) 0 [] x := by
      cases at2 with
      | none => exact Src.ofNil x Tryz.underlying81 cp2
      | some ad => exact Src.ofSlice x Tryz.underlying81 ad 0 cp2 [] (by simp) (fun j u hj => by simp at hj) (fun u hu => by cases hu)
    have hr := run_append_nothing (P := Tryz.prog) x 81 81 o.type 9 i0 Tryz.underlying81 hi ao L.length cp hle _ hsrc
    unfold Oper.wp execOp
    simp only [ho, resolve, invoke, builtin, Sem.run_bind, Sem.run_pure, Result.andThen_ok, List.map_toArray, List.map_cons, List.map_nil, hs, hy, hr]
    exact h _ _ ⟨ao, cp, by simp, by simpa using hown, hb⟩
  · have hp : 0 < T.length := List.length_pos_iff.2 h0
    rcases ho2.2 with ⟨_, hn⟩ | ⟨g, cap, cur, hv, _⟩
    · omega
    · obtain ⟨rfl, rfl⟩ : at2 = some ⟨g, 0, none⟩ ∧ cp2 = cap := by simpa using hv
      refine wp_append_lies x s y 81 ho W.heap.size 9 i0 _ 1 16 Tryz.underlying81 hi hy0 hy1 hy2 rfl (by decide) _ L.length (cellsT L) hs hown ⟨g, 0, none⟩ T.length cp2 (cellsT T) hy (by rw [cellsT_length, Nat.mul_one]) (ho2.cells rfl) ?_ hp (by unfold maxLen; omega) (by omega) hb.size _ rfl ?_
      · intro u hu
        obtain ⟨z, _, rfl⟩ := List.mem_map.1 hu
        rfl
      · intro g' cap' w' hown' hgrow _ _
        refine h _ _ ⟨some ⟨g', 0, none⟩, cap', by rw [List.length_append], ?_, hb.grown hgrow hb.size (fun j hj => (hown.lt j hj).1)⟩
        rw [cellsT_append, List.length_append]
        exact hown'

theorem own_two (w : World) (a b : ByteArray) {n : Nat} (h : n ≤ w.heap.size) : (w.alloc (.cells #[.string a, .string b] 9)).ownsRow n 9 1 (.slice (some ⟨w.heap.size, 0, none⟩) 2 2) 2 (cellsT [a, b]) := by
  exact ⟨rfl, .inr ⟨w.heap.size, 2, #[.string a, .string b], rfl, h, heap_alloc_new _ _, Nat.le_refl _, by unfold maxLen; omega, rfl, rfl⟩⟩
set_option maxRecDepth 100000 in
set_option maxHeartbeats 2000000 in
theorem opText_any (k : Nat) (t : Opr) (gx B : Nat) (w : World) (hk : k ≤ 999) (hf : opFault t = 0) (ht : t.small) (hd : IsD w B gx t.data.length t.data) (hL : LT w) : Calls Tryz.prog 51 #[.int .i64 (k : Int), t.val (.slice (some ⟨gx, 0, none⟩) t.data.length t.data.length)] w fun e w' => e = .returned (.string ⟨(opLine k t).toArray⟩) ∧ Below w.heap.size w w' := by
  have HSh : Hid (∀ x, Calls Tryz.prog 68 #[.int .i64 t.kind] x fun e w' => e = .returned (.tuple #[shpV (wordO t.kind) (numsO t.kind) (namedO t.kind) (constO t.kind), .bool (inO t.kind)]) ∧ Below x.heap.size x w') := fun x => shapeOf_any t.kind x
  have HOp : Hid (∀ x, Calls Tryz.prog 34 #[t.val (.slice (some ⟨gx, 0, none⟩) t.data.length t.data.length)] x fun e w' => e = .returned t.num ∧ Below x.heap.size x w') := fun x => operationOf_any t _ x
  obtain ⟨hki, hnu, hnm, hda⟩ := opOk hf
  have hn4 := numsO_le4 t.kind
  obtain ⟨Td, hTd⟩ : ∃ Td : ByteArray, Td = ⟨(writeF t.data t.data.length 0).toArray⟩ := ⟨_, rfl⟩
  have HDt : Hid (constO t.kind = true → ∀ u, Below w.heap.size w u → Calls Tryz.prog 69 #[.slice (some ⟨gx, 0, none⟩) t.data.length t.data.length] u fun e w' => e = .returned (.string Td) ∧ Below u.heap.size u w') := fun hc u hu => by rw [hTd]; exact dataText_any gx _ B t.data u (hd.below hu) ht.names (hda hc) (hL.below hu)
  have HTx : Hid (∀ u, Below w.heap.size w u → Calls Tryz.prog 70 #[.agg #[.int .i64 t.a, .int .i64 t.b, .int .i64 t.c, .int .i64 t.d], .int .i64 (numsO t.kind : Int)] u fun e w' => ∃ ao cp, e = .returned (.slice ao (txts [t.a, t.b, t.c, t.d] (numsO t.kind)).length cp) ∧ w'.ownsRow u.heap.size 9 1 (.slice ao (txts [t.a, t.b, t.c, t.d] (numsO t.kind)).length cp) (txts [t.a, t.b, t.c, t.d] (numsO t.kind)).length (cellsT (txts [t.a, t.b, t.c, t.d] (numsO t.kind))) ∧ Below u.heap.size u w') := fun u hu => texts_any t.a t.b t.c t.d (numsO t.kind) u hn4 hnu (hL.below hu)
  obtain ⟨Di, hDi⟩ : ∃ Di : ByteArray, Di = itB (k : Int) := ⟨_, rfl⟩
  have HDi : Hid (∀ u, Below w.heap.size w u → Calls Tryz.prog 49 #[.int .i64 (k : Int)] u fun e w' => e = .returned (.string Di) ∧ Below u.heap.size u w') := fun u hu => by rw [hDi]; exact itoa9_any _ u (by omega) (by omega) (hL.below hu).tab
  have sDi : Di.size ≤ 3 := by rw [hDi]; unfold itB; rw [size_mk]; exact itoa_nat_len k hk
  have k1 : (⟨#[58]⟩ : ByteArray).size = 1 := rfl
  obtain ⟨X1, hX1⟩ : ∃ X1 : ByteArray, X1 = Di ++ ⟨#[58]⟩ := ⟨_, rfl⟩
  have a1 := fun (w : World) => run_string_add_sum (P := Tryz.prog) w Di ⟨#[58]⟩ (by omega)
  rw [← hX1] at a1
  have HWo : Hid (wordsOf k t = (([X1, wordO t.kind] ++ optB (namedO t.kind) t.name) ++ optB (constO t.kind) Td) ++ txts [t.a, t.b, t.c, t.d] (numsO t.kind)) := by
    show _ = _
    rw [hX1, hDi, hTd]; rfl
  have HJw : Hid (Lib.join ((wordsOf k t).map (·.data.toList)) [32] ++ [10] = opLine k t) := join_words k t
  have HLen : Hid ((opLine k t).length ≤ 1720) := opLine_len k t hk hf
  have HTl : Hid ((txts [t.a, t.b, t.c, t.d] (numsO t.kind)).length = numsO t.kind) := txts_len _ _ hn4
  obtain ⟨Tx, hTx⟩ : ∃ Tx, Tx = txts [t.a, t.b, t.c, t.d] (numsO t.kind) := ⟨_, rfl⟩
  rw [← hTx] at HTx HTl HWo
  obtain ⟨Lw, hLw⟩ : ∃ Lw, Lw = wordsOf k t := ⟨_, rfl⟩
  rw [← hLw] at HWo HJw
  obtain ⟨R, hR⟩ : ∃ R : ByteArray, R = ⟨(opLine k t).toArray⟩ := ⟨_, rfl⟩
  have HR : Hid (R = ⟨(opLine k t).toArray⟩) := hR
  rw [← hR]
  obtain ⟨sw, hsw⟩ : ∃ sw, sw = wordO t.kind := ⟨_, rfl⟩
  obtain ⟨n, hn⟩ : ∃ n, n = numsO t.kind := ⟨_, rfl⟩
  obtain ⟨na, hna⟩ : ∃ na, na = namedO t.kind := ⟨_, rfl⟩
  obtain ⟨co, hco⟩ : ∃ co, co = constO t.kind := ⟨_, rfl⟩
  rw [← hsw, ← hn, ← hna, ← hco] at HSh
  rw [← hsw, ← hna, ← hco] at HWo
  rw [← hco] at HDt
  rw [← hn] at HTx HTl hn4
  clear hnm hda hTd hDi hX1 k1 sDi hTx hLw hR hsw hn hna hco hf ht hd hL hnu
  obtain ⟨W0, hW0⟩ : ∃ W0, W0 = w.alloc (.cells #[.int .i64 t.kind, .int .i64 t.a, .int .i64 t.b, .int .i64 t.c, .int .i64 t.d, .string t.name, .slice (some ⟨gx, 0, none⟩) t.data.length t.data.length] 59) := ⟨_, rfl⟩
  have HW0 : Hid (W0 = w.alloc (.cells #[.int .i64 t.kind, .int .i64 t.a, .int .i64 t.b, .int .i64 t.c, .int .i64 t.d, .string t.name, .slice (some ⟨gx, 0, none⟩) t.data.length t.data.length] 59)) := hW0
  have HB0 : Hid (Below w.heap.size w W0) := by rw [hW0]; exact bnew _ _
  have HO0 : Hid (OBx W0 w.heap.size t (.slice (some ⟨gx, 0, none⟩) t.data.length t.data.length)) := by rw [hW0]; exact newO _ _ _ _
  have hz0 : w.heap.size < W0.heap.size := by rw [hW0]; simp
  have c0 := HO0.out.c0
  clear hW0
  unfold Opr.val
  go_enter Tryz.func51, Tryz.ntmps51
  go_wp2_with fail
  rw [← HW0.out]
  refine (HSh.out _).mono ?_
  rintro e w1 ⟨rfl, b1⟩
  obtain ⟨W1, hW1⟩ : ∃ W1, W1 = w1.alloc (.cells #[.string sw, .int .i64 (n : Int), .bool na, .bool co] 115) := ⟨_, rfl⟩
  have HW1 : Hid (W1 = w1.alloc (.cells #[.string sw, .int .i64 (n : Int), .bool na, .bool co] 115)) := hW1
  have HB1 : Hid (Below w.heap.size w W1) := by rw [hW1]; exact (HB0.out.trans (b1.mono HB0.out.size)).alloc (by have := b1.size; omega) _
  have HO1 : Hid (OBx W1 w.heap.size t (.slice (some ⟨gx, 0, none⟩) t.data.length t.data.length)) := by rw [hW1]; exact (HO0.out.below b1).below (bnew _ _)
  have HS1 : Hid (SBx W1 w1.heap.size sw n na co) := by rw [hW1]; exact newS _ _ _ _ _ _
  clear b1 c0 HB0 HO0 HW0 HSh hW1
  go_wp2_with fail
  rw [← HW1.out]
  clear HW1
  refine wp_region_facts (by kernel_rfl) 6 (fun v => Below W1.heap.size W1 v) (fun u v => Below u.heap.size u v) (fun i v u => match i with | 0 => (fun v u => v = .int .i64 (k : Int)) v u | 1 => (fun v u => v = .string Di) v u | 2 => (fun v u => v = .string X1) v u | 3 => (fun v u => v = .pointer (some ⟨w1.heap.size, 0, none⟩)) v u | 4 => (fun v u => v = .string sw) v u | 5 => (fun v u => WdsAt W1 [X1, sw] v u) v u | _ => True) (by kernel_rfl) [0, 1, 2, 3, 4, 5] (by kernel_rfl) ?b0 ?bk ?fk ⟨?s0, ?s1, ?s2, ?s3, ?s4, ?s5, trivial⟩ _ rfl [(0, some 14), (1, some 15), (2, some 16), (3, some 17), (4, some 18), (5, some 19)] (by kernel_rfl) ?last
  case b0 => exact Below.drew (Below.refl _ _)
  case bk => exact fun u v h hb => h.trans (hb.mono h.size)
  case fk => intro i v u u' h hb; match i, h with | 0, h => exact (h) | 1, h => exact (h) | 2, h => exact (h) | 3, h => exact (h) | 4, h => exact (h) | 5, h => exact (WdsAt.below h hb) | _ + 6, _ => exact trivial
  case s0 =>
    refine StepF.of rfl [] (by kernel_rfl) ?_
    intro vs u hB hf K hK
    clear hf
    simp only [putsA, List.foldl_nil, Act.put, List.setIfInBounds_toArray] at hK ⊢
    rw [if_pos (by rfl)]
    go_simp
    exact hK.out _ _ (Below.refl _ _) rfl
  case s1 =>
    refine StepF.of rfl [(0, some 14)] (by kernel_rfl) ?_
    intro vs u hB hf K hK
    have f0 : (fun v u => v = .int .i64 (k : Int)) (vs 0) u := hf.1
    clear hf
    simp only [putsA, List.foldl_cons, List.foldl_nil, Act.put, List.setIfInBounds_toArray, List.set_cons_zero, List.set_cons_succ] at hK ⊢
    generalize vs 0 = v0 at f0 hK ⊢
    rw [if_pos (by rfl)]
    subst f0
    go_simp
    refine (HDi.out _ (HB1.out.trans (hB.mono HB1.out.size))).mono ?_
    rintro e w4 ⟨rfl, b4⟩
    exact hK.out _ _ b4 rfl
  case s2 =>
    refine StepF.of rfl [(1, some 15)] (by kernel_rfl) ?_
    intro vs u hB hf K hK
    have f1 : (fun v u => v = .string Di) (vs 1) u := hf.1
    clear hf
    simp only [putsA, List.foldl_cons, List.foldl_nil, Act.put, List.setIfInBounds_toArray, List.set_cons_zero, List.set_cons_succ] at hK ⊢
    generalize vs 1 = v1 at f1 hK ⊢
    rw [if_pos (by rfl)]
    subst f1
    go_simp
    exact hK.out _ _ (Below.refl _ _) rfl
  case s3 =>
    refine StepF.of rfl [] (by kernel_rfl) ?_
    intro vs u hB hf K hK
    clear hf
    simp only [putsA, List.foldl_nil, Act.put, List.setIfInBounds_toArray] at hK ⊢
    rw [if_pos (by rfl)]
    go_simp
    exact hK.out _ _ (Below.refl _ _) rfl
  case s4 =>
    refine StepF.of rfl [(3, some 17)] (by kernel_rfl) ?_
    intro vs u hB hf K hK
    have f3 : (fun v u => v = .pointer (some ⟨w1.heap.size, 0, none⟩)) (vs 3) u := hf.1
    clear hf
    simp only [putsA, List.foldl_cons, List.foldl_nil, Act.put, List.setIfInBounds_toArray, List.set_cons_zero, List.set_cons_succ] at hK ⊢
    generalize vs 3 = v3 at f3 hK ⊢
    rw [if_pos (by rfl)]
    subst f3
    have d0 := cell_keep hB HS1.out.c0
    go_simp
    exact hK.out _ _ (Below.refl _ _) rfl
  case s5 =>
    refine StepF.of rfl [(2, some 16), (4, some 18)] (by kernel_rfl) ?_
    intro vs u hB hf K hK
    have f2 : (fun v u => v = .string X1) (vs 2) u := hf.1
    have f4 : (fun v u => v = .string sw) (vs 4) u := hf.2.1
    clear hf
    simp only [putsA, List.foldl_cons, List.foldl_nil, Act.put, List.setIfInBounds_toArray, List.set_cons_zero, List.set_cons_succ] at hK ⊢
    generalize vs 2 = v2 at f2 hK ⊢
    generalize vs 4 = v4 at f4 hK ⊢
    rw [if_pos (by rfl)]
    subst f2 f4
    go_simp
    exact hK.out _ _ (bnew _ _) ⟨_, _, rfl, own_two _ _ _ hB.size, hB.alloc hB.size _⟩
  case last =>
    intro vs u hB hf K hK
    have f0 : (fun v u => v = .int .i64 (k : Int)) (vs 0) u := hf.1
    have f1 : (fun v u => v = .string Di) (vs 1) u := hf.2.1
    have f2 : (fun v u => v = .string X1) (vs 2) u := hf.2.2.1
    have f3 : (fun v u => v = .pointer (some ⟨w1.heap.size, 0, none⟩)) (vs 3) u := hf.2.2.2.1
    have f4 : (fun v u => v = .string sw) (vs 4) u := hf.2.2.2.2.1
    have f5 : (fun v u => WdsAt W1 [X1, sw] v u) (vs 5) u := hf.2.2.2.2.2.1
    clear hf
    simp only [putsA, List.foldl_cons, List.foldl_nil, Act.put, List.setIfInBounds_toArray, List.set_cons_zero, List.set_cons_succ]
    generalize vs 0 = v0 at f0 ⊢
    generalize vs 1 = v1 at f1 ⊢
    generalize vs 2 = v2 at f2 ⊢
    generalize vs 3 = v3 at f3 ⊢
    generalize vs 4 = v4 at f4 ⊢
    generalize vs 5 = v5 at f5 ⊢
    rw [if_pos (by rfl)]
    clear f0 f1 f2 f3 f4 hB
    have HWd : Hid (WdsAt W1 [X1, sw] v5 u) := f5
    clear f5
    go_simp
    refine hK.out _ _ ?_
    clear hK
    obtain ⟨i0, hi, hy0, hy1, hy2⟩ := info_parts infoT
    have s2 : u.cell? ⟨w1.heap.size, 2, none⟩ = some (.bool na) := by
      obtain ⟨ao, cp, _, _, hb⟩ := HWd.out
      exact cell_keep hb HS1.out.c2
    go_upto_if 21 with fail
    clear s2
    go_cut [7] from 14 to 45 (fun v wx => Hid (WdsAt W1 ([X1, sw] ++ optB na t.name) v wx))
    case first =>
      obtain ⟨ao, cp, rfl, ho, hb⟩ := HWd.out
      have HO2 : Hid (u.ownsRow W1.heap.size 9 1 (.slice ao [X1, sw].length cp) [X1, sw].length (cellsT [X1, sw])) := ho
      have HB2 : Hid (Below W1.heap.size W1 u) := hb
      have o5 := cell_keep hb HO1.out.c5
      have hzu := hb.size
      clear ho hb HWd
      cases na
      · go_wp2_with fail
        go_meet
        exact ⟨ao, cp, rfl, HO2.out, HB2.out⟩
      · go_wp2_with (at_builtin; refine wpList_append_lies _ rfl (.tmp 22) (.tmp 25) 81 rfl W1.heap.size 9 i0 _ 1 16 Tryz.underlying81 hi hy0 hy1 hy2 rfl (by decide) _ 2 (cellsT [X1, sw]) rfl (HO2.out.alloc _) ⟨_, 0, none⟩ 1 1 [.string t.name] rfl rfl ?c1 ?c2 (by decide) ?c3 ?c4 ?c5 _ rfl ?_)
        case c1 => exact newsT (heap_new' _ _ _ (by simp))
        case c2 => intro u hu; simp at hu; subst hu; rfl
        case c3 => unfold maxLen; omega
        case c4 => omega
        case c5 => simp; omega
        intro g' cap' w2 hown1 hgrow1 _ _
        have HW2 : Hid (WdsAt W1 ([X1, sw] ++ optB true t.name) (.slice (some ⟨g', 0, none⟩) 3 cap') w2) := ⟨_, _, rfl, hown1, (HB2.out.alloc hzu _).grown hgrow1 (by simp; omega) (fun j hj => (HO2.out.lt j hj).1)⟩
        clear hown1 hgrow1 o5
        go_wp2_with fail
        go_meet
        exact HW2.out
    case rest =>
      clear HWd
      obtain ⟨L2, hL2⟩ : ∃ L2, L2 = [X1, sw] ++ optB na t.name := ⟨_, rfl⟩
      have hl2' : 2 ≤ L2.length := by rw [hL2]; simp
      have hl2 : L2.length ≤ 3 := by have := optB_len na t.name; rw [hL2]; simp; omega
      rw [← hL2] at hcut HWo
      clear hL2
      have s3 : wc.cell? ⟨w1.heap.size, 3, none⟩ = some (.bool co) := by
        obtain ⟨ao, cp, _, _, hb⟩ := hcut.out
        exact cell_keep hb HS1.out.c3
      go_upto_if 28 with fail
      clear s3
      go_cut [7] from 14 to 45 (fun v wx => Hid (WdsAt W1 (L2 ++ optB co Td) v wx))
      case first =>
        obtain ⟨ao, cp, rfl, ho, hb⟩ := hcut.out
        have HO2 : Hid (wc.ownsRow W1.heap.size 9 1 (.slice ao L2.length cp) L2.length (cellsT L2)) := ho
        have HB2 : Hid (Below W1.heap.size W1 wc) := hb
        have o6 := cell_keep hb HO1.out.c6
        have hzu := hb.size
        have HDu : Hid (co = true → Calls Tryz.prog 69 #[.slice (some ⟨gx, 0, none⟩) t.data.length t.data.length] wc fun e w' => e = .returned (.string Td) ∧ Below wc.heap.size wc w') := fun hc => HDt.out hc _ (HB1.out.trans (HB2.out.mono HB1.out.size))
        clear ho hb hcut HDt
        cases co
        · go_wp2_with fail
          go_meet
          exact ⟨ao, cp, by simp [optB], by simpa [optB] using HO2.out, HB2.out⟩
        · go_wp2_with fail
          refine (HDu.out (by first | rfl | trivial)).mono ?_
          rintro e w3 ⟨rfl, b3⟩
          have HO3 : Hid (w3.ownsRow W1.heap.size 9 1 (.slice ao L2.length cp) L2.length (cellsT L2)) := own_below HO2.out b3
          have HB3 : Hid (Below W1.heap.size W1 w3) := HB2.out.trans (b3.mono hzu)
          have hzv := HB3.out.size
          clear b3 o6
          go_wp2_with (at_builtin; refine wpList_append_lies _ rfl (.tmp 29) (.tmp 33) 81 rfl W1.heap.size 9 i0 _ 1 16 Tryz.underlying81 hi hy0 hy1 hy2 rfl (by decide) _ L2.length (cellsT L2) rfl (HO3.out.alloc _) ⟨_, 0, none⟩ 1 1 [.string Td] rfl rfl ?c1 ?c2 (by decide) ?c3 ?c4 ?c5 _ rfl ?_)
          case c1 => exact newsT (heap_new' _ _ _ (by simp))
          case c2 => intro u hu; simp at hu; subst hu; rfl
          case c3 => unfold maxLen; omega
          case c4 => omega
          case c5 => simp; omega
          intro g' cap' w2 hown1 hgrow1 _ _
          have HW2 : Hid (WdsAt W1 (L2 ++ optB true Td) (.slice (some ⟨g', 0, none⟩) (L2.length + 1) cap') w2) := ⟨some ⟨g', 0, none⟩, cap', by simp [optB], by simp only [optB, if_true, cellsT_append, List.length_append]; exact hown1, (HB3.out.alloc hzv _).grown hgrow1 (by simp; omega) (fun j hj => (HO3.out.lt j hj).1)⟩
          clear hown1 hgrow1
          go_wp2_with fail
          go_meet
          exact HW2.out
      case rest =>
        obtain ⟨L3, hL3⟩ : ∃ L3, L3 = L2 ++ optB co Td := ⟨_, rfl⟩
        have hl3 : L3.length ≤ 4 := by have := optB_len co Td; rw [hL3]; simp; omega
        rw [← hL3] at hcut HWo
        have HL3 : Hid (2 ≤ L3.length) := by show _ ≤ _; have := hl2'; rw [hL3, List.length_append]; omega
        clear hL3 hl2 hl2'
        obtain ⟨ao, cp, rfl, ho, hb⟩ := hcut.out
        have HW3 : Hid (WdsAt W1 L3 (.slice ao L3.length cp) wc) := ⟨ao, cp, rfl, ho, hb⟩
        have HB3 : Hid (Below W1.heap.size W1 wc) := hb
        have HSS : Hid (∀ x, Below W1.heap.size W1 x → OBx x w.heap.size t (.slice (some ⟨gx, 0, none⟩) t.data.length t.data.length) ∧ x.cell? ⟨w1.heap.size, 1, none⟩ = some (.int .i64 (n : Int))) := fun x hx => ⟨HO1.out.below hx, cell_keep hx HS1.out.c1⟩
        clear ho hb hcut
        go_upto_region 7 with fail
        refine wp_region_held (S := fun x => OBx x w.heap.size t (.slice (some ⟨gx, 0, none⟩) t.data.length t.data.length) ∧ x.cell? ⟨w1.heap.size, 1, none⟩ = some (.int .i64 (n : Int))) (by kernel_rfl) ?_
        obtain ⟨Y, hY⟩ : ∃ Y, Y = wc.drew := ⟨_, rfl⟩
        rw [show ({ wc with drawn := wc.drawn + 1 } : World) = Y from hY.symm]
        have HBY : Hid (Below W1.heap.size W1 Y) := by rw [hY]; exact HB3.out.drew
        have HWY : Hid (WdsAt W1 L3 (.slice ao L3.length cp) Y) := by rw [hY]; exact HW3.out.below (Below.drew (Below.refl _ _))
        have HS0 : Hid (OBx Y w.heap.size t (.slice (some ⟨gx, 0, none⟩) t.data.length t.data.length) ∧ Y.cell? ⟨w1.heap.size, 1, none⟩ = some (.int .i64 (n : Int))) := HSS.out Y HBY.out
        clear hY HW3 HB3
        refine wpAnyH_take (i := 0) (v := .slice ao L3.length cp) (by rfl) (by kernel_rfl) (by kernel_rfl) (by kernel_rfl) (by intro _ _ _ h; exact h) (Or.inl ⟨by rfl, fun u hu => by go_simp⟩) HS0.out ?_
        try simp only [Act.put]
        try simp only [List.setIfInBounds_toArray]
        try simp only [List.set_cons_zero, List.set_cons_succ]
        refine wpAnyH_take (i := 1) (v := .agg #[.int .i64 t.kind, .int .i64 t.a, .int .i64 t.b, .int .i64 t.c, .int .i64 t.d, .string t.name, .slice (some ⟨gx, 0, none⟩) t.data.length t.data.length]) (by rfl) (by kernel_rfl) (by kernel_rfl) (by kernel_rfl) (by intro _ _ _ h; exact h) (yieldsIf_load_mid (by rfl) 59 _ rfl w.heap.size 0 rfl [.int .i64 t.kind, .int .i64 t.a, .int .i64 t.b, .int .i64 t.c, .int .i64 t.d, .string t.name, .slice (some ⟨gx, 0, none⟩) t.data.length t.data.length] _ (fun u hu j v hv => by
          have h := hu.1
          match j, hv with
          | 0, hv => simp at hv; subst hv; simpa using h.c0
          | 1, hv => simp at hv; subst hv; simpa using h.c1
          | 2, hv => simp at hv; subst hv; simpa using h.c2
          | 3, hv => simp at hv; subst hv; simpa using h.c3
          | 4, hv => simp at hv; subst hv; simpa using h.c4
          | 5, hv => simp at hv; subst hv; simpa using h.c5
          | 6, hv => simp at hv; subst hv; simpa using h.c6) Tryz.underlying59 rfl (by kernel_rfl)) HS0.out ?_
        try simp only [Act.put]
        try simp only [List.setIfInBounds_toArray]
        try simp only [List.set_cons_zero, List.set_cons_succ]
        refine wpAnyH_take (i := 4) (v := .pointer (some ⟨w1.heap.size, 1, none⟩)) (by rfl) (by kernel_rfl) (by kernel_rfl) (by kernel_rfl) (by intro _ _ _ h; exact h) (Or.inl ⟨by rfl, fun u hu => by go_simp⟩) HS0.out ?_
        try simp only [Act.put]
        try simp only [List.setIfInBounds_toArray]
        try simp only [List.set_cons_zero, List.set_cons_succ]
        refine wpAnyH_take (i := 5) (v := .int .i64 (n : Int)) (by rfl) (by kernel_rfl) (by kernel_rfl) (by kernel_rfl) (by intro _ _ _ h; exact h) (Or.inl ⟨by rfl, fun u hu => by
          have h1 := hu.2
          clear hu
          go_simp⟩) HS0.out ?_
        try simp only [Act.put]
        try simp only [List.setIfInBounds_toArray]
        try simp only [List.set_cons_zero, List.set_cons_succ]
        refine wpAnyH_all (rs := [2]) (by kernel_rfl) (by simp) ?_
        intro i hi2
        obtain rfl : i = 2 := by simpa using hi2
        refine wpOp_step (by rfl) (fun K' hK => ?_)
        rw [if_pos (by rfl)]
        replace hK : Shut (∀ a w, _ → K' a w) := hK
        go_simp
        refine (HOp.out _).mono ?_
        rintro e w5 ⟨rfl, b5⟩
        have HW5 : Hid (WdsAt W1 L3 (.slice ao L3.length cp) w5) := HWY.out.below b5
        have HB5 : Hid (Below W1.heap.size W1 w5) := HBY.out.trans (b5.mono HBY.out.size)
        refine hK.out _ _ ⟨HSS.out _ HB5.out, ?_⟩
        clear hK b5 HWY HBY HS0
        refine wpAnyH_all (rs := [3]) (by kernel_rfl) (by simp) ?_
        intro i hi2
        obtain rfl : i = 3 := by simpa using hi2
        refine wpOp_step (by rfl) (fun K' hK => ?_)
        rw [if_pos (by rfl)]
        replace hK : Shut (∀ a w, _ → K' a w) := hK
        go_simp
        refine hK.out _ _ ⟨HSS.out _ HB5.out, ?_⟩
        clear hK
        refine wpAnyH_all (rs := [6]) (by kernel_rfl) (by simp) ?_
        intro i hi2
        obtain rfl : i = 6 := by simpa using hi2
        refine wpOp_step (by rfl) (fun K' hK => ?_)
        rw [if_pos (by rfl)]
        replace hK : Shut (∀ a w, _ → K' a w) := hK
        go_simp
        refine (HTx.out _ (HB1.out.trans (HB5.out.mono HB1.out.size))).mono ?_
        rintro e w6 ⟨at6, cp6, rfl, o6, b6⟩
        have HW6 : Hid (WdsAt W1 L3 (.slice ao L3.length cp) w6) := HW5.out.below b6
        have HB6 : Hid (Below W1.heap.size W1 w6) := HB5.out.trans (b6.mono HB5.out.size)
        have HO6 : Hid (w6.ownsRow w5.heap.size 9 1 (.slice at6 Tx.length cp6) Tx.length (cellsT Tx)) := o6
        refine hK.out _ _ ⟨HSS.out _ HB6.out, ?_⟩
        clear hK b6 o6 HW5 HB5
        refine wpAnyH_all (rs := [7]) (by kernel_rfl) (by simp) ?_
        intro i hi2
        obtain rfl : i = 7 := by simpa using hi2
        refine wpOp_step (by rfl) (fun K' hK => ?_)
        rw [if_pos (by rfl)]
        replace hK : Shut (∀ a w, _ → K' a w) := hK
        refine append_words W1 L3 Tx _ _ w6 w5.heap.size (.tmp 35) (.tmp 41) rfl rfl HW6.out rfl ⟨_, _, rfl, HO6.out⟩ (by have := HTl.out; omega) ?_
        intro v7 w7 hw7
        rw [← HWo.out] at hw7
        have HW7 : Hid (WdsAt W1 Lw v7 w7) := hw7
        have HB7 : Hid (Below W1.heap.size W1 w7) := by obtain ⟨_, _, _, _, h⟩ := hw7; exact h
        refine hK.out _ _ ⟨HSS.out _ HB7.out, ?_⟩
        clear hK hw7 HW6 HB6 HO6
        refine wpAnyH_all (rs := [8]) (by kernel_rfl) (by simp) ?_
        intro i hi2
        obtain rfl : i = 8 := by simpa using hi2
        refine wpOp_step (by rfl) (fun K' hK => ?_)
        rw [if_pos (by rfl)]
        replace hK : Shut (∀ a w, _ → K' a w) := hK
        go_simp
        refine hK.out _ _ ⟨HSS.out _ HB7.out, ?_⟩
        clear hK
        refine wpAnyH_done (by kernel_rfl) ?_ _
        have hlw : 0 < Lw.length ∧ Lw.length ≤ 9 := by
          rw [HWo.out]
          have h1 := HTl.out
          have h2 := HL3.out
          simp only [List.length_append]
          omega
        obtain ⟨X2, hX2⟩ : ∃ X2 : ByteArray, X2 = ⟨(Lib.join (Lw.map (·.data.toList)) [32]).toArray⟩ := ⟨_, rfl⟩
        have hx2 : X2.size ≤ 1720 ∧ R = X2 ++ ⟨#[10]⟩ := by
          have h1 := congrArg List.length HJw.out
          have h2 := HLen.out
          rw [List.length_append, List.length_cons, List.length_nil] at h1
          refine ⟨by rw [hX2, size_mk]; omega, ?_⟩
          rw [HR.out, ← HJw.out, hX2]
          apply ByteArray.ext
          simp
        have a2 := fun (w : World) => run_string_add_sum (P := Tryz.prog) w X2 ⟨#[10]⟩ (by have : (⟨#[10]⟩ : ByteArray).size = 1 := rfl; omega)
        rw [← hx2.2] at a2
        obtain ⟨ao7, cp7, rfl, o7, -⟩ := HW7.out
        have hJl : (Lib.join (Lw.map (·.data.toList)) [32]).length ≤ 140737488355328 := by
          have h1 := hx2.1
          rw [hX2, size_mk] at h1
          omega
        have HJo : Hid (Calls Tryz.prog 71 #[.slice ao7 Lw.length cp7, .string ⟨#[32]⟩] w7 fun e w' => e = .returned (.string X2) ∧ Below w7.heap.size w7 w') := by
          rw [hX2]
          rcases o7.2 with ⟨_, h0⟩ | ⟨g, cap, cur, hv, h1, h2, h3, -⟩
          · omega
          · obtain ⟨rfl, rfl⟩ : ao7 = some ⟨g, 0, none⟩ ∧ cp7 = cap := by simpa using hv
            refine Tryz.strings_Join g 0 cp7 Lw ⟨#[32]⟩ w7 ?_ ((Array.getElem?_eq_some_iff.1 h2).1) (by omega) h3 ?_
            · intro j x hx
              obtain ⟨hj, rfl⟩ := List.getElem?_eq_some_iff.1 hx
              rw [Nat.zero_add]
              exact rowT_at o7 j hj
            · exact hJl
        clear hX2 hx2 o7 HW7 hJl
        go_wp2_with fail
        refine HJo.out.mono ?_
        rintro e w8 ⟨rfl, b8⟩
        have HB8 : Hid (Below w.heap.size w w8) := (HB1.out.trans (HB7.out.mono HB1.out.size)).trans (b8.mono (by have h1 := HB1.out.size; have h2 := HB7.out.size; omega))
        clear b8
        go_wp2
        go_ret
        exact ⟨rfl, HB8.out⟩
end Go.Proofs.YtkdhmijebkhmaaaGreatDoor
