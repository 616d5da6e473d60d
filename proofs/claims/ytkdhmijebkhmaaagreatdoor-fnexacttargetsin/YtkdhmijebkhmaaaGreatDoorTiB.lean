/-
  Parts of the proof laid into one text, one behind the other; each says at its head what is proved in it.
-/
import Derived.Test.YtkdhmijebkhmaaaGreatDoorCoC
import Derived.Test.YtkdhmijebkhmaaaGreatDoorTgtMath
import Derived.Test.YtkdhmijebkhmaaaGreatDoorIntRow
import Derived.Test.YtkdhmijebkhmaaaGreatDoorShelfSort
import Derived.Lib.RowBridge
import Derived.Test.YtkdhmijebkhmaaaGreatDoorCoB
import Derived.Test.YtkdhmijebkhmaaaGreatDoorTiA
import Derived.Test.YtkdhmijebkhmaaaGreatDoorResIntsResult
import Derived.Test.YtkdhmijebkhmaaaGreatDoorTiC
import Derived.Test.YtkdhmijebkhmaaaGreatDoorFacts
/-
  The model's l9Target, l9IsTarget and TargetsIn: where operations lead to; nothing that was there is turned.
-/
namespace Go.Proofs.YtkdhmijebkhmaaaGreatDoor
open Go.RowKit Go.Extern.Stop Go.Stop Go.Extern Num Go.Lib

theorem l9Target_any (t : Opr) (B g o gk : Nat) (w : World) (h : OpAt w B g o t gk) : Calls Tryz.prog 56 #[.pointer (some ⟨g, o, none⟩)] w fun e w' => e = .returned (.int .i64 (tgtO t)) ∧ w' = w := by
  obtain ⟨p0, p1, p2, p3, p4, p5, p6, _⟩ := h
  obtain ⟨R, hR⟩ : ∃ R, R = tgtO t := ⟨_, rfl⟩
  rw [← hR]
  have HR : Hid (R = if t.kind = 5 ∨ t.kind = 6 then t.a else if t.kind = 16 then t.c else -1) := hR
  clear hR
  cases k5 : (t.kind == 5) <;> cases k6 : (t.kind == 6) <;> cases k16 : (t.kind == 16)
  all_goals
    have HF : Hid ((t.kind = 5 ↔ (t.kind == 5) = true) ∧ (t.kind = 6 ↔ (t.kind == 6) = true) ∧ (t.kind = 16 ↔ (t.kind == 16) = true)) := ⟨by simp, by simp, by simp⟩
    rw [k5, k6, k16] at HF
    go_enter Tryz.func56, Tryz.ntmps56
    go_wp2
    go_ret
    exact ⟨by rw [HR.out]; have := HF.out; simp_all, rfl⟩
def isTo (l : List Opr) (x : Int) (j : Nat) : Prop := ∀ (k : Nat) (h : k < l.length), k < j → (tgtO l[k] == x) = false
theorem isT_hit {l : List Opr} {x : Int} (j : Nat) (h : j < l.length) (he : (tgtO l[j] == x) = true) : isT l x = true := List.any_eq_true.2 ⟨l[j], List.getElem_mem h, he⟩
theorem isT_none {l : List Opr} {x : Int} (h : isTo l x l.length) : isT l x = false := by
  unfold isT
  rw [List.any_eq_false]
  intro t ht
  obtain ⟨k, hk, rfl⟩ := List.getElem_of_mem ht
  rw [h k hk hk]; decide
set_option maxRecDepth 100000 in
set_option maxHeartbeats 1000000 in
theorem l9IsTarget_any (l : List Opr) (x : Int) (B g o gk : Nat) (w : World) (hl : l.length ≤ 1048576) (h1 : w.cell? ⟨g, o + 1, none⟩ = some (.slice (some ⟨gk, 0, none⟩) l.length l.length)) (hO : RowOp w B gk l) :
    Calls Tryz.prog 31 #[.pointer (some ⟨g, o, none⟩), .int .i64 x] w fun e w' => e = .returned (.bool (isT l x)) ∧ w' = w := by
  obtain ⟨R, hR⟩ : ∃ R, R = isT l x := ⟨_, rfl⟩
  rw [← hR]
  have HR : Hid (R = isT l x) := hR
  have HO : Hid (RowOp w B gk l) := hO
  clear hR hO
  go_enter Tryz.func31, Tryz.ntmps31
  go_wp2_with fail
  go_loopw [5] (fun i wr => ∃ j : Nat, j ≤ l.length ∧ i = .int .i64 (j : Int) ∧ Hid (isTo l x j) ∧ wr = w) (fun i _ => l.length - (RowKit.intOf i).toNat)
  case atStart => exact ⟨0, Nat.zero_le _, rfl, fun k _ hk => by omega, rfl⟩
  case round =>
    obtain ⟨j, hj, rfl, HJ, hw⟩ := hrel
    subst hw
    by_cases hlt : j < l.length
    · obtain ⟨gx, hox⟩ := HO.out.at j hlt
      obtain ⟨c, hc⟩ : ∃ c, c = tgtO (l[j]'hlt) := ⟨_, rfl⟩
      have HX : Hid (Calls Tryz.prog 56 #[.pointer (some ⟨gk, j * 7, none⟩)] wr fun e w' => e = .returned (.int .i64 c) ∧ w' = wr) := by rw [hc]; exact l9Target_any _ B gk (j * 7) gx wr hox
      have HC : Hid (tgtO (l[j]'hlt) = c) := hc.symm
      clear hox hc
      cases hq : (c == x)
      · have HJ2 : Hid (isTo l x (j + 1)) := fun k hk hkj => by
          by_cases e : k < j
          · exact HJ.out k hk e
          · have : k = j := by omega
            subst this
            rw [HC.out]; exact hq
        go_wp2_with (go_at_call 56; refine HX.out.mono ?_; rintro e w' ⟨rfl, hw'⟩; replace hw' := hw'.symm; subst hw')
        exact ⟨⟨j + 1, by omega, by go_num, HJ2.out, by trivial⟩, by simp [RowKit.intOf]; omega⟩
      · have HF : Hid (R = true) := by show _ = _; rw [HR.out, isT_hit j hlt (by rw [HC.out]; exact hq)]
        go_wp2_with (go_at_call 56; refine HX.out.mono ?_; rintro e w' ⟨rfl, hw'⟩; replace hw' := hw'.symm; subst hw')
        go_ret
        exact ⟨by rw [HF.out]; rfl, rfl⟩
    · have HF : Hid (R = false) := by
        have e : j = l.length := by omega
        show _ = _
        rw [HR.out]
        exact isT_none (by rw [← e]; exact HJ.out)
      go_wp2
      go_ret
      exact ⟨by rw [HF.out]; rfl, rfl⟩
/-- What TargetsIn tells. -/
def outT (b : Blk) : List Int := if blkFault b = 0 then tgtTo b.ops 1000 else []
theorem tgtTo_len (l : List Opr) (n : Nat) : (tgtTo l n).length ≤ n := by
  unfold tgtTo
  rw [List.length_map]
  exact Nat.le_trans (List.length_filter_le _ _) (by simp)
theorem outT_len (b : Blk) : (outT b).length ≤ 1000 := by
  unfold outT
  split
  · exact tgtTo_len _ _
  · simp
def AnsT (b : Blk) (w : World) (e : Ending) (w' : World) : Prop :=
  ∃ ao c, e = .returned (.agg #[.int .i64 (blkFault b), .slice ao (outT b).length c]) ∧ w'.ownsRow w.heap.size 2 1 (.slice ao (outT b).length c) (outT b).length (cellsI (outT b)) ∧ Below w.heap.size w w'
theorem nilOwn (w : World) (B : Nat) : w.ownsRow B 2 1 (.slice none 0 0) 0 (cellsI []) := ⟨rfl, .inl ⟨rfl, rfl⟩⟩
set_option maxRecDepth 100000 in
set_option maxHeartbeats 4000000 in
theorem specTI_any (b : Blk) (gk B : Nat) (w : World) (hs : b.small) (hO : IsOp w B gk b.ops.length b.ops) :
    Calls Tryz.prog 16 #[b.val (.slice (some ⟨gk, 0, none⟩) b.ops.length b.ops.length)] w fun e w' => AnsT b w e w' := by
  obtain ⟨W, hW⟩ : ∃ W, W = (w.alloc (.cells #[.int .i64 b.args, .slice (some ⟨gk, 0, none⟩) b.ops.length b.ops.length] 46)).alloc (.cells #[.int .i64 0, .slice none 0 0] 42) := ⟨_, rfl⟩
  have HW : Hid (W = (w.alloc (.cells #[.int .i64 b.args, .slice (some ⟨gk, 0, none⟩) b.ops.length b.ops.length] 46)).alloc (.cells #[.int .i64 0, .slice none 0 0] 42)) := hW
  have hb0 : Below w.heap.size w W := by rw [hW]; exact ((Below.refl _ _).alloc (Nat.le_refl _) _).alloc (by simp) _
  have a0 : W.cell? ⟨w.heap.size, 0, none⟩ = some (.int .i64 b.args) := by rw [hW]; simp [go_sem]
  have a1 : W.cell? ⟨w.heap.size, 0 + 1, none⟩ = some (.slice (some ⟨gk, 0, none⟩) b.ops.length b.ops.length) := by rw [hW]; simp [go_sem]
  have r0 : W.cell? ⟨w.heap.size + 1, 0, none⟩ = some (.int .i64 0) := by rw [hW]; simp [go_sem]
  have r1 : W.cell? ⟨w.heap.size + 1, 1, none⟩ = some (.slice none 0 0) := by rw [hW]; simp [go_sem]
  have rf : ∀ j, W.frozen? ⟨w.heap.size + 1, j, none⟩ = false := fun j => by rw [hW]; simp [go_sem]
  have rl : w.heap.size + 1 < W.heap.size := by rw [hW]; simp
  have HQ : Hid (∀ u, Below W.heap.size W u → u.cell? ⟨w.heap.size, 0 + 1, none⟩ = some (.slice (some ⟨gk, 0, none⟩) b.ops.length b.ops.length) ∧ u.cell? ⟨w.heap.size + 1, 0, none⟩ = some (.int .i64 0) ∧ u.cell? ⟨w.heap.size + 1, 1, none⟩ = some (.slice none 0 0) ∧ (∀ j, u.frozen? ⟨w.heap.size + 1, j, none⟩ = false) ∧ w.heap.size + 1 < u.heap.size) := fun u hu => ⟨cell_keep hu a1, cell_keep hu r0, cell_keep hu r1, fun j => by rw [(bcell hu).2 _ _ rl]; exact rf j, Nat.lt_of_lt_of_le rl hu.size⟩
  have HB0 : Hid (Below w.heap.size w W) := hb0
  have HO : Hid (IsOp W B gk b.ops.length b.ops) := hO.below hb0
  have HF : Hid (Calls Tryz.prog 30 #[.pointer (some ⟨w.heap.size, 0, none⟩)] W fun e w' => e = .returned (.int .i64 (blkFault b)) ∧ Below W.heap.size W w') := l9Block_any b B w.heap.size 0 gk W hs a0 a1 (hO.below hb0).row
  have HT : Hid (∀ (u : World) (x : Int), Below W.heap.size W u → Calls Tryz.prog 31 #[.pointer (some ⟨w.heap.size, 0, none⟩), .int .i64 x] u fun e w' => e = .returned (.bool (isT b.ops x)) ∧ w' = u) := fun u x hu => l9IsTarget_any b.ops x B w.heap.size 0 gk u hs.len (cell_keep hu a1) ((hO.below hb0).below hu).row
  obtain ⟨R, hR⟩ : ∃ R, R = blkFault b := ⟨_, rfl⟩
  obtain ⟨V, hV⟩ : ∃ V, V = outT b := ⟨_, rfl⟩
  have HR : Hid (R = blkFault b) := hR
  have HV : Hid (V = outT b) := hV
  unfold AnsT
  rw [← hR, ← hV]
  rw [← hR] at HF
  obtain ⟨i0, hi, hz0, hz1, hz2⟩ := info_parts infoI
  clear hW hO hR hV r0 r1 rf hb0 a0 a1
  go_enter Tryz.func16, Tryz.ntmps16
  go_wp2_with fail
  rw [← HW.out]
  refine HF.out.mono ?_
  rintro e w1 ⟨rfl, b1⟩
  have HB1 : Hid (Below W.heap.size W w1) := b1
  have hsz1 : W.heap.size ≤ w1.heap.size := b1.size
  clear b1 HW HF
  by_cases hc : R = 0
  · subst hc
    have HV2 : Hid (V = tgtTo b.ops 1000) := by show _ = _; rw [HV.out]; unfold outT; rw [if_pos HR.out.symm]
    clear HV HR
    go_wp2_with fail
    go_loopw [5] (fun i wr => ∃ (j : Nat) (L : List Int) (ao : Option Addr) (c : Nat), j ≤ 1000 ∧ i = .int .i64 (j : Int) ∧ L.length ≤ j ∧ Hid (L = tgtTo b.ops j) ∧ wr.cell? ⟨w1.heap.size, 0, none⟩ = some (.int .i64 0) ∧ wr.cell? ⟨w1.heap.size, 1, none⟩ = some (.slice ao L.length c) ∧ (∀ k, wr.frozen? ⟨w1.heap.size, k, none⟩ = false) ∧ w1.heap.size < wr.heap.size ∧ Hid (wr.ownsRow (w1.heap.size + 1) 2 1 (.slice ao L.length c) L.length (cellsI L)) ∧ Hid (Below w1.heap.size w1 wr)) (fun i _ => 1000 - (RowKit.intOf i).toNat)
    case atStart => exact ⟨0, [], none, 0, by omega, rfl, Nat.le_refl _, rfl, by simp [go_sem], by simp [go_sem], fun k => by simp [go_sem], by simp, nilOwn _ _, (Below.refl _ _).alloc (Nat.le_refl _) _⟩
    case round =>
      obtain ⟨j, L, ao, c, hj, rfl, hLj, HL, x0, x1, xf, xl, HO2, HBr⟩ := hrel
      have HBW : Hid (Below W.heap.size W wr) := HB1.out.trans (HBr.out.mono hsz1)
      by_cases hlt : j < 1000
      · have HX : Hid (Calls Tryz.prog 31 #[.pointer (some ⟨w.heap.size, 0, none⟩), .int .i64 (j : Int)] wr fun e w' => e = .returned (.bool (isT b.ops (j : Int))) ∧ w' = wr) := HT.out wr (j : Int) HBW.out
        have HN : Hid (tgtTo b.ops (j + 1) = tgtTo b.ops j ++ (if isT b.ops (j : Int) then [(j : Int)] else [])) := tgtTo_next b.ops j
        cases hq : isT b.ops (j : Int)
        · have HL2 : Hid (L = tgtTo b.ops (j + 1)) := by show _ = _; rw [HN.out, hq, HL.out]; simp
          rw [hq] at HX
          clear hq HN
          go_wp2_with (go_at_call 31; refine HX.out.mono ?_; rintro e w' ⟨rfl, hw'⟩; replace hw' := hw'.symm; subst hw')
          exact ⟨⟨j + 1, L, ao, c, by omega, by go_num, by omega, HL2.out, x0, x1, xf, xl, HO2.out, HBr.out⟩, by simp [RowKit.intOf]; omega⟩
        · have HL2 : Hid (L ++ [(j : Int)] = tgtTo b.ops (j + 1)) := by show _ = _; rw [HN.out, hq, HL.out]; simp
          rw [hq] at HX
          clear hq HN
          have hzw : w1.heap.size ≤ wr.heap.size := HBr.out.size
          go_wp2_with (first | (go_at_call 31; refine HX.out.mono ?_; rintro e w' ⟨rfl, hw'⟩; replace hw' := hw'.symm; subst hw') | (at_builtin; refine wpList_append_lies _ rfl (.tmp 19) (.tmp 21) 40 rfl (w1.heap.size + 1) 2 i0 _ 1 8 Tryz.underlying40 hi hz0 hz1 hz2 rfl (by decide) _ L.length (cellsI L) rfl (HO2.out.alloc _) ⟨_, 0, none⟩ 1 1 [.int .i64 (j : Int)] rfl rfl ?c1 ?c2 (by decide) ?c3 ?c4 ?c5 _ rfl ?_))
          case c1 => exact newsI (heap_new' _ _ _ (by simp))
          case c2 => intro u hu; simp at hu; subst hu; rfl
          case c3 => unfold maxLen; omega
          case c4 => omega
          case c5 => simp; omega
          intro g' cap' w2 hown1 hgrow1 _ _
          have hrow : ∀ k, (Value.slice ao L.length c).ownBlock = some k → w1.heap.size + 1 ≤ k := fun k hk => (HO2.out.lt k hk).1
          have HO3 : Hid (w2.ownsRow (w1.heap.size + 1) 2 1 (.slice (some ⟨g', 0, none⟩) (L ++ [(j : Int)]).length cap') (L ++ [(j : Int)]).length (cellsI (L ++ [(j : Int)]))) := by
            rw [cellsI_append, List.length_append]
            exact hown1
          have HB2 : Hid (Below w1.heap.size w1 w2) := (HBr.out.alloc hzw _).grown hgrow1 (by simp; omega) (fun k hk => by have := hrow k hk; omega)
          have hne : some w1.heap.size ≠ (Value.slice ao L.length c).ownBlock := fun e => by have := hrow _ e.symm; omega
          have y0 : w2.cell? ⟨w1.heap.size, 0, none⟩ = some (.int .i64 0) := hgrow1.cell (cell_laid _ x0) hne
          have y1 : w2.cell? ⟨w1.heap.size, 1, none⟩ = some (.slice ao L.length c) := hgrow1.cell (cell_laid _ x1) hne
          have yf : ∀ k, w2.frozen? ⟨w1.heap.size, k, none⟩ = false := fun k => by
            rw [World.frozen?_of_block (a := ⟨w1.heap.size, k, none⟩) (hgrow1.block _ (by simp; omega) hne)]
            rw [World.frozen?_of_block (a := ⟨w1.heap.size, k, none⟩) (Below.heap_alloc _ _ _ xl)]
            exact xf k
          have yl : w1.heap.size < w2.heap.size := by have := hgrow1.size; simp at this; omega
          have hgx : ∀ g, (Value.slice (some ⟨g', 0, none⟩) (L ++ [(j : Int)]).length cap').ownBlock = some g → g ≠ w1.heap.size := fun g hg => by have := (HO3.out.lt g hg).1; omega
          clear hown1 hgrow1 hne x0 x1 xf
          go_wp2
          refine ⟨⟨j + 1, L ++ [(j : Int)], some ⟨g', 0, none⟩, cap', by omega, by go_num, by simp; omega, HL2.out, ?_, ?_, ?_, ?_, ?_, ?_⟩, by simp [RowKit.intOf]; omega⟩
          · simp [go_sem, y0]
          · simp [go_sem, y1]
          · intro k; simp [go_sem, yf]
          · simpa using yl
          · exact own_set HO3.out (p := ⟨w1.heap.size, 1, none⟩) (by show g' ≠ w1.heap.size; exact hgx g' rfl) _
          · exact HB2.out.setCell (Nat.le_refl _) _
      · have e : j = 1000 := by omega
        subst e
        obtain ⟨-, q0, q1, qf, ql⟩ := HQ.out wr HBW.out
        have HBw : Hid (Below w.heap.size w wr) := HB0.out.trans (HBW.out.mono HB0.out.size)
        have HLV : Hid (V = L) := by show _ = _; rw [HV2.out, HL.out]
        have hxr : w.heap.size + 1 ≠ w1.heap.size := by omega
        have hws : w.heap.size ≤ w1.heap.size + 1 := by omega
        have hgx : ∀ g, (Value.slice ao L.length c).ownBlock = some g → g ≠ w.heap.size + 1 := fun g hg => by have := (HO2.out.lt g hg).1; omega
        clear HL HV2
        go_wp2
        refine bodyPost_ret (v := .agg #[.int .i64 0, .slice ao L.length c]) (by simp [results, Tryz.results16, go_sem, q0, q1]) rfl ⟨ao, c, by rw [HLV.out], ?_, ?_⟩
        · rw [HLV.out]
          exact own_base (own_apart (own_apart HO2.out (gb_set (gb_refl _ _) _) (fun g hg e => hgx g hg (Option.some.inj e).symm)) (gb_set (gb_refl _ _) _) (fun g hg e => hgx g hg (Option.some.inj e).symm)) hws
        · repeat (first | refine Below.setCell ?_ (by simp) _ | exact HBw.out)
  · have hcn : (R != 0) = true := by rw [bne_iff_ne]; exact hc
    have HV2 : Hid (V = []) := by show _ = _; rw [HV.out]; unfold outT; rw [if_neg (by rw [← HR.out]; exact hc)]
    obtain ⟨-, q0, q1, qf, ql⟩ := HQ.out w1 HB1.out
    have HBw : Hid (Below w.heap.size w w1) := HB0.out.trans (HB1.out.mono HB0.out.size)
    clear hc HV HR
    go_wp2
    refine bodyPost_ret (v := .agg #[.int .i64 R, .slice none 0 0]) (by simp [results, Tryz.results16, go_sem, q0, q1]) rfl ⟨none, 0, by rw [HV2.out]; rfl, ?_, ?_⟩
    · rw [HV2.out]; exact nilOwn _ _
    · repeat (first | refine Below.setCell ?_ (by simp) _ | exact HBw.out)
end Go.Proofs.YtkdhmijebkhmaaaGreatDoor
/-
  A row of integers that is the program's own, sorted, and each run of equal ones made one (the library's slices.Sort and slices.Compact).
-/
namespace Go.Proofs.YtkdhmijebkhmaaaGreatDoor
open Go.RowKit Go.Extern.Stop Go.Stop Go.Extern Num Go.Lib

theorem putCells_take (L2 : List Int) (cur : Array Value) (h : L2.length ≤ cur.size) : (Go.Sort.putCells (Value.int .i64) 0 L2.toArray cur).toList.take L2.length = cellsI L2 := by
  apply List.ext_getElem
  · simp [Go.Sort.putCells, cellsI]; omega
  · intro k h1 h2
    have hk : k < L2.length := by simpa [cellsI] using h2
    simp [Go.Sort.putCells, cellsI, hk]
theorem putRow_heap (w : World) (q g : Nat) (L2 : List Int) (cur : Array Value) (T : TypeId) (fz : Nat × Nat) (h : w.heap[g]? = some (.cells cur T fz)) : (Go.Sort.putRow (Value.int .i64) (Go.Sort.ahead w q) g 0 L2.toArray).heap[g]? = some (.cells (Go.Sort.putCells (Value.int .i64) 0 L2.toArray cur) T fz) := by
  simp [Go.Sort.putRow, Go.Sort.mapBlock, Array.getElem?_modify, h, Go.Sort.onCells]
theorem putRow_below (w : World) (q g B : Nat) (L2 : List Int) (hB : B ≤ g) : Below B w (Go.Sort.putRow (Value.int .i64) (Go.Sort.ahead w q) g 0 L2.toArray) :=
  ⟨rfl, rfl, rfl, by simp, fun k hk => by
    have : g ≠ k := by omega
    simp [Go.Sort.putRow, Go.Sort.mapBlock, Array.getElem?_modify, this]⟩
theorem grow_below (w : World) (os : Array Obj) : Below w.heap.size w (Go.Sort.grow w os) :=
  ⟨rfl, rfl, rfl, by simp, fun _ hk => Go.Sort.heap_grow_old w os hk⟩
/-- The row's first places hold others. -/
theorem own_putRow {w : World} {base g cap n : Nat} {xs : List Value} (q : Nat) (L2 : List Int) (m : Nat) (h : w.ownsRow base 2 1 (.slice (some ⟨g, 0, none⟩) n cap) n xs) (hl : L2.length = n) (hm : m ≤ n) :
    (Go.Sort.putRow (Value.int .i64) (Go.Sort.ahead w q) g 0 L2.toArray).ownsRow base 2 1 (.slice (some ⟨g, 0, none⟩) m cap) m (cellsI (L2.take m)) := by
  obtain ⟨_, h2⟩ := h
  rcases h2 with ⟨e, _⟩ | ⟨g', cap', cur, e, hb, hc, hn, hmx, hs, _⟩
  · cases e
  · obtain ⟨rfl, rfl⟩ : g = g' ∧ cap = cap' := by simp at e; exact e
    refine ⟨by simp [cellsI]; omega, .inr ⟨g, cap, _, rfl, hb, putRow_heap w q g L2 cur _ _ hc, by omega, hmx, by simpa [Go.Sort.putCells] using hs, ?_⟩⟩
    have ht := putCells_take L2 cur (by omega)
    have e2 : (Go.Sort.putCells (Value.int .i64) 0 L2.toArray cur).toList.take (m * 1) = ((Go.Sort.putCells (Value.int .i64) 0 L2.toArray cur).toList.take L2.length).take m := by
      rw [List.take_take]; congr 1; omega
    rw [e2, ht]
    simp [cellsI, List.map_take]
theorem own_holds {w : World} {base g cap : Nat} {L : List Int} (h : w.ownsRow base 2 1 (.slice (some ⟨g, 0, none⟩) L.length cap) L.length (cellsI L)) : Go.Sort.Holds (Value.int .i64) w g 0 L.toArray := by
  intro j hj
  have hj' : j < L.length := by simpa using hj
  have hc := rowI_at h j hj'
  refine ⟨?_, ?_⟩
  · rw [Nat.zero_add, hc]; simp [hj']
  · rw [Nat.zero_add]; exact own_frozen h j
set_option maxRecDepth 100000 in
/-- slices.Sort at a row of the program's own. -/
theorem sort_own (ao : Option Addr) (cap base : Nat) (L : List Int) (w : World) (hL : L.length ≤ 1048576) (h : w.ownsRow base 2 1 (.slice ao L.length cap) L.length (cellsI L)) :
    Calls Tryz.prog 36 #[.slice ao L.length cap] w fun e w' => e = .returned (.tuple #[]) ∧ w'.ownsRow base 2 1 (.slice ao L.length cap) L.length (cellsI (L.mergeSort (fun x y => decide (x ≤ y)))) ∧ ∀ B, B ≤ w.heap.size → (∀ g, (Value.slice ao L.length cap).ownBlock = some g → B ≤ g) → Below B w w' := by
  by_cases h0 : L.length = 0
  · have e : L = [] := List.length_eq_zero_iff.1 h0
    subst e
    exact (Tryz.sort_int64_none ao cap w).mono fun e w' ⟨h1, h2⟩ => by
      subst h2
      exact ⟨h1, by simpa using h, fun B _ _ => Below.refl _ _⟩
  · obtain ⟨g, c, hv, _, _⟩ := h.form (by omega)
    obtain ⟨rfl, rfl⟩ : ao = some ⟨g, 0, none⟩ ∧ cap = c := by simp at hv; exact hv
    have hlt := h.lt g rfl
    refine (Tryz.sort_int64 g 0 cap L w (own_holds h) hlt.2 (by omega)).mono ?_
    rintro e w' ⟨rfl, n, os, rfl⟩
    have hsl : (L.mergeSort (fun x y => decide (x ≤ y))).length = L.length := List.length_mergeSort _
    have ho := own_putRow n (L.mergeSort (fun x y => decide (x ≤ y))) L.length h hsl (Nat.le_refl _)
    rw [List.take_of_length_le (by omega)] at ho
    refine ⟨rfl, own_below ho (grow_below _ _), fun B hB hg => ?_⟩
    exact (putRow_below w n g B _ (hg g rfl)).trans ((grow_below _ _).mono (by simpa using hB))
set_option maxRecDepth 100000 in
/-- slices.Compact at a row of the program's own. -/
theorem compact_own (ao : Option Addr) (cap base : Nat) (L : List Int) (w : World) (hL : L.length ≤ 1048576) (h : w.ownsRow base 2 1 (.slice ao L.length cap) L.length (cellsI L)) :
    Calls Tryz.prog 37 #[.slice ao L.length cap] w fun e w' => e = .returned (.slice ao (compact L).length cap) ∧ w'.ownsRow base 2 1 (.slice ao (compact L).length cap) (compact L).length (cellsI (compact L)) ∧ ∀ B, B ≤ w.heap.size → (∀ g, (Value.slice ao L.length cap).ownBlock = some g → B ≤ g) → Below B w w' := by
  by_cases h0 : L.length = 0
  · have e : L = [] := List.length_eq_zero_iff.1 h0
    subst e
    refine (Tryz.compact_int64_none ao cap w).mono fun e w' ⟨h1, h2⟩ => ?_
    subst h2
    have e2 : compact ([] : List Int) = [] := rfl
    rw [e2]
    exact ⟨h1, by simpa using h, fun B _ _ => Below.refl _ _⟩
  · obtain ⟨g, c, hv, hcap, _⟩ := h.form (by omega)
    obtain ⟨rfl, rfl⟩ : ao = some ⟨g, 0, none⟩ ∧ cap = c := by simp at hv; exact hv
    have hcc : L.length ≤ cap := by
      rcases h.2 with ⟨e, _⟩ | ⟨g', cap', cur, e, _, _, hn, _⟩
      · cases e
      · obtain ⟨rfl, rfl⟩ : g = g' ∧ cap = cap' := by simp at e; exact e
        exact hn
    have hlen := compact_length_le L
    refine (Tryz.compact_int64 g 0 cap L w (own_holds h) (by omega) hcc).mono ?_
    rintro e w' ⟨rfl, q, rfl⟩
    have ho := own_putRow q (compact L ++ List.replicate (L.length - (compact L).length) 0) (compact L).length h (by simp; omega) hlen
    rw [List.take_left] at ho
    exact ⟨rfl, ho, fun B _ hg => putRow_below w q g B _ (hg g rfl)⟩
end Go.Proofs.YtkdhmijebkhmaaaGreatDoor
/-
  The program's target and TargetsIn: where operations lead to; nothing that was there is turned.
-/
namespace Go.Proofs.YtkdhmijebkhmaaaGreatDoor
open Go.RowKit Go.Extern.Stop Go.Stop Go.Extern Num Go.Lib

theorem target_any (t : Opr) (w : World) : Calls Tryz.prog 35 #[t.num] w fun e w' => e = .returned (.tuple #[.int .i64 (if hasT t then tgtO t else 0), .bool (hasT t)]) ∧ Below w.heap.size w w' := by
  obtain ⟨R, hR⟩ : ∃ R, R = (if hasT t then tgtO t else 0) := ⟨_, rfl⟩
  obtain ⟨H, hH⟩ : ∃ H, H = hasT t := ⟨_, rfl⟩
  rw [← hR, ← hH]
  have HR : Hid (R = if H then (if t.kind = 5 ∨ t.kind = 6 then t.a else if t.kind = 16 then t.c else -1) else 0) := by show _ = _; rw [hR, hH]; rfl
  have HH : Hid (H = (t.kind == 5 || (t.kind == 6 || t.kind == 16))) := hH
  clear hR hH
  cases k5 : (t.kind == 5) <;> cases k6 : (t.kind == 6) <;> cases k16 : (t.kind == 16)
  all_goals
    have HF : Hid ((t.kind = 5 ↔ (t.kind == 5) = true) ∧ (t.kind = 6 ↔ (t.kind == 6) = true) ∧ (t.kind = 16 ↔ (t.kind == 16) = true)) := ⟨by simp, by simp, by simp⟩
    rw [k5, k6, k16] at HF HH
    go_enter Tryz.func35, Tryz.ntmps35
    go_wp2
    exact bodyPost_ret (v := .tuple #[.int .i64 R, .bool H]) (by
      have h1 := HR.out; have h2 := HH.out; have h3 := HF.out
      simp [results, Tryz.results35, go_sem]
      simp_all) rfl ⟨rfl, by repeat (first | exact Below.refl _ _ | refine Below.alloc ?_ (by simp <;> omega) _)⟩
theorem tgts_next (l : List Opr) (k : Nat) (h : k < l.length) : tgts (l.take (k + 1)) = tgts (l.take k) ++ (if hasT l[k] then [if hasT l[k] then tgtO l[k] else 0] else []) := by
  unfold tgts
  rw [List.take_add_one, List.getElem?_eq_getElem h, List.filter_append, List.map_append]
  cases e : hasT l[k] <;> simp [Option.toList, e]
theorem outT_sorted {b : Blk} (h : blkFault b = 0) : outT b = compact ((tgts b.ops).mergeSort (fun x y => decide (x ≤ y))) := by
  unfold outT
  rw [if_pos h, tgt_sorted]
  refine fun t ht => firstC_zero b.ops ?_ t ht
  unfold blkFault at h
  split at h
  · cases h
  · split at h
    · cases h
    · exact h
set_option maxRecDepth 100000 in
set_option maxHeartbeats 4000000 in
theorem implTI_any (b : Blk) (gk B : Nat) (w : World) (hs : b.small) (hO : IsOp w B gk b.ops.length b.ops) (hL : LT w) :
    Calls Tryz.prog 18 #[b.val (.slice (some ⟨gk, 0, none⟩) b.ops.length b.ops.length)] w fun e w' => AnsT b w e w' := by
  obtain ⟨W, hW⟩ : ∃ W, W = (w.alloc (.cells #[.int .i64 b.args, .slice (some ⟨gk, 0, none⟩) b.ops.length b.ops.length] 46)).alloc (.cells #[.int .i64 0, .slice none 0 0] 42) := ⟨_, rfl⟩
  have HW : Hid (W = (w.alloc (.cells #[.int .i64 b.args, .slice (some ⟨gk, 0, none⟩) b.ops.length b.ops.length] 46)).alloc (.cells #[.int .i64 0, .slice none 0 0] 42)) := hW
  have hb0 : Below w.heap.size w W := by rw [hW]; exact ((Below.refl _ _).alloc (Nat.le_refl _) _).alloc (by simp) _
  have a0 : W.cell? ⟨w.heap.size, 0, none⟩ = some (.int .i64 b.args) := by rw [hW]; simp [go_sem]
  have a1 : W.cell? ⟨w.heap.size, 1, none⟩ = some (.slice (some ⟨gk, 0, none⟩) b.ops.length b.ops.length) := by rw [hW]; simp [go_sem]
  have r0 : W.cell? ⟨w.heap.size + 1, 0, none⟩ = some (.int .i64 0) := by rw [hW]; simp [go_sem]
  have r1 : W.cell? ⟨w.heap.size + 1, 1, none⟩ = some (.slice none 0 0) := by rw [hW]; simp [go_sem]
  have rf : ∀ j, W.frozen? ⟨w.heap.size + 1, j, none⟩ = false := fun j => by rw [hW]; simp [go_sem]
  have rl : W.heap.size = w.heap.size + 1 + 1 := by rw [hW]; simp
  have HQ : Hid (∀ u, Below W.heap.size W u → u.cell? ⟨w.heap.size, 1, none⟩ = some (.slice (some ⟨gk, 0, none⟩) b.ops.length b.ops.length) ∧ u.cell? ⟨w.heap.size + 1, 0, none⟩ = some (.int .i64 0) ∧ u.cell? ⟨w.heap.size + 1, 1, none⟩ = some (.slice none 0 0) ∧ (∀ j, u.frozen? ⟨w.heap.size + 1, j, none⟩ = false) ∧ w.heap.size + 1 < u.heap.size) := fun u hu => ⟨cell_keep hu a1, cell_keep hu r0, cell_keep hu r1, fun j => by rw [(bcell hu).2 _ _ (by omega)]; exact rf j, by have := hu.size; omega⟩
  have HRL : Hid (W.heap.size = w.heap.size + 1 + 1) := rl
  have HB0 : Hid (Below w.heap.size w W) := hb0
  have HO : Hid (IsOp W B gk b.ops.length b.ops) := hO.below hb0
  have HS : Hid (b.small) := hs
  have hlen : b.ops.length ≤ 1048576 := hs.len
  have HF : Hid (Calls Tryz.prog 33 #[b.val (.slice (some ⟨gk, 0, none⟩) b.ops.length b.ops.length)] W fun e w' => e = .returned (.int .i64 (blkFault b)) ∧ Below W.heap.size W w') := blockFault_any b B gk W hs (hO.below hb0).row (hL.below hb0)
  obtain ⟨R, hR⟩ : ∃ R, R = blkFault b := ⟨_, rfl⟩
  obtain ⟨V, hV⟩ : ∃ V, V = outT b := ⟨_, rfl⟩
  have HR : Hid (R = blkFault b) := hR
  have HV : Hid (V = outT b) := hV
  unfold AnsT
  rw [← hR, ← hV]
  rw [← hR] at HF
  obtain ⟨i0, hi, hz0, hz1, hz2⟩ := info_parts infoI
  clear hW hO hR hV r0 r1 rf rl hb0 hs hL
  go_enter Tryz.func18, Tryz.ntmps18
  go_wp2_with fail
  rw [← HW.out]
  refine HF.out.mono ?_
  rintro e w1 ⟨rfl, b1⟩
  have HB1 : Hid (Below W.heap.size W w1) := b1
  have hsz1 : W.heap.size ≤ w1.heap.size := b1.size
  clear b1 HW HF a0 a1
  by_cases hc : R = 0
  · subst hc
    have HV2 : Hid (V = compact ((tgts b.ops).mergeSort (fun x y => decide (x ≤ y)))) := by show _ = _; rw [HV.out, outT_sorted HR.out.symm]
    clear HV HR
    obtain ⟨q9, -, -, -, -⟩ := HQ.out w1 HB1.out
    go_wp2_with fail
    clear q9
    go_loopw [4, 18] (fun v i wr => ∃ (j : Nat) (L : List Int) (ao : Option Addr) (c : Nat), j ≤ b.ops.length ∧ i = .int .i64 (j : Int) ∧ v = .slice ao L.length c ∧ L.length ≤ j ∧ Hid (L = tgts (b.ops.take j)) ∧ Hid (wr.ownsRow W.heap.size 2 1 (.slice ao L.length c) L.length (cellsI L)) ∧ Hid (Below W.heap.size W wr)) (fun _ i _ => b.ops.length - (RowKit.intOf i).toNat)
    case atStart => exact ⟨0, [], none, 0, Nat.zero_le _, rfl, rfl, Nat.le_refl _, rfl, nilOwn _ _, HB1.out⟩
    case round =>
      obtain ⟨j, L, ao, c, hj, rfl, rfl, hLj, HL, HO2, HBW⟩ := hrel
      by_cases hlt : j < b.ops.length
      · obtain ⟨gx, hox⟩ := (HO.out.below HBW.out).row.at j hlt
        obtain ⟨t, ht⟩ : ∃ t, t = b.ops[j]'hlt := ⟨_, rfl⟩
        rw [← ht] at hox
        have HN : Hid (tgts (b.ops.take (j + 1)) = tgts (b.ops.take j) ++ (if hasT t then [if hasT t then tgtO t else 0] else [])) := by rw [ht]; exact tgts_next b.ops j hlt
        obtain ⟨T, hT⟩ : ∃ T, T = (if hasT t then tgtO t else 0) := ⟨_, rfl⟩
        obtain ⟨H, hH⟩ : ∃ H, H = hasT t := ⟨_, rfl⟩
        have HTg : Hid (∀ x, Calls Tryz.prog 35 #[t.num] x fun e w' => e = .returned (.tuple #[.int .i64 T, .bool H]) ∧ Below x.heap.size x w') := fun x => by rw [hT, hH]; exact target_any t x
        have HOp : Hid (∀ x, Calls Tryz.prog 34 #[t.val (.slice (some ⟨gx, 0, none⟩) t.data.length t.data.length)] x fun e w' => e = .returned t.num ∧ Below x.heap.size x w') := fun x => operationOf_any t _ x
        rw [← hT, ← hH] at HN
        obtain ⟨c0, c1, c2, c3, c4, c5, c6, _⟩ := hox
        have hzw : W.heap.size ≤ wr.heap.size := HBW.out.size
        clear hT hH ht
        go_wp2_with fail
        refine (HOp.out _).mono ?_
        rintro e w2 ⟨rfl, b2⟩
        have HB2 : Hid (Below wr.heap.size wr w2) := (bnew wr _).trans (b2.mono (by simp))
        clear b2 c0 c1 c2 c3 c4 c5 c6
        go_wp2_with fail
        refine (HTg.out _).mono ?_
        rintro e w3 ⟨rfl, b3⟩
        have HB3 : Hid (Below wr.heap.size wr w3) := HB2.out.trans (b3.mono HB2.out.size)
        have HO3 : Hid (w3.ownsRow W.heap.size 2 1 (.slice ao L.length c) L.length (cellsI L)) := own_below HO2.out HB3.out
        have HBW3 : Hid (Below W.heap.size W w3) := HBW.out.trans (HB3.out.mono hzw)
        have hz3 : W.heap.size ≤ w3.heap.size := HBW3.out.size
        clear b3 HB2 HB3 HO2 HBW HTg HOp
        cases H
        · have HL2 : Hid (L = tgts (b.ops.take (j + 1))) := by show _ = _; rw [HN.out, HL.out]; simp
          go_wp2
          exact ⟨⟨j + 1, L, ao, c, by omega, by go_num, rfl, by omega, HL2.out, HO3.out, HBW3.out⟩, by simp [RowKit.intOf]; omega⟩
        · have HL2 : Hid (L ++ [T] = tgts (b.ops.take (j + 1))) := by show _ = _; rw [HN.out, HL.out]; simp
          go_wp2_with (first | (at_builtin; refine wpList_append_lies _ rfl (.tmp 29) (.tmp 31) 40 rfl W.heap.size 2 i0 _ 1 8 Tryz.underlying40 hi hz0 hz1 hz2 rfl (by decide) _ L.length (cellsI L) rfl (HO3.out.alloc _) ⟨_, 0, none⟩ 1 1 [.int .i64 T] rfl rfl ?c1 ?c2 (by decide) ?c3 ?c4 ?c5 _ rfl ?_))
          case c1 => exact newsI (heap_new' _ _ _ (by simp))
          case c2 => intro u hu; simp at hu; subst hu; rfl
          case c3 => unfold maxLen; omega
          case c4 => omega
          case c5 => simp; omega
          intro g' cap' w4 hown1 hgrow1 _ _
          have HO4 : Hid (w4.ownsRow W.heap.size 2 1 (.slice (some ⟨g', 0, none⟩) (L ++ [T]).length cap') (L ++ [T]).length (cellsI (L ++ [T]))) := by
            rw [cellsI_append, List.length_append]
            exact hown1
          have HB4 : Hid (Below W.heap.size W w4) := (HBW3.out.alloc hz3 _).grown hgrow1 (by simp; omega) (fun k hk => (HO3.out.lt k hk).1)
          clear hown1 hgrow1
          go_wp2
          exact ⟨⟨j + 1, L ++ [T], some ⟨g', 0, none⟩, cap', by omega, by go_num, by simp, by simp; omega, HL2.out, HO4.out, HB4.out⟩, by simp [RowKit.intOf]; omega⟩
      · have e : j = b.ops.length := by omega
        subst e
        have HLt : Hid (L = tgts b.ops) := by show _ = _; rw [HL.out, List.take_length]
        have HSo : Hid (Calls Tryz.prog 36 #[.slice ao L.length c] wr fun e w' => e = .returned (.tuple #[]) ∧ w'.ownsRow W.heap.size 2 1 (.slice ao L.length c) L.length (cellsI (L.mergeSort (fun x y => decide (x ≤ y)))) ∧ ∀ B, B ≤ wr.heap.size → (∀ g, (Value.slice ao L.length c).ownBlock = some g → B ≤ g) → Below B wr w') := sort_own ao c W.heap.size L wr (by omega) HO2.out
        have hgb : ∀ g, (Value.slice ao L.length c).ownBlock = some g → W.heap.size ≤ g := fun g hg => (HO2.out.lt g hg).1
        go_wp2_with fail
        refine HSo.out.mono ?_
        rintro e w2 ⟨rfl, o2, b2⟩
        have HB2 : Hid (Below W.heap.size W w2) := HBW.out.trans (b2 W.heap.size HBW.out.size hgb)
        obtain ⟨M, hM⟩ : ∃ M, M = L.mergeSort (fun x y => decide (x ≤ y)) := ⟨_, rfl⟩
        have hML : L.length = M.length := by rw [hM, List.length_mergeSort]
        have HM : Hid (V = compact M) := by show _ = _; rw [HV2.out, hM, HLt.out]
        rw [← hM, hML] at o2
        have HCo : Hid (Calls Tryz.prog 37 #[.slice ao M.length c] w2 fun e w' => e = .returned (.slice ao (compact M).length c) ∧ w'.ownsRow W.heap.size 2 1 (.slice ao (compact M).length c) (compact M).length (cellsI (compact M)) ∧ ∀ B, B ≤ w2.heap.size → (∀ g, (Value.slice ao M.length c).ownBlock = some g → B ≤ g) → Below B w2 w') := compact_own ao c W.heap.size M w2 (by omega) o2
        rw [← HM.out] at HCo
        have hgb2 : ∀ g, (Value.slice ao M.length c).ownBlock = some g → W.heap.size ≤ g := fun g hg => (o2.lt g hg).1
        rw [hML]
        clear o2 b2 hgb hM hML HO2 HSo HL HLt HV2 HBW HM
        go_wp2_with fail
        refine HCo.out.mono ?_
        rintro e w3 ⟨rfl, o3, b3⟩
        have HB3 : Hid (Below W.heap.size W w3) := HB2.out.trans (b3 W.heap.size HB2.out.size hgb2)
        have HO3 : Hid (w3.ownsRow W.heap.size 2 1 (.slice ao V.length c) V.length (cellsI V)) := o3
        obtain ⟨-, q0, q1, qf, ql⟩ := HQ.out w3 HB3.out
        have HBw : Hid (Below w.heap.size w w3) := HB0.out.trans (HB3.out.mono HB0.out.size)
        have hgx : ∀ g, (Value.slice ao V.length c).ownBlock = some g → g ≠ w.heap.size + 1 := fun g hg => by have h1 := (o3.lt g hg).1; have h2 := HRL.out; omega
        clear o3 b3 hgb2 HCo
        go_wp2
        refine bodyPost_ret (v := .agg #[.int .i64 0, .slice ao V.length c]) (by simp [results, Tryz.results18, go_sem, q0, q1]) rfl ⟨ao, c, rfl, ?_, ?_⟩
        · exact own_base (own_apart (own_apart HO3.out (gb_set (gb_refl _ _) _) (fun g hg e => hgx g hg (Option.some.inj e).symm)) (gb_set (gb_refl _ _) _) (fun g hg e => hgx g hg (Option.some.inj e).symm)) (by have h2 := HRL.out; omega)
        · repeat (first | refine Below.setCell ?_ (by simp) _ | exact HBw.out)
  · have hcn : (R != 0) = true := by rw [bne_iff_ne]; exact hc
    have HV2 : Hid (V = []) := by show _ = _; rw [HV.out]; unfold outT; rw [if_neg (by rw [← HR.out]; exact hc)]
    obtain ⟨-, q0, q1, qf, ql⟩ := HQ.out w1 HB1.out
    have HBw : Hid (Below w.heap.size w w1) := HB0.out.trans (HB1.out.mono HB0.out.size)
    clear hc HV HR
    go_wp2
    refine bodyPost_ret (v := .agg #[.int .i64 R, .slice none 0 0]) (by simp [results, Tryz.results18, go_sem, q0, q1]) rfl ⟨none, 0, by rw [HV2.out]; rfl, ?_, ?_⟩
    · rw [HV2.out]; exact nilOwn _ _
    · repeat (first | refine Below.setCell ?_ (by simp) _ | exact HBw.out)
end Go.Proofs.YtkdhmijebkhmaaaGreatDoor
/-
  The exact law of TargetsIn answers true at every block; nothing that was there is turned.
-/
namespace Go.Proofs.YtkdhmijebkhmaaaGreatDoor
open Go.RowKit Go.Extern.Stop Go.Stop Go.Extern Num Go.Lib

/-- A box of two cells. -/
structure C2 (b : Nat) (v0 v1 : Value) (u : World) : Prop where
  c0 : u.cell? ⟨b, 0, none⟩ = some v0
  c1 : u.cell? ⟨b, 1, none⟩ = some v1
theorem C2.below {b : Nat} {v0 v1 : Value} {u u' : World} (h : C2 b v0 v1 u) (hb : Below u.heap.size u u') : C2 b v0 v1 u' := ⟨cell_keep hb h.c0, cell_keep hb h.c1⟩
theorem C2.within {b lo hi : Nat} {v0 v1 : Value} {u u' : World} (h : C2 b v0 v1 u) (hw : Within lo hi u u') (hb : b < lo ∨ hi ≤ b) : C2 b v0 v1 u' := ⟨hw.cell h.c0 hb, hw.cell h.c1 hb⟩
theorem C2.grown {b : Nat} {v0 v1 : Value} {u u' : World} {r : Option Nat} (h : C2 b v0 v1 u) (hg : u.grownBy u' r) (hr : some b ≠ r) : C2 b v0 v1 u' := ⟨hg.cell h.c0 hr, hg.cell h.c1 hr⟩
theorem C2.new (u : World) (v0 v1 : Value) (T : TypeId) : C2 u.heap.size v0 v1 (u.alloc (.cells #[v0, v1] T)) := ⟨by rw [World.cell?_alloc_at _ _ _ _ rfl]; rfl, by rw [World.cell?_alloc_at _ _ _ _ rfl]; rfl⟩
theorem Within.oldB {lo hi B : Nat} {a w w' : World} (h : Below B a w) (hw : Within lo hi w w') (hB : B ≤ w.heap.size) (hl : B ≤ lo) : Below B a w' :=
  ⟨hw.os.trans h.os, hw.tape.trans h.tape, hw.output.trans h.output, Nat.le_trans h.size hw.size, fun k hk => (hw.block k (by omega) (.inl (by omega))).trans (h.block k hk)⟩
set_option maxRecDepth 100000 in
set_option maxHeartbeats 8000000 in
theorem lawTI_any (w : World) (hG : LT w) (b : Blk) (ao : Option Addr) (cap : Nat) (hM : MemOp w ao b.ops) (ha : b.able) :
    Calls Tryz.prog 5 #[b.val (.slice ao b.ops.length cap)] w fun e w' => e = .returned (.bool true) ∧ Below w.heap.size w w' := by
  obtain ⟨W, hW⟩ : ∃ W, W = w.alloc (.cells #[.int .i64 b.args, .slice ao b.ops.length cap] 38) := ⟨_, rfl⟩
  have HW : Hid (W = w.alloc (.cells #[.int .i64 b.args, .slice ao b.ops.length cap] 38)) := hW
  have HB0 : Hid (Below w.heap.size w W) := by rw [hW]; exact bnew _ _
  have HA0 : Hid (C2 w.heap.size (.int .i64 b.args) (.slice ao b.ops.length cap) W) := by rw [hW]; exact C2.new _ _ _ _
  have HZ : Hid (Calls Tryz.prog 15 #[b.val (.slice ao b.ops.length cap), .int .i64 1048576] W fun e w' => SZ1Bl b W e w') := szBl_any b ao cap 1048576 W (Nat.le_refl _) ha (hM.below HB0.out)
  have HM : Hid (∀ u, Below w.heap.size w u → MemOp u ao b.ops) := fun u hu => hM.below hu
  have HL : Hid (∀ u, Below w.heap.size w u → LT u) := fun u hu => hG.below hu
  have hs0 : w.heap.size < W.heap.size := by rw [hW]; simp
  clear hW hM hG ha
  have a0 := HA0.out.c0
  have a1 := HA0.out.c1
  go_enter Tryz.func5, Tryz.ntmps5
  go_wp2_with fail
  rw [← HW.out]
  clear a0 a1
  refine HZ.out.mono ?_
  rintro e w1 ⟨h1, b1⟩
  have B1 : Hid (Below w.heap.size w w1) := HB0.out.trans (b1.mono HB0.out.size)
  have A1 : Hid (C2 w.heap.size (.int .i64 b.args) (.slice ao b.ops.length cap) w1) := HA0.out.below b1
  have s1 : w.heap.size < w1.heap.size := Nat.lt_of_lt_of_le hs0 b1.size
  clear b1 HB0 HA0 HW HZ hs0
  rcases h1 with rfl | ⟨q, hq, rfl, hs⟩
  · go_wp2
    go_ret
    exact ⟨rfl, B1.out⟩
  have HS : Hid (b.small) := hs
  have hol : b.ops.length ≤ 1048576 := hs.len
  have HTo : Hid (∀ u, Below w.heap.size w u → Calls Tryz.prog 17 #[b.val (.slice ao b.ops.length cap)] u fun e w' => ∃ g, e = .returned (b.val (.slice (some ⟨g, 0, none⟩) b.ops.length b.ops.length)) ∧ IsOp w' (u.heap.size + 2) g b.ops.length b.ops ∧ Below u.heap.size u w') := fun u hu => toBl_any b ao cap u hs (HM.out u hu)
  have HSp : Hid (∀ (u : World) (g B : Nat), IsOp u B g b.ops.length b.ops → Calls Tryz.prog 16 #[b.val (.slice (some ⟨g, 0, none⟩) b.ops.length b.ops.length)] u fun e w' => AnsT b u e w') := fun u g B h => specTI_any b g B u hs h
  have HIm : Hid (∀ (u : World) (g B : Nat), LT u → IsOp u B g b.ops.length b.ops → Calls Tryz.prog 18 #[b.val (.slice (some ⟨g, 0, none⟩) b.ops.length b.ops.length)] u fun e w' => AnsT b u e w') := fun u g B hL h => implTI_any b g B u hs h hL
  have hMl := outT_len b
  unfold AnsT at HSp HIm
  generalize outT b = M at HSp HIm hMl
  generalize blkFault b = c0 at HSp HIm
  clear hs HM
  have a0 := A1.out.c0
  have a1 := A1.out.c1
  go_wp2_with fail
  clear a0 a1
  refine (HTo.out _ B1.out).mono ?_
  rintro e w2 ⟨g2, rfl, i2, b2⟩
  have I2 : Hid (IsOp w2 (w1.heap.size + 2) g2 b.ops.length b.ops) := i2
  have B2 : Hid (Below w.heap.size w w2) := B1.out.trans (b2.mono B1.out.size)
  have A2 : Hid (C2 w.heap.size (.int .i64 b.args) (.slice ao b.ops.length cap) w2) := A1.out.below b2
  have s2 : w1.heap.size ≤ w2.heap.size := b2.size
  clear b2 i2 A1 B1
  go_wp2_with fail
  refine (HSp.out w2 g2 _ I2.out).mono ?_
  rintro e w3 ⟨a3, ca, rfl, o3, b3⟩
  have O3 : Hid (World.ownsRow (w3.alloc (.cells #[.int .i64 c0, .slice a3 M.length ca] 42)) w2.heap.size 2 1 (.slice a3 M.length ca) M.length (cellsI M)) := own_below o3 (bnew _ _)
  have B3 : Hid (Below w.heap.size w (w3.alloc (.cells #[.int .i64 c0, .slice a3 M.length ca] 42))) := (B2.out.trans (b3.mono B2.out.size)).alloc (Nat.le_trans B2.out.size b3.size) _
  have A3 : Hid (C2 w.heap.size (.int .i64 b.args) (.slice ao b.ops.length cap) (w3.alloc (.cells #[.int .i64 c0, .slice a3 M.length ca] 42))) := (A2.out.below b3).below (bnew _ _)
  have X3 : Hid (C2 w3.heap.size (.int .i64 c0) (.slice a3 M.length ca) (w3.alloc (.cells #[.int .i64 c0, .slice a3 M.length ca] 42))) := C2.new _ _ _ _
  have s3 : w2.heap.size ≤ w3.heap.size := b3.size
  have hg3 : ∀ g, (Value.slice a3 M.length ca).ownBlock = some g → g < w3.heap.size := fun g hg => (o3.lt g hg).2
  have hx3 : (w3.alloc (.cells #[.int .i64 c0, .slice a3 M.length ca] 42)).heap.size = w3.heap.size + 1 := by simp
  clear b3 o3 A2 B2 I2
  have a0 := A3.out.c0
  have a1 := A3.out.c1
  go_wp2_with fail
  clear a0 a1
  generalize w3.alloc (.cells #[.int .i64 c0, .slice a3 M.length ca] 42) = u3 at O3 B3 A3 X3 hx3 ⊢
  refine (HTo.out _ B3.out).mono ?_
  rintro e w4 ⟨g4, rfl, i4, b4⟩
  have I4 : Hid (IsOp (w4.alloc (.cells #[.int .i64 b.args, .slice (some ⟨g4, 0, none⟩) b.ops.length b.ops.length] 46)) (u3.heap.size + 2) g4 b.ops.length b.ops) := i4.below (bnew _ _)
  obtain ⟨Pq, hP1, oP, hP6, dP⟩ := i4.datOk HS.out.names
  have DP : Hid (World.ownsRow (w4.alloc (.cells #[.int .i64 b.args, .slice (some ⟨g4, 0, none⟩) b.ops.length b.ops.length] 46)) (u3.heap.size + 2) 59 7 (.slice (some ⟨g4, 0, none⟩) b.ops.length b.ops.length) b.ops.length (cellsOp Pq) ∧ DatOk (w4.alloc (.cells #[.int .i64 b.args, .slice (some ⟨g4, 0, none⟩) b.ops.length b.ops.length] 46)) (u3.heap.size + 2) g4 w4.heap.size Pq) := ⟨oP.alloc _, dP.below (bnew _ _)⟩
  have hPl : Pq.length = b.ops.length := by rw [← hP1]; simp
  have HP6 : Hid (At6 (cellsOp Pq) Pq ∧ Pq.length = b.ops.length) := ⟨hP6, hPl⟩
  have hg4 : g4 < w4.heap.size := i4.lt.2
  have O4 : Hid (World.ownsRow (w4.alloc (.cells #[.int .i64 b.args, .slice (some ⟨g4, 0, none⟩) b.ops.length b.ops.length] 46)) w2.heap.size 2 1 (.slice a3 M.length ca) M.length (cellsI M)) := (own_below O3.out b4).alloc _
  have B4 : Hid (Below w.heap.size w (w4.alloc (.cells #[.int .i64 b.args, .slice (some ⟨g4, 0, none⟩) b.ops.length b.ops.length] 46))) := (B3.out.trans (b4.mono B3.out.size)).alloc (Nat.le_trans B3.out.size b4.size) _
  have A4 : Hid (C2 w.heap.size (.int .i64 b.args) (.slice ao b.ops.length cap) (w4.alloc (.cells #[.int .i64 b.args, .slice (some ⟨g4, 0, none⟩) b.ops.length b.ops.length] 46))) := (A3.out.below b4).below (bnew _ _)
  have X4 : Hid (C2 w3.heap.size (.int .i64 c0) (.slice a3 M.length ca) (w4.alloc (.cells #[.int .i64 b.args, .slice (some ⟨g4, 0, none⟩) b.ops.length b.ops.length] 46))) := (X3.out.below b4).below (bnew _ _)
  have Y4 : Hid (C2 w4.heap.size (.int .i64 b.args) (.slice (some ⟨g4, 0, none⟩) b.ops.length b.ops.length) (w4.alloc (.cells #[.int .i64 b.args, .slice (some ⟨g4, 0, none⟩) b.ops.length b.ops.length] 46))) := C2.new _ _ _ _
  have s4 : u3.heap.size ≤ w4.heap.size := b4.size
  have hx4 : (w4.alloc (.cells #[.int .i64 b.args, .slice (some ⟨g4, 0, none⟩) b.ops.length b.ops.length] 46)).heap.size = w4.heap.size + 1 := by simp
  clear b4 i4 A3 B3 X3 O3 oP dP hP6 hPl hP1
  go_wp2_with fail
  generalize w4.alloc (.cells #[.int .i64 b.args, .slice (some ⟨g4, 0, none⟩) b.ops.length b.ops.length] 46) = u4 at I4 DP O4 B4 A4 X4 Y4 hx4 ⊢
  refine (HIm.out u4 g4 _ (HL.out _ B4.out) I4.out).mono ?_
  rintro e w5 ⟨bo, cb, rfl, o5, b5⟩
  have Z5 : Hid (C2 w5.heap.size (.int .i64 c0) (.slice bo M.length cb) (w5.alloc (.cells #[.int .i64 c0, .slice bo M.length cb] 42))) := C2.new _ _ _ _
  have G5 : Hid (World.ownsRow (w5.alloc (.cells #[.int .i64 c0, .slice bo M.length cb] 42)) u4.heap.size 2 1 (.slice bo M.length cb) M.length (cellsI M)) := o5.alloc _
  have hg5 : ∀ g, (Value.slice bo M.length cb).ownBlock = some g → u4.heap.size ≤ g ∧ g < w5.heap.size := fun g hg => o5.lt g hg
  have s5 : u4.heap.size ≤ w5.heap.size := b5.size
  have hb5 : Below u4.heap.size u4 (w5.alloc (.cells #[.int .i64 c0, .slice bo M.length cb] 42)) := b5.alloc b5.size _
  have I5 : Hid (IsOp (w5.alloc (.cells #[.int .i64 c0, .slice bo M.length cb] 42)) (u3.heap.size + 2) g4 b.ops.length b.ops) := I4.out.below hb5
  have DP5 : Hid (World.ownsRow (w5.alloc (.cells #[.int .i64 c0, .slice bo M.length cb] 42)) (u3.heap.size + 2) 59 7 (.slice (some ⟨g4, 0, none⟩) b.ops.length b.ops.length) b.ops.length (cellsOp Pq) ∧ DatOk (w5.alloc (.cells #[.int .i64 c0, .slice bo M.length cb] 42)) (u3.heap.size + 2) g4 w4.heap.size Pq) := ⟨own_below DP.out.1 hb5, DP.out.2.below hb5⟩
  have O5 : Hid (World.ownsRow (w5.alloc (.cells #[.int .i64 c0, .slice bo M.length cb] 42)) w2.heap.size 2 1 (.slice a3 M.length ca) M.length (cellsI M)) := own_below O4.out hb5
  have B5 : Hid (Below w.heap.size w (w5.alloc (.cells #[.int .i64 c0, .slice bo M.length cb] 42))) := B4.out.trans (hb5.mono B4.out.size)
  have A5 : Hid (C2 w.heap.size (.int .i64 b.args) (.slice ao b.ops.length cap) (w5.alloc (.cells #[.int .i64 c0, .slice bo M.length cb] 42))) := A4.out.below hb5
  have X5 : Hid (C2 w3.heap.size (.int .i64 c0) (.slice a3 M.length ca) (w5.alloc (.cells #[.int .i64 c0, .slice bo M.length cb] 42))) := X4.out.below hb5
  have Y5 : Hid (C2 w4.heap.size (.int .i64 b.args) (.slice (some ⟨g4, 0, none⟩) b.ops.length b.ops.length) (w5.alloc (.cells #[.int .i64 c0, .slice bo M.length cb] 42))) := Y4.out.below hb5
  have hx5 : (w5.alloc (.cells #[.int .i64 c0, .slice bo M.length cb] 42)).heap.size = w5.heap.size + 1 := by simp
  clear b5 o5 hb5 A4 B4 X4 Y4 O4 I4 DP
  have p0 := X5.out.c0
  have p1 := X5.out.c1
  have q0 := Z5.out.c0
  have q1 := Z5.out.c1
  go_wp2_with fail
  clear p0 p1 q0 q1
  generalize w5.alloc (.cells #[.int .i64 c0, .slice bo M.length cb] 42) = u5 at Z5 G5 I5 DP5 O5 B5 A5 X5 Y5 hx5 ⊢
  refine (eqRI_same c0 bo a3 cb ca _ _ M _ (by omega) G5.out O5.out).mono ?_
  rintro e w6 ⟨rfl, b6⟩
  have Z6 : Hid (C2 w5.heap.size (.int .i64 c0) (.slice bo M.length cb) w6) := Z5.out.below b6
  have G6 : Hid (World.ownsRow w6 u4.heap.size 2 1 (.slice bo M.length cb) M.length (cellsI M)) := own_below G5.out b6
  have O6 : Hid (World.ownsRow w6 w2.heap.size 2 1 (.slice a3 M.length ca) M.length (cellsI M)) := own_below O5.out b6
  have I6 : Hid (IsOp w6 (u3.heap.size + 2) g4 b.ops.length b.ops) := I5.out.below b6
  have DP6 : Hid (World.ownsRow w6 (u3.heap.size + 2) 59 7 (.slice (some ⟨g4, 0, none⟩) b.ops.length b.ops.length) b.ops.length (cellsOp Pq) ∧ DatOk w6 (u3.heap.size + 2) g4 w4.heap.size Pq) := ⟨own_below DP5.out.1 b6, DP5.out.2.below b6⟩
  have B6 : Hid (Below w.heap.size w w6) := B5.out.trans (b6.mono B5.out.size)
  have A6 : Hid (C2 w.heap.size (.int .i64 b.args) (.slice ao b.ops.length cap) w6) := A5.out.below b6
  have X6 : Hid (C2 w3.heap.size (.int .i64 c0) (.slice a3 M.length ca) w6) := X5.out.below b6
  have Y6 : Hid (C2 w4.heap.size (.int .i64 b.args) (.slice (some ⟨g4, 0, none⟩) b.ops.length b.ops.length) w6) := Y5.out.below b6
  have s6 : u5.heap.size ≤ w6.heap.size := b6.size
  clear b6 Z5 G5 O5 I5 DP5 B5 A5 X5 Y5
  go_wp2_with fail
  refine wp_region_facts (by kernel_rfl) 4 (fun v => Below w6.heap.size w6 v) (fun u v => Below u.heap.size u v) (fun i v u => match i with | 0 => (fun v u => v = b.val (.slice (some ⟨g4, 0, none⟩) b.ops.length b.ops.length)) v u | 1 => (fun v u => v = b.val (.slice ao b.ops.length cap)) v u | 2 => (fun v u => ∃ g, v = b.val (.slice (some ⟨g, 0, none⟩) b.ops.length b.ops.length) ∧ IsOp u w6.heap.size g b.ops.length b.ops) v u | 3 => (fun v u => v = .bool true) v u | _ => True) (by kernel_rfl) [0, 1, 2, 3] (by kernel_rfl) ?b0 ?bk ?fk ⟨?s0, ?s1, ?s2, ?s3, trivial⟩ _ rfl [(0, some 27), (1, some 28), (2, some 29), (3, some 30)] (by kernel_rfl) ?last
  case b0 => exact Below.drew (Below.refl _ _)
  case bk => exact fun u v h hb => h.trans (hb.mono h.size)
  case fk => intro i v u u' h hb; match i, h with | 0, h => exact (h) | 1, h => exact (h) | 2, h => exact (let ⟨g, e, o⟩ := h; ⟨g, e, o.below hb⟩) | 3, h => exact (h) | _ + 4, _ => exact trivial
  case s0 =>
    refine StepF.of rfl [] (by kernel_rfl) ?_
    intro vs u hB hf K hK
    clear hf
    simp only [putsA, List.foldl_nil, Act.put, List.setIfInBounds_toArray] at hK ⊢
    rw [if_pos (by rfl)]
    obtain ⟨o0, o1⟩ := Y6.out.below hB
    go_simp
    exact hK.out _ _ (Below.refl _ _) rfl
  case s1 =>
    refine StepF.of rfl [] (by kernel_rfl) ?_
    intro vs u hB hf K hK
    clear hf
    simp only [putsA, List.foldl_nil, Act.put, List.setIfInBounds_toArray] at hK ⊢
    rw [if_pos (by rfl)]
    obtain ⟨o0, o1⟩ := A6.out.below hB
    go_simp
    exact hK.out _ _ (Below.refl _ _) rfl
  case s2 =>
    refine StepF.of rfl [(1, some 28)] (by kernel_rfl) ?_
    intro vs u hB hf K hK
    have f1 : (fun v u => v = b.val (.slice ao b.ops.length cap)) (vs 1) u := hf.1
    clear hf
    simp only [putsA, List.foldl_cons, List.foldl_nil, Act.put, List.setIfInBounds_toArray, List.set_cons_zero, List.set_cons_succ] at hK ⊢
    generalize vs 1 = v1 at f1 hK ⊢
    rw [if_pos (by rfl)]
    subst f1
    go_simp
    refine (HTo.out _ (B6.out.trans (hB.mono B6.out.size))).mono ?_
    rintro e w7 ⟨g, rfl, i7, b7⟩
    exact hK.out _ _ b7 ⟨g, rfl, i7.base (by have := hB.size; omega)⟩
  case s3 =>
    refine StepF.of rfl [(0, some 27), (2, some 29)] (by kernel_rfl) ?_
    intro vs u hB hf K hK
    have f0 : (fun v u => v = b.val (.slice (some ⟨g4, 0, none⟩) b.ops.length b.ops.length)) (vs 0) u := hf.1
    have f2 : (fun v u => ∃ g, v = b.val (.slice (some ⟨g, 0, none⟩) b.ops.length b.ops.length) ∧ IsOp u w6.heap.size g b.ops.length b.ops) (vs 2) u := hf.2.1
    clear hf
    simp only [putsA, List.foldl_cons, List.foldl_nil, Act.put, List.setIfInBounds_toArray, List.set_cons_zero, List.set_cons_succ] at hK ⊢
    generalize vs 0 = v0 at f0 hK ⊢
    generalize vs 2 = v2 at f2 hK ⊢
    rw [if_pos (by rfl)]
    subst f0
    obtain ⟨g, rfl, i7⟩ := f2
    go_simp
    refine (eqBl_same b g4 g _ _ _ hol HS.out.names (I6.out.below hB) i7).mono ?_
    rintro e w7 ⟨rfl, b7⟩
    exact hK.out _ _ b7 rfl
  case last =>
    intro vs u hB hf K hK
    have f0 : (fun v u => v = b.val (.slice (some ⟨g4, 0, none⟩) b.ops.length b.ops.length)) (vs 0) u := hf.1
    have f1 : (fun v u => v = b.val (.slice ao b.ops.length cap)) (vs 1) u := hf.2.1
    have f2 : (fun v u => ∃ g, v = b.val (.slice (some ⟨g, 0, none⟩) b.ops.length b.ops.length) ∧ IsOp u w6.heap.size g b.ops.length b.ops) (vs 2) u := hf.2.2.1
    have f3 : (fun v u => v = .bool true) (vs 3) u := hf.2.2.2.1
    clear hf
    simp only [putsA, List.foldl_cons, List.foldl_nil, Act.put, List.setIfInBounds_toArray, List.set_cons_zero, List.set_cons_succ]
    generalize vs 0 = v0 at f0 ⊢
    generalize vs 1 = v1 at f1 ⊢
    generalize vs 2 = v2 at f2 ⊢
    generalize vs 3 = v3 at f3 ⊢
    rw [if_pos (by rfl)]
    subst f3
    clear f0 f1 f2
    go_simp
    refine hK.out _ _ ?_
    have Z8 : Hid (C2 w5.heap.size (.int .i64 c0) (.slice bo M.length cb) u) := Z6.out.below hB
    have G8 : Hid (World.ownsRow u u4.heap.size 2 1 (.slice bo M.length cb) M.length (cellsI M)) := own_below G6.out hB
    have O8 : Hid (World.ownsRow u w2.heap.size 2 1 (.slice a3 M.length ca) M.length (cellsI M)) := own_below O6.out hB
    have DP8 : Hid (World.ownsRow u (u3.heap.size + 2) 59 7 (.slice (some ⟨g4, 0, none⟩) b.ops.length b.ops.length) b.ops.length (cellsOp Pq) ∧ DatOk u (u3.heap.size + 2) g4 w4.heap.size Pq) := ⟨own_below DP6.out.1 hB, DP6.out.2.below hB⟩
    have B8 : Hid (Below w.heap.size w u) := B6.out.trans (hB.mono B6.out.size)
    have A8 : Hid (C2 w.heap.size (.int .i64 b.args) (.slice ao b.ops.length cap) u) := A6.out.below hB
    have X8 : Hid (C2 w3.heap.size (.int .i64 c0) (.slice a3 M.length ca) u) := X6.out.below hB
    have Y8 : Hid (C2 w4.heap.size (.int .i64 b.args) (.slice (some ⟨g4, 0, none⟩) b.ops.length b.ops.length) u) := Y6.out.below hB
    have s8 : w6.heap.size ≤ u.heap.size := hB.size
    clear hK hB Z6 G6 O6 I6 DP6 B6 A6 X6 Y6
    have HK : Hid (Calls Tryz.prog 21 #[b.val (.slice (some ⟨g4, 0, none⟩) b.ops.length b.ops.length), .int .i64 1] u fun e w' => ∃ q : Nat, e = .returned (.int .i64 (q : Int)) ∧ Within u3.heap.size w4.heap.size u w') := markBl_any b g4 _ w4.heap.size u3.heap.size _ Pq _ u HP6.out.2 hol DP8.out.1 HP6.out.1 DP8.out.2 (by omega) hg4
    clear DP8 HP6
    have a0 := Y8.out.c0
    have a1 := Y8.out.c1
    go_wp2_with fail
    clear a0 a1
    refine HK.out.mono ?_
    rintro e w9 ⟨kx, rfl, hw9⟩
    have Z9 : Hid (C2 w5.heap.size (.int .i64 c0) (.slice bo M.length cb) w9) := Z8.out.within hw9 (.inr (by omega))
    have X9 : Hid (C2 w3.heap.size (.int .i64 c0) (.slice a3 M.length ca) w9) := X8.out.within hw9 (.inl (by omega))
    have A9 : Hid (C2 w.heap.size (.int .i64 b.args) (.slice ao b.ops.length cap) w9) := A8.out.within hw9 (.inl (by omega))
    have G9 : Hid (World.ownsRow w9 u4.heap.size 2 1 (.slice bo M.length cb) M.length (cellsI M)) := hw9.own G8.out (fun g hg => .inr (by have := hg5 g hg; omega))
    have O9 : Hid (World.ownsRow w9 w2.heap.size 2 1 (.slice a3 M.length ca) M.length (cellsI M)) := hw9.own O8.out (fun g hg => .inl (by have := hg3 g hg; omega))
    have B9 : Hid (Below w.heap.size w w9) := Within.oldB B8.out hw9 B8.out.size (by omega)
    have s9 : u.heap.size ≤ w9.heap.size := hw9.size
    clear hw9 Z8 X8 A8 Y8 G8 O8 B8 HK
    have p0 := X9.out.c0
    have p1 := X9.out.c1
    have q0 := Z9.out.c0
    have q1 := Z9.out.c1
    go_wp2_with fail
    clear p0 p1 q0 q1
    refine (eqRI_same c0 bo a3 cb ca _ _ M _ (by omega) G9.out O9.out).mono ?_
    rintro e w10 ⟨rfl, b10⟩
    have Z10 : Hid (C2 w5.heap.size (.int .i64 c0) (.slice bo M.length cb) w10) := Z9.out.below b10
    have X10 : Hid (C2 w3.heap.size (.int .i64 c0) (.slice a3 M.length ca) w10) := X9.out.below b10
    have A10 : Hid (C2 w.heap.size (.int .i64 b.args) (.slice ao b.ops.length cap) w10) := A9.out.below b10
    have G10 : Hid (World.ownsRow w10 u4.heap.size 2 1 (.slice bo M.length cb) M.length (cellsI M)) := own_below G9.out b10
    have O10 : Hid (World.ownsRow w10 w2.heap.size 2 1 (.slice a3 M.length ca) M.length (cellsI M)) := own_below O9.out b10
    have B10 : Hid (Below w.heap.size w w10) := B9.out.trans (b10.mono B9.out.size)
    have s10 : w9.heap.size ≤ w10.heap.size := b10.size
    clear b10 Z9 X9 A9 G9 O9 B9
    have q0 := Z10.out.c0
    have q1 := Z10.out.c1
    go_wp2_with fail
    clear q0 q1
    refine (markRI_any c0 bo cb _ M _ (by omega) G10.out).mono ?_
    rintro e w11 ⟨rfl, o11, g11⟩
    obtain ⟨kk, hkk⟩ : ∃ kk : Nat, kk = 1 + M.length := ⟨_, rfl⟩
    have HKK : Hid (kk = 1 + M.length) := hkk
    rw [← hkk]
    clear hkk
    have hne5 : ∀ g, (Value.slice bo M.length cb).ownBlock = some g → w4.heap.size < g ∧ g < w5.heap.size := fun g hg => by have := hg5 g hg; omega
    have hrow : ∀ y, y ≤ w4.heap.size ∨ w5.heap.size ≤ y → some y ≠ (Value.slice bo M.length cb).ownBlock := fun y hy e => by have := hne5 y e.symm; omega
    have Z11 : Hid (C2 w5.heap.size (.int .i64 c0) (.slice bo M.length cb) w11) := Z10.out.grown g11 (hrow _ (.inr (Nat.le_refl _)))
    have X11 : Hid (C2 w3.heap.size (.int .i64 c0) (.slice a3 M.length ca) w11) := X10.out.grown g11 (hrow _ (.inl (by omega)))
    have A11 : Hid (C2 w.heap.size (.int .i64 b.args) (.slice ao b.ops.length cap) w11) := A10.out.grown g11 (hrow _ (.inl (by omega)))
    have G11 : Hid (World.ownsRow w11 u4.heap.size 2 1 (.slice bo M.length cb) M.length (cellsI (marksI 1 M.length))) := o11
    have O11 : Hid (World.ownsRow w11 w2.heap.size 2 1 (.slice a3 M.length ca) M.length (cellsI M)) := own_apart O10.out g11 (fun g hg e => hrow g (.inl (by have := hg3 g hg; omega)) e.symm)
    have B11 : Hid (Below w.heap.size w w11) := B10.out.trans (below_of_grown g11 B10.out.size (fun k hk => by have := hne5 k hk; omega))
    clear o11 g11 Z10 X10 A10 G10 O10 B10
    have q0 := Z11.out.c0
    have q1 := Z11.out.c1
    go_wp2_with fail
    clear q0 q1
    refine (heldRI_any c0 bo cb _ M.length _ (by omega) G11.out).mono ?_
    rintro e w12 ⟨rfl, b12⟩
    have Z12 : Hid (C2 w5.heap.size (.int .i64 c0) (.slice bo M.length cb) w12) := Z11.out.below b12
    have X12 : Hid (C2 w3.heap.size (.int .i64 c0) (.slice a3 M.length ca) w12) := X11.out.below b12
    have A12 : Hid (C2 w.heap.size (.int .i64 b.args) (.slice ao b.ops.length cap) w12) := A11.out.below b12
    have G12 : Hid (World.ownsRow w12 u4.heap.size 2 1 (.slice bo M.length cb) M.length (cellsI (marksI 1 M.length))) := own_below G11.out b12
    have O12 : Hid (World.ownsRow w12 w2.heap.size 2 1 (.slice a3 M.length ca) M.length (cellsI M)) := own_below O11.out b12
    have B12 : Hid (Below w.heap.size w w12) := B11.out.trans (b12.mono B11.out.size)
    clear b12 Z11 X11 A11 G11 O11 B11
    rw [← HKK.out]
    have hkn : ((kk : Int) != (kk : Int)) = false := by simp
    have a0 := A12.out.c0
    have a1 := A12.out.c1
    go_wp2_with fail
    clear a0 a1 hkn
    refine (HTo.out _ B12.out).mono ?_
    rintro e w13 ⟨g13, rfl, i13, b13⟩
    have I13 : Hid (IsOp w13 (w12.heap.size + 2) g13 b.ops.length b.ops) := i13
    have Z13 : Hid (C2 w5.heap.size (.int .i64 c0) (.slice bo M.length cb) w13) := Z12.out.below b13
    have X13 : Hid (C2 w3.heap.size (.int .i64 c0) (.slice a3 M.length ca) w13) := X12.out.below b13
    have G13 : Hid (World.ownsRow w13 u4.heap.size 2 1 (.slice bo M.length cb) M.length (cellsI (marksI 1 M.length))) := own_below G12.out b13
    have O13 : Hid (World.ownsRow w13 w2.heap.size 2 1 (.slice a3 M.length ca) M.length (cellsI M)) := own_below O12.out b13
    have B13 : Hid (Below w.heap.size w w13) := B12.out.trans (b13.mono B12.out.size)
    clear i13 b13 Z12 X12 A12 G12 O12 B12
    go_wp2_with fail
    refine (HIm.out w13 g13 _ (HL.out _ B13.out) I13.out).mono ?_
    rintro e w14 ⟨vo, cv, rfl, o14, b14⟩
    have hb14 : Below w13.heap.size w13 (w14.alloc (.cells #[.int .i64 c0, .slice vo M.length cv] 42)) := b14.alloc b14.size _
    have V14 : Hid (C2 w14.heap.size (.int .i64 c0) (.slice vo M.length cv) (w14.alloc (.cells #[.int .i64 c0, .slice vo M.length cv] 42))) := C2.new _ _ _ _
    have F14 : Hid (World.ownsRow (w14.alloc (.cells #[.int .i64 c0, .slice vo M.length cv] 42)) w13.heap.size 2 1 (.slice vo M.length cv) M.length (cellsI M)) := o14.alloc _
    have Z14 : Hid (C2 w5.heap.size (.int .i64 c0) (.slice bo M.length cb) (w14.alloc (.cells #[.int .i64 c0, .slice vo M.length cv] 42))) := Z13.out.below hb14
    have X14 : Hid (C2 w3.heap.size (.int .i64 c0) (.slice a3 M.length ca) (w14.alloc (.cells #[.int .i64 c0, .slice vo M.length cv] 42))) := X13.out.below hb14
    have G14 : Hid (World.ownsRow (w14.alloc (.cells #[.int .i64 c0, .slice vo M.length cv] 42)) u4.heap.size 2 1 (.slice bo M.length cb) M.length (cellsI (marksI 1 M.length))) := own_below G13.out hb14
    have O14 : Hid (World.ownsRow (w14.alloc (.cells #[.int .i64 c0, .slice vo M.length cv] 42)) w2.heap.size 2 1 (.slice a3 M.length ca) M.length (cellsI M)) := own_below O13.out hb14
    have B14 : Hid (Below w.heap.size w (w14.alloc (.cells #[.int .i64 c0, .slice vo M.length cv] 42))) := B13.out.trans (hb14.mono B13.out.size)
    clear b14 o14 hb14 Z13 X13 G13 O13 B13 I13
    have p0 := X14.out.c0
    have p1 := X14.out.c1
    have q0 := V14.out.c0
    have q1 := V14.out.c1
    go_wp2_with fail
    clear p0 p1 q0 q1
    generalize w14.alloc (.cells #[.int .i64 c0, .slice vo M.length cv] 42) = u14 at V14 F14 Z14 X14 G14 O14 B14 ⊢
    refine (eqRI_same c0 vo a3 cv ca _ _ M _ (by omega) F14.out O14.out).mono ?_
    rintro e w15 ⟨rfl, b15⟩
    have Z15 : Hid (C2 w5.heap.size (.int .i64 c0) (.slice bo M.length cb) w15) := Z14.out.below b15
    have G15 : Hid (World.ownsRow w15 u4.heap.size 2 1 (.slice bo M.length cb) M.length (cellsI (marksI 1 M.length))) := own_below G14.out b15
    have B15 : Hid (Below w.heap.size w w15) := B14.out.trans (b15.mono B14.out.size)
    clear b15 V14 F14 Z14 X14 G14 O14 B14
    have q0 := Z15.out.c0
    have q1 := Z15.out.c1
    go_wp2_with fail
    clear q0 q1
    refine (heldRI_any c0 bo cb _ M.length _ (by omega) G15.out).mono ?_
    rintro e w16 ⟨rfl, b16⟩
    have B16 : Hid (Below w.heap.size w w16) := B15.out.trans (b16.mono B15.out.size)
    clear b16 Z15 G15 B15
    rw [← HKK.out]
    have hkn : ((kk : Int) != (kk : Int)) = false := by simp
    go_wp2
    go_ret
    exact ⟨rfl, B16.out⟩
end Go.Proofs.YtkdhmijebkhmaaaGreatDoor
