/-
  Parts of the proof laid into one text, one behind the other: SpecTgt, SortRow, ImplTgt. Contracts of the program's and the model's functions, and what they are proved of, as their theorems say.
-/
import Derived.Test.YtoafolefecddmaaGreatDoorCoC
import Derived.Test.YtoafolefecddmaaGreatDoorTgtMathHv
import Derived.Test.YtoafolefecddmaaGreatDoorIntRowHv
import Derived.Test.YtoafolefecddmaaGreatDoorShelfSort
import Derived.Lib.RowBridge
import Derived.Test.YtoafolefecddmaaGreatDoorCoB
namespace Go.Proofs.YtoafolefecddmaaGreatDoor
open Go.RowKit Go.Extern.Stop Go.Stop Go.Extern Num Go.Lib
theorem l9Target_any (t : Opr) (B g o gk : Nat) (w : World) (h : OpAt w B g o t gk) : Calls Tryz.prog 153 #[.pointer (some ⟨g, o, none⟩)] w fun e w' => e = .returned (.int .i64 (tgtO t)) ∧ w' = w := by
  obtain ⟨p0, p1, p2, p3, p4, p5, p6, _⟩ := h
  obtain ⟨R, hR⟩ : ∃ R, R = tgtO t := ⟨_, rfl⟩
  rw [← hR]
  have HR : Hid (R = if t.kind = 5 ∨ t.kind = 6 then t.a else if t.kind = 16 then t.c else -1) := hR
  clear hR
  cases k5 : (t.kind == 5) <;> cases k6 : (t.kind == 6) <;> cases k16 : (t.kind == 16)
  all_goals
    have HF : Hid ((t.kind = 5 ↔ (t.kind == 5) = true) ∧ (t.kind = 6 ↔ (t.kind == 6) = true) ∧ (t.kind = 16 ↔ (t.kind == 16) = true)) := ⟨by simp, by simp, by simp⟩
    rw [k5, k6, k16] at HF
    go_enter Tryz.func153, Tryz.ntmps153
    go_wp2
    go_ret
    exact ⟨by rw [HR.out]; have := HF.out; simp_all, rfl⟩
def isTo (l : List Opr) (x : Int) (j : Nat) : Prop := ∀ (k : Nat) (h : k < l.length), k < j → (tgtO l[k] == x) = false
theorem isT_hit {l : List Opr} {x : Int} (j : Nat) (h : j < l.length) (he : (tgtO l[j] == x) = true) : isT l x = true := List.any_eq_true.2 ⟨l[j], List.getElem_mem h, he⟩
theorem isT_none {l : List Opr} {x : Int} (h : isTo l x l.length) : isT l x = false := by
  unfold isT
  rw [List.any_eq_false]
  intro t ht
  obtain ⟨k, hk, rfl⟩ := List.getElem_of_mem ht
  rw [h k hk hk]; decide
def outT (b : Blk) : List Int := if blkFault b = 0 then tgtTo b.ops 1000 else []
theorem tgtTo_len (l : List Opr) (n : Nat) : (tgtTo l n).length ≤ n := by
  unfold tgtTo
  rw [List.length_map]
  exact Nat.le_trans (List.length_filter_le _ _) (by simp)
theorem outT_len (b : Blk) : (outT b).length ≤ 1000 := by
  unfold outT
  split
  · exact tgtTo_len _ _
  · simp
def AnsT (b : Blk) (w : World) (e : Ending) (w' : World) : Prop :=
  ∃ ao c, e = .returned (.agg #[.int .i64 (blkFault b), .slice ao (outT b).length c]) ∧ w'.ownsRow w.heap.size 2 1 (.slice ao (outT b).length c) (outT b).length (cellsI (outT b)) ∧ Below w.heap.size w w'
theorem nilOwn (w : World) (B : Nat) : w.ownsRow B 2 1 (.slice none 0 0) 0 (cellsI []) := ⟨rfl, .inl ⟨rfl, rfl⟩⟩
theorem putCells_take (L2 : List Int) (cur : Array Value) (h : L2.length ≤ cur.size) : (Go.Sort.putCells (Value.int .i64) 0 L2.toArray cur).toList.take L2.length = cellsI L2 := by
  apply List.ext_getElem
  · simp [Go.Sort.putCells, cellsI]; omega
  · intro k h1 h2
    have hk : k < L2.length := by simpa [cellsI] using h2
    simp [Go.Sort.putCells, cellsI, hk]
theorem putRow_heap (w : World) (q g : Nat) (L2 : List Int) (cur : Array Value) (T : TypeId) (fz : Nat × Nat) (h : w.heap[g]? = some (.cells cur T fz)) : (Go.Sort.putRow (Value.int .i64) (Go.Sort.ahead w q) g 0 L2.toArray).heap[g]? = some (.cells (Go.Sort.putCells (Value.int .i64) 0 L2.toArray cur) T fz) := by
  simp [Go.Sort.putRow, Go.Sort.mapBlock, Array.getElem?_modify, h, Go.Sort.onCells]
theorem putRow_below (w : World) (q g B : Nat) (L2 : List Int) (hB : B ≤ g) : Below B w (Go.Sort.putRow (Value.int .i64) (Go.Sort.ahead w q) g 0 L2.toArray) :=
  ⟨rfl, rfl, rfl, by simp, fun k hk => by
    have : g ≠ k := by omega
    simp [Go.Sort.putRow, Go.Sort.mapBlock, Array.getElem?_modify, this]⟩
theorem grow_below (w : World) (os : Array Obj) : Below w.heap.size w (Go.Sort.grow w os) :=
  ⟨rfl, rfl, rfl, by simp, fun _ hk => Go.Sort.heap_grow_old w os hk⟩
theorem own_putRow {w : World} {base g cap n : Nat} {xs : List Value} (q : Nat) (L2 : List Int) (m : Nat) (h : w.ownsRow base 2 1 (.slice (some ⟨g, 0, none⟩) n cap) n xs) (hl : L2.length = n) (hm : m ≤ n) :
    (Go.Sort.putRow (Value.int .i64) (Go.Sort.ahead w q) g 0 L2.toArray).ownsRow base 2 1 (.slice (some ⟨g, 0, none⟩) m cap) m (cellsI (L2.take m)) := by
  obtain ⟨_, h2⟩ := h
  rcases h2 with ⟨e, _⟩ | ⟨g', cap', cur, e, hb, hc, hn, hmx, hs, _⟩
  · cases e
  · obtain ⟨rfl, rfl⟩ : g = g' ∧ cap = cap' := by simp at e; exact e
    refine ⟨by simp [cellsI]; omega, .inr ⟨g, cap, _, rfl, hb, putRow_heap w q g L2 cur _ _ hc, by omega, hmx, by simpa [Go.Sort.putCells] using hs, ?_⟩⟩
    have ht := putCells_take L2 cur (by omega)
    have e2 : (Go.Sort.putCells (Value.int .i64) 0 L2.toArray cur).toList.take (m * 1) = ((Go.Sort.putCells (Value.int .i64) 0 L2.toArray cur).toList.take L2.length).take m := by
      rw [List.take_take]; congr 1; omega
    rw [e2, ht]
    simp [cellsI, List.map_take]
theorem own_holds {w : World} {base g cap : Nat} {L : List Int} (h : w.ownsRow base 2 1 (.slice (some ⟨g, 0, none⟩) L.length cap) L.length (cellsI L)) : Go.Sort.Holds (Value.int .i64) w g 0 L.toArray := by
  intro j hj
  have hj' : j < L.length := by simpa using hj
  have hc := rowI_at h j hj'
  refine ⟨?_, ?_⟩
  · rw [Nat.zero_add, hc]; simp [hj']
  · rw [Nat.zero_add]; exact own_frozen h j
set_option maxRecDepth 100000 in
theorem sort_own (ao : Option Addr) (cap base : Nat) (L : List Int) (w : World) (hL : L.length ≤ 1048576) (h : w.ownsRow base 2 1 (.slice ao L.length cap) L.length (cellsI L)) :
    Calls Tryz.prog 122 #[.slice ao L.length cap] w fun e w' => e = .returned (.tuple #[]) ∧ w'.ownsRow base 2 1 (.slice ao L.length cap) L.length (cellsI (L.mergeSort (fun x y => decide (x ≤ y)))) ∧ ∀ B, B ≤ w.heap.size → (∀ g, (Value.slice ao L.length cap).ownBlock = some g → B ≤ g) → Below B w w' := by
  by_cases h0 : L.length = 0
  · have e : L = [] := List.length_eq_zero_iff.1 h0
    subst e
    exact (Tryz.sort_int64_none ao cap w).mono fun e w' ⟨h1, h2⟩ => by
      subst h2
      exact ⟨h1, by simpa using h, fun B _ _ => Below.refl _ _⟩
  · obtain ⟨g, c, hv, _, _⟩ := h.form (by omega)
    obtain ⟨rfl, rfl⟩ : ao = some ⟨g, 0, none⟩ ∧ cap = c := by simp at hv; exact hv
    have hlt := h.lt g rfl
    refine (Tryz.sort_int64 g 0 cap L w (own_holds h) hlt.2 (by omega)).mono ?_
    rintro e w' ⟨rfl, n, os, rfl⟩
    have hsl : (L.mergeSort (fun x y => decide (x ≤ y))).length = L.length := List.length_mergeSort _
    have ho := own_putRow n (L.mergeSort (fun x y => decide (x ≤ y))) L.length h hsl (Nat.le_refl _)
    rw [List.take_of_length_le (by omega)] at ho
    refine ⟨rfl, own_below ho (grow_below _ _), fun B hB hg => ?_⟩
    exact (putRow_below w n g B _ (hg g rfl)).trans ((grow_below _ _).mono (by simpa using hB))
set_option maxRecDepth 100000 in
theorem compact_own (ao : Option Addr) (cap base : Nat) (L : List Int) (w : World) (hL : L.length ≤ 1048576) (h : w.ownsRow base 2 1 (.slice ao L.length cap) L.length (cellsI L)) :
    Calls Tryz.prog 123 #[.slice ao L.length cap] w fun e w' => e = .returned (.slice ao (compact L).length cap) ∧ w'.ownsRow base 2 1 (.slice ao (compact L).length cap) (compact L).length (cellsI (compact L)) ∧ ∀ B, B ≤ w.heap.size → (∀ g, (Value.slice ao L.length cap).ownBlock = some g → B ≤ g) → Below B w w' := by
  by_cases h0 : L.length = 0
  · have e : L = [] := List.length_eq_zero_iff.1 h0
    subst e
    refine (Tryz.compact_int64_none ao cap w).mono fun e w' ⟨h1, h2⟩ => ?_
    subst h2
    have e2 : compact ([] : List Int) = [] := rfl
    rw [e2]
    exact ⟨h1, by simpa using h, fun B _ _ => Below.refl _ _⟩
  · obtain ⟨g, c, hv, hcap, _⟩ := h.form (by omega)
    obtain ⟨rfl, rfl⟩ : ao = some ⟨g, 0, none⟩ ∧ cap = c := by simp at hv; exact hv
    have hcc : L.length ≤ cap := by
      rcases h.2 with ⟨e, _⟩ | ⟨g', cap', cur, e, _, _, hn, _⟩
      · cases e
      · obtain ⟨rfl, rfl⟩ : g = g' ∧ cap = cap' := by simp at e; exact e
        exact hn
    have hlen := compact_length_le L
    refine (Tryz.compact_int64 g 0 cap L w (own_holds h) (by omega) hcc).mono ?_
    rintro e w' ⟨rfl, q, rfl⟩
    have ho := own_putRow q (compact L ++ List.replicate (L.length - (compact L).length) 0) (compact L).length h (by simp; omega) hlen
    rw [List.take_left] at ho
    exact ⟨rfl, ho, fun B _ hg => putRow_below w q g B _ (hg g rfl)⟩
theorem target_any (t : Opr) (w : World) : Calls Tryz.prog 121 #[t.num] w fun e w' => e = .returned (.tuple #[.int .i64 (if hasT t then tgtO t else 0), .bool (hasT t)]) ∧ Below w.heap.size w w' := by
  obtain ⟨R, hR⟩ : ∃ R, R = (if hasT t then tgtO t else 0) := ⟨_, rfl⟩
  obtain ⟨H, hH⟩ : ∃ H, H = hasT t := ⟨_, rfl⟩
  rw [← hR, ← hH]
  have HR : Hid (R = if H then (if t.kind = 5 ∨ t.kind = 6 then t.a else if t.kind = 16 then t.c else -1) else 0) := by show _ = _; rw [hR, hH]; rfl
  have HH : Hid (H = (t.kind == 5 || (t.kind == 6 || t.kind == 16))) := hH
  clear hR hH
  cases k5 : (t.kind == 5) <;> cases k6 : (t.kind == 6) <;> cases k16 : (t.kind == 16)
  all_goals
    have HF : Hid ((t.kind = 5 ↔ (t.kind == 5) = true) ∧ (t.kind = 6 ↔ (t.kind == 6) = true) ∧ (t.kind = 16 ↔ (t.kind == 16) = true)) := ⟨by simp, by simp, by simp⟩
    rw [k5, k6, k16] at HF HH
    go_enter Tryz.func121, Tryz.ntmps121
    go_wp2
    exact bodyPost_ret (v := .tuple #[.int .i64 R, .bool H]) (by
      have h1 := HR.out; have h2 := HH.out; have h3 := HF.out
      simp [results, Tryz.results121, go_sem]
      simp_all) rfl ⟨rfl, by repeat (first | exact Below.refl _ _ | refine Below.alloc ?_ (by simp <;> omega) _)⟩
theorem tgts_next (l : List Opr) (k : Nat) (h : k < l.length) : tgts (l.take (k + 1)) = tgts (l.take k) ++ (if hasT l[k] then [if hasT l[k] then tgtO l[k] else 0] else []) := by
  unfold tgts
  rw [List.take_add_one, List.getElem?_eq_getElem h, List.filter_append, List.map_append]
  cases e : hasT l[k] <;> simp [Option.toList, e]
theorem outT_sorted {b : Blk} (h : blkFault b = 0) : outT b = compact ((tgts b.ops).mergeSort (fun x y => decide (x ≤ y))) := by
  unfold outT
  rw [if_pos h, tgt_sorted]
  refine fun t ht => firstC_zero b.ops ?_ t ht
  unfold blkFault at h
  split at h
  · cases h
  · split at h
    · cases h
    · exact h
set_option maxRecDepth 100000 in
set_option maxHeartbeats 4000000 in
theorem implTI_any (b : Blk) (gk B : Nat) (w : World) (hs : b.small) (hO : IsOp w B gk b.ops.length b.ops) (hL : LT w) :
    Calls Tryz.prog 84 #[b.val (.slice (some ⟨gk, 0, none⟩) b.ops.length b.ops.length)] w fun e w' => AnsT b w e w' := by
  obtain ⟨W, hW⟩ : ∃ W, W = (w.alloc (.cells #[.int .i64 b.args, .slice (some ⟨gk, 0, none⟩) b.ops.length b.ops.length] 85)).alloc (.cells #[.int .i64 0, .slice none 0 0] 131) := ⟨_, rfl⟩
  have HW : Hid (W = (w.alloc (.cells #[.int .i64 b.args, .slice (some ⟨gk, 0, none⟩) b.ops.length b.ops.length] 85)).alloc (.cells #[.int .i64 0, .slice none 0 0] 131)) := hW
  have hb0 : Below w.heap.size w W := by rw [hW]; exact ((Below.refl _ _).alloc (Nat.le_refl _) _).alloc (by simp) _
  have a0 : W.cell? ⟨w.heap.size, 0, none⟩ = some (.int .i64 b.args) := by rw [hW]; simp [go_sem]
  have a1 : W.cell? ⟨w.heap.size, 1, none⟩ = some (.slice (some ⟨gk, 0, none⟩) b.ops.length b.ops.length) := by rw [hW]; simp [go_sem]
  have r0 : W.cell? ⟨w.heap.size + 1, 0, none⟩ = some (.int .i64 0) := by rw [hW]; simp [go_sem]
  have r1 : W.cell? ⟨w.heap.size + 1, 1, none⟩ = some (.slice none 0 0) := by rw [hW]; simp [go_sem]
  have rf : ∀ j, W.frozen? ⟨w.heap.size + 1, j, none⟩ = false := fun j => by rw [hW]; simp [go_sem]
  have rl : W.heap.size = w.heap.size + 1 + 1 := by rw [hW]; simp
  have HQ : Hid (∀ u, Below W.heap.size W u → u.cell? ⟨w.heap.size, 1, none⟩ = some (.slice (some ⟨gk, 0, none⟩) b.ops.length b.ops.length) ∧ u.cell? ⟨w.heap.size + 1, 0, none⟩ = some (.int .i64 0) ∧ u.cell? ⟨w.heap.size + 1, 1, none⟩ = some (.slice none 0 0) ∧ (∀ j, u.frozen? ⟨w.heap.size + 1, j, none⟩ = false) ∧ w.heap.size + 1 < u.heap.size) := fun u hu => ⟨cell_keep hu a1, cell_keep hu r0, cell_keep hu r1, fun j => by rw [(bcell hu).2 _ _ (by omega)]; exact rf j, by have := hu.size; omega⟩
  have HRL : Hid (W.heap.size = w.heap.size + 1 + 1) := rl
  have HB0 : Hid (Below w.heap.size w W) := hb0
  have HO : Hid (IsOp W B gk b.ops.length b.ops) := hO.below hb0
  have HS : Hid (b.small) := hs
  have hlen : b.ops.length ≤ 1048576 := hs.len
  have HF : Hid (Calls Tryz.prog 98 #[b.val (.slice (some ⟨gk, 0, none⟩) b.ops.length b.ops.length)] W fun e w' => e = .returned (.int .i64 (blkFault b)) ∧ Below W.heap.size W w') := blockFault_any b B gk W hs (hO.below hb0).row (hL.below hb0)
  obtain ⟨R, hR⟩ : ∃ R, R = blkFault b := ⟨_, rfl⟩
  obtain ⟨V, hV⟩ : ∃ V, V = outT b := ⟨_, rfl⟩
  have HR : Hid (R = blkFault b) := hR
  have HV : Hid (V = outT b) := hV
  unfold AnsT
  rw [← hR, ← hV]
  rw [← hR] at HF
  obtain ⟨i0, hi, hz0, hz1, hz2⟩ := info_parts infoI
  clear hW hO hR hV r0 r1 rf rl hb0 hs hL
  go_enter Tryz.func84, Tryz.ntmps84
  go_wp2_with fail
  rw [← HW.out]
  refine HF.out.mono ?_
  rintro e w1 ⟨rfl, b1⟩
  have HB1 : Hid (Below W.heap.size W w1) := b1
  have hsz1 : W.heap.size ≤ w1.heap.size := b1.size
  clear b1 HW HF a0 a1
  by_cases hc : R = 0
  · subst hc
    have HV2 : Hid (V = compact ((tgts b.ops).mergeSort (fun x y => decide (x ≤ y)))) := by show _ = _; rw [HV.out, outT_sorted HR.out.symm]
    clear HV HR
    obtain ⟨q9, -, -, -, -⟩ := HQ.out w1 HB1.out
    go_wp2_with fail
    clear q9
    go_loopw [4, 18] (fun v i wr => ∃ (j : Nat) (L : List Int) (ao : Option Addr) (c : Nat), j ≤ b.ops.length ∧ i = .int .i64 (j : Int) ∧ v = .slice ao L.length c ∧ L.length ≤ j ∧ Hid (L = tgts (b.ops.take j)) ∧ Hid (wr.ownsRow W.heap.size 2 1 (.slice ao L.length c) L.length (cellsI L)) ∧ Hid (Below W.heap.size W wr)) (fun _ i _ => b.ops.length - (RowKit.intOf i).toNat)
    case atStart => exact ⟨0, [], none, 0, Nat.zero_le _, rfl, rfl, Nat.le_refl _, rfl, nilOwn _ _, HB1.out⟩
    case round =>
      obtain ⟨j, L, ao, c, hj, rfl, rfl, hLj, HL, HO2, HBW⟩ := hrel
      by_cases hlt : j < b.ops.length
      · obtain ⟨gx, hox⟩ := (HO.out.below HBW.out).row.at j hlt
        obtain ⟨t, ht⟩ : ∃ t, t = b.ops[j]'hlt := ⟨_, rfl⟩
        rw [← ht] at hox
        have HN : Hid (tgts (b.ops.take (j + 1)) = tgts (b.ops.take j) ++ (if hasT t then [if hasT t then tgtO t else 0] else [])) := by rw [ht]; exact tgts_next b.ops j hlt
        obtain ⟨T, hT⟩ : ∃ T, T = (if hasT t then tgtO t else 0) := ⟨_, rfl⟩
        obtain ⟨H, hH⟩ : ∃ H, H = hasT t := ⟨_, rfl⟩
        have HTg : Hid (∀ x, Calls Tryz.prog 121 #[t.num] x fun e w' => e = .returned (.tuple #[.int .i64 T, .bool H]) ∧ Below x.heap.size x w') := fun x => by rw [hT, hH]; exact target_any t x
        have HOp : Hid (∀ x, Calls Tryz.prog 120 #[t.val (.slice (some ⟨gx, 0, none⟩) t.data.length t.data.length)] x fun e w' => e = .returned t.num ∧ Below x.heap.size x w') := fun x => operationOf_any t _ x
        rw [← hT, ← hH] at HN
        obtain ⟨c0, c1, c2, c3, c4, c5, c6, _⟩ := hox
        have hzw : W.heap.size ≤ wr.heap.size := HBW.out.size
        clear hT hH ht
        go_wp2_with fail
        refine (HOp.out _).mono ?_
        rintro e w2 ⟨rfl, b2⟩
        have HB2 : Hid (Below wr.heap.size wr w2) := (bnew wr _).trans (b2.mono (by simp))
        clear b2 c0 c1 c2 c3 c4 c5 c6
        go_wp2_with fail
        refine (HTg.out _).mono ?_
        rintro e w3 ⟨rfl, b3⟩
        have HB3 : Hid (Below wr.heap.size wr w3) := HB2.out.trans (b3.mono HB2.out.size)
        have HO3 : Hid (w3.ownsRow W.heap.size 2 1 (.slice ao L.length c) L.length (cellsI L)) := own_below HO2.out HB3.out
        have HBW3 : Hid (Below W.heap.size W w3) := HBW.out.trans (HB3.out.mono hzw)
        have hz3 : W.heap.size ≤ w3.heap.size := HBW3.out.size
        clear b3 HB2 HB3 HO2 HBW HTg HOp
        cases H
        · have HL2 : Hid (L = tgts (b.ops.take (j + 1))) := by show _ = _; rw [HN.out, HL.out]; simp
          go_wp2
          exact ⟨⟨j + 1, L, ao, c, by omega, by go_num, rfl, by omega, HL2.out, HO3.out, HBW3.out⟩, by simp [RowKit.intOf]; omega⟩
        · have HL2 : Hid (L ++ [T] = tgts (b.ops.take (j + 1))) := by show _ = _; rw [HN.out, HL.out]; simp
          go_wp2_with (first | (at_builtin; refine wpList_append_lies _ rfl (.tmp 29) (.tmp 31) 78 rfl W.heap.size 2 i0 _ 1 8 Tryz.underlying78 hi hz0 hz1 hz2 rfl (by decide) _ L.length (cellsI L) rfl (HO3.out.alloc _) ⟨_, 0, none⟩ 1 1 [.int .i64 T] rfl rfl ?c1 ?c2 (by decide) ?c3 ?c4 ?c5 _ rfl ?_))
          case c1 => exact newsI (heap_new' _ _ _ (by simp))
          case c2 => intro u hu; simp at hu; subst hu; rfl
          case c3 => unfold maxLen; omega
          case c4 => omega
          case c5 => simp; omega
          intro g' cap' w4 hown1 hgrow1 _ _
          have HO4 : Hid (w4.ownsRow W.heap.size 2 1 (.slice (some ⟨g', 0, none⟩) (L ++ [T]).length cap') (L ++ [T]).length (cellsI (L ++ [T]))) := by
            rw [cellsI_append, List.length_append]
            exact hown1
          have HB4 : Hid (Below W.heap.size W w4) := (HBW3.out.alloc hz3 _).grown hgrow1 (by simp; omega) (fun k hk => (HO3.out.lt k hk).1)
          clear hown1 hgrow1
          go_wp2
          exact ⟨⟨j + 1, L ++ [T], some ⟨g', 0, none⟩, cap', by omega, by go_num, by simp, by simp; omega, HL2.out, HO4.out, HB4.out⟩, by simp [RowKit.intOf]; omega⟩
      · have e : j = b.ops.length := by omega
        subst e
        have HLt : Hid (L = tgts b.ops) := by show _ = _; rw [HL.out, List.take_length]
        have HSo : Hid (Calls Tryz.prog 122 #[.slice ao L.length c] wr fun e w' => e = .returned (.tuple #[]) ∧ w'.ownsRow W.heap.size 2 1 (.slice ao L.length c) L.length (cellsI (L.mergeSort (fun x y => decide (x ≤ y)))) ∧ ∀ B, B ≤ wr.heap.size → (∀ g, (Value.slice ao L.length c).ownBlock = some g → B ≤ g) → Below B wr w') := sort_own ao c W.heap.size L wr (by omega) HO2.out
        have hgb : ∀ g, (Value.slice ao L.length c).ownBlock = some g → W.heap.size ≤ g := fun g hg => (HO2.out.lt g hg).1
        go_wp2_with fail
        refine HSo.out.mono ?_
        rintro e w2 ⟨rfl, o2, b2⟩
        have HB2 : Hid (Below W.heap.size W w2) := HBW.out.trans (b2 W.heap.size HBW.out.size hgb)
        obtain ⟨M, hM⟩ : ∃ M, M = L.mergeSort (fun x y => decide (x ≤ y)) := ⟨_, rfl⟩
        have hML : L.length = M.length := by rw [hM, List.length_mergeSort]
        have HM : Hid (V = compact M) := by show _ = _; rw [HV2.out, hM, HLt.out]
        rw [← hM, hML] at o2
        have HCo : Hid (Calls Tryz.prog 123 #[.slice ao M.length c] w2 fun e w' => e = .returned (.slice ao (compact M).length c) ∧ w'.ownsRow W.heap.size 2 1 (.slice ao (compact M).length c) (compact M).length (cellsI (compact M)) ∧ ∀ B, B ≤ w2.heap.size → (∀ g, (Value.slice ao M.length c).ownBlock = some g → B ≤ g) → Below B w2 w') := compact_own ao c W.heap.size M w2 (by omega) o2
        rw [← HM.out] at HCo
        have hgb2 : ∀ g, (Value.slice ao M.length c).ownBlock = some g → W.heap.size ≤ g := fun g hg => (o2.lt g hg).1
        rw [hML]
        clear o2 b2 hgb hM hML HO2 HSo HL HLt HV2 HBW HM
        go_wp2_with fail
        refine HCo.out.mono ?_
        rintro e w3 ⟨rfl, o3, b3⟩
        have HB3 : Hid (Below W.heap.size W w3) := HB2.out.trans (b3 W.heap.size HB2.out.size hgb2)
        have HO3 : Hid (w3.ownsRow W.heap.size 2 1 (.slice ao V.length c) V.length (cellsI V)) := o3
        obtain ⟨-, q0, q1, qf, ql⟩ := HQ.out w3 HB3.out
        have HBw : Hid (Below w.heap.size w w3) := HB0.out.trans (HB3.out.mono HB0.out.size)
        have hgx : ∀ g, (Value.slice ao V.length c).ownBlock = some g → g ≠ w.heap.size + 1 := fun g hg => by have h1 := (o3.lt g hg).1; have h2 := HRL.out; omega
        clear o3 b3 hgb2 HCo
        go_wp2
        refine bodyPost_ret (v := .agg #[.int .i64 0, .slice ao V.length c]) (by simp [results, Tryz.results84, go_sem, q0, q1]) rfl ⟨ao, c, rfl, ?_, ?_⟩
        · exact own_base (own_apart (own_apart HO3.out (gb_set (gb_refl _ _) _) (fun g hg e => hgx g hg (Option.some.inj e).symm)) (gb_set (gb_refl _ _) _) (fun g hg e => hgx g hg (Option.some.inj e).symm)) (by have h2 := HRL.out; omega)
        · repeat (first | refine Below.setCell ?_ (by simp) _ | exact HBw.out)
  · have hcn : (R != 0) = true := by rw [bne_iff_ne]; exact hc
    have HV2 : Hid (V = []) := by show _ = _; rw [HV.out]; unfold outT; rw [if_neg (by rw [← HR.out]; exact hc)]
    obtain ⟨-, q0, q1, qf, ql⟩ := HQ.out w1 HB1.out
    have HBw : Hid (Below w.heap.size w w1) := HB0.out.trans (HB1.out.mono HB0.out.size)
    clear hc HV HR
    go_wp2
    refine bodyPost_ret (v := .agg #[.int .i64 R, .slice none 0 0]) (by simp [results, Tryz.results84, go_sem, q0, q1]) rfl ⟨none, 0, by rw [HV2.out]; rfl, ?_, ?_⟩
    · rw [HV2.out]; exact nilOwn _ _
    · repeat (first | refine Below.setCell ?_ (by simp) _ | exact HBw.out)
end Go.Proofs.YtoafolefecddmaaGreatDoor
