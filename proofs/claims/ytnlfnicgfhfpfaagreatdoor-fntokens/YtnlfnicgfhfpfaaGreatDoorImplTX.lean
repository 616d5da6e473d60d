/-
  The program's TokensText, at every list of tokens: its text, or what is wrong with it; nothing that was there is turned.
-/
import Derived.Test.YtnlfnicgfhfpfaaGreatDoorSpecTX
import Derived.Test.YtnlfnicgfhfpfaaGreatDoorTText
import Derived.Laws.MakeOwn
namespace Go.Proofs.YtnlfnicgfhfpfaaGreatDoor
open Go.RowKit Go.Extern.Stop Go.Stop Go.Extern Num Go.Lib

theorem strInfo : (Tryz.prog.info? 9).map (fun i => (i.zero, i.size, i.bytes)) = some (some (.string ⟨#[]⟩), 1, 16) := by kernel_rfl
theorem make_str (n : Nat) (hn : n ≤ 120) (w : World) : (Instr.makeSlice 43 (.int .i64 0) (.int .i64 (n : Int))).run Tryz.prog w = .ok (.slice (some ⟨w.heap.size, 0, none⟩) 0 n) (w.alloc (.cells (madeCells #[.string ⟨#[]⟩] n) 9)) := by
  obtain ⟨i0, hi, hz0, hz1, hz2⟩ := info_parts strInfo
  have := run_make (P := Tryz.prog) w 43 9 i0 _ Tryz.underlying43 hi hz0 .i64 .i64 0 (n : Int) (by omega) (by omega) (by rw [hz2]; omega) (by omega)
  rw [this, hz1]
  simp [Value.cells]
/-- The texts of tokens, as cells. -/
def textCells (l : List Tok) : List Value := l.map fun t => .string (tokText t)
theorem textCells_next (l : List Tok) (k : Nat) (h : k < l.length) : textCells (l.take (k + 1)) = textCells (l.take k) ++ [.string (tokText l[k])] := by
  rw [toks_next l k h]; unfold textCells; rw [List.map_append]; rfl
theorem textCells_len (l : List Tok) : (textCells l).length = l.length := by simp [textCells]
theorem made_own (n base : Nat) (w : World) (h : w.heap.size = base) (hn : n ≤ 120) : (w.alloc (.cells (madeCells #[.string ⟨#[]⟩] n) 9)).ownsRow base 9 1 (.slice (some ⟨base, 0, none⟩) 0 n) 0 [] := by
  subst h
  exact World.ownsRow_made w _ n (Nat.le_refl _) (by unfold maxLen; omega) (by simp [madeCells])
theorem news1 {W : World} {b : Nat} {x : Value} {ty : TypeId} {fr : Nat × Nat} (h : W.heap[b]? = some (.cells #[x] ty fr)) : ∀ j u, [x][j]? = some u → W.cell? ((⟨b, 0, none⟩ : Addr).add j) = some u := by
  intro j u hj
  have ha : ∀ j, (⟨b, 0, none⟩ : Addr).add j = ⟨b, j, none⟩ := fun j => by unfold Addr.add; split <;> simp_all
  rw [ha, cell_of_row W b j _ ty fr h]
  match j, hj with
  | 0, hj => simpa using hj
theorem TT_ok (t : Tok) (h : tokFault t = 0) : TT t = .agg #[.int .i64 0, .string (tokText t)] := by simp [TT, h]
theorem TT_no (t : Tok) (h : tokFault t ≠ 0) : TT t = .agg #[.int .i64 (tokFault t), .string ⟨#[]⟩] := by simp [TT, h]
theorem implTX_many (a : Option Addr) (cap : Nat) (l : List Tok) (w : World) (h : 120 < (l.length : Int)) :
    Calls Tryz.prog 10 #[.slice a l.length cap] w fun e w' => e = .returned (.agg #[.int .i64 2, .string ⟨#[]⟩]) ∧ Below w.heap.size w w' := by
  go_enter Tryz.func10, Tryz.ntmps10
  go_wp2
  exact bodyPost_ret (v := .agg #[.int .i64 2, .string ⟨#[]⟩]) (by simp [results, Tryz.results10, go_sem]) rfl ⟨rfl, by
    repeat (first | exact Below.refl _ _ | refine Below.setCell ?_ (by simp) _ | refine Below.alloc ?_ (by simp <;> omega) _)⟩
set_option maxRecDepth 100000 in
set_option maxHeartbeats 2000000 in
theorem implTX_few (g cap base : Nat) (l : List Tok) (w : World) (hL : LT w) (hl : ¬ 120 < (l.length : Int)) (hz : ∀ (k : Nat) (h : k < l.length), l[k].name.size ≤ 1048576) (h : w.ownsRow base 37 3 (.slice (some ⟨g, 0, none⟩) l.length cap) l.length (cellsOf l)) :
    Calls Tryz.prog 10 #[.slice (some ⟨g, 0, none⟩) l.length cap] w fun e w' => e = .returned (if listFault l = 0 then .agg #[.int .i64 0, .string (joinT l)] else .agg #[.int .i64 (listFault l), .string ⟨#[]⟩]) ∧ Below w.heap.size w w' := by
  have HZ : Hid (∀ (k : Nat) (h : k < l.length), l[k].name.size ≤ 1048576) := hz
  have HO : Hid (w.ownsRow base 37 3 (.slice (some ⟨g, 0, none⟩) l.length cap) l.length (cellsOf l)) := h
  have HL : Hid (LT w) := hL
  have hmk := make_str l.length (by omega)
  obtain ⟨i0, hi, hz0, hz1, hz2⟩ := info_parts strInfo
  clear hz h hL
  obtain ⟨R, hR⟩ : ∃ R : Value, R = (if listFault l = 0 then .agg #[.int .i64 0, .string (joinT l)] else .agg #[.int .i64 (listFault l), .string ⟨#[]⟩]) := ⟨_, rfl⟩
  rw [← hR]
  have H0 : Hid (R = (if listFault l = 0 then .agg #[.int .i64 0, .string (joinT l)] else .agg #[.int .i64 (listFault l), .string ⟨#[]⟩])) := hR
  clear hR
  go_enter Tryz.func10, Tryz.ntmps10
  go_wp2_with fail
  go_loopw [3, 16] (fun v i wr => ∃ k q c : Nat, k ≤ l.length ∧ v = .slice (some ⟨q, 0, none⟩) k c ∧ i = .int .i64 (k : Int) ∧ Hid (listFault (l.take k) = 0) ∧ Hid (Box w wr) ∧ Hid (wr.ownsRow (w.heap.size + 1) 9 1 (.slice (some ⟨q, 0, none⟩) k c) k (textCells (l.take k)))) (fun _ i _ => l.length - (RowKit.intOf i).toNat)
  case atStart => exact ⟨0, _, _, Nat.zero_le _, rfl, rfl, rfl, (Below.refl _ _).alloc (Nat.le_refl _) _, made_own l.length _ _ (by simp) (by omega)⟩
  case round =>
    obtain ⟨k, q, c, hk, rfl, rfl, HF, HX, HW⟩ := hrel
    obtain ⟨b0, b1, bf, bz, hb⟩ := Box.facts HX.out
    have HB : Hid (Below w.heap.size w wr) := hb
    clear hb
    have hqg : w.heap.size + 1 ≤ q := (HW.out.lt q rfl).1
    have hql : q < wr.heap.size := (HW.out.lt q rfl).2
    by_cases hlt : k < l.length
    · obtain ⟨a0, a1, a2⟩ := row_at (own_below HO.out HB.out) k hlt
      have HI : Hid (∀ w, LT w → Calls Tryz.prog 12 #[(l[k]'hlt).val] w fun e w' => e = .returned (TT (l[k]'hlt)) ∧ Below w.heap.size w w') := fun w hL => implTT_any _ w hL (by have := HZ.out k hlt; omega)
      have hln : l.length ≤ 120 := by omega
      by_cases hf : tokFault (l[k]'hlt) = 0
      · rw [TT_ok _ hf] at HI
        have HN : Hid (listFault (l.take (k + 1)) = 0) := fault_on l k hlt HF.out hf
        clear hf
        go_wp2_with fail
        refine (HI.out _ (HL.out.below (HB.out.alloc (by omega) _))).mono ?_
        rintro e w1 ⟨rfl, hq1⟩
        have HX1 : Hid (Box w w1) := (HX.out.trans ((Below.refl _ _).alloc (Nat.le_refl _) _)).trans hq1
        have HW1 : Hid (w1.ownsRow (w.heap.size + 1) 9 1 (.slice (some ⟨q, 0, none⟩) k c) k (textCells (l.take k))) := own_below (HW.out.alloc _) hq1
        clear hq1 a0 a1 a2 b0 b1 bf bz HB
        obtain ⟨b0, b1, bf, bz, hb⟩ := Box.facts HX1.out
        clear hb
        go_wp2_with (first | (at_builtin; refine wpList_append_lies _ rfl (.tmp 26) (.tmp 29) 43 rfl (w.heap.size + 1) 9 i0 _ 1 16 Tryz.underlying43 hi hz0 hz1 hz2 rfl (by decide) _ k (textCells (l.take k)) rfl ?c0 ⟨_, 0, none⟩ 1 1 [.string (tokText (l[k]'hlt))] rfl rfl ?c1 ?c2 (by decide) ?c3 ?c4 ?c5 _ rfl ?_))
        case c0 => exact (HW1.out.alloc _).alloc _
        case c1 => exact news1 (heap_new' _ _ _ (by simp))
        case c2 => intro u hu; simp at hu; subst hu; rfl
        case c3 => unfold maxLen; omega
        case c4 => omega
        case c5 => simp; omega
        intro g' cap' w2 hown2 hgrow2 _ _
        have HX2 : Hid (Box w w2) := Below.grown ((HX1.out.trans ((Below.refl _ _).alloc (Nat.le_refl _) _)).trans ((Below.refl _ _).alloc (Nat.le_refl _) _)) hgrow2 (by simp; omega) (fun j hj => by simp [Value.ownBlock] at hj; simp; omega)
        rw [← textCells_next l k hlt] at hown2
        have HW2 : Hid (w2.ownsRow (w.heap.size + 1) 9 1 (.slice (some ⟨g', 0, none⟩) (k + 1) cap') (k + 1) (textCells (l.take (k + 1)))) := hown2
        clear hown2 hgrow2
        go_wp2
        exact ⟨⟨k + 1, g', cap', by omega, rfl, by go_num, HN.out, HX2.out, HW2.out⟩, by simp [RowKit.intOf]; omega⟩
      · rw [TT_no _ hf] at HI
        have HE : Hid (listFault l = tokFault (l[k]'hlt)) := fault_here l k hlt HF.out hf
        have HR : Hid (R = (.agg #[.int .i64 (tokFault (l[k]'hlt)), .string ⟨#[]⟩] : Value)) := by
          show _ = _
          rw [H0.out, HE.out, if_neg hf]
        have hf' : (tokFault (l[k]'hlt) != 0) = true := by simpa using hf
        clear hf
        go_wp2_with fail
        refine (HI.out _ (HL.out.below (HB.out.alloc (by omega) _))).mono ?_
        rintro e w1 ⟨rfl, hq1⟩
        have HX1 : Hid (Box w w1) := (HX.out.trans ((Below.refl _ _).alloc (Nat.le_refl _) _)).trans hq1
        clear hq1 a0 a1 a2 b0 b1 bf bz HB
        obtain ⟨b0, b1, bf, bz, hb⟩ := Box.facts HX1.out
        have HB : Hid (Below w.heap.size w w1) := hb
        clear hb
        go_wp2
        refine bodyPost_ret (v := .agg #[.int .i64 (tokFault (l[k]'hlt)), .string ⟨#[]⟩]) (by simp [results, Tryz.results10, go_sem, b0, b1, bz]) rfl ⟨by rw [HR.out], ?_⟩
        repeat (first | exact HB.out | refine Below.setCell ?_ (by simp) _ | refine Below.alloc ?_ (by simp; omega) _)
    · have hkl : k = l.length := by omega
      have h0 := HF.out
      rw [hkl, List.take_length] at h0
      have HR : Hid (R = (.agg #[.int .i64 0, .string (joinT l)] : Value)) := by
        show _ = _
        rw [H0.out, if_pos h0]
      have HJ : Hid (Calls Tryz.prog 22 #[.slice (some ⟨q, 0, none⟩) k c, .string ⟨#[32]⟩] wr fun e w' => e = .returned (.string (joinT l)) ∧ Below wr.heap.size wr w') := by
        have hcell : ∀ (j : Nat) x, (l.map tokText)[j]? = some x → wr.cell? ⟨q, 0 + j, none⟩ = some (.string x) := by
          intro j x hx
          have ha : ∀ j, (⟨q, 0, none⟩ : Addr).add j = ⟨q, j, none⟩ := fun j => by unfold Addr.add; split <;> simp_all
          rw [Nat.zero_add, ← ha]
          refine HW.out.cells (g := q) rfl j _ ?_
          rw [hkl, List.take_length]
          simp only [textCells, List.getElem?_map] at hx ⊢
          cases hj : l[j]? with
          | none => rw [hj] at hx; cases hx
          | some t => rw [hj] at hx; simp at hx; simp [hx]
        have hcap : k ≤ c := by
          rcases HW.out.2 with ⟨hv, _⟩ | ⟨g', c', cur, hv, _, _, hle, _⟩
          · simp at hv
          · simp at hv; omega
        have e := Tryz.strings_Join q 0 c (l.map tokText) ⟨#[32]⟩ wr hcell hql (by simp; omega) (by simp; omega) (by
          have := joinL_len l h0
          have e : Lib.join ((l.map tokText).map (·.data.toList)) [32] = joinL l := by simp [joinL, bytesOf, Function.comp_def]
          have e2 : (⟨#[32]⟩ : ByteArray).data.toList = [32] := rfl
          rw [e2, e]; omega)
        have e1 : (l.map tokText).length = k := by simp [hkl]
        have e2 : Lib.join ((l.map tokText).map (·.data.toList)) (⟨#[32]⟩ : ByteArray).data.toList = joinL l := by simp [joinL, bytesOf, Function.comp_def]
        rw [e1, e2] at e
        exact e
      clear hkl h0
      go_wp2_with fail
      refine HJ.out.mono ?_
      rintro e w1 ⟨rfl, hq1⟩
      have HX1 : Hid (Box w w1) := HX.out.trans hq1
      clear b0 b1 bf bz HB hq1
      obtain ⟨c0, c1, cf, cz, hb⟩ := Box.facts HX1.out
      have HB1 : Hid (Below w.heap.size w w1) := hb
      clear hb
      go_wp2
      refine bodyPost_ret (v := .agg #[.int .i64 0, .string (joinT l)]) (by simp [results, Tryz.results10, go_sem, c0, c1]) rfl ⟨by rw [HR.out], ?_⟩
      repeat (first | exact HB1.out | refine Below.setCell ?_ (by simp) _)
theorem implTX_any (g cap base : Nat) (l : List Tok) (w : World) (hL : LT w) (hz : ∀ (k : Nat) (h : k < l.length), l[k].name.size ≤ 1048576) (h : w.ownsRow base 37 3 (.slice (some ⟨g, 0, none⟩) l.length cap) l.length (cellsOf l)) :
    Calls Tryz.prog 10 #[.slice (some ⟨g, 0, none⟩) l.length cap] w fun e w' => e = .returned (TX l) ∧ Below w.heap.size w w' := by
  by_cases h1 : 120 < l.length
  · have e : TX l = .agg #[.int .i64 2, .string ⟨#[]⟩] := by simp [TX, h1]
    rw [e]; exact implTX_many _ cap l w (by omega)
  · have e : TX l = if listFault l = 0 then .agg #[.int .i64 0, .string (joinT l)] else .agg #[.int .i64 (listFault l), .string ⟨#[]⟩] := by simp [TX, h1]
    rw [e]; exact implTX_few g cap base l w hL (by omega) hz h
end Go.Proofs.YtnlfnicgfhfpfaaGreatDoor
