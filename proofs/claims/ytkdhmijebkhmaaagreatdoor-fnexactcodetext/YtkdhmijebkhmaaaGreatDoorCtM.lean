/-
  Parts of the proof laid into one text, one behind the other; each says at its head what is proved in it.
-/
import Derived.Test.YtkdhmijebkhmaaaGreatDoorCtC
import Derived.Test.YtkdhmijebkhmaaaGreatDoorCtA
import Derived.Test.YtkdhmijebkhmaaaGreatDoorTextMath9
import Derived.Test.YtkdhmijebkhmaaaGreatDoorTexts
/-
  A row of strings of one's own: its cells.
-/
namespace Go.Proofs.YtkdhmijebkhmaaaGreatDoor
open Go.RowKit Go.Extern.Stop Go.Stop Go.Extern Num Go.Lib

def cellsT (l : List ByteArray) : List Value := l.map (Value.string)
theorem cellsT_length (l : List ByteArray) : (cellsT l).length = l.length := by simp [cellsT]
theorem cellsT_append (a b : List ByteArray) : cellsT (a ++ b) = cellsT a ++ cellsT b := by simp [cellsT]
theorem infoT : (Tryz.prog.info? 9).map (fun i => (i.zero, i.size, i.bytes)) = some (some (.string ⟨#[]⟩), 1, 16) := by kernel_rfl
theorem rowT_at {w : World} {base g cap : Nat} {l : List ByteArray} (h : w.ownsRow base 9 1 (.slice (some ⟨g, 0, none⟩) l.length cap) l.length (cellsT l)) (k : Nat) (hk : k < l.length) :
    w.cell? ⟨g, k, none⟩ = some (.string l[k]) := by
  have ha : ∀ j, (⟨g, 0, none⟩ : Addr).add j = ⟨g, j, none⟩ := fun j => by unfold Addr.add; split <;> simp_all
  rw [← ha]
  exact h.cells (g := g) rfl k _ (by simp [cellsT, hk])
theorem newsT {W : World} {b : Nat} {x : Value} {ty : TypeId} {fr : Nat × Nat} (h : W.heap[b]? = some (.cells #[x] ty fr)) : ∀ j u, [x][j]? = some u → W.cell? ((⟨b, 0, none⟩ : Addr).add j) = some u := by
  intro j u hj
  have ha : ∀ j, (⟨b, 0, none⟩ : Addr).add j = ⟨b, j, none⟩ := fun j => by unfold Addr.add; split <;> simp_all
  rw [ha, cell_of_row W b j _ ty fr h]
  match j, hj with
  | 0, hj => simpa using hj
end Go.Proofs.YtkdhmijebkhmaaaGreatDoor
/-
  The program's texts: the texts of an operation's first numbers; nothing that was there is turned.
-/
namespace Go.Proofs.YtkdhmijebkhmaaaGreatDoor
open Go.RowKit Go.Extern.Stop Go.Stop Go.Extern Num Go.Lib

def itB (x : Int) : ByteArray := ⟨(itoa x).toArray⟩
/-- The texts of the first numbers. -/
def txts (L : List Int) (n : Nat) : List ByteArray := (L.take n).map itB
theorem txts_next (L : List Int) (k : Nat) (h : k < L.length) : txts L (k + 1) = txts L k ++ [itB L[k]] := by
  unfold txts
  rw [List.take_add_one, List.getElem?_eq_getElem h, List.map_append]; rfl
theorem txts_len (L : List Int) (n : Nat) (h : n ≤ L.length) : (txts L n).length = n := by unfold txts; simp; omega
theorem nilOwnT (w : World) (B : Nat) : w.ownsRow B 9 1 (.slice none 0 0) 0 (cellsT []) := ⟨rfl, .inl ⟨rfl, rfl⟩⟩
theorem inB_small (x : Int) (h0 : 0 ≤ x) (h1 : x ≤ 999) : inB x = true := by rw [inB_iff]; omega
set_option maxRecDepth 100000 in
set_option maxHeartbeats 2000000 in
theorem texts_any (a b c d : Int) (n : Nat) (w : World) (hn : n ≤ 4) (hb : ∀ x ∈ [a, b, c, d], 0 ≤ x ∧ x ≤ 999) (hL : LT w) :
    Calls Tryz.prog 70 #[.agg #[.int .i64 a, .int .i64 b, .int .i64 c, .int .i64 d], .int .i64 (n : Int)] w fun e w' => ∃ ao cp, e = .returned (.slice ao (txts [a, b, c, d] n).length cp) ∧ w'.ownsRow w.heap.size 9 1 (.slice ao (txts [a, b, c, d] n).length cp) (txts [a, b, c, d] n).length (cellsT (txts [a, b, c, d] n)) ∧ Below w.heap.size w w' := by
  obtain ⟨W, hW⟩ : ∃ W, W = w.alloc (.cells #[.int .i64 a, .int .i64 b, .int .i64 c, .int .i64 d] 69) := ⟨_, rfl⟩
  have HW : Hid (W = w.alloc (.cells #[.int .i64 a, .int .i64 b, .int .i64 c, .int .i64 d] 69)) := hW
  have HB0 : Hid (Below w.heap.size w W) := by rw [hW]; exact (Below.refl _ _).alloc (Nat.le_refl _) _
  have HL : Hid (LT w) := hL
  have HC : Hid (∀ (k : Nat) (h : k < [a, b, c, d].length), W.cell? ⟨w.heap.size, k, none⟩ = some (.int .i64 [a, b, c, d][k])) := fun k h => by
    rw [hW]
    match k, h with
    | 0, _ => simp [go_sem]
    | 1, _ => simp [go_sem]
    | 2, _ => simp [go_sem]
    | 3, _ => simp [go_sem]
    | _ + 4, h => exact absurd h (by simp)
  have HN : Hid (∀ x ∈ [a, b, c, d], 0 ≤ x ∧ x ≤ 999) := hb
  have hsz : w.heap.size < W.heap.size := by rw [hW]; simp
  obtain ⟨L, hLe⟩ : ∃ L, L = [a, b, c, d] := ⟨_, rfl⟩
  have hL4 : L.length = 4 := by rw [hLe]; rfl
  rw [← hLe] at HC HN ⊢
  obtain ⟨i0, hi, hz0, hz1, hz2⟩ := info_parts infoT
  have HL4 : Hid (L.length = 4) := hL4
  have hsl : ∀ (x : World) (g : Nat), (Instr.sliceAt 69 (.pointer (some ⟨g, 0, none⟩)) none (some (.int .i64 (n : Int))) none).run Tryz.prog x = .ok (.slice (some ⟨g, 0, none⟩) n 4) x := fun x g => by
    obtain rfl | rfl | rfl | rfl | rfl : n = 0 ∨ n = 1 ∨ n = 2 ∨ n = 3 ∨ n = 4 := by omega
    all_goals first | kernel_rfl | (go_simp; done) | simp [go_sem]
  clear hW hL hb hLe hL4
  go_enter Tryz.func70, Tryz.ntmps70
  go_wp2_with fail
  rw [← HW.out]
  clear HW
  go_loopw [5, 11] (fun v i wr => ∃ (k : Nat) (M : List ByteArray) (ao : Option Addr) (cp : Nat), k ≤ n ∧ i = .int .i64 (k : Int) ∧ v = .slice ao M.length cp ∧ M.length ≤ k ∧ Hid (M = txts L k) ∧ Hid (wr.ownsRow W.heap.size 9 1 (.slice ao M.length cp) M.length (cellsT M)) ∧ Hid (Below W.heap.size W wr)) (fun _ i _ => n - (RowKit.intOf i).toNat)
  case atStart => exact ⟨0, [], none, 0, Nat.zero_le _, rfl, rfl, Nat.le_refl _, rfl, nilOwnT _ _, Below.refl _ _⟩
  case round =>
    obtain ⟨k, M, ao, cp, hk, rfl, rfl, hMk, HM, HO, HBr⟩ := hrel
    by_cases hlt : k < n
    · have hkl : k < L.length := by have := HL4.out; omega
      have hck := cell_keep HBr.out (HC.out k hkl)
      have hbx := HN.out _ (List.getElem_mem hkl)
      have HTx : Hid (txts L (k + 1) = txts L k ++ [itB (L[k]'hkl)]) := txts_next L k hkl
      obtain ⟨x, hx⟩ : ∃ x, x = L[k]'hkl := ⟨_, rfl⟩
      rw [← hx] at hck hbx HTx
      obtain ⟨D, hD⟩ : ∃ D : ByteArray, D = itB x := ⟨_, rfl⟩
      have HF : Hid (Calls Tryz.prog 50 #[.int .i64 x, .int .i64 10] wr fun e w' => e = .returned (.string D) ∧ Below wr.heap.size wr w') := by
        rw [hD]; exact fmt_in x wr (inB_small x hbx.1 hbx.2) (HL.out.below (HB0.out.trans (HBr.out.mono HB0.out.size))).tab
      have HTy : Hid (M ++ [D] = txts L (k + 1)) := by show _ = _; rw [HTx.out, HM.out, hD]
      have hzw : W.heap.size ≤ wr.heap.size := HBr.out.size
      clear hbx hx hD HTx
      go_wp2_with fail
      refine HF.out.mono ?_
      rintro e w1 ⟨rfl, b1⟩
      have HO1 : Hid (w1.ownsRow W.heap.size 9 1 (.slice ao M.length cp) M.length (cellsT M)) := own_below HO.out b1
      have HB1 : Hid (Below W.heap.size W w1) := HBr.out.trans (b1.mono hzw)
      have hz1w : W.heap.size ≤ w1.heap.size := HB1.out.size
      clear b1 hck HF HO
      go_wp2_with (at_builtin; refine wpList_append_lies _ rfl (.tmp 15) (.tmp 18) 81 rfl W.heap.size 9 i0 _ 1 16 Tryz.underlying81 hi hz0 hz1 hz2 rfl (by decide) _ M.length (cellsT M) rfl (HO1.out.alloc _) ⟨_, 0, none⟩ 1 1 [.string D] rfl rfl ?c1 ?c2 (by decide) ?c3 ?c4 ?c5 _ rfl ?_)
      case c1 => exact newsT (heap_new' _ _ _ (by simp))
      case c2 => intro u hu; simp at hu; subst hu; rfl
      case c3 => unfold maxLen; omega
      case c4 => omega
      case c5 => simp; omega
      intro g' cap' w2 hown1 hgrow1 _ _
      have HO2 : Hid (w2.ownsRow W.heap.size 9 1 (.slice (some ⟨g', 0, none⟩) (M ++ [D]).length cap') (M ++ [D]).length (cellsT (M ++ [D]))) := by
        rw [cellsT_append, List.length_append]
        exact hown1
      have HB2 : Hid (Below W.heap.size W w2) := (HB1.out.alloc hz1w _).grown hgrow1 (by simp; omega) (fun j hj => (HO1.out.lt j hj).1)
      clear hown1 hgrow1
      go_wp2
      exact ⟨⟨k + 1, M ++ [D], some ⟨g', 0, none⟩, cap', by omega, by go_num, by simp, by simp; omega, HTy.out, HO2.out, HB2.out⟩, by simp [RowKit.intOf]; omega⟩
    · have HF : Hid (M = txts L n) := by
        have e : k = n := by omega
        show _ = _
        rw [HM.out, e]
      have HBw : Hid (Below w.heap.size w wr) := HB0.out.trans (HBr.out.mono HB0.out.size)
      go_wp2
      go_ret
      rw [← HF.out]
      exact ⟨ao, cp, rfl, own_base HO.out (by omega), HBw.out⟩
end Go.Proofs.YtkdhmijebkhmaaaGreatDoor
