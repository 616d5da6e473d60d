/-
  The laws' szTokenS and toTokenS, at every slice of tokens: how much it holds, and the same tokens in new memory; nothing that was there is turned.
-/
import Derived.Test.YtnlfnicgfhfpfaaDoorHeld
import Derived.Test.YtnlfnicgfhfpfaaDoorLawsTT
import Derived.Test.YtnlfnicgfhfpfaaDoorJoinTok
import Derived.Laws.MakeOwn
namespace Go.Proofs.YtnlfnicgfhfpfaaDoor
open Go.RowKit Go.Extern.Stop Go.Stop Go.Extern Num Go.Lib

/-- The tokens that lie where a slice of them leads. -/
def Toks (w : World) (a : Option Addr) (l : List Tok) : Prop :=
  0 < l.length → ∃ b off, a = some ⟨b, off, none⟩ ∧ ∀ (k : Nat) (h : k < l.length), w.cell? ⟨b, off + k * 3, none⟩ = some (.int .i64 l[k].kind) ∧ w.cell? ⟨b, off + k * 3 + 1, none⟩ = some (.int .i64 l[k].num) ∧ w.cell? ⟨b, off + k * 3 + 2, none⟩ = some (.string l[k].name)
theorem Toks.below {w w' : World} {a : Option Addr} {l : List Tok} (h : Toks w a l) (hb : Below w.heap.size w w') : Toks w' a l := by
  intro hl
  obtain ⟨b, off, e, hc⟩ := h hl
  exact ⟨b, off, e, fun k hk => ⟨cell_keep hb (hc k hk).1, cell_keep hb (hc k hk).2.1, cell_keep hb (hc k hk).2.2⟩⟩
/-- How much a slice of tokens holds. -/
def SZ (l : List Tok) (w : World) (e : Ending) (w' : World) : Prop :=
  ((e = .returned (.int .i64 (-1))) ∨ (∃ q : Nat, q ≤ 1048576 ∧ e = .returned (.int .i64 (q : Int)) ∧ l.length ≤ 1048576 ∧ ∀ (k : Nat) (h : k < l.length), l[k].name.size ≤ 1048576)) ∧ Below w.heap.size w w'
theorem szS_far (a : Option Addr) (c : Nat) (l : List Tok) (w : World) (hl : l.length ≤ 9223372036854775807) (h : 1048576 < l.length) :
    Calls Tryd.prog 17 #[.slice a l.length c, .int .i64 1048576] w fun e w' => SZ l w e w' := by
  go_enter Tryd.func17, Tryd.ntmps17
  go_wp2
  go_ret
  exact ⟨Or.inl rfl, Below.refl _ _⟩
set_option maxHeartbeats 1000000 in
theorem szS_near (a : Option Addr) (c : Nat) (l : List Tok) (w : World) (hl : l.length ≤ 1048576) (h : Toks w a l) (hz : ∀ (k : Nat) (h : k < l.length), l[k].name.size ≤ 9223372036854775807) :
    Calls Tryd.prog 17 #[.slice a l.length c, .int .i64 1048576] w fun e w' => SZ l w e w' := by
  have HT : Hid (Toks w a l) := h
  have HZ : Hid (∀ (k : Nat) (h : k < l.length), l[k].name.size ≤ 9223372036854775807) := hz
  clear h hz
  go_enter Tryd.func17, Tryd.ntmps17
  go_wp2_with fail
  go_loopw [1, 5] (fun v i wr => ∃ k n : Nat, k ≤ l.length ∧ n ≤ 1048576 ∧ v = .int .i64 (n : Int) ∧ i = .int .i64 (k : Int) ∧ Hid (∀ (j : Nat) (h : j < l.length), j < k → l[j].name.size ≤ 1048576) ∧ Below w.heap.size w wr) (fun _ i _ => l.length - (RowKit.intOf i).toNat)
  case atStart => exact ⟨0, 1048576 - l.length, Nat.zero_le _, by omega, by congr 1; omega, rfl, fun j _ hj => by omega, Below.refl _ _⟩
  case round =>
    obtain ⟨k, n, hk, hn, rfl, rfl, HJ, hb⟩ := hrel
    have HB : Hid (Below w.heap.size w wr) := hb
    clear hb
    by_cases hlt : k < l.length
    · obtain ⟨b, off, rfl, hc⟩ := (HT.out.below HB.out) (by omega)
      obtain ⟨c0, c1, c2⟩ := hc k hlt
      clear hc
      by_cases hs : n < (l[k]'hlt).name.size
      · have HX : Hid (∀ w, Calls Tryd.prog 12 #[(l[k]'hlt).val, .int .i64 (n : Int)] w fun e w' => e = .returned (.int .i64 (-1)) ∧ Below w.heap.size w w') := fun w => szToken_far _ n w (HZ.out k hlt) hn hs
        clear hs
        go_wp2_with (go_at_call 12; refine (HX.out _).mono ?_; rintro e w1 ⟨rfl, hq⟩)
        go_ret
        exact ⟨Or.inl rfl, HB.out.trans (hq.mono HB.out.size)⟩
      · obtain ⟨q, hq⟩ : ∃ q : Nat, q = n - (l[k]'hlt).name.size := ⟨_, rfl⟩
        have HX : Hid (∀ w, Calls Tryd.prog 12 #[(l[k]'hlt).val, .int .i64 (n : Int)] w fun e w' => e = .returned (.int .i64 (q : Int)) ∧ Below w.heap.size w w') := fun w => by rw [hq]; exact szToken_near _ n w hn (by omega)
        have HS : Hid ((l[k]'hlt).name.size ≤ 1048576) := by show (l[k]'hlt).name.size ≤ 1048576; omega
        have hq2 : q ≤ 1048576 := by omega
        clear hq hs
        go_wp2_with (go_at_call 12; refine (HX.out _).mono ?_; rintro e w1 ⟨rfl, hb1⟩)
        refine ⟨⟨k + 1, q, by omega, hq2, rfl, by go_num, fun j hj hjk => ?_, HB.out.trans (hb1.mono HB.out.size)⟩, by simp [RowKit.intOf]; omega⟩
        by_cases e : j < k
        · exact HJ.out j hj e
        · have : j = k := by omega
          subst this; exact HS.out
    · go_wp2
      go_ret
      exact ⟨Or.inr ⟨n, hn, rfl, hl, fun j hj => HJ.out j hj (by omega)⟩, HB.out⟩
theorem szS_any (a : Option Addr) (c : Nat) (l : List Tok) (w : World) (hl : l.length ≤ 9223372036854775807) (h : Toks w a l) (hz : ∀ (k : Nat) (h : k < l.length), l[k].name.size ≤ 9223372036854775807) :
    Calls Tryd.prog 17 #[.slice a l.length c, .int .i64 1048576] w fun e w' => SZ l w e w' := by
  by_cases h1 : 1048576 < l.length
  · exact szS_far a c l w hl h1
  · exact szS_near a c l w (by omega) h hz

theorem make_tok (n : Nat) (hn : n ≤ 1048576) (w : World) : (Instr.makeSlice 22 (.int .i64 (n : Int)) (.int .i64 (n : Int))).run Tryd.prog w = .ok (.slice (some ⟨w.heap.size, 0, none⟩) n n) (w.alloc (.cells (madeCells #[.int .i64 0, .int .i64 0, .string ⟨#[]⟩] (n * 3)) 35)) := by
  obtain ⟨i0, hi, hz0, hz1, hz2⟩ := info_parts tokInfo
  have := run_make (P := Tryd.prog) w 22 35 i0 _ Tryd.underlying22 hi hz0 .i64 .i64 (n : Int) (n : Int) (by omega) (by omega) (by rw [hz2]; omega) (by omega)
  rw [this, hz1]
  simp [Value.cells]
theorem own_made (n : Nat) (hn : n ≤ 1048576) (w : World) : (w.alloc (.cells (madeCells #[.int .i64 0, .int .i64 0, .string ⟨#[]⟩] (n * 3)) 35)).ownsRow w.heap.size 35 3 (.slice (some ⟨w.heap.size, 0, none⟩) n n) n (madeCells #[.int .i64 0, .int .i64 0, .string ⟨#[]⟩] (n * 3)).toList :=
  ⟨by simp [madeCells], .inr ⟨w.heap.size, n, _, rfl, Nat.le_refl _, heap_alloc_new w _, Nat.le_refl _, by unfold maxLen; omega, by simp [madeCells], by rw [List.take_of_length_le]; simp [madeCells]⟩⟩
theorem put3 (xs A : List Value) (k : Nat) (a b c : Value) (h : xs.take (k * 3) = A) (hl : k * 3 + 3 ≤ xs.length) : (((xs.set (k * 3) a).set (k * 3 + 1) b).set (k * 3 + 2) c).take ((k + 1) * 3) = A ++ [a, b, c] := by
  have e : xs = xs.take (k * 3) ++ (xs[k * 3]'(by omega) :: xs[k * 3 + 1]'(by omega) :: xs[k * 3 + 2]'(by omega) :: xs.drop (k * 3 + 3)) := by
    rw [← List.drop_eq_getElem_cons, ← List.drop_eq_getElem_cons, ← List.drop_eq_getElem_cons, List.take_append_drop]
  have hA : A.length = k * 3 := by rw [← h]; simp; omega
  rw [h] at e
  generalize xs[k * 3]'(by omega) = x0 at e
  generalize xs[k * 3 + 1]'(by omega) = x1 at e
  generalize xs[k * 3 + 2]'(by omega) = x2 at e
  generalize xs.drop (k * 3 + 3) = r at e
  clear h
  subst e
  rw [List.set_append_right _ _ (by omega), List.set_append_right _ _ (by omega), List.set_append_right _ _ (by omega), hA, show k * 3 - k * 3 = 0 by omega, show k * 3 + 1 - k * 3 = 1 by omega, show k * 3 + 2 - k * 3 = 2 by omega]
  rw [show (k + 1) * 3 = A.length + 3 by omega, List.take_append, List.take_of_length_le (by omega), show A.length + 3 - A.length = 3 by omega]
  rfl
/-- A token stored into its place. -/
theorem put_next {wr : World} {base g n k : Nat} {xs A : List Value} {t : Tok} (ho : wr.ownsRow base 35 3 (.slice (some ⟨g, 0, none⟩) n n) n xs) (hA : xs.take (k * 3) = A) (hk : k < n) :
    ∃ ys, (((wr.setCell ⟨g, k * 3, none⟩ (.int .i64 t.kind)).setCell ⟨g, k * 3 + 1, none⟩ (.int .i64 t.num)).setCell ⟨g, k * 3 + 2, none⟩ (.string t.name)).ownsRow base 35 3 (.slice (some ⟨g, 0, none⟩) n n) n ys ∧ ys.take ((k + 1) * 3) = A ++ t.cells :=
  ⟨_, own_put (own_put (own_put ho _ _) _ _) _ _, put3 xs A k _ _ _ hA (by have := ho.1; omega)⟩
set_option maxRecDepth 100000 in
set_option maxHeartbeats 2000000 in
theorem toS_any (a : Option Addr) (c : Nat) (l : List Tok) (w : World) (hl : l.length ≤ 1048576) (h : Toks w a l) :
    Calls Tryd.prog 19 #[.slice a l.length c] w fun e w' => ∃ g, e = .returned (.slice (some ⟨g, 0, none⟩) l.length l.length) ∧ w'.ownsRow w.heap.size 35 3 (.slice (some ⟨g, 0, none⟩) l.length l.length) l.length (cellsOf l) ∧ Below w.heap.size w w' := by
  have HT : Hid (Toks w a l) := h
  have hmk := make_tok l.length hl
  have HM : Hid (∃ xs, (w.alloc (.cells (madeCells #[.int .i64 0, .int .i64 0, .string ⟨#[]⟩] (l.length * 3)) 35)).ownsRow w.heap.size 35 3 (.slice (some ⟨w.heap.size, 0, none⟩) l.length l.length) l.length xs ∧ xs.take (0 * 3) = cellsOf (l.take 0)) := ⟨_, own_made l.length hl w, rfl⟩
  clear h
  go_enter Tryd.func19, Tryd.ntmps19
  go_wp2_with fail
  go_loopw [4] (fun i wr => ∃ k : Nat, k ≤ l.length ∧ i = .int .i64 (k : Int) ∧ Hid (∃ xs, wr.ownsRow w.heap.size 35 3 (.slice (some ⟨w.heap.size, 0, none⟩) l.length l.length) l.length xs ∧ xs.take (k * 3) = cellsOf (l.take k)) ∧ Below w.heap.size w wr) (fun i _ => l.length - (RowKit.intOf i).toNat)
  case atStart => exact ⟨0, Nat.zero_le _, rfl, HM.out, (Below.refl _ _).alloc (Nat.le_refl _) _⟩
  case round =>
    obtain ⟨k, hk, rfl, HX, hb⟩ := hrel
    have HB : Hid (Below w.heap.size w wr) := hb
    clear hb
    by_cases hlt : k < l.length
    · obtain ⟨b, off, rfl, hc⟩ := (HT.out.below HB.out) (by omega)
      obtain ⟨c0, c1, c2⟩ := hc k hlt
      clear hc
      have HU : Hid (∀ w, Calls Tryd.prog 14 #[(l[k]'hlt).val] w fun e w' => e = .returned (l[k]'hlt).val ∧ Below w.heap.size w w') := fun w => toToken_any _ w
      obtain ⟨xs, hox, htx⟩ := HX.out
      have HO : Hid (wr.ownsRow w.heap.size 35 3 (.slice (some ⟨w.heap.size, 0, none⟩) l.length l.length) l.length xs) := hox
      have HE : Hid (xs.take (k * 3) = cellsOf (l.take k)) := htx
      have hgl : w.heap.size < wr.heap.size := (hox.lt w.heap.size rfl).2
      have HL : Hid (xs.length = l.length * 3) := hox.1
      clear hox htx
      go_wp2_with fail
      refine (HU.out _).mono ?_
      rintro e w1 ⟨rfl, hb1⟩
      have HO1 : Hid (w1.ownsRow w.heap.size 35 3 (.slice (some ⟨w.heap.size, 0, none⟩) l.length l.length) l.length xs) := own_below HO.out hb1
      have HB1 : Hid (Below w.heap.size w w1) := HB.out.trans (hb1.mono HB.out.size)
      have hgl1 : w.heap.size < w1.heap.size := (HO1.out.lt w.heap.size rfl).2
      clear hb1 c0 c1 c2
      obtain ⟨x0, e0⟩ := own_cell HO1.out (k * 3) (by have := HL.out; omega)
      obtain ⟨x1, e1⟩ := own_cell HO1.out (k * 3 + 1) (by have := HL.out; omega)
      obtain ⟨x2, e2⟩ := own_cell HO1.out (k * 3 + 2) (by have := HL.out; omega)
      have ff : ∀ j, w1.frozen? ⟨w.heap.size, j, none⟩ = false := own_frozen HO1.out
      go_wp2
      obtain ⟨ys, hy, hyt⟩ := put_next (t := l[k]'hlt) HO1.out HE.out hlt
      refine ⟨⟨k + 1, by omega, by go_num, ⟨ys, hy, ?_⟩, ((HB1.out.setCell (Nat.le_refl _) _).setCell (Nat.le_refl _) _).setCell (Nat.le_refl _) _⟩, by simp [RowKit.intOf]; omega⟩
      rw [hyt, toks_next l k hlt, cellsOf_append]; simp [cellsOf]
    · have HF : Hid (wr.ownsRow w.heap.size 35 3 (.slice (some ⟨w.heap.size, 0, none⟩) l.length l.length) l.length (cellsOf l)) := by
        obtain ⟨xs, hox, htx⟩ := HX.out
        have hkl : k = l.length := by omega
        rw [hkl, List.take_length, List.take_of_length_le (by rw [hox.1]; exact Nat.le_refl _)] at htx
        rw [htx] at hox
        exact hox
      clear HX
      go_wp2
      go_ret
      exact ⟨_, rfl, HF.out, HB.out⟩
end Go.Proofs.YtnlfnicgfhfpfaaDoor
