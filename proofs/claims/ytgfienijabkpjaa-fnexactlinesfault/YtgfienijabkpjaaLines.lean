/-
  LinesFault: the model's, the program's, and that the exact law answers true at all lines; nothing that was there is turned.
-/
import Derived.Test.YtgfienijabkpjaaStStr
import Derived.Test.YtgfienijabkpjaaSpecNum
namespace Go.Proofs.Ytgfienijabkpjaa
open Go.RowKit Go.Extern.Stop Go.Stop Go.Extern Num Go.Lib

/-- Whether one of the lines is too long: the code. -/
def longL : List ByteArray → Int
  | [] => 0
  | s :: r => if 400 < s.size then 2 else longL r
def linesF (l : List ByteArray) (f : Int) : Int := if 12 < l.length then 2 else if 0 ≤ f ∧ f ≤ 400 then longL l else 3
theorem longL_at (l : List ByteArray) (k : Nat) (h : k < l.length) : longL (l.drop k) = if 400 < l[k].size then 2 else longL (l.drop (k + 1)) := by
  rw [List.drop_eq_getElem_cons h]; rfl
set_option maxHeartbeats 1000000 in
theorem specLn_any (a : Option Addr) (c : Nat) (l : List ByteArray) (f : Int) (w : World) (hl : l.length ≤ 1048576) (h : MemT w a l) (hz : ∀ (k : Nat) (h : k < l.length), l[k].size ≤ 1048576) :
    Calls Try.prog 30 #[.slice a l.length c, .int .i64 f] w fun e w' => e = .returned (.int .i64 (linesF l f)) ∧ w' = w := by
  obtain ⟨R, hR⟩ : ∃ R, R = linesF l f := ⟨_, rfl⟩
  rw [← hR]
  have HR : Hid (R = linesF l f) := hR
  have HT : Hid (MemT w a l) := h
  have HZ : Hid (∀ (k : Nat) (h : k < l.length), l[k].size ≤ 1048576) := hz
  clear hR h hz
  by_cases hm : 12 < l.length
  · have HE : Hid (R = 2) := by show R = 2; rw [HR.out, linesF, if_pos hm]
    clear HR
    go_enter Try.func30, Try.ntmps30
    go_wp2
    go_ret
    exact ⟨by rw [HE.out]; rfl, rfl⟩
  by_cases hf : 0 ≤ f ∧ f ≤ 400
  · have HE : Hid (R = longL (l.drop 0)) := by show R = _; rw [HR.out, linesF, if_neg hm, if_pos hf]; rfl
    obtain ⟨hf1, hf2⟩ := hf
    clear HR
    go_enter Try.func30, Try.ntmps30
    go_wp2_with (go_at_call 61; refine (l1In_any _ _ _ _).mono ?_; rintro e w' ⟨rfl, hw'⟩; replace hw' := hw'.symm; subst hw'; rw [decide_eq_true hf1, decide_eq_true hf2])
    go_loopw [5] (fun i wr => ∃ k : Nat, k ≤ l.length ∧ i = .int .i64 (k : Int) ∧ Hid (R = longL (l.drop k)) ∧ Hid (wr = w)) (fun i _ => l.length - (RowKit.intOf i).toNat)
    case atStart => exact ⟨0, Nat.zero_le _, rfl, HE.out, rfl⟩
    case round =>
      obtain ⟨k, hk, rfl, HK, HW⟩ := hrel
      have hw : wr = w := HW.out
      subst hw
      by_cases hlt : k < l.length
      · obtain ⟨b, off, rfl, hc⟩ := HT.out (by omega)
        have c0 := hc k hlt
        have hzk : (l[k]'hlt).size ≤ 1048576 := HZ.out k hlt
        clear hc
        by_cases hs : 400 < (l[k]'hlt).size
        · have HE2 : Hid (R = 2) := by show R = 2; rw [HK.out, longL_at l k hlt, if_pos hs]
          go_wp2
          go_ret
          exact ⟨by rw [HE2.out]; rfl, rfl⟩
        · have HK2 : Hid (R = longL (l.drop (k + 1))) := by show R = _; rw [HK.out, longL_at l k hlt, if_neg hs]
          go_wp2
          exact ⟨⟨k + 1, by omega, by go_num, HK2.out, trivial⟩, by simp [RowKit.intOf]; omega⟩
      · have HE2 : Hid (R = 0) := by show R = 0; rw [HK.out, List.drop_of_length_le (by omega)]; rfl
        go_wp2
        go_ret
        exact ⟨by rw [HE2.out]; rfl, rfl⟩
  · have HE : Hid (R = 3) := by show R = 3; rw [HR.out, linesF, if_neg hm, if_neg hf]
    have hd : (decide (0 ≤ f) && decide (f ≤ 400)) = false := by rw [Bool.and_eq_false_iff]; simp only [decide_eq_false_iff_not]; omega
    clear HR hf
    go_enter Try.func30, Try.ntmps30
    go_wp2_with (go_at_call 61; refine (l1In_any _ _ _ _).mono ?_; rintro e w' ⟨rfl, hw'⟩; replace hw' := hw'.symm; subst hw'; rw [hd])
    go_ret
    exact ⟨by rw [HE.out]; rfl, rfl⟩
set_option maxHeartbeats 1000000 in
theorem implLn_any (a : Option Addr) (c : Nat) (l : List ByteArray) (f : Int) (w : World) (hl : l.length ≤ 1048576) (h : MemT w a l) (hz : ∀ (k : Nat) (h : k < l.length), l[k].size ≤ 1048576) :
    Calls Try.prog 32 #[.slice a l.length c, .int .i64 f] w fun e w' => e = .returned (.int .i64 (linesF l f)) ∧ w' = w := by
  obtain ⟨R, hR⟩ : ∃ R, R = linesF l f := ⟨_, rfl⟩
  rw [← hR]
  have HR : Hid (R = linesF l f) := hR
  have HT : Hid (MemT w a l) := h
  have HZ : Hid (∀ (k : Nat) (h : k < l.length), l[k].size ≤ 1048576) := hz
  clear hR h hz
  by_cases hm : 12 < l.length
  · have HE : Hid (R = 2) := by show R = 2; rw [HR.out, linesF, if_pos hm]
    clear HR
    go_enter Try.func32, Try.ntmps32
    go_wp2
    go_ret
    exact ⟨by rw [HE.out]; rfl, rfl⟩
  by_cases hf : 0 ≤ f
  · by_cases hf2 : f ≤ 400
    · have HE : Hid (R = longL (l.drop 0)) := by show R = _; rw [HR.out, linesF, if_neg hm, if_pos ⟨hf, hf2⟩]; rfl
      clear HR
      go_enter Try.func32, Try.ntmps32
      go_wp2_with fail
      go_loopw [18] (fun i wr => ∃ k : Nat, k ≤ l.length ∧ i = .int .i64 (k : Int) ∧ Hid (R = longL (l.drop k)) ∧ Hid (wr = w)) (fun i _ => l.length - (RowKit.intOf i).toNat)
      case atStart => exact ⟨0, Nat.zero_le _, rfl, HE.out, rfl⟩
      case round =>
        obtain ⟨k, hk, rfl, HK, HW⟩ := hrel
        have hw : wr = w := HW.out
        subst hw
        by_cases hlt : k < l.length
        · obtain ⟨b, off, rfl, hc⟩ := HT.out (by omega)
          have c0 := hc k hlt
          have hzk : (l[k]'hlt).size ≤ 1048576 := HZ.out k hlt
          clear hc
          by_cases hs : 400 < (l[k]'hlt).size
          · have HE2 : Hid (R = 2) := by show R = 2; rw [HK.out, longL_at l k hlt, if_pos hs]
            go_wp2
            go_ret
            exact ⟨by rw [HE2.out]; rfl, rfl⟩
          · have HK2 : Hid (R = longL (l.drop (k + 1))) := by show R = _; rw [HK.out, longL_at l k hlt, if_neg hs]
            go_wp2
            exact ⟨⟨k + 1, by omega, by go_num, HK2.out, trivial⟩, by simp [RowKit.intOf]; omega⟩
        · have HE2 : Hid (R = 0) := by show R = 0; rw [HK.out, List.drop_of_length_le (by omega)]; rfl
          go_wp2
          go_ret
          exact ⟨by rw [HE2.out]; rfl, rfl⟩
    · have HE : Hid (R = 3) := by show R = 3; rw [HR.out, linesF, if_neg hm, if_neg (by omega)]
      clear HR
      go_enter Try.func32, Try.ntmps32
      go_wp2
      go_ret
      exact ⟨by rw [HE.out]; rfl, rfl⟩
  · have HE : Hid (R = 3) := by show R = 3; rw [HR.out, linesF, if_neg hm, if_neg (by omega)]
    clear HR
    go_enter Try.func32, Try.ntmps32
    go_wp2
    go_ret
    exact ⟨by rw [HE.out]; rfl, rfl⟩
set_option maxHeartbeats 1000000 in
theorem lawLn_any (w : World) (a : Option Addr) (cp : Nat) (l : List ByteArray) (hl : l.length ≤ 9223372036854775807) (h : MemT w a l) (hz : ∀ (k : Nat) (h : k < l.length), l[k].size ≤ 9223372036854775807) (f : Int) :
    Calls Try.prog 7 #[.slice a l.length cp, .int .i64 f] w fun e w' => e = .returned (.bool true) ∧ Below w.heap.size w w' := by
  have HS : Hid (Calls Try.prog 29 #[.slice a l.length cp, .int .i64 1048576] w fun e w' => SZT l w e w') := szTS_any a cp l w 1048576 (Nat.le_refl _) hl h hz
  have HT : Hid (MemT w a l) := h
  clear h hz hl
  obtain ⟨df, hdf⟩ : ∃ df, df = linesF l f := ⟨_, rfl⟩
  have HDf : Hid (df = linesF l f) := hdf
  clear hdf
  go_enter Try.func7, Try.ntmps7
  go_wp2_with fail
  refine HS.out.mono ?_
  rintro e w1 ⟨h1, b1⟩
  have B1 : Hid (Below w.heap.size w w1) := b1
  clear b1
  rcases h1 with rfl | ⟨q, hq, rfl, hl, hz⟩
  · go_wp2
    go_ret
    exact ⟨rfl, B1.out⟩
  have HZ : Hid (∀ (k : Nat) (h : k < l.length), l[k].size ≤ 1048576) := hz
  have HN : Hid (l.length ≤ 1048576) := hl
  have HU : Hid (∀ wx, Below w.heap.size w wx → Calls Try.prog 31 #[.slice a l.length cp] wx fun e w' => ∃ g, e = .returned (.slice (some ⟨g, 0, none⟩) l.length l.length) ∧ w'.ownsRow wx.heap.size 9 1 (.slice (some ⟨g, 0, none⟩) l.length l.length) l.length (cellsT l) ∧ Below wx.heap.size wx w') := fun wx hx => toTS_any a cp l wx hl (HT.out.below hx)
  clear hz hl
  go_wp2_with fail
  refine (HU.out _ B1.out).mono ?_
  rintro e w2 ⟨g2, rfl, o2, b2⟩
  have O2 : Hid _ := o2
  have B2 : Hid (Below w.heap.size w w2) := B1.out.trans (b2.mono B1.out.size)
  clear o2 b2
  go_wp2_with fail
  refine (specLn_any _ _ l f w2 HN.out (MemT.of O2.out) HZ.out).mono ?_
  rw [← HDf.out]
  rintro e w3 ⟨rfl, rfl⟩
  clear O2
  go_wp2_with fail
  refine (HU.out _ B2.out).mono ?_
  rintro e w4 ⟨g4, rfl, o4, b4⟩
  have O4 : Hid (w4.ownsRow _ 9 1 (.slice (some ⟨g4, 0, none⟩) l.length l.length) l.length (cellsT l)) := o4
  have B4 : Hid (Below w.heap.size w w4) := B2.out.trans (b4.mono B2.out.size)
  clear o4 b4
  go_wp2_with fail
  refine (implLn_any _ _ l f w4 HN.out (MemT.of O4.out) HZ.out).mono ?_
  rw [← HDf.out]
  rintro e w5 ⟨rfl, rfl⟩
  go_wp2_with fail
  refine (HU.out _ B4.out).mono ?_
  rintro e w7 ⟨g7, rfl, o7, b7⟩
  have O7 : Hid (w7.ownsRow _ 9 1 (.slice (some ⟨g7, 0, none⟩) l.length l.length) l.length (cellsT l)) := o7
  have P7 : Hid (w7.ownsRow _ 9 1 (.slice (some ⟨g4, 0, none⟩) l.length l.length) l.length (cellsT l)) := own_below O4.out b7
  have B7 : Hid (Below w.heap.size w w7) := B4.out.trans (b7.mono B4.out.size)
  clear o7 b7 O4
  go_wp2_with fail
  refine (eqTS_same _ _ _ _ l w7 HN.out P7.out O7.out).mono ?_
  rintro e w8 ⟨rfl, b8⟩
  go_wp2
  go_ret
  exact ⟨rfl, B7.out.trans (b8.mono B7.out.size)⟩
end Go.Proofs.Ytgfienijabkpjaa
