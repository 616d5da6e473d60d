/-
  LinesFault: the model's, the program's, and that the exact law answers true at all lines; nothing that was there is turned.
-/
import Derived.Test.YtjcamjdfdalbcaaDoorStStr
import Derived.Test.YtjcamjdfdalbcaaDoorSpecNum
namespace Go.Proofs.YtjcamjdfdalbcaaDoor
open Go.RowKit Go.Extern.Stop Go.Stop Go.Extern Num Go.Lib

/-- Whether one of the lines is too long: the code. -/
def longL : List ByteArray → Int
  | [] => 0
  | s :: r => if 400 < s.size then 2 else longL r
def linesF (l : List ByteArray) (f : Int) : Int := if 12 < l.length then 2 else if 0 ≤ f ∧ f ≤ 400 then longL l else 3
theorem longL_at (l : List ByteArray) (k : Nat) (h : k < l.length) : longL (l.drop k) = if 400 < l[k].size then 2 else longL (l.drop (k + 1)) := by
  rw [List.drop_eq_getElem_cons h]; rfl
set_option maxHeartbeats 1000000 in
theorem specLn_any (a : Option Addr) (c : Nat) (l : List ByteArray) (f : Int) (w : World) (hl : l.length ≤ 1048576) (h : MemT w a l) (hz : ∀ (k : Nat) (h : k < l.length), l[k].size ≤ 1048576) :
    Calls Tryd.prog 10 #[.slice a l.length c, .int .i64 f] w fun e w' => e = .returned (.int .i64 (linesF l f)) ∧ w' = w := by
  obtain ⟨R, hR⟩ : ∃ R, R = linesF l f := ⟨_, rfl⟩
  rw [← hR]
  have HR : Hid (R = linesF l f) := hR
  have HT : Hid (MemT w a l) := h
  have HZ : Hid (∀ (k : Nat) (h : k < l.length), l[k].size ≤ 1048576) := hz
  clear hR h hz
  by_cases hm : 12 < l.length
  · have HE : Hid (R = 2) := by show R = 2; rw [HR.out, linesF, if_pos hm]
    clear HR
    go_enter Tryd.func10, Tryd.ntmps10
    go_wp2
    go_ret
    exact ⟨by rw [HE.out]; rfl, rfl⟩
  by_cases hf : 0 ≤ f ∧ f ≤ 400
  · have HE : Hid (R = longL (l.drop 0)) := by show R = _; rw [HR.out, linesF, if_neg hm, if_pos hf]; rfl
    obtain ⟨hf1, hf2⟩ := hf
    clear HR
    go_enter Tryd.func10, Tryd.ntmps10
    go_wp2_with (go_at_call 19; refine (l1In_any _ _ _ _).mono ?_; rintro e w' ⟨rfl, hw'⟩; replace hw' := hw'.symm; subst hw'; rw [decide_eq_true hf1, decide_eq_true hf2])
    go_loopw [5] (fun i wr => ∃ k : Nat, k ≤ l.length ∧ i = .int .i64 (k : Int) ∧ Hid (R = longL (l.drop k)) ∧ Hid (wr = w)) (fun i _ => l.length - (RowKit.intOf i).toNat)
    case atStart => exact ⟨0, Nat.zero_le _, rfl, HE.out, rfl⟩
    case round =>
      obtain ⟨k, hk, rfl, HK, HW⟩ := hrel
      have hw : wr = w := HW.out
      subst hw
      by_cases hlt : k < l.length
      · obtain ⟨b, off, rfl, hc⟩ := HT.out (by omega)
        have c0 := hc k hlt
        have hzk : (l[k]'hlt).size ≤ 1048576 := HZ.out k hlt
        clear hc
        by_cases hs : 400 < (l[k]'hlt).size
        · have HE2 : Hid (R = 2) := by show R = 2; rw [HK.out, longL_at l k hlt, if_pos hs]
          go_wp2
          go_ret
          exact ⟨by rw [HE2.out]; rfl, rfl⟩
        · have HK2 : Hid (R = longL (l.drop (k + 1))) := by show R = _; rw [HK.out, longL_at l k hlt, if_neg hs]
          go_wp2
          exact ⟨⟨k + 1, by omega, by go_num, HK2.out, trivial⟩, by simp [RowKit.intOf]; omega⟩
      · have HE2 : Hid (R = 0) := by show R = 0; rw [HK.out, List.drop_of_length_le (by omega)]; rfl
        go_wp2
        go_ret
        exact ⟨by rw [HE2.out]; rfl, rfl⟩
  · have HE : Hid (R = 3) := by show R = 3; rw [HR.out, linesF, if_neg hm, if_neg hf]
    have hd : (decide (0 ≤ f) && decide (f ≤ 400)) = false := by rw [Bool.and_eq_false_iff]; simp only [decide_eq_false_iff_not]; omega
    clear HR hf
    go_enter Tryd.func10, Tryd.ntmps10
    go_wp2_with (go_at_call 19; refine (l1In_any _ _ _ _).mono ?_; rintro e w' ⟨rfl, hw'⟩; replace hw' := hw'.symm; subst hw'; rw [hd])
    go_ret
    exact ⟨by rw [HE.out]; rfl, rfl⟩
set_option maxHeartbeats 1000000 in
theorem implLn_any (a : Option Addr) (c : Nat) (l : List ByteArray) (f : Int) (w : World) (hl : l.length ≤ 1048576) (h : MemT w a l) (hz : ∀ (k : Nat) (h : k < l.length), l[k].size ≤ 1048576) :
    Calls Tryd.prog 15 #[.slice a l.length c, .int .i64 f] w fun e w' => e = .returned (.int .i64 (linesF l f)) ∧ w' = w := by
  obtain ⟨R, hR⟩ : ∃ R, R = linesF l f := ⟨_, rfl⟩
  rw [← hR]
  have HR : Hid (R = linesF l f) := hR
  have HT : Hid (MemT w a l) := h
  have HZ : Hid (∀ (k : Nat) (h : k < l.length), l[k].size ≤ 1048576) := hz
  clear hR h hz
  by_cases hm : 12 < l.length
  · have HE : Hid (R = 2) := by show R = 2; rw [HR.out, linesF, if_pos hm]
    clear HR
    go_enter Tryd.func15, Tryd.ntmps15
    go_wp2
    go_ret
    exact ⟨by rw [HE.out]; rfl, rfl⟩
  by_cases hf : 0 ≤ f
  · by_cases hf2 : f ≤ 400
    · have HE : Hid (R = longL (l.drop 0)) := by show R = _; rw [HR.out, linesF, if_neg hm, if_pos ⟨hf, hf2⟩]; rfl
      clear HR
      go_enter Tryd.func15, Tryd.ntmps15
      go_wp2_with fail
      go_loopw [18] (fun i wr => ∃ k : Nat, k ≤ l.length ∧ i = .int .i64 (k : Int) ∧ Hid (R = longL (l.drop k)) ∧ Hid (wr = w)) (fun i _ => l.length - (RowKit.intOf i).toNat)
      case atStart => exact ⟨0, Nat.zero_le _, rfl, HE.out, rfl⟩
      case round =>
        obtain ⟨k, hk, rfl, HK, HW⟩ := hrel
        have hw : wr = w := HW.out
        subst hw
        by_cases hlt : k < l.length
        · obtain ⟨b, off, rfl, hc⟩ := HT.out (by omega)
          have c0 := hc k hlt
          have hzk : (l[k]'hlt).size ≤ 1048576 := HZ.out k hlt
          clear hc
          by_cases hs : 400 < (l[k]'hlt).size
          · have HE2 : Hid (R = 2) := by show R = 2; rw [HK.out, longL_at l k hlt, if_pos hs]
            go_wp2
            go_ret
            exact ⟨by rw [HE2.out]; rfl, rfl⟩
          · have HK2 : Hid (R = longL (l.drop (k + 1))) := by show R = _; rw [HK.out, longL_at l k hlt, if_neg hs]
            go_wp2
            exact ⟨⟨k + 1, by omega, by go_num, HK2.out, trivial⟩, by simp [RowKit.intOf]; omega⟩
        · have HE2 : Hid (R = 0) := by show R = 0; rw [HK.out, List.drop_of_length_le (by omega)]; rfl
          go_wp2
          go_ret
          exact ⟨by rw [HE2.out]; rfl, rfl⟩
    · have HE : Hid (R = 3) := by show R = 3; rw [HR.out, linesF, if_neg hm, if_neg (by omega)]
      clear HR
      go_enter Tryd.func15, Tryd.ntmps15
      go_wp2
      go_ret
      exact ⟨by rw [HE.out]; rfl, rfl⟩
  · have HE : Hid (R = 3) := by show R = 3; rw [HR.out, linesF, if_neg hm, if_neg (by omega)]
    clear HR
    go_enter Tryd.func15, Tryd.ntmps15
    go_wp2
    go_ret
    exact ⟨by rw [HE.out]; rfl, rfl⟩
end Go.Proofs.YtjcamjdfdalbcaaDoor
