/-
  The model's DataFault: what is wrong with data, datum by datum; nothing is turned.
-/
import Derived.Test.YtebnonpdaddniaaGreatDoorSpecDat
import Derived.Deep.CutRange
namespace Go.Proofs.YtebnonpdaddniaaGreatDoor
open Go.RowKit Go.Extern.Stop Go.Stop Go.Extern Num Go.Lib

def rangeBad (t : Dat) : Bool := (t.kind == 1 && !(inB t.num)) || (t.kind == 2 && !(decide (0 ≤ t.num) && decide (t.num ≤ 1)))
def symBad (t : Dat) : Bool := t.kind == 3 && !(symL t.name.data.toList)
def parBad (i : Nat) (p : Int) : Bool := (i == 0 && p != -1) || (decide (0 < i) && !(decide (0 ≤ p) && decide (p ≤ (i : Int) - 1)))
/-- What is wrong with the datum at a place. -/
def chkD (l : List Dat) (i : Nat) (t : Dat) : Int :=
  if bareB t = false then 1 else if rangeBad t = true then 3 else if symBad t = true then 5 else if parBad i t.parent = true then 3 else if (decide (0 < i) && !(lineB l i)) = true then 1 else if 12 < deepF l 100 (i : Int) then 2 else 0
/-- The first fault, from a place on. -/
def faultFrom (l : List Dat) : Nat → List Dat → Int
  | _, [] => 0
  | i, t :: r => if chkD l i t = 0 then faultFrom l (i + 1) r else chkD l i t
def dataFault (l : List Dat) : Int := if l.length < 1 ∨ 80 < l.length then 2 else faultFrom l 0 l
/-- All is well up to a place. -/
def okUpto (l : List Dat) (k : Nat) : Prop := ∀ (j : Nat) (h : j < l.length), j < k → chkD l j l[j] = 0
theorem faultFrom_drop (l : List Dat) (k : Nat) (hok : okUpto l k) (hk : k ≤ l.length) : faultFrom l 0 l = faultFrom l k (l.drop k) := by
  induction k with
  | zero => simp
  | succ k ih =>
    have hk' : k < l.length := by omega
    rw [ih (fun j h hj => hok j h (by omega)) (by omega), List.drop_eq_getElem_cons hk', faultFrom, if_pos (hok k hk' (by omega))]
theorem fault_hit (l : List Dat) (k : Nat) (hk : k < l.length) (hok : okUpto l k) (hc : chkD l k l[k] ≠ 0) : faultFrom l 0 l = chkD l k l[k] := by
  rw [faultFrom_drop l k hok (by omega), List.drop_eq_getElem_cons hk, faultFrom, if_neg hc]
theorem fault_end (l : List Dat) (hok : okUpto l l.length) : faultFrom l 0 l = 0 := by
  rw [faultFrom_drop l l.length hok (Nat.le_refl _)]; simp [faultFrom]
theorem okUpto_next {l : List Dat} {k : Nat} (h : okUpto l k) (hk : k < l.length) (hc : chkD l k l[k] = 0) : okUpto l (k + 1) := by
  intro j hj hjk
  by_cases e : j < k
  · exact h j hj e
  · have : j = k := by omega
    subst this; exact hc
theorem parBad_lt {i : Nat} {p : Int} (h : parBad i p = false) : p < (i : Int) ∧ -1 ≤ p := by
  unfold parBad at h
  by_cases h0 : i = 0
  · subst h0
    simp at h
    omega
  · have h1 : 0 < i := by omega
    have h2 : (i == 0) = false := by simpa using h0
    rw [h2] at h
    simp [h1] at h
    omega
theorem chk_par {l : List Dat} {i : Nat} {t : Dat} (h : chkD l i t = 0) : t.parent < (i : Int) ∧ -1 ≤ t.parent := by
  apply parBad_lt
  unfold chkD at h
  cases hp : parBad i t.parent with
  | false => rfl
  | true =>
    exfalso
    rw [hp] at h
    split at h
    · cases h
    · split at h
      · cases h
      · split at h
        · cases h
        · simp at h
theorem chk_bare {l : List Dat} {k : Nat} {t : Dat} (h : bareB t = false) : chkD l k t = 1 := by simp [chkD, h]
theorem chk_range {l : List Dat} {k : Nat} {t : Dat} (h : bareB t = true) (h2 : rangeBad t = true) : chkD l k t = 3 := by simp [chkD, h, h2]
theorem chk_sym {l : List Dat} {k : Nat} {t : Dat} (h : bareB t = true) (h2 : rangeBad t = false) (h3 : symBad t = true) : chkD l k t = 5 := by simp [chkD, h, h2, h3]
theorem chk_parent {l : List Dat} {k : Nat} {t : Dat} (h : bareB t = true) (h2 : rangeBad t = false) (h3 : symBad t = false) (h4 : parBad k t.parent = true) : chkD l k t = 3 := by simp [chkD, h, h2, h3, h4]
theorem chk_line {l : List Dat} {k : Nat} {t : Dat} (h : bareB t = true) (h2 : rangeBad t = false) (h3 : symBad t = false) (h4 : parBad k t.parent = false) (h5 : (decide (0 < k) && !(lineB l k)) = true) : chkD l k t = 1 := by
  unfold chkD
  rw [h, h2, h3, h4, if_neg (by decide), if_neg (by decide), if_neg (by decide), if_neg (by decide), if_pos h5]
theorem chk_deep {l : List Dat} {k : Nat} {t : Dat} (h : bareB t = true) (h2 : rangeBad t = false) (h3 : symBad t = false) (h4 : parBad k t.parent = false) (h5 : (decide (0 < k) && !(lineB l k)) = false) : chkD l k t = if 12 < deepF l 100 (k : Int) then 2 else 0 := by
  unfold chkD
  rw [h, h2, h3, h4, h5, if_neg (by decide), if_neg (by decide), if_neg (by decide), if_neg (by decide), if_neg (by decide)]
def KF (t : Dat) : Prop := ((t.kind == 1) = true ∧ (t.kind == 2) = false ∧ (t.kind == 3) = false) ∨ ((t.kind == 1) = false ∧ (t.kind == 2) = true ∧ (t.kind == 3) = false) ∨ ((t.kind == 1) = false ∧ (t.kind == 2) = false ∧ (t.kind == 3) = true) ∨ ((t.kind == 1) = false ∧ (t.kind == 2) = false ∧ (t.kind == 3) = false)
theorem kf (t : Dat) : KF t := by
  unfold KF
  by_cases h1 : t.kind = 1
  · simp [h1]
  · by_cases h2 : t.kind = 2
    · simp [h2]
    · by_cases h3 : t.kind = 3
      · simp [h3]
      · simp [h1, h2, h3]
set_option maxRecDepth 100000 in
set_option maxHeartbeats 8000000 in
theorem l3Fault_few (g cap : Nat) (l : List Dat) (w : World) (hR : RowD w g l) (h1 : 1 ≤ (l.length : Int)) (h80 : (l.length : Int) ≤ 80) (hz : ∀ (k : Nat) (h : k < l.length), l[k].name.size ≤ 9223372036854775807) :
    Calls Tryz.prog 60 #[.slice (some ⟨g, 0, none⟩) l.length cap] w fun e w' => e = .returned (.int .i64 (faultFrom l 0 l)) ∧ w' = w := by
  have HR : Hid (RowD w g l) := hR
  have HZ : Hid (∀ (k : Nat) (h : k < l.length), l[k].name.size ≤ 9223372036854775807) := hz
  clear hR hz
  obtain ⟨R, hRe⟩ : ∃ R : Int, R = faultFrom l 0 l := ⟨_, rfl⟩
  rw [← hRe]
  have HE : Hid (R = faultFrom l 0 l) := hRe
  clear hRe
  go_enter Tryz.func60, Tryz.ntmps60
  go_wp2_with fail
  go_loopw [3, 4] (fun v x wr => ∃ k : Nat, k ≤ l.length ∧ v = .int .i64 (k : Int) ∧ Hid (okUpto l k) ∧ Hid (wr = w)) (fun v _ _ => l.length - (RowKit.intOf v).toNat)
  case atStart => exact ⟨0, Nat.zero_le _, rfl, fun j _ hj => by omega, rfl⟩
  case round =>
    obtain ⟨k, hk, rfl, HK, HW⟩ := hrel
    have hww : wr = w := HW.out
    subst hww
    by_cases hlt : k < l.length
    · obtain ⟨t, ht⟩ : ∃ t, t = l[k]'hlt := ⟨_, rfl⟩
      have HT : Hid (t = l[k]'hlt) := ht
      have hcs := HR.out k hlt
      rw [← ht] at hcs
      clear ht
      obtain ⟨c0, c1, c2, c3⟩ := hcs
      have HBr : Hid (Calls Tryz.prog 96 #[.pointer (some ⟨g, k * 4, none⟩)] wr fun e w' => e = .returned (.bool (bareB t)) ∧ w' = wr) := l3Bare_any g (k * 4) t wr c0 c2 c3
      have HRet : Hid (chkD l k t ≠ 0 → R = chkD l k t) := fun h => by rw [HE.out, fault_hit l k hlt HK.out (by rw [← HT.out]; exact h), ← HT.out]
      have HNu : Hid (∀ w, Calls Tryz.prog 97 #[.int .i64 t.num] w fun e w' => e = .returned (.bool (inB t.num)) ∧ w' = w) := fun w => l1Num_any t.num w
      have HSy : Hid (∀ w, Calls Tryz.prog 99 #[.string t.name] w fun e w' => e = .returned (.bool (symL t.name.data.toList)) ∧ w' = w) := fun w => sym_any t.name w (by rw [HT.out]; exact HZ.out k hlt)
      cases hb : bareB t
      · rw [hb] at HBr
        have HC : Hid (R = 1) := by
          have e := chk_bare (l := l) (k := k) hb
          have := HRet.out (by rw [e]; decide)
          show R = 1
          rw [this, e]
        clear hb
        go_wp2_with (go_at_call 96; refine HBr.out.mono ?_; rintro e w' ⟨rfl, rfl⟩)
        go_ret
        exact ⟨by rw [HC.out]; rfl, rfl⟩
      rw [hb] at HBr
      have HBa : Hid (bareB t = true) := hb
      clear hb
      go_upto_region 9 with (go_at_call 96; refine HBr.out.mono ?_; rintro e w' ⟨rfl, hw'⟩; replace hw' := hw'.symm; subst hw')
      go_cut [52] from 13 to 100 (fun v wx => v = .bool (rangeBad t) ∧ wx = wr)
      case first =>
        rcases kf t with ⟨e1, e2, -⟩ | ⟨e1, e2, -⟩ | ⟨e1, e2, -⟩ | ⟨e1, e2, -⟩ <;> cases hnu : inB t.num <;> cases h01 : (decide (0 ≤ t.num) && decide (t.num ≤ 1))
        all_goals
          have HV : Hid (rangeBad t = ((t.kind == 1 && !(inB t.num)) || (t.kind == 2 && !(decide (0 ≤ t.num) && decide (t.num ≤ 1))))) := rfl
          go_wp2_with (first | (go_at_call 97; refine (HNu.out _).mono ?_; rintro e w' ⟨rfl, hw'⟩; replace hw' := hw'.symm; subst hw') | (go_at_call 98; refine (l1In_any _ _ _ _).mono ?_; rintro e w' ⟨rfl, hw'⟩; replace hw' := hw'.symm; subst hw'))
          go_meet
          exact ⟨by rw [HV.out, e1, e2, hnu, h01]; rfl, rfl⟩
      case rest =>
        obtain ⟨rfl, hwc⟩ := hcut
        replace hwc := hwc.symm; subst hwc
        rcases Bool.eq_false_or_eq_true (rangeBad t) with hrb | hrb
        · rw [hrb]
          have HC : Hid (R = 3) := by
            have e := chk_range (l := l) (k := k) HBa.out hrb
            have := HRet.out (by rw [e]; decide)
            show R = 3
            rw [this, e]
          go_wp2
          go_ret
          exact ⟨by rw [HC.out]; rfl, rfl⟩
        rw [hrb]
        have HRa : Hid (rangeBad t = false) := hrb
        clear hrb
        go_upto_region 11 with fail
        go_cut [65] from 13 to 100 (fun v wx => v = .bool (symBad t) ∧ wx = wr)
        case first =>
          rcases kf t with ⟨-, -, e3⟩ | ⟨-, -, e3⟩ | ⟨-, -, e3⟩ | ⟨-, -, e3⟩ <;> cases hsy : symL t.name.data.toList
          all_goals
            have HV : Hid (symBad t = (t.kind == 3 && !(symL t.name.data.toList))) := rfl
            go_wp2_with (go_at_call 99; refine (HSy.out _).mono ?_; rintro e w' ⟨rfl, hw'⟩; replace hw' := hw'.symm; subst hw')
            go_meet
            exact ⟨by rw [HV.out, e3, hsy]; rfl, rfl⟩
        case rest =>
          obtain ⟨rfl, hwc⟩ := hcut
          replace hwc := hwc.symm; subst hwc
          rcases Bool.eq_false_or_eq_true (symBad t) with hsb | hsb
          · rw [hsb]
            have HC : Hid (R = 5) := by
              have e := chk_sym (l := l) (k := k) HBa.out HRa.out hsb
              have := HRet.out (by rw [e]; decide)
              show R = 5
              rw [this, e]
            go_wp2
            go_ret
            exact ⟨by rw [HC.out]; rfl, rfl⟩
          rw [hsb]
          have HSa : Hid (symBad t = false) := hsb
          clear hsb
          go_upto_region 13 with fail
          go_cut [88] from 13 to 100 (fun v wx => v = .bool (parBad k t.parent) ∧ wx = wr)
          case first =>
            by_cases hk0 : k = 0
            · have hkz : ((k : Int) == 0) = true := by rw [beq_iff_eq]; omega
              have HV : Hid (parBad k t.parent = (t.parent != -1)) := by show parBad k t.parent = _; rw [hk0]; simp [parBad]
              have hkn : ¬ 0 < (k : Int) := by omega
              clear hk0
              cases hm : (t.parent != -1)
              all_goals
                go_wp2
                go_meet
                exact ⟨by rw [HV.out, hm], rfl⟩
            · have hkz : ((k : Int) == 0) = false := by rw [beq_eq_false_iff_ne]; omega
              have hkp : 0 < (k : Int) := by omega
              have HV : Hid (parBad k t.parent = !(decide (0 ≤ t.parent) && decide (t.parent ≤ (k : Int) - 1))) := by
                have h1 : (k == 0) = false := by simpa using hk0
                have h2 : 0 < k := by omega
                show parBad k t.parent = _
                simp [parBad, h1, h2]
              clear hk0
              cases hin : (decide (0 ≤ t.parent) && decide (t.parent ≤ (k : Int) - 1))
              all_goals
                go_wp2_with (go_at_call 98; refine (l1In_any _ _ _ _).mono ?_; rintro e w' ⟨rfl, hw'⟩; replace hw' := hw'.symm; subst hw')
                go_meet
                exact ⟨by rw [HV.out, hin]; rfl, rfl⟩
          case rest =>
            obtain ⟨rfl, hwc⟩ := hcut
            replace hwc := hwc.symm; subst hwc
            rcases Bool.eq_false_or_eq_true (parBad k t.parent) with hpb | hpb
            · rw [hpb]
              have HC : Hid (R = 3) := by
                have e := chk_parent (l := l) (k := k) HBa.out HRa.out HSa.out hpb
                have := HRet.out (by rw [e]; decide)
                show R = 3
                rw [this, e]
              go_wp2
              go_ret
              exact ⟨by rw [HC.out]; rfl, rfl⟩
            rw [hpb]
            have HPa : Hid (parBad k t.parent = false) := hpb
            clear hpb
            have HPl : Hid (∀ (j : Nat) (h : j < l.length), j < k → l[j].parent < (j : Int)) := fun j h hj => (chk_par (HK.out j h hj)).1
            have HPm : Hid (∀ (j : Nat) (h : j < l.length), j ≤ k → l[j].parent ≤ (j : Int)) := fun j h hj => by
              by_cases e : j < k
              · have := HPl.out j h e; omega
              · have : j = k := by omega
                subst this
                have := (parBad_lt HPa.out).1
                rw [← HT.out]; omega
            go_upto_region 15 with fail
            go_cut [96] from 13 to 100 (fun v wx => v = .bool (decide (0 < k) && !(lineB l k)) ∧ wx = wr)
            case first =>
              by_cases hk0 : 0 < (k : Int)
              · have HV : Hid ((decide (0 < k) && !(lineB l k)) = !(lineB l k)) := by
                  have h2 : 0 < k := by omega
                  show (decide (0 < k) && !(lineB l k)) = _
                  simp [h2]
                have HLi : Hid (Calls Tryz.prog 100 #[.slice (some ⟨g, 0, none⟩) l.length cap, .int .i64 (k : Int)] wr fun e w' => e = .returned (.bool (lineB l k)) ∧ w' = wr) := l3Line_any g cap l wr k HR.out hlt (by omega) (by omega) HPl.out
                cases hli : lineB l k
                all_goals
                  rw [hli] at HLi
                  go_wp2_with (go_at_call 100; refine HLi.out.mono ?_; rintro e w' ⟨rfl, hw'⟩; replace hw' := hw'.symm; subst hw')
                  go_meet
                  exact ⟨by rw [HV.out, hli]; rfl, rfl⟩
              · have HV : Hid ((decide (0 < k) && !(lineB l k)) = false) := by
                  have h2 : ¬ 0 < k := by omega
                  show (decide (0 < k) && !(lineB l k)) = _
                  simp [h2]
                go_wp2
                go_meet
                exact ⟨by rw [HV.out], rfl⟩
            case rest =>
              obtain ⟨rfl, hwc⟩ := hcut
              replace hwc := hwc.symm; subst hwc
              rcases Bool.eq_false_or_eq_true (decide (0 < k) && !(lineB l k)) with hlb | hlb
              · rw [hlb]
                have HC : Hid (R = 1) := by
                  have e := chk_line (l := l) (k := k) HBa.out HRa.out HSa.out HPa.out hlb
                  have := HRet.out (by rw [e]; decide)
                  show R = 1
                  rw [this, e]
                go_wp2
                go_ret
                exact ⟨by rw [HC.out]; rfl, rfl⟩
              rw [hlb]
              have HD : Hid (Calls Tryz.prog 101 #[.slice (some ⟨g, 0, none⟩) l.length cap, .int .i64 (k : Int)] wr fun e w' => e = .returned (.int .i64 (deepF l 100 (k : Int) : Nat)) ∧ w' = wr) := l3Deep_any g cap l wr k (k : Int) HR.out hlt HPm.out (Int.le_refl _)
              have HCk : Hid (chkD l k t = if 12 < deepF l 100 (k : Int) then 2 else 0) := chk_deep HBa.out HRa.out HSa.out HPa.out hlb
              clear hlb
              generalize deepF l 100 (k : Int) = dp at HD HCk
              by_cases h12 : 12 < (dp : Int)
              · have HC : Hid (R = 2) := by
                  have e := HCk.out
                  rw [if_pos (by omega)] at e
                  have := HRet.out (by rw [e]; decide)
                  show R = 2
                  rw [this, e]
                go_wp2_with (go_at_call 101; refine HD.out.mono ?_; rintro e w' ⟨rfl, hw'⟩; replace hw' := hw'.symm; subst hw')
                go_ret
                exact ⟨by rw [HC.out]; rfl, rfl⟩
              · have HN : Hid (okUpto l (k + 1)) := okUpto_next HK.out hlt (by
                  have e := HCk.out
                  rw [if_neg (by omega)] at e
                  rw [← HT.out]; exact e)
                go_wp2_with (go_at_call 101; refine HD.out.mono ?_; rintro e w' ⟨rfl, hw'⟩; replace hw' := hw'.symm; subst hw')
                exact ⟨⟨k + 1, by omega, by go_num, HN.out, trivial⟩, by simp [RowKit.intOf]; omega⟩
    · have HC : Hid (R = 0) := by
        have hkl : k = l.length := by omega
        have hok := HK.out
        rw [hkl] at hok
        show R = 0
        rw [HE.out, fault_end l hok]
      go_wp2
      go_ret
      exact ⟨by rw [HC.out]; rfl, rfl⟩
theorem l3Fault_none (ao : Option Addr) (n cap : Nat) (w : World) (h : (n : Int) < 1) :
    Calls Tryz.prog 60 #[.slice ao n cap] w fun e w' => e = .returned (.int .i64 2) ∧ w' = w := by
  go_enter Tryz.func60, Tryz.ntmps60
  go_wp2
  go_ret
  exact ⟨rfl, rfl⟩
theorem l3Fault_many (ao : Option Addr) (n cap : Nat) (w : World) (h1 : ¬ (n : Int) < 1) (h : 80 < (n : Int)) :
    Calls Tryz.prog 60 #[.slice ao n cap] w fun e w' => e = .returned (.int .i64 2) ∧ w' = w := by
  go_enter Tryz.func60, Tryz.ntmps60
  go_wp2
  go_ret
  exact ⟨rfl, rfl⟩
theorem l3Fault_any (ao : Option Addr) (cap base : Nat) (l : List Dat) (w : World) (h : w.ownsRow base 100 4 (.slice ao l.length cap) l.length (cellsD l)) (hz : ∀ (k : Nat) (h : k < l.length), l[k].name.size ≤ 9223372036854775807) :
    Calls Tryz.prog 60 #[.slice ao l.length cap] w fun e w' => e = .returned (.int .i64 (dataFault l)) ∧ w' = w := by
  by_cases h1 : (l.length : Int) < 1
  · have e : dataFault l = 2 := by unfold dataFault; rw [if_pos (by omega)]
    rw [e]; exact l3Fault_none ao l.length cap w h1
  · by_cases h2 : 80 < (l.length : Int)
    · have e : dataFault l = 2 := by unfold dataFault; rw [if_pos (by omega)]
      rw [e]; exact l3Fault_many ao l.length cap w h1 h2
    · have e : dataFault l = faultFrom l 0 l := by unfold dataFault; rw [if_neg (by omega)]
      rw [e]
      obtain ⟨g, c, hv, _, _⟩ := h.form (by omega)
      obtain ⟨rfl, rfl⟩ : ao = some ⟨g, 0, none⟩ ∧ cap = c := by simp at hv; exact hv
      exact l3Fault_few g cap l w (RowD.of h) (by omega) (by omega) hz
theorem name_le {l : List Dat} (h : ∀ (k : Nat) (h : k < l.length), l[k].name.size ≤ 1048576) : ∀ (k : Nat) (h : k < l.length), l[k].name.size ≤ 9223372036854775807 := fun k hk => by have := h k hk; omega
end Go.Proofs.YtebnonpdaddniaaGreatDoor
