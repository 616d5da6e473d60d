/-
  Parts of the proof laid into one text, one behind the other: SpecOp, SpecBlk. Contracts of the program's and the model's functions, and what they are proved of, as their theorems say.
-/
import Derived.Test.YtoafolefecddmaaGreatDoorOpAtMHv
import Derived.Deep.RegionHeld3
namespace Go.Proofs.YtoafolefecddmaaGreatDoor
open Go.RowKit Go.Extern.Stop Go.Stop Go.Extern Num Go.Lib
theorem l9Nums_any (k : Int) (w : World) : Calls Tryz.prog 189 #[.int .i64 k] w fun e w' => e = .returned (.int .i64 (numsO k : Int)) ∧ w' = w := by
  obtain ⟨R, hR⟩ : ∃ R, R = numsO k := ⟨_, rfl⟩
  rw [← hR]
  have HR : Hid (R = numsO k) := hR
  clear hR
  go_enter Tryz.func189, Tryz.ntmps189
  go_wp2
  all_goals
    go_ret
    refine ⟨?_, rfl⟩
    rw [HR.out]
    simp_all [numsO]
theorem l9Named_any (k : Int) (w : World) : Calls Tryz.prog 190 #[.int .i64 k] w fun e w' => e = .returned (.bool (namedO k)) ∧ w' = w := by
  obtain ⟨R, hR⟩ : ∃ R, R = namedO k := ⟨_, rfl⟩
  rw [← hR]
  have HR : Hid (R = namedO k) := hR
  clear hR
  go_enter Tryz.func190, Tryz.ntmps190
  go_wp2
  all_goals
    go_ret
    refine ⟨?_, rfl⟩
    rw [HR.out]
    simp_all [namedO]
theorem l9Const_any (k : Int) (w : World) : Calls Tryz.prog 191 #[.int .i64 k] w fun e w' => e = .returned (.bool (constO k)) ∧ w' = w := by
  obtain ⟨R, hR⟩ : ∃ R, R = constO k := ⟨_, rfl⟩
  rw [← hR]
  have HR : Hid (R = constO k) := hR
  clear hR
  go_enter Tryz.func191, Tryz.ntmps191
  go_wp2
  all_goals
    go_ret
    refine ⟨?_, rfl⟩
    rw [HR.out]
    simp_all [constO]
set_option maxRecDepth 100000 in
set_option maxHeartbeats 2000000 in
theorem l9All_any (t : Opr) (B g o gk : Nat) (w : World) (h : OpAt w B g o t gk) :
    Calls Tryz.prog 188 #[.pointer (some ⟨g, o, none⟩)] w fun e w' => ∃ q, w.heap.size ≤ q ∧ e = .returned (.slice (some ⟨q, 0, none⟩) 4 4) ∧ w'.cell? ⟨q, 0, none⟩ = some (.int .i64 t.a) ∧ w'.cell? ⟨q, 1, none⟩ = some (.int .i64 t.b) ∧ w'.cell? ⟨q, 2, none⟩ = some (.int .i64 t.c) ∧ w'.cell? ⟨q, 3, none⟩ = some (.int .i64 t.d) ∧ Below w.heap.size w w' := by
  obtain ⟨p0, p1, p2, p3, p4, p5, p6, _⟩ := h
  go_enter Tryz.func188, Tryz.ntmps188
  go_wp2_with fail
  go_region_held3 (fun u => u.cell? ⟨g, o + 1, none⟩ = some (.int .i64 t.a) ∧ u.cell? ⟨g, o + 2, none⟩ = some (.int .i64 t.b) ∧ u.cell? ⟨g, o + 3, none⟩ = some (.int .i64 t.c) ∧ u.cell? ⟨g, o + 4, none⟩ = some (.int .i64 t.d)) (go_keep) (fail)
  all_goals
    go_wp2
    go_ret
    exact ⟨w.heap.size, Nat.le_refl _, rfl, by simp [go_sem], by simp [go_sem], by simp [go_sem], by simp [go_sem], Below.drew ((Below.refl _ _).alloc (Nat.le_refl _) _)⟩
theorem numsO_le (k : Int) : numsO k ≤ 4 := by
  unfold numsO
  repeat (first | (split; (first | omega | skip)) | omega)
theorem opFault_no {t : Opr} (h : (decide (1 ≤ t.kind) && decide (t.kind ≤ 16)) = false) : opFault t = 1 := by unfold opFault; rw [h]; rfl
theorem opFault_in {t : Opr} (h : (decide (1 ≤ t.kind) && decide (t.kind ≤ 16)) = true) : opFault t = (if extraN t || extraT t then 1 else if outO t then 3 else if manyO t then 3 else if namedO t.kind && !(symL t.name.data.toList) then 5 else if constO t.kind then dataFault t.data else 0) := by unfold opFault; rw [h]; rfl
theorem list_empty (s : ByteArray) : s.toList = [] ↔ s.size = 0 := by
  rw [ByteArray.toList_eq]
  obtain ⟨⟨x⟩⟩ := s
  simp [ByteArray.size]
set_option maxRecDepth 100000 in
set_option maxHeartbeats 4000000 in
theorem l9Op_any (t : Opr) (B g o gk : Nat) (w : World) (hn : t.name.size ≤ 9223372036854775807) (hd : t.data.length ≤ 9223372036854775807) (hz : ∀ (k : Nat) (h : k < t.data.length), t.data[k].name.size ≤ 9223372036854775807) (h : OpAt w B g o t gk) :
    Calls Tryz.prog 152 #[.pointer (some ⟨g, o, none⟩)] w fun e w' => e = .returned (.int .i64 (opFault t)) ∧ Below w.heap.size w w' := by
  obtain ⟨R, hR⟩ : ∃ R, R = opFault t := ⟨_, rfl⟩
  rw [← hR]
  have p0 := h.c0
  cases hk : (decide (1 ≤ t.kind) && decide (t.kind ≤ 16))
  · have HR : Hid (R = 1) := by show _ = _; rw [hR, opFault_no hk]
    clear hR h
    go_enter Tryz.func152, Tryz.ntmps152
    go_wp2_with (go_at_call 80; refine (l1In_any _ _ _ _).mono ?_; rintro e w' ⟨rfl, hw'⟩; replace hw' := hw'.symm; subst hw'; rw [hk])
    go_ret
    exact ⟨by rw [HR.out]; rfl, Below.refl _ _⟩
  have HR : Hid (R = (if extraN t || extraT t then 1 else if outO t then 3 else if manyO t then 3 else if namedO t.kind && !(symL t.name.data.toList) then 5 else if constO t.kind then dataFault t.data else 0)) := by show _ = _; rw [hR, opFault_in hk]
  have HAll : Hid (Calls Tryz.prog 188 #[.pointer (some ⟨g, o, none⟩)] w fun e w' => ∃ q, w.heap.size ≤ q ∧ e = .returned (.slice (some ⟨q, 0, none⟩) 4 4) ∧ w'.cell? ⟨q, 0, none⟩ = some (.int .i64 t.a) ∧ w'.cell? ⟨q, 1, none⟩ = some (.int .i64 t.b) ∧ w'.cell? ⟨q, 2, none⟩ = some (.int .i64 t.c) ∧ w'.cell? ⟨q, 3, none⟩ = some (.int .i64 t.d) ∧ Below w.heap.size w w') := l9All_any t B g o gk w h
  have HAt : Hid (OpAt w B g o t gk) := h
  have HNm : Hid (∀ x, Calls Tryz.prog 190 #[.int .i64 t.kind] x fun e w' => e = .returned (.bool (namedO t.kind)) ∧ w' = x) := fun x => l9Named_any t.kind x
  have HCo : Hid (∀ x, Calls Tryz.prog 191 #[.int .i64 t.kind] x fun e w' => e = .returned (.bool (constO t.kind)) ∧ w' = x) := fun x => l9Const_any t.kind x
  have HNu : Hid (∀ x, Calls Tryz.prog 189 #[.int .i64 t.kind] x fun e w' => e = .returned (.int .i64 (numsO t.kind : Int)) ∧ w' = x) := fun x => l9Nums_any t.kind x
  have HSy : Hid (∀ x, Calls Tryz.prog 192 #[.string t.name] x fun e w' => e = .returned (.bool (symL t.name.data.toList)) ∧ w' = x) := fun x => sym_any t.name x hn
  have HFa : Hid (∀ x, Below w.heap.size w x → Calls Tryz.prog 193 #[.slice (some ⟨gk, 0, none⟩) t.data.length t.data.length] x fun e w' => e = .returned (.int .i64 (dataFault t.data)) ∧ w' = x) := fun x hx => l3Fault_any _ _ B t.data x (h.data.below hx) hz
  have hl4 := numsO_le t.kind
  obtain ⟨c0, hc0⟩ : ∃ c0, c0 = numsO t.kind := ⟨_, rfl⟩
  have HC0 : Hid (extraN t = ((numsL t).drop c0).any (· != 0)) := by show _ = _; rw [hc0]; rfl
  rw [← hc0] at HNu hl4
  clear hR h hz hc0
  go_enter Tryz.func152, Tryz.ntmps152
  go_wp2_with (first | (go_at_call 80; refine (l1In_any _ _ _ _).mono ?_; rintro e w' ⟨rfl, hw'⟩; replace hw' := hw'.symm; subst hw'; rw [hk]) | fail)
  refine HAll.out.mono ?_
  rintro e w1 ⟨q, hq, rfl, z0, z1, z2, z3, hb⟩
  have HB : Hid (Below w.heap.size w w1) := hb
  have HA1 : Hid (OpAt w1 B g o t gk) := HAt.out.below hb
  have s0 := HA1.out.c0
  clear hb p0 hk HAll
  go_wp2_with (go_at_call 189; refine (HNu.out _).mono ?_; rintro e w' ⟨rfl, hw'⟩; replace hw' := hw'.symm; subst hw')
  go_loopw [4] (fun i wr => ∃ j : Nat, j ≤ 4 ∧ i = .int .i64 (j : Int) ∧ Hid (extraN t = ((numsL t).drop j).any (· != 0)) ∧ wr = w1) (fun i _ => 4 - (RowKit.intOf i).toNat)
  case atStart => exact ⟨c0, hl4, rfl, HC0.out, rfl⟩
  case round =>
    obtain ⟨j, hj, rfl, HJ, hw⟩ := hrel
    subst hw
    by_cases hlt : j < 4
    · clear s0
      obtain rfl | rfl | rfl | rfl : j = 0 ∨ j = 1 ∨ j = 2 ∨ j = 3 := by omega
      · cases hx : (t.a != 0)
        · have HJ2 : Hid (extraN t = ((numsL t).drop (0 + 1)).any (· != 0)) := by show _ = _; rw [HJ.out]; simp [numsL]; simp_all
          skip
          clear HJ
          go_wp2_with fail
          exact ⟨⟨0 + 1, by omega, by go_num, HJ2.out, by trivial⟩, by simp [RowKit.intOf]⟩
        · have HF : Hid (R = 1) := by
            have e : extraN t = true := by rw [HJ.out]; simp [numsL]; simp_all
            show _ = _
            rw [HR.out]; rw [e]; rfl
          skip
          clear HJ
          go_wp2_with fail
          go_ret
          exact ⟨by rw [HF.out]; rfl, HB.out⟩
      · cases hx : (t.b != 0)
        · have HJ2 : Hid (extraN t = ((numsL t).drop (1 + 1)).any (· != 0)) := by show _ = _; rw [HJ.out]; simp [numsL]; simp_all
          skip
          clear HJ
          go_wp2_with fail
          exact ⟨⟨1 + 1, by omega, by go_num, HJ2.out, by trivial⟩, by simp [RowKit.intOf]⟩
        · have HF : Hid (R = 1) := by
            have e : extraN t = true := by rw [HJ.out]; simp [numsL]; simp_all
            show _ = _
            rw [HR.out]; rw [e]; rfl
          skip
          clear HJ
          go_wp2_with fail
          go_ret
          exact ⟨by rw [HF.out]; rfl, HB.out⟩
      · cases hx : (t.c != 0)
        · have HJ2 : Hid (extraN t = ((numsL t).drop (2 + 1)).any (· != 0)) := by show _ = _; rw [HJ.out]; simp [numsL]; simp_all
          skip
          clear HJ
          go_wp2_with fail
          exact ⟨⟨2 + 1, by omega, by go_num, HJ2.out, by trivial⟩, by simp [RowKit.intOf]⟩
        · have HF : Hid (R = 1) := by
            have e : extraN t = true := by rw [HJ.out]; simp [numsL]; simp_all
            show _ = _
            rw [HR.out]; rw [e]; rfl
          skip
          clear HJ
          go_wp2_with fail
          go_ret
          exact ⟨by rw [HF.out]; rfl, HB.out⟩
      · cases hx : (t.d != 0)
        · have HJ2 : Hid (extraN t = ((numsL t).drop (3 + 1)).any (· != 0)) := by show _ = _; rw [HJ.out]; simp [numsL]; simp_all
          skip
          clear HJ
          go_wp2_with fail
          exact ⟨⟨3 + 1, by omega, by go_num, HJ2.out, by trivial⟩, by simp [RowKit.intOf]⟩
        · have HF : Hid (R = 1) := by
            have e : extraN t = true := by rw [HJ.out]; simp [numsL]; simp_all
            show _ = _
            rw [HR.out]; rw [e]; rfl
          skip
          clear HJ
          go_wp2_with fail
          go_ret
          exact ⟨by rw [HF.out]; rfl, HB.out⟩
    · have HEn : Hid (extraN t = false) := by
        have : j = 4 := by omega
        subst this
        show _ = _
        rw [HJ.out]; rfl
      clear HJ
      have s5 := HA1.out.c5
      have s6 := HA1.out.c6
      go_upto_region 9 with fail
      go_cut [56] from 28 to 56 (fun v wx => v = .bool (extraT t) ∧ wx = wr)
      case first =>
        have HV : Hid (extraT t = ((!namedO t.kind && decide (0 < t.name.size)) || (!constO t.kind && decide (0 < t.data.length)))) := rfl
        have hle := list_empty t.name
        rcases Nat.eq_zero_or_pos t.name.size with h1 | h1 <;> rcases Nat.eq_zero_or_pos t.data.length with h2 | h2 <;> cases nb : namedO t.kind <;> cases cb : constO t.kind
        all_goals
          first | (have hbe := hle.2 h1) | (have hbe : ¬ (t.name.toList = []) := fun e => by have := hle.1 e; omega)
          first | (have h1d : decide (0 < t.name.size) = false := by simp [h1]) | (have h1d : decide (0 < t.name.size) = true := by simp [h1])
          first | (have h2d : decide (0 < t.data.length) = false := by simp [h2]) | (have h2d : decide (0 < t.data.length) = true := by simp [h2])
          first | (have hdl : ¬ (0 < (t.data.length : Int)) := by omega) | (have hdl : 0 < (t.data.length : Int) := by omega)
          have HV2 : Hid (extraT t = ((!namedO t.kind && decide (0 < t.name.size)) || (!constO t.kind && decide (0 < t.data.length)))) := HV.out
          rw [nb, h1d, cb, h2d] at HV2
          first | (have H2 : Hid (decide (0 < t.data.length) = false) := h2d) | (have H2 : Hid (decide (0 < t.data.length) = true) := h2d)
          clear hle h1 h2 h1d h2d HV
          go_wp2_with (first | (go_at_call 190; refine (HNm.out _).mono ?_; rintro e w' ⟨rfl, hw'⟩; replace hw' := hw'.symm; subst hw'; rw [nb]) | (go_at_call 191; refine (HCo.out _).mono ?_; rintro e w' ⟨rfl, hw'⟩; replace hw' := hw'.symm; subst hw'; rw [cb]))
          go_meet
          exact ⟨by rw [HV2.out]; first | rfl | (rw [show decide (0 < t.data.length) = _ from H2.out]; rfl), rfl⟩
      case rest =>
        obtain ⟨rfl, hwc⟩ := hcut
        replace hwc := hwc.symm; subst hwc
        rcases Bool.eq_false_or_eq_true (extraT t) with he | he
        · rw [he]
          have HC : Hid (R = 1) := by show _ = _; rw [HR.out, he]; simp
          go_wp2
          go_ret
          exact ⟨by rw [HC.out]; rfl, HB.out⟩
        rw [he]
        have HR2 : Hid (R = (if outO t then 3 else if manyO t then 3 else if namedO t.kind && !(symL t.name.data.toList) then 5 else if constO t.kind then dataFault t.data else 0)) := by show _ = _; rw [HR.out, HEn.out, he]; rfl
        clear he HR HEn HC0
        go_wp2_with fail
        go_loopw [5] (fun i wx => ∃ j : Nat, j ≤ 4 ∧ i = .int .i64 (j : Int) ∧ Hid (outO t = ((numsL t).drop j).any outN) ∧ wx = wr) (fun i _ => 4 - (RowKit.intOf i).toNat)
        case atStart => exact ⟨0, by omega, rfl, rfl, rfl⟩
        case round =>
          obtain ⟨i, hi, rfl, HJ, hw⟩ := hrel
          subst hw
          by_cases hit : i < 4
          · clear s0 s5 s6
            obtain rfl | rfl | rfl | rfl : i = 0 ∨ i = 1 ∨ i = 2 ∨ i = 3 := by omega
            · have hin : (decide (0 ≤ t.a) && decide (t.a ≤ 999)) = !(outN t.a) := by unfold outN; by_cases q1 : 0 ≤ t.a <;> by_cases q2 : t.a ≤ 999 <;> simp [q1, q2] <;> omega
              cases hx : outN t.a
              · rw [hx] at hin
                have HJ2 : Hid (outO t = ((numsL t).drop (0 + 1)).any outN) := by show _ = _; rw [HJ.out]; simp [numsL, hx]
                clear HJ
                go_wp2_with (go_at_call 80; refine (l1In_any _ _ _ _).mono ?_; rintro e w' ⟨rfl, hw'⟩; replace hw' := hw'.symm; subst hw'; rw [hin])
                exact ⟨⟨0 + 1, by omega, by go_num, HJ2.out, by trivial⟩, by simp [RowKit.intOf]⟩
              · rw [hx] at hin
                have HF : Hid (R = 3) := by
                  have e : outO t = true := by rw [HJ.out]; simp [numsL, hx]
                  show _ = _
                  rw [HR2.out, e]; rfl
                clear HJ
                go_wp2_with (go_at_call 80; refine (l1In_any _ _ _ _).mono ?_; rintro e w' ⟨rfl, hw'⟩; replace hw' := hw'.symm; subst hw'; rw [hin])
                go_ret
                exact ⟨by rw [HF.out]; rfl, HB.out⟩
            · have hin : (decide (0 ≤ t.b) && decide (t.b ≤ 999)) = !(outN t.b) := by unfold outN; by_cases q1 : 0 ≤ t.b <;> by_cases q2 : t.b ≤ 999 <;> simp [q1, q2] <;> omega
              cases hx : outN t.b
              · rw [hx] at hin
                have HJ2 : Hid (outO t = ((numsL t).drop (1 + 1)).any outN) := by show _ = _; rw [HJ.out]; simp [numsL, hx]
                clear HJ
                go_wp2_with (go_at_call 80; refine (l1In_any _ _ _ _).mono ?_; rintro e w' ⟨rfl, hw'⟩; replace hw' := hw'.symm; subst hw'; rw [hin])
                exact ⟨⟨1 + 1, by omega, by go_num, HJ2.out, by trivial⟩, by simp [RowKit.intOf]⟩
              · rw [hx] at hin
                have HF : Hid (R = 3) := by
                  have e : outO t = true := by rw [HJ.out]; simp [numsL, hx]
                  show _ = _
                  rw [HR2.out, e]; rfl
                clear HJ
                go_wp2_with (go_at_call 80; refine (l1In_any _ _ _ _).mono ?_; rintro e w' ⟨rfl, hw'⟩; replace hw' := hw'.symm; subst hw'; rw [hin])
                go_ret
                exact ⟨by rw [HF.out]; rfl, HB.out⟩
            · have hin : (decide (0 ≤ t.c) && decide (t.c ≤ 999)) = !(outN t.c) := by unfold outN; by_cases q1 : 0 ≤ t.c <;> by_cases q2 : t.c ≤ 999 <;> simp [q1, q2] <;> omega
              cases hx : outN t.c
              · rw [hx] at hin
                have HJ2 : Hid (outO t = ((numsL t).drop (2 + 1)).any outN) := by show _ = _; rw [HJ.out]; simp [numsL, hx]
                clear HJ
                go_wp2_with (go_at_call 80; refine (l1In_any _ _ _ _).mono ?_; rintro e w' ⟨rfl, hw'⟩; replace hw' := hw'.symm; subst hw'; rw [hin])
                exact ⟨⟨2 + 1, by omega, by go_num, HJ2.out, by trivial⟩, by simp [RowKit.intOf]⟩
              · rw [hx] at hin
                have HF : Hid (R = 3) := by
                  have e : outO t = true := by rw [HJ.out]; simp [numsL, hx]
                  show _ = _
                  rw [HR2.out, e]; rfl
                clear HJ
                go_wp2_with (go_at_call 80; refine (l1In_any _ _ _ _).mono ?_; rintro e w' ⟨rfl, hw'⟩; replace hw' := hw'.symm; subst hw'; rw [hin])
                go_ret
                exact ⟨by rw [HF.out]; rfl, HB.out⟩
            · have hin : (decide (0 ≤ t.d) && decide (t.d ≤ 999)) = !(outN t.d) := by unfold outN; by_cases q1 : 0 ≤ t.d <;> by_cases q2 : t.d ≤ 999 <;> simp [q1, q2] <;> omega
              cases hx : outN t.d
              · rw [hx] at hin
                have HJ2 : Hid (outO t = ((numsL t).drop (3 + 1)).any outN) := by show _ = _; rw [HJ.out]; simp [numsL, hx]
                clear HJ
                go_wp2_with (go_at_call 80; refine (l1In_any _ _ _ _).mono ?_; rintro e w' ⟨rfl, hw'⟩; replace hw' := hw'.symm; subst hw'; rw [hin])
                exact ⟨⟨3 + 1, by omega, by go_num, HJ2.out, by trivial⟩, by simp [RowKit.intOf]⟩
              · rw [hx] at hin
                have HF : Hid (R = 3) := by
                  have e : outO t = true := by rw [HJ.out]; simp [numsL, hx]
                  show _ = _
                  rw [HR2.out, e]; rfl
                clear HJ
                go_wp2_with (go_at_call 80; refine (l1In_any _ _ _ _).mono ?_; rintro e w' ⟨rfl, hw'⟩; replace hw' := hw'.symm; subst hw'; rw [hin])
                go_ret
                exact ⟨by rw [HF.out]; rfl, HB.out⟩
          · have HOu : Hid (outO t = false) := by
              have : i = 4 := by omega
              subst this
              show _ = _
              rw [HJ.out]; rfl
            have HR3 : Hid (R = (if manyO t then 3 else if namedO t.kind && !(symL t.name.data.toList) then 5 else if constO t.kind then dataFault t.data else 0)) := by show _ = _; rw [HR2.out, HOu.out]; rfl
            clear HJ HR2 HOu
            have s1 := HA1.out.c1
            go_upto_region 16 with fail
            go_cut [85] from 67 to 85 (fun v wx => v = .bool (manyO t) ∧ wx = wr)
            case first =>
              have HV : Hid (manyO t = ((t.kind == 10 || t.kind == 11) && decide (3 < t.a))) := rfl
              cases k10 : (t.kind == 10) <;> cases k11 : (t.kind == 11) <;> cases k3 : decide (3 < t.a)
              all_goals
                have HV2 : Hid (manyO t = ((t.kind == 10 || t.kind == 11) && decide (3 < t.a))) := HV.out
                rw [k10, k11, k3] at HV2
                clear HV
                go_wp2
                go_meet
                exact ⟨by rw [show manyO t = _ from HV2.out]; rfl, rfl⟩
            case rest =>
              obtain ⟨rfl, hwc⟩ := hcut
              replace hwc := hwc.symm; subst hwc
              rcases Bool.eq_false_or_eq_true (manyO t) with he | he
              · rw [he]
                have HC : Hid (R = 3) := by show _ = _; rw [HR3.out, he]; rfl
                go_wp2
                go_ret
                exact ⟨by rw [HC.out]; rfl, HB.out⟩
              rw [he]
              have HR4 : Hid (R = (if namedO t.kind && !(symL t.name.data.toList) then 5 else if constO t.kind then dataFault t.data else 0)) := by show _ = _; rw [HR3.out, he]; rfl
              clear he HR3
              cases nb : namedO t.kind <;> cases cb : constO t.kind <;> cases sy : symL t.name.data.toList
              all_goals
                rw [nb, cb, sy] at HR4
                go_wp2_with (first | (go_at_call 190; refine (HNm.out _).mono ?_; rintro e w' ⟨rfl, hw'⟩; replace hw' := hw'.symm; subst hw'; rw [nb]) | (go_at_call 191; refine (HCo.out _).mono ?_; rintro e w' ⟨rfl, hw'⟩; replace hw' := hw'.symm; subst hw'; rw [cb]) | (go_at_call 192; refine (HSy.out _).mono ?_; rintro e w' ⟨rfl, hw'⟩; replace hw' := hw'.symm; subst hw'; rw [sy]) | (go_at_call 193; refine (HFa.out _ HB.out).mono ?_; rintro e w' ⟨rfl, hw'⟩; replace hw' := hw'.symm; subst hw'))
                go_ret
                exact ⟨by rw [show R = _ from HR4.out]; rfl, HB.out⟩
theorem blk_args {b : Blk} (h : (decide (0 ≤ b.args) && decide (b.args ≤ 3)) = false) : blkFault b = 3 := by
  unfold blkFault
  rw [if_pos]
  simp only [Bool.and_eq_false_iff, decide_eq_false_iff_not] at h
  simp only [Bool.or_eq_true, decide_eq_true_eq]
  omega
theorem blk_in {b : Blk} (h : (decide (0 ≤ b.args) && decide (b.args ≤ 3)) = true) : blkFault b = if 200 < b.ops.length then 2 else firstC opFault b.ops := by
  unfold blkFault
  rw [if_neg]
  simp only [Bool.and_eq_true, decide_eq_true_eq] at h
  simp only [Bool.or_eq_true, decide_eq_true_eq]
  omega
set_option maxRecDepth 100000 in
set_option maxHeartbeats 2000000 in
theorem l9Block_any (b : Blk) (B g o gk : Nat) (w : World) (hs : b.small) (h0 : w.cell? ⟨g, o, none⟩ = some (.int .i64 b.args)) (h1 : w.cell? ⟨g, o + 1, none⟩ = some (.slice (some ⟨gk, 0, none⟩) b.ops.length b.ops.length)) (hO : RowOp w B gk b.ops) :
    Calls Tryz.prog 111 #[.pointer (some ⟨g, o, none⟩)] w fun e w' => e = .returned (.int .i64 (blkFault b)) ∧ Below w.heap.size w w' := by
  obtain ⟨R, hR⟩ : ∃ R, R = blkFault b := ⟨_, rfl⟩
  rw [← hR]
  have hl : b.ops.length ≤ 1048576 := hs.len
  cases hk : (decide (0 ≤ b.args) && decide (b.args ≤ 3))
  · have HR : Hid (R = 3) := by show _ = _; rw [hR, blk_args hk]
    clear hR hO
    go_enter Tryz.func111, Tryz.ntmps111
    go_wp2_with (go_at_call 80; refine (l1In_any _ _ _ _).mono ?_; rintro e w' ⟨rfl, hw'⟩; replace hw' := hw'.symm; subst hw'; rw [hk])
    go_ret
    exact ⟨by rw [HR.out]; rfl, Below.refl _ _⟩
  by_cases h200 : 200 < b.ops.length
  · have HR : Hid (R = 2) := by show _ = _; rw [hR, blk_in hk, if_pos h200]
    clear hR hO
    go_enter Tryz.func111, Tryz.ntmps111
    go_wp2_with (go_at_call 80; refine (l1In_any _ _ _ _).mono ?_; rintro e w' ⟨rfl, hw'⟩; replace hw' := hw'.symm; subst hw'; rw [hk])
    go_ret
    exact ⟨by rw [HR.out]; rfl, Below.refl _ _⟩
  have HR : Hid (R = firstC opFault b.ops) := by show _ = _; rw [hR, blk_in hk, if_neg h200]
  have HO : Hid (RowOp w B gk b.ops) := hO
  have HS : Hid (b.small) := hs
  have H1 : Hid (w.cell? ⟨g, o + 1, none⟩ = some (.slice (some ⟨gk, 0, none⟩) b.ops.length b.ops.length)) := h1
  clear hR hO hs
  go_enter Tryz.func111, Tryz.ntmps111
  go_wp2_with (go_at_call 80; refine (l1In_any _ _ _ _).mono ?_; rintro e w' ⟨rfl, hw'⟩; replace hw' := hw'.symm; subst hw'; rw [hk])
  clear h0 h1 hk
  go_loopw [3] (fun i wr => ∃ j : Nat, j ≤ b.ops.length ∧ i = .int .i64 (j : Int) ∧ Hid (∀ (k : Nat) (h : k < b.ops.length), k < j → opFault b.ops[k] = 0) ∧ Hid (Below w.heap.size w wr)) (fun i _ => b.ops.length - (RowKit.intOf i).toNat)
  case atStart => exact ⟨0, Nat.zero_le _, rfl, fun k _ hk => by omega, Below.refl _ _⟩
  case round =>
    obtain ⟨j, hj, rfl, HJ, HW⟩ := hrel
    have s1 := cell_keep HW.out H1.out
    by_cases hlt : j < b.ops.length
    · obtain ⟨gx, hox⟩ := (HO.out.below HW.out).at j hlt
      have hsm := HS.out.names j hlt
      obtain ⟨c, hc⟩ : ∃ c, c = opFault (b.ops[j]'hlt) := ⟨_, rfl⟩
      have HX : Hid (Calls Tryz.prog 152 #[.pointer (some ⟨gk, j * 7, none⟩)] wr fun e w' => e = .returned (.int .i64 c) ∧ Below wr.heap.size wr w') := by rw [hc]; exact l9Op_any _ B gk (j * 7) gx wr (by have := hsm.name; omega) (by have := hsm.len; omega) (fun k hk => by have := hsm.names k hk; omega) hox
      have HC : Hid (opFault (b.ops[j]'hlt) = c) := hc.symm
      clear hox hsm hc
      by_cases hz : c = 0
      · subst hz
        go_wp2_with (go_at_call 152; refine HX.out.mono ?_; rintro e w1 ⟨rfl, b1⟩)
        refine ⟨⟨j + 1, by omega, by go_num, fun k hk hkj => ?_, HW.out.trans (b1.mono HW.out.size)⟩, by simp [RowKit.intOf]; omega⟩
        by_cases e : k < j
        · exact HJ.out k hk e
        · have : k = j := by omega
          subst this; exact HC.out
      · have hcn : (c != 0) = true := by rw [bne_iff_ne]; exact hz
        have HF : Hid (R = c) := by show _ = _; rw [HR.out, firstC_hit b.ops j hlt HJ.out (by rw [HC.out]; exact hz), HC.out]
        clear hz
        go_wp2_with (go_at_call 152; refine HX.out.mono ?_; rintro e w1 ⟨rfl, b1⟩)
        go_ret
        exact ⟨by rw [HF.out]; rfl, HW.out.trans (b1.mono HW.out.size)⟩
    · have HF : Hid (R = 0) := by
        show _ = _
        rw [HR.out]; exact firstC_none b.ops (fun k hk _ => HJ.out k hk (by omega))
      go_wp2
      go_ret
      exact ⟨by rw [HF.out]; rfl, HW.out⟩
set_option maxRecDepth 100000 in
set_option maxHeartbeats 2000000 in
theorem l9Fault_any (g c B : Nat) (l : List Blk) (w : World) (hl : l.length ≤ 1048576) (hz : ∀ (k : Nat) (h : k < l.length), l[k].small) (hB : RowBl w B g l) :
    Calls Tryz.prog 77 #[.slice (some ⟨g, 0, none⟩) l.length c] w fun e w' => e = .returned (.int .i64 (codeFault9 l)) ∧ Below w.heap.size w w' := by
  obtain ⟨R, hR⟩ : ∃ R, R = codeFault9 l := ⟨_, rfl⟩
  rw [← hR]
  by_cases h60 : 60 < l.length
  · have HR : Hid (R = 2) := by show _ = _; rw [hR]; unfold codeFault9; rw [if_pos h60]
    clear hR hB hz
    go_enter Tryz.func77, Tryz.ntmps77
    go_wp2
    go_ret
    exact ⟨by rw [HR.out]; rfl, Below.refl _ _⟩
  have HR : Hid (R = firstC blkFault l) := by show _ = _; rw [hR]; unfold codeFault9; rw [if_neg h60]
  have HB : Hid (RowBl w B g l) := hB
  have HZ : Hid (∀ (k : Nat) (h : k < l.length), l[k].small) := hz
  clear hR hB hz
  go_enter Tryz.func77, Tryz.ntmps77
  go_wp2_with fail
  go_loopw [3] (fun i wr => ∃ j : Nat, j ≤ l.length ∧ i = .int .i64 (j : Int) ∧ Hid (∀ (k : Nat) (h : k < l.length), k < j → blkFault l[k] = 0) ∧ Hid (Below w.heap.size w wr)) (fun i _ => l.length - (RowKit.intOf i).toNat)
  case atStart => exact ⟨0, Nat.zero_le _, rfl, fun k _ hk => by omega, Below.refl _ _⟩
  case round =>
    obtain ⟨j, hj, rfl, HJ, HW⟩ := hrel
    by_cases hlt : j < l.length
    · obtain ⟨p0, gx, p1, ho⟩ := HB.out.below HW.out j hlt
      obtain ⟨c, hc⟩ : ∃ c, c = blkFault (l[j]'hlt) := ⟨_, rfl⟩
      have HX : Hid (Calls Tryz.prog 111 #[.pointer (some ⟨g, j * 2, none⟩)] wr fun e w' => e = .returned (.int .i64 c) ∧ Below wr.heap.size wr w') := by rw [hc]; exact l9Block_any _ B g (j * 2) gx wr (HZ.out j hlt) p0 p1 ho.row
      have HC : Hid (blkFault (l[j]'hlt) = c) := hc.symm
      clear p0 p1 ho hc
      by_cases hz : c = 0
      · subst hz
        go_wp2_with (go_at_call 111; refine HX.out.mono ?_; rintro e w1 ⟨rfl, b1⟩)
        refine ⟨⟨j + 1, by omega, by go_num, fun k hk hkj => ?_, HW.out.trans (b1.mono HW.out.size)⟩, by simp [RowKit.intOf]; omega⟩
        by_cases e : k < j
        · exact HJ.out k hk e
        · have : k = j := by omega
          subst this; exact HC.out
      · have hcn : (c != 0) = true := by rw [bne_iff_ne]; exact hz
        have HF : Hid (R = c) := by show _ = _; rw [HR.out, firstC_hit l j hlt HJ.out (by rw [HC.out]; exact hz), HC.out]
        clear hz
        go_wp2_with (go_at_call 111; refine HX.out.mono ?_; rintro e w1 ⟨rfl, b1⟩)
        go_ret
        exact ⟨by rw [HF.out]; rfl, HW.out.trans (b1.mono HW.out.size)⟩
    · have HF : Hid (R = 0) := by
        show _ = _
        rw [HR.out]; exact firstC_none l (fun k hk _ => HJ.out k hk (by omega))
      go_wp2
      go_ret
      exact ⟨by rw [HF.out]; rfl, HW.out⟩
end Go.Proofs.YtoafolefecddmaaGreatDoor
