/-
  Parts of the proof laid into one text, one behind the other; each says at its head what is proved in it.
-/
import Derived.Test.YtebnonpdaddniaaGreatDoorHtM
import Derived.Test.YtebnonpdaddniaaGreatDoorFacts
import Derived.Test.YtebnonpdaddniaaGreatDoorHtE
import Derived.Test.YtebnonpdaddniaaGreatDoorHtA
import Derived.Test.YtebnonpdaddniaaGreatDoorHtC
import Derived.Test.YtebnonpdaddniaaGreatDoorHtN
/-
  The model's l4Place, l4One and l4Fault, and its CoreFault: what is wrong with cores; nothing that was there is turned.
-/
namespace Go.Proofs.YtebnonpdaddniaaGreatDoor
open Go.RowKit Go.Extern.Stop Go.Stop Go.Extern Num Go.Lib

theorem placeB_five {l : List Cor} {i : Nat} {t : Cor} (h : t.kind = 5) : placeB l i t = (decide (0 ≤ t.a) && decide (t.a ≤ 3)) := by unfold placeB; rw [if_pos h]
theorem placeB_two {l : List Cor} {i : Nat} {t : Cor} (h : t.kind = 2) : placeB l i t = (decide (0 ≤ t.b) && decide (t.b < poF l t.a (upLC (zC (l.take i)) t.parent) 0)) := by unfold placeB; rw [if_neg (by omega), if_pos h]
theorem placeB_else {l : List Cor} {i : Nat} {t : Cor} (h2 : t.kind ≠ 2) (h5 : t.kind ≠ 5) : placeB l i t = true := by unfold placeB; rw [if_neg h5, if_neg h2]
set_option maxRecDepth 100000 in
set_option maxHeartbeats 2000000 in
theorem l4Place_any (B g cap : Nat) (l : List Cor) (w : World) (i : Nat) (hR : RowC w B g l) (hi : i < l.length) (hlm : l.length ≤ 160) (hok : okC l i) (hpar : parBad i l[i].parent = false) :
    Calls Tryz.prog 138 #[.slice (some ⟨g, 0, none⟩) l.length cap, .int .i64 (i : Int)] w fun e w' => e = .returned (.bool (placeB l i l[i])) ∧ Below w.heap.size w w' := by
  obtain ⟨c0, c1, c2, c3, -⟩ := hR i hi
  have hp2 := parBad_lt hpar
  have hp : ParsC (zC (l.take i)) := parsC_of (l := l) (k := i) (by omega) (by simp [zC, Function.comp_def]) hok
  have hlen : (zC (l.take i)).length = i := by rw [zC_len, List.length_take]; omega
  obtain ⟨t, ht⟩ : ∃ t, t = l[i]'hi := ⟨_, rfl⟩
  rw [← ht] at c0 c1 c2 c3 hp2 ⊢
  by_cases h5 : t.kind = 5
  · rw [h5] at c0
    rw [placeB_five h5]
    clear hR hok hpar hp hlen ht h5
    go_enter Tryz.func138, Tryz.ntmps138
    go_wp2_with (go_at_call 98; refine (l1In_any _ _ _ _).mono ?_; rintro e w' ⟨rfl, hw'⟩; replace hw' := hw'.symm; subst hw')
    go_ret
    exact ⟨rfl, Below.refl _ _⟩
  · by_cases h2 : t.kind = 2
    · rw [h2] at c0
      rw [placeB_two h2]
      have HIa : Hid (∀ w, Calls Tryz.prog 98 #[.int .i64 t.a, .int .i64 0, .int .i64 160] w fun e w' => e = .returned (.bool (decide (0 ≤ t.a) && decide (t.a ≤ 160))) ∧ w' = w) := fun w => l1In_any _ _ _ w
      cases ha : (decide (0 ≤ t.a) && decide (t.a ≤ 160)) with
      | false =>
        rw [ha] at HIa
        have hpo : poF l t.a (upLC (zC (l.take i)) t.parent) 0 = 0 := by
          have hl := upL_lenC hp (i + 1) t.parent (by omega) (by omega) hp2.2
          refine poF_far l t.a _ 0 ?_
          simp only [Bool.and_eq_false_iff, decide_eq_false_iff_not] at ha
          omega
        have HR : Hid ((decide (0 ≤ t.b) && decide (t.b < poF l t.a (upLC (zC (l.take i)) t.parent) 0)) = false) := by
          show _ = _
          rw [hpo]
          by_cases hb : 0 ≤ t.b
          · have : ¬ t.b < 0 := by omega
            simp [this]
          · simp [hb]
        rw [HR.out]
        clear hR hok hpar hp hlen ht h5 h2 ha hpo HR
        go_enter Tryz.func138, Tryz.ntmps138
        go_wp2_with (go_at_call 98; refine (HIa.out _).mono ?_; rintro e w' ⟨rfl, hw'⟩; replace hw' := hw'.symm; subst hw')
        go_ret
        exact ⟨rfl, Below.refl _ _⟩
      | true =>
        rw [ha] at HIa
        simp only [Bool.and_eq_true, decide_eq_true_eq] at ha
        have HA : Hid (∀ cap, Calls Tryz.prog 180 #[.slice (some ⟨g, 0, none⟩) l.length cap, .int .i64 (i : Int), .int .i64 t.a] w fun e w' => e = .returned (.int .i64 (aroF l (upLC (zC (l.take i)) t.parent) t.a)) ∧ w' = w) := fun cap => by
          rw [ht]; exact l4Around_any B g cap l w i _ hR hi hlm hp (by rw [← ht]; omega) (by rw [← ht]; omega) (by rw [← ht]; omega) (by rw [← ht]; omega)
        have hpa := po_aro l t.a (upLC (zC (l.take i)) t.parent) 0 (upL_pos hp _ (by omega))
        have hkd := aroF_kind l (upLC (zC (l.take i)) t.parent) t.a
        have hup := fun x hx => upL_mem hp (i + 1) t.parent (by omega) (by omega) x hx
        rw [show t.a - 0 = t.a by omega] at hpa
        generalize aroF l (upLC (zC (l.take i)) t.parent) t.a = fn at HA hpa hkd
        generalize poF l t.a (upLC (zC (l.take i)) t.parent) 0 = po at hpa ⊢
        rcases hpa with ⟨h1, h0⟩ | ⟨h0, h1⟩
        · subst h1 h0
          have HR : Hid ((decide (0 ≤ t.b) && decide (t.b < 0)) = false) := by
            show _ = _
            by_cases hb : 0 ≤ t.b
            · have : ¬ t.b < 0 := by omega
              simp [this]
            · simp [hb]
          rw [HR.out]
          clear hR hok hpar hp hlen ht h5 h2 ha hkd hup HR
          go_enter Tryz.func138, Tryz.ntmps138
          go_wp2_with (first | (go_at_call 98; refine (HIa.out _).mono ?_; rintro e w' ⟨rfl, hw'⟩; replace hw' := hw'.symm; subst hw') | (go_at_call 180; refine (HA.out _).mono ?_; rintro e w' ⟨rfl, hw'⟩; replace hw' := hw'.symm; subst hw'))
          have hne := bw_some w
          refine wp_region_below (by kernel_rfl) (by kernel_rfl) ?_
          repeat (go_big_quiet_step (fail))
          refine wpQuiet_nil ?_
          intro wq hw'
          obtain ⟨⟨_, bq⟩, rfl⟩ := hw'
          have HB : Hid (Below w.heap.size w wq) := bq
          clear bq
          go_wp2
          go_ret
          exact ⟨rfl, HB.out⟩
        · rcases hkd with hk | ⟨hk1, hk2⟩
          · omega
          · obtain ⟨j, rfl⟩ := Int.eq_ofNat_of_zero_le h0
            have hj := hup _ hk1
            have hjl : j < l.length := by omega
            rw [Int.toNat_natCast] at h1 hk2
            rw [kdC_at l j hjl] at hk2
            rw [naC_at l j hjl] at h1
            have hlam := okC_lam hok j hjl (by omega) hk2
            have e2 := (hR j hjl).2.2.1
            rw [← h1] at hlam e2
            have HR : Hid ((decide (0 ≤ t.b) && decide (t.b < po)) = (decide (0 ≤ t.b) && decide (t.b ≤ po - 1))) := by
              show _ = _
              congr 1
              by_cases hb : t.b < po
              · have : t.b ≤ po - 1 := by omega
                simp [hb, this]
              · have : ¬ t.b ≤ po - 1 := by omega
                simp [hb, this]
            rw [HR.out]
            have hjn : (j : Int) < (l.length : Int) := by omega
            have hj0 : (0 : Int) ≤ (j : Int) := by omega
            clear hR hok hpar hp hlen ht h5 h2 ha hup HR hk1 hk2 h1 hj
            go_enter Tryz.func138, Tryz.ntmps138
            go_wp2_with (first | (go_at_call 98; refine (HIa.out _).mono ?_; rintro e w' ⟨rfl, hw'⟩; replace hw' := hw'.symm; subst hw') | (go_at_call 180; refine (HA.out _).mono ?_; rintro e w' ⟨rfl, hw'⟩; replace hw' := hw'.symm; subst hw'))
            have q3 : ∀ p : BW w, p.x.cell? ⟨g, i * 6 + 3, none⟩ = some (.int .i64 t.b) := fun p => p.cell c3
            have q2 : ∀ p : BW w, p.x.cell? ⟨g, j * 6 + 2, none⟩ = some (.int .i64 po) := fun p => p.cell e2
            have hne := bw_some w
            have HL : Hid (∀ p : BW w, Calls Tryz.prog 98 #[.int .i64 t.b, .int .i64 0, .int .i64 (po - 1)] p.x fun e w' => e = .returned (.bool (decide (0 ≤ t.b) && decide (t.b ≤ po - 1))) ∧ Below p.x.heap.size p.x w') := fun p => (l1In_any _ _ _ _).mono fun e w' ⟨h1, h2⟩ => ⟨h1, by rw [h2]; exact Below.refl _ _⟩
            refine wp_region_below (by kernel_rfl) (by kernel_rfl) ?_
            repeat (go_big_quiet_step ((go_at_call 98; exact calls_bw (HL.out _))))
            refine wpQuiet_nil ?_
            intro wq hw'
            obtain ⟨⟨_, bq⟩, rfl⟩ := hw'
            have HB : Hid (Below w.heap.size w wq) := bq
            clear bq
            go_wp2
            go_ret
            exact ⟨rfl, HB.out⟩
    · have e5 : (t.kind == 5) = false := by simpa using h5
      have e2 : (t.kind != 2) = true := by simpa using h2
      rw [placeB_else h2 h5]
      clear hR hok hpar hp hlen ht h5 h2
      go_enter Tryz.func138, Tryz.ntmps138
      go_wp2
      go_ret
      exact ⟨rfl, Below.refl _ _⟩
theorem lineBad_of {l : List Cor} {i : Nat} {p : Int} : lineBad l i p = (decide (0 < i) && !(decide (p ∈ upLC (zC (l.take i)) ((i : Int) - 1)))) := rfl
set_option maxRecDepth 100000 in
set_option maxHeartbeats 4000000 in
theorem l4One_any (B g cap : Nat) (l : List Cor) (w : World) (i : Nat) (hR : RowC w B g l) (hi : i < l.length) (hlm : l.length ≤ 160) (hok : okC l i) (hz : l[i].small) :
    Calls Tryz.prog 91 #[.slice (some ⟨g, 0, none⟩) l.length cap, .int .i64 (i : Int)] w fun e w' => e = .returned (.int .i64 (oneM l i l[i])) ∧ Below w.heap.size w w' := by
  have HR : Hid (RowC w B g l) := hR
  have HOk : Hid (okC l i) := hok
  obtain ⟨c0, c1, -, -, c4, gk, c5, hrow⟩ := hR i hi
  have HBr : Hid (Calls Tryz.prog 135 #[.pointer (some ⟨g, i * 6, none⟩)] w fun e w' => e = .returned (.bool (bareC l[i])) ∧ w' = w) := by
    obtain ⟨d0, d1, d2, d3, d4, gk', d5, -⟩ := hR i hi
    exact l4Bare_any _ _ _ g (i * 6) w d0 d2 d3 d4 d5
  have HPl : Hid (∀ u, Below w.heap.size w u → parBad i l[i].parent = false → Calls Tryz.prog 138 #[.slice (some ⟨g, 0, none⟩) l.length cap, .int .i64 (i : Int)] u fun e w' => e = .returned (.bool (placeB l i l[i])) ∧ Below u.heap.size u w') := fun u hu hp => l4Place_any B g cap l u i (hR.below hu) hi hlm hok hp
  have HLi : Hid (0 < i → Calls Tryz.prog 136 #[.slice (some ⟨g, 0, none⟩) l.length cap, .int .i64 (i : Int)] w fun e w' => e = .returned (.bool (decide (l[i].parent ∈ upLC (zC (l.take i)) ((i : Int) - 1)))) ∧ w' = w) := fun h0 =>
    l4Line_any B g cap l w i hR hi h0 hlm (parsC_of (l := l) (k := i) (by omega) (by simp [zC, Function.comp_def]) hok)
  have HD : Hid (∀ u, Below w.heap.size w u → Calls Tryz.prog 60 #[.slice (some ⟨gk, 0, none⟩) l[i].data.length l[i].data.length] u fun e w' => e = .returned (.int .i64 (dataFault l[i].data)) ∧ w' = u) := fun u hu => l3Fault_any _ _ B _ u (own_below hrow hu) (name_le hz.names)
  have HNm : Hid (∀ u, Calls Tryz.prog 72 #[.int .i64 l[i].kind] u fun e w' => e = .returned (.bool (namedK l[i].kind)) ∧ w' = u) := fun u => l4Named_any _ u
  have HNa : Hid (∀ u, Calls Tryz.prog 137 #[.string l[i].name] u fun e w' => e = .returned (.bool (namC l[i].name)) ∧ Below u.heap.size u w') := fun u => l4Name_any _ u (by have := hz.name; omega)
  obtain ⟨t, ht⟩ : ∃ t, t = l[i]'hi := ⟨_, rfl⟩
  rw [← ht] at c0 c1 c4 c5 HBr HPl HLi HD HNm HNa ⊢
  clear hR hok hz hrow
  have HRes : Hid (oneM l i t = if bareC t = false then 1 else if parBad i t.parent = true then 3 else if lineBad l i t.parent = true then 1 else if nameBad t = true then 5
    else if dataBad t = true then dataFault t.data else if defBad i t = true then 1 else if placeB l i t = false then 3 else 0) := rfl
  generalize oneM l i t = R at HRes ⊢
  have hi160 : (i : Int) < 1000 := by omega
  have hin : (i : Int) < (l.length : Int) := by omega
  clear ht hlm
  cases hb : bareC t with
  | false =>
    rw [hb] at HBr HRes
    obtain rfl : R = 1 := by rw [HRes.out]; rfl
    go_enter Tryz.func91, Tryz.ntmps91
    go_wp2_with (go_at_call 135; refine HBr.out.mono ?_; rintro e w' ⟨rfl, hw'⟩; replace hw' := hw'.symm; subst hw')
    go_ret
    exact ⟨rfl, Below.refl _ _⟩
  | true =>
    rw [hb] at HBr HRes
    have HRe : Hid (R = if parBad i t.parent = true then 3 else if lineBad l i t.parent = true then 1 else if nameBad t = true then 5
      else if dataBad t = true then dataFault t.data else if defBad i t = true then 1 else if placeB l i t = false then 3 else 0) := by show _ = _; rw [HRes.out]; rfl
    clear HRes hb
    go_enter Tryz.func91, Tryz.ntmps91
    go_upto_region 4 with (go_at_call 135; refine HBr.out.mono ?_; rintro e w' ⟨rfl, hw'⟩; replace hw' := hw'.symm; subst hw')
    go_cut [35] from 7 to 83 (fun v wx => v = .bool (parBad i t.parent) ∧ wx = w)
    case first =>
      by_cases hk0 : i = 0
      · have hkz : ((i : Int) == 0) = true := by rw [beq_iff_eq]; omega
        have HV : Hid (parBad i t.parent = (t.parent != -1)) := by show parBad i t.parent = _; rw [hk0]; simp [parBad]
        have hkn : ¬ 0 < (i : Int) := by omega
        clear hk0
        cases hm : (t.parent != -1)
        all_goals
          go_wp2
          go_meet
          exact ⟨by rw [HV.out, hm], rfl⟩
      · have hkz : ((i : Int) == 0) = false := by rw [beq_eq_false_iff_ne]; omega
        have hkp : 0 < (i : Int) := by omega
        have HV : Hid (parBad i t.parent = !(decide (0 ≤ t.parent) && decide (t.parent ≤ (i : Int) - 1))) := by
          have h1 : (i == 0) = false := by simpa using hk0
          have h2 : 0 < i := by omega
          show parBad i t.parent = _
          simp [parBad, h1, h2]
        clear hk0
        cases hin2 : (decide (0 ≤ t.parent) && decide (t.parent ≤ (i : Int) - 1))
        all_goals
          go_wp2_with (go_at_call 98; refine (l1In_any _ _ _ _).mono ?_; rintro e w' ⟨rfl, hw'⟩; replace hw' := hw'.symm; subst hw')
          go_meet
          exact ⟨by rw [HV.out, hin2]; rfl, rfl⟩
    case rest =>
      obtain ⟨rfl, hwc⟩ := hcut
      replace hwc := hwc.symm; subst hwc
      cases hpb : parBad i t.parent with
      | true =>
        rw [hpb] at HRe
        have HC : Hid (R = 3) := HRe.out
        go_wp2
        go_ret
        exact ⟨by rw [HC.out]; rfl, Below.refl _ _⟩
      | false =>
        have HP0 : Hid (parBad i t.parent = false) := hpb
        have HRf : Hid (R = if lineBad l i t.parent = true then 1 else if nameBad t = true then 5
          else if dataBad t = true then dataFault t.data else if defBad i t = true then 1 else if placeB l i t = false then 3 else 0) := by show _ = _; rw [HRe.out, hpb]; rfl
        clear HRe hpb
        go_upto_region 6 with fail
        go_cut [43] from 7 to 83 (fun v wx => v = .bool (lineBad l i t.parent) ∧ wx = w)
        case first =>
          by_cases hk0 : 0 < (i : Int)
          · have HL2 : Hid (Calls Tryz.prog 136 #[.slice (some ⟨g, 0, none⟩) l.length cap, .int .i64 (i : Int)] w fun e w' => e = .returned (.bool (decide (t.parent ∈ upLC (zC (l.take i)) ((i : Int) - 1)))) ∧ w' = w) := HLi.out (by omega)
            have HV : Hid (lineBad l i t.parent = !(decide (t.parent ∈ upLC (zC (l.take i)) ((i : Int) - 1)))) := by
              have h2 : 0 < i := by omega
              show lineBad l i t.parent = _
              simp [lineBad, h2]
            cases hli : decide (t.parent ∈ upLC (zC (l.take i)) ((i : Int) - 1))
            all_goals
              rw [hli] at HL2
              go_wp2_with (go_at_call 136; refine HL2.out.mono ?_; rintro e w' ⟨rfl, hw'⟩; replace hw' := hw'.symm; subst hw')
              go_meet
              exact ⟨by rw [HV.out, hli]; rfl, rfl⟩
          · have HV : Hid (lineBad l i t.parent = false) := by
              have h2 : ¬ 0 < i := by omega
              show lineBad l i t.parent = _
              simp [lineBad, h2]
            go_wp2
            go_meet
            exact ⟨by rw [HV.out], rfl⟩
        case rest =>
          obtain ⟨rfl, hwc⟩ := hcut
          replace hwc := hwc.symm; subst hwc
          cases hlb : lineBad l i t.parent with
          | true =>
            rw [hlb] at HRf
            have HC : Hid (R = 1) := HRf.out
            go_wp2
            go_ret
            exact ⟨by rw [HC.out]; rfl, Below.refl _ _⟩
          | false =>
            have HRg : Hid (R = if nameBad t = true then 5
              else if dataBad t = true then dataFault t.data else if defBad i t = true then 1 else if placeB l i t = false then 3 else 0) := by show _ = _; rw [HRf.out, hlb]; rfl
            clear HRf hlb
            go_upto_region 8 with fail
            go_cut [56] from 7 to 83 (fun v wx => v = .bool (nameBad t) ∧ Below w.heap.size w wx)
            case first =>
              have HV : Hid (nameBad t = (namedK t.kind && !namC t.name)) := rfl
              cases hnk : namedK t.kind <;> cases hnc : namC t.name
              all_goals
                rw [hnk] at HNm
                rw [hnc] at HNa
                go_wp2_with (first | (go_at_call 72; refine (HNm.out _).mono ?_; rintro e w' ⟨rfl, hw'⟩; replace hw' := hw'.symm; subst hw') | (go_at_call 137; refine (HNa.out _).mono ?_; rintro e w1 ⟨rfl, b1⟩))
                go_meet
                exact ⟨by rw [HV.out, hnk, hnc]; rfl, by first | exact b1 | exact Below.refl _ _⟩
            case rest =>
              obtain ⟨rfl, hwc⟩ := hcut
              have HB : Hid (Below w.heap.size w wc) := hwc
              replace c0 := cell_keep hwc c0
              replace c1 := cell_keep hwc c1
              replace c4 := cell_keep hwc c4
              replace c5 := cell_keep hwc c5
              clear hwc
              cases hnb : nameBad t with
              | true =>
                rw [hnb] at HRg
                have HC : Hid (R = 5) := HRg.out
                go_wp2
                go_ret
                exact ⟨by rw [HC.out]; rfl, HB.out⟩
              | false =>
                have HRh : Hid (R = if dataBad t = true then dataFault t.data else if defBad i t = true then 1 else if placeB l i t = false then 3 else 0) := by show _ = _; rw [HRg.out, hnb]; rfl
                clear HRg hnb
                have HP2 : Hid (Calls Tryz.prog 138 #[.slice (some ⟨g, 0, none⟩) l.length cap, .int .i64 (i : Int)] wc fun e w' => e = .returned (.bool (placeB l i t)) ∧ Below wc.heap.size wc w') := HPl.out wc HB.out HP0.out
                have HD2 : Hid (Calls Tryz.prog 60 #[.slice (some ⟨gk, 0, none⟩) t.data.length t.data.length] wc fun e w' => e = .returned (.int .i64 (dataFault t.data)) ∧ w' = wc) := HD.out wc HB.out
                by_cases hk1 : t.kind = 1
                · have e1 : (t.kind == 1) = true := by simpa using hk1
                  have e8 : (t.kind == 8) = false := by simp [hk1]
                  have HPl1 : Hid (placeB l i t = true) := placeB_else (by omega) (by omega)
                  have HDb : Hid (dataBad t = !(dataFault t.data == 0)) := by show _ = _; simp [dataBad, hk1]
                  have HDf : Hid (defBad i t = false) := by show _ = _; simp [defBad, hk1]
                  clear hk1
                  generalize dataFault t.data = df at HD2 HRh HDb
                  by_cases hd : df = 0
                  · subst hd
                    have HC : Hid (R = 0) := by
                      have e := HRh.out
                      rw [HDb.out, HDf.out, HPl1.out] at e
                      exact e
                    rw [HPl1.out] at HP2
                    go_wp2_with (first | (go_at_call 60; refine HD2.out.mono ?_; rintro e w' ⟨rfl, hw'⟩; replace hw' := hw'.symm; subst hw') | (go_at_call 138; refine HP2.out.mono ?_; rintro e w2 ⟨rfl, b2⟩))
                    go_ret
                    exact ⟨by rw [HC.out]; rfl, HB.out.trans (b2.mono HB.out.size)⟩
                  · have hne : (df != 0) = true := by simpa using hd
                    have HC : Hid (R = df) := by
                      have e := HRh.out
                      rw [HDb.out, show (df == 0) = false by simpa using hd] at e
                      exact e
                    clear hd
                    go_wp2_with (first | (go_at_call 60; refine HD2.out.mono ?_; rintro e w' ⟨rfl, hw'⟩; replace hw' := hw'.symm; subst hw'))
                    go_ret
                    exact ⟨by rw [HC.out]; rfl, HB.out⟩
                · have e1 : (t.kind == 1) = false := by simpa using hk1
                  have HDb : Hid (dataBad t = false) := by show _ = _; simp [dataBad, hk1]
                  have HRi : Hid (R = if defBad i t = true then 1 else if placeB l i t = false then 3 else 0) := by show _ = _; rw [HRh.out, HDb.out]; rfl
                  clear HRh HDb hk1 HD2
                  by_cases hk8 : t.kind = 8
                  · have e8 : (t.kind == 8) = true := by simpa using hk8
                    have HPl1 : Hid (placeB l i t = true) := placeB_else (by omega) (by omega)
                    rw [HPl1.out] at HP2 HRi
                    by_cases hi0 : 0 < (i : Int)
                    · have HC : Hid (R = 1) := by
                        have h2 : 0 < i := by omega
                        have e := HRi.out
                        simp [defBad, hk8, h2] at e
                        exact e
                      clear hk8
                      go_wp2
                      go_ret
                      exact ⟨by rw [HC.out]; rfl, HB.out⟩
                    · have HC : Hid (R = 0) := by
                        have h2 : i = 0 := by omega
                        have e := HRi.out
                        simp [defBad, hk8, h2] at e
                        exact e
                      clear hk8
                      go_wp2_with (go_at_call 138; refine HP2.out.mono ?_; rintro e w2 ⟨rfl, b2⟩)
                      go_ret
                      exact ⟨by rw [HC.out]; rfl, HB.out.trans (b2.mono HB.out.size)⟩
                  · have e8 : (t.kind == 8) = false := by simpa using hk8
                    have HRj : Hid (R = if placeB l i t = false then 3 else 0) := by
                      show _ = _
                      rw [HRi.out]; simp [defBad, hk8]
                    clear hk8 HRi
                    cases hp : placeB l i t with
                    | false =>
                      rw [hp] at HP2 HRj
                      have HC : Hid (R = 3) := HRj.out
                      go_wp2_with (go_at_call 138; refine HP2.out.mono ?_; rintro e w2 ⟨rfl, b2⟩)
                      go_ret
                      exact ⟨by rw [HC.out]; rfl, HB.out.trans (b2.mono HB.out.size)⟩
                    | true =>
                      rw [hp] at HP2 HRj
                      have HC : Hid (R = 0) := HRj.out
                      go_wp2_with (go_at_call 138; refine HP2.out.mono ?_; rintro e w2 ⟨rfl, b2⟩)
                      go_ret
                      exact ⟨by rw [HC.out]; rfl, HB.out.trans (b2.mono HB.out.size)⟩
end Go.Proofs.YtebnonpdaddniaaGreatDoor
/-
  The model's l4Fault, and its CoreFault: what is wrong with cores; nothing that was there is turned.
-/
namespace Go.Proofs.YtebnonpdaddniaaGreatDoor
open Go.RowKit Go.Extern.Stop Go.Stop Go.Extern Num Go.Lib

theorem parZ_kids (l : List Cor) (a : Int) : ∀ k, k ≤ l.length → (kidsTo l a k).length = ((l.take k).filter fun t => t.parent == a).length
  | 0, _ => rfl
  | k + 1, h => by
    have ih := parZ_kids l a k (by omega)
    have hk : k < l.length := by omega
    rw [takeC l k hk, List.filter_append, List.length_append, ← ih, kidsTo, parZ_at l k hk]
    by_cases hp : l[k].parent = a
    · rw [if_pos hp, List.length_append]; simp [hp]
    · rw [if_neg hp]; simp [hp]
theorem kidsD_len (l : List Cor) (a : Int) : (kidsD l a).length = kidN l a := by
  have := parZ_kids l a l.length (Nat.le_refl _)
  rw [List.take_length] at this
  exact this
set_option maxRecDepth 100000 in
set_option maxHeartbeats 4000000 in
theorem l4Fault_few (B g cap : Nat) (l : List Cor) (w : World) (hR : RowC w B g l) (h1 : 1 ≤ (l.length : Int)) (h160 : (l.length : Int) ≤ 160) (hz : ∀ (k : Nat) (h : k < l.length), l[k].small) :
    Calls Tryz.prog 55 #[.slice (some ⟨g, 0, none⟩) l.length cap] w fun e w' => e = .returned (.int .i64 (coreF l)) ∧ Below w.heap.size w w' := by
  have HR : Hid (RowC w B g l) := hR
  have HZ : Hid (∀ (k : Nat) (h : k < l.length), l[k].small) := hz
  have HF : Hid (coreF l = if onesC l l.length 0 ≠ 0 then onesC l l.length 0 else if kidsAll l l.length 0 = true then 0 else 1) := by show coreF l = _; unfold coreF; rw [if_neg (by omega)]
  clear hR hz
  obtain ⟨R, hRe⟩ : ∃ R : Int, R = coreF l := ⟨_, rfl⟩
  rw [← hRe] at HF ⊢
  clear hRe
  go_enter Tryz.func55, Tryz.ntmps55
  go_wp2_with fail
  go_loopw [3, 4] (fun v x wr => ∃ k : Nat, k ≤ l.length ∧ v = .int .i64 (k : Int) ∧ Hid (okC l k) ∧ Hid (Below w.heap.size w wr)) (fun v _ _ => l.length - (RowKit.intOf v).toNat)
  case atStart => exact ⟨0, Nat.zero_le _, rfl, fun j _ hj => by omega, Below.refl _ _⟩
  case round =>
    obtain ⟨k, hk, rfl, HK, HB⟩ := hrel
    by_cases hlt : k < l.length
    · have HO : Hid (Calls Tryz.prog 91 #[.slice (some ⟨g, 0, none⟩) l.length cap, .int .i64 (k : Int)] wr fun e w' => e = .returned (.int .i64 (oneC l k (l[k]'hlt))) ∧ Below wr.heap.size wr w') := by
        rw [oneC_model l k (by omega)]
        exact l4One_any B g cap l wr k (HR.out.below HB.out) hlt (by omega) HK.out (HZ.out k hlt)
      have HNx : Hid (oneC l k (l[k]'hlt) = 0 → okC l (k + 1)) := fun h => okC_next HK.out hlt h
      have HHit : Hid (oneC l k (l[k]'hlt) ≠ 0 → R = oneC l k (l[k]'hlt)) := fun h => by
        have := onesC_hit HK.out hlt h
        rw [HF.out, this, if_pos h]
      generalize oneC l k (l[k]'hlt) = c at HO HNx HHit
      by_cases hc : c = 0
      · subst hc
        go_wp2_with (go_at_call 91; refine HO.out.mono ?_; rintro e w1 ⟨rfl, b1⟩)
        exact ⟨⟨k + 1, by omega, by go_num, HNx.out (by trivial), HB.out.trans (b1.mono HB.out.size)⟩, by simp [RowKit.intOf]; omega⟩
      · have hne : (c != 0) = true := by simpa using hc
        have HC : Hid (R = c) := HHit.out hc
        clear hc HHit HNx
        go_wp2_with (go_at_call 91; refine HO.out.mono ?_; rintro e w1 ⟨rfl, b1⟩)
        go_ret
        exact ⟨by rw [HC.out]; rfl, HB.out.trans (b1.mono HB.out.size)⟩
    · obtain rfl : k = l.length := by omega
      have HOn : Hid (onesC l l.length 0 = 0) := onesC_end HK.out
      have HF2 : Hid (R = if kidsAll l l.length 0 = true then 0 else 1) := by show _ = _; rw [HF.out, HOn.out, if_neg (by simp)]
      obtain ⟨wo, rfl⟩ : ∃ wo, wo = wr := ⟨wr, rfl⟩
      go_wp2_with fail
      go_loopw [5] (fun v wt => ∃ a : Nat, a ≤ l.length ∧ v = .int .i64 (a : Int) ∧ Hid (∀ j, j < a → manyK (kdC l j) (kidN l (j : Int)) = true) ∧ Hid (Below w.heap.size w wt)) (fun v _ => l.length - (RowKit.intOf v).toNat)
      case atStart => exact ⟨0, Nat.zero_le _, rfl, fun j hj => by omega, HB.out⟩
      case round =>
        obtain ⟨k, hk, rfl, HM, HBt⟩ := hrel
        by_cases hat : k < l.length
        · obtain ⟨kd, hkd⟩ : ∃ kd, kd = (l[k]'hat).kind := ⟨_, rfl⟩
          obtain ⟨kn, hkn⟩ : ∃ kn, kn = (kidsD l (k : Int)).length := ⟨_, rfl⟩
          obtain ⟨mk, hmk⟩ : ∃ mk, mk = manyK kd kn := ⟨_, rfl⟩
          have HMk : Hid (manyK (kdC l k) (kidN l (k : Int)) = mk) := by show _ = _; rw [kdC_at l k hat, ← hkd, ← kidsD_len, ← hkn, hmk]
          obtain ⟨W, hW⟩ : ∃ W, W = wr := ⟨_, rfl⟩
          subst hW
          have hC : Hid (∀ u, Below W.heap.size W u → u.cell? ⟨g, k * 6, none⟩ = some (.int .i64 kd)) := fun u hu => by rw [hkd]; exact ((HR.out.below HBt.out).below hu k hat).1
          have HKi : Hid (∀ u, Below W.heap.size W u → Calls Tryz.prog 93 #[.slice (some ⟨g, 0, none⟩) l.length cap, .int .i64 (k : Int)] u fun e w' => ∃ q c, e = .returned (.slice (some ⟨q, 0, none⟩) kn c) ∧ Below u.heap.size u w') := fun u hu => (l4Kids_any B g cap l (k : Int) u ((HR.out.below HBt.out).below hu) (by omega)).mono fun e w' ⟨q, c, h1, _, h3⟩ => ⟨q, c, by rw [hkn]; exact h1, h3⟩
          have hkn160 : kn ≤ 160 := by rw [hkn]; have := kidsTo_len l (k : Int) l.length; unfold kidsD; omega
          have HMa : Hid (∀ u, Calls Tryz.prog 92 #[.int .i64 kd, .int .i64 (kn : Int)] u fun e w' => e = .returned (.bool mk) ∧ w' = u) := fun u => by rw [hmk]; exact l4Many_any kd kn hkn160 u
          clear hkd hkn hmk
          have hkl : (k : Int) < (l.length : Int) := by omega
          go_wp2_with fail
          refine wp_region_facts (by kernel_rfl) 10 (fun v => Below W.heap.size W v) (fun u v => Below u.heap.size u v) (fun i vv u => match i with | 0 => (fun v _ => v = .slice (some ⟨g, 0, none⟩) l.length cap) vv u | 1 => (fun v _ => v = .int .i64 (k : Int)) vv u | 2 => (fun v _ => v = .pointer (some ⟨g, k * 6, none⟩)) vv u | 3 => (fun v _ => v = .pointer (some ⟨g, k * 6, none⟩)) vv u | 4 => (fun v _ => v = .int .i64 kd) vv u | 5 => (fun v _ => v = .slice (some ⟨g, 0, none⟩) l.length cap) vv u | 6 => (fun v _ => v = .int .i64 (k : Int)) vv u | 7 => (fun v _ => ∃ q c, v = .slice (some ⟨q, 0, none⟩) kn c) vv u | 8 => (fun v _ => v = .int .i64 (kn : Int)) vv u | 9 => (fun v _ => v = .bool mk) vv u | _ => True) (by kernel_rfl) [0, 1, 2, 3, 4, 5, 6, 7, 8, 9] (by kernel_rfl) ?b0 ?bk ?fk ⟨?s0, ?s1, ?s2, ?s3, ?s4, ?s5, ?s6, ?s7, ?s8, ?s9, trivial⟩ _ rfl [(0, some 32), (1, some 33), (2, some 34), (3, some 35), (4, some 36), (5, some 37), (6, some 38), (7, some 39), (8, some 40), (9, some 41)] (by kernel_rfl) ?last
          case b0 => exact Below.drew (Below.refl _ _)
          case bk => exact fun u v h hb => h.trans (hb.mono h.size)
          case fk => intro i vv u u' h hb; match i, h with | 0, h => exact (h) | 1, h => exact (h) | 2, h => exact (h) | 3, h => exact (h) | 4, h => exact (h) | 5, h => exact (h) | 6, h => exact (h) | 7, h => exact (h) | 8, h => exact (h) | 9, h => exact (h) | _ + 10, _ => exact trivial
          case s0 =>
            refine StepF.of rfl [] (by kernel_rfl) ?_
            intro vs u hB hf K hK
            clear hf
            simp only [putsA, List.foldl_nil, Act.put, List.setIfInBounds_toArray] at hK ⊢
            rw [if_pos (by rfl)]
            go_simp
            exact hK.out _ _ (Below.refl _ _) rfl
          case s1 =>
            refine StepF.of rfl [] (by kernel_rfl) ?_
            intro vs u hB hf K hK
            clear hf
            simp only [putsA, List.foldl_nil, Act.put, List.setIfInBounds_toArray] at hK ⊢
            rw [if_pos (by rfl)]
            go_simp
            exact hK.out _ _ (Below.refl _ _) rfl
          case s2 =>
            refine StepF.of rfl [(0, some 32), (1, some 33)] (by kernel_rfl) ?_
            intro vs u hB hf K hK
            have f0 : (fun v _ => v = .slice (some ⟨g, 0, none⟩) l.length cap) (vs 0) u := hf.1
            have f1 : (fun v _ => v = .int .i64 (k : Int)) (vs 1) u := hf.2.1
            clear hf
            simp only [putsA, List.foldl_cons, List.foldl_nil, Act.put, List.setIfInBounds_toArray, List.set_cons_zero, List.set_cons_succ] at hK ⊢
            generalize vs 0 = v0 at f0 hK ⊢
            generalize vs 1 = v1 at f1 hK ⊢
            subst f0 f1
            rw [if_pos (by rfl)]
            go_simp
            exact hK.out _ _ (Below.refl _ _) rfl
          case s3 =>
            refine StepF.of rfl [(2, some 34)] (by kernel_rfl) ?_
            intro vs u hB hf K hK
            have f2 : (fun v _ => v = .pointer (some ⟨g, k * 6, none⟩)) (vs 2) u := hf.1
            clear hf
            simp only [putsA, List.foldl_cons, List.foldl_nil, Act.put, List.setIfInBounds_toArray, List.set_cons_zero, List.set_cons_succ] at hK ⊢
            generalize vs 2 = v2 at f2 hK ⊢
            subst f2
            rw [if_pos (by rfl)]
            go_simp
            exact hK.out _ _ (Below.refl _ _) rfl
          case s4 =>
            refine StepF.of rfl [(3, some 35)] (by kernel_rfl) ?_
            intro vs u hB hf K hK
            have f3 : (fun v _ => v = .pointer (some ⟨g, k * 6, none⟩)) (vs 3) u := hf.1
            clear hf
            simp only [putsA, List.foldl_cons, List.foldl_nil, Act.put, List.setIfInBounds_toArray, List.set_cons_zero, List.set_cons_succ] at hK ⊢
            generalize vs 3 = v3 at f3 hK ⊢
            subst f3
            rw [if_pos (by rfl)]
            have c0 := hC.out u hB
            go_simp
            exact hK.out _ _ (Below.refl _ _) rfl
          case s5 =>
            refine StepF.of rfl [] (by kernel_rfl) ?_
            intro vs u hB hf K hK
            clear hf
            simp only [putsA, List.foldl_nil, Act.put, List.setIfInBounds_toArray] at hK ⊢
            rw [if_pos (by rfl)]
            go_simp
            exact hK.out _ _ (Below.refl _ _) rfl
          case s6 =>
            refine StepF.of rfl [] (by kernel_rfl) ?_
            intro vs u hB hf K hK
            clear hf
            simp only [putsA, List.foldl_nil, Act.put, List.setIfInBounds_toArray] at hK ⊢
            rw [if_pos (by rfl)]
            go_simp
            exact hK.out _ _ (Below.refl _ _) rfl
          case s7 =>
            refine StepF.of rfl [(5, some 37), (6, some 38)] (by kernel_rfl) ?_
            intro vs u hB hf K hK
            have f5 : (fun v _ => v = .slice (some ⟨g, 0, none⟩) l.length cap) (vs 5) u := hf.1
            have f6 : (fun v _ => v = .int .i64 (k : Int)) (vs 6) u := hf.2.1
            clear hf
            simp only [putsA, List.foldl_cons, List.foldl_nil, Act.put, List.setIfInBounds_toArray, List.set_cons_zero, List.set_cons_succ] at hK ⊢
            generalize vs 5 = v5 at f5 hK ⊢
            generalize vs 6 = v6 at f6 hK ⊢
            subst f5 f6
            rw [if_pos (by rfl)]
            go_simp
            refine (HKi.out u hB).mono ?_
            rintro e w' ⟨q, c, rfl, hb⟩
            exact hK.out _ _ hb ⟨q, c, rfl⟩
          case s8 =>
            refine StepF.of rfl [(7, some 39)] (by kernel_rfl) ?_
            intro vs u hB hf K hK
            have f7 : (fun v _ => ∃ q c, v = .slice (some ⟨q, 0, none⟩) kn c) (vs 7) u := hf.1
            clear hf
            simp only [putsA, List.foldl_cons, List.foldl_nil, Act.put, List.setIfInBounds_toArray, List.set_cons_zero, List.set_cons_succ] at hK ⊢
            generalize vs 7 = v7 at f7 hK ⊢
            obtain ⟨q, c, rfl⟩ := f7
            rw [if_pos (by rfl)]
            go_simp
            exact hK.out _ _ (Below.refl _ _) rfl
          case s9 =>
            refine StepF.of rfl [(4, some 36), (7, some 39), (8, some 40)] (by kernel_rfl) ?_
            intro vs u hB hf K hK
            have f4 : (fun v _ => v = .int .i64 kd) (vs 4) u := hf.1
            have f7 : (fun v _ => ∃ q c, v = .slice (some ⟨q, 0, none⟩) kn c) (vs 7) u := hf.2.1
            have f8 : (fun v _ => v = .int .i64 (kn : Int)) (vs 8) u := hf.2.2.1
            clear hf
            simp only [putsA, List.foldl_cons, List.foldl_nil, Act.put, List.setIfInBounds_toArray, List.set_cons_zero, List.set_cons_succ] at hK ⊢
            generalize vs 4 = v4 at f4 hK ⊢
            generalize vs 7 = v7 at f7 hK ⊢
            generalize vs 8 = v8 at f8 hK ⊢
            subst f4 f8
            clear f7
            rw [if_pos (by rfl)]
            go_simp
            refine (HMa.out u).mono ?_
            rintro e w' ⟨rfl, rfl⟩
            exact hK.out _ _ (Below.refl _ _) rfl
          case last =>
            intro vs u hB hf K hK
            have f0 : (fun v _ => v = .slice (some ⟨g, 0, none⟩) l.length cap) (vs 0) u := hf.1
            have f1 : (fun v _ => v = .int .i64 (k : Int)) (vs 1) u := hf.2.1
            have f2 : (fun v _ => v = .pointer (some ⟨g, k * 6, none⟩)) (vs 2) u := hf.2.2.1
            have f3 : (fun v _ => v = .pointer (some ⟨g, k * 6, none⟩)) (vs 3) u := hf.2.2.2.1
            have f4 : (fun v _ => v = .int .i64 kd) (vs 4) u := hf.2.2.2.2.1
            have f5 : (fun v _ => v = .slice (some ⟨g, 0, none⟩) l.length cap) (vs 5) u := hf.2.2.2.2.2.1
            have f6 : (fun v _ => v = .int .i64 (k : Int)) (vs 6) u := hf.2.2.2.2.2.2.1
            have f7 : (fun v _ => ∃ q c, v = .slice (some ⟨q, 0, none⟩) kn c) (vs 7) u := hf.2.2.2.2.2.2.2.1
            have f8 : (fun v _ => v = .int .i64 (kn : Int)) (vs 8) u := hf.2.2.2.2.2.2.2.2.1
            have f9 : (fun v _ => v = .bool mk) (vs 9) u := hf.2.2.2.2.2.2.2.2.2.1
            clear hf
            simp only [putsA, List.foldl_cons, List.foldl_nil, Act.put, List.setIfInBounds_toArray, List.set_cons_zero, List.set_cons_succ]
            generalize vs 0 = v0 at f0 ⊢
            generalize vs 1 = v1 at f1 ⊢
            generalize vs 2 = v2 at f2 ⊢
            generalize vs 3 = v3 at f3 ⊢
            generalize vs 4 = v4 at f4 ⊢
            generalize vs 5 = v5 at f5 ⊢
            generalize vs 6 = v6 at f6 ⊢
            generalize vs 7 = v7 at f7 ⊢
            generalize vs 8 = v8 at f8 ⊢
            generalize vs 9 = v9 at f9 ⊢
            rw [if_pos (by rfl)]
            obtain ⟨q, c, rfl⟩ := f7
            subst f0 f1 f2 f3 f4 f5 f6 f8 f9
            have HU : Hid (Below W.heap.size W u) := hB
            go_simp
            refine hK.out _ _ ?_
            clear hB hK
            clear HKi HMa hC
            cases mk with
            | true =>
              go_wp2
              exact ⟨⟨k + 1, by omega, by go_num, fun j hj => by
                by_cases e : j = k
                · subst e; exact HMk.out
                · exact HM.out j (by omega), HBt.out.trans (HU.out.mono HBt.out.size)⟩, by simp [RowKit.intOf]; omega⟩
            | false =>
              have HV : Hid (R = 1) := by
                show _ = _
                rw [HF2.out, kidsAll_hit HM.out hat HMk.out]; rfl
              go_wp2
              go_ret
              exact ⟨by rw [HV.out]; rfl, HBt.out.trans (HU.out.mono HBt.out.size)⟩
        · have HV : Hid (R = 0) := by
            show _ = _
            rw [HF2.out, kidsAll_end (fun j hj => HM.out j (by omega))]; rfl
          go_wp2
          go_ret
          exact ⟨by rw [HV.out]; rfl, HBt.out⟩
theorem l4Fault_wrong (ao : Option Addr) (n cap : Nat) (w : World) (h : (n : Int) < 1 ∨ 160 < (n : Int)) :
    Calls Tryz.prog 55 #[.slice ao n cap] w fun e w' => e = .returned (.int .i64 2) ∧ w' = w := by
  by_cases h1 : (n : Int) < 1
  · clear h
    go_enter Tryz.func55, Tryz.ntmps55
    go_wp2
    go_ret
    exact ⟨rfl, rfl⟩
  · have h2 : 160 < (n : Int) := by omega
    clear h
    go_enter Tryz.func55, Tryz.ntmps55
    go_wp2
    go_ret
    exact ⟨rfl, rfl⟩
theorem l4Fault_any (B g cap : Nat) (l : List Cor) (w : World) (hR : RowC w B g l) (hz : ∀ (k : Nat) (h : k < l.length), l[k].small) :
    Calls Tryz.prog 55 #[.slice (some ⟨g, 0, none⟩) l.length cap] w fun e w' => e = .returned (.int .i64 (coreF l)) ∧ Below w.heap.size w w' := by
  by_cases h : (l.length : Int) < 1 ∨ 160 < (l.length : Int)
  · refine (l4Fault_wrong _ _ _ w h).mono ?_
    rintro e w' ⟨rfl, rfl⟩
    have e2 : coreF l = 2 := by unfold coreF; rw [if_pos (by omega)]
    exact ⟨by rw [e2], Below.refl _ _⟩
  · exact l4Fault_few B g cap l w hR (by omega) (by omega) hz
theorem specCoF_any (B g cap : Nat) (l : List Cor) (w : World) (hR : RowC w B g l) (hz : ∀ (k : Nat) (h : k < l.length), l[k].small) :
    Calls Tryz.prog 17 #[.slice (some ⟨g, 0, none⟩) l.length cap] w fun e w' => e = .returned (.int .i64 (coreF l)) ∧ Below w.heap.size w w' := by
  have HF : Hid (Calls Tryz.prog 55 #[.slice (some ⟨g, 0, none⟩) l.length cap] w fun e w' => e = .returned (.int .i64 (coreF l)) ∧ Below w.heap.size w w') := l4Fault_any B g cap l w hR hz
  clear hR hz
  generalize coreF l = c at HF ⊢
  go_enter Tryz.func17, Tryz.ntmps17
  go_wp2_with (go_at_call 55; refine HF.out.mono ?_; rintro e w1 ⟨rfl, b1⟩)
  go_ret
  exact ⟨rfl, b1⟩
end Go.Proofs.YtebnonpdaddniaaGreatDoor
/-
  The model's l3Write and WriteData: the text of data; nothing that was there is turned.
-/
namespace Go.Proofs.YtebnonpdaddniaaGreatDoor
open Go.RowKit Go.Extern.Stop Go.Stop Go.Extern Num Go.Lib

theorem wr_num (g cap a : Nat) (l : List Dat) (w : World) (ha : a < l.length) (hR : RowD w g l) (hk : l[a].kind = 1) (hn : inB l[a].num = true) :
    Calls Tryz.prog 118 #[.slice (some ⟨g, 0, none⟩) l.length cap, .int .i64 (a : Int)] w fun e w' => e = .returned (S (itoa l[a].num)) ∧ Below w.heap.size w w' := by
  obtain ⟨c0, c1, c2, c3⟩ := hR a ha
  rw [hk] at c0
  generalize l[a].num = n at c2 hn ⊢
  have HD : Hid (∀ w, Calls Tryz.prog 79 #[.int .i64 n] w fun e w' => e = .returned (S (itoa n)) ∧ Below w.heap.size w w') := fun w => l1Digits_any n w hn
  clear hn hR hk
  go_enter Tryz.func118, Tryz.ntmps118
  go_wp2_with (go_at_call 79; refine (HD.out _).mono ?_; rintro e w1 ⟨rfl, hq⟩)
  go_ret
  exact ⟨rfl, hq⟩
theorem wr_no (g cap a : Nat) (l : List Dat) (w : World) (ha : a < l.length) (hR : RowD w g l) (hk : l[a].kind = 2) (hn : l[a].num = 0) :
    Calls Tryz.prog 118 #[.slice (some ⟨g, 0, none⟩) l.length cap, .int .i64 (a : Int)] w fun e w' => e = .returned (.string ⟨#[35, 102]⟩) ∧ Below w.heap.size w w' := by
  obtain ⟨c0, c1, c2, c3⟩ := hR a ha
  rw [hk] at c0
  rw [hn] at c2
  have hb : g < w.heap.size := lt_of_cell c0
  clear hn hR hk
  go_enter Tryz.func118, Tryz.ntmps118
  go_wp2
  go_ret
  exact ⟨rfl, (Below.refl _ _).alloc (Nat.le_refl _) _⟩
theorem wr_yes (g cap a : Nat) (l : List Dat) (w : World) (ha : a < l.length) (hR : RowD w g l) (hk : l[a].kind = 2) (hn : l[a].num = 1) :
    Calls Tryz.prog 118 #[.slice (some ⟨g, 0, none⟩) l.length cap, .int .i64 (a : Int)] w fun e w' => e = .returned (.string ⟨#[35, 116]⟩) ∧ Below w.heap.size w w' := by
  obtain ⟨c0, c1, c2, c3⟩ := hR a ha
  rw [hk] at c0
  rw [hn] at c2
  have hb : g < w.heap.size := lt_of_cell c0
  clear hn hR hk
  go_enter Tryz.func118, Tryz.ntmps118
  go_wp2
  go_ret
  exact ⟨rfl, (Below.refl _ _).alloc (Nat.le_refl _) _⟩
theorem wr_sym (g cap a : Nat) (l : List Dat) (w : World) (ha : a < l.length) (hR : RowD w g l) (hk : l[a].kind = 3) :
    Calls Tryz.prog 118 #[.slice (some ⟨g, 0, none⟩) l.length cap, .int .i64 (a : Int)] w fun e w' => e = .returned (.string l[a].name) ∧ Below w.heap.size w w' := by
  obtain ⟨c0, c1, c2, c3⟩ := hR a ha
  rw [hk] at c0
  clear hR hk
  go_enter Tryz.func118, Tryz.ntmps118
  go_wp2
  go_ret
  exact ⟨rfl, Below.refl _ _⟩
set_option maxRecDepth 100000 in
set_option maxHeartbeats 2000000 in
theorem wr_list (g cap a : Nat) (l : List Dat) (L : List Int) (W : Nat → List UInt8) (w : World) (ha : a < l.length) (hR : RowD w g l) (hk : l[a].kind = 4) (hL : L.length ≤ 80)
    (hlen : (joinP W L).length ≤ 1600) (hlW : ∀ (k : Nat) (h : k < L.length), (W (L[k]).toNat).length ≤ 1600)
    (hP : Calls Tryz.prog 106 #[.slice (some ⟨g, 0, none⟩) l.length cap, .int .i64 (a : Int)] w fun e w' => ∃ q c, e = .returned (.slice (some ⟨q, 0, none⟩) L.length c) ∧ w'.ownsRow w.heap.size 2 1 (.slice (some ⟨q, 0, none⟩) L.length c) L.length (cellsI L) ∧ Below w.heap.size w w')
    (hW : ∀ (k : Nat) (h : k < L.length) (w' : World), RowD w' g l → Calls Tryz.prog 118 #[.slice (some ⟨g, 0, none⟩) l.length cap, .int .i64 L[k]] w' fun e w'' => e = .returned (S (W (L[k]).toNat)) ∧ Below w'.heap.size w' w'') :
    Calls Tryz.prog 118 #[.slice (some ⟨g, 0, none⟩) l.length cap, .int .i64 (a : Int)] w fun e w' => e = .returned (S ([40] ++ joinP W L ++ [41])) ∧ Below w.heap.size w w' := by
  have HR : Hid (RowD w g l) := hR
  obtain ⟨c0, c1, c2, c3⟩ := hR a ha
  rw [hk] at c0
  have HP : Hid (Calls Tryz.prog 106 #[.slice (some ⟨g, 0, none⟩) l.length cap, .int .i64 (a : Int)] w fun e w' => ∃ q c, e = .returned (.slice (some ⟨q, 0, none⟩) L.length c) ∧ w'.ownsRow w.heap.size 2 1 (.slice (some ⟨q, 0, none⟩) L.length c) L.length (cellsI L) ∧ Below w.heap.size w w') := hP
  have HW : Hid (∀ (k : Nat) (h : k < L.length) (w' : World), RowD w' g l → Calls Tryz.prog 118 #[.slice (some ⟨g, 0, none⟩) l.length cap, .int .i64 L[k]] w' fun e w'' => e = .returned (S (W (L[k]).toNat)) ∧ Below w'.heap.size w' w'') := hW
  have HL : Hid ((joinP W L).length ≤ 1600) := hlen
  have HV : Hid (∀ (k : Nat) (h : k < L.length), (W (L[k]).toNat).length ≤ 1600) := hlW
  clear hP hW hlen hlW hR hk
  obtain ⟨T, hT⟩ : ∃ T : Nat → ByteArray, ∀ k, T k = ⟨([40] ++ joinP W (L.take k)).toArray⟩ := ⟨_, fun _ => rfl⟩
  have HT : Hid (∀ k, T k = ⟨([40] ++ joinP W (L.take k)).toArray⟩) := hT
  obtain ⟨R, hRR⟩ : ∃ R : ByteArray, R = ⟨([40] ++ joinP W L ++ [41]).toArray⟩ := ⟨_, rfl⟩
  have HRR : Hid (R = ⟨([40] ++ joinP W L ++ [41]).toArray⟩) := hRR
  have hT0 : (⟨#[40]⟩ : ByteArray) = T 0 := by rw [hT]; simp [joinP_nil]
  show Calls _ _ _ w fun e w' => e = .returned (.string ⟨([40] ++ joinP W L ++ [41]).toArray⟩) ∧ Below w.heap.size w w'
  rw [← hRR]
  clear hT hRR
  have HT0 : Hid ((⟨#[40]⟩ : ByteArray) = T 0) := hT0
  clear hT0
  go_enter Tryz.func118, Tryz.ntmps118
  go_wp2_with fail
  refine HP.out.mono ?_
  rintro e w1 ⟨q, c, rfl, hown, hb⟩
  have HO : Hid (w1.ownsRow w.heap.size 2 1 (.slice (some ⟨q, 0, none⟩) L.length c) L.length (cellsI L)) := hown
  have HB : Hid (Below w.heap.size w w1) := hb
  clear hown hb
  go_wp2_with fail
  go_loopw [6, 8] (fun v i wr => ∃ k : Nat, k ≤ L.length ∧ i = .int .i64 (k : Int) ∧ v = .string (T k) ∧ Hid (Below w1.heap.size w1 wr)) (fun _ i _ => L.length - (RowKit.intOf i).toNat)
  case atStart => exact ⟨0, Nat.zero_le _, rfl, by rw [HT0.out], Below.refl _ _⟩
  case round =>
    obtain ⟨k, hk, rfl, rfl, HX⟩ := hrel
    have hs0 : (joinP W (L.take k)).length ≤ 1600 := Nat.le_trans (joinP_take_len W L k hk) HL.out
    have hsT : (T k).size ≤ 1601 := by rw [HT.out]; simp [ByteArray.size]; omega
    by_cases hlt : k < L.length
    · have HRr : Hid (RowD wr g l) := (HR.out.below HB.out).below HX.out
      obtain ⟨U, hU⟩ : ∃ U : ByteArray, U = ⟨(W (L[k]'hlt).toNat).toArray⟩ := ⟨_, rfl⟩
      have hs1 := HV.out k hlt
      have hsU : U.size ≤ 1600 := by rw [hU]; simp [ByteArray.size]; omega
      have HQ : Hid (Calls Tryz.prog 118 #[.slice (some ⟨g, 0, none⟩) l.length cap, .int .i64 (L[k]'hlt)] wr fun e w'' => e = .returned (.string U) ∧ Below wr.heap.size wr w'') := by
        rw [hU]; exact HW.out k hlt wr HRr.out
      have hcI : wr.cell? ⟨q, k, none⟩ = some (.int .i64 (L[k]'hlt)) := rowI_at (own_below HO.out HX.out) k hlt
      by_cases h0 : 0 < (k : Int)
      · have ha1 := fun (w : World) => run_string_add_sum (P := Tryz.prog) w (T k) ⟨#[32]⟩ (by have : (⟨#[32]⟩ : ByteArray).size = 1 := rfl; omega)
        have ha2 := fun (w : World) => run_string_add_sum (P := Tryz.prog) w (T k ++ ⟨#[32]⟩) U (by have : (⟨#[32]⟩ : ByteArray).size = 1 := rfl; rw [ByteArray.size_append]; omega)
        have HJ : Hid (T k ++ ⟨#[32]⟩ ++ U = T (k + 1)) := by
          show _ = _
          rw [HT.out, HT.out, hU, joinP_take W L k hlt (by omega)]
          apply ByteArray.ext
          simp
        clear hs0 hs1 hsT hsU hU
        go_wp2_with (go_at_call 118; refine HQ.out.mono ?_; rintro e w2 ⟨rfl, hq⟩)
        exact ⟨⟨k + 1, by omega, by go_num, by rw [HJ.out], HX.out.trans (hq.mono HX.out.size)⟩, by simp [RowKit.intOf]; omega⟩
      · have ha2 := fun (w : World) => run_string_add_sum (P := Tryz.prog) w (T k) U (by omega)
        have HJ : Hid (T k ++ U = T (k + 1)) := by
          show _ = _
          have hk0 : k = 0 := by omega
          subst hk0
          rw [HT.out, HT.out, hU, joinP_take0 W L hlt]
          apply ByteArray.ext
          simp
        clear hs0 hs1 hsT hsU hU
        go_wp2_with (go_at_call 118; refine HQ.out.mono ?_; rintro e w2 ⟨rfl, hq⟩)
        exact ⟨⟨k + 1, by omega, by go_num, by rw [HJ.out], HX.out.trans (hq.mono HX.out.size)⟩, by simp [RowKit.intOf]; omega⟩
    · have ha2 := fun (w : World) => run_string_add_sum (P := Tryz.prog) w (T k) ⟨#[41]⟩ (by have : (⟨#[41]⟩ : ByteArray).size = 1 := rfl; omega)
      have HJ : Hid (T k ++ ⟨#[41]⟩ = R) := by
        show _ = _
        have hkl : k = L.length := by omega
        rw [HT.out, HRR.out, hkl, List.take_length]
        apply ByteArray.ext
        simp
      clear hs0 hsT
      go_wp2
      go_ret
      rw [HJ.out]
      exact ⟨rfl, HB.out.trans (HX.out.mono HB.out.size)⟩
theorem cell_parts {l : List Dat} (F : Fine l) (a : Nat) (k : Nat) (h : k < (partsD l (a : Int)).length) : ∃ j : Nat, (partsD l (a : Int))[k] = (j : Int) ∧ j < l.length ∧ a < j := by
  obtain ⟨j, h1, h2, h3⟩ := (parts_mem l (a : Int) _).1 (List.getElem_mem h)
  exact ⟨j, h1, h2, F.parlt h2 h3⟩
/-- The text of the datum at a place. -/
theorem l3Write_any (g cap : Nat) (l : List Dat) (F : Fine l) : ∀ (f a : Nat) (w : World), a < l.length → l.length ≤ a + f → RowD w g l →
    Calls Tryz.prog 118 #[.slice (some ⟨g, 0, none⟩) l.length cap, .int .i64 (a : Int)] w fun e w' => e = .returned (S (writeF l f a)) ∧ Below w.heap.size w w' := by
  intro f
  induction f with
  | zero => intro a w h1 h2; omega
  | succ f ih =>
    intro a w ha hf hR
    have hs : ∀ z : ByteArray, S z.data.toList = .string z := fun z => by simp [S]
    rcases F.kinds a ha with ⟨h1, h2, _⟩ | ⟨h1, h2, _⟩ | ⟨h1, _, h2⟩ | ⟨h1, _⟩
    · rw [write_leaf l f a ha (by omega)]
      have e : leafT l[a] = itoa l[a].num := by simp [leafT, h1]
      rw [e]; exact wr_num g cap a l w ha hR h1 h2
    · rw [write_leaf l f a ha (by omega)]
      rcases h2 with h2 | h2
      · have e : leafT l[a] = [35, 102] := by simp [leafT, h1, h2]
        rw [e]; exact wr_no g cap a l w ha hR h1 h2
      · have e : leafT l[a] = [35, 116] := by simp [leafT, h1, h2]
        rw [e]; exact wr_yes g cap a l w ha hR h1 h2
    · rw [write_leaf l f a ha (by omega)]
      have e : leafT l[a] = l[a].name.data.toList := by simp [leafT, h1]
      rw [e, hs]; exact wr_sym g cap a l w ha hR h1
    · rw [write_list l f a ha h1]
      have h80 := F.len
      refine wr_list g cap a l (partsD l (a : Int)) (writeF l f) w ha hR h1 (Nat.le_trans (partsTo_len l _ _) h80) ?_ ?_ (l3Parts_any g cap l (a : Int) w hR (by omega)) ?_
      · have := write_small F (f + 1) a ha
        rw [write_list l f a ha h1] at this
        simp at this
        omega
      · intro k h
        obtain ⟨j, e, hj, _⟩ := cell_parts F a k h
        rw [e]; exact write_small F f j hj
      · intro k h w' hR'
        obtain ⟨j, e, hj, haj⟩ := cell_parts F a k h
        rw [e]
        exact ih j w' hj (by omega) hR'
/-- What WriteData answers. -/
def writeD (l : List Dat) : List UInt8 := writeF l l.length 0
def WD (l : List Dat) : Value := if dataFault l = 0 then (if 400 < (writeD l).length then .agg #[.int .i64 2, .string ⟨#[]⟩] else .agg #[.int .i64 0, S (writeD l)]) else .agg #[.int .i64 (dataFault l), .string ⟨#[]⟩]
end Go.Proofs.YtebnonpdaddniaaGreatDoor
/-
  The model's l4Text and CoreText: the text of cores; nothing that was there is turned.
-/
namespace Go.Proofs.YtebnonpdaddniaaGreatDoor
open Go.RowKit Go.Extern.Stop Go.Stop Go.Extern Num Go.Lib

theorem leafC {N : List (Cor × Value)} {l : List Cor} (F : FineC N l) (f a : Nat) (ha : a < l.length) (hk : mostK l[a].kind = 0) : writeC l (f + 1) a = wordC l[a] := by
  have hm := F.many a ha
  rw [kdC_at l a ha] at hm
  unfold manyK at hm
  simp only [Bool.and_eq_true, decide_eq_true_eq] at hm
  have h0 : kidsD l (a : Int) = [] := List.eq_nil_of_length_eq_zero (by rw [kidsD_len]; omega)
  simp [writeC, h0, wordAt, tailAt, ha, kdC_at l a ha, hk]
theorem listC {l : List Cor} (f a : Nat) (ha : a < l.length) (hk : 0 < mostK l[a].kind) : writeC l (f + 1) a = wordC l[a] ++ ((kidsD l (a : Int)).flatMap fun p : Int => 32 :: writeC l f p.toNat) ++ [41] := by
  simp [writeC, wordAt, tailAt, ha, kdC_at l a ha, hk]
theorem flat_take {L : List Int} (g : Int → List UInt8) (k : Nat) (h : k < L.length) : (L.take (k + 1)).flatMap g = (L.take k).flatMap g ++ g L[k] := by
  rw [ints_next L k h, List.flatMap_append]; simp
theorem flat_take_len {L : List Int} (g : Int → List UInt8) : ∀ k, ((L.take k).flatMap g).length ≤ (L.flatMap g).length := fun k => by
  conv => rhs; rw [← List.take_append_drop k L, List.flatMap_append, List.length_append]
  omega
set_option maxRecDepth 100000 in
set_option maxHeartbeats 2000000 in
theorem txt_1 (B g cap i : Nat) (l : List Cor) (w : World) (hi : i < l.length) (hR : RowC w B g l) (hk : l[i].kind = 1) (hf : dataFault l[i].data = 0) :
    Calls Tryz.prog 70 #[.slice (some ⟨g, 0, none⟩) l.length cap, .int .i64 (i : Int)] w fun e w' => e = .returned (.string ⟨(wordC l[i]).toArray⟩) ∧ Below w.heap.size w w' := by
  obtain ⟨c0, -, -, -, -, gk, c5, hrow⟩ := hR i hi
  rw [hk] at c0
  have F := fine_of hf
  obtain ⟨x, hx⟩ : ∃ x : ByteArray, x = ⟨(wordC l[i]).toArray⟩ := ⟨_, rfl⟩
  obtain ⟨y, hy⟩ : ∃ y : ByteArray, y = ⟨(writeF l[i].data l[i].data.length 0).toArray⟩ := ⟨_, rfl⟩
  rw [← hx]
  have HW : Hid (Calls Tryz.prog 118 #[.slice (some ⟨gk, 0, none⟩) l[i].data.length l[i].data.length, .int .i64 0] w fun e w' => e = .returned (.string y) ∧ Below w.heap.size w w') := by
    rw [hy]; exact l3Write_any gk _ _ F _ 0 w F.pos (by omega) (RowD.of hrow)
  have ha : ∀ u, (Op.stringOp .add ⟨#[39]⟩ y).run Tryz.prog u = .ok (.string x) u := fun u => by
    have hl := write_small F l[i].data.length 0 F.pos
    have := str_add [39] (writeF l[i].data l[i].data.length 0) (by simp; omega) u
    rw [hx, hy]
    simpa [wordC, hk] using this
  clear hx hy hrow hR hk hf F
  go_enter Tryz.func70, Tryz.ntmps70
  go_wp2_with (go_at_call 118; refine HW.out.mono ?_; rintro e w1 ⟨rfl, b1⟩)
  go_ret
  exact ⟨rfl, b1⟩
set_option maxRecDepth 100000 in
set_option maxHeartbeats 2000000 in
theorem txt_3 (B g cap i : Nat) (l : List Cor) (w : World) (hi : i < l.length) (hR : RowC w B g l) (hk : l[i].kind = 3) :
    Calls Tryz.prog 70 #[.slice (some ⟨g, 0, none⟩) l.length cap, .int .i64 (i : Int)] w fun e w' => e = .returned (.string ⟨(wordC l[i]).toArray⟩) ∧ Below w.heap.size w w' := by
  obtain ⟨c0, -, -, -, c4, -⟩ := hR i hi
  rw [hk] at c0
  have e1 : (⟨(wordC l[i]).toArray⟩ : ByteArray) = l[i].name := by simp [wordC, hk]
  rw [e1]
  clear e1 hk hR
  go_enter Tryz.func70, Tryz.ntmps70
  go_wp2
  go_ret
  exact ⟨rfl, Below.refl _ _⟩
set_option maxRecDepth 100000 in
set_option maxHeartbeats 2000000 in
theorem txt_2 (B g cap i : Nat) (l : List Cor) (w : World) (hi : i < l.length) (hR : RowC w B g l) (hk : l[i].kind = 2) (ha : inB l[i].a = true) (hb : inB l[i].b = true) :
    Calls Tryz.prog 70 #[.slice (some ⟨g, 0, none⟩) l.length cap, .int .i64 (i : Int)] w fun e w' => e = .returned (.string ⟨(wordC l[i]).toArray⟩) ∧ Below w.heap.size w w' := by
  obtain ⟨c0, -, c2, c3, -⟩ := hR i hi
  rw [hk] at c0
  obtain ⟨t, ht⟩ : ∃ t, t = l[i]'hi := ⟨_, rfl⟩
  rw [← ht] at c2 c3 hk ha hb ⊢
  obtain ⟨na, hna⟩ : ∃ n, n = t.a := ⟨_, rfl⟩
  obtain ⟨nb, hnb⟩ : ∃ n, n = t.b := ⟨_, rfl⟩
  rw [← hna] at c2 ha
  rw [← hnb] at c3 hb
  obtain ⟨x4, hx⟩ : ∃ x : ByteArray, x = ⟨(wordC t).toArray⟩ := ⟨_, rfl⟩
  obtain ⟨y, hy⟩ : ∃ y : ByteArray, y = ⟨(itoa na).toArray⟩ := ⟨_, rfl⟩
  obtain ⟨v, hv⟩ : ∃ y : ByteArray, y = ⟨(itoa nb).toArray⟩ := ⟨_, rfl⟩
  obtain ⟨x2, hx2⟩ : ∃ y : ByteArray, y = ⟨(37 :: itoa na).toArray⟩ := ⟨_, rfl⟩
  obtain ⟨x3, hx3⟩ : ∃ y : ByteArray, y = ⟨((37 :: itoa na) ++ [46]).toArray⟩ := ⟨_, rfl⟩
  rw [← hx]
  have hla := itoa_len na ha
  have hlb := itoa_len nb hb
  have HF : Hid (∀ p : BW w, Calls Tryz.prog 79 #[.int .i64 na] p.x fun e w' => e = .returned (.string y) ∧ Below p.x.heap.size p.x w') := fun p => by rw [hy]; exact l1Digits_any na _ ha
  have HG : Hid (∀ p : BW w, Calls Tryz.prog 79 #[.int .i64 nb] p.x fun e w' => e = .returned (.string v) ∧ Below p.x.heap.size p.x w') := fun p => by rw [hv]; exact l1Digits_any nb _ hb
  have h1 : ∀ u, (Op.stringOp .add ⟨#[37]⟩ y).run Tryz.prog u = .ok (.string x2) u := fun u => by rw [hy, hx2]; exact str_add [37] (itoa na) (by simp; omega) u
  have h2 : ∀ u, (Op.stringOp .add x2 ⟨#[46]⟩).run Tryz.prog u = .ok (.string x3) u := fun u => by rw [hx2, hx3]; exact str_add (37 :: itoa na) [46] (by simp; omega) u
  have h3 : ∀ u, (Op.stringOp .add x3 v).run Tryz.prog u = .ok (.string x4) u := fun u => by
    have := str_add ((37 :: itoa na) ++ [46]) (itoa nb) (by simp; omega) u
    rw [hx3, hv, hx]
    simpa [wordC, hk, ← hna, ← hnb] using this
  have q2 : ∀ p : BW w, p.x.cell? ⟨g, i * 6 + 2, none⟩ = some (.int .i64 na) := fun p => p.cell c2
  have q3 : ∀ p : BW w, p.x.cell? ⟨g, i * 6 + 3, none⟩ = some (.int .i64 nb) := fun p => p.cell c3
  have hne := bw_some w
  clear hx hy hv hx2 hx3 ha hb hla hlb ht hk hR hna hnb
  go_enter Tryz.func70, Tryz.ntmps70
  go_wp2_with fail
  refine wp_region_below (by kernel_rfl) (by kernel_rfl) ?_
  iterate 4 (go_big_quiet_step (fail))
  go_big_quiet_step ((go_at_call 79; exact calls_bw (HF.out _)))
  iterate 6 (go_big_quiet_step (fail))
  go_big_quiet_step ((go_at_call 79; exact calls_bw (HG.out _)))
  repeat (go_big_quiet_step (fail))
  refine wpQuiet_nil ?_
  intro wq hw'
  obtain ⟨⟨_, bq⟩, rfl⟩ := hw'
  have HB : Hid (Below w.heap.size w wq) := bq
  clear bq
  go_wp2
  go_ret
  exact ⟨rfl, HB.out⟩
set_option maxRecDepth 100000 in
set_option maxHeartbeats 2000000 in
theorem txt_4 (B g cap i : Nat) (l : List Cor) (w : World) (hi : i < l.length) (hR : RowC w B g l) (hk : l[i].kind = 4) (L : List Int) (W : Nat → List UInt8) (hL : L.length ≤ 160) (hlen : (L.flatMap fun p : Int => 32 :: W p.toNat).length ≤ 272000) (hw : (wordC l[i]).length ≤ 1650)
    (hP : ∀ u, Below w.heap.size w u → Calls Tryz.prog 93 #[.slice (some ⟨g, 0, none⟩) l.length cap, .int .i64 (i : Int)] u fun e w' => ∃ q c, e = .returned (.slice (some ⟨q, 0, none⟩) L.length c) ∧ w'.ownsRow u.heap.size 2 1 (.slice (some ⟨q, 0, none⟩) L.length c) L.length (cellsI L) ∧ Below u.heap.size u w')
    (hW : ∀ (k : Nat) (h : k < L.length) (w' : World), RowC w' B g l → Calls Tryz.prog 70 #[.slice (some ⟨g, 0, none⟩) l.length cap, .int .i64 L[k]] w' fun e w'' => e = .returned (.string ⟨(W (L[k]).toNat).toArray⟩) ∧ Below w'.heap.size w' w'') :
    Calls Tryz.prog 70 #[.slice (some ⟨g, 0, none⟩) l.length cap, .int .i64 (i : Int)] w fun e w' => e = .returned (.string ⟨(wordC l[i] ++ (L.flatMap fun p : Int => 32 :: W p.toNat) ++ [41]).toArray⟩) ∧ Below w.heap.size w w' := by
  have HR : Hid (RowC w B g l) := hR
  obtain ⟨c0, -, c2, -, c4, -⟩ := hR i hi
  rw [hk] at c0
  have HP : Hid (∀ u, Below w.heap.size w u → Calls Tryz.prog 93 #[.slice (some ⟨g, 0, none⟩) l.length cap, .int .i64 (i : Int)] u fun e w' => ∃ q c, e = .returned (.slice (some ⟨q, 0, none⟩) L.length c) ∧ w'.ownsRow u.heap.size 2 1 (.slice (some ⟨q, 0, none⟩) L.length c) L.length (cellsI L) ∧ Below u.heap.size u w') := hP
  have HW : Hid (∀ (k : Nat) (h : k < L.length) (w' : World), RowC w' B g l → Calls Tryz.prog 70 #[.slice (some ⟨g, 0, none⟩) l.length cap, .int .i64 L[k]] w' fun e w'' => e = .returned (.string ⟨(W (L[k]).toNat).toArray⟩) ∧ Below w'.heap.size w' w'') := hW
  have HL : Hid ((L.flatMap fun p : Int => 32 :: W p.toNat).length ≤ 272000) := hlen
  have HWd : Hid ((wordC l[i]).length ≤ 1650) := hw
  obtain ⟨hd, hhd⟩ : ∃ hd, hd = wordC l[i] := ⟨_, rfl⟩
  obtain ⟨z, hze⟩ : ∃ z, z = l[i].name := ⟨_, rfl⟩
  obtain ⟨n, hne⟩ : ∃ n, n = l[i].a := ⟨_, rfl⟩
  rw [← hhd] at HWd ⊢
  rw [← hze] at c4
  rw [← hne] at c2
  have HH : Hid ((⟨#[40, 105, 102]⟩ : ByteArray) = ⟨hd.toArray⟩) := by show _ = _; rw [hhd]; simp [wordC, hk]
  clear hP hW hlen hR hk hw hhd hze hne
  obtain ⟨T, hT⟩ : ∃ T : Nat → ByteArray, ∀ k, T k = ⟨(hd ++ (L.take k).flatMap fun p : Int => 32 :: W p.toNat).toArray⟩ := ⟨_, fun _ => rfl⟩
  have HT : Hid (∀ k, T k = ⟨(hd ++ (L.take k).flatMap fun p : Int => 32 :: W p.toNat).toArray⟩) := hT
  obtain ⟨R, hRR⟩ : ∃ R : ByteArray, R = ⟨(hd ++ (L.flatMap fun p : Int => 32 :: W p.toNat) ++ [41]).toArray⟩ := ⟨_, rfl⟩
  have HRR : Hid (R = ⟨(hd ++ (L.flatMap fun p : Int => 32 :: W p.toNat) ++ [41]).toArray⟩) := hRR
  have HT0 : Hid ((⟨hd.toArray⟩ : ByteArray) = T 0) := by show _ = _; rw [hT]; simp
  rw [← hRR]
  clear hT hRR
  have HH0 : Hid ((⟨#[40, 105, 102]⟩ : ByteArray) = T 0) := HH.out.trans HT0.out
  go_enter Tryz.func70, Tryz.ntmps70
  go_wp2_with fail
  refine (HP.out _ (Below.refl _ _)).mono ?_
  rintro e w1 ⟨q, c, rfl, hown, hb⟩
  have HO : Hid (w1.ownsRow w.heap.size 2 1 (.slice (some ⟨q, 0, none⟩) L.length c) L.length (cellsI L)) := hown
  have HB : Hid (Below w.heap.size w w1) := hb
  clear hown hb
  go_wp2_with fail
  go_loopw [6, 8] (fun v i wr => ∃ k : Nat, k ≤ L.length ∧ i = .int .i64 (k : Int) ∧ v = .string (T k) ∧ Hid (Below w1.heap.size w1 wr)) (fun _ i _ => L.length - (RowKit.intOf i).toNat)
  case atStart => exact ⟨0, Nat.zero_le _, rfl, by rw [HH0.out], Below.refl _ _⟩
  case round =>
    obtain ⟨k, hk, rfl, rfl, HX⟩ := hrel
    have hs0 : ((L.take k).flatMap fun p : Int => 32 :: W p.toNat).length ≤ 272000 := Nat.le_trans (flat_take_len _ k) HL.out
    have hsT : (T k).size ≤ 273650 := by rw [HT.out]; have := HWd.out; simp [ByteArray.size] at hs0 ⊢; omega
    by_cases hlt : k < L.length
    · have HRr : Hid (RowC wr B g l) := (HR.out.below HB.out).below HX.out
      obtain ⟨U, hU⟩ : ∃ U : ByteArray, U = ⟨(W (L[k]'hlt).toNat).toArray⟩ := ⟨_, rfl⟩
      have hs1 : (W (L[k]'hlt).toNat).length ≤ 272000 := by
        have h1 := flat_take (L := L) (fun p : Int => 32 :: W p.toNat) k hlt
        have h2 := Nat.le_trans (flat_take_len (L := L) (fun p : Int => 32 :: W p.toNat) (k + 1)) HL.out
        rw [h1, List.length_append] at h2
        simp only [List.length_cons] at h2
        omega
      have hsU : U.size ≤ 272000 := by rw [hU]; simp [ByteArray.size]; omega
      have HQ : Hid (Calls Tryz.prog 70 #[.slice (some ⟨g, 0, none⟩) l.length cap, .int .i64 (L[k]'hlt)] wr fun e w'' => e = .returned (.string U) ∧ Below wr.heap.size wr w'') := by
        rw [hU]; exact HW.out k hlt wr HRr.out
      have hcI : wr.cell? ⟨q, k, none⟩ = some (.int .i64 (L[k]'hlt)) := rowI_at (own_below HO.out HX.out) k hlt
      have ha1 := fun (w : World) => run_string_add_sum (P := Tryz.prog) w (T k) ⟨#[32]⟩ (by have : (⟨#[32]⟩ : ByteArray).size = 1 := rfl; omega)
      have ha2 := fun (w : World) => run_string_add_sum (P := Tryz.prog) w (T k ++ ⟨#[32]⟩) U (by have : (⟨#[32]⟩ : ByteArray).size = 1 := rfl; rw [ByteArray.size_append]; omega)
      have HJ : Hid (T k ++ ⟨#[32]⟩ ++ U = T (k + 1)) := by
        show _ = _
        rw [HT.out, HT.out, hU, flat_take (fun p : Int => 32 :: W p.toNat) k hlt]
        apply ByteArray.ext
        simp
      clear hs0 hs1 hsT hsU hU
      go_wp2_with (go_at_call 70; refine HQ.out.mono ?_; rintro e w2 ⟨rfl, hq⟩)
      exact ⟨⟨k + 1, by omega, by go_num, by rw [HJ.out], HX.out.trans (hq.mono HX.out.size)⟩, by simp [RowKit.intOf]; omega⟩
    · have ha2 := fun (w : World) => run_string_add_sum (P := Tryz.prog) w (T k) ⟨#[41]⟩ (by have : (⟨#[41]⟩ : ByteArray).size = 1 := rfl; omega)
      have HJ : Hid (T k ++ ⟨#[41]⟩ = R) := by
        show _ = _
        have hkl : k = L.length := by omega
        rw [HT.out, HRR.out, hkl, List.take_length]
        apply ByteArray.ext
        simp
      clear hs0 hsT
      go_wp2
      go_ret
      rw [HJ.out]
      exact ⟨rfl, HB.out.trans (HX.out.mono HB.out.size)⟩
set_option maxRecDepth 100000 in
set_option maxHeartbeats 2000000 in
theorem txt_5 (B g cap i : Nat) (l : List Cor) (w : World) (hi : i < l.length) (hR : RowC w B g l) (hk : l[i].kind = 5) (ha : inB l[i].a = true) (L : List Int) (W : Nat → List UInt8) (hL : L.length ≤ 160) (hlen : (L.flatMap fun p : Int => 32 :: W p.toNat).length ≤ 272000) (hw : (wordC l[i]).length ≤ 1650)
    (hP : ∀ u, Below w.heap.size w u → Calls Tryz.prog 93 #[.slice (some ⟨g, 0, none⟩) l.length cap, .int .i64 (i : Int)] u fun e w' => ∃ q c, e = .returned (.slice (some ⟨q, 0, none⟩) L.length c) ∧ w'.ownsRow u.heap.size 2 1 (.slice (some ⟨q, 0, none⟩) L.length c) L.length (cellsI L) ∧ Below u.heap.size u w')
    (hW : ∀ (k : Nat) (h : k < L.length) (w' : World), RowC w' B g l → Calls Tryz.prog 70 #[.slice (some ⟨g, 0, none⟩) l.length cap, .int .i64 L[k]] w' fun e w'' => e = .returned (.string ⟨(W (L[k]).toNat).toArray⟩) ∧ Below w'.heap.size w' w'') :
    Calls Tryz.prog 70 #[.slice (some ⟨g, 0, none⟩) l.length cap, .int .i64 (i : Int)] w fun e w' => e = .returned (.string ⟨(wordC l[i] ++ (L.flatMap fun p : Int => 32 :: W p.toNat) ++ [41]).toArray⟩) ∧ Below w.heap.size w w' := by
  have HR : Hid (RowC w B g l) := hR
  obtain ⟨c0, -, c2, -, c4, -⟩ := hR i hi
  rw [hk] at c0
  have HP : Hid (∀ u, Below w.heap.size w u → Calls Tryz.prog 93 #[.slice (some ⟨g, 0, none⟩) l.length cap, .int .i64 (i : Int)] u fun e w' => ∃ q c, e = .returned (.slice (some ⟨q, 0, none⟩) L.length c) ∧ w'.ownsRow u.heap.size 2 1 (.slice (some ⟨q, 0, none⟩) L.length c) L.length (cellsI L) ∧ Below u.heap.size u w') := hP
  have HW : Hid (∀ (k : Nat) (h : k < L.length) (w' : World), RowC w' B g l → Calls Tryz.prog 70 #[.slice (some ⟨g, 0, none⟩) l.length cap, .int .i64 L[k]] w' fun e w'' => e = .returned (.string ⟨(W (L[k]).toNat).toArray⟩) ∧ Below w'.heap.size w' w'') := hW
  have HL : Hid ((L.flatMap fun p : Int => 32 :: W p.toNat).length ≤ 272000) := hlen
  have HWd : Hid ((wordC l[i]).length ≤ 1650) := hw
  obtain ⟨hd, hhd⟩ : ∃ hd, hd = wordC l[i] := ⟨_, rfl⟩
  obtain ⟨z, hze⟩ : ∃ z, z = l[i].name := ⟨_, rfl⟩
  obtain ⟨n, hne⟩ : ∃ n, n = l[i].a := ⟨_, rfl⟩
  rw [← hhd] at HWd ⊢
  rw [← hze] at c4
  rw [← hne] at c2
  obtain ⟨y, hy⟩ : ∃ y : ByteArray, y = ⟨(itoa n).toArray⟩ := ⟨_, rfl⟩
  have HDg : Hid (∀ u, Calls Tryz.prog 79 #[.int .i64 n] u fun e w' => e = .returned (.string y) ∧ Below u.heap.size u w') := fun u => by rw [hy]; exact l1Digits_any n u (by rw [hne]; exact ha)
  have hadd : ∀ u, (Op.stringOp .add ⟨#[40, 102, 110, 32]⟩ y).run Tryz.prog u = .ok (.string ⟨hd.toArray⟩) u := fun u => by
    have hl := itoa_len n (by rw [hne]; exact ha)
    have := str_add [40, 102, 110, 32] (itoa n) (by simp; omega) u
    rw [hy, hhd]
    simpa [wordC, hk, hne] using this
  clear ha hy
  clear hP hW hlen hR hk hw hhd hze hne
  obtain ⟨T, hT⟩ : ∃ T : Nat → ByteArray, ∀ k, T k = ⟨(hd ++ (L.take k).flatMap fun p : Int => 32 :: W p.toNat).toArray⟩ := ⟨_, fun _ => rfl⟩
  have HT : Hid (∀ k, T k = ⟨(hd ++ (L.take k).flatMap fun p : Int => 32 :: W p.toNat).toArray⟩) := hT
  obtain ⟨R, hRR⟩ : ∃ R : ByteArray, R = ⟨(hd ++ (L.flatMap fun p : Int => 32 :: W p.toNat) ++ [41]).toArray⟩ := ⟨_, rfl⟩
  have HRR : Hid (R = ⟨(hd ++ (L.flatMap fun p : Int => 32 :: W p.toNat) ++ [41]).toArray⟩) := hRR
  have HT0 : Hid ((⟨hd.toArray⟩ : ByteArray) = T 0) := by show _ = _; rw [hT]; simp
  rw [← hRR]
  clear hT hRR
  rw [HT0.out] at hadd
  go_enter Tryz.func70, Tryz.ntmps70
  go_wp2_with (go_at_call 79; refine (HDg.out _).mono ?_; rintro e w0 ⟨rfl, b0⟩)
  refine (HP.out _ b0).mono ?_
  rintro e w1 ⟨q, c, rfl, hown, hb⟩
  have HO : Hid (w1.ownsRow w0.heap.size 2 1 (.slice (some ⟨q, 0, none⟩) L.length c) L.length (cellsI L)) := hown
  have HB : Hid (Below w.heap.size w w1) := b0.trans (hb.mono b0.size)
  clear hown hb
  go_wp2_with fail
  go_loopw [6, 8] (fun v i wr => ∃ k : Nat, k ≤ L.length ∧ i = .int .i64 (k : Int) ∧ v = .string (T k) ∧ Hid (Below w1.heap.size w1 wr)) (fun _ i _ => L.length - (RowKit.intOf i).toNat)
  case atStart => exact ⟨0, Nat.zero_le _, rfl, rfl, Below.refl _ _⟩
  case round =>
    obtain ⟨k, hk, rfl, rfl, HX⟩ := hrel
    have hs0 : ((L.take k).flatMap fun p : Int => 32 :: W p.toNat).length ≤ 272000 := Nat.le_trans (flat_take_len _ k) HL.out
    have hsT : (T k).size ≤ 273650 := by rw [HT.out]; have := HWd.out; simp [ByteArray.size] at hs0 ⊢; omega
    by_cases hlt : k < L.length
    · have HRr : Hid (RowC wr B g l) := (HR.out.below HB.out).below HX.out
      obtain ⟨U, hU⟩ : ∃ U : ByteArray, U = ⟨(W (L[k]'hlt).toNat).toArray⟩ := ⟨_, rfl⟩
      have hs1 : (W (L[k]'hlt).toNat).length ≤ 272000 := by
        have h1 := flat_take (L := L) (fun p : Int => 32 :: W p.toNat) k hlt
        have h2 := Nat.le_trans (flat_take_len (L := L) (fun p : Int => 32 :: W p.toNat) (k + 1)) HL.out
        rw [h1, List.length_append] at h2
        simp only [List.length_cons] at h2
        omega
      have hsU : U.size ≤ 272000 := by rw [hU]; simp [ByteArray.size]; omega
      have HQ : Hid (Calls Tryz.prog 70 #[.slice (some ⟨g, 0, none⟩) l.length cap, .int .i64 (L[k]'hlt)] wr fun e w'' => e = .returned (.string U) ∧ Below wr.heap.size wr w'') := by
        rw [hU]; exact HW.out k hlt wr HRr.out
      have hcI : wr.cell? ⟨q, k, none⟩ = some (.int .i64 (L[k]'hlt)) := rowI_at (own_below HO.out HX.out) k hlt
      have ha1 := fun (w : World) => run_string_add_sum (P := Tryz.prog) w (T k) ⟨#[32]⟩ (by have : (⟨#[32]⟩ : ByteArray).size = 1 := rfl; omega)
      have ha2 := fun (w : World) => run_string_add_sum (P := Tryz.prog) w (T k ++ ⟨#[32]⟩) U (by have : (⟨#[32]⟩ : ByteArray).size = 1 := rfl; rw [ByteArray.size_append]; omega)
      have HJ : Hid (T k ++ ⟨#[32]⟩ ++ U = T (k + 1)) := by
        show _ = _
        rw [HT.out, HT.out, hU, flat_take (fun p : Int => 32 :: W p.toNat) k hlt]
        apply ByteArray.ext
        simp
      clear hs0 hs1 hsT hsU hU
      go_wp2_with (go_at_call 70; refine HQ.out.mono ?_; rintro e w2 ⟨rfl, hq⟩)
      exact ⟨⟨k + 1, by omega, by go_num, by rw [HJ.out], HX.out.trans (hq.mono HX.out.size)⟩, by simp [RowKit.intOf]; omega⟩
    · have ha2 := fun (w : World) => run_string_add_sum (P := Tryz.prog) w (T k) ⟨#[41]⟩ (by have : (⟨#[41]⟩ : ByteArray).size = 1 := rfl; omega)
      have HJ : Hid (T k ++ ⟨#[41]⟩ = R) := by
        show _ = _
        have hkl : k = L.length := by omega
        rw [HT.out, HRR.out, hkl, List.take_length]
        apply ByteArray.ext
        simp
      clear hs0 hsT
      go_wp2
      go_ret
      rw [HJ.out]
      exact ⟨rfl, HB.out.trans (HX.out.mono HB.out.size)⟩
set_option maxRecDepth 100000 in
set_option maxHeartbeats 2000000 in
theorem txt_6 (B g cap i : Nat) (l : List Cor) (w : World) (hi : i < l.length) (hR : RowC w B g l) (hk : l[i].kind = 6) (L : List Int) (W : Nat → List UInt8) (hL : L.length ≤ 160) (hlen : (L.flatMap fun p : Int => 32 :: W p.toNat).length ≤ 272000) (hw : (wordC l[i]).length ≤ 1650)
    (hP : ∀ u, Below w.heap.size w u → Calls Tryz.prog 93 #[.slice (some ⟨g, 0, none⟩) l.length cap, .int .i64 (i : Int)] u fun e w' => ∃ q c, e = .returned (.slice (some ⟨q, 0, none⟩) L.length c) ∧ w'.ownsRow u.heap.size 2 1 (.slice (some ⟨q, 0, none⟩) L.length c) L.length (cellsI L) ∧ Below u.heap.size u w')
    (hW : ∀ (k : Nat) (h : k < L.length) (w' : World), RowC w' B g l → Calls Tryz.prog 70 #[.slice (some ⟨g, 0, none⟩) l.length cap, .int .i64 L[k]] w' fun e w'' => e = .returned (.string ⟨(W (L[k]).toNat).toArray⟩) ∧ Below w'.heap.size w' w'') :
    Calls Tryz.prog 70 #[.slice (some ⟨g, 0, none⟩) l.length cap, .int .i64 (i : Int)] w fun e w' => e = .returned (.string ⟨(wordC l[i] ++ (L.flatMap fun p : Int => 32 :: W p.toNat) ++ [41]).toArray⟩) ∧ Below w.heap.size w w' := by
  have HR : Hid (RowC w B g l) := hR
  obtain ⟨c0, -, c2, -, c4, -⟩ := hR i hi
  rw [hk] at c0
  have HP : Hid (∀ u, Below w.heap.size w u → Calls Tryz.prog 93 #[.slice (some ⟨g, 0, none⟩) l.length cap, .int .i64 (i : Int)] u fun e w' => ∃ q c, e = .returned (.slice (some ⟨q, 0, none⟩) L.length c) ∧ w'.ownsRow u.heap.size 2 1 (.slice (some ⟨q, 0, none⟩) L.length c) L.length (cellsI L) ∧ Below u.heap.size u w') := hP
  have HW : Hid (∀ (k : Nat) (h : k < L.length) (w' : World), RowC w' B g l → Calls Tryz.prog 70 #[.slice (some ⟨g, 0, none⟩) l.length cap, .int .i64 L[k]] w' fun e w'' => e = .returned (.string ⟨(W (L[k]).toNat).toArray⟩) ∧ Below w'.heap.size w' w'') := hW
  have HL : Hid ((L.flatMap fun p : Int => 32 :: W p.toNat).length ≤ 272000) := hlen
  have HWd : Hid ((wordC l[i]).length ≤ 1650) := hw
  obtain ⟨hd, hhd⟩ : ∃ hd, hd = wordC l[i] := ⟨_, rfl⟩
  obtain ⟨z, hze⟩ : ∃ z, z = l[i].name := ⟨_, rfl⟩
  obtain ⟨n, hne⟩ : ∃ n, n = l[i].a := ⟨_, rfl⟩
  rw [← hhd] at HWd ⊢
  rw [← hze] at c4
  rw [← hne] at c2
  have HH : Hid ((⟨#[40, 115, 101, 113]⟩ : ByteArray) = ⟨hd.toArray⟩) := by show _ = _; rw [hhd]; simp [wordC, hk]
  clear hP hW hlen hR hk hw hhd hze hne
  obtain ⟨T, hT⟩ : ∃ T : Nat → ByteArray, ∀ k, T k = ⟨(hd ++ (L.take k).flatMap fun p : Int => 32 :: W p.toNat).toArray⟩ := ⟨_, fun _ => rfl⟩
  have HT : Hid (∀ k, T k = ⟨(hd ++ (L.take k).flatMap fun p : Int => 32 :: W p.toNat).toArray⟩) := hT
  obtain ⟨R, hRR⟩ : ∃ R : ByteArray, R = ⟨(hd ++ (L.flatMap fun p : Int => 32 :: W p.toNat) ++ [41]).toArray⟩ := ⟨_, rfl⟩
  have HRR : Hid (R = ⟨(hd ++ (L.flatMap fun p : Int => 32 :: W p.toNat) ++ [41]).toArray⟩) := hRR
  have HT0 : Hid ((⟨hd.toArray⟩ : ByteArray) = T 0) := by show _ = _; rw [hT]; simp
  rw [← hRR]
  clear hT hRR
  have HH0 : Hid ((⟨#[40, 115, 101, 113]⟩ : ByteArray) = T 0) := HH.out.trans HT0.out
  go_enter Tryz.func70, Tryz.ntmps70
  go_wp2_with fail
  refine (HP.out _ (Below.refl _ _)).mono ?_
  rintro e w1 ⟨q, c, rfl, hown, hb⟩
  have HO : Hid (w1.ownsRow w.heap.size 2 1 (.slice (some ⟨q, 0, none⟩) L.length c) L.length (cellsI L)) := hown
  have HB : Hid (Below w.heap.size w w1) := hb
  clear hown hb
  go_wp2_with fail
  go_loopw [6, 8] (fun v i wr => ∃ k : Nat, k ≤ L.length ∧ i = .int .i64 (k : Int) ∧ v = .string (T k) ∧ Hid (Below w1.heap.size w1 wr)) (fun _ i _ => L.length - (RowKit.intOf i).toNat)
  case atStart => exact ⟨0, Nat.zero_le _, rfl, by rw [HH0.out], Below.refl _ _⟩
  case round =>
    obtain ⟨k, hk, rfl, rfl, HX⟩ := hrel
    have hs0 : ((L.take k).flatMap fun p : Int => 32 :: W p.toNat).length ≤ 272000 := Nat.le_trans (flat_take_len _ k) HL.out
    have hsT : (T k).size ≤ 273650 := by rw [HT.out]; have := HWd.out; simp [ByteArray.size] at hs0 ⊢; omega
    by_cases hlt : k < L.length
    · have HRr : Hid (RowC wr B g l) := (HR.out.below HB.out).below HX.out
      obtain ⟨U, hU⟩ : ∃ U : ByteArray, U = ⟨(W (L[k]'hlt).toNat).toArray⟩ := ⟨_, rfl⟩
      have hs1 : (W (L[k]'hlt).toNat).length ≤ 272000 := by
        have h1 := flat_take (L := L) (fun p : Int => 32 :: W p.toNat) k hlt
        have h2 := Nat.le_trans (flat_take_len (L := L) (fun p : Int => 32 :: W p.toNat) (k + 1)) HL.out
        rw [h1, List.length_append] at h2
        simp only [List.length_cons] at h2
        omega
      have hsU : U.size ≤ 272000 := by rw [hU]; simp [ByteArray.size]; omega
      have HQ : Hid (Calls Tryz.prog 70 #[.slice (some ⟨g, 0, none⟩) l.length cap, .int .i64 (L[k]'hlt)] wr fun e w'' => e = .returned (.string U) ∧ Below wr.heap.size wr w'') := by
        rw [hU]; exact HW.out k hlt wr HRr.out
      have hcI : wr.cell? ⟨q, k, none⟩ = some (.int .i64 (L[k]'hlt)) := rowI_at (own_below HO.out HX.out) k hlt
      have ha1 := fun (w : World) => run_string_add_sum (P := Tryz.prog) w (T k) ⟨#[32]⟩ (by have : (⟨#[32]⟩ : ByteArray).size = 1 := rfl; omega)
      have ha2 := fun (w : World) => run_string_add_sum (P := Tryz.prog) w (T k ++ ⟨#[32]⟩) U (by have : (⟨#[32]⟩ : ByteArray).size = 1 := rfl; rw [ByteArray.size_append]; omega)
      have HJ : Hid (T k ++ ⟨#[32]⟩ ++ U = T (k + 1)) := by
        show _ = _
        rw [HT.out, HT.out, hU, flat_take (fun p : Int => 32 :: W p.toNat) k hlt]
        apply ByteArray.ext
        simp
      clear hs0 hs1 hsT hsU hU
      go_wp2_with (go_at_call 70; refine HQ.out.mono ?_; rintro e w2 ⟨rfl, hq⟩)
      exact ⟨⟨k + 1, by omega, by go_num, by rw [HJ.out], HX.out.trans (hq.mono HX.out.size)⟩, by simp [RowKit.intOf]; omega⟩
    · have ha2 := fun (w : World) => run_string_add_sum (P := Tryz.prog) w (T k) ⟨#[41]⟩ (by have : (⟨#[41]⟩ : ByteArray).size = 1 := rfl; omega)
      have HJ : Hid (T k ++ ⟨#[41]⟩ = R) := by
        show _ = _
        have hkl : k = L.length := by omega
        rw [HT.out, HRR.out, hkl, List.take_length]
        apply ByteArray.ext
        simp
      clear hs0 hsT
      go_wp2
      go_ret
      rw [HJ.out]
      exact ⟨rfl, HB.out.trans (HX.out.mono HB.out.size)⟩
set_option maxRecDepth 100000 in
set_option maxHeartbeats 2000000 in
theorem txt_7 (B g cap i : Nat) (l : List Cor) (w : World) (hi : i < l.length) (hR : RowC w B g l) (hk : l[i].kind = 7) (hz : l[i].name.size ≤ 1000) (L : List Int) (W : Nat → List UInt8) (hL : L.length ≤ 160) (hlen : (L.flatMap fun p : Int => 32 :: W p.toNat).length ≤ 272000) (hw : (wordC l[i]).length ≤ 1650)
    (hP : ∀ u, Below w.heap.size w u → Calls Tryz.prog 93 #[.slice (some ⟨g, 0, none⟩) l.length cap, .int .i64 (i : Int)] u fun e w' => ∃ q c, e = .returned (.slice (some ⟨q, 0, none⟩) L.length c) ∧ w'.ownsRow u.heap.size 2 1 (.slice (some ⟨q, 0, none⟩) L.length c) L.length (cellsI L) ∧ Below u.heap.size u w')
    (hW : ∀ (k : Nat) (h : k < L.length) (w' : World), RowC w' B g l → Calls Tryz.prog 70 #[.slice (some ⟨g, 0, none⟩) l.length cap, .int .i64 L[k]] w' fun e w'' => e = .returned (.string ⟨(W (L[k]).toNat).toArray⟩) ∧ Below w'.heap.size w' w'') :
    Calls Tryz.prog 70 #[.slice (some ⟨g, 0, none⟩) l.length cap, .int .i64 (i : Int)] w fun e w' => e = .returned (.string ⟨(wordC l[i] ++ (L.flatMap fun p : Int => 32 :: W p.toNat) ++ [41]).toArray⟩) ∧ Below w.heap.size w w' := by
  have HR : Hid (RowC w B g l) := hR
  obtain ⟨c0, -, c2, -, c4, -⟩ := hR i hi
  rw [hk] at c0
  have HP : Hid (∀ u, Below w.heap.size w u → Calls Tryz.prog 93 #[.slice (some ⟨g, 0, none⟩) l.length cap, .int .i64 (i : Int)] u fun e w' => ∃ q c, e = .returned (.slice (some ⟨q, 0, none⟩) L.length c) ∧ w'.ownsRow u.heap.size 2 1 (.slice (some ⟨q, 0, none⟩) L.length c) L.length (cellsI L) ∧ Below u.heap.size u w') := hP
  have HW : Hid (∀ (k : Nat) (h : k < L.length) (w' : World), RowC w' B g l → Calls Tryz.prog 70 #[.slice (some ⟨g, 0, none⟩) l.length cap, .int .i64 L[k]] w' fun e w'' => e = .returned (.string ⟨(W (L[k]).toNat).toArray⟩) ∧ Below w'.heap.size w' w'') := hW
  have HL : Hid ((L.flatMap fun p : Int => 32 :: W p.toNat).length ≤ 272000) := hlen
  have HWd : Hid ((wordC l[i]).length ≤ 1650) := hw
  obtain ⟨hd, hhd⟩ : ∃ hd, hd = wordC l[i] := ⟨_, rfl⟩
  obtain ⟨z, hze⟩ : ∃ z, z = l[i].name := ⟨_, rfl⟩
  obtain ⟨n, hne⟩ : ∃ n, n = l[i].a := ⟨_, rfl⟩
  rw [← hhd] at HWd ⊢
  rw [← hze] at c4
  rw [← hne] at c2
  have hadd : ∀ u, (Op.stringOp .add ⟨#[40, 115, 101, 116, 32]⟩ z).run Tryz.prog u = .ok (.string ⟨hd.toArray⟩) u := fun u => by
    have hl : z.data.toList.length = z.size := by rw [Array.length_toList]; rfl
    have := str_add [40, 115, 101, 116, 32] z.data.toList (by rw [hze] at hl ⊢; simp at hl ⊢; omega) u
    rw [hhd]
    simpa [wordC, hk, hze] using this
  clear hz
  clear hP hW hlen hR hk hw hhd hze hne
  obtain ⟨T, hT⟩ : ∃ T : Nat → ByteArray, ∀ k, T k = ⟨(hd ++ (L.take k).flatMap fun p : Int => 32 :: W p.toNat).toArray⟩ := ⟨_, fun _ => rfl⟩
  have HT : Hid (∀ k, T k = ⟨(hd ++ (L.take k).flatMap fun p : Int => 32 :: W p.toNat).toArray⟩) := hT
  obtain ⟨R, hRR⟩ : ∃ R : ByteArray, R = ⟨(hd ++ (L.flatMap fun p : Int => 32 :: W p.toNat) ++ [41]).toArray⟩ := ⟨_, rfl⟩
  have HRR : Hid (R = ⟨(hd ++ (L.flatMap fun p : Int => 32 :: W p.toNat) ++ [41]).toArray⟩) := hRR
  have HT0 : Hid ((⟨hd.toArray⟩ : ByteArray) = T 0) := by show _ = _; rw [hT]; simp
  rw [← hRR]
  clear hT hRR
  rw [HT0.out] at hadd
  go_enter Tryz.func70, Tryz.ntmps70
  go_wp2_with fail
  refine (HP.out _ (Below.refl _ _)).mono ?_
  rintro e w1 ⟨q, c, rfl, hown, hb⟩
  have HO : Hid (w1.ownsRow w.heap.size 2 1 (.slice (some ⟨q, 0, none⟩) L.length c) L.length (cellsI L)) := hown
  have HB : Hid (Below w.heap.size w w1) := hb
  clear hown hb
  go_wp2_with fail
  go_loopw [6, 8] (fun v i wr => ∃ k : Nat, k ≤ L.length ∧ i = .int .i64 (k : Int) ∧ v = .string (T k) ∧ Hid (Below w1.heap.size w1 wr)) (fun _ i _ => L.length - (RowKit.intOf i).toNat)
  case atStart => exact ⟨0, Nat.zero_le _, rfl, rfl, Below.refl _ _⟩
  case round =>
    obtain ⟨k, hk, rfl, rfl, HX⟩ := hrel
    have hs0 : ((L.take k).flatMap fun p : Int => 32 :: W p.toNat).length ≤ 272000 := Nat.le_trans (flat_take_len _ k) HL.out
    have hsT : (T k).size ≤ 273650 := by rw [HT.out]; have := HWd.out; simp [ByteArray.size] at hs0 ⊢; omega
    by_cases hlt : k < L.length
    · have HRr : Hid (RowC wr B g l) := (HR.out.below HB.out).below HX.out
      obtain ⟨U, hU⟩ : ∃ U : ByteArray, U = ⟨(W (L[k]'hlt).toNat).toArray⟩ := ⟨_, rfl⟩
      have hs1 : (W (L[k]'hlt).toNat).length ≤ 272000 := by
        have h1 := flat_take (L := L) (fun p : Int => 32 :: W p.toNat) k hlt
        have h2 := Nat.le_trans (flat_take_len (L := L) (fun p : Int => 32 :: W p.toNat) (k + 1)) HL.out
        rw [h1, List.length_append] at h2
        simp only [List.length_cons] at h2
        omega
      have hsU : U.size ≤ 272000 := by rw [hU]; simp [ByteArray.size]; omega
      have HQ : Hid (Calls Tryz.prog 70 #[.slice (some ⟨g, 0, none⟩) l.length cap, .int .i64 (L[k]'hlt)] wr fun e w'' => e = .returned (.string U) ∧ Below wr.heap.size wr w'') := by
        rw [hU]; exact HW.out k hlt wr HRr.out
      have hcI : wr.cell? ⟨q, k, none⟩ = some (.int .i64 (L[k]'hlt)) := rowI_at (own_below HO.out HX.out) k hlt
      have ha1 := fun (w : World) => run_string_add_sum (P := Tryz.prog) w (T k) ⟨#[32]⟩ (by have : (⟨#[32]⟩ : ByteArray).size = 1 := rfl; omega)
      have ha2 := fun (w : World) => run_string_add_sum (P := Tryz.prog) w (T k ++ ⟨#[32]⟩) U (by have : (⟨#[32]⟩ : ByteArray).size = 1 := rfl; rw [ByteArray.size_append]; omega)
      have HJ : Hid (T k ++ ⟨#[32]⟩ ++ U = T (k + 1)) := by
        show _ = _
        rw [HT.out, HT.out, hU, flat_take (fun p : Int => 32 :: W p.toNat) k hlt]
        apply ByteArray.ext
        simp
      clear hs0 hs1 hsT hsU hU
      go_wp2_with (go_at_call 70; refine HQ.out.mono ?_; rintro e w2 ⟨rfl, hq⟩)
      exact ⟨⟨k + 1, by omega, by go_num, by rw [HJ.out], HX.out.trans (hq.mono HX.out.size)⟩, by simp [RowKit.intOf]; omega⟩
    · have ha2 := fun (w : World) => run_string_add_sum (P := Tryz.prog) w (T k) ⟨#[41]⟩ (by have : (⟨#[41]⟩ : ByteArray).size = 1 := rfl; omega)
      have HJ : Hid (T k ++ ⟨#[41]⟩ = R) := by
        show _ = _
        have hkl : k = L.length := by omega
        rw [HT.out, HRR.out, hkl, List.take_length]
        apply ByteArray.ext
        simp
      clear hs0 hsT
      go_wp2
      go_ret
      rw [HJ.out]
      exact ⟨rfl, HB.out.trans (HX.out.mono HB.out.size)⟩
set_option maxRecDepth 100000 in
set_option maxHeartbeats 2000000 in
theorem txt_8 (B g cap i : Nat) (l : List Cor) (w : World) (hi : i < l.length) (hR : RowC w B g l) (hk : l[i].kind = 8) (hz : l[i].name.size ≤ 1000) (L : List Int) (W : Nat → List UInt8) (hL : L.length ≤ 160) (hlen : (L.flatMap fun p : Int => 32 :: W p.toNat).length ≤ 272000) (hw : (wordC l[i]).length ≤ 1650)
    (hP : ∀ u, Below w.heap.size w u → Calls Tryz.prog 93 #[.slice (some ⟨g, 0, none⟩) l.length cap, .int .i64 (i : Int)] u fun e w' => ∃ q c, e = .returned (.slice (some ⟨q, 0, none⟩) L.length c) ∧ w'.ownsRow u.heap.size 2 1 (.slice (some ⟨q, 0, none⟩) L.length c) L.length (cellsI L) ∧ Below u.heap.size u w')
    (hW : ∀ (k : Nat) (h : k < L.length) (w' : World), RowC w' B g l → Calls Tryz.prog 70 #[.slice (some ⟨g, 0, none⟩) l.length cap, .int .i64 L[k]] w' fun e w'' => e = .returned (.string ⟨(W (L[k]).toNat).toArray⟩) ∧ Below w'.heap.size w' w'') :
    Calls Tryz.prog 70 #[.slice (some ⟨g, 0, none⟩) l.length cap, .int .i64 (i : Int)] w fun e w' => e = .returned (.string ⟨(wordC l[i] ++ (L.flatMap fun p : Int => 32 :: W p.toNat) ++ [41]).toArray⟩) ∧ Below w.heap.size w w' := by
  have HR : Hid (RowC w B g l) := hR
  obtain ⟨c0, -, c2, -, c4, -⟩ := hR i hi
  rw [hk] at c0
  have HP : Hid (∀ u, Below w.heap.size w u → Calls Tryz.prog 93 #[.slice (some ⟨g, 0, none⟩) l.length cap, .int .i64 (i : Int)] u fun e w' => ∃ q c, e = .returned (.slice (some ⟨q, 0, none⟩) L.length c) ∧ w'.ownsRow u.heap.size 2 1 (.slice (some ⟨q, 0, none⟩) L.length c) L.length (cellsI L) ∧ Below u.heap.size u w') := hP
  have HW : Hid (∀ (k : Nat) (h : k < L.length) (w' : World), RowC w' B g l → Calls Tryz.prog 70 #[.slice (some ⟨g, 0, none⟩) l.length cap, .int .i64 L[k]] w' fun e w'' => e = .returned (.string ⟨(W (L[k]).toNat).toArray⟩) ∧ Below w'.heap.size w' w'') := hW
  have HL : Hid ((L.flatMap fun p : Int => 32 :: W p.toNat).length ≤ 272000) := hlen
  have HWd : Hid ((wordC l[i]).length ≤ 1650) := hw
  obtain ⟨hd, hhd⟩ : ∃ hd, hd = wordC l[i] := ⟨_, rfl⟩
  obtain ⟨z, hze⟩ : ∃ z, z = l[i].name := ⟨_, rfl⟩
  obtain ⟨n, hne⟩ : ∃ n, n = l[i].a := ⟨_, rfl⟩
  rw [← hhd] at HWd ⊢
  rw [← hze] at c4
  rw [← hne] at c2
  have hadd : ∀ u, (Op.stringOp .add ⟨#[40, 100, 101, 102, 32]⟩ z).run Tryz.prog u = .ok (.string ⟨hd.toArray⟩) u := fun u => by
    have hl : z.data.toList.length = z.size := by rw [Array.length_toList]; rfl
    have := str_add [40, 100, 101, 102, 32] z.data.toList (by rw [hze] at hl ⊢; simp at hl ⊢; omega) u
    rw [hhd]
    simpa [wordC, hk, hze] using this
  clear hz
  clear hP hW hlen hR hk hw hhd hze hne
  obtain ⟨T, hT⟩ : ∃ T : Nat → ByteArray, ∀ k, T k = ⟨(hd ++ (L.take k).flatMap fun p : Int => 32 :: W p.toNat).toArray⟩ := ⟨_, fun _ => rfl⟩
  have HT : Hid (∀ k, T k = ⟨(hd ++ (L.take k).flatMap fun p : Int => 32 :: W p.toNat).toArray⟩) := hT
  obtain ⟨R, hRR⟩ : ∃ R : ByteArray, R = ⟨(hd ++ (L.flatMap fun p : Int => 32 :: W p.toNat) ++ [41]).toArray⟩ := ⟨_, rfl⟩
  have HRR : Hid (R = ⟨(hd ++ (L.flatMap fun p : Int => 32 :: W p.toNat) ++ [41]).toArray⟩) := hRR
  have HT0 : Hid ((⟨hd.toArray⟩ : ByteArray) = T 0) := by show _ = _; rw [hT]; simp
  rw [← hRR]
  clear hT hRR
  rw [HT0.out] at hadd
  go_enter Tryz.func70, Tryz.ntmps70
  go_wp2_with fail
  refine (HP.out _ (Below.refl _ _)).mono ?_
  rintro e w1 ⟨q, c, rfl, hown, hb⟩
  have HO : Hid (w1.ownsRow w.heap.size 2 1 (.slice (some ⟨q, 0, none⟩) L.length c) L.length (cellsI L)) := hown
  have HB : Hid (Below w.heap.size w w1) := hb
  clear hown hb
  go_wp2_with fail
  go_loopw [6, 8] (fun v i wr => ∃ k : Nat, k ≤ L.length ∧ i = .int .i64 (k : Int) ∧ v = .string (T k) ∧ Hid (Below w1.heap.size w1 wr)) (fun _ i _ => L.length - (RowKit.intOf i).toNat)
  case atStart => exact ⟨0, Nat.zero_le _, rfl, rfl, Below.refl _ _⟩
  case round =>
    obtain ⟨k, hk, rfl, rfl, HX⟩ := hrel
    have hs0 : ((L.take k).flatMap fun p : Int => 32 :: W p.toNat).length ≤ 272000 := Nat.le_trans (flat_take_len _ k) HL.out
    have hsT : (T k).size ≤ 273650 := by rw [HT.out]; have := HWd.out; simp [ByteArray.size] at hs0 ⊢; omega
    by_cases hlt : k < L.length
    · have HRr : Hid (RowC wr B g l) := (HR.out.below HB.out).below HX.out
      obtain ⟨U, hU⟩ : ∃ U : ByteArray, U = ⟨(W (L[k]'hlt).toNat).toArray⟩ := ⟨_, rfl⟩
      have hs1 : (W (L[k]'hlt).toNat).length ≤ 272000 := by
        have h1 := flat_take (L := L) (fun p : Int => 32 :: W p.toNat) k hlt
        have h2 := Nat.le_trans (flat_take_len (L := L) (fun p : Int => 32 :: W p.toNat) (k + 1)) HL.out
        rw [h1, List.length_append] at h2
        simp only [List.length_cons] at h2
        omega
      have hsU : U.size ≤ 272000 := by rw [hU]; simp [ByteArray.size]; omega
      have HQ : Hid (Calls Tryz.prog 70 #[.slice (some ⟨g, 0, none⟩) l.length cap, .int .i64 (L[k]'hlt)] wr fun e w'' => e = .returned (.string U) ∧ Below wr.heap.size wr w'') := by
        rw [hU]; exact HW.out k hlt wr HRr.out
      have hcI : wr.cell? ⟨q, k, none⟩ = some (.int .i64 (L[k]'hlt)) := rowI_at (own_below HO.out HX.out) k hlt
      have ha1 := fun (w : World) => run_string_add_sum (P := Tryz.prog) w (T k) ⟨#[32]⟩ (by have : (⟨#[32]⟩ : ByteArray).size = 1 := rfl; omega)
      have ha2 := fun (w : World) => run_string_add_sum (P := Tryz.prog) w (T k ++ ⟨#[32]⟩) U (by have : (⟨#[32]⟩ : ByteArray).size = 1 := rfl; rw [ByteArray.size_append]; omega)
      have HJ : Hid (T k ++ ⟨#[32]⟩ ++ U = T (k + 1)) := by
        show _ = _
        rw [HT.out, HT.out, hU, flat_take (fun p : Int => 32 :: W p.toNat) k hlt]
        apply ByteArray.ext
        simp
      clear hs0 hs1 hsT hsU hU
      go_wp2_with (go_at_call 70; refine HQ.out.mono ?_; rintro e w2 ⟨rfl, hq⟩)
      exact ⟨⟨k + 1, by omega, by go_num, by rw [HJ.out], HX.out.trans (hq.mono HX.out.size)⟩, by simp [RowKit.intOf]; omega⟩
    · have ha2 := fun (w : World) => run_string_add_sum (P := Tryz.prog) w (T k) ⟨#[41]⟩ (by have : (⟨#[41]⟩ : ByteArray).size = 1 := rfl; omega)
      have HJ : Hid (T k ++ ⟨#[41]⟩ = R) := by
        show _ = _
        have hkl : k = L.length := by omega
        rw [HT.out, HRR.out, hkl, List.take_length]
        apply ByteArray.ext
        simp
      clear hs0 hsT
      go_wp2
      go_ret
      rw [HJ.out]
      exact ⟨rfl, HB.out.trans (HX.out.mono HB.out.size)⟩
set_option maxRecDepth 100000 in
set_option maxHeartbeats 2000000 in
theorem txt_9 (B g cap i : Nat) (l : List Cor) (w : World) (hi : i < l.length) (hR : RowC w B g l) (hk : l[i].kind = 9) (L : List Int) (W : Nat → List UInt8) (hL : L.length ≤ 160) (hlen : (L.flatMap fun p : Int => 32 :: W p.toNat).length ≤ 272000) (hw : (wordC l[i]).length ≤ 1650)
    (hP : ∀ u, Below w.heap.size w u → Calls Tryz.prog 93 #[.slice (some ⟨g, 0, none⟩) l.length cap, .int .i64 (i : Int)] u fun e w' => ∃ q c, e = .returned (.slice (some ⟨q, 0, none⟩) L.length c) ∧ w'.ownsRow u.heap.size 2 1 (.slice (some ⟨q, 0, none⟩) L.length c) L.length (cellsI L) ∧ Below u.heap.size u w')
    (hW : ∀ (k : Nat) (h : k < L.length) (w' : World), RowC w' B g l → Calls Tryz.prog 70 #[.slice (some ⟨g, 0, none⟩) l.length cap, .int .i64 L[k]] w' fun e w'' => e = .returned (.string ⟨(W (L[k]).toNat).toArray⟩) ∧ Below w'.heap.size w' w'') :
    Calls Tryz.prog 70 #[.slice (some ⟨g, 0, none⟩) l.length cap, .int .i64 (i : Int)] w fun e w' => e = .returned (.string ⟨(wordC l[i] ++ (L.flatMap fun p : Int => 32 :: W p.toNat) ++ [41]).toArray⟩) ∧ Below w.heap.size w w' := by
  have HR : Hid (RowC w B g l) := hR
  obtain ⟨c0, -, c2, -, c4, -⟩ := hR i hi
  rw [hk] at c0
  have HP : Hid (∀ u, Below w.heap.size w u → Calls Tryz.prog 93 #[.slice (some ⟨g, 0, none⟩) l.length cap, .int .i64 (i : Int)] u fun e w' => ∃ q c, e = .returned (.slice (some ⟨q, 0, none⟩) L.length c) ∧ w'.ownsRow u.heap.size 2 1 (.slice (some ⟨q, 0, none⟩) L.length c) L.length (cellsI L) ∧ Below u.heap.size u w') := hP
  have HW : Hid (∀ (k : Nat) (h : k < L.length) (w' : World), RowC w' B g l → Calls Tryz.prog 70 #[.slice (some ⟨g, 0, none⟩) l.length cap, .int .i64 L[k]] w' fun e w'' => e = .returned (.string ⟨(W (L[k]).toNat).toArray⟩) ∧ Below w'.heap.size w' w'') := hW
  have HL : Hid ((L.flatMap fun p : Int => 32 :: W p.toNat).length ≤ 272000) := hlen
  have HWd : Hid ((wordC l[i]).length ≤ 1650) := hw
  obtain ⟨hd, hhd⟩ : ∃ hd, hd = wordC l[i] := ⟨_, rfl⟩
  obtain ⟨z, hze⟩ : ∃ z, z = l[i].name := ⟨_, rfl⟩
  obtain ⟨n, hne⟩ : ∃ n, n = l[i].a := ⟨_, rfl⟩
  rw [← hhd] at HWd ⊢
  rw [← hze] at c4
  rw [← hne] at c2
  have HH : Hid ((⟨#[40, 97, 112, 112]⟩ : ByteArray) = ⟨hd.toArray⟩) := by show _ = _; rw [hhd]; simp [wordC, hk]
  clear hP hW hlen hR hk hw hhd hze hne
  obtain ⟨T, hT⟩ : ∃ T : Nat → ByteArray, ∀ k, T k = ⟨(hd ++ (L.take k).flatMap fun p : Int => 32 :: W p.toNat).toArray⟩ := ⟨_, fun _ => rfl⟩
  have HT : Hid (∀ k, T k = ⟨(hd ++ (L.take k).flatMap fun p : Int => 32 :: W p.toNat).toArray⟩) := hT
  obtain ⟨R, hRR⟩ : ∃ R : ByteArray, R = ⟨(hd ++ (L.flatMap fun p : Int => 32 :: W p.toNat) ++ [41]).toArray⟩ := ⟨_, rfl⟩
  have HRR : Hid (R = ⟨(hd ++ (L.flatMap fun p : Int => 32 :: W p.toNat) ++ [41]).toArray⟩) := hRR
  have HT0 : Hid ((⟨hd.toArray⟩ : ByteArray) = T 0) := by show _ = _; rw [hT]; simp
  rw [← hRR]
  clear hT hRR
  have HH0 : Hid ((⟨#[40, 97, 112, 112]⟩ : ByteArray) = T 0) := HH.out.trans HT0.out
  go_enter Tryz.func70, Tryz.ntmps70
  go_wp2_with fail
  refine (HP.out _ (Below.refl _ _)).mono ?_
  rintro e w1 ⟨q, c, rfl, hown, hb⟩
  have HO : Hid (w1.ownsRow w.heap.size 2 1 (.slice (some ⟨q, 0, none⟩) L.length c) L.length (cellsI L)) := hown
  have HB : Hid (Below w.heap.size w w1) := hb
  clear hown hb
  go_wp2_with fail
  go_loopw [6, 8] (fun v i wr => ∃ k : Nat, k ≤ L.length ∧ i = .int .i64 (k : Int) ∧ v = .string (T k) ∧ Hid (Below w1.heap.size w1 wr)) (fun _ i _ => L.length - (RowKit.intOf i).toNat)
  case atStart => exact ⟨0, Nat.zero_le _, rfl, by rw [HH0.out], Below.refl _ _⟩
  case round =>
    obtain ⟨k, hk, rfl, rfl, HX⟩ := hrel
    have hs0 : ((L.take k).flatMap fun p : Int => 32 :: W p.toNat).length ≤ 272000 := Nat.le_trans (flat_take_len _ k) HL.out
    have hsT : (T k).size ≤ 273650 := by rw [HT.out]; have := HWd.out; simp [ByteArray.size] at hs0 ⊢; omega
    by_cases hlt : k < L.length
    · have HRr : Hid (RowC wr B g l) := (HR.out.below HB.out).below HX.out
      obtain ⟨U, hU⟩ : ∃ U : ByteArray, U = ⟨(W (L[k]'hlt).toNat).toArray⟩ := ⟨_, rfl⟩
      have hs1 : (W (L[k]'hlt).toNat).length ≤ 272000 := by
        have h1 := flat_take (L := L) (fun p : Int => 32 :: W p.toNat) k hlt
        have h2 := Nat.le_trans (flat_take_len (L := L) (fun p : Int => 32 :: W p.toNat) (k + 1)) HL.out
        rw [h1, List.length_append] at h2
        simp only [List.length_cons] at h2
        omega
      have hsU : U.size ≤ 272000 := by rw [hU]; simp [ByteArray.size]; omega
      have HQ : Hid (Calls Tryz.prog 70 #[.slice (some ⟨g, 0, none⟩) l.length cap, .int .i64 (L[k]'hlt)] wr fun e w'' => e = .returned (.string U) ∧ Below wr.heap.size wr w'') := by
        rw [hU]; exact HW.out k hlt wr HRr.out
      have hcI : wr.cell? ⟨q, k, none⟩ = some (.int .i64 (L[k]'hlt)) := rowI_at (own_below HO.out HX.out) k hlt
      have ha1 := fun (w : World) => run_string_add_sum (P := Tryz.prog) w (T k) ⟨#[32]⟩ (by have : (⟨#[32]⟩ : ByteArray).size = 1 := rfl; omega)
      have ha2 := fun (w : World) => run_string_add_sum (P := Tryz.prog) w (T k ++ ⟨#[32]⟩) U (by have : (⟨#[32]⟩ : ByteArray).size = 1 := rfl; rw [ByteArray.size_append]; omega)
      have HJ : Hid (T k ++ ⟨#[32]⟩ ++ U = T (k + 1)) := by
        show _ = _
        rw [HT.out, HT.out, hU, flat_take (fun p : Int => 32 :: W p.toNat) k hlt]
        apply ByteArray.ext
        simp
      clear hs0 hs1 hsT hsU hU
      go_wp2_with (go_at_call 70; refine HQ.out.mono ?_; rintro e w2 ⟨rfl, hq⟩)
      exact ⟨⟨k + 1, by omega, by go_num, by rw [HJ.out], HX.out.trans (hq.mono HX.out.size)⟩, by simp [RowKit.intOf]; omega⟩
    · have ha2 := fun (w : World) => run_string_add_sum (P := Tryz.prog) w (T k) ⟨#[41]⟩ (by have : (⟨#[41]⟩ : ByteArray).size = 1 := rfl; omega)
      have HJ : Hid (T k ++ ⟨#[41]⟩ = R) := by
        show _ = _
        have hkl : k = L.length := by omega
        rw [HT.out, HRR.out, hkl, List.take_length]
        apply ByteArray.ext
        simp
      clear hs0 hsT
      go_wp2
      go_ret
      rw [HJ.out]
      exact ⟨rfl, HB.out.trans (HX.out.mono HB.out.size)⟩
/-- The text of the core at a place. -/
theorem l4Text_any {N : List (Cor × Value)} (B g cap : Nat) (l : List Cor) (F : FineC N l) : ∀ (f a : Nat) (w : World), a < l.length → l.length ≤ a + f → RowC w B g l →
    Calls Tryz.prog 70 #[.slice (some ⟨g, 0, none⟩) l.length cap, .int .i64 (a : Int)] w fun e w' => e = .returned (.string ⟨(writeC l f a).toArray⟩) ∧ Below w.heap.size w w' := by
  intro f
  induction f with
  | zero => intro a w h1 h2; omega
  | succ f ih =>
    intro a w ha hf hR
    have hok := F.ok a ha ha
    have hnb := numC_in F a ha
    have hkd := core_kind hok
    have hnm := fun h => core_nm hok h
    have hwl := word_all F a ha
    have leaf := leafC F f a ha
    have list := listC (l := l) f a ha
    have hP : ∀ u, Below w.heap.size w u → Calls Tryz.prog 93 #[.slice (some ⟨g, 0, none⟩) l.length cap, .int .i64 (a : Int)] u fun e w' => ∃ q c, e = .returned (.slice (some ⟨q, 0, none⟩) (kidsD l (a : Int)).length c) ∧ w'.ownsRow u.heap.size 2 1 (.slice (some ⟨q, 0, none⟩) (kidsD l (a : Int)).length c) (kidsD l (a : Int)).length (cellsI (kidsD l (a : Int))) ∧ Below u.heap.size u w' := fun u hu => l4Kids_any B g cap l (a : Int) u (hR.below hu) (by have := F.len; omega)
    have hl160 : (kidsD l (a : Int)).length ≤ 160 := Nat.le_trans (kidsTo_len l _ _) F.len
    have hsm : 0 < mostK l[a].kind → ((kidsD l (a : Int)).flatMap fun p : Int => 32 :: writeC l f p.toNat).length ≤ 272000 := fun h => by
      have := writeC_small F (fun k hk => word_all F k hk) (f + 1) a ha
      rw [list h] at this
      simp only [List.length_append] at this
      omega
    have hW : ∀ (k : Nat) (h : k < (kidsD l (a : Int)).length) (w' : World), RowC w' B g l → Calls Tryz.prog 70 #[.slice (some ⟨g, 0, none⟩) l.length cap, .int .i64 (kidsD l (a : Int))[k]] w' fun e w'' => e = .returned (.string ⟨(writeC l f ((kidsD l (a : Int))[k]).toNat).toArray⟩) ∧ Below w'.heap.size w' w'' := fun k h w' hR' => by
      obtain ⟨j, e, hj, hpar⟩ := (kids_mem l (a : Int) _).1 (List.getElem_mem h)
      rw [e]
      exact ih j w' hj (by have := F.parlt hj hpar; omega) hR'
    by_cases h1 : l[a].kind = 1
    · rw [leaf (by rw [h1]; rfl)]
      refine txt_1 B g cap a l w ha hR h1 ?_
      obtain ⟨-, -, hc⟩ := oneC_parts hok
      unfold contC at hc
      rw [if_pos h1] at hc
      exact hc
    by_cases h2 : l[a].kind = 2
    · rw [leaf (by rw [h2]; rfl)]
      exact txt_2 B g cap a l w ha hR h2 (hnb (.inl h2)).1 ((hnb (.inl h2)).2 h2)
    by_cases h3 : l[a].kind = 3
    · rw [leaf (by rw [h3]; rfl)]
      exact txt_3 B g cap a l w ha hR h3
    by_cases h4 : l[a].kind = 4
    · rw [list (by rw [h4]; decide)]
      exact txt_4 B g cap a l w ha hR h4 _ (writeC l f) hl160 (hsm (by rw [h4]; decide)) hwl hP hW
    by_cases h5 : l[a].kind = 5
    · rw [list (by rw [h5]; decide)]
      exact txt_5 B g cap a l w ha hR h5 (hnb (.inr h5)).1 _ (writeC l f) hl160 (hsm (by rw [h5]; decide)) hwl hP hW
    by_cases h6 : l[a].kind = 6
    · rw [list (by rw [h6]; decide)]
      exact txt_6 B g cap a l w ha hR h6 _ (writeC l f) hl160 (hsm (by rw [h6]; decide)) hwl hP hW
    by_cases h7 : l[a].kind = 7
    · rw [list (by rw [h7]; decide)]
      exact txt_7 B g cap a l w ha hR h7 (by have := hnm (.inr (.inl h7)); omega) _ (writeC l f) hl160 (hsm (by rw [h7]; decide)) hwl hP hW
    by_cases h8 : l[a].kind = 8
    · rw [list (by rw [h8]; decide)]
      exact txt_8 B g cap a l w ha hR h8 (by have := hnm (.inr (.inr h8)); omega) _ (writeC l f) hl160 (hsm (by rw [h8]; decide)) hwl hP hW
    · have h9 : l[a].kind = 9 := by omega
      rw [list (by rw [h9]; decide)]
      exact txt_9 B g cap a l w ha hR h9 _ (writeC l f) hl160 (hsm (by rw [h9]; decide)) hwl hP hW
end Go.Proofs.YtebnonpdaddniaaGreatDoor
