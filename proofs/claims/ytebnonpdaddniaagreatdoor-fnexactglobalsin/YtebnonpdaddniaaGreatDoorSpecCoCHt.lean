/-
  Parts of the proof laid into one text, one behind the other; each says at its head what is proved in it.
-/
import Derived.Test.YtebnonpdaddniaaGreatDoorHtM
/-
  The model's l4Place, l4One and l4Fault, and its CoreFault: what is wrong with cores; nothing that was there is turned.
-/
namespace Go.Proofs.YtebnonpdaddniaaGreatDoor
open Go.RowKit Go.Extern.Stop Go.Stop Go.Extern Num Go.Lib

theorem placeB_five {l : List Cor} {i : Nat} {t : Cor} (h : t.kind = 5) : placeB l i t = (decide (0 ≤ t.a) && decide (t.a ≤ 3)) := by unfold placeB; rw [if_pos h]
theorem placeB_two {l : List Cor} {i : Nat} {t : Cor} (h : t.kind = 2) : placeB l i t = (decide (0 ≤ t.b) && decide (t.b < poF l t.a (upLC (zC (l.take i)) t.parent) 0)) := by unfold placeB; rw [if_neg (by omega), if_pos h]
theorem placeB_else {l : List Cor} {i : Nat} {t : Cor} (h2 : t.kind ≠ 2) (h5 : t.kind ≠ 5) : placeB l i t = true := by unfold placeB; rw [if_neg h5, if_neg h2]
set_option maxRecDepth 100000 in
set_option maxHeartbeats 2000000 in
theorem l4Place_any (B g cap : Nat) (l : List Cor) (w : World) (i : Nat) (hR : RowC w B g l) (hi : i < l.length) (hlm : l.length ≤ 160) (hok : okC l i) (hpar : parBad i l[i].parent = false) :
    Calls Tryz.prog 138 #[.slice (some ⟨g, 0, none⟩) l.length cap, .int .i64 (i : Int)] w fun e w' => e = .returned (.bool (placeB l i l[i])) ∧ Below w.heap.size w w' := by
  obtain ⟨c0, c1, c2, c3, -⟩ := hR i hi
  have hp2 := parBad_lt hpar
  have hp : ParsC (zC (l.take i)) := parsC_of (l := l) (k := i) (by omega) (by simp [zC, Function.comp_def]) hok
  have hlen : (zC (l.take i)).length = i := by rw [zC_len, List.length_take]; omega
  obtain ⟨t, ht⟩ : ∃ t, t = l[i]'hi := ⟨_, rfl⟩
  rw [← ht] at c0 c1 c2 c3 hp2 ⊢
  by_cases h5 : t.kind = 5
  · rw [h5] at c0
    rw [placeB_five h5]
    clear hR hok hpar hp hlen ht h5
    go_enter Tryz.func138, Tryz.ntmps138
    go_wp2_with (go_at_call 98; refine (l1In_any _ _ _ _).mono ?_; rintro e w' ⟨rfl, hw'⟩; replace hw' := hw'.symm; subst hw')
    go_ret
    exact ⟨rfl, Below.refl _ _⟩
  · by_cases h2 : t.kind = 2
    · rw [h2] at c0
      rw [placeB_two h2]
      have HIa : Hid (∀ w, Calls Tryz.prog 98 #[.int .i64 t.a, .int .i64 0, .int .i64 160] w fun e w' => e = .returned (.bool (decide (0 ≤ t.a) && decide (t.a ≤ 160))) ∧ w' = w) := fun w => l1In_any _ _ _ w
      cases ha : (decide (0 ≤ t.a) && decide (t.a ≤ 160)) with
      | false =>
        rw [ha] at HIa
        have hpo : poF l t.a (upLC (zC (l.take i)) t.parent) 0 = 0 := by
          have hl := upL_lenC hp (i + 1) t.parent (by omega) (by omega) hp2.2
          refine poF_far l t.a _ 0 ?_
          simp only [Bool.and_eq_false_iff, decide_eq_false_iff_not] at ha
          omega
        have HR : Hid ((decide (0 ≤ t.b) && decide (t.b < poF l t.a (upLC (zC (l.take i)) t.parent) 0)) = false) := by
          show _ = _
          rw [hpo]
          by_cases hb : 0 ≤ t.b
          · have : ¬ t.b < 0 := by omega
            simp [this]
          · simp [hb]
        rw [HR.out]
        clear hR hok hpar hp hlen ht h5 h2 ha hpo HR
        go_enter Tryz.func138, Tryz.ntmps138
        go_wp2_with (go_at_call 98; refine (HIa.out _).mono ?_; rintro e w' ⟨rfl, hw'⟩; replace hw' := hw'.symm; subst hw')
        go_ret
        exact ⟨rfl, Below.refl _ _⟩
      | true =>
        rw [ha] at HIa
        simp only [Bool.and_eq_true, decide_eq_true_eq] at ha
        have HA : Hid (∀ cap, Calls Tryz.prog 180 #[.slice (some ⟨g, 0, none⟩) l.length cap, .int .i64 (i : Int), .int .i64 t.a] w fun e w' => e = .returned (.int .i64 (aroF l (upLC (zC (l.take i)) t.parent) t.a)) ∧ w' = w) := fun cap => by
          rw [ht]; exact l4Around_any B g cap l w i _ hR hi hlm hp (by rw [← ht]; omega) (by rw [← ht]; omega) (by rw [← ht]; omega) (by rw [← ht]; omega)
        have hpa := po_aro l t.a (upLC (zC (l.take i)) t.parent) 0 (upL_pos hp _ (by omega))
        have hkd := aroF_kind l (upLC (zC (l.take i)) t.parent) t.a
        have hup := fun x hx => upL_mem hp (i + 1) t.parent (by omega) (by omega) x hx
        rw [show t.a - 0 = t.a by omega] at hpa
        generalize aroF l (upLC (zC (l.take i)) t.parent) t.a = fn at HA hpa hkd
        generalize poF l t.a (upLC (zC (l.take i)) t.parent) 0 = po at hpa ⊢
        rcases hpa with ⟨h1, h0⟩ | ⟨h0, h1⟩
        · subst h1 h0
          have HR : Hid ((decide (0 ≤ t.b) && decide (t.b < 0)) = false) := by
            show _ = _
            by_cases hb : 0 ≤ t.b
            · have : ¬ t.b < 0 := by omega
              simp [this]
            · simp [hb]
          rw [HR.out]
          clear hR hok hpar hp hlen ht h5 h2 ha hkd hup HR
          go_enter Tryz.func138, Tryz.ntmps138
          go_wp2_with (first | (go_at_call 98; refine (HIa.out _).mono ?_; rintro e w' ⟨rfl, hw'⟩; replace hw' := hw'.symm; subst hw') | (go_at_call 180; refine (HA.out _).mono ?_; rintro e w' ⟨rfl, hw'⟩; replace hw' := hw'.symm; subst hw'))
          have hne := bw_some w
          refine wp_region_below (by kernel_rfl) (by kernel_rfl) ?_
          repeat (go_big_quiet_step (fail))
          refine wpQuiet_nil ?_
          intro wq hw'
          obtain ⟨⟨_, bq⟩, rfl⟩ := hw'
          have HB : Hid (Below w.heap.size w wq) := bq
          clear bq
          go_wp2
          go_ret
          exact ⟨rfl, HB.out⟩
        · rcases hkd with hk | ⟨hk1, hk2⟩
          · omega
          · obtain ⟨j, rfl⟩ := Int.eq_ofNat_of_zero_le h0
            have hj := hup _ hk1
            have hjl : j < l.length := by omega
            rw [Int.toNat_natCast] at h1 hk2
            rw [kdC_at l j hjl] at hk2
            rw [naC_at l j hjl] at h1
            have hlam := okC_lam hok j hjl (by omega) hk2
            have e2 := (hR j hjl).2.2.1
            rw [← h1] at hlam e2
            have HR : Hid ((decide (0 ≤ t.b) && decide (t.b < po)) = (decide (0 ≤ t.b) && decide (t.b ≤ po - 1))) := by
              show _ = _
              congr 1
              by_cases hb : t.b < po
              · have : t.b ≤ po - 1 := by omega
                simp [hb, this]
              · have : ¬ t.b ≤ po - 1 := by omega
                simp [hb, this]
            rw [HR.out]
            have hjn : (j : Int) < (l.length : Int) := by omega
            have hj0 : (0 : Int) ≤ (j : Int) := by omega
            clear hR hok hpar hp hlen ht h5 h2 ha hup HR hk1 hk2 h1 hj
            go_enter Tryz.func138, Tryz.ntmps138
            go_wp2_with (first | (go_at_call 98; refine (HIa.out _).mono ?_; rintro e w' ⟨rfl, hw'⟩; replace hw' := hw'.symm; subst hw') | (go_at_call 180; refine (HA.out _).mono ?_; rintro e w' ⟨rfl, hw'⟩; replace hw' := hw'.symm; subst hw'))
            have q3 : ∀ p : BW w, p.x.cell? ⟨g, i * 6 + 3, none⟩ = some (.int .i64 t.b) := fun p => p.cell c3
            have q2 : ∀ p : BW w, p.x.cell? ⟨g, j * 6 + 2, none⟩ = some (.int .i64 po) := fun p => p.cell e2
            have hne := bw_some w
            have HL : Hid (∀ p : BW w, Calls Tryz.prog 98 #[.int .i64 t.b, .int .i64 0, .int .i64 (po - 1)] p.x fun e w' => e = .returned (.bool (decide (0 ≤ t.b) && decide (t.b ≤ po - 1))) ∧ Below p.x.heap.size p.x w') := fun p => (l1In_any _ _ _ _).mono fun e w' ⟨h1, h2⟩ => ⟨h1, by rw [h2]; exact Below.refl _ _⟩
            refine wp_region_below (by kernel_rfl) (by kernel_rfl) ?_
            repeat (go_big_quiet_step ((go_at_call 98; exact calls_bw (HL.out _))))
            refine wpQuiet_nil ?_
            intro wq hw'
            obtain ⟨⟨_, bq⟩, rfl⟩ := hw'
            have HB : Hid (Below w.heap.size w wq) := bq
            clear bq
            go_wp2
            go_ret
            exact ⟨rfl, HB.out⟩
    · have e5 : (t.kind == 5) = false := by simpa using h5
      have e2 : (t.kind != 2) = true := by simpa using h2
      rw [placeB_else h2 h5]
      clear hR hok hpar hp hlen ht h5 h2
      go_enter Tryz.func138, Tryz.ntmps138
      go_wp2
      go_ret
      exact ⟨rfl, Below.refl _ _⟩
theorem lineBad_of {l : List Cor} {i : Nat} {p : Int} : lineBad l i p = (decide (0 < i) && !(decide (p ∈ upLC (zC (l.take i)) ((i : Int) - 1)))) := rfl
set_option maxRecDepth 100000 in
set_option maxHeartbeats 4000000 in
theorem l4One_any (B g cap : Nat) (l : List Cor) (w : World) (i : Nat) (hR : RowC w B g l) (hi : i < l.length) (hlm : l.length ≤ 160) (hok : okC l i) (hz : l[i].small) :
    Calls Tryz.prog 91 #[.slice (some ⟨g, 0, none⟩) l.length cap, .int .i64 (i : Int)] w fun e w' => e = .returned (.int .i64 (oneM l i l[i])) ∧ Below w.heap.size w w' := by
  have HR : Hid (RowC w B g l) := hR
  have HOk : Hid (okC l i) := hok
  obtain ⟨c0, c1, -, -, c4, gk, c5, hrow⟩ := hR i hi
  have HBr : Hid (Calls Tryz.prog 135 #[.pointer (some ⟨g, i * 6, none⟩)] w fun e w' => e = .returned (.bool (bareC l[i])) ∧ w' = w) := by
    obtain ⟨d0, d1, d2, d3, d4, gk', d5, -⟩ := hR i hi
    exact l4Bare_any _ _ _ g (i * 6) w d0 d2 d3 d4 d5
  have HPl : Hid (∀ u, Below w.heap.size w u → parBad i l[i].parent = false → Calls Tryz.prog 138 #[.slice (some ⟨g, 0, none⟩) l.length cap, .int .i64 (i : Int)] u fun e w' => e = .returned (.bool (placeB l i l[i])) ∧ Below u.heap.size u w') := fun u hu hp => l4Place_any B g cap l u i (hR.below hu) hi hlm hok hp
  have HLi : Hid (0 < i → Calls Tryz.prog 136 #[.slice (some ⟨g, 0, none⟩) l.length cap, .int .i64 (i : Int)] w fun e w' => e = .returned (.bool (decide (l[i].parent ∈ upLC (zC (l.take i)) ((i : Int) - 1)))) ∧ w' = w) := fun h0 =>
    l4Line_any B g cap l w i hR hi h0 hlm (parsC_of (l := l) (k := i) (by omega) (by simp [zC, Function.comp_def]) hok)
  have HD : Hid (∀ u, Below w.heap.size w u → Calls Tryz.prog 60 #[.slice (some ⟨gk, 0, none⟩) l[i].data.length l[i].data.length] u fun e w' => e = .returned (.int .i64 (dataFault l[i].data)) ∧ w' = u) := fun u hu => l3Fault_any _ _ B _ u (own_below hrow hu) (name_le hz.names)
  have HNm : Hid (∀ u, Calls Tryz.prog 72 #[.int .i64 l[i].kind] u fun e w' => e = .returned (.bool (namedK l[i].kind)) ∧ w' = u) := fun u => l4Named_any _ u
  have HNa : Hid (∀ u, Calls Tryz.prog 137 #[.string l[i].name] u fun e w' => e = .returned (.bool (namC l[i].name)) ∧ Below u.heap.size u w') := fun u => l4Name_any _ u (by have := hz.name; omega)
  obtain ⟨t, ht⟩ : ∃ t, t = l[i]'hi := ⟨_, rfl⟩
  rw [← ht] at c0 c1 c4 c5 HBr HPl HLi HD HNm HNa ⊢
  clear hR hok hz hrow
  have HRes : Hid (oneM l i t = if bareC t = false then 1 else if parBad i t.parent = true then 3 else if lineBad l i t.parent = true then 1 else if nameBad t = true then 5
    else if dataBad t = true then dataFault t.data else if defBad i t = true then 1 else if placeB l i t = false then 3 else 0) := rfl
  generalize oneM l i t = R at HRes ⊢
  have hi160 : (i : Int) < 1000 := by omega
  have hin : (i : Int) < (l.length : Int) := by omega
  clear ht hlm
  cases hb : bareC t with
  | false =>
    rw [hb] at HBr HRes
    obtain rfl : R = 1 := by rw [HRes.out]; rfl
    go_enter Tryz.func91, Tryz.ntmps91
    go_wp2_with (go_at_call 135; refine HBr.out.mono ?_; rintro e w' ⟨rfl, hw'⟩; replace hw' := hw'.symm; subst hw')
    go_ret
    exact ⟨rfl, Below.refl _ _⟩
  | true =>
    rw [hb] at HBr HRes
    have HRe : Hid (R = if parBad i t.parent = true then 3 else if lineBad l i t.parent = true then 1 else if nameBad t = true then 5
      else if dataBad t = true then dataFault t.data else if defBad i t = true then 1 else if placeB l i t = false then 3 else 0) := by show _ = _; rw [HRes.out]; rfl
    clear HRes hb
    go_enter Tryz.func91, Tryz.ntmps91
    go_upto_region 4 with (go_at_call 135; refine HBr.out.mono ?_; rintro e w' ⟨rfl, hw'⟩; replace hw' := hw'.symm; subst hw')
    go_cut [35] from 7 to 83 (fun v wx => v = .bool (parBad i t.parent) ∧ wx = w)
    case first =>
      by_cases hk0 : i = 0
      · have hkz : ((i : Int) == 0) = true := by rw [beq_iff_eq]; omega
        have HV : Hid (parBad i t.parent = (t.parent != -1)) := by show parBad i t.parent = _; rw [hk0]; simp [parBad]
        have hkn : ¬ 0 < (i : Int) := by omega
        clear hk0
        cases hm : (t.parent != -1)
        all_goals
          go_wp2
          go_meet
          exact ⟨by rw [HV.out, hm], rfl⟩
      · have hkz : ((i : Int) == 0) = false := by rw [beq_eq_false_iff_ne]; omega
        have hkp : 0 < (i : Int) := by omega
        have HV : Hid (parBad i t.parent = !(decide (0 ≤ t.parent) && decide (t.parent ≤ (i : Int) - 1))) := by
          have h1 : (i == 0) = false := by simpa using hk0
          have h2 : 0 < i := by omega
          show parBad i t.parent = _
          simp [parBad, h1, h2]
        clear hk0
        cases hin2 : (decide (0 ≤ t.parent) && decide (t.parent ≤ (i : Int) - 1))
        all_goals
          go_wp2_with (go_at_call 98; refine (l1In_any _ _ _ _).mono ?_; rintro e w' ⟨rfl, hw'⟩; replace hw' := hw'.symm; subst hw')
          go_meet
          exact ⟨by rw [HV.out, hin2]; rfl, rfl⟩
    case rest =>
      obtain ⟨rfl, hwc⟩ := hcut
      replace hwc := hwc.symm; subst hwc
      cases hpb : parBad i t.parent with
      | true =>
        rw [hpb] at HRe
        have HC : Hid (R = 3) := HRe.out
        go_wp2
        go_ret
        exact ⟨by rw [HC.out]; rfl, Below.refl _ _⟩
      | false =>
        have HP0 : Hid (parBad i t.parent = false) := hpb
        have HRf : Hid (R = if lineBad l i t.parent = true then 1 else if nameBad t = true then 5
          else if dataBad t = true then dataFault t.data else if defBad i t = true then 1 else if placeB l i t = false then 3 else 0) := by show _ = _; rw [HRe.out, hpb]; rfl
        clear HRe hpb
        go_upto_region 6 with fail
        go_cut [43] from 7 to 83 (fun v wx => v = .bool (lineBad l i t.parent) ∧ wx = w)
        case first =>
          by_cases hk0 : 0 < (i : Int)
          · have HL2 : Hid (Calls Tryz.prog 136 #[.slice (some ⟨g, 0, none⟩) l.length cap, .int .i64 (i : Int)] w fun e w' => e = .returned (.bool (decide (t.parent ∈ upLC (zC (l.take i)) ((i : Int) - 1)))) ∧ w' = w) := HLi.out (by omega)
            have HV : Hid (lineBad l i t.parent = !(decide (t.parent ∈ upLC (zC (l.take i)) ((i : Int) - 1)))) := by
              have h2 : 0 < i := by omega
              show lineBad l i t.parent = _
              simp [lineBad, h2]
            cases hli : decide (t.parent ∈ upLC (zC (l.take i)) ((i : Int) - 1))
            all_goals
              rw [hli] at HL2
              go_wp2_with (go_at_call 136; refine HL2.out.mono ?_; rintro e w' ⟨rfl, hw'⟩; replace hw' := hw'.symm; subst hw')
              go_meet
              exact ⟨by rw [HV.out, hli]; rfl, rfl⟩
          · have HV : Hid (lineBad l i t.parent = false) := by
              have h2 : ¬ 0 < i := by omega
              show lineBad l i t.parent = _
              simp [lineBad, h2]
            go_wp2
            go_meet
            exact ⟨by rw [HV.out], rfl⟩
        case rest =>
          obtain ⟨rfl, hwc⟩ := hcut
          replace hwc := hwc.symm; subst hwc
          cases hlb : lineBad l i t.parent with
          | true =>
            rw [hlb] at HRf
            have HC : Hid (R = 1) := HRf.out
            go_wp2
            go_ret
            exact ⟨by rw [HC.out]; rfl, Below.refl _ _⟩
          | false =>
            have HRg : Hid (R = if nameBad t = true then 5
              else if dataBad t = true then dataFault t.data else if defBad i t = true then 1 else if placeB l i t = false then 3 else 0) := by show _ = _; rw [HRf.out, hlb]; rfl
            clear HRf hlb
            go_upto_region 8 with fail
            go_cut [56] from 7 to 83 (fun v wx => v = .bool (nameBad t) ∧ Below w.heap.size w wx)
            case first =>
              have HV : Hid (nameBad t = (namedK t.kind && !namC t.name)) := rfl
              cases hnk : namedK t.kind <;> cases hnc : namC t.name
              all_goals
                rw [hnk] at HNm
                rw [hnc] at HNa
                go_wp2_with (first | (go_at_call 72; refine (HNm.out _).mono ?_; rintro e w' ⟨rfl, hw'⟩; replace hw' := hw'.symm; subst hw') | (go_at_call 137; refine (HNa.out _).mono ?_; rintro e w1 ⟨rfl, b1⟩))
                go_meet
                exact ⟨by rw [HV.out, hnk, hnc]; rfl, by first | exact b1 | exact Below.refl _ _⟩
            case rest =>
              obtain ⟨rfl, hwc⟩ := hcut
              have HB : Hid (Below w.heap.size w wc) := hwc
              replace c0 := cell_keep hwc c0
              replace c1 := cell_keep hwc c1
              replace c4 := cell_keep hwc c4
              replace c5 := cell_keep hwc c5
              clear hwc
              cases hnb : nameBad t with
              | true =>
                rw [hnb] at HRg
                have HC : Hid (R = 5) := HRg.out
                go_wp2
                go_ret
                exact ⟨by rw [HC.out]; rfl, HB.out⟩
              | false =>
                have HRh : Hid (R = if dataBad t = true then dataFault t.data else if defBad i t = true then 1 else if placeB l i t = false then 3 else 0) := by show _ = _; rw [HRg.out, hnb]; rfl
                clear HRg hnb
                have HP2 : Hid (Calls Tryz.prog 138 #[.slice (some ⟨g, 0, none⟩) l.length cap, .int .i64 (i : Int)] wc fun e w' => e = .returned (.bool (placeB l i t)) ∧ Below wc.heap.size wc w') := HPl.out wc HB.out HP0.out
                have HD2 : Hid (Calls Tryz.prog 60 #[.slice (some ⟨gk, 0, none⟩) t.data.length t.data.length] wc fun e w' => e = .returned (.int .i64 (dataFault t.data)) ∧ w' = wc) := HD.out wc HB.out
                by_cases hk1 : t.kind = 1
                · have e1 : (t.kind == 1) = true := by simpa using hk1
                  have e8 : (t.kind == 8) = false := by simp [hk1]
                  have HPl1 : Hid (placeB l i t = true) := placeB_else (by omega) (by omega)
                  have HDb : Hid (dataBad t = !(dataFault t.data == 0)) := by show _ = _; simp [dataBad, hk1]
                  have HDf : Hid (defBad i t = false) := by show _ = _; simp [defBad, hk1]
                  clear hk1
                  generalize dataFault t.data = df at HD2 HRh HDb
                  by_cases hd : df = 0
                  · subst hd
                    have HC : Hid (R = 0) := by
                      have e := HRh.out
                      rw [HDb.out, HDf.out, HPl1.out] at e
                      exact e
                    rw [HPl1.out] at HP2
                    go_wp2_with (first | (go_at_call 60; refine HD2.out.mono ?_; rintro e w' ⟨rfl, hw'⟩; replace hw' := hw'.symm; subst hw') | (go_at_call 138; refine HP2.out.mono ?_; rintro e w2 ⟨rfl, b2⟩))
                    go_ret
                    exact ⟨by rw [HC.out]; rfl, HB.out.trans (b2.mono HB.out.size)⟩
                  · have hne : (df != 0) = true := by simpa using hd
                    have HC : Hid (R = df) := by
                      have e := HRh.out
                      rw [HDb.out, show (df == 0) = false by simpa using hd] at e
                      exact e
                    clear hd
                    go_wp2_with (first | (go_at_call 60; refine HD2.out.mono ?_; rintro e w' ⟨rfl, hw'⟩; replace hw' := hw'.symm; subst hw'))
                    go_ret
                    exact ⟨by rw [HC.out]; rfl, HB.out⟩
                · have e1 : (t.kind == 1) = false := by simpa using hk1
                  have HDb : Hid (dataBad t = false) := by show _ = _; simp [dataBad, hk1]
                  have HRi : Hid (R = if defBad i t = true then 1 else if placeB l i t = false then 3 else 0) := by show _ = _; rw [HRh.out, HDb.out]; rfl
                  clear HRh HDb hk1 HD2
                  by_cases hk8 : t.kind = 8
                  · have e8 : (t.kind == 8) = true := by simpa using hk8
                    have HPl1 : Hid (placeB l i t = true) := placeB_else (by omega) (by omega)
                    rw [HPl1.out] at HP2 HRi
                    by_cases hi0 : 0 < (i : Int)
                    · have HC : Hid (R = 1) := by
                        have h2 : 0 < i := by omega
                        have e := HRi.out
                        simp [defBad, hk8, h2] at e
                        exact e
                      clear hk8
                      go_wp2
                      go_ret
                      exact ⟨by rw [HC.out]; rfl, HB.out⟩
                    · have HC : Hid (R = 0) := by
                        have h2 : i = 0 := by omega
                        have e := HRi.out
                        simp [defBad, hk8, h2] at e
                        exact e
                      clear hk8
                      go_wp2_with (go_at_call 138; refine HP2.out.mono ?_; rintro e w2 ⟨rfl, b2⟩)
                      go_ret
                      exact ⟨by rw [HC.out]; rfl, HB.out.trans (b2.mono HB.out.size)⟩
                  · have e8 : (t.kind == 8) = false := by simpa using hk8
                    have HRj : Hid (R = if placeB l i t = false then 3 else 0) := by
                      show _ = _
                      rw [HRi.out]; simp [defBad, hk8]
                    clear hk8 HRi
                    cases hp : placeB l i t with
                    | false =>
                      rw [hp] at HP2 HRj
                      have HC : Hid (R = 3) := HRj.out
                      go_wp2_with (go_at_call 138; refine HP2.out.mono ?_; rintro e w2 ⟨rfl, b2⟩)
                      go_ret
                      exact ⟨by rw [HC.out]; rfl, HB.out.trans (b2.mono HB.out.size)⟩
                    | true =>
                      rw [hp] at HP2 HRj
                      have HC : Hid (R = 0) := HRj.out
                      go_wp2_with (go_at_call 138; refine HP2.out.mono ?_; rintro e w2 ⟨rfl, b2⟩)
                      go_ret
                      exact ⟨by rw [HC.out]; rfl, HB.out.trans (b2.mono HB.out.size)⟩
end Go.Proofs.YtebnonpdaddniaaGreatDoor
