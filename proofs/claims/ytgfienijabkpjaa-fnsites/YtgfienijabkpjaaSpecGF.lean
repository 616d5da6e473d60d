/-
  The model's GlobalsFault; nothing is turned.
-/
import Derived.Test.YtgfienijabkpjaaSpecG
namespace Go.Proofs.Ytgfienijabkpjaa
open Go.RowKit Go.Extern.Stop Go.Stop Go.Extern Num Go.Lib

set_option maxRecDepth 100000 in
set_option maxHeartbeats 2000000 in
theorem l7Fault_any (ao : Option Addr) (cap g : Nat) (l : List Glb) (w : World) (hl : l.length ≤ 1048576) (hcap : l.length ≤ cap) (hcm : cap ≤ 9223372036854775807) (hao : 0 < l.length → ao = some ⟨g, 0, none⟩) (hr : RowG w g l) (hz : ableG l) :
    Calls Try.prog 69 #[.slice ao l.length cap] w fun e w' => e = .returned (.int .i64 (globFault l)) ∧ Below w.heap.size w w' := by
  obtain ⟨R, hR⟩ : ∃ R, R = globFault l := ⟨_, rfl⟩
  rw [← hR]
  have HR : Hid (R = globFault l) := hR
  have HP : Hid (RowG w g l) := hr
  have HZ : Hid (ableG l) := hz
  have HA : Hid (0 < l.length → ao = some ⟨g, 0, none⟩) := hao
  clear hR hr hz hao
  by_cases hm : 60 < l.length
  · have HE : Hid (R = 2) := by show R = 2; rw [HR.out, globFault, if_pos hm]
    have hm' : (60 : Int) < (l.length : Int) := by omega
    clear HR
    go_enter Try.func69, Try.ntmps69
    go_wp2
    go_ret
    exact ⟨by rw [HE.out]; rfl, Below.refl _ _⟩
  have HF : Hid (R = globFrom l 0 (l.drop 0)) := by show R = _; rw [HR.out, globFault, if_neg hm]; rfl
  have hm' : ¬ (60 : Int) < (l.length : Int) := by omega
  clear HR
  go_enter Try.func69, Try.ntmps69
  go_wp2_with fail
  go_loopw [3] (fun i wr => ∃ k : Nat, k ≤ l.length ∧ i = .int .i64 (k : Int) ∧ Hid (R = globFrom l k (l.drop k)) ∧ Hid (Below w.heap.size w wr)) (fun i _ => l.length - (RowKit.intOf i).toNat)
  case atStart => exact ⟨0, Nat.zero_le _, rfl, HF.out, Below.refl _ _⟩
  case round =>
    obtain ⟨k, hk, rfl, HK, HB⟩ := hrel
    by_cases hlt : k < l.length
    · obtain rfl := HA.out (by omega)
      have HP2 : Hid (RowG wr g l) := HP.out.below HB.out
      have hz0 := HZ.out k hlt
      have c0 := (HP2.out k hlt).1
      have c4 := (HP2.out k hlt).2.2.2.2
      obtain ⟨b0, hb0⟩ : ∃ b, b = symL (l[k]'hlt).name.data.toList := ⟨_, rfl⟩
      obtain ⟨c1, hc1⟩ : ∃ c, c = vfault (l[k]'hlt).value := ⟨_, rfl⟩
      obtain ⟨b2, hb2⟩ : ∃ b, b = (decide (1 ≤ (l[k]'hlt).ver) && decide ((l[k]'hlt).ver ≤ 99999)) := ⟨_, rfl⟩
      obtain ⟨i3, hi3⟩ : ∃ i, i = atI (atG (l.take k) (l[k]'hlt).name) := ⟨_, rfl⟩
      have H0 : Hid (Calls Try.prog 73 #[.string (l[k]'hlt).name] wr fun e w' => e = .returned (.bool b0) ∧ w' = wr) := by rw [hb0]; exact sym_any _ wr hz0.1
      have H1 : Hid (Calls Try.prog 42 #[.pointer (some ⟨g, k * 5 + 1, none⟩)] wr fun e w' => e = .returned (.int .i64 c1) ∧ w' = wr) := by rw [hc1]; exact l5Fault_any g (k * 5 + 1) _ wr hz0.2 (HP2.out.vl k hlt)
      have H2 : Hid (Calls Try.prog 89 #[.int .i64 (l[k]'hlt).ver] wr fun e w' => e = .returned (.bool b2) ∧ w' = wr) := by rw [hb2]; exact l7Ver_any _ wr
      have H3 : Hid (∀ p : BW wr, Calls Try.prog 44 #[.slice (some ⟨g, 0, none⟩) k cap, .string (l[k]'hlt).name] p.x fun e w' => e = .returned (.int .i64 i3) ∧ Below p.x.heap.size p.x w') := fun p => by
        have hlk : (l.take k).length = k := by rw [List.length_take]; omega
        have h := l7At_any (some ⟨g, 0, none⟩) cap g (l.take k) (l[k]'hlt).name p.x (by omega) (fun _ => rfl) ((HP2.out.below p.h).take k)
        rw [hlk, ← hi3] at h
        refine h.mono ?_
        rintro e w' ⟨rfl, rfl⟩
        exact ⟨rfl, Below.refl _ _⟩
      have HPf : Hid (goneG l k (l[k]'hlt) = if b0 = false then 5 else if c1 ≠ 0 then c1 else if b2 = false then 3 else if 0 ≤ i3 then 1 else 0) := by
        show goneG l k _ = _
        unfold goneG
        rw [← hb0, ← hc1]
        have e2 : (¬ (1 ≤ (l[k]'hlt).ver ∧ (l[k]'hlt).ver ≤ 99999)) ↔ b2 = false := by rw [hb2, Bool.and_eq_false_iff]; simp only [decide_eq_false_iff_not]; omega
        have e3 : ((atG (l.take k) (l[k]'hlt).name).isSome = true) ↔ 0 ≤ i3 := by
          rw [hi3]
          cases atG (l.take k) (l[k]'hlt).name with
          | none => simp [atI]
          | some j => simp [atI]
        simp only [e2, e3]
      clear hz0 hb0 hc1 hb2 hi3
      cases b0
      · have HE : Hid (R = 5) := by
          have e : goneG l k (l[k]'hlt) = 5 := by rw [HPf.out]; simp
          show R = 5; rw [HK.out, globFrom_bad l k hlt (by rw [e]; decide), e]
        clear HPf HK
        go_wp2_with fail
        refine H0.out.mono ?_
        rintro e w' ⟨rfl, rfl⟩
        go_wp2
        go_ret
        exact ⟨by rw [HE.out]; rfl, HB.out⟩
      go_wp2_with fail
      refine H0.out.mono ?_
      rintro e w' ⟨rfl, rfl⟩
      go_wp2_with fail
      refine H1.out.mono ?_
      rintro e w' ⟨rfl, rfl⟩
      by_cases h1 : c1 = 0
      case neg =>
        have HE : Hid (R = c1) := by
          have e : goneG l k (l[k]'hlt) = c1 := by rw [HPf.out]; simp [h1]
          show R = c1; rw [HK.out, globFrom_bad l k hlt (by rw [e]; exact h1), e]
        have h1' : (c1 != 0) = true := by simpa using h1
        clear HPf HK h1
        go_wp2
        go_ret
        exact ⟨by rw [HE.out]; rfl, HB.out⟩
      subst h1
      go_wp2_with fail
      refine H2.out.mono ?_
      rintro e w' ⟨rfl, rfl⟩
      cases b2
      · have HE : Hid (R = 3) := by
          have e : goneG l k (l[k]'hlt) = 3 := by rw [HPf.out]; simp
          show R = 3; rw [HK.out, globFrom_bad l k hlt (by rw [e]; decide), e]
        clear HPf HK
        go_wp2
        go_ret
        exact ⟨by rw [HE.out]; rfl, HB.out⟩
      have a0 : ∀ p : BW w', p.x.cell? ⟨g, k * 5, none⟩ = some (.string (l[k]'hlt).name) := fun p => p.cell c0
      have hne := bw_some w'
      clear c0 c4
      go_wp2_with fail
      refine wp_region_below (by kernel_rfl) (by kernel_rfl) ?_
      repeat (go_big_quiet_step ((go_at_call 44; exact calls_bw (H3.out _))))
      refine wpQuiet_nil ?_
      intro wq hw'
      obtain ⟨⟨_, bq⟩, rfl⟩ := hw'
      have HB2 : Hid (Below w.heap.size w wq) := HB.out.trans (bq.mono HB.out.size)
      clear bq a0 hne
      by_cases h3 : 0 ≤ i3
      · have HE : Hid (R = 1) := by
          have e : goneG l k (l[k]'hlt) = 1 := by rw [HPf.out]; simp [h3]
          show R = 1; rw [HK.out, globFrom_bad l k hlt (by rw [e]; decide), e]
        clear HPf HK
        go_wp2
        go_ret
        exact ⟨by rw [HE.out]; rfl, HB2.out⟩
      · have HE : Hid (R = globFrom l (k + 1) (l.drop (k + 1))) := by
          have e : goneG l k (l[k]'hlt) = 0 := by rw [HPf.out]; simp [h3]
          show R = _; rw [HK.out, globFrom_ok l k hlt e]
        clear HPf HK
        go_wp2
        exact ⟨⟨k + 1, by omega, by go_num, HE.out, HB2.out⟩, by simp [RowKit.intOf]; omega⟩
    · have HE : Hid (R = 0) := by show R = 0; rw [HK.out, globFrom_end l k (by omega)]
      clear HK
      go_wp2
      go_ret
      exact ⟨by rw [HE.out]; rfl, HB.out⟩
end Go.Proofs.Ytgfienijabkpjaa
