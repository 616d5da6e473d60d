/-
  The model's l5In, l5Heap and HeapFault: what is wrong with pairs; nothing is turned.
-/
import Derived.Test.YtbfhoennafopaaaSpecVF
import Derived.Test.YtbfhoennafopaaaHeapMath
namespace Go.Proofs.Ytbfhoennafopaaa
open Go.RowKit Go.Extern.Stop Go.Stop Go.Extern Num Go.Lib

theorem l5In_any (b o n : Nat) (t : Vlu) (w : World) (h : VluAt b o t w) :
    Calls Try.prog 57 #[.pointer (some ⟨b, o, none⟩), .int .i64 (n : Int)] w fun e w' => e = .returned (.bool (inH n t)) ∧ w' = w := by
  obtain ⟨c0, c1, c2⟩ := h
  have HR : Hid (inH n t = ((t.kind != 5) || decide (t.num < (n : Int)))) := rfl
  rw [HR.out]
  clear HR c2
  cases e5 : (t.kind != 5)
  · go_enter Try.func57, Try.ntmps57
    go_wp2
    go_ret
    exact ⟨by simp, rfl⟩
  · go_enter Try.func57, Try.ntmps57
    go_wp2
    go_ret
    exact ⟨rfl, rfl⟩
theorem RowP.hd {w : World} {g : Nat} {l : List Pai} (h : RowP w g l) (k : Nat) (hk : k < l.length) : VluAt g (k * 6) l[k].head w := ⟨(h k hk).1, (h k hk).2.1, (h k hk).2.2.1⟩
theorem RowP.tl {w : World} {g : Nat} {l : List Pai} (h : RowP w g l) (k : Nat) (hk : k < l.length) : VluAt g (k * 6 + 3) l[k].tail w := ⟨(h k hk).2.2.2.1, (h k hk).2.2.2.2.1, (h k hk).2.2.2.2.2⟩
set_option maxRecDepth 100000 in
set_option maxHeartbeats 2000000 in
theorem l5Heap_any (ao : Option Addr) (cap g : Nat) (l : List Pai) (w : World) (hl : l.length ≤ 1048576) (hao : 0 < l.length → ao = some ⟨g, 0, none⟩) (hr : RowP w g l) (hz : ableL l) :
    Calls Try.prog 55 #[.slice ao l.length cap] w fun e w' => e = .returned (.int .i64 (heapFault l)) ∧ w' = w := by
  obtain ⟨R, hR⟩ : ∃ R, R = heapFault l := ⟨_, rfl⟩
  rw [← hR]
  have HR : Hid (R = heapFault l) := hR
  have HP : Hid (RowP w g l) := hr
  have HZ : Hid (ableL l) := hz
  have HA : Hid (0 < l.length → ao = some ⟨g, 0, none⟩) := hao
  clear hR hr hz hao
  by_cases hm : 4000 < l.length
  · have HE : Hid (R = 2) := by show R = 2; rw [HR.out, heapFault, if_pos hm]
    have hm' : (4000 : Int) < (l.length : Int) := by omega
    clear HR
    go_enter Try.func55, Try.ntmps55
    go_wp2
    go_ret
    exact ⟨by rw [HE.out]; rfl, rfl⟩
  have HF : Hid (R = heapFrom 0 (l.drop 0)) := by show R = _; rw [HR.out, heapFault, if_neg hm]; rfl
  have hm' : ¬ (4000 : Int) < (l.length : Int) := by omega
  clear HR
  go_enter Try.func55, Try.ntmps55
  go_wp2_with fail
  go_loop [3] (fun i => ∃ k : Nat, k ≤ l.length ∧ i = .int .i64 (k : Int) ∧ Hid (R = heapFrom k (l.drop k))) (fun i => l.length - (RowKit.intOf i).toNat)
  case atStart => exact ⟨0, Nat.zero_le _, rfl, HF.out⟩
  case round =>
    obtain ⟨k, hk, rfl, HK⟩ := hrel
    by_cases hlt : k < l.length
    · obtain rfl := HA.out (by omega)
      have hv0 := HP.out.hd k hlt
      have hv1 := HP.out.tl k hlt
      have hz0 := HZ.out k hlt
      obtain ⟨c0, hc0⟩ : ∃ c, c = vfault (l[k]'hlt).head := ⟨_, rfl⟩
      obtain ⟨c1, hc1⟩ : ∃ c, c = vfault (l[k]'hlt).tail := ⟨_, rfl⟩
      obtain ⟨b0, hb0⟩ : ∃ b, b = inH k (l[k]'hlt).head := ⟨_, rfl⟩
      obtain ⟨b1, hb1⟩ : ∃ b, b = inH k (l[k]'hlt).tail := ⟨_, rfl⟩
      have HC0 : Hid (Calls Try.prog 56 #[.pointer (some ⟨g, k * 6, none⟩)] w fun e w' => e = .returned (.int .i64 c0) ∧ w' = w) := by rw [hc0]; exact l5Fault_any g (k * 6) _ w hz0.1 hv0
      have HC1 : Hid (Calls Try.prog 56 #[.pointer (some ⟨g, k * 6 + 3, none⟩)] w fun e w' => e = .returned (.int .i64 c1) ∧ w' = w) := by rw [hc1]; exact l5Fault_any g (k * 6 + 3) _ w hz0.2 hv1
      have HI0 : Hid (Calls Try.prog 57 #[.pointer (some ⟨g, k * 6, none⟩), .int .i64 (k : Int)] w fun e w' => e = .returned (.bool b0) ∧ w' = w) := by rw [hb0]; exact l5In_any g (k * 6) k _ w hv0
      have HI1 : Hid (Calls Try.prog 57 #[.pointer (some ⟨g, k * 6 + 3, none⟩), .int .i64 (k : Int)] w fun e w' => e = .returned (.bool b1) ∧ w' = w) := by rw [hb1]; exact l5In_any g (k * 6 + 3) k _ w hv1
      have HPf : Hid (pfault k (l[k]'hlt) = if c0 ≠ 0 then c0 else if c1 ≠ 0 then c1 else if (b0 && b1) = true then 0 else 1) := by show pfault k _ = _; rw [hc0, hc1, hb0, hb1]; rfl
      clear hv0 hv1 hz0 hc0 hc1 hb0 hb1
      by_cases h0 : c0 = 0
      · subst h0
        by_cases h1 : c1 = 0
        · subst h1
          cases b0
          · have HE : Hid (R = 1) := by
              have e : pfault k (l[k]'hlt) = 1 := by rw [HPf.out]; simp
              show R = 1; rw [HK.out, heapFrom_bad l k hlt (by rw [e]; decide), e]
            clear HPf HK
            go_wp2_with fail
            refine HC0.out.mono ?_
            rintro e w' ⟨rfl, rfl⟩
            go_wp2_with fail
            refine HC1.out.mono ?_
            rintro e w' ⟨rfl, rfl⟩
            go_wp2_with fail
            refine HI0.out.mono ?_
            rintro e w' ⟨rfl, rfl⟩
            go_wp2
            go_ret
            exact ⟨by rw [HE.out]; rfl, rfl⟩
          · cases b1
            · have HE : Hid (R = 1) := by
                have e : pfault k (l[k]'hlt) = 1 := by rw [HPf.out]; simp
                show R = 1; rw [HK.out, heapFrom_bad l k hlt (by rw [e]; decide), e]
              clear HPf HK
              go_wp2_with fail
              refine HC0.out.mono ?_
              rintro e w' ⟨rfl, rfl⟩
              go_wp2_with fail
              refine HC1.out.mono ?_
              rintro e w' ⟨rfl, rfl⟩
              go_wp2_with fail
              refine HI0.out.mono ?_
              rintro e w' ⟨rfl, rfl⟩
              go_wp2_with fail
              refine HI1.out.mono ?_
              rintro e w' ⟨rfl, rfl⟩
              go_wp2
              go_ret
              exact ⟨by rw [HE.out]; rfl, rfl⟩
            · have HE : Hid (R = heapFrom (k + 1) (l.drop (k + 1))) := by
                have e : pfault k (l[k]'hlt) = 0 := by rw [HPf.out]; simp
                show R = _; rw [HK.out, heapFrom_ok l k hlt e]
              clear HPf HK
              go_wp2_with fail
              refine HC0.out.mono ?_
              rintro e w' ⟨rfl, rfl⟩
              go_wp2_with fail
              refine HC1.out.mono ?_
              rintro e w' ⟨rfl, rfl⟩
              go_wp2_with fail
              refine HI0.out.mono ?_
              rintro e w' ⟨rfl, rfl⟩
              go_wp2_with fail
              refine HI1.out.mono ?_
              rintro e w' ⟨rfl, rfl⟩
              go_wp2
              exact ⟨⟨k + 1, by omega, by go_num, HE.out⟩, by simp [RowKit.intOf]; omega⟩
        · have HE : Hid (R = c1) := by
            have e : pfault k (l[k]'hlt) = c1 := by rw [HPf.out]; simp [h1]
            show R = c1; rw [HK.out, heapFrom_bad l k hlt (by rw [e]; exact h1), e]
          have h1' : (c1 != 0) = true := by simpa using h1
          clear HPf HK h1
          go_wp2_with fail
          refine HC0.out.mono ?_
          rintro e w' ⟨rfl, rfl⟩
          go_wp2_with fail
          refine HC1.out.mono ?_
          rintro e w' ⟨rfl, rfl⟩
          go_wp2
          go_ret
          exact ⟨by rw [HE.out]; rfl, rfl⟩
      · have HE : Hid (R = c0) := by
          have e : pfault k (l[k]'hlt) = c0 := by rw [HPf.out]; simp [h0]
          show R = c0; rw [HK.out, heapFrom_bad l k hlt (by rw [e]; exact h0), e]
        have h0' : (c0 != 0) = true := by simpa using h0
        clear HPf HK h0
        go_wp2_with fail
        refine HC0.out.mono ?_
        rintro e w' ⟨rfl, rfl⟩
        go_wp2
        go_ret
        exact ⟨by rw [HE.out]; rfl, rfl⟩
    · have HE : Hid (R = 0) := by show R = 0; rw [HK.out, heapFrom_end l k (by omega)]
      clear HK
      go_wp2
      go_ret
      exact ⟨by rw [HE.out]; rfl, rfl⟩
end Go.Proofs.Ytbfhoennafopaaa
