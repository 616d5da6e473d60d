/-
  The program's heapOf: pairs that have no fault as a heap of words; nothing that was there is turned.
-/
import Derived.Test.YtgfienijabkpjaaDoorImplCons
import Derived.Test.YtgfienijabkpjaaDoorImplVF
import Derived.Test.YtgfienijabkpjaaDoorHeapMath
namespace Go.Proofs.YtgfienijabkpjaaDoor
open Go.RowKit Go.Extern.Stop Go.Stop Go.Extern Num Go.Lib

def wordsP (l : List Pai) : List (Wd × Wd) := l.map fun p => (wdOf p.head, wdOf p.tail)
theorem wordsP_len (l : List Pai) : (wordsP l).length = l.length := by simp [wordsP]
theorem wordsP_take (l : List Pai) (k : Nat) (h : k < l.length) : wordsP (l.take (k + 1)) = wordsP (l.take k) ++ [(wdOf (l[k]'h).head, wdOf (l[k]'h).tail)] := by
  unfold wordsP; rw [takeP l k h, List.map_append]; rfl
theorem inW_of (n : Nat) (t : Vlu) (h : vfault t = 0) : inW n (wdOf t) = inH n t := by
  unfold wdOf inW inH
  rw [if_pos h]
  by_cases h5 : t.kind = 5
  · simp [h5, least]
  · have : (t.kind == 5) = false := by simpa using h5
    simp [bne, this]
theorem makeQ (n : Nat) (hn : n ≤ 4000) (w : World) : (Instr.makeSlice 98 (.int .i64 0) (.int .i64 (n : Int))).run Tryd.prog w = .ok (.slice (some ⟨w.heap.size, 0, none⟩) 0 n) (w.alloc (.cells (madeCells #[.pointer none] (n * 1)) 105)) := by
  obtain ⟨i0, hi, hz0, hz1, hz2⟩ := info_parts infoQ
  have := run_make (P := Tryd.prog) w 98 105 i0 _ Tryd.underlying98 hi hz0 .i64 .i64 (0 : Int) (n : Int) (by omega) (by omega) (by rw [hz2]; omega) (by omega)
  rw [this, hz1]
  simp [Value.cells]
theorem initHp (w : World) (n : Nat) (hn : n ≤ 4000) : Heap ((w.alloc (.cells (madeCells #[.pointer none] n) 105)).alloc (.cells #[.slice (some ⟨w.heap.size, 0, none⟩) 0 n] 100)) w.heap.size (w.heap.size + 1) (wordsP []) := by
  refine ⟨.slice (some ⟨w.heap.size, 0, none⟩) 0 n, [], ⟨by omega, fun o => by rw [World.frozen?_alloc_at _ _ _ _ (by simp)], ⟨by rw [World.cell?_alloc_at _ _ _ _ (by simp)]; rfl, ?_, fun g hg => by simp [Value.ownBlock] at hg; omega⟩, rfl, (fun k h1 => by cases h1), (fun b hb => by cases hb)⟩⟩
  refine World.ownsRow.alloc ?_ _
  exact ⟨by simp [ptrs], .inr ⟨w.heap.size, n, _, rfl, Nat.le_refl _, heap_alloc_new w _, Nat.zero_le _, by unfold maxLen; omega, by simp [madeCells], by simp [ptrs]⟩⟩
set_option maxRecDepth 100000 in
set_option maxHeartbeats 2000000 in
theorem heapOf_any (ao : Option Addr) (cap g : Nat) (l : List Pai) (w : World) (hl : l.length ≤ 1048576) (hao : 0 < l.length → ao = some ⟨g, 0, none⟩) (hr : RowP w g l) (hz : ableL l) :
    Calls Tryd.prog 26 #[.slice ao l.length cap] w fun e w' => (∃ p, e = .returned (.tuple #[.pointer p, .int .i64 (heapFault l)]) ∧ (heapFault l = 0 → ∃ h, p = some ⟨h, 0, none⟩ ∧ Heap w' w.heap.size h (wordsP l))) ∧ Below w.heap.size w w' := by
  obtain ⟨R, hR⟩ : ∃ R, R = heapFault l := ⟨_, rfl⟩
  rw [← hR]
  have HR : Hid (R = heapFault l) := hR
  have HP : Hid (RowP w g l) := hr
  have HZ : Hid (ableL l) := hz
  have HA : Hid (0 < l.length → ao = some ⟨g, 0, none⟩) := hao
  clear hR hr hz hao
  by_cases hm : 4000 < l.length
  · have HE : Hid (R = 2) := by show R = 2; rw [HR.out, heapFault, if_pos hm]
    have hm' : (4000 : Int) < (l.length : Int) := by omega
    clear HR
    go_enter Tryd.func26, Tryd.ntmps26
    go_wp2
    exact bodyPost_ret (v := .tuple #[.pointer none, .int .i64 2]) (by simp [results, Tryd.results26, go_sem]) rfl ⟨⟨none, by rw [HE.out], fun e => by rw [HE.out] at e; cases e⟩, Below.refl _ _⟩
  have HF : Hid (R = heapFrom 0 (l.drop 0)) := by show R = _; rw [HR.out, heapFault, if_neg hm]; rfl
  have hm' : ¬ (4000 : Int) < (l.length : Int) := by omega
  have hmk := makeQ l.length (by omega)
  clear HR
  go_enter Tryd.func26, Tryd.ntmps26
  go_wp2_with fail
  go_loopw [20] (fun i wr => ∃ k : Nat, k ≤ l.length ∧ i = .int .i64 (k : Int) ∧ Hid (R = heapFrom k (l.drop k)) ∧ Hid (Heap wr w.heap.size (w.heap.size + 1) (wordsP (l.take k))) ∧ Hid (Below w.heap.size w wr)) (fun i _ => l.length - (RowKit.intOf i).toNat)
  case atStart => exact ⟨0, Nat.zero_le _, rfl, HF.out, initHp w l.length (by omega), ((Below.refl _ _).alloc (Nat.le_refl _) _).alloc (by simp) _⟩
  case round =>
    obtain ⟨k, hk, rfl, HK, HH, HB⟩ := hrel
    by_cases hlt : k < l.length
    · obtain rfl := HA.out (by omega)
      have hrow := HP.out.below HB.out k hlt
      obtain ⟨t, ht⟩ : ∃ t, t = l[k]'hlt := ⟨_, rfl⟩
      rw [← ht] at hrow
      obtain ⟨a0, a1, a2, a3, a4, a5⟩ := hrow
      have hzt : t.able := by rw [ht]; exact HZ.out k hlt
      obtain ⟨c0, hc0⟩ : ∃ c, c = vfault t.head := ⟨_, rfl⟩
      obtain ⟨c1, hc1⟩ : ∃ c, c = vfault t.tail := ⟨_, rfl⟩
      obtain ⟨x, hx⟩ : ∃ x, x = wdOf t.head := ⟨_, rfl⟩
      obtain ⟨y, hy⟩ : ∃ y, y = wdOf t.tail := ⟨_, rfl⟩
      have HC0 : Hid (∀ w, Calls Tryd.prog 54 #[t.head.val] w fun e w' => e = .returned (.tuple #[x.val, .int .i64 c0]) ∧ Below w.heap.size w w') := fun w => by rw [hx, hc0]; exact wordOf_any t.head w hzt.1
      have HC1 : Hid (∀ w, Calls Tryd.prog 54 #[t.tail.val] w fun e w' => e = .returned (.tuple #[y.val, .int .i64 c1]) ∧ Below w.heap.size w w') := fun w => by rw [hy, hc1]; exact wordOf_any t.tail w hzt.2
      have HT : Hid (t = l[k]'hlt ∧ c0 = vfault t.head ∧ c1 = vfault t.tail ∧ x = wdOf t.head ∧ y = wdOf t.tail) := ⟨ht, hc0, hc1, hx, hy⟩
      clear ht hc0 hc1 hx hy hzt
      go_wp2_with fail
      refine (HC0.out _).mono ?_
      rintro e w1 ⟨rfl, hb1⟩
      have q3 : w1.cell? ⟨wr.heap.size, 3, none⟩ = some (.int .i64 t.tail.kind) := by rw [(bcell hb1).1 _ _ (by simp), World.cell?_alloc_at _ _ _ _ rfl]; rfl
      have q4 : w1.cell? ⟨wr.heap.size, 4, none⟩ = some (.int .i64 t.tail.num) := by rw [(bcell hb1).1 _ _ (by simp), World.cell?_alloc_at _ _ _ _ rfl]; rfl
      have q5 : w1.cell? ⟨wr.heap.size, 5, none⟩ = some (.string t.tail.name) := by rw [(bcell hb1).1 _ _ (by simp), World.cell?_alloc_at _ _ _ _ rfl]; rfl
      have z1 : wr.heap.size < w1.heap.size := by have := hb1.size; simp at this; omega
      have BX1 : Hid (Below wr.heap.size wr w1) := ((Below.refl _ _).alloc (Nat.le_refl _) _).trans (hb1.mono (by simp))
      clear hb1 a0 a1 a2 a3 a4 a5
      by_cases h0 : c0 = 0
      case neg =>
        have HE : Hid (R = c0 ∧ c0 ≠ 0) := by
          obtain ⟨e1, e2, _⟩ := HT.out
          have e : pfault k (l[k]'hlt) = c0 := by rw [← e1]; unfold pfault; rw [if_pos (by rw [← e2]; exact h0), e2]
          exact ⟨by rw [HK.out, heapFrom_bad l k hlt (by rw [e]; exact h0), e], h0⟩
        have h0' : (c0 != 0) = true := by simpa using h0
        clear HK h0 HT
        go_wp2
        exact bodyPost_ret (v := .tuple #[.pointer none, .int .i64 c0]) (by simp [results, Tryd.results26, go_sem]) rfl ⟨⟨none, by rw [HE.out.1], fun e => absurd (HE.out.1 ▸ e) HE.out.2⟩, (HB.out.trans (BX1.out.mono HB.out.size)).alloc (by have := HB.out.size; omega) _⟩
      subst h0
      go_wp2_with fail
      refine (HC1.out _).mono ?_
      rintro e w2 ⟨rfl, hb2⟩
      have d0 : w2.cell? ⟨w1.heap.size, 0, none⟩ = some (.int .u8 x.tag) := by rw [(bcell hb2).1 _ _ (by simp), World.cell?_alloc_at _ _ _ _ rfl]; rfl
      have d1 : w2.cell? ⟨w1.heap.size, 1, none⟩ = some (.int .u64 x.rest) := by rw [(bcell hb2).1 _ _ (by simp), World.cell?_alloc_at _ _ _ _ rfl]; rfl
      have z2 : w1.heap.size < w2.heap.size := by have := hb2.size; simp at this; omega
      have BX2 : Hid (Below wr.heap.size wr w2) := (BX1.out.alloc (by omega) _).trans (hb2.mono (by simp; omega))
      clear hb2 q3 q4 q5 BX1
      by_cases h1 : c1 = 0
      case neg =>
        have HE : Hid (R = c1 ∧ c1 ≠ 0) := by
          obtain ⟨e1, e2, e3, _⟩ := HT.out
          have e : pfault k (l[k]'hlt) = c1 := by rw [← e1]; unfold pfault; rw [if_neg (by rw [← e2]; simp), if_pos (by rw [← e3]; exact h1), e3]
          exact ⟨by rw [HK.out, heapFrom_bad l k hlt (by rw [e]; exact h1), e], h1⟩
        have h1' : (c1 != 0) = true := by simpa using h1
        clear HK h1 HT
        go_wp2
        exact bodyPost_ret (v := .tuple #[.pointer none, .int .i64 c1]) (by simp [results, Tryd.results26, go_sem]) rfl ⟨⟨none, by rw [HE.out.1], fun e => absurd (HE.out.1 ▸ e) HE.out.2⟩, (HB.out.trans (BX2.out.mono HB.out.size)).alloc (by have := HB.out.size; omega) _⟩
      subst h1
      obtain ⟨b0, hb0⟩ : ∃ b, b = inW (wordsP (l.take k)).length x := ⟨_, rfl⟩
      obtain ⟨b1, hb1⟩ : ∃ b, b = inW (wordsP (l.take k)).length y := ⟨_, rfl⟩
      have hlk : (wordsP (l.take k)).length = k := by rw [wordsP_len, List.length_take]; omega
      have HH0 : Hid (∀ u, Below wr.heap.size wr u → Calls Tryd.prog 55 #[.pointer (some ⟨w.heap.size + 1, 0, none⟩), x.val] u fun e w' => e = .returned (.bool b0) ∧ Below u.heap.size u w') := fun u hu => by rw [hb0]; exact holds_any _ _ _ x u (HH.out.keep hu) (by omega)
      have HH1 : Hid (∀ u, Below wr.heap.size wr u → Calls Tryd.prog 55 #[.pointer (some ⟨w.heap.size + 1, 0, none⟩), y.val] u fun e w' => e = .returned (.bool b1) ∧ Below u.heap.size u w') := fun u hu => by rw [hb1]; exact holds_any _ _ _ y u (HH.out.keep hu) (by omega)
      have HPf : Hid (pfault k (l[k]'hlt) = if (b0 && b1) = true then 0 else 1) := by
        obtain ⟨e1, e2, e3, e4, e5⟩ := HT.out
        show pfault k _ = _
        rw [← e1, hb0, hb1, hlk, e4, e5, inW_of k _ e2.symm, inW_of k _ e3.symm]
        unfold pfault
        rw [if_neg (by rw [← e2]; simp), if_neg (by rw [← e3]; simp)]
      have HLK : Hid ((wordsP (l.take k)).length = k) := hlk
      have zw := HB.out.size
      clear hb0 hb1 hlk
      go_wp2_with fail
      refine (HH0.out _ (BX2.out.alloc (by omega) _)).mono ?_
      rintro e w3 ⟨rfl, hb3⟩
      have e0 : w3.cell? ⟨w1.heap.size, 0, none⟩ = some (.int .u8 x.tag) := by rw [(bcell hb3).1 _ _ (by simp; omega), World.cell?_alloc_past _ _ _ z2]; exact d0
      have e1 : w3.cell? ⟨w1.heap.size, 1, none⟩ = some (.int .u64 x.rest) := by rw [(bcell hb3).1 _ _ (by simp; omega), World.cell?_alloc_past _ _ _ z2]; exact d1
      have f0 : w3.cell? ⟨w2.heap.size, 0, none⟩ = some (.int .u8 y.tag) := by rw [(bcell hb3).1 _ _ (by simp), World.cell?_alloc_at _ _ _ _ rfl]; rfl
      have f1 : w3.cell? ⟨w2.heap.size, 1, none⟩ = some (.int .u64 y.rest) := by rw [(bcell hb3).1 _ _ (by simp), World.cell?_alloc_at _ _ _ _ rfl]; rfl
      have z3 : w2.heap.size < w3.heap.size := by have := hb3.size; simp at this; omega
      have BX3 : Hid (Below wr.heap.size wr w3) := (BX2.out.alloc (by omega) _).trans (hb3.mono (by simp; omega))
      clear hb3 d0 d1 BX2
      cases b0
      case false =>
        have HE : Hid (R = 1) := by
          have e : pfault k (l[k]'hlt) = 1 := by rw [HPf.out]; simp
          show R = 1; rw [HK.out, heapFrom_bad l k hlt (by rw [e]; decide), e]
        clear HPf HK HT
        go_wp2
        exact bodyPost_ret (v := .tuple #[.pointer none, .int .i64 1]) (by simp [results, Tryd.results26, go_sem]) rfl ⟨⟨none, by rw [HE.out], fun e => by rw [HE.out] at e; cases e⟩, HB.out.trans (BX3.out.mono HB.out.size)⟩
      go_wp2_with fail
      refine (HH1.out _ BX3.out).mono ?_
      rintro e w4 ⟨rfl, hb4⟩
      have e0' : w4.cell? ⟨w1.heap.size, 0, none⟩ = some (.int .u8 x.tag) := cell_keep hb4 e0
      have e1' : w4.cell? ⟨w1.heap.size, 1, none⟩ = some (.int .u64 x.rest) := cell_keep hb4 e1
      have f0' : w4.cell? ⟨w2.heap.size, 0, none⟩ = some (.int .u8 y.tag) := cell_keep hb4 f0
      have f1' : w4.cell? ⟨w2.heap.size, 1, none⟩ = some (.int .u64 y.rest) := cell_keep hb4 f1
      have z4 : w2.heap.size < w4.heap.size := by have := hb4.size; omega
      have BX4 : Hid (Below wr.heap.size wr w4) := BX3.out.trans (hb4.mono (by omega))
      clear hb4 e0 e1 f0 f1 BX3
      cases b1
      case false =>
        have HE : Hid (R = 1) := by
          have e : pfault k (l[k]'hlt) = 1 := by rw [HPf.out]; simp
          show R = 1; rw [HK.out, heapFrom_bad l k hlt (by rw [e]; decide), e]
        clear HPf HK HT
        go_wp2
        exact bodyPost_ret (v := .tuple #[.pointer none, .int .i64 1]) (by simp [results, Tryd.results26, go_sem]) rfl ⟨⟨none, by rw [HE.out], fun e => by rw [HE.out] at e; cases e⟩, HB.out.trans (BX4.out.mono HB.out.size)⟩
      have HE : Hid (R = heapFrom (k + 1) (l.drop (k + 1))) := by
        have e : pfault k (l[k]'hlt) = 0 := by rw [HPf.out]; simp
        show R = _; rw [HK.out, heapFrom_ok l k hlt e]
      have HW : Hid (wordsP (l.take (k + 1)) = wordsP (l.take k) ++ [(x, y)]) := by
        obtain ⟨e1, _, _, e4, e5⟩ := HT.out
        show _ = _
        rw [wordsP_take l k hlt, ← e1, e4, e5]
      clear HPf HK HT
      go_wp2_with fail
      refine (cons_any w.heap.size (w.heap.size + 1) (wordsP (l.take k)) x y w4 (by omega) (HH.out.keep BX4.out) (by have := HLK.out; omega)).mono ?_
      rintro e w5 ⟨rfl, hH5, hb5⟩
      have HH5 : Hid (Heap w5 w.heap.size (w.heap.size + 1) (wordsP (l.take (k + 1)))) := by show Heap _ _ _ _; rw [HW.out]; exact hH5
      have HB5 : Hid (Below w.heap.size w w5) := (HB.out.trans (BX4.out.mono HB.out.size)).trans hb5
      clear hH5 hb5 e0' e1' f0' f1' BX4
      go_wp2
      exact ⟨⟨k + 1, by omega, by go_num, HE.out, HH5.out, HB5.out⟩, by simp [RowKit.intOf]; omega⟩
    · have HE : Hid (R = 0) := by show R = 0; rw [HK.out, heapFrom_end l k (by omega)]
      have HH2 : Hid (Heap wr w.heap.size (w.heap.size + 1) (wordsP l)) := by
        have := HH.out
        rwa [List.take_of_length_le (by omega)] at this
      clear HK HH
      go_wp2
      exact bodyPost_ret (v := .tuple #[.pointer (some ⟨w.heap.size + 1, 0, none⟩), .int .i64 0]) (by simp [results, Tryd.results26, go_sem]) rfl ⟨⟨some ⟨w.heap.size + 1, 0, none⟩, by rw [HE.out], fun _ => ⟨_, rfl, HH2.out⟩⟩, HB.out⟩
end Go.Proofs.YtgfienijabkpjaaDoor
