/-
  The law FnConfigs answers true at all bytes: a setting's text tells it, and what is read is written as it was; nothing that was there is turned.
-/
import Derived.Test.YtebnonpdaddniaaGreatDoorDrawCf
import Derived.Test.YtebnonpdaddniaaGreatDoorLawCfP
import Derived.Test.YtebnonpdaddniaaGreatDoorLawCfF
namespace Go.Proofs.YtebnonpdaddniaaGreatDoor
open Go.RowKit Go.Extern.Stop Go.Stop Go.Extern Num Go.Lib

theorem cfL_of {x : ByteArray} {s t : Int} {p c : Bool} (h0 : 0 ≤ s) (h1 : 0 ≤ t) (h : isCfg x.data.toList s.toNat t.toNat p c) : cfF s t = 0 ∧ cfL s t p c = x.data.toList := by
  obtain ⟨a, b, d, e⟩ := h
  have ho : okS s t = true := okS_iff.2 ⟨by omega, by omega, h1, by omega⟩
  exact ⟨by unfold cfF; rw [if_pos ho], by unfold cfL; rw [if_pos ho]; exact e⟩
theorem ansP_of {s t : Int} {p c : Bool} (h : okS s t = true) : AnsP (cfL s t p c) 0 s t p c := by
  obtain ⟨a, b, d, e⟩ := okS_iff.1 h
  exact .inl ⟨rfl, by omega, d, by omega, by omega, by omega, by unfold cfL; rw [if_pos h]⟩
theorem cfg_short {s t : Int} {p c : Bool} (h : okS s t = true) : (cfL s t p c).length ≤ 100 ∧ 17 ≤ (cfL s t p c).length := by
  obtain ⟨g1, g2, g3, g4⟩ := okS_iff.1 h
  unfold cfL
  rw [if_pos h]
  refine ⟨?_, cfg_len _ _ _ _⟩
  rw [cfg_at]
  have a1 := dd_len (u := s.toNat) (by omega)
  have a2 := dd_len (u := t.toNat) (by omega)
  cases p <;> cases c <;> simp <;> omega
theorem S_of (x : ByteArray) : S x.data.toList = .string x := by simp [S]
/-- The box of a setting with its code. -/
structure BxR (w : World) (r : Nat) (k s t : Int) (p c : Bool) : Prop where
  c0 : w.cell? ⟨r, 0, none⟩ = some (.int .i64 k)
  c1 : w.cell? ⟨r, 1, none⟩ = some (.int .i64 s)
  c2 : w.cell? ⟨r, 2, none⟩ = some (.int .i64 t)
  c3 : w.cell? ⟨r, 3, none⟩ = some (.bool p)
  c4 : w.cell? ⟨r, 4, none⟩ = some (.bool c)
theorem BxR.new (w : World) (k s t : Int) (p c : Bool) (T : TypeId) : BxR (w.alloc (.cells #[.int .i64 k, .int .i64 s, .int .i64 t, .bool p, .bool c] T)) w.heap.size k s t p c :=
  ⟨by rw [World.cell?_alloc_at _ _ _ _ rfl]; rfl, by rw [World.cell?_alloc_at _ _ _ _ rfl]; rfl, by rw [World.cell?_alloc_at _ _ _ _ rfl]; rfl, by rw [World.cell?_alloc_at _ _ _ _ rfl]; rfl, by rw [World.cell?_alloc_at _ _ _ _ rfl]; rfl⟩
set_option maxRecDepth 100000 in
set_option maxHeartbeats 4000000 in
theorem lawFC_any (w : World) (ca : Option Addr) (len cap : Nat) (h : Bytes w ca len) (hmax : (len : Int) ≤ 9223372036854775807) (hL : LW w) (hM : ∃ m, w.cell? ⟨1, 0, none⟩ = some (.int .i64 m)) :
    Calls Tryz.prog 3 #[.slice ca len cap] w fun e w' => e = .returned (.bool true) ∧ Below w.heap.size w w' := by
  have HD : Hid (Calls Tryz.prog 9 #[.slice ca len cap] w fun e w' => ∃ x : ByteArray, e = .returned (.string x) ∧ x.size ≤ 1000 ∧ Below w.heap.size w w') := drawPC_any w ca len cap h hmax
  have HE : Hid (∀ u, Below w.heap.size w u → Calls Tryz.prog 13 #[.slice ca len cap] u fun e w' => ∃ s t p c, e = .returned (cfV s t p c) ∧ Below u.heap.size u w') := fun u hu => drawCfT_any u ca len cap (h.below hu) hmax
  obtain ⟨mx, hm⟩ := hM
  have HPi : Hid (∀ u, Below w.heap.size w u → ∀ (x : ByteArray) (k s t : Int) (p c : Bool), AnsP x.data.toList k s t p c → x.size ≤ 1048576 → Calls Tryz.prog 10 #[.string x] u fun e w' => e = .returned (crV k s t p c) ∧ Below u.heap.size u w') := fun u hu x k s t p c hA hs => implPC_any x k s t p c hA mx u hs (hL.below hu) (cell_keep hu hm)
  have HPs : Hid (∀ u, ∀ (x : ByteArray) (k s t : Int) (p c : Bool), AnsP x.data.toList k s t p c → Calls Tryz.prog 12 #[.string x] u fun e w' => e = .returned (crV k s t p c) ∧ Below u.heap.size u w') := fun u x k s t p c hA => specPC_any x k s t p c hA u
  have HTi : Hid (∀ u, Below w.heap.size w u → ∀ (s t : Int) (p c : Bool), Calls Tryz.prog 11 #[cfV s t p c] u fun e w' => e = .returned (TR (cfF s t) (cfL s t p c)) ∧ Below u.heap.size u w') := fun u hu s t p c => implCfT_any s t p c u (hL.lt.tab.below hu)
  have HTs : Hid (∀ u, ∀ (s t : Int) (p c : Bool), Calls Tryz.prog 14 #[cfV s t p c] u fun e w' => e = .returned (TR (cfF s t) (cfL s t p c)) ∧ Below u.heap.size u w') := fun u s t p c => specCfT_any s t p c u
  have HFi : Hid (∀ u, ∀ (s t : Int) (p c : Bool), Calls Tryz.prog 15 #[cfV s t p c] u fun e w' => e = .returned (.int .i64 (cfF s t)) ∧ Below u.heap.size u w') := fun u s t p c => implCfF_any s t p c u
  clear h hmax hL hm
  go_enter Tryz.func3, Tryz.ntmps3
  go_wp2_with fail
  refine (big_any _ ca len cap).mono ?_
  rintro e w0 ⟨t, rfl, hw0⟩
  replace hw0 := hw0.symm
  subst hw0
  cases t with
  | true =>
    go_wp2
    go_ret
    exact ⟨rfl, Below.refl _ _⟩
  | false =>
  go_wp2_with fail
  refine HD.out.mono ?_
  rintro e w1 ⟨x, rfl, hx, b1⟩
  have B1 : Hid (Below w.heap.size w w1) := b1
  obtain ⟨k, s, t, p, c, hA⟩ := ansP_ex x.data.toList
  have HPi1 : Hid (∀ u, Below w.heap.size w u → Calls Tryz.prog 10 #[.string x] u fun e w' => e = .returned (crV k s t p c) ∧ Below u.heap.size u w') := fun u hu => HPi.out u hu x k s t p c hA (by omega)
  have HPs1 : Hid (∀ u, Calls Tryz.prog 12 #[.string x] u fun e w' => e = .returned (crV k s t p c) ∧ Below u.heap.size u w') := fun u => HPs.out u x k s t p c hA
  have HA : Hid ((k = 0 ∧ cfF s t = 0 ∧ cfL s t p c = x.data.toList) ∨ k = 5) := by
    rcases hA with ⟨rfl, h0, h1, h⟩ | ⟨rfl, _⟩
    · exact .inl ⟨rfl, (cfL_of h0 h1 h).1, (cfL_of h0 h1 h).2⟩
    · exact .inr rfl
  clear b1 hA HD
  go_wp2_with fail
  refine (HPi1.out _ B1.out).mono ?_
  rintro e w2 ⟨rfl, b2⟩
  have B2 : Hid (Below w.heap.size w (w2.alloc (.cells #[.int .i64 k, .int .i64 s, .int .i64 t, .bool p, .bool c] 28))) := (B1.out.trans (b2.mono B1.out.size)).alloc (Nat.le_trans B1.out.size b2.size) _
  have X2 : Hid (BxR (w2.alloc (.cells #[.int .i64 k, .int .i64 s, .int .i64 t, .bool p, .bool c] 28)) w2.heap.size k s t p c) := BxR.new _ _ _ _ _ _ _
  obtain ⟨W, hW⟩ : ∃ W, W = (w2.alloc (.cells #[.int .i64 k, .int .i64 s, .int .i64 t, .bool p, .bool c] 28)) := ⟨_, rfl⟩
  have hz2 : w2.heap.size < W.heap.size := by rw [hW]; simp
  clear b2 HPi1
  go_wp2_with fail
  rw [← hW] at B2 X2 ⊢
  clear hW
  obtain ⟨x0, x1, x2, x3, x4⟩ := X2.out
  have q0 : ∀ p : BW W, p.x.cell? ⟨w2.heap.size, 0, none⟩ = some (.int .i64 k) := fun p => p.cell x0
  have q1 : ∀ p : BW W, p.x.cell? ⟨w2.heap.size, 1, none⟩ = some (.int .i64 s) := fun p => p.cell x1
  have q2 : ∀ p : BW W, p.x.cell? ⟨w2.heap.size, 2, none⟩ = some (.int .i64 t) := fun p => p.cell x2
  have q3 : ∀ p' : BW W, p'.x.cell? ⟨w2.heap.size, 3, none⟩ = some (.bool p) := fun p => p.cell x3
  have q4 : ∀ p : BW W, p.x.cell? ⟨w2.heap.size, 4, none⟩ = some (.bool c) := fun p => p.cell x4
  clear x0 x1 x2 x3 x4 X2 hx
  have hne := bw_some W
  have fT0 : ∀ (k' : Int) (z : ByteArray) (u : World), (Instr.field 31 (.agg #[.int .i64 k', .string z]) 0).run Tryz.prog u = .ok (.int .i64 k') u := fun _ _ _ => by kernel_rfl
  have fT1 : ∀ (k' : Int) (z : ByteArray) (u : World), (Instr.field 31 (.agg #[.int .i64 k', .string z]) 1).run Tryz.prog u = .ok (.string z) u := fun _ _ _ => by kernel_rfl
  have fC0 : ∀ (k' s' t' : Int) (p' c' : Bool) (u : World), (Instr.field 28 (crV k' s' t' p' c') 0).run Tryz.prog u = .ok (.int .i64 k') u := fun _ _ _ _ _ _ => by kernel_rfl
  have fC1 : ∀ (k' s' t' : Int) (p' c' : Bool) (u : World), (Instr.field 28 (crV k' s' t' p' c') 1).run Tryz.prog u = .ok (cfV s' t' p' c') u := fun _ _ _ _ _ _ => by kernel_rfl
  have HBW : Hid (∀ p : BW W, Below w.heap.size w p.x) := fun p => B2.out.trans (p.h.mono B2.out.size)
  have z2 : w.heap.size ≤ W.heap.size := B2.out.size
  rcases HA.out with ⟨rfl, hf, hl⟩ | rfl
  case' inl =>
    have HT1 : Hid (∀ u, Below w.heap.size w u → Calls Tryz.prog 11 #[.agg #[.int .i64 s, .int .i64 t, .bool p, .bool c]] u fun e w' => e = .returned (.agg #[.int .i64 0, .string x]) ∧ Below u.heap.size u w') := fun u hu => (HTi.out u hu s t p c).mono fun e w' ⟨h1, h2⟩ => ⟨by rw [h1, hf, hl], h2⟩
    clear hf hl
    refine wp_region_below (by kernel_rfl) (by kernel_rfl) ?_
    repeat (go_big_quiet_step ((go_at_call 11; exact calls_bw (HT1.out _ (HBW.out _)))))
  case' inr =>
    refine wp_region_below (by kernel_rfl) (by kernel_rfl) ?_
    repeat (go_big_quiet_step ((go_at_call 12; exact calls_bw (HPs1.out _))))
  all_goals
    refine wpQuiet_nil ?_
    intro wq hw'
    obtain ⟨⟨_, b5⟩, rfl⟩ := hw'
    have B5 : Hid (Below w.heap.size w wq) := B2.out.trans (b5.mono B2.out.size)
    clear q0 q1 q2 q3 q4 hne HBW b5 B2 HPs1 HA
    go_wp2_with fail
    refine (HE.out _ B5.out).mono ?_
    rintro e w3 ⟨s', t', p', c', rfl, b3⟩
    have B3 : Hid (Below w.heap.size w (w3.alloc (.cells #[.int .i64 s', .int .i64 t', .bool p', .bool c'] 26))) := (B5.out.trans (b3.mono B5.out.size)).alloc (Nat.le_trans B5.out.size b3.size) _
    clear b3 HE
    have HQ : Hid (∃ (k' : Int) (y : ByteArray), cfF s' t' = k' ∧ S (cfL s' t' p' c') = .string y ∧ ((k' = 0 ∧ AnsP y.data.toList 0 s' t' p' c' ∧ y.size ≤ 100 ∧ 17 ≤ y.size) ∨ (k' = 3))) := by
      by_cases ho : okS s' t' = true
      · have hs := cfg_short (p := p') (c := c') ho
        exact ⟨0, ⟨(cfL s' t' p' c').toArray⟩, by unfold cfF; rw [if_pos ho], rfl, .inl ⟨rfl, ansP_of ho, by simpa [ByteArray.size] using hs.1, by simpa [ByteArray.size] using hs.2⟩⟩
      · exact ⟨3, ⟨(cfL s' t' p' c').toArray⟩, by unfold cfF; rw [if_neg ho], rfl, .inr rfl⟩
    obtain ⟨k', y, hk, hy, hq⟩ := HQ.out
    have HT2 : Hid (∀ u, Below w.heap.size w u → Calls Tryz.prog 11 #[.agg #[.int .i64 s', .int .i64 t', .bool p', .bool c']] u fun e w' => e = .returned (.agg #[.int .i64 k', .string y]) ∧ Below u.heap.size u w') := fun u hu => (HTi.out u hu s' t' p' c').mono fun e w' ⟨h1, h2⟩ => ⟨by rw [h1, hk, ← hy], h2⟩
    have HT3 : Hid (∀ u, Calls Tryz.prog 14 #[.agg #[.int .i64 s', .int .i64 t', .bool p', .bool c']] u fun e w' => e = .returned (.agg #[.int .i64 k', .string y]) ∧ Below u.heap.size u w') := fun u => (HTs.out u s' t' p' c').mono fun e w' ⟨h1, h2⟩ => ⟨by rw [h1, hk, ← hy], h2⟩
    have HF3 : Hid (∀ u, Calls Tryz.prog 15 #[.agg #[.int .i64 s', .int .i64 t', .bool p', .bool c']] u fun e w' => e = .returned (.int .i64 k') ∧ Below u.heap.size u w') := fun u => (HFi.out u s' t' p' c').mono fun e w' ⟨h1, h2⟩ => ⟨by rw [h1, hk], h2⟩
    have HQ2 : Hid ((k' = 0 ∧ AnsP y.data.toList 0 s' t' p' c' ∧ y.size ≤ 100 ∧ 17 ≤ y.size) ∨ k' = 3) := hq
    clear HQ hk hy hq HTi HTs HFi HPs
    go_wp2_with fail
    refine (HT2.out _ B3.out).mono ?_
    rintro e w4 ⟨rfl, b4⟩
    obtain ⟨V, hV⟩ : ∃ V, V = w4.alloc (.cells #[.int .i64 k', .string y] 31) := ⟨_, rfl⟩
    have B4 : Hid (Below w.heap.size w V) := by rw [hV]; exact (B3.out.trans (b4.mono B3.out.size)).alloc (Nat.le_trans B3.out.size b4.size) _
    have hz3 : w3.heap.size < w4.heap.size := by have := b4.size; simp at this; omega
    have hz4 : w4.heap.size < V.heap.size := by rw [hV]; simp
    have v0 : V.cell? ⟨w4.heap.size, 0, none⟩ = some (.int .i64 k') := by rw [hV, World.cell?_alloc_at _ _ _ _ rfl]; rfl
    have v1 : V.cell? ⟨w4.heap.size, 1, none⟩ = some (.string y) := by rw [hV, World.cell?_alloc_at _ _ _ _ rfl]; rfl
    have u0 : V.cell? ⟨w3.heap.size, 0, none⟩ = some (.int .i64 s') := by rw [hV]; exact cell_laid _ (cell_keep b4 (by rw [World.cell?_alloc_at _ _ _ _ rfl]; rfl))
    have u1 : V.cell? ⟨w3.heap.size, 1, none⟩ = some (.int .i64 t') := by rw [hV]; exact cell_laid _ (cell_keep b4 (by rw [World.cell?_alloc_at _ _ _ _ rfl]; rfl))
    have u2 : V.cell? ⟨w3.heap.size, 2, none⟩ = some (.bool p') := by rw [hV]; exact cell_laid _ (cell_keep b4 (by rw [World.cell?_alloc_at _ _ _ _ rfl]; rfl))
    have u3 : V.cell? ⟨w3.heap.size, 3, none⟩ = some (.bool c') := by rw [hV]; exact cell_laid _ (cell_keep b4 (by rw [World.cell?_alloc_at _ _ _ _ rfl]; rfl))
    have q0 : ∀ p : BW V, p.x.cell? ⟨w4.heap.size, 0, none⟩ = some (.int .i64 k') := fun p => p.cell v0
    have q1 : ∀ p : BW V, p.x.cell? ⟨w4.heap.size, 1, none⟩ = some (.string y) := fun p => p.cell v1
    have q2 : ∀ p : BW V, p.x.cell? ⟨w3.heap.size, 0, none⟩ = some (.int .i64 s') := fun p => p.cell u0
    have q3 : ∀ p : BW V, p.x.cell? ⟨w3.heap.size, 1, none⟩ = some (.int .i64 t') := fun p => p.cell u1
    have q4 : ∀ p : BW V, p.x.cell? ⟨w3.heap.size, 2, none⟩ = some (.bool p') := fun p => p.cell u2
    have q5 : ∀ p : BW V, p.x.cell? ⟨w3.heap.size, 3, none⟩ = some (.bool c') := fun p => p.cell u3
    have HBV : Hid (∀ p : BW V, Below w.heap.size w p.x) := fun p => B4.out.trans (p.h.mono B4.out.size)
    have hne := bw_some V
    clear b4 HT2 u0 u1 u2 u3
    rcases HQ2.out with ⟨rfl, hA, hs, hs7⟩ | rfl
    · have HP : Hid (∀ u, Below w.heap.size w u → Calls Tryz.prog 10 #[.string y] u fun e w' => e = .returned (crV 0 s' t' p' c') ∧ Below u.heap.size u w') := fun u hu => HPi.out u hu y 0 s' t' p' c' hA (by omega)
      clear hA HQ2
      go_wp2_with fail
      rw [← hV]
      clear hV
      have hl10 : decide ((y.size : Int) > 10) = true := decide_eq_true (by omega)
      refine wp_region_below (by kernel_rfl) (by kernel_rfl) ?_
      repeat (go_big_quiet_step ((go_at_call 10; exact calls_bw (HP.out _ (HBV.out _)))))
      refine wpQuiet_nil ?_
      intro wq2 hw'
      obtain ⟨⟨_, b6⟩, rfl⟩ := hw'
      have B6 : Hid (Below w.heap.size w wq2) := B4.out.trans (b6.mono B4.out.size)
      clear q0 q1 q2 q3 q4 q5 hne HBV b6
      go_wp2
      go_ret
      exact ⟨rfl, B6.out⟩
    · go_wp2_with fail
      rw [← hV]
      clear hV
      refine wp_region_below (by kernel_rfl) (by kernel_rfl) ?_
      repeat (go_big_quiet_step ((first | (go_at_call 14; exact calls_bw (HT3.out _)) | (go_at_call 15; exact calls_bw (HF3.out _)))))
      refine wpQuiet_nil ?_
      intro wq2 hw'
      obtain ⟨⟨_, b6⟩, rfl⟩ := hw'
      have B6 : Hid (Below w.heap.size w wq2) := B4.out.trans (b6.mono B4.out.size)
      clear q0 q1 q2 q3 q4 q5 hne HBV b6
      go_wp2
      go_ret
      exact ⟨rfl, B6.out⟩
end Go.Proofs.YtebnonpdaddniaaGreatDoor
