/-
  The law FnTokens answers true at every code, in every world in which the listed variables hold what the program's text lays; nothing that was there is turned.
-/
import Derived.Test.YtnlfnicgfhfpfaaGreatDoorImplOf
import Derived.Test.YtnlfnicgfhfpfaaGreatDoorImplTX
import Derived.Test.YtnlfnicgfhfpfaaGreatDoorSpecBad
import Derived.Test.YtnlfnicgfhfpfaaGreatDoorDraw6
import Derived.Test.YtnlfnicgfhfpfaaGreatDoorRoundTok
import Derived.Test.YtnlfnicgfhfpfaaGreatDoorRegion
import Derived.Deep.RegionHeld3
import Derived.Deep.CutRange
namespace Go.Proofs.YtnlfnicgfhfpfaaGreatDoor
open Go.RowKit Go.Extern.Stop Go.Stop Go.Extern Num Go.Lib

theorem fieldT0 (c a : Int) (v : Value) (w : World) : (Instr.field 27 (.agg #[.int .i64 c, .int .i64 a, v]) 0).run Tryz.prog w = .ok (.int .i64 c) w := by kernel_rfl
theorem fieldT1 (c a : Int) (v : Value) (w : World) : (Instr.field 27 (.agg #[.int .i64 c, .int .i64 a, v]) 1).run Tryz.prog w = .ok (.int .i64 a) w := by kernel_rfl
theorem fieldI1 (c a : Int) (w : World) : (Instr.field 30 (IR c a) 1).run Tryz.prog w = .ok (.int .i64 a) w := by kernel_rfl
theorem fieldX0 (c : Int) (x : ByteArray) (w : World) : (Instr.field 34 (.agg #[.int .i64 c, .string x]) 0).run Tryz.prog w = .ok (.int .i64 c) w := by kernel_rfl
theorem fieldX1 (c : Int) (x : ByteArray) (w : World) : (Instr.field 34 (.agg #[.int .i64 c, .string x]) 1).run Tryz.prog w = .ok (.string x) w := by kernel_rfl
/-- What is held of a world while the first answer is looked at: its three cells; that the listed variables are as they were; that nothing old is turned. -/
theorem sKeep {B : Nat} {x0 x1 x2 : Value} {w0 u v : World} (h : u.cell? ⟨B, 0, none⟩ = some x0 ∧ u.cell? ⟨B, 1, none⟩ = some x1 ∧ u.cell? ⟨B, 2, none⟩ = some x2 ∧ Hid (LR u ∧ Below w0.heap.size w0 u)) (hb : Below u.heap.size u v) :
    v.cell? ⟨B, 0, none⟩ = some x0 ∧ v.cell? ⟨B, 1, none⟩ = some x1 ∧ v.cell? ⟨B, 2, none⟩ = some x2 ∧ Hid (LR v ∧ Below w0.heap.size w0 v) :=
  ⟨cell_keep hb h.1, cell_keep hb h.2.1, cell_keep hb h.2.2.1, h.2.2.2.out.1.below hb, h.2.2.2.out.2.trans (hb.mono h.2.2.2.out.2.size)⟩
theorem sLR {B : Nat} {x0 x1 x2 : Value} {w0 u : World} (h : u.cell? ⟨B, 0, none⟩ = some x0 ∧ u.cell? ⟨B, 1, none⟩ = some x1 ∧ u.cell? ⟨B, 2, none⟩ = some x2 ∧ Hid (LR u ∧ Below w0.heap.size w0 u)) : LR u := h.2.2.2.out.1
theorem sB {B : Nat} {x0 x1 x2 : Value} {w0 u : World} (h : u.cell? ⟨B, 0, none⟩ = some x0 ∧ u.cell? ⟨B, 1, none⟩ = some x1 ∧ u.cell? ⟨B, 2, none⟩ = some x2 ∧ Hid (LR u ∧ Below w0.heap.size w0 u)) : Below w0.heap.size w0 u := h.2.2.2.out.2
theorem fault_each : ∀ (l : List Tok), listFault l = 0 → ∀ (k : Nat) (h : k < l.length), tokFault l[k] = 0
  | [], _, _, h => by cases h
  | t :: r, hf, k, hk => by
    obtain ⟨h0, hr⟩ := fault_cons hf
    cases k with
    | zero => exact h0
    | succ k => exact fault_each r hr k (by simpa using hk)
theorem fault_sym (t : Tok) (h : tokFault t = 0) (h6 : t.kind = 6) : symL t.name.data.toList = true := by
  obtain ⟨k, n, z⟩ := t
  obtain rfl : k = 6 := h6
  by_cases hn : n = 0 <;> simp [tokFault, hn] at h
  exact h
/-- What TokensText answers, in two ways. -/
theorem TX_cases (l : List Tok) : (∃ c, c ≠ 0 ∧ TX l = .agg #[.int .i64 c, .string ⟨#[]⟩]) ∨ (l.length ≤ 120 ∧ listFault l = 0 ∧ TX l = .agg #[.int .i64 0, .string (joinT l)]) := by
  by_cases h1 : 120 < l.length
  · exact Or.inl ⟨2, by decide, by simp [TX, h1]⟩
  · by_cases h2 : listFault l = 0
    · exact Or.inr ⟨by omega, h2, by simp [TX, h1, h2]⟩
    · exact Or.inl ⟨listFault l, h2, by simp [TX, h1, h2]⟩
set_option maxRecDepth 100000 in
set_option maxHeartbeats 4000000 in
theorem lawTok_any (w : World) (ca : Option Addr) (len cap : Nat) (hT : LT w) (hR : LR w) (h : Bytes w ca len) (hmax : (len : Int) ≤ 9223372036854775807) :
    Calls Tryz.prog 3 #[.slice ca len cap] w fun e w' => e = .returned (.bool true) ∧ Below w.heap.size w w' := by
  have HT : Hid (LT w) := hT
  have HR : Hid (LR w) := hR
  have HY : Hid (Bytes w ca len) := h
  clear hT hR h
  go_enter Tryz.func3, Tryz.ntmps3
  go_wp2_with fail
  refine (big_any _ ca len cap).mono ?_
  rintro e w0 ⟨t, rfl, hw⟩
  subst hw
  have ht : t = true ∨ t = false := by cases t <;> simp
  rcases ht with rfl | rfl
  · go_wp2
    go_ret
    exact ⟨rfl, Below.refl _ _⟩
  go_wp2_with fail
  refine (drawLong_any _ ca len cap HY.out hmax).mono ?_
  rintro e w1 ⟨s, rfl, hs, b1⟩
  have B1 : Hid (Below w0.heap.size w0 w1) := b1
  clear b1 hs
  go_wp2_with fail
  obtain ⟨c, a, l, hof⟩ := tof_total s
  refine (implOf_any s _ (HR.out.below B1.out)).mono ?_
  rintro e w2 ⟨ao, cp, c', a', l', rfl, hof', hown, b2⟩
  obtain ⟨rfl, rfl, rfl⟩ := tof_one hof' hof
  have HF : Hid (TOf s c' a' l') := hof
  have hl120 : l'.length ≤ 120 := tof_len hof
  have B2 : Hid (Below w0.heap.size w0 w2) := B1.out.trans (b2.mono B1.out.size)
  clear hof hof' hown b2 B1
  have HW : Hid (Below w0.heap.size w0 (w2.alloc (.cells #[.int .i64 c', .int .i64 a', .slice ao l'.length cp] 27))) := B2.out.alloc B2.out.size _
  have hneW := bw_some (w2.alloc (.cells #[.int .i64 c', .int .i64 a', .slice ao l'.length cp] 27))
  have rT0 := fieldT0
  have rT1 := fieldT1
  have rI1 := fieldI1
  go_upto_region 5 with fail
  go_cut [42] from 15 to 42 (fun v wx => v = .bool false ∧ Hid (Below w0.heap.size w0 wx))
  case first =>
    by_cases hc : c' = 0
    · subst hc
      have HS : Hid (∀ w, Calls Tryz.prog 7 #[.string s] w fun e w' => ∃ ao2 cp2, e = .returned (.agg #[.int .i64 0, .int .i64 a', .slice ao2 l'.length cp2]) ∧ Below w.heap.size w w') := fun w => by
        refine (specOf_any s w).mono ?_
        rintro e w' ⟨ao2, cp2, c2, a2, l2, rfl, h2, _, hb⟩
        obtain ⟨rfl, rfl, rfl⟩ := tof_one h2 HF.out
        exact ⟨ao2, cp2, rfl, hb⟩
      have HP : Hid (∀ w, LR w → Calls Tryz.prog 8 #[.string s] w fun e w' => e = .returned (IR 0 l'.length) ∧ Below w.heap.size w w') := fun w hL => by
        have := implSpot_any s w 0 a' l' HF.out hL
        simpa [spotV] using this
      have hS0 : (w2.alloc (.cells #[.int .i64 0, .int .i64 a', .slice ao l'.length cp] 27)).cell? ⟨w2.heap.size, 0, none⟩ = some (.int .i64 0) ∧ (w2.alloc (.cells #[.int .i64 0, .int .i64 a', .slice ao l'.length cp] 27)).cell? ⟨w2.heap.size, 1, none⟩ = some (.int .i64 a') ∧ (w2.alloc (.cells #[.int .i64 0, .int .i64 a', .slice ao l'.length cp] 27)).cell? ⟨w2.heap.size, 2, none⟩ = some (.slice ao l'.length cp) ∧ Hid (LR (w2.alloc (.cells #[.int .i64 0, .int .i64 a', .slice ao l'.length cp] 27)) ∧ Below w0.heap.size w0 (w2.alloc (.cells #[.int .i64 0, .int .i64 a', .slice ao l'.length cp] 27))) :=
        ⟨by simp, by simp, by simp, HR.out.below HW.out, HW.out⟩
      have HS0 : Hid _ := hS0
      clear hS0
      go_region_held3 (fun w' => w'.cell? ⟨w2.heap.size, 0, none⟩ = some (.int .i64 0) ∧ w'.cell? ⟨w2.heap.size, 1, none⟩ = some (.int .i64 a') ∧ w'.cell? ⟨w2.heap.size, 2, none⟩ = some (.slice ao l'.length cp) ∧ Hid (LR w' ∧ Below w0.heap.size w0 w')) (first | exact sKeep (by assumption) (by assumption) | exact sKeep HS0.out (Below.drew (Below.refl _ _)))
        (first | (go_at_call 7; refine (HS.out _).mono ?_; rintro e w' ⟨ao2, cp2, rfl, hb2⟩) | (go_at_call 8; refine (HP.out _ (sLR (by assumption))).mono ?_; rintro e w' ⟨rfl, hb3⟩))
      have HQ : Hid (Below w0.heap.size w0 w') := sB (by assumption)
      go_wp2_with fail
      go_meet
      exact ⟨rfl, HQ.out⟩
    · have hcz : (c' == 0) = false := by simpa using hc
      have HS : Hid (∀ w, Calls Tryz.prog 7 #[.string s] w fun e w' => e = .returned (.agg #[.int .i64 c', .int .i64 a', .slice none 0 0]) ∧ Below w.heap.size w w') := fun w => specOf_bad s c' a' l' HF.out hc w
      have r0 : ∀ p : BW (w2.alloc (.cells #[.int .i64 c', .int .i64 a', .slice ao l'.length cp] 27)), p.x.cell? ⟨w2.heap.size, 0, none⟩ = some (.int .i64 c') := fun p => p.cell (by simp)
      have r1 : ∀ p : BW (w2.alloc (.cells #[.int .i64 c', .int .i64 a', .slice ao l'.length cp] 27)), p.x.cell? ⟨w2.heap.size, 1, none⟩ = some (.int .i64 a') := fun p => p.cell (by simp)
      clear hc
      refine wp_region_below (by kernel_rfl) (by kernel_rfl) ?_
      repeat (go_big_quiet_step ((go_at_call 7; exact calls_bw (HS.out _))))
      refine wpQuiet_nil ?_
      intro wq hw'
      obtain ⟨⟨_, bq⟩, rfl⟩ := hw'
      have HQ : Hid _ := HW.out.trans (bq.mono HW.out.size)
      clear bq r0 r1
      go_wp2_with fail
      go_meet
      exact ⟨rfl, HQ.out⟩
  case rest =>
    obtain ⟨rfl, B3⟩ := hcut
    clear HW hneW HF B2 rT0 rT1 rI1
    go_wp2_with fail
    refine (drawList_any _ ca len cap (HY.out.below B3.out) hmax).mono ?_
    rintro e w4 ⟨g, cg, L, rfl, hown, hL121, hnames, b4⟩
    have B4 : Hid (Below w0.heap.size w0 w4) := B3.out.trans (b4.mono B3.out.size)
    have O4 : Hid (w4.ownsRow _ 37 3 (.slice (some ⟨g, 0, none⟩) L.length cg) L.length (cellsOf L)) := hown
    have HN : Hid (∀ (k : Nat) (h : k < L.length), L[k].name.size ≤ 1048576) := hnames
    have HI : Hid (∀ u, Below w4.heap.size w4 u → LT u → Calls Tryz.prog 10 #[.slice (some ⟨g, 0, none⟩) L.length cg] u fun e w' => e = .returned (TX L) ∧ Below u.heap.size u w') := fun u hu hT => implTX_any g cg _ L u hT HN.out (own_below O4.out hu)
    have HS : Hid (∀ u, Below w4.heap.size w4 u → Calls Tryz.prog 11 #[.slice (some ⟨g, 0, none⟩) L.length cg] u fun e w' => e = .returned (TX L) ∧ Below u.heap.size u w') := fun u hu => specTX_any g cg _ L u (by omega) HN.out (own_below O4.out hu)
    clear b4 hown hnames B3
    rcases TX_cases L with ⟨c1, hc1, hTX⟩ | ⟨hL, hF, hTX⟩
    · rw [hTX] at HI HS
      clear hTX
      go_wp2_with fail
      refine (HI.out _ (Below.refl _ _) (HT.out.below B4.out)).mono ?_
      rintro e w5 ⟨rfl, b5⟩
      have B5 : Hid (Below w4.heap.size w4 w5) := b5
      clear b5
      have hcz : (c1 != 0) = true := by simpa using hc1
      have r0 : ∀ p : BW (w5.alloc (.cells #[.int .i64 c1, .string ⟨#[]⟩] 34)), p.x.cell? ⟨w5.heap.size, 0, none⟩ = some (.int .i64 c1) := fun p => p.cell (by simp)
      have hneW := bw_some (w5.alloc (.cells #[.int .i64 c1, .string ⟨#[]⟩] 34))
      have HW : Hid (Below w4.heap.size w4 (w5.alloc (.cells #[.int .i64 c1, .string ⟨#[]⟩] 34))) := B5.out.alloc B5.out.size _
      have HS' : Hid (∀ p : BW (w5.alloc (.cells #[.int .i64 c1, .string ⟨#[]⟩] 34)), Calls Tryz.prog 11 #[.slice (some ⟨g, 0, none⟩) L.length cg] p.x fun e w' => e = .returned (.agg #[.int .i64 c1, .string ⟨#[]⟩]) ∧ Below p.x.heap.size p.x w') := fun p => HS.out p.x (HW.out.trans (p.h.mono HW.out.size))
      have rX := fieldX0
      clear hc1
      go_wp2_with fail
      refine wp_region_below (by kernel_rfl) (by kernel_rfl) ?_
      repeat (go_big_quiet_step ((go_at_call 11; exact calls_bw (HS'.out _))))
      refine wpQuiet_nil ?_
      intro wq hw'
      obtain ⟨⟨_, bq⟩, rfl⟩ := hw'
      go_wp2
      go_ret
      exact ⟨rfl, B4.out.trans ((HW.out.trans (bq.mono HW.out.size)).mono B4.out.size)⟩
    · rw [hTX] at HI HS
      clear hTX
      have HFL : Hid (listFault L = 0) := hF
      clear hF
      go_wp2_with fail
      refine (HI.out _ (Below.refl _ _) (HT.out.below B4.out)).mono ?_
      rintro e w5 ⟨rfl, b5⟩
      have B5 : Hid (Below w4.heap.size w4 w5) := b5
      clear b5
      have HW : Hid (Below w4.heap.size w4 (w5.alloc (.cells #[.int .i64 0, .string (joinT L)] 34))) := B5.out.alloc B5.out.size _
      by_cases h4 : 400 < ((joinT L).size : Int)
      · have r1 : ∀ p : BW (w5.alloc (.cells #[.int .i64 0, .string (joinT L)] 34)), p.x.cell? ⟨w5.heap.size, 1, none⟩ = some (.string (joinT L)) := fun p => p.cell (by simp)
        have hneW := bw_some (w5.alloc (.cells #[.int .i64 0, .string (joinT L)] 34))
        have HS' : Hid (∀ p : BW (w5.alloc (.cells #[.int .i64 0, .string (joinT L)] 34)), Calls Tryz.prog 11 #[.slice (some ⟨g, 0, none⟩) L.length cg] p.x fun e w' => e = .returned (.agg #[.int .i64 0, .string (joinT L)]) ∧ Below p.x.heap.size p.x w') := fun p => HS.out p.x (HW.out.trans (p.h.mono HW.out.size))
        have rX := fieldX1
        go_wp2_with fail
        refine wp_region_below (by kernel_rfl) (by kernel_rfl) ?_
        repeat (go_big_quiet_step ((go_at_call 11; exact calls_bw (HS'.out _))))
        refine wpQuiet_nil ?_
        intro wq hw'
        obtain ⟨⟨_, bq⟩, rfl⟩ := hw'
        go_wp2
        go_ret
        exact ⟨rfl, B4.out.trans ((HW.out.trans (bq.mono HW.out.size)).mono B4.out.size)⟩
      · have HRT : Hid (TOf (joinT L) 0 0 L) := tof_round L HFL.out hL (by omega)
        have B45 : Hid (Below w0.heap.size w0 (w5.alloc (.cells #[.int .i64 0, .string (joinT L)] 34))) := B4.out.trans (HW.out.mono B4.out.size)
        go_wp2_with fail
        refine (implOf_any (joinT L) _ (HR.out.below B45.out)).mono ?_
        rintro e w6 ⟨ao6, cb, c6, a6, l6, rfl, hof6, own6, b6⟩
        obtain ⟨rfl, rfl, rfl⟩ := tof_one HRT.out hof6
        have O6 : Hid (w6.ownsRow _ 37 3 (.slice ao6 L.length cb) L.length (cellsOf L)) := own6
        have P6 : Hid (w6.ownsRow _ 37 3 (.slice (some ⟨g, 0, none⟩) L.length cg) L.length (cellsOf L)) := own_below (own_below O4.out HW.out) b6
        have B6 : Hid (Below w0.heap.size w0 w6) := B45.out.trans (b6.mono B45.out.size)
        clear own6 b6 hof6 HRT h4 HI HS B45 HW B5
        go_wp2_with fail
        go_loopw [8] (fun i wr => ∃ k : Nat, k ≤ L.length ∧ i = .int .i64 (k : Int) ∧ Hid (Below (w6.alloc (.cells #[.int .i64 0, .int .i64 0, .slice ao6 L.length cb] 27)).heap.size (w6.alloc (.cells #[.int .i64 0, .int .i64 0, .slice ao6 L.length cb] 27)) wr)) (fun i _ => L.length - (RowKit.intOf i).toNat)
        case atStart => exact ⟨0, Nat.zero_le _, rfl, Below.refl _ _⟩
        case round =>
          obtain ⟨k, hk, rfl, HB⟩ := hrel
          have HBw : Hid (Below w0.heap.size w0 wr) := (B6.out.alloc B6.out.size _).trans (HB.out.mono (by have := B6.out.size; simp; omega))
          by_cases hlt : k < L.length
          · obtain ⟨gb, cb', hv6, _, _⟩ := O6.out.form (by omega)
            have hao : ao6 = some ⟨gb, 0, none⟩ := by simpa using And.left (by simpa using hv6)
            subst hao
            have q2 : ∀ p : BW wr, p.x.cell? ⟨w6.heap.size, 2, none⟩ = some (.slice (some ⟨gb, 0, none⟩) L.length cb) := fun p => p.cell (cell_keep HB.out (by simp))
            have hO := row_at (own_below (O6.out.alloc _) HB.out) k hlt
            have hP := row_at (own_below (P6.out.alloc _) HB.out) k hlt
            have a0 : ∀ p : BW wr, p.x.cell? ⟨gb, k * 3, none⟩ = some (.int .i64 (L[k]'hlt).kind) := fun p => p.cell hO.1
            have a1 : ∀ p : BW wr, p.x.cell? ⟨gb, k * 3 + 1, none⟩ = some (.int .i64 (L[k]'hlt).num) := fun p => p.cell hO.2.1
            have a2 : ∀ p : BW wr, p.x.cell? ⟨gb, k * 3 + 2, none⟩ = some (.string (L[k]'hlt).name) := fun p => p.cell hO.2.2
            have d0 : ∀ p : BW wr, p.x.cell? ⟨g, k * 3, none⟩ = some (.int .i64 (L[k]'hlt).kind) := fun p => p.cell hP.1
            have d1 : ∀ p : BW wr, p.x.cell? ⟨g, k * 3 + 1, none⟩ = some (.int .i64 (L[k]'hlt).num) := fun p => p.cell hP.2.1
            have d2 : ∀ p : BW wr, p.x.cell? ⟨g, k * 3 + 2, none⟩ = some (.string (L[k]'hlt).name) := fun p => p.cell hP.2.2
            have hfk := fault_each L HFL.out k hlt
            have HTT : Hid (∀ p : BW wr, Calls Tryz.prog 12 #[(L[k]'hlt).val] p.x fun e w' => e = .returned (.agg #[.int .i64 0, .string (tokText (L[k]'hlt))]) ∧ Below p.x.heap.size p.x w') := fun p => by
              rw [← TT_ok _ hfk]
              exact implTT_any _ p.x (HT.out.below (HBw.out.trans (p.h.mono HBw.out.size))) (by have := HN.out k hlt; omega)
            have hneW := bw_some wr
            have rX := fieldX0
            clear hO hP hv6
            by_cases h6 : (L[k]'hlt).kind = 6
            · have hs6 := fault_sym _ hfk h6
              have HSy : Hid (∀ p : BW wr, Calls Tryz.prog 13 #[.string (L[k]'hlt).name] p.x fun e w' => e = .returned (.int .i64 0) ∧ Below p.x.heap.size p.x w') := fun p => by
                refine (implSym_any (L[k]'hlt).name p.x (by have := HN.out k hlt; omega)).mono ?_
                rintro e w' ⟨rfl, rfl⟩
                exact ⟨by simp [hs6], Below.refl _ _⟩
              have e6 : ((L[k]'hlt).kind == 6) = true := by simpa using h6
              clear h6 hs6 hfk
              go_wp2_with fail
              refine wp_region_below (by kernel_rfl) (by kernel_rfl) ?_
              repeat (go_big_quiet_step ((first | (go_at_call 12; exact calls_bw (HTT.out _)) | (go_at_call 13; exact calls_bw (HSy.out _)))))
              refine wpQuiet_nil ?_
              intro wq hw'
              obtain ⟨⟨_, bq⟩, rfl⟩ := hw'
              have HB2 : Hid _ := HB.out.trans (bq.mono HB.out.size)
              clear bq a0 a1 a2 d0 d1 d2 q2 hneW
              go_wp2
              exact ⟨⟨k + 1, by omega, by go_num, HB2.out⟩, by simp [RowKit.intOf]; omega⟩
            · have e6 : ((L[k]'hlt).kind == 6) = false := by simpa using h6
              clear h6 hfk
              go_wp2_with fail
              refine wp_region_below (by kernel_rfl) (by kernel_rfl) ?_
              repeat (go_big_quiet_step ((go_at_call 12; exact calls_bw (HTT.out _))))
              refine wpQuiet_nil ?_
              intro wq hw'
              obtain ⟨⟨_, bq⟩, rfl⟩ := hw'
              have HB2 : Hid _ := HB.out.trans (bq.mono HB.out.size)
              clear bq a0 a1 a2 d0 d1 d2 q2 hneW
              go_wp2
              exact ⟨⟨k + 1, by omega, by go_num, HB2.out⟩, by simp [RowKit.intOf]; omega⟩
          · go_wp2
            go_ret
            exact ⟨rfl, HBw.out⟩
end Go.Proofs.YtnlfnicgfhfpfaaGreatDoor
