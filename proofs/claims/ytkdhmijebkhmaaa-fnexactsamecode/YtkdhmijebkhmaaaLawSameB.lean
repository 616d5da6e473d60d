/-
  The exact law of SameCode answers true at every two slices of blocks; nothing that was there is turned.
-/
import Derived.Test.YtkdhmijebkhmaaaEqBlock
import Derived.Test.YtkdhmijebkhmaaaImplSameB
import Derived.Test.YtkdhmijebkhmaaaSpecSameB
namespace Go.Proofs.Ytkdhmijebkhmaaa
open Go.RowKit Go.Extern.Stop Go.Stop Go.Extern Num Go.Lib

set_option maxHeartbeats 1000000 in
theorem lawSameB_any (w : World) (a : Option Addr) (ca : Nat) (l : List Blk) (hl : l.length ≤ 9223372036854775807) (h : MemBl w a l) (hz : ∀ (k : Nat) (h : k < l.length), l[k].able) (b : Option Addr) (cb : Nat) (m : List Blk) (hm : m.length ≤ 9223372036854775807) (h2 : MemBl w b m) (hz2 : ∀ (k : Nat) (h : k < m.length), m[k].able) :
    Calls Try.prog 3 #[.slice a l.length ca, .slice b m.length cb] w fun e w' => e = .returned (.bool true) ∧ Below w.heap.size w w' := by
  have HS : Hid (Calls Try.prog 4 #[.slice a l.length ca, .int .i64 1048576] w fun e w' => SZBl l w e w') := szBlS_any a ca l w 1048576 (Nat.le_refl _) hl h hz
  have HS2 : Hid (∀ (u : World) (n : Nat), n ≤ 1048576 → Below w.heap.size w u → Calls Try.prog 4 #[.slice b m.length cb, .int .i64 (n : Int)] u fun e w' => SZBl m u e w') := fun u n hn hu => szBlS_any b cb m u n hn hm (h2.below hu) hz2
  have HT : Hid (MemBl w a l) := h
  have HT2 : Hid (MemBl w b m) := h2
  clear h h2 hz hz2 hl hm
  obtain ⟨sb, hsb⟩ : ∃ sb, sb = sameL eqBB l m := ⟨_, rfl⟩
  have HSb : Hid (sb = sameL eqBB l m) := hsb
  clear hsb
  go_enter Try.func3, Try.ntmps3
  go_wp2_with fail
  refine HS.out.mono ?_
  rintro e w1 ⟨h1, b1⟩
  have B1 : Hid (Below w.heap.size w w1) := b1
  clear b1
  rcases h1 with rfl | ⟨q, hq, rfl, hl, hzl⟩
  · go_wp2
    go_ret
    exact ⟨rfl, B1.out⟩
  go_wp2_with fail
  refine (HS2.out w1 q hq B1.out).mono ?_
  rintro e w2 ⟨h2, b2⟩
  have B2 : Hid (Below w.heap.size w w2) := B1.out.trans (b2.mono B1.out.size)
  clear b2
  rcases h2 with rfl | ⟨q2, hq2, rfl, hm, hzm⟩
  · go_wp2
    go_ret
    exact ⟨rfl, B2.out⟩
  have HN : Hid (l.length ≤ 1048576 ∧ ∀ (k : Nat) (h : k < l.length), l[k].small) := ⟨hl, hzl⟩
  have HM : Hid (m.length ≤ 1048576 ∧ ∀ (k : Nat) (h : k < m.length), m[k].small) := ⟨hm, hzm⟩
  have HU : Hid (∀ wx, Below w.heap.size w wx → Calls Try.prog 6 #[.slice a l.length ca] wx fun e w' => ∃ g B, e = .returned (.slice (some ⟨g, 0, none⟩) l.length l.length) ∧ RowBl w' B g l ∧ Below wx.heap.size wx w') := fun wx hx => (toBlS_any a ca l wx hl hzl (HT.out.below hx)).mono fun e w' ⟨h1, h2, h3⟩ => ⟨_, _, h1, h2.row, h3⟩
  have HV : Hid (∀ wx, Below w.heap.size w wx → Calls Try.prog 6 #[.slice b m.length cb] wx fun e w' => ∃ g B, e = .returned (.slice (some ⟨g, 0, none⟩) m.length m.length) ∧ RowBl w' B g m ∧ Below wx.heap.size wx w') := fun wx hx => (toBlS_any b cb m wx hm hzm (HT2.out.below hx)).mono fun e w' ⟨h1, h2, h3⟩ => ⟨_, _, h1, h2.row, h3⟩
  clear hl hm hzl hzm hq hq2
  go_wp2_with fail
  refine (HU.out _ B2.out).mono ?_
  rintro e w3 ⟨g3, D3, rfl, o3, b3⟩
  have O3 : Hid (RowBl w3 D3 g3 l) := o3
  have B3 : Hid (Below w.heap.size w w3) := B2.out.trans (b3.mono B2.out.size)
  clear o3 b3
  go_wp2_with fail
  refine (HV.out _ B3.out).mono ?_
  rintro e w4 ⟨g4, D4, rfl, o4, b4⟩
  have O4 : Hid (RowBl w4 D4 g4 m) := o4
  have X3_4 : Hid (RowBl w4 D3 g3 l) := O3.out.below b4
  clear O3
  have B4 : Hid (Below w.heap.size w w4) := B3.out.trans (b4.mono B3.out.size)
  clear o4 b4
  go_wp2_with fail
  refine (specSameB_any _ _ _ _ _ _ l m w4 HN.out.1 HN.out.2 X3_4.out O4.out).mono ?_
  rw [← HSb.out]
  rintro e w5 ⟨rfl, b5⟩
  have X3_5 : Hid (RowBl w5 D3 g3 l) := X3_4.out.below b5
  clear X3_4
  have X4_5 : Hid (RowBl w5 D4 g4 m) := O4.out.below b5
  clear O4
  have B5 : Hid (Below w.heap.size w w5) := B4.out.trans (b5.mono B4.out.size)
  clear b5
  clear X3_5
  clear X4_5
  go_wp2_with fail
  refine (HU.out _ B5.out).mono ?_
  rintro e w6 ⟨g6, D6, rfl, o6, b6⟩
  have O6 : Hid (RowBl w6 D6 g6 l) := o6
  have B6 : Hid (Below w.heap.size w w6) := B5.out.trans (b6.mono B5.out.size)
  clear o6 b6
  go_wp2_with fail
  refine (HV.out _ B6.out).mono ?_
  rintro e w7 ⟨g7, D7, rfl, o7, b7⟩
  have O7 : Hid (RowBl w7 D7 g7 m) := o7
  have X6_7 : Hid (RowBl w7 D6 g6 l) := O6.out.below b7
  clear O6
  have B7 : Hid (Below w.heap.size w w7) := B6.out.trans (b7.mono B6.out.size)
  clear o7 b7
  go_wp2_with fail
  refine (implSB_any _ _ _ _ _ _ l m w7 HN.out.1 HN.out.2 X6_7.out O7.out).mono ?_
  rw [← HSb.out]
  rintro e w8 ⟨rfl, b8⟩
  have X6_8 : Hid (RowBl w8 D6 g6 l) := X6_7.out.below b8
  clear X6_7
  have X7_8 : Hid (RowBl w8 D7 g7 m) := O7.out.below b8
  clear O7
  have B8 : Hid (Below w.heap.size w w8) := B7.out.trans (b8.mono B7.out.size)
  clear b8
  have hsb : (sb != sb) = false := by simp
  go_wp2_with fail
  refine (HU.out _ B8.out).mono ?_
  rintro e w9 ⟨g9, D9, rfl, o9, b9⟩
  have O9 : Hid (RowBl w9 D9 g9 l) := o9
  have X6_9 : Hid (RowBl w9 D6 g6 l) := X6_8.out.below b9
  clear X6_8
  have X7_9 : Hid (RowBl w9 D7 g7 m) := X7_8.out.below b9
  clear X7_8
  have B9 : Hid (Below w.heap.size w w9) := B8.out.trans (b9.mono B8.out.size)
  clear o9 b9
  go_wp2_with fail
  refine (eqBlS_same _ _ _ _ _ _ l w9 HN.out.1 HN.out.2 X6_9.out O9.out).mono ?_
  rintro e w10 ⟨rfl, b10⟩
  have X6_10 : Hid (RowBl w10 D6 g6 l) := X6_9.out.below b10
  clear X6_9
  have X7_10 : Hid (RowBl w10 D7 g7 m) := X7_9.out.below b10
  clear X7_9
  have X9_10 : Hid (RowBl w10 D9 g9 l) := O9.out.below b10
  clear O9
  have B10 : Hid (Below w.heap.size w w10) := B9.out.trans (b10.mono B9.out.size)
  clear b10
  clear X6_10
  clear X9_10
  go_wp2_with fail
  refine (HV.out _ B10.out).mono ?_
  rintro e w11 ⟨g11, D11, rfl, o11, b11⟩
  have O11 : Hid (RowBl w11 D11 g11 m) := o11
  have X7_11 : Hid (RowBl w11 D7 g7 m) := X7_10.out.below b11
  clear X7_10
  have B11 : Hid (Below w.heap.size w w11) := B10.out.trans (b11.mono B10.out.size)
  clear o11 b11
  go_wp2_with fail
  refine (eqBlS_same _ _ _ _ _ _ m w11 HM.out.1 HM.out.2 X7_11.out O11.out).mono ?_
  rintro e w12 ⟨rfl, b12⟩
  have X7_12 : Hid (RowBl w12 D7 g7 m) := X7_11.out.below b12
  clear X7_11
  have X11_12 : Hid (RowBl w12 D11 g11 m) := O11.out.below b12
  clear O11
  have B12 : Hid (Below w.heap.size w w12) := B11.out.trans (b12.mono B11.out.size)
  clear b12
  go_wp2
  go_ret
  exact ⟨rfl, B12.out⟩
end Go.Proofs.Ytkdhmijebkhmaaa
