/-
  The exact law of LookGlobal answers true at all globals and names; nothing that was there is turned.
-/
import Derived.Test.YtlamkbggfbancaaImplLG
import Derived.Test.YtlamkbggfbancaaLawGF
namespace Go.Proofs.Ytlamkbggfbancaa
open Go.RowKit Go.Extern.Stop Go.Stop Go.Extern Num Go.Lib

theorem eqGR_same (c : Int) (t : Glb) (w : World) :
    Calls Try.prog 28 #[GR c t, GR c t] w fun e w' => e = .returned (.bool true) ∧ Below w.heap.size w w' := by
  have H1 : Hid (∀ w, Calls Try.prog 63 #[t.val, t.val] w fun e w' => e = .returned (.bool true) ∧ Below w.heap.size w w') := fun w => eqG_same _ w
  go_enter Try.func28, Try.ntmps28
  go_wp2_with fail
  refine (H1.out _).mono ?_
  rintro e w1 ⟨rfl, hb1⟩
  go_wp2
  go_ret
  exact ⟨rfl, Below.trans (by repeat (first | exact Below.refl _ _ | refine Below.setCell ?_ (by simp) _ | refine Below.alloc ?_ (by simp <;> omega) _ | refine Below.drew ?_)) (hb1.mono (by simp <;> omega))⟩
set_option maxRecDepth 100000 in
set_option maxHeartbeats 2000000 in
theorem lawLG_any (w : World) (a : Option Addr) (cp : Nat) (l : List Glb) (hl : l.length ≤ 9223372036854775807) (h : MemG w a l) (hz : ∀ (k : Nat) (h : k < l.length), l[k].able) (s : ByteArray) (hs : s.size ≤ 9223372036854775807) :
    Calls Try.prog 6 #[.slice a l.length cp, .string s] w fun e w' => e = .returned (.bool true) ∧ Below w.heap.size w w' := by
  by_cases hsz : 1048576 < s.size
  · go_enter Try.func6, Try.ntmps6
    go_wp2
    go_ret
    exact ⟨rfl, Below.refl _ _⟩
  have HS : Hid (Calls Try.prog 23 #[.slice a l.length cp, .int .i64 1048576] w fun e w' => SZG l w e w') := szGS_any a cp l w 1048576 (Nat.le_refl _) hl h hz
  have HT : Hid (MemG w a l) := h
  clear h hz hl
  obtain ⟨c, hc⟩ : ∃ c, c = codeLG l s := ⟨_, rfl⟩
  obtain ⟨T, hT⟩ : ∃ T, T = valLG l s := ⟨_, rfl⟩
  have HP : Hid (∀ (u : World) (g : Nat), l.length ≤ 1048576 → RowG u g l → ableG l → Calls Try.prog 27 #[.slice (some ⟨g, 0, none⟩) l.length l.length, .string s] u fun e w' => e = .returned (GR c T) ∧ Below u.heap.size u w') := fun u g h1 h2 h3 => by rw [hc, hT]; exact specLG_any _ _ g l s u h1 (Nat.le_refl _) (by omega) (fun _ => rfl) h2 h3 hs
  have HI : Hid (∀ (u : World) (g : Nat), l.length ≤ 1048576 → RowG u g l → ableG l → Calls Try.prog 17 #[.slice (some ⟨g, 0, none⟩) l.length l.length, .string s] u fun e w' => e = .returned (GR c T) ∧ Below u.heap.size u w') := fun u g h1 h2 h3 => by rw [hc, hT]; exact implLG_any _ _ g l s u h1 (fun _ => rfl) h2 h3 hs
  clear hc hT
  go_enter Try.func6, Try.ntmps6
  go_wp2_with fail
  refine HS.out.mono ?_
  rintro e w1 ⟨h1, b1⟩
  have B1 : Hid (Below w.heap.size w w1) := b1
  clear b1
  rcases h1 with rfl | ⟨q, hq, rfl, hl, hz⟩
  · go_wp2
    go_ret
    exact ⟨rfl, B1.out⟩
  have HZ : Hid (ableG l) := ableG_of hz
  have HN : Hid (l.length ≤ 1048576) := hl
  have HU : Hid (∀ wx, Below w.heap.size w wx → Calls Try.prog 25 #[.slice a l.length cp] wx fun e w' => ∃ g, e = .returned (.slice (some ⟨g, 0, none⟩) l.length l.length) ∧ w'.ownsRow wx.heap.size 33 5 (.slice (some ⟨g, 0, none⟩) l.length l.length) l.length (cellsG l) ∧ Below wx.heap.size wx w') := fun wx hx => toGS_any a cp l wx hl (HT.out.below hx)
  clear hz hl
  go_wp2_with fail
  refine (HU.out _ B1.out).mono ?_
  rintro e w2 ⟨g2, rfl, o2, b2⟩
  have O2 : Hid _ := o2
  have B2 : Hid (Below w.heap.size w w2) := B1.out.trans (b2.mono B1.out.size)
  clear o2 b2
  go_wp2_with fail
  refine (HP.out _ g2 HN.out (RowG.of O2.out) HZ.out).mono ?_
  rintro e w3 ⟨rfl, b3⟩
  have B3 : Hid (Below w.heap.size w w3) := B2.out.trans (b3.mono B2.out.size)
  have B3a : Hid (Below w.heap.size w (w3.alloc (.cells #[.int .i64 c, .string T.name, .int .i64 T.value.kind, .int .i64 T.value.num, .string T.value.name, .int .i64 T.ver] 35))) := B3.out.alloc B3.out.size _
  clear O2 b3
  go_wp2_with fail
  refine (HU.out _ B3a.out).mono ?_
  rintro e w4 ⟨g4, rfl, o4, b4⟩
  have O4 : Hid (w4.ownsRow _ 33 5 (.slice (some ⟨g4, 0, none⟩) l.length l.length) l.length (cellsG l)) := o4
  have B4 : Hid (Below w.heap.size w w4) := B3a.out.trans (b4.mono B3a.out.size)
  have HX4 : Hid (∀ (o : Nat) (v : Value), [Value.int .i64 c, .string T.name, .int .i64 T.value.kind, .int .i64 T.value.num, .string T.value.name, .int .i64 T.ver][o]? = some v → w4.cell? ⟨w3.heap.size, o, none⟩ = some v) := fun o v h => cell_keep b4 (by rw [World.cell?_alloc_at _ _ _ _ rfl]; simpa using h)
  have z4 : w3.heap.size < w4.heap.size := by have := b4.size; simp at this; omega
  clear o4 b4
  go_wp2_with fail
  refine (HI.out _ g4 HN.out (RowG.of O4.out) HZ.out).mono ?_
  rintro e w5 ⟨rfl, b5⟩
  have O5 : Hid (w5.ownsRow _ 33 5 (.slice (some ⟨g4, 0, none⟩) l.length l.length) l.length (cellsG l)) := own_below O4.out b5
  have B5 : Hid (Below w.heap.size w w5) := B4.out.trans (b5.mono B4.out.size)
  have x0 := cell_keep b5 (HX4.out 0 _ rfl)
  have x1 := cell_keep b5 (HX4.out 1 _ rfl)
  have x2 := cell_keep b5 (HX4.out 2 _ rfl)
  have x3 := cell_keep b5 (HX4.out 3 _ rfl)
  have x4 := cell_keep b5 (HX4.out 4 _ rfl)
  have x5 := cell_keep b5 (HX4.out 5 _ rfl)
  have z5 : w3.heap.size < w5.heap.size := by have := b5.size; omega
  clear b5 O4
  go_wp2_with fail
  clear x0 x1 x2 x3 x4 x5
  refine (eqGR_same c T _).mono ?_
  rintro e w6 ⟨rfl, b6⟩
  have O6 : Hid (w6.ownsRow _ 33 5 (.slice (some ⟨g4, 0, none⟩) l.length l.length) l.length (cellsG l)) := own_below (O5.out.alloc _) b6
  have B6 : Hid (Below w.heap.size w w6) := (B5.out.alloc B5.out.size _).trans (b6.mono (by have := B5.out.size; simp; omega))
  clear b6 O5
  go_wp2_with fail
  refine (HU.out _ B6.out).mono ?_
  rintro e w7 ⟨g7, rfl, o7, b7⟩
  have O7 : Hid (w7.ownsRow _ 33 5 (.slice (some ⟨g7, 0, none⟩) l.length l.length) l.length (cellsG l)) := o7
  have P7 : Hid (w7.ownsRow _ 33 5 (.slice (some ⟨g4, 0, none⟩) l.length l.length) l.length (cellsG l)) := own_below O6.out b7
  have B7 : Hid (Below w.heap.size w w7) := B6.out.trans (b7.mono B6.out.size)
  clear o7 b7 O6
  go_wp2_with fail
  refine (eqGS_same _ _ _ _ l w7 HN.out P7.out O7.out).mono ?_
  rintro e w8 ⟨rfl, b8⟩
  go_wp2
  go_ret
  exact ⟨rfl, B7.out.trans (b8.mono B7.out.size)⟩
end Go.Proofs.Ytlamkbggfbancaa
