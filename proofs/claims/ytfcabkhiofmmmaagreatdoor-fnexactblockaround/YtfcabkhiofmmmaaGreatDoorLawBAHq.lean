/-
  Parts of the proof laid into one text, one behind the other; each says at its head what is proved in it.
-/
import Derived.Test.YtfcabkhiofmmmaaGreatDoorHjD
import Derived.Test.YtfcabkhiofmmmaaGreatDoorHjE
import Derived.Test.YtfcabkhiofmmmaaGreatDoorTiC
/-
  The exact law of BlockAround answers true at every code; nothing that was there is turned.
-/
namespace Go.Proofs.YtfcabkhiofmmmaaGreatDoor
open Go.RowKit Go.Extern.Stop Go.Stop Go.Extern Num Go.Lib

theorem eqIntR_BA (c v : Int) (w : World) : Calls Tryz.prog 31 #[.agg #[.int .i64 c, .int .i64 v], .agg #[.int .i64 c, .int .i64 v]] w fun e w' => e = .returned (.bool true) ∧ Below w.heap.size w w' := by
  go_enter Tryz.func31, Tryz.ntmps31
  go_wp2
  go_ret
  exact ⟨rfl, by repeat (first | exact Below.refl _ _ | refine Below.alloc ?_ (by simp <;> omega) _)⟩
set_option maxHeartbeats 1000000 in
theorem lawBA_any (w : World) (hG : LT w) (a : Option Addr) (cp : Nat) (l : List Blk) (hl : l.length ≤ 9223372036854775807) (h : MemBl w a l) (hz : ∀ (k : Nat) (h : k < l.length), l[k].able) (k : Int) :
    Calls Tryz.prog 7 #[.slice a l.length cp, .int .i64 k] w fun e w' => e = .returned (.bool true) ∧ Below w.heap.size w w' := by
  have HS : Hid (Calls Tryz.prog 19 #[.slice a l.length cp, .int .i64 1048576] w fun e w' => SZBl l w e w') := szBlS_any a cp l w 1048576 (Nat.le_refl _) hl h hz
  have HT : Hid (MemBl w a l) := h
  have HG : Hid (∀ u, Below w.heap.size w u → LT u) := fun u hu => hG.below hu
  obtain ⟨ok, hok⟩ := okR_some l
  have HOk : Hid (OkR l ok) := hok
  obtain ⟨c, hc⟩ : ∃ c, c = codeBA ok l k := ⟨_, rfl⟩
  obtain ⟨x, hx⟩ : ∃ x, x = valBA ok l k := ⟨_, rfl⟩
  have HE : Hid (codeBA ok l k = c ∧ valBA ok l k = x) := ⟨hc.symm, hx.symm⟩
  clear hok
  clear h hz hG hc hx hl
  go_enter Tryz.func7, Tryz.ntmps7
  go_wp2_with fail
  refine HS.out.mono ?_
  rintro e w1 ⟨h1, b1⟩
  have B1 : Hid (Below w.heap.size w w1) := b1
  clear b1
  rcases h1 with rfl | ⟨q, hq, rfl, hl, hz⟩
  · go_wp2
    go_ret
    exact ⟨rfl, B1.out⟩
  have HZ : Hid (∀ (k : Nat) (h : k < l.length), l[k].small) := hz
  have HN : Hid (l.length ≤ 1048576) := hl
  have HU : Hid (∀ wx, Below w.heap.size w wx → Calls Tryz.prog 21 #[.slice a l.length cp] wx fun e w' => ∃ g, e = .returned (.slice (some ⟨g, 0, none⟩) l.length l.length) ∧ IsBl w' wx.heap.size g l.length l ∧ Below wx.heap.size wx w') := fun wx hx => (toBlS_any a cp l wx hl hz (HT.out.below hx)).mono fun e w' ⟨h1, h2, h3⟩ => ⟨_, h1, h2, h3⟩
  clear hz hl
  go_wp2_with fail
  refine (HU.out _ B1.out).mono ?_
  rintro e w2 ⟨g2, rfl, o2, b2⟩
  have O2 : Hid (IsBl w2 w1.heap.size g2 l.length l) := o2
  have B2 : Hid (Below w.heap.size w w2) := B1.out.trans (b2.mono B1.out.size)
  clear o2 b2
  go_wp2_with fail
  refine (specBA_any _ _ _ l ok k w2 HN.out HZ.out O2.out.row HOk.out).mono ?_
  rw [HE.out.1, HE.out.2]
  rintro e w3 ⟨rfl, b3⟩
  have B3 : Hid (Below w.heap.size w w3) := B2.out.trans (b3.mono B2.out.size)
  have z3 : w.heap.size ≤ w3.heap.size := B3.out.size
  clear b3 O2
  go_wp2_with fail
  refine (HU.out _ (B3.out.alloc z3 _)).mono ?_
  rintro e w4 ⟨g4, rfl, o4, b4⟩
  obtain ⟨BB4, hBB4⟩ : ∃ n, n = (w3.alloc (.cells #[.int .i64 c, .int .i64 x] 40)).heap.size := ⟨_, rfl⟩
  rw [← hBB4] at o4
  clear hBB4
  have O4 : Hid (IsBl w4 BB4 g4 l.length l) := o4
  have B4 : Hid (Below w.heap.size w w4) := (B3.out.alloc z3 _).trans (b4.mono (by simp; omega))
  obtain ⟨c4, f4⟩ := bcell b4
  have z4 : w3.heap.size < w4.heap.size := by have := b4.size; simp at this; omega
  clear o4 b4
  go_wp2_with fail
  refine (implBA_any _ _ _ l ok k w4 HN.out HZ.out O4.out.row (HG.out _ B4.out) HOk.out).mono ?_
  rw [HE.out.1, HE.out.2]
  rintro e w5 ⟨rfl, b5⟩
  obtain ⟨c5, f5⟩ := bcell b5
  have O5 : Hid (IsBl w5 BB4 g4 l.length l) := O4.out.below b5
  have z5 : w3.heap.size < w5.heap.size := by have := b5.size; omega
  have B5 : Hid (Below w.heap.size w w5) := B4.out.trans (b5.mono (by omega))
  clear b5 O4
  go_wp2_with fail
  refine (eqIntR_BA _ _ _).mono ?_
  rintro e w6 ⟨rfl, b6⟩
  have O6 : Hid (IsBl w6 BB4 g4 l.length l) := (O5.out.below ((Below.refl _ _).alloc (Nat.le_refl _) _)).below b6
  have B6 : Hid (Below w.heap.size w w6) := (B5.out.alloc (by omega) _).trans (b6.mono (by simp; omega))
  clear b6 O5 c4 f4 c5 f5
  go_wp2_with fail
  refine (HU.out _ B6.out).mono ?_
  rintro e w7 ⟨g7, rfl, o7, b7⟩
  obtain ⟨BB7, hBB7⟩ : ∃ n, n = w6.heap.size := ⟨_, rfl⟩
  rw [← hBB7] at o7
  clear hBB7
  have O7 : Hid (IsBl w7 BB7 g7 l.length l) := o7
  have P7 : Hid (IsBl w7 BB4 g4 l.length l) := O6.out.below b7
  have B7 : Hid (Below w.heap.size w w7) := B6.out.trans (b7.mono B6.out.size)
  clear o7 b7 O6
  go_wp2_with fail
  refine (eqBlS_same _ _ _ _ _ _ l w7 HN.out HZ.out P7.out.row O7.out.row).mono ?_
  rintro e w8 ⟨rfl, b8⟩
  go_wp2
  go_ret
  exact ⟨rfl, B7.out.trans (b8.mono B7.out.size)⟩
end Go.Proofs.YtfcabkhiofmmmaaGreatDoor
