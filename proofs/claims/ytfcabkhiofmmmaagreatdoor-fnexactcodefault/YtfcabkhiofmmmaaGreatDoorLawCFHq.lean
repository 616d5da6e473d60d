/-
  Parts of the proof laid into one text, one behind the other; each says at its head what is proved in it.
-/
import Derived.Test.YtfcabkhiofmmmaaGreatDoorHjD
import Derived.Test.YtfcabkhiofmmmaaGreatDoorHjE
import Derived.Test.YtfcabkhiofmmmaaGreatDoorTiC
/-
  The exact law of CodeFault answers true at every code; nothing that was there is turned.
-/
namespace Go.Proofs.YtfcabkhiofmmmaaGreatDoor
open Go.RowKit Go.Extern.Stop Go.Stop Go.Extern Num Go.Lib

set_option maxHeartbeats 1000000 in
theorem lawCF_any (w : World) (hG : LT w) (a : Option Addr) (cp : Nat) (l : List Blk) (hl : l.length ≤ 9223372036854775807) (h : MemBl w a l) (hz : ∀ (k : Nat) (h : k < l.length), l[k].able) :
    Calls Tryz.prog 5 #[.slice a l.length cp] w fun e w' => e = .returned (.bool true) ∧ Below w.heap.size w w' := by
  have HS : Hid (Calls Tryz.prog 19 #[.slice a l.length cp, .int .i64 1048576] w fun e w' => SZBl l w e w') := szBlS_any a cp l w 1048576 (Nat.le_refl _) hl h hz
  have HT : Hid (MemBl w a l) := h
  have HG : Hid (∀ u, Below w.heap.size w u → LT u) := fun u hu => hG.below hu
  obtain ⟨ok, hok⟩ := okR_some l
  have HOk : Hid (OkR l ok) := hok
  obtain ⟨c, hc⟩ : ∃ c, c = codeF ok l := ⟨_, rfl⟩
  have HE : Hid (codeF ok l = c) := hc.symm
  clear h hz hG hc hl hok
  go_enter Tryz.func5, Tryz.ntmps5
  go_wp2_with fail
  refine HS.out.mono ?_
  rintro e w1 ⟨h1, b1⟩
  have B1 : Hid (Below w.heap.size w w1) := b1
  clear b1
  rcases h1 with rfl | ⟨q, hq, rfl, hl, hz⟩
  · go_wp2
    go_ret
    exact ⟨rfl, B1.out⟩
  have HZ : Hid (∀ (k : Nat) (h : k < l.length), l[k].small) := hz
  have HN : Hid (l.length ≤ 1048576) := hl
  have HU : Hid (∀ wx, Below w.heap.size w wx → Calls Tryz.prog 21 #[.slice a l.length cp] wx fun e w' => ∃ g, e = .returned (.slice (some ⟨g, 0, none⟩) l.length l.length) ∧ IsBl w' wx.heap.size g l.length l ∧ Below wx.heap.size wx w') := fun wx hx => (toBlS_any a cp l wx hl hz (HT.out.below hx)).mono fun e w' ⟨h1, h2, h3⟩ => ⟨_, h1, h2, h3⟩
  clear hz hl
  go_wp2_with fail
  refine (HU.out _ B1.out).mono ?_
  rintro e w2 ⟨g2, rfl, o2, b2⟩
  have O2 : Hid (IsBl w2 w1.heap.size g2 l.length l) := o2
  have B2 : Hid (Below w.heap.size w w2) := B1.out.trans (b2.mono B1.out.size)
  clear o2 b2
  go_wp2_with fail
  refine (specCF_any _ _ _ l ok w2 HN.out HZ.out O2.out.row HOk.out).mono ?_
  rw [HE.out]
  rintro e w3 ⟨rfl, b3⟩
  have B3 : Hid (Below w.heap.size w w3) := B2.out.trans (b3.mono B2.out.size)
  clear b3 O2
  go_wp2_with fail
  refine (HU.out _ B3.out).mono ?_
  rintro e w4 ⟨g4, rfl, o4, b4⟩
  obtain ⟨BB4, hBB4⟩ : ∃ n, n = w3.heap.size := ⟨_, rfl⟩
  rw [← hBB4] at o4
  clear hBB4
  have O4 : Hid (IsBl w4 BB4 g4 l.length l) := o4
  have B4 : Hid (Below w.heap.size w w4) := B3.out.trans (b4.mono B3.out.size)
  clear o4 b4
  go_wp2_with fail
  refine (implCF_any _ _ _ l ok w4 HN.out HZ.out O4.out.row (HG.out _ B4.out) HOk.out).mono ?_
  rw [HE.out]
  rintro e w5 ⟨rfl, b5⟩
  have O5 : Hid (IsBl w5 BB4 g4 l.length l) := O4.out.below b5
  have B5 : Hid (Below w.heap.size w w5) := B4.out.trans (b5.mono B4.out.size)
  clear b5 O4
  go_wp2_with fail
  refine (HU.out _ B5.out).mono ?_
  rintro e w7 ⟨g7, rfl, o7, b7⟩
  obtain ⟨BB7, hBB7⟩ : ∃ n, n = w5.heap.size := ⟨_, rfl⟩
  rw [← hBB7] at o7
  clear hBB7
  have O7 : Hid (IsBl w7 BB7 g7 l.length l) := o7
  have P7 : Hid (IsBl w7 BB4 g4 l.length l) := O5.out.below b7
  have B7 : Hid (Below w.heap.size w w7) := B5.out.trans (b7.mono B5.out.size)
  clear o7 b7 O5
  go_wp2_with fail
  refine (eqBlS_same _ _ _ _ _ _ l w7 HN.out HZ.out P7.out.row O7.out.row).mono ?_
  rintro e w8 ⟨rfl, b8⟩
  go_wp2
  go_ret
  exact ⟨rfl, B7.out.trans (b8.mono B7.out.size)⟩
end Go.Proofs.YtfcabkhiofmmmaaGreatDoor
