/-
  Parts of the proof laid into one text, one behind the other; each says at its head what is proved in it.
-/
import Derived.Test.YtebnonpdaddniaaGreatDoorEqCore
import Derived.Test.YtebnonpdaddniaaGreatDoorHcM
import Derived.Test.YtebnonpdaddniaaGreatDoorHcL
/-
  The exact law of CoreFault answers true at every slice of cores; nothing that was there is turned.
-/
namespace Go.Proofs.YtebnonpdaddniaaGreatDoor
open Go.RowKit Go.Extern.Stop Go.Stop Go.Extern Num Go.Lib

set_option maxHeartbeats 1000000 in
theorem lawCoF_any (w : World) (hG : LT w) (a : Option Addr) (ca : Nat) (l : List Cor) (hl : l.length ≤ 9223372036854775807) (h : MemC w a l) (hz : ∀ (k : Nat) (h : k < l.length), l[k].able) :
    Calls Tryz.prog 4 #[.slice a l.length ca] w fun e w' => e = .returned (.bool true) ∧ Below w.heap.size w w' := by
  have HS : Hid (Calls Tryz.prog 16 #[.slice a l.length ca, .int .i64 1048576] w fun e w' => SZC l w e w') := szCS_any a ca l w 1048576 (Nat.le_refl _) hl h hz
  have HT : Hid (MemC w a l) := h
  have HG : Hid (∀ u, Below w.heap.size w u → LT u) := fun u hu => hG.below hu
  clear h hz hl hG
  obtain ⟨sb, hsb⟩ : ∃ sb, sb = coreF l := ⟨_, rfl⟩
  have HSb : Hid (sb = coreF l) := hsb
  clear hsb
  go_enter Tryz.func4, Tryz.ntmps4
  go_wp2_with fail
  refine HS.out.mono ?_
  rintro e w1 ⟨h1, b1⟩
  have B1 : Hid (Below w.heap.size w w1) := b1
  clear b1
  rcases h1 with rfl | ⟨q, hq, rfl, hl, hzl⟩
  · go_wp2
    go_ret
    exact ⟨rfl, B1.out⟩
  have HN : Hid (l.length ≤ 1048576 ∧ ∀ (k : Nat) (h : k < l.length), l[k].small) := ⟨hl, hzl⟩
  have HU : Hid (∀ wx, Below w.heap.size w wx → Calls Tryz.prog 18 #[.slice a l.length ca] wx fun e w' => ∃ g B, e = .returned (.slice (some ⟨g, 0, none⟩) l.length l.length) ∧ IsC w' B g l.length l ∧ Below wx.heap.size wx w') := fun wx hx => (toCS_any a ca l wx hl hzl (HT.out.below hx)).mono fun e w' ⟨h1, h2, h3⟩ => ⟨_, _, h1, h2, h3⟩
  clear hl hzl hq
  go_wp2_with fail
  refine (HU.out _ B1.out).mono ?_
  rintro e w3 ⟨g3, D3, rfl, o3, b3⟩
  have O3 : Hid (RowC w3 D3 g3 l) := o3.row
  have B3 : Hid (Below w.heap.size w w3) := B1.out.trans (b3.mono B1.out.size)
  clear o3 b3
  go_wp2_with fail
  refine (specCoF_any D3 g3 _ l w3 O3.out HN.out.2).mono ?_
  rw [← HSb.out]
  rintro e w4 ⟨rfl, b4⟩
  have B4 : Hid (Below w.heap.size w w4) := B3.out.trans (b4.mono B3.out.size)
  clear b4 O3
  go_wp2_with fail
  refine (HU.out _ B4.out).mono ?_
  rintro e w5 ⟨g5, D5, rfl, o5, b5⟩
  have O5 : Hid (IsC w5 D5 g5 l.length l) := o5
  have B5 : Hid (Below w.heap.size w w5) := B4.out.trans (b5.mono B4.out.size)
  clear o5 b5
  go_wp2_with fail
  refine (implCoF_any D5 g5 _ l w5 O5.out HN.out.2 (HG.out _ B5.out)).mono ?_
  rw [← HSb.out]
  rintro e w6 ⟨rfl, b6⟩
  have O6 : Hid (RowC w6 D5 g5 l) := O5.out.row.below b6
  have B6 : Hid (Below w.heap.size w w6) := B5.out.trans (b6.mono B5.out.size)
  clear b6 O5
  have hsb : (sb != sb) = false := by simp
  go_wp2_with fail
  refine (HU.out _ B6.out).mono ?_
  rintro e w7 ⟨g7, D7, rfl, o7, b7⟩
  have O7 : Hid (RowC w7 D7 g7 l) := o7.row
  have X6 : Hid (RowC w7 D5 g5 l) := O6.out.below b7
  have B7 : Hid (Below w.heap.size w w7) := B6.out.trans (b7.mono B6.out.size)
  clear o7 b7 O6
  go_wp2_with fail
  refine (eqCS_same _ _ _ _ _ _ l w7 HN.out.1 HN.out.2 X6.out O7.out).mono ?_
  rintro e w8 ⟨rfl, b8⟩
  have B8 : Hid (Below w.heap.size w w8) := B7.out.trans (b8.mono B7.out.size)
  clear b8 X6 O7
  go_wp2
  go_ret
  exact ⟨rfl, B8.out⟩
end Go.Proofs.YtebnonpdaddniaaGreatDoor
