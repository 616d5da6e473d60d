/-
  The exact law of GlobalsFault answers true at all globals; nothing that was there is turned.
-/
import Derived.Test.YtlamkbggfbancaaImplG
import Derived.Test.YtlamkbggfbancaaSpecGF
namespace Go.Proofs.Ytlamkbggfbancaa
open Go.RowKit Go.Extern.Stop Go.Stop Go.Extern Num Go.Lib

theorem ableG_of {l : List Glb} (h : ∀ (k : Nat) (h : k < l.length), l[k].big ≤ 1048576) : ableG l := fun k hk => by have := h k hk; unfold Glb.big at this; unfold Glb.able; omega
set_option maxHeartbeats 1000000 in
theorem lawGF_any (w : World) (a : Option Addr) (cp : Nat) (l : List Glb) (hl : l.length ≤ 9223372036854775807) (h : MemG w a l) (hz : ∀ (k : Nat) (h : k < l.length), l[k].able) :
    Calls Try.prog 5 #[.slice a l.length cp] w fun e w' => e = .returned (.bool true) ∧ Below w.heap.size w w' := by
  have HS : Hid (Calls Try.prog 23 #[.slice a l.length cp, .int .i64 1048576] w fun e w' => SZG l w e w') := szGS_any a cp l w 1048576 (Nat.le_refl _) hl h hz
  have HT : Hid (MemG w a l) := h
  clear h hz hl
  obtain ⟨df, hdf⟩ : ∃ df, df = globFault l := ⟨_, rfl⟩
  have HDf : Hid (df = globFault l) := hdf
  clear hdf
  go_enter Try.func5, Try.ntmps5
  go_wp2_with fail
  refine HS.out.mono ?_
  rintro e w1 ⟨h1, b1⟩
  have B1 : Hid (Below w.heap.size w w1) := b1
  clear b1
  rcases h1 with rfl | ⟨q, hq, rfl, hl, hz⟩
  · go_wp2
    go_ret
    exact ⟨rfl, B1.out⟩
  have HZ : Hid (ableG l) := ableG_of hz
  have HN : Hid (l.length ≤ 1048576) := hl
  have HU : Hid (∀ wx, Below w.heap.size w wx → Calls Try.prog 25 #[.slice a l.length cp] wx fun e w' => ∃ g, e = .returned (.slice (some ⟨g, 0, none⟩) l.length l.length) ∧ w'.ownsRow wx.heap.size 33 5 (.slice (some ⟨g, 0, none⟩) l.length l.length) l.length (cellsG l) ∧ Below wx.heap.size wx w') := fun wx hx => toGS_any a cp l wx hl (HT.out.below hx)
  clear hz hl
  go_wp2_with fail
  refine (HU.out _ B1.out).mono ?_
  rintro e w2 ⟨g2, rfl, o2, b2⟩
  have O2 : Hid _ := o2
  have B2 : Hid (Below w.heap.size w w2) := B1.out.trans (b2.mono B1.out.size)
  clear o2 b2
  go_wp2_with fail
  refine (specGF_any _ _ g2 l w2 HN.out (Nat.le_refl _) (by have := HN.out; omega) (fun _ => rfl) (RowG.of O2.out) HZ.out).mono ?_
  rw [← HDf.out]
  rintro e w3 ⟨rfl, b3⟩
  replace B2 : Hid (Below w.heap.size w w3) := B2.out.trans (b3.mono B2.out.size)
  clear O2 b3
  go_wp2_with fail
  refine (HU.out _ B2.out).mono ?_
  rintro e w4 ⟨g4, rfl, o4, b4⟩
  have O4 : Hid (w4.ownsRow _ 33 5 (.slice (some ⟨g4, 0, none⟩) l.length l.length) l.length (cellsG l)) := o4
  have B4 : Hid (Below w.heap.size w w4) := B2.out.trans (b4.mono B2.out.size)
  clear o4 b4
  go_wp2_with fail
  refine (implGF_any _ _ g4 l w4 HN.out (fun _ => rfl) (RowG.of O4.out) HZ.out).mono ?_
  rw [← HDf.out]
  rintro e w5 ⟨rfl, b5⟩
  have O5 : Hid (w5.ownsRow _ 33 5 (.slice (some ⟨g4, 0, none⟩) l.length l.length) l.length (cellsG l)) := own_below O4.out b5
  have B5 : Hid (Below w.heap.size w w5) := B4.out.trans (b5.mono B4.out.size)
  clear b5 O4
  go_wp2_with fail
  refine (HU.out _ B5.out).mono ?_
  rintro e w7 ⟨g7, rfl, o7, b7⟩
  have O7 : Hid (w7.ownsRow _ 33 5 (.slice (some ⟨g7, 0, none⟩) l.length l.length) l.length (cellsG l)) := o7
  have P7 : Hid (w7.ownsRow _ 33 5 (.slice (some ⟨g4, 0, none⟩) l.length l.length) l.length (cellsG l)) := own_below O5.out b7
  have B7 : Hid (Below w.heap.size w w7) := B5.out.trans (b7.mono B5.out.size)
  clear o7 b7 O5
  go_wp2_with fail
  refine (eqGS_same _ _ _ _ l w7 HN.out P7.out O7.out).mono ?_
  rintro e w8 ⟨rfl, b8⟩
  go_wp2
  go_ret
  exact ⟨rfl, B7.out.trans (b8.mono B7.out.size)⟩
end Go.Proofs.Ytlamkbggfbancaa
