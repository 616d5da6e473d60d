/-
  HeapFault of the program: what is wrong with pairs; the exact law answers true at every slice of pairs; nothing that was there is turned.
-/
import Derived.Test.YtijcmfnadobaeaaSpecHF
import Derived.Test.YtijcmfnadobaeaaImplHeap
namespace Go.Proofs.Ytijcmfnadobaeaa
open Go.RowKit Go.Extern.Stop Go.Stop Go.Extern Num Go.Lib

theorem implHF_any (ao : Option Addr) (cap g : Nat) (l : List Pai) (w : World) (hl : l.length ≤ 1048576) (hao : 0 < l.length → ao = some ⟨g, 0, none⟩) (hr : RowP w g l) (hz : ableL l) :
    Calls Try.prog 15 #[.slice ao l.length cap] w fun e w' => e = .returned (.int .i64 (heapFault l)) ∧ Below w.heap.size w w' := by
  obtain ⟨R, hR⟩ : ∃ R, R = heapFault l := ⟨_, rfl⟩
  have HC : Hid (Calls Try.prog 45 #[.slice ao l.length cap] w fun e w' => (∃ p, e = .returned (.tuple #[.pointer p, .int .i64 R])) ∧ Below w.heap.size w w') := by
    refine (heapOf_any ao cap g l w hl hao hr hz).mono ?_
    rintro e w' ⟨⟨p, rfl, _⟩, hb⟩
    exact ⟨⟨p, by rw [hR]⟩, hb⟩
  rw [← hR]
  clear hR hr hz hao
  go_enter Try.func15, Try.ntmps15
  go_wp2_with fail
  refine HC.out.mono ?_
  rintro e w1 ⟨⟨p, rfl⟩, hb⟩
  go_wp2
  go_ret
  exact ⟨rfl, hb⟩
theorem able_of {l : List Pai} (h : ∀ (k : Nat) (h : k < l.length), l[k].big ≤ 1048576) : ableL l := fun k hk => by have := h k hk; unfold Pai.big at this; unfold Pai.able; omega
set_option maxHeartbeats 1000000 in
theorem lawHF_any (w : World) (a : Option Addr) (cp : Nat) (l : List Pai) (hl : l.length ≤ 9223372036854775807) (h : MemP w a l) (hz : ∀ (k : Nat) (h : k < l.length), l[k].able) :
    Calls Try.prog 5 #[.slice a l.length cp] w fun e w' => e = .returned (.bool true) ∧ Below w.heap.size w w' := by
  have HS : Hid (Calls Try.prog 20 #[.slice a l.length cp, .int .i64 1048576] w fun e w' => SZP l w e w') := szPS_any a cp l w 1048576 (Nat.le_refl _) hl h hz
  have HT : Hid (MemP w a l) := h
  clear h hz hl
  obtain ⟨df, hdf⟩ : ∃ df, df = heapFault l := ⟨_, rfl⟩
  have HDf : Hid (df = heapFault l) := hdf
  clear hdf
  go_enter Try.func5, Try.ntmps5
  go_wp2_with fail
  refine HS.out.mono ?_
  rintro e w1 ⟨h1, b1⟩
  have B1 : Hid (Below w.heap.size w w1) := b1
  clear b1
  rcases h1 with rfl | ⟨q, hq, rfl, hl, hz⟩
  · go_wp2
    go_ret
    exact ⟨rfl, B1.out⟩
  have HZ : Hid (ableL l) := able_of hz
  have HN : Hid (l.length ≤ 1048576) := hl
  have HU : Hid (∀ wx, Below w.heap.size w wx → Calls Try.prog 22 #[.slice a l.length cp] wx fun e w' => ∃ g, e = .returned (.slice (some ⟨g, 0, none⟩) l.length l.length) ∧ w'.ownsRow wx.heap.size 75 6 (.slice (some ⟨g, 0, none⟩) l.length l.length) l.length (cellsP l) ∧ Below wx.heap.size wx w') := fun wx hx => toPS_any a cp l wx hl (HT.out.below hx)
  clear hz hl
  go_wp2_with fail
  refine (HU.out _ B1.out).mono ?_
  rintro e w2 ⟨g2, rfl, o2, b2⟩
  have O2 : Hid _ := o2
  have B2 : Hid (Below w.heap.size w w2) := B1.out.trans (b2.mono B1.out.size)
  clear o2 b2
  go_wp2_with fail
  refine (specHF_any _ _ g2 l w2 HN.out (fun _ => rfl) (RowP.of O2.out) HZ.out).mono ?_
  rw [← HDf.out]
  rintro e w3 ⟨rfl, hw3⟩
  replace hw3 := hw3.symm
  subst hw3
  clear O2
  go_wp2_with fail
  refine (HU.out _ B2.out).mono ?_
  rintro e w4 ⟨g4, rfl, o4, b4⟩
  have O4 : Hid (w4.ownsRow _ 75 6 (.slice (some ⟨g4, 0, none⟩) l.length l.length) l.length (cellsP l)) := o4
  have B4 : Hid (Below w.heap.size w w4) := B2.out.trans (b4.mono B2.out.size)
  clear o4 b4
  go_wp2_with fail
  refine (implHF_any _ _ g4 l w4 HN.out (fun _ => rfl) (RowP.of O4.out) HZ.out).mono ?_
  rw [← HDf.out]
  rintro e w5 ⟨rfl, b5⟩
  have O5 : Hid (w5.ownsRow _ 75 6 (.slice (some ⟨g4, 0, none⟩) l.length l.length) l.length (cellsP l)) := own_below O4.out b5
  have B5 : Hid (Below w.heap.size w w5) := B4.out.trans (b5.mono B4.out.size)
  clear b5 O4
  go_wp2_with fail
  refine (HU.out _ B5.out).mono ?_
  rintro e w7 ⟨g7, rfl, o7, b7⟩
  have O7 : Hid (w7.ownsRow _ 75 6 (.slice (some ⟨g7, 0, none⟩) l.length l.length) l.length (cellsP l)) := o7
  have P7 : Hid (w7.ownsRow _ 75 6 (.slice (some ⟨g4, 0, none⟩) l.length l.length) l.length (cellsP l)) := own_below O5.out b7
  have B7 : Hid (Below w.heap.size w w7) := B5.out.trans (b7.mono B5.out.size)
  clear o7 b7 O5
  go_wp2_with fail
  refine (eqPS_same _ _ _ _ l w7 HN.out P7.out O7.out).mono ?_
  rintro e w8 ⟨rfl, b8⟩
  go_wp2
  go_ret
  exact ⟨rfl, B7.out.trans (b8.mono B7.out.size)⟩
end Go.Proofs.Ytijcmfnadobaeaa
