/-
  The program's dataText and the library's Itoa: the text of data, of a place; nothing that was there is turned.
-/
import Derived.Test.YtkdhmijebkhmaaaGreatDoorWriteM
import Derived.Test.YtkdhmijebkhmaaaGreatDoorCtJ
import Derived.Test.YtkdhmijebkhmaaaGreatDoorShelfItoa
namespace Go.Proofs.YtkdhmijebkhmaaaGreatDoor
open Go.RowKit Go.Extern.Stop Go.Stop Go.Extern Num Go.Lib Go.Shelf

theorem dataText_any (g cap B : Nat) (d : List Dat) (w : World) (h : IsD w B g cap d) (hz : ∀ (k : Nat) (h : k < d.length), d[k].name.size ≤ 1048576) (hf : dataFault d = 0) (hL : LT w) :
    Calls Tryz.prog 69 #[.slice (some ⟨g, 0, none⟩) d.length cap] w fun e w' => e = .returned (.string ⟨(writeF d d.length 0).toArray⟩) ∧ Below w.heap.size w w' := by
  have F := fine_of hf
  have HT : Hid (Calls Tryz.prog 98 #[.slice (some ⟨g, 0, none⟩) d.length cap] w fun e w' => e = .returned (.tuple #[.pointer (some ⟨w.heap.size, 0, none⟩), .int .i64 0]) ∧ OwnT w.heap.size w.heap.size (nodes d) w' ∧ Below w.heap.size w w') :=
    (treeOf_any _ cap B d w h hz hL).mono fun e w' h => by
      rcases h with h | ⟨_, h1, h2, h3⟩
      · exact absurd hf h.1
      · exact ⟨h1, h2, h3⟩
  have HW : Hid (∀ (u : World) (tb : Nat), LT u → IsTree u.heap.size u tb (nodes d) → Calls Tryz.prog 99 #[.pointer (some ⟨tb, 0, none⟩)] u fun e W' => e = .returned (.string ⟨(writeF d d.length 0).toArray⟩) ∧ Below u.heap.size u W') := fun u tb hu hT => wt_any F (pdn_nodes F hz) F.pos hz tb u hu hT
  have HL : Hid (LT w) := hL
  clear h hz hf F hL
  generalize (⟨(writeF d d.length 0).toArray⟩ : ByteArray) = tx at HW ⊢
  go_enter Tryz.func69, Tryz.ntmps69
  go_wp2_with fail
  refine HT.out.mono ?_
  rintro e w1 ⟨rfl, ho, hb⟩
  have HO : Hid (OwnT w.heap.size w.heap.size (nodes d) w1) := ho
  have HB : Hid (Below w.heap.size w w1) := hb
  clear ho hb
  go_wp2_with fail
  refine (HW.out _ _ (HL.out.below HB.out) HO.out.tree).mono ?_
  rintro e w2 ⟨rfl, b2⟩
  have HB2 : Hid (Below w.heap.size w w2) := HB.out.trans (b2.mono HB.out.size)
  clear b2
  go_wp2
  go_ret
  exact ⟨rfl, HB2.out⟩
end Go.Proofs.YtkdhmijebkhmaaaGreatDoor
