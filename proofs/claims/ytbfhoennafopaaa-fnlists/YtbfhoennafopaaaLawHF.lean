/-
  HeapFault of the program: what is wrong with pairs; the exact law answers true at every slice of pairs; nothing that was there is turned.
-/
import Derived.Test.YtbfhoennafopaaaSpecHF
import Derived.Test.YtbfhoennafopaaaImplHeap
namespace Go.Proofs.Ytbfhoennafopaaa
open Go.RowKit Go.Extern.Stop Go.Stop Go.Extern Num Go.Lib

theorem implHF_any (ao : Option Addr) (cap g : Nat) (l : List Pai) (w : World) (hl : l.length ≤ 1048576) (hao : 0 < l.length → ao = some ⟨g, 0, none⟩) (hr : RowP w g l) (hz : ableL l) :
    Calls Try.prog 12 #[.slice ao l.length cap] w fun e w' => e = .returned (.int .i64 (heapFault l)) ∧ Below w.heap.size w w' := by
  obtain ⟨R, hR⟩ : ∃ R, R = heapFault l := ⟨_, rfl⟩
  have HC : Hid (Calls Try.prog 38 #[.slice ao l.length cap] w fun e w' => (∃ p, e = .returned (.tuple #[.pointer p, .int .i64 R])) ∧ Below w.heap.size w w') := by
    refine (heapOf_any ao cap g l w hl hao hr hz).mono ?_
    rintro e w' ⟨⟨p, rfl, _⟩, hb⟩
    exact ⟨⟨p, by rw [hR]⟩, hb⟩
  rw [← hR]
  clear hR hr hz hao
  go_enter Try.func12, Try.ntmps12
  go_wp2_with fail
  refine HC.out.mono ?_
  rintro e w1 ⟨⟨p, rfl⟩, hb⟩
  go_wp2
  go_ret
  exact ⟨rfl, hb⟩
theorem able_of {l : List Pai} (h : ∀ (k : Nat) (h : k < l.length), l[k].big ≤ 1048576) : ableL l := fun k hk => by have := h k hk; unfold Pai.big at this; unfold Pai.able; omega
end Go.Proofs.Ytbfhoennafopaaa
