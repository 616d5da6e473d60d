/-
  HeapFault of the program: what is wrong with pairs; the exact law answers true at every slice of pairs; nothing that was there is turned.
-/
import Derived.Test.YtgfienijabkpjaaDoorSvE
import Derived.Test.YtgfienijabkpjaaDoorImplHeap
namespace Go.Proofs.YtgfienijabkpjaaDoor
open Go.RowKit Go.Extern.Stop Go.Stop Go.Extern Num Go.Lib

theorem able_of {l : List Pai} (h : ∀ (k : Nat) (h : k < l.length), l[k].big ≤ 1048576) : ableL l := fun k hk => by have := h k hk; unfold Pai.big at this; unfold Pai.able; omega
end Go.Proofs.YtgfienijabkpjaaDoor
