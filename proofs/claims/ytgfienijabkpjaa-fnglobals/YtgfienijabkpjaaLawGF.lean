/-
  The exact law of GlobalsFault answers true at all globals; nothing that was there is turned.
-/
import Derived.Test.YtgfienijabkpjaaImplG
import Derived.Test.YtgfienijabkpjaaSpecGF
namespace Go.Proofs.Ytgfienijabkpjaa
open Go.RowKit Go.Extern.Stop Go.Stop Go.Extern Num Go.Lib

theorem ableG_of {l : List Glb} (h : ∀ (k : Nat) (h : k < l.length), l[k].big ≤ 1048576) : ableG l := fun k hk => by have := h k hk; unfold Glb.big at this; unfold Glb.able; omega
end Go.Proofs.Ytgfienijabkpjaa
