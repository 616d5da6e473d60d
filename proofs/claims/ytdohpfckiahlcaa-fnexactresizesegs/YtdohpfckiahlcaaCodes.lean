/-
  The program's inner functions checkNum and numCode: checkNum tells nil within the bounds and a notNumber with the code beyond them; numCode tells 0 of nil and the code of a notNumber; nothing that was there is turned.
-/
import Derived.Test.YtdohpfckiahlcaaAsHit
import Derived.Test.YtdohpfckiahlcaaMath
import Derived.WalkLawsBesides
namespace Go.Proofs.Ytdohpfckiahlcaa
open Go.RowKit Go.Extern.Stop Go.Stop Go.Extern Num

theorem lt_of_cell {w : World} {a : Addr} {v : Value} (h : w.cell? a = some v) : a.block < w.heap.size := by
  rcases Nat.lt_or_ge a.block w.heap.size with h' | h'
  · exact h'
  · simp [World.cell?, Array.getElem?_eq_none h'] at h
end Go.Proofs.Ytdohpfckiahlcaa
