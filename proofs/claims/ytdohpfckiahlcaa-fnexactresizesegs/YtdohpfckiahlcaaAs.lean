/-
  errors.As at the program's own error type notNumber: with a nil error it answers false and leaves the world as it is; with a notNumber it answers true and the target holds that notNumber; nothing else that was there is turned.
-/
import Derived.Test.YtdohpfckiahlcaaProg
import Derived.WalkKit
import Derived.LaidEql
import Derived.Stop.Asserts
import Derived.RowKitTokens
namespace Go.Proofs.Ytdohpfckiahlcaa
open Go.RowKit Go.Extern.Stop Go.Stop Go.Extern

theorem rlm (z : Sem Value) (f : TypeId → Addr → Nat → Nat → Sem Value) (v : Value) :
    ReflectliteValue.method z f #[v] = (do match ← ReflectliteValue.parts v with | none => z | some (t, a, fl) => f t a fl (fl % 32)) := rfl
end Go.Proofs.Ytdohpfckiahlcaa
