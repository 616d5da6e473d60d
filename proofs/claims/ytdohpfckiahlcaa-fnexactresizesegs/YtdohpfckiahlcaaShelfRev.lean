/-
  Functions of Go's library that the program calls, at this program's numbers, as the library of contracts tells them; nothing of my own is proved here.
-/
import Derived.Shelf.SlGeneric
import Derived.Ground.SlgnProg
import Derived.Shelf.SlicesE.Reverse
import Derived.Test.YtdohpfckiahlcaaProg
namespace Go.Proofs.Ytdohpfckiahlcaa
open Go.Shelf
def Try.layRev_ren : Go.Shelf.Ren := ⟨fun | 35 => 49 | n => n, fun | 22 => 72 | 23 => 42 | 3 => 3 | 4 => 4 | 0 => 0 | n => n, fun | n => n⟩
theorem Try.layRev : Go.Proofs.SlLaysE.n35 Try.prog Try.layRev_ren := {
  mixed := by kernel_rfl
  f35 := ⟨Try.f49.name, by decide, Try.func49.trans (congrArg some (by kernel_rfl))⟩
  t0 := Try.underlying0
  a0 := Try.isAgg0
  z0 := Try.sizeOf0
  v0 := Try.zeroValue0
  t3 := Try.underlying3
  a3 := Try.isAgg3
  z3 := Try.sizeOf3
  v3 := Try.zeroValue3
  t4 := Try.underlying4
  a4 := Try.isAgg4
  z4 := Try.sizeOf4
  v4 := Try.zeroValue4
  t22 := Try.underlying72
  a22 := Try.isAgg72
  z22 := Try.sizeOf72
  v22 := Try.zeroValue72
  a23 := Try.isAgg42
  z23 := Try.sizeOf42 }
open Go.RowKit in
theorem Try.rev_slices (blk off cap : Nat) (zs : List (Option Addr × Nat × Nat)) (w : World) (hH : Sort.Holds (fun x : Option Addr × Nat × Nat => Value.slice x.1 x.2.1 x.2.2) w blk off zs.toArray) (hsz : zs.length ≤ 9223372036854775807) :
    Calls Try.prog 49 #[.slice (some ⟨blk, off, none⟩) zs.length cap] w fun e w' => e = .returned (.tuple #[]) ∧ ∃ n, w' = Sort.putRow (fun x : Option Addr × Nat × Nat => Value.slice x.1 x.2.1 x.2.2) (Sort.ahead w n) blk off zs.reverse.toArray := AnyE.slices_Reverse Try.layRev (fun x : Option Addr × Nat × Nat => Value.slice x.1 x.2.1 x.2.2) (fun _ => rfl) blk off cap zs w hH hsz
end Go.Proofs.Ytdohpfckiahlcaa
