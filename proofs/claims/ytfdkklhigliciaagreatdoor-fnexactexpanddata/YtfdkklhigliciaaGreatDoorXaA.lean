/-
  Parts of the proof laid into one text, one behind the other; each says at its head what is proved in it.
-/
import Derived.Test.YtfdkklhigliciaaGreatDoorProg
import Derived.WalkKit
import Derived.LaidEql
import Derived.Stop.Asserts
import Derived.RowKitTokens
import Derived.Lib.AtoiTie
import Derived.Lib.ItoaNum
import Derived.Lib.ItoaMem
import Derived.Lib.ItoaLen
import Derived.Lib.ParseIntBTie
import Derived.WalkLawsBesides
import Derived.Test.YtfdkklhigliciaaGreatDoorCards
import Derived.Test.YtfdkklhigliciaaGreatDoorTie
import Derived.ProofKit
import Derived.OpenShut
import Derived.LaidHandle
import Derived.Deep.DeepHandedRow
import Derived.Lib.LaidTab
/-
  errors.As at the program's own error type notNumber: with a nil error it answers false and leaves the world as it is; with a notNumber it answers true and the target holds that notNumber; nothing else that was there is turned.
-/
namespace Go.Proofs.YtfdkklhigliciaaGreatDoor
open Go.RowKit Go.Extern.Stop Go.Stop Go.Extern

theorem as_nil (t : Value) (w : World) :
    Calls Tryz.prog 135 #[.nilIface, t] w fun e w' => e = .returned (.bool false) ∧ w' = w := by
  go_enter Tryz.func135, Tryz.ntmps135
  go_wp2
  go_ret
  exact ⟨rfl, rfl⟩

/- closed facts on the entries for internal/reflectlite at this program's numbers -/
theorem rlValueOfP (t : Addr) (w : World) : (ReflectliteValue.unpack (.iface 221 (.pointer (some t)))).run Tryz.prog w
    = .ok (.agg #[.pointer (some ⟨7, 221, none⟩), .pointer (some ⟨w.heap.size, 0, none⟩), .int .u64 150]) (w.alloc (.cells #[.pointer (some t)] 221)) := by kernel_rfl
theorem rlTypeP (a : Addr) (w : World) : (ReflectliteValue.methodAny (ReflectliteValue.valueError "reflectlite.Value.Type" 0) (fun t _ _ _ => ReflectliteType.toType t) #[.agg #[.pointer (some ⟨7, 221, none⟩), .pointer (some a), .int .u64 150]]).run Tryz.prog w
    = .ok (.iface 272 (.agg #[.pointer (some ⟨7, 221, none⟩)])) w := by kernel_rfl
theorem rlMethodKind (h : Value) (w : World) : (Go.method 444 272 (.agg #[h]) "Kind").run Tryz.prog w = .ok (233, h) w := by kernel_rfl
theorem rlKindP (w : World) : ((ReflectliteType.abiMethod fun t => Functor.map (fun a : Nat => Value.int IntKind.u8 (a : Int)) (Rtype.kind t)) #[.pointer (some ⟨7, 221, none⟩)]).run Tryz.prog w = .ok (.int .u8 22) w := by kernel_rfl
theorem rlKindN (w : World) : ((ReflectliteType.abiMethod fun t => Functor.map (fun a : Nat => Value.int IntKind.u8 (a : Int)) (Rtype.kind t)) #[.pointer (some ⟨7, 219, none⟩)]).run Tryz.prog w = .ok (.int .u8 25) w := by kernel_rfl

theorem rlm (z : Sem Value) (f : TypeId → Addr → Nat → Nat → Sem Value) (v : Value) :
    ReflectliteValue.method z f #[v] = (do match ← ReflectliteValue.parts v with | none => z | some (t, a, fl) => f t a fl (fl % 32)) := rfl
theorem rlPartsP (a : Addr) (w : World) : (ReflectliteValue.parts (.agg #[.pointer (some ⟨7, 221, none⟩), .pointer (some a), .int .u64 150])).run Tryz.prog w = .ok (some (221, a, 150)) w := by kernel_rfl
theorem rlIsNilP (a p : Addr) (W : World) (ha : W.cell? a = some (.pointer (some p))) :
    (ReflectliteValue.method (ReflectliteValue.valueError "reflectlite.Value.IsNil" 0) ReflectliteValue.isNil #[.agg #[.pointer (some ⟨7, 221, none⟩), .pointer (some a), .int .u64 150]]).run Tryz.prog W = .ok (.bool false) W := by
  rw [rlm]
  simp only [Sem.run_bind, rlPartsP, Result.andThen]
  simp [ReflectliteValue.isNil, loadVar, isAgg, underlying, Tryz.underlying221, ha, Result.andThen]

theorem rlMethodElem (h : Value) (w : World) : (Go.method 444 272 (.agg #[h]) "Elem").run Tryz.prog w = .ok (245, .agg #[h]) w := by kernel_rfl
theorem rlMethodImplements (h : Value) (w : World) : (Go.method 444 272 (.agg #[h]) "Implements").run Tryz.prog w = .ok (246, .agg #[h]) w := by kernel_rfl
theorem rlMethodAssignableTo (h : Value) (w : World) : (Go.method 444 272 (.agg #[h]) "AssignableTo").run Tryz.prog w = .ok (243, .agg #[h]) w := by kernel_rfl
theorem rlElemP (w : World) : (ReflectliteType.method ReflectliteType.elem #[.agg #[.pointer (some ⟨7, 221, none⟩)]]).run Tryz.prog w = .ok (.iface 272 (.agg #[.pointer (some ⟨7, 219, none⟩)])) w := by kernel_rfl
theorem rlImplementsN (w : World) : (ReflectliteType.relation "Implements" ReflectliteType.implements_ #[.agg #[.pointer (some ⟨7, 219, none⟩)], .iface 272 (.agg #[.pointer (some ⟨7, 169, none⟩)])]).run Tryz.prog w = .ok (.bool true) w := by kernel_rfl
theorem rlTypeOfN (v : Value) (w : World) : (ReflectliteType.typeOf #[.iface 219 v]).run Tryz.prog w = .ok (.iface 272 (.agg #[.pointer (some ⟨7, 219, none⟩)])) w := by kernel_rfl
theorem rlAssignableN (w : World) : (ReflectliteType.relation "AssignableTo" ReflectliteType.assignableTo #[.agg #[.pointer (some ⟨7, 219, none⟩)], .iface 272 (.agg #[.pointer (some ⟨7, 219, none⟩)])]).run Tryz.prog w = .ok (.bool true) w := by kernel_rfl
theorem rlValueOfN (x : Int) (w : World) : (ReflectliteValue.unpack (.iface 219 (.agg #[.int .i64 x]))).run Tryz.prog w
    = .ok (.agg #[.pointer (some ⟨7, 219, none⟩), .pointer (some ⟨w.heap.size, 0, none⟩), .int .u64 153]) (w.alloc (.cells #[.int .i64 x] 219)) := by kernel_rfl

theorem rlElemOfP (w : World) : (Rtype.elem? 221).run Tryz.prog w = .ok (some 219) w := by kernel_rfl
theorem rlMkN (p : Addr) (w : World) : (ReflectliteValue.mk 219 p ReflectliteValue.flagAddr).run Tryz.prog w = .ok (.agg #[.pointer (some ⟨7, 219, none⟩), .pointer (some p), .int .u64 409]) w := by kernel_rfl
theorem rlElemVP (a p : Addr) (W : World) (ha : W.cell? a = some (.pointer (some p))) :
    (ReflectliteValue.method (ReflectliteValue.valueError "reflectlite.Value.Elem" 0) ReflectliteValue.elem #[.agg #[.pointer (some ⟨7, 221, none⟩), .pointer (some a), .int .u64 150]]).run Tryz.prog W
      = .ok (.agg #[.pointer (some ⟨7, 219, none⟩), .pointer (some p), .int .u64 409]) W := by
  rw [rlm]
  simp only [Sem.run_bind, rlPartsP, Result.andThen]
  simp [ReflectliteValue.elem, loadVar, isAgg, underlying, Tryz.underlying221, ha, Result.andThen, rlElemOfP, rlMkN]
theorem rlPartsNa (a : Addr) (w : World) : (ReflectliteValue.parts (.agg #[.pointer (some ⟨7, 219, none⟩), .pointer (some a), .int .u64 409])).run Tryz.prog w = .ok (some (219, a, 409)) w := by kernel_rfl
theorem rlPartsN (a : Addr) (w : World) : (ReflectliteValue.parts (.agg #[.pointer (some ⟨7, 219, none⟩), .pointer (some a), .int .u64 153])).run Tryz.prog w = .ok (some (219, a, 153)) w := by kernel_rfl
theorem rlDirectN (w : World) : (Rtype.directlyAssignable 219 219).run Tryz.prog w = .ok true w := by kernel_rfl
theorem rlSizeN (w : World) : (sizeOf 219).run Tryz.prog w = .ok 1 w := by kernel_rfl

theorem rlLoadN (b : Addr) (x : Int) (W : World) (hb : W.cell? b = some (.int .i64 x)) : (loadVar 219 b).run Tryz.prog W = .ok (.agg #[.int .i64 x]) W := by
  simp [loadVar, isAgg, underlying, Tryz.underlying219, hb, Result.andThen, loadCells, loadCellsFrom, Addr.add]
theorem rlStoreN (ta : Addr) (x : Int) (old : Value) (W : World) (ht : W.cell? ta = some old) (hf : W.frozen? ta = false) : (storeVar 219 ta (.agg #[.int .i64 x])).run Tryz.prog W = .ok () (W.setCell ta (.int .i64 x)) := by
  simp [storeVar, Value.cells, storeCells, Addr.add]
  rw [run_store Tryz.prog W ta _ _ (by rfl)]
  simp [ht, hf]

/-- (Value).Set: the variable at 'ta' gets what the Value's own variable 'b' holds. -/
theorem rlSetN (ta b : Addr) (x : Int) (old : Value) (W : World) (hb : W.cell? b = some (.int .i64 x)) (ht : W.cell? ta = some old) (hf : W.frozen? ta = false) :
    (ReflectliteValue.set #[.agg #[.pointer (some ⟨7, 219, none⟩), .pointer (some ta), .int .u64 409], .agg #[.pointer (some ⟨7, 219, none⟩), .pointer (some b), .int .u64 153]]).run Tryz.prog W
      = .ok (.tuple #[]) (W.setCell ta (.int .i64 x)) := by
  have key := show ReflectliteValue.set #[.agg #[.pointer (some ⟨7, 219, none⟩), .pointer (some ta), .int .u64 409], .agg #[.pointer (some ⟨7, 219, none⟩), .pointer (some b), .int .u64 153]] = Bind.bind (ReflectliteValue.parts (.agg #[.pointer (some ⟨7, 219, none⟩), .pointer (some ta), .int .u64 409])) (fun p => Bind.bind (ReflectliteValue.parts (.agg #[.pointer (some ⟨7, 219, none⟩), .pointer (some b), .int .u64 153])) _) from rfl
  rw [key]
  simp only [Sem.run_bind, rlPartsNa, rlPartsN, Result.andThen]
  simp [ReflectliteValue.flagAddr, rlLoadN b x W hb, rlDirectN, rlStoreN ta x old W ht hf, Result.andThen]
end Go.Proofs.YtfdkklhigliciaaGreatDoor
/-
  errors.As with a notNumber and a target of that type answers true, and the target holds that notNumber behind it; nothing else that was there is turned.
-/
namespace Go.Proofs.YtfdkklhigliciaaGreatDoor
open Go.RowKit Go.Extern.Stop Go.Stop Go.Extern

set_option maxHeartbeats 4000000 in
theorem as_hit (x : Int) (t : Addr) (old : Value) (w : World) (hg : w.cell? ⟨0, 0, none⟩ = some (.iface 272 (.agg #[.pointer (some ⟨7, 169, none⟩)]))) (ht0 : w.cell? t = some old) (hf0 : w.frozen? t = false) :
    Calls Tryz.prog 135 #[.iface 219 (.agg #[.int .i64 x]), .iface 221 (.pointer (some t))] w fun ev w' => ev = .returned (.bool true) ∧ w' = ((((w.alloc (.cells #[.pointer (some t)] 221)).alloc (.cells #[.pointer (some ⟨7, 221, none⟩), .pointer (some ⟨w.heap.size, 0, none⟩), .int .u64 150] 246)).alloc (.cells #[.pointer (some ⟨7, 221, none⟩), .pointer (some ⟨w.heap.size, 0, none⟩), .int .u64 150] 246)).alloc (.cells #[.int .i64 x] 219)).setCell t (.int .i64 x) := by
  have h6 := @run_callFunc_extern Tryz.prog 166 _ (fun args => ReflectliteValue.unpack (args.getD 0 (.tuple #[]))) Tryz.func166 (by kernel_rfl) (by kernel_rfl) (by kernel_rfl) (by kernel_rfl)
  have h7 := @run_callFunc_extern Tryz.prog 167 _ (ReflectliteValue.methodAny (ReflectliteValue.valueError "reflectlite.Value.Type" 0) (fun t _ _ _ => ReflectliteType.toType t)) Tryz.func167 (by kernel_rfl) (by kernel_rfl) (by kernel_rfl) (by kernel_rfl)
  have h8 := @run_callFunc_extern Tryz.prog 168 _ (ReflectliteValue.method (ReflectliteValue.valueError "reflectlite.Value.IsNil" 0) ReflectliteValue.isNil) Tryz.func168 (by kernel_rfl) (by kernel_rfl) (by kernel_rfl) (by kernel_rfl)
  have h27 := @run_callFunc_extern Tryz.prog 233 _ (ReflectliteType.abiMethod fun t => do pure (.int .u8 (← Rtype.kind t))) Tryz.func233 (by kernel_rfl) (by kernel_rfl) (by kernel_rfl) (by kernel_rfl)
  have h37 := @run_callFunc_extern Tryz.prog 245 _ (ReflectliteType.method ReflectliteType.elem) Tryz.func245 (by kernel_rfl) (by kernel_rfl) (by kernel_rfl) (by kernel_rfl)
  have h38 := @run_callFunc_extern Tryz.prog 246 _ (ReflectliteType.relation "Implements" ReflectliteType.implements_) Tryz.func246 (by kernel_rfl) (by kernel_rfl) (by kernel_rfl) (by kernel_rfl)
  have h10 := @run_callFunc_extern Tryz.prog 185 _ ReflectliteType.typeOf Tryz.func185 (by kernel_rfl) (by kernel_rfl) (by kernel_rfl) (by kernel_rfl)
  have h35 := @run_callFunc_extern Tryz.prog 243 _ (ReflectliteType.relation "AssignableTo" ReflectliteType.assignableTo) Tryz.func243 (by kernel_rfl) (by kernel_rfl) (by kernel_rfl) (by kernel_rfl)
  have h11 := @run_callFunc_extern Tryz.prog 186 _ (ReflectliteValue.method (ReflectliteValue.valueError "reflectlite.Value.Elem" 0) ReflectliteValue.elem) Tryz.func186 (by kernel_rfl) (by kernel_rfl) (by kernel_rfl) (by kernel_rfl)
  have h12 := @run_callFunc_extern Tryz.prog 187 _ ReflectliteValue.set Tryz.func187 (by kernel_rfl) (by kernel_rfl) (by kernel_rfl) (by kernel_rfl)
  have tO := rlTypeOfN
  have mA := rlMethodAssignableTo
  have aN := rlAssignableN
  have vN := rlValueOfN
  have f6 := rlValueOfP
  have f7 := rlTypeP
  have mK := rlMethodKind
  have mE := rlMethodElem
  have mI := rlMethodImplements
  have kP := rlKindP
  have kN := rlKindN
  have eP := rlElemP
  have iN := rlImplementsN
  have n8 := rlIsNilP ⟨w.heap.size, 0, none⟩ t ((w.alloc (.cells #[.pointer (some t)] 221)).alloc (.cells #[.pointer (some ⟨7, 221, none⟩), .pointer (some ⟨w.heap.size, 0, none⟩), .int .u64 150] 246)) (by simp)
  have hlt : 0 < w.heap.size := by
    rcases Nat.lt_or_ge 0 w.heap.size with h | h
    · exact h
    · simp [World.cell?, Array.getElem?_eq_none h] at hg
  have hg2 : ((w.alloc (.cells #[.pointer (some t)] 221)).alloc (.cells #[.pointer (some ⟨7, 221, none⟩), .pointer (some ⟨w.heap.size, 0, none⟩), .int .u64 150] 246)).cell? ⟨0, 0, none⟩ = some (.iface 272 (.agg #[.pointer (some ⟨7, 169, none⟩)])) := by
    rw [World.cell?_alloc_lt _ _ ⟨0, 0, none⟩ (by simp <;> omega), World.cell?_alloc_lt _ _ ⟨0, 0, none⟩ hlt]; exact hg
  have htl : t.block < w.heap.size := by
    rcases Nat.lt_or_ge t.block w.heap.size with h | h
    · exact h
    · simp [World.cell?, Array.getElem?_eq_none h] at ht0
  have el := rlElemVP ⟨w.heap.size, 0, none⟩ t (((w.alloc (.cells #[.pointer (some t)] 221)).alloc (.cells #[.pointer (some ⟨7, 221, none⟩), .pointer (some ⟨w.heap.size, 0, none⟩), .int .u64 150] 246)).alloc (.cells #[.pointer (some ⟨7, 221, none⟩), .pointer (some ⟨w.heap.size, 0, none⟩), .int .u64 150] 246)) (by rw [World.cell?_alloc_lt _ _ ⟨w.heap.size, 0, none⟩ (by simp <;> omega)]; simp)
  have st := rlSetN t ⟨w.heap.size + 1 + 1 + 1, 0, none⟩ x old ((((w.alloc (.cells #[.pointer (some t)] 221)).alloc (.cells #[.pointer (some ⟨7, 221, none⟩), .pointer (some ⟨w.heap.size, 0, none⟩), .int .u64 150] 246)).alloc (.cells #[.pointer (some ⟨7, 221, none⟩), .pointer (some ⟨w.heap.size, 0, none⟩), .int .u64 150] 246)).alloc (.cells #[.int .i64 x] 219))
    (by rw [World.cell?_alloc_at _ _ _ _ (by simp)]; rfl)
    (by rw [World.cell?_alloc_lt _ _ t (by simp <;> omega), World.cell?_alloc_lt _ _ t (by simp <;> omega), World.cell?_alloc_lt _ _ t (by simp <;> omega), World.cell?_alloc_lt _ _ t htl]; exact ht0)
    (by rw [World.frozen?_alloc_old _ _ t (by simp <;> omega), World.frozen?_alloc_old _ _ t (by simp <;> omega), World.frozen?_alloc_old _ _ t (by simp <;> omega), World.frozen?_alloc_old _ _ t (Nat.ne_of_lt htl)]; exact hf0)
  go_enter Tryz.func135, Tryz.ntmps135
  go_wp2
  refine wp_loop_rounds 1 ?_
  rw [rounds_succ]
  go_wp2
  go_ret
  exact ⟨rfl, rfl⟩
end Go.Proofs.YtfdkklhigliciaaGreatDoor
/-
  Plain facts on bounded numbers and their decimal texts: the digits of a number spell that number, and a text is the text of at most one number; no program in it.
-/
namespace Go.Proofs.YtfdkklhigliciaaGreatDoor.Num
open Go.Lib

/-- A number that is within the document's bounds. -/
def inB (n : Int) : Bool := decide (-1000000000 ≤ n ∧ n ≤ 1000000000)
theorem inB_iff (n : Int) : inB n = true ↔ -1000000000 ≤ n ∧ n ≤ 1000000000 := by simp [inB]
theorem inB_not (n : Int) : inB n = false ↔ n < -1000000000 ∨ 1000000000 < n := by
  rw [← Bool.not_eq_true, inB_iff]; omega

theorem digitVal_ofNat (d : Nat) (h : d < 10) : digitVal (UInt8.ofNat (48 + d)) = some d := by
  have e : (UInt8.ofNat (48 + d)).toNat = 48 + d := by simp [UInt8.toNat_ofNat']; omega
  unfold digitVal
  rw [e, if_pos (by omega)]
  congr 1; omega

theorem decFrom_append : ∀ (a b : List UInt8) (acc m : Nat), decFrom acc a = some m → decFrom acc (a ++ b) = decFrom m b
  | [], b, acc, m, h => by simp [decFrom] at h; subst h; rfl
  | c :: r, b, acc, m, h => by
    simp only [decFrom, List.cons_append] at h ⊢
    cases hd : digitVal c with
    | none => rw [hd] at h; cases h
    | some d => rw [hd] at h; simp only at h ⊢; exact decFrom_append r b _ m h

theorem decFrom_decDigits (u : Nat) : decFrom 0 (decDigits u) = some u := by
  induction u using Nat.strongRecOn with
  | _ u ih =>
    by_cases h : u < 10
    · rw [decDigits, dif_pos h]
      simp only [decFrom, digitVal_ofNat u h]
      congr 1; omega
    · rw [decDigits, dif_neg h, decFrom_append _ _ _ _ (ih (u / 10) (by omega))]
      simp only [decFrom, digitVal_ofNat (u % 10) (by omega)]
      congr 1; omega

theorem decDigits_cons (u : Nat) : ∃ c r, decDigits u = c :: r ∧ 48 ≤ c.toNat ∧ c.toNat ≤ 57 := by
  induction u using Nat.strongRecOn with
  | _ u ih =>
    by_cases h : u < 10
    · refine ⟨_, [], by rw [decDigits, dif_pos h], ?_⟩
      have e : (UInt8.ofNat (48 + u)).toNat = 48 + u := by simp [UInt8.toNat_ofNat']; omega
      rw [e]; omega
    · obtain ⟨c, r, e, h1, h2⟩ := ih (u / 10) (by omega)
      exact ⟨c, r ++ [UInt8.ofNat (48 + u % 10)], by rw [decDigits, dif_neg h, e]; rfl, h1, h2⟩

theorem decNat_decDigits (u : Nat) : decNat (decDigits u) = some u := by
  obtain ⟨c, r, e, _, _⟩ := decDigits_cons u
  unfold decNat
  rw [decFrom_decDigits, e]; simp

theorem u8_beq (c : UInt8) (n : Nat) (hn : n < 256) (h : c.toNat ≠ n) : (c == UInt8.ofNat n) = false := by
  rw [beq_eq_false_iff_ne]
  intro e; apply h; rw [e]; simp [UInt8.toNat_ofNat']; omega

theorem atoi_itoa (n : Int) : atoi (itoa n) = some n := by
  unfold itoa
  by_cases h : n < 0
  · rw [if_pos h]
    have : atoi (45 :: decDigits n.natAbs) = (decNat (decDigits n.natAbs)).map fun (m : Nat) => -(m : Int) := by simp [atoi]
    rw [this, decNat_decDigits]
    simp; omega
  · rw [if_neg h]
    obtain ⟨c, r, e, h1, h2⟩ := decDigits_cons n.toNat
    have hd := decNat_decDigits n.toNat
    rw [e] at hd ⊢
    have a := u8_beq c 45 (by omega) (by omega)
    have b := u8_beq c 43 (by omega) (by omega)
    simp only [atoi]
    rw [show (c == 45) = false from a, show (c == 43) = false from b]
    simp [hd]; omega

theorem nDigits_le_of_lt (u k : Nat) (h : u < 10 ^ (k + 1)) : nDigits u ≤ k + 1 := by
  induction k generalizing u with
  | zero => rw [nDigits_small (by simpa using h)]; exact Nat.le_refl _
  | succ k ih =>
    by_cases h2 : u < 10
    · rw [nDigits_small h2]; omega
    · rw [nDigits_big h2]
      have := ih (u / 10) (by rw [Nat.pow_succ] at h; omega)
      omega

theorem itoa_len (n : Int) (h : inB n = true) : (itoa n).length ≤ 11 := by
  rw [inB_iff] at h
  have a : ∀ u, u ≤ 1000000000 → (decDigits u).length ≤ 10 := fun u hu => by
    rw [decDigits_length]; exact nDigits_le_of_lt u 9 (by omega)
  unfold itoa
  by_cases hn : n < 0
  · rw [if_pos hn]; have := a n.natAbs (by omega); simp; omega
  · rw [if_neg hn]; have := a n.toNat (by omega); omega

/-- What ParseInt tells of the text of a number. -/
theorem parse_itoa (n : Int) (h : inB n = true) : parseIntB 64 (itoa n) = .ok n := by
  rw [parseIntB_64, atoiAll_short _ (by have := itoa_len n h; omega), atoi_itoa]; rfl

theorem itoa_inj {a b : Int} (h : itoa a = itoa b) : a = b := by
  have := atoi_itoa a; rw [h, atoi_itoa] at this; exact (Option.some.inj this).symm
end Go.Proofs.YtfdkklhigliciaaGreatDoor.Num
/-
  The program's inner functions checkNum and numCode: checkNum tells nil within the bounds and a notNumber with the code beyond them; numCode tells 0 of nil and the code of a notNumber; nothing that was there is turned.
-/
namespace Go.Proofs.YtfdkklhigliciaaGreatDoor
open Go.RowKit Go.Extern.Stop Go.Stop Go.Extern Num

/-- What the listed variable errors.errorType holds. -/
def ET (w : World) : Prop := w.cell? ⟨0, 0, none⟩ = some (.iface 272 (.agg #[.pointer (some ⟨7, 169, none⟩)]))
theorem lt_of_cell {w : World} {a : Addr} {v : Value} (h : w.cell? a = some v) : a.block < w.heap.size := by
  rcases Nat.lt_or_ge a.block w.heap.size with h' | h'
  · exact h'
  · simp [World.cell?, Array.getElem?_eq_none h'] at h
theorem ET.below {w w' : World} (h : ET w) (hb : Below w.heap.size w w') : ET w' := by
  unfold ET at h ⊢
  rw [hb.cell (lt_of_cell h)]; exact h
theorem ET.alloc {w : World} (h : ET w) (o : Obj) : ET (w.alloc o) := h.below ((Below.refl _ _).alloc (Nat.le_refl _) _)

abbrev NN (x : Int) : Value := .iface 219 (.agg #[.int .i64 x])

theorem check_in (n c : Int) (w : World) (h1 : -1000000000 ≤ n) (h2 : n ≤ 1000000000) :
    Calls Tryz.prog 134 #[.int .i64 n, .int .i64 c] w fun e w' => e = .returned .nilIface ∧ w' = w := by
  go_enter Tryz.func134, Tryz.ntmps134
  go_wp2
  go_ret
  exact ⟨rfl, rfl⟩
theorem check_low (n c : Int) (w : World) (h1 : n < -1000000000) :
    Calls Tryz.prog 134 #[.int .i64 n, .int .i64 c] w fun e w' => e = .returned (.iface 219 (.agg #[.int .i64 c])) ∧ w' = w := by
  go_enter Tryz.func134, Tryz.ntmps134
  go_wp2
  go_ret
  exact ⟨rfl, rfl⟩
theorem check_high (n c : Int) (w : World) (h1 : ¬ n < -1000000000) (h2 : 1000000000 < n) :
    Calls Tryz.prog 134 #[.int .i64 n, .int .i64 c] w fun e w' => e = .returned (.iface 219 (.agg #[.int .i64 c])) ∧ w' = w := by
  go_enter Tryz.func134, Tryz.ntmps134
  go_wp2
  go_ret
  exact ⟨rfl, rfl⟩
theorem check_yes (n c : Int) (w : World) (h : inB n = true) :
    Calls Tryz.prog 134 #[.int .i64 n, .int .i64 c] w fun e w' => e = .returned .nilIface ∧ w' = w :=
  check_in n c w ((inB_iff n).1 h).1 ((inB_iff n).1 h).2
theorem check_no (n c : Int) (w : World) (h : inB n = false) :
    Calls Tryz.prog 134 #[.int .i64 n, .int .i64 c] w fun e w' => e = .returned (.iface 219 (.agg #[.int .i64 c])) ∧ w' = w := by
  by_cases hl : n < -1000000000
  · exact check_low n c w hl
  · exact check_high n c w hl (by have := (inB_not n).1 h; omega)

theorem numCode_nil (w : World) :
    Calls Tryz.prog 102 #[.nilIface] w fun e w' => e = .returned (.int .i64 0) ∧ Below w.heap.size w w' := by
  go_enter Tryz.func102, Tryz.ntmps102
  go_wp2_with (go_at_call 135; refine (as_nil _ _).mono ?_; rintro e w' ⟨rfl, rfl⟩)
  go_ret
  exact ⟨rfl, (Below.refl _ _).alloc (Nat.le_refl _) _⟩

set_option maxHeartbeats 4000000 in
theorem numCode_hit (x : Int) (w : World) (hE : ET w) :
    Calls Tryz.prog 102 #[.iface 219 (.agg #[.int .i64 x])] w fun e w' => e = .returned (.int .i64 x) ∧ Below w.heap.size w w' := by
  have hg := hE.alloc (.cells #[.int .i64 0] 219)
  go_enter Tryz.func102, Tryz.ntmps102
  go_wp2_with (go_at_call 135; refine (as_hit x _ (.int .i64 0) _ hg (by simp) (by simp)).mono ?_; rintro e w' ⟨rfl, rfl⟩)
  go_ret
  refine ⟨rfl, ?_⟩
  repeat (first | exact Below.refl _ _ | refine Below.setCell ?_ (by simp) _ | refine Below.alloc ?_ (by simp <;> omega) _)
end Go.Proofs.YtfdkklhigliciaaGreatDoor
/-
  The model's functions of chapter 1 on two numbers answer what the plain functions below tell, whatever the world; nothing that was there is turned.
-/
namespace Go.Proofs.YtfdkklhigliciaaGreatDoor
open Go.RowKit Go.Extern.Stop Go.Stop Go.Extern Num

/-- Behind a call that turned nothing old: all that was there reads as before. -/
theorem bcell {W w1 : World} (hb : Below W.heap.size W w1) : (∀ b o, b < W.heap.size → w1.cell? ⟨b, o, none⟩ = W.cell? ⟨b, o, none⟩) ∧ (∀ b o, b < W.heap.size → w1.frozen? ⟨b, o, none⟩ = W.frozen? ⟨b, o, none⟩) :=
  ⟨fun b o h => hb.cell (p := ⟨b, o, none⟩) h, fun b o h => hb.frozen (p := ⟨b, o, none⟩) h⟩
/-- An IntResult as a value. -/
abbrev IR (c v : Int) : Value := .agg #[.int .i64 c, .int .i64 v]

theorem l1In_any (v lo hi : Int) (w : World) :
    Calls Tryz.prog 36 #[.int .i64 v, .int .i64 lo, .int .i64 hi] w fun e w' => e = .returned (.bool (decide (lo ≤ v) && decide (v ≤ hi))) ∧ w' = w := by
  by_cases h1 : lo ≤ v
  · go_enter Tryz.func36, Tryz.ntmps36
    go_wp2
    go_ret
    exact ⟨by simp [h1], rfl⟩
  · go_enter Tryz.func36, Tryz.ntmps36
    go_wp2
    go_ret
    exact ⟨by simp; omega, rfl⟩
theorem l1Num_any (v : Int) (w : World) :
    Calls Tryz.prog 35 #[.int .i64 v] w fun e w' => e = .returned (.bool (inB v)) ∧ w' = w := by
  have he : inB v = (decide (-1000000000 ≤ v) && decide (v ≤ 1000000000)) := by simp [inB]
  rw [he]
  clear he
  go_enter Tryz.func35, Tryz.ntmps35
  go_wp2_with (go_at_call 36; refine (l1In_any _ _ _ _).mono ?_; rintro e w' ⟨rfl, rfl⟩)
  go_ret
  exact ⟨rfl, rfl⟩

theorem mul_hi (a b : Int) (a1 : -1000000000 ≤ a) (a2 : a ≤ 1000000000) (b1 : -1000000000 ≤ b) (b2 : b ≤ 1000000000) : a * b ≤ 1000000000000000000 := by
  have h : a.natAbs * b.natAbs ≤ 1000000000 * 1000000000 := Nat.mul_le_mul (by omega) (by omega)
  have h2 : (a * b).natAbs ≤ 1000000000 * 1000000000 := by rw [Int.natAbs_mul]; exact h
  omega
theorem mul_lo (a b : Int) (a1 : -1000000000 ≤ a) (a2 : a ≤ 1000000000) (b1 : -1000000000 ≤ b) (b2 : b ≤ 1000000000) : -1000000000000000000 ≤ a * b := by
  have h : a.natAbs * b.natAbs ≤ 1000000000 * 1000000000 := Nat.mul_le_mul (by omega) (by omega)
  have h2 : (a * b).natAbs ≤ 1000000000 * 1000000000 := by rw [Int.natAbs_mul]; exact h
  omega
/-- The code and the value of a number that came of two right ones. -/
def oC (v : Int) : Int := if inB v = true then 0 else 7
def oV (v : Int) : Int := if inB v = true then v else 0
/-- A number's quotient, rounded down, as the program reckons it. -/
def fq (a b : Int) : Int := if a.tmod b ≠ 0 ∧ (decide (a < 0)) ≠ (decide (b < 0)) then a.tdiv b - 1 else a.tdiv b

theorem ret_int {k : IntKind} {a b : Int} (h : a = b) : Ending.returned (.int k a) = .returned (.int k b) := by rw [h]
theorem tdiv_bd (a b : Int) (a1 : -1000000000 ≤ a) (a2 : a ≤ 1000000000) : -1000000000 ≤ a.tdiv b ∧ a.tdiv b ≤ 1000000000 := by
  have h : (a.tdiv b).natAbs ≤ a.natAbs := by rw [Int.natAbs_tdiv]; exact Nat.div_le_self _ _
  omega
theorem fq_zero {a b : Int} (h : a.tmod b = 0) : fq a b = a.tdiv b := by simp [fq, h]
theorem fq_same {a b : Int} (h : decide (a < 0) = decide (b < 0)) : fq a b = a.tdiv b := by simp [fq, h]
theorem fq_apart {a b : Int} (hm : ¬ a.tmod b = 0) (h : decide (a < 0) ≠ decide (b < 0)) : fq a b = a.tdiv b - 1 := by
  unfold fq; rw [if_pos ⟨hm, h⟩]

end Go.Proofs.YtfdkklhigliciaaGreatDoor
/-
  The model's SubNum, QuoNum and RemNum on two right numbers answer what the plain functions tell, whatever the world; nothing that was there is turned.
-/
namespace Go.Proofs.YtfdkklhigliciaaGreatDoor
open Go.RowKit Go.Extern.Stop Go.Stop Go.Extern Num

theorem fq_bd (a b : Int) (a1 : -1000000000 ≤ a) (a2 : a ≤ 1000000000) : -1000000001 ≤ fq a b ∧ fq a b ≤ 1000000000 := by
  have := tdiv_bd a b a1 a2
  unfold fq; split <;> omega
theorem fqm_bd (a b : Int) (a1 : -1000000000 ≤ a) (a2 : a ≤ 1000000000) (b1 : -1000000000 ≤ b) (b2 : b ≤ 1000000000) : -2000000000000000000 ≤ b * fq a b ∧ b * fq a b ≤ 2000000000000000000 := by
  have h := fq_bd a b a1 a2
  have h1 : b.natAbs * (fq a b).natAbs ≤ 1000000000 * 1000000001 := Nat.mul_le_mul (by omega) (by omega)
  have h2 : (b * fq a b).natAbs ≤ 1000000000 * 1000000001 := by rw [Int.natAbs_mul]; exact h1
  omega

end Go.Proofs.YtfdkklhigliciaaGreatDoor
/-
  The program's NumFault, intAnswer and combine, and the five operations that combine is called with: what each answers at every argument; nothing that was there is turned.
-/
namespace Go.Proofs.YtfdkklhigliciaaGreatDoor
open Go.RowKit Go.Extern.Stop Go.Stop Go.Extern Num

theorem ret_tup {a b : Int} (h : a = b) : Ending.returned (.tuple #[.int .i64 a, .nilIface]) = .returned (.tuple #[.int .i64 b, .nilIface]) := by rw [h]
end Go.Proofs.YtfdkklhigliciaaGreatDoor
/-
  The program's combine with each of its five operations, and the faces AddNum, SubNum, MulNum, QuoNum and RemNum: what each answers at every two numbers; nothing that was there is turned.
-/
namespace Go.Proofs.YtfdkklhigliciaaGreatDoor
open Go.RowKit Go.Extern.Stop Go.Stop Go.Extern Num


end Go.Proofs.YtfdkklhigliciaaGreatDoor
/-
  The exact laws of NumFault, AddNum, SubNum, MulNum, QuoNum and RemNum answer true at every argument, in every world in which errors.errorType holds what the program's text lays; nothing that was there is turned.
-/
namespace Go.Proofs.YtfdkklhigliciaaGreatDoor
open Go.RowKit Go.Extern.Stop Go.Stop Go.Extern Num

end Go.Proofs.YtfdkklhigliciaaGreatDoor
/-
  What a row's list gives a walk: the variable errors.errorType holds the handle of the type error; and a world that meets the list.
-/
namespace Go.Proofs.YtfdkklhigliciaaGreatDoor
open Go.ChangeShapes Go.WideShapes Go.ChangeAt Go.RowKit

theorem own : ownKnob Tryz.prog.godebug = none := by kernel_rfl
theorem gEt : Tryz.prog.globalNamed "errors.errorType" = some 0 := by kernel_rfl
theorem cutRt : (Tryz.prog.cutTypes.find? (·.1 == "internal/reflectlite.rtype")).map (·.2) = some 272 := by kernel_rfl
theorem oneRow : ((List.range 344).filter fun t => Tryz.prog.rowNamed t [101, 114, 114, 111, 114]) = [169] := by kernel_rfl
theorem typesSize : Tryz.prog.types.size = 344 := by kernel_rfl

theorem et_of_handles {W : World} (h : handlesMet Tryz.prog [("errors.errorType", Rows.laid_errors_errorType)] W) : ET W := by
  obtain ⟨name, u, ty, e1, e2, e3, e4, e5⟩ := h _ (List.mem_singleton.2 rfl)
  have en : name = [101, 114, 114, 111, 114] := (Option.some.inj e1).symm
  subst en
  obtain rfl := Option.some.inj (cutRt.symm.trans e2)
  have hm : ty ∈ (List.range 344).filter fun t => Tryz.prog.rowNamed t [101, 114, 114, 111, 114] := List.mem_filter.2 ⟨List.mem_range.2 (by rw [← typesSize]; exact e3), e4⟩
  rw [oneRow] at hm
  obtain rfl := List.mem_singleton.1 hm
  have hh : typeHandle Tryz.prog 169 = .pointer (some ⟨7, 169, none⟩) := by kernel_rfl
  rw [hh] at e5
  unfold ET
  simpa using World.var?_cell gEt e5 0

end Go.Proofs.YtfdkklhigliciaaGreatDoor
