/-
  What FetchSite answers, in plain words: no program in it.
-/
import Derived.Test.YtlamkbggfbancaaSiteMath
namespace Go.Proofs.Ytlamkbggfbancaa
open Go.RowKit Go.Extern.Stop Go.Stop Go.Extern Num Go.Lib

/-- A code, whether the site had it, a value, a version. -/
def outFS (l : List Glb) (s : ByteArray) (t : Ste) : Int × Bool × Vlu × Int :=
  if codeSF l s t ≠ 0 then (codeSF l s t, false, vZ, 0) else match atG l s with
    | none => (4, false, vZ, 0)
    | some k => if (l.getD k gZ).ver = t.ver then (0, true, t.value, t.ver) else (0, false, (l.getD k gZ).value, (l.getD k gZ).ver)
abbrev FR (o : Int × Bool × Vlu × Int) : Value := .agg #[.int .i64 o.1, .bool o.2.1, .int .i64 o.2.2.1.kind, .int .i64 o.2.2.1.num, .string o.2.2.1.name, .int .i64 o.2.2.2, .int .i64 o.2.2.1.kind, .int .i64 o.2.2.1.num, .string o.2.2.1.name]
theorem fs_bad {l : List Glb} {s : ByteArray} {t : Ste} (h : codeSF l s t ≠ 0) : outFS l s t = (codeSF l s t, false, vZ, 0) := if_pos h
theorem fs_none {l : List Glb} {s : ByteArray} {t : Ste} (h : codeSF l s t = 0) (hn : atG l s = none) : outFS l s t = (4, false, vZ, 0) := by
  unfold outFS; rw [if_neg (by simpa using h), hn]
theorem fs_some {l : List Glb} {s : ByteArray} {t : Ste} {k : Nat} (h : codeSF l s t = 0) (hn : atG l s = some k) (hk : k < l.length) : outFS l s t = if (l[k]'hk).ver = t.ver then (0, true, t.value, t.ver) else (0, false, (l[k]'hk).value, (l[k]'hk).ver) := by
  unfold outFS; rw [if_neg (by simpa using h), hn]
  simp [List.getD, hk]
/-- The box of an answer, with nothing yet. -/
def Fr9 (W : World) (B : Nat) : Prop :=
  (∀ (o : Nat) (v : Value), [Value.int .i64 0, .bool false, .int .i64 0, .int .i64 0, .string ⟨#[]⟩, .int .i64 0, .int .i64 0, .int .i64 0, .string ⟨#[]⟩][o]? = some v → W.cell? ⟨B, o, none⟩ = some v) ∧ ∀ o, W.frozen? ⟨B, o, none⟩ = false
theorem Fr9.below {W V : World} {B : Nat} (h : Fr9 W B) (hb : Below W.heap.size W V) (hB : B < W.heap.size) : Fr9 V B :=
  ⟨fun o v e => cell_keep hb (h.1 o v e), fun o => by rw [(bcell hb).2 _ _ hB]; exact h.2 o⟩
end Go.Proofs.Ytlamkbggfbancaa
