/-
  Parts of the proof laid into one text, one behind the other; each says at its head what is proved in it.
-/
import Derived.Test.YtgfienijabkpjaaVBox
import Derived.Test.YtgfienijabkpjaaRegion
import Derived.Test.YtgfienijabkpjaaSpecLG
import Derived.Test.YtgfienijabkpjaaImplValue
import Derived.Deep.MidRow
/-
  SameValues of the model and of the program: whether two values are the same; the exact law answers true at every two values; nothing that was there is turned.
-/
namespace Go.Proofs.Ytgfienijabkpjaa
open Go.RowKit Go.Extern.Stop Go.Stop Go.Extern Num Go.Lib

def eqVB (a b : Vlu) : Bool := a.kind == b.kind && (a.num == b.num && (a.name.toList == b.name.toList))
end Go.Proofs.Ytgfienijabkpjaa
/-
  A site in plain words: what is wrong with it; a value as a word tells which value it is: no program in it.
-/
namespace Go.Proofs.Ytgfienijabkpjaa
open Go.RowKit Go.Extern.Stop Go.Stop Go.Extern Num Go.Lib

structure Ste where
  ver : Int
  value : Vlu
abbrev Ste.val (t : Ste) : Value := .agg #[.int .i64 t.ver, .int .i64 t.value.kind, .int .i64 t.value.num, .string t.value.name]
def vZ : Vlu := ⟨0, 0, ⟨#[]⟩⟩
/-- What is wrong with what a site remembers, by itself. -/
def memC (t : Ste) : Int := if t.ver = 0 then (if eqVB t.value vZ = true then 0 else 1) else if 1 ≤ t.ver ∧ t.ver ≤ 99999 then vfault t.value else 3
/-- Whether the global of a name parts from it. -/
def parts (l : List Glb) (s : ByteArray) (t : Ste) : Bool := match atG l s with | some k => ((l.getD k gZ).ver == t.ver) && !(eqVB (l.getD k gZ).value t.value) | none => false
def codeSF (l : List Glb) (s : ByteArray) (t : Ste) : Int := if askG l s ≠ 0 then askG l s else if memC t ≠ 0 then memC t else if parts l s t = true then 1 else 0
theorem eqVB_iff (a b : Vlu) : eqVB a b = true ↔ a = b := by
  unfold eqVB
  rw [Bool.and_eq_true, Bool.and_eq_true, bytes_eq]
  constructor
  · rintro ⟨h1, h2, h3⟩
    cases a; cases b
    simp at h1 h2 h3
    simp [h1, h2, h3]
  · rintro rfl; simp
/-- Values of no fault: the word tells the value. -/
theorem vfine (t : Vlu) (h : vfault t = 0) : (t.kind = 4 ∧ t.num = 0 ∧ symL t.name.data.toList = true) ∨ (t.kind ≠ 4 ∧ t.name = ⟨#[]⟩) := by
  obtain ⟨k, n, z⟩ := t
  rcases vkinds k with rfl | rfl | rfl | rfl | rfl | rfl | rfl | rfl | rfl | hk
  · exact Or.inr ⟨by simp, (fine_1 n z h).2.2⟩
  · exact Or.inr ⟨by simp, (fine_2 n z h).2.2⟩
  · exact Or.inr ⟨by simp, (fine_3 n z h).2.2⟩
  · refine Or.inl ⟨rfl, ?_⟩
    unfold vfault at h
    simp at h
    by_cases h0 : n = 0
    · simp only [h0, if_true] at h
      refine ⟨h0, ?_⟩
      cases hs : symL z.data.toList
      · rw [hs] at h; simp at h
      · rfl
    · simp [h0] at h
  · exact Or.inr ⟨by simp, (fine_5 n z h).2.2⟩
  · exact Or.inr ⟨by simp, (fine_6 n z h).2.2⟩
  · exact Or.inr ⟨by simp, (fine_7 n z h).2.2⟩
  · exact Or.inr ⟨by simp, (fine_8 n z h).2.2⟩
  · exact Or.inr ⟨by simp, (fine_9 n z h).2.2⟩
  · exfalso; unfold vfault at h; simp [hk] at h
theorem wdOf_inj {a b : Vlu} (ha : vfault a = 0) (hb : vfault b = 0) (h : wdOf a = wdOf b) : a = b := by
  have fa := vfine a ha
  have fb := vfine b hb
  unfold wdOf at h
  rw [if_pos ha, if_pos hb] at h
  simp only [Wd.mk.injEq] at h
  obtain ⟨hk, hr⟩ := h
  obtain ⟨ka, na, za⟩ := a
  obtain ⟨kb, nb, zb⟩ := b
  simp only at hk hr fa fb
  subst hk
  rcases fa with ⟨h1, h2, h3⟩ | ⟨h1, h2⟩
  · rcases fb with ⟨_, g2, g3⟩ | ⟨g1, _⟩
    · rw [if_pos h1, if_pos h1] at hr
      have : za = zb := nW_inj h3 g3 (by rw [nW_eq h3, nW_eq g3]; simp; omega)
      rw [h2, g2, this]
    · exact absurd h1 g1
  · rcases fb with ⟨g1, _⟩ | ⟨_, g2⟩
    · exact absurd g1 h1
    · rw [if_neg h1, if_neg h1] at hr
      rw [h2, g2]
      congr 1
      omega
end Go.Proofs.Ytgfienijabkpjaa
/-
  What FetchSite answers, in plain words: no program in it.
-/
namespace Go.Proofs.Ytgfienijabkpjaa
open Go.RowKit Go.Extern.Stop Go.Stop Go.Extern Num Go.Lib

/-- A code, whether the site had it, a value, a version. -/
def outFS (l : List Glb) (s : ByteArray) (t : Ste) : Int × Bool × Vlu × Int :=
  if codeSF l s t ≠ 0 then (codeSF l s t, false, vZ, 0) else match atG l s with
    | none => (4, false, vZ, 0)
    | some k => if (l.getD k gZ).ver = t.ver then (0, true, t.value, t.ver) else (0, false, (l.getD k gZ).value, (l.getD k gZ).ver)
abbrev FR (o : Int × Bool × Vlu × Int) : Value := .agg #[.int .i64 o.1, .bool o.2.1, .int .i64 o.2.2.1.kind, .int .i64 o.2.2.1.num, .string o.2.2.1.name, .int .i64 o.2.2.2, .int .i64 o.2.2.1.kind, .int .i64 o.2.2.1.num, .string o.2.2.1.name]
theorem fs_bad {l : List Glb} {s : ByteArray} {t : Ste} (h : codeSF l s t ≠ 0) : outFS l s t = (codeSF l s t, false, vZ, 0) := if_pos h
theorem fs_none {l : List Glb} {s : ByteArray} {t : Ste} (h : codeSF l s t = 0) (hn : atG l s = none) : outFS l s t = (4, false, vZ, 0) := by
  unfold outFS; rw [if_neg (by simpa using h), hn]
theorem fs_some {l : List Glb} {s : ByteArray} {t : Ste} {k : Nat} (h : codeSF l s t = 0) (hn : atG l s = some k) (hk : k < l.length) : outFS l s t = if (l[k]'hk).ver = t.ver then (0, true, t.value, t.ver) else (0, false, (l[k]'hk).value, (l[k]'hk).ver) := by
  unfold outFS; rw [if_neg (by simpa using h), hn]
  simp [List.getD, hk]
/-- The box of an answer, with nothing yet. -/
def Fr9 (W : World) (B : Nat) : Prop :=
  (∀ (o : Nat) (v : Value), [Value.int .i64 0, .bool false, .int .i64 0, .int .i64 0, .string ⟨#[]⟩, .int .i64 0, .int .i64 0, .int .i64 0, .string ⟨#[]⟩][o]? = some v → W.cell? ⟨B, o, none⟩ = some v) ∧ ∀ o, W.frozen? ⟨B, o, none⟩ = false
theorem Fr9.below {W V : World} {B : Nat} (h : Fr9 W B) (hb : Below W.heap.size W V) (hB : B < W.heap.size) : Fr9 V B :=
  ⟨fun o v e => cell_keep hb (h.1 o v e), fun o => by rw [(bcell hb).2 _ _ hB]; exact h.2 o⟩
end Go.Proofs.Ytgfienijabkpjaa
/-
  The box of FetchSite's answer: nine cells, written and read whole; no function of the program in it.
-/
namespace Go.Proofs.Ytgfienijabkpjaa
open Go.RowKit Go.Extern.Stop Go.Stop Go.Extern Num Go.Lib

theorem infoFr : (Try.prog.info? 43).map (·.size) = some 9 := by kernel_rfl
abbrev frL (o : Int × Bool × Vlu × Int) : List Value := [.int .i64 o.1, .bool o.2.1, .int .i64 o.2.2.1.kind, .int .i64 o.2.2.1.num, .string o.2.2.1.name, .int .i64 o.2.2.2, .int .i64 o.2.2.1.kind, .int .i64 o.2.2.1.num, .string o.2.2.1.name]
theorem frL_one (o : Int × Bool × Vlu × Int) : (frL o).toArray.all (·.oneCell') = true := all_oneCell_toArray (fun v hv => by simp at hv; rcases hv with rfl | rfl | rfl | rfl | rfl | rfl | rfl | rfl | rfl <;> rfl)
theorem Fr9.there {W : World} {B : Nat} (h : Fr9 W B) : W.there B 0 9 := fun j hj => by
  rw [Nat.zero_add]
  refine ⟨?_, h.2 j⟩
  rcases (by omega : j = 0 ∨ j = 1 ∨ j = 2 ∨ j = 3 ∨ j = 4 ∨ j = 5 ∨ j = 6 ∨ j = 7 ∨ j = 8) with rfl | rfl | rfl | rfl | rfl | rfl | rfl | rfl | rfl <;> (rw [h.1 _ _ rfl]; rfl)
theorem resFR {fn : Func} {p : Tmp} (hf : fn.results = #[.cell p 43]) (tmps : Array Value) (V : World) (B : Nat) (o : Int × Bool × Vlu × Int) (ht : V.there B 0 9) (hp : tmps.getD p undef = .pointer (some ⟨B, 0, none⟩)) :
    (results fn tmps).run Try.prog (V.setCells B 0 (frL o)) = .ok (FR o) (V.setCells B 0 (frL o)) := by
  have hl := run_loadVar_mid (P := Try.prog) (V.setCells B 0 (frL o)) B 0 43 (frL o) _ (World.rangeAt_setCells_same _ _ _ _ ht) Try.underlying43 rfl (by rw [infoFr]; rfl)
  have hp' : tmps[p]?.getD undef = .pointer (some ⟨B, 0, none⟩) := by simpa using hp
  generalize V.setCells B 0 (frL o) = Z at hl ⊢
  simp [results, hf, hp', asAddr, hl]
end Go.Proofs.Ytgfienijabkpjaa
