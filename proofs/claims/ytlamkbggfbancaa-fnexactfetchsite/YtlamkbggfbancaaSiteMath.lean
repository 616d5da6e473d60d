/-
  A site in plain words: what is wrong with it; a value as a word tells which value it is: no program in it.
-/
import Derived.Test.YtlamkbggfbancaaSpecLG
import Derived.Test.YtlamkbggfbancaaLawSameV
import Derived.Test.YtlamkbggfbancaaImplValue
namespace Go.Proofs.Ytlamkbggfbancaa
open Go.RowKit Go.Extern.Stop Go.Stop Go.Extern Num Go.Lib

structure Ste where
  ver : Int
  value : Vlu
abbrev Ste.val (t : Ste) : Value := .agg #[.int .i64 t.ver, .int .i64 t.value.kind, .int .i64 t.value.num, .string t.value.name]
def vZ : Vlu := ⟨0, 0, ⟨#[]⟩⟩
/-- What is wrong with what a site remembers, by itself. -/
def memC (t : Ste) : Int := if t.ver = 0 then (if eqVB t.value vZ = true then 0 else 1) else if 1 ≤ t.ver ∧ t.ver ≤ 99999 then vfault t.value else 3
/-- Whether the global of a name parts from it. -/
def parts (l : List Glb) (s : ByteArray) (t : Ste) : Bool := match atG l s with | some k => ((l.getD k gZ).ver == t.ver) && !(eqVB (l.getD k gZ).value t.value) | none => false
def codeSF (l : List Glb) (s : ByteArray) (t : Ste) : Int := if askG l s ≠ 0 then askG l s else if memC t ≠ 0 then memC t else if parts l s t = true then 1 else 0
theorem eqVB_iff (a b : Vlu) : eqVB a b = true ↔ a = b := by
  unfold eqVB
  rw [Bool.and_eq_true, Bool.and_eq_true, bytes_eq]
  constructor
  · rintro ⟨h1, h2, h3⟩
    cases a; cases b
    simp at h1 h2 h3
    simp [h1, h2, h3]
  · rintro rfl; simp
/-- Values of no fault: the word tells the value. -/
theorem vfine (t : Vlu) (h : vfault t = 0) : (t.kind = 4 ∧ t.num = 0 ∧ symL t.name.data.toList = true) ∨ (t.kind ≠ 4 ∧ t.name = ⟨#[]⟩) := by
  obtain ⟨k, n, z⟩ := t
  rcases vkinds k with rfl | rfl | rfl | rfl | rfl | rfl | rfl | rfl | rfl | hk
  · exact Or.inr ⟨by simp, (fine_1 n z h).2.2⟩
  · exact Or.inr ⟨by simp, (fine_2 n z h).2.2⟩
  · exact Or.inr ⟨by simp, (fine_3 n z h).2.2⟩
  · refine Or.inl ⟨rfl, ?_⟩
    unfold vfault at h
    simp at h
    by_cases h0 : n = 0
    · simp only [h0, if_true] at h
      refine ⟨h0, ?_⟩
      cases hs : symL z.data.toList
      · rw [hs] at h; simp at h
      · rfl
    · simp [h0] at h
  · exact Or.inr ⟨by simp, (fine_5 n z h).2.2⟩
  · exact Or.inr ⟨by simp, (fine_6 n z h).2.2⟩
  · exact Or.inr ⟨by simp, (fine_7 n z h).2.2⟩
  · exact Or.inr ⟨by simp, (fine_8 n z h).2.2⟩
  · exact Or.inr ⟨by simp, (fine_9 n z h).2.2⟩
  · exfalso; unfold vfault at h; simp [hk] at h
theorem wdOf_inj {a b : Vlu} (ha : vfault a = 0) (hb : vfault b = 0) (h : wdOf a = wdOf b) : a = b := by
  have fa := vfine a ha
  have fb := vfine b hb
  unfold wdOf at h
  rw [if_pos ha, if_pos hb] at h
  simp only [Wd.mk.injEq] at h
  obtain ⟨hk, hr⟩ := h
  obtain ⟨ka, na, za⟩ := a
  obtain ⟨kb, nb, zb⟩ := b
  simp only at hk hr fa fb
  subst hk
  rcases fa with ⟨h1, h2, h3⟩ | ⟨h1, h2⟩
  · rcases fb with ⟨_, g2, g3⟩ | ⟨g1, _⟩
    · rw [if_pos h1, if_pos h1] at hr
      have : za = zb := nW_inj h3 g3 (by rw [nW_eq h3, nW_eq g3]; simp; omega)
      rw [h2, g2, this]
    · exact absurd h1 g1
  · rcases fb with ⟨g1, _⟩ | ⟨_, g2⟩
    · exact absurd g1 h1
    · rw [if_neg h1, if_neg h1] at hr
      rw [h2, g2]
      congr 1
      omega
end Go.Proofs.Ytlamkbggfbancaa
