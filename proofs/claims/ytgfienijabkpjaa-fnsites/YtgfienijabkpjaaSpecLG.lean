/-
  The model's l7Asked and LookGlobal; nothing that was there is turned.
-/
import Derived.Test.YtgfienijabkpjaaSpecGF
import Derived.Test.YtgfienijabkpjaaGlobKit
namespace Go.Proofs.Ytgfienijabkpjaa
open Go.RowKit Go.Extern.Stop Go.Stop Go.Extern Num Go.Lib

/-- What is wrong with globals, or with a name. -/
def askG (l : List Glb) (s : ByteArray) : Int := if globFault l ≠ 0 then globFault l else symC s
theorem specSF_any (s : ByteArray) (w : World) (hs : s.size ≤ 9223372036854775807) :
    Calls Try.prog 70 #[.string s] w fun e w' => e = .returned (.int .i64 (symC s)) ∧ w' = w := by
  obtain ⟨c, hc⟩ : ∃ c, c = symC s := ⟨_, rfl⟩
  rw [← hc]
  cases h : symL s.data.toList with
  | true =>
    have HS : Hid (∀ u, Calls Try.prog 73 #[.string s] u fun e w' => e = .returned (.bool true) ∧ w' = u) := fun u => by rw [← h]; exact sym_any s u hs
    have HE : Hid (c = 0) := by show c = 0; rw [hc, symC, if_pos h]
    clear hc h hs
    go_enter Try.func70, Try.ntmps70
    go_wp2_with (go_at_call 73; refine (HS.out _).mono ?_; rintro e w' ⟨rfl, rfl⟩)
    go_ret
    exact ⟨by rw [HE.out]; rfl, rfl⟩
  | false =>
    have HS : Hid (∀ u, Calls Try.prog 73 #[.string s] u fun e w' => e = .returned (.bool false) ∧ w' = u) := fun u => by rw [← h]; exact sym_any s u hs
    have HE : Hid (c = 5) := by show c = 5; rw [hc, symC, if_neg (by rw [h]; simp)]
    clear hc h hs
    go_enter Try.func70, Try.ntmps70
    go_wp2_with (go_at_call 73; refine (HS.out _).mono ?_; rintro e w' ⟨rfl, rfl⟩)
    go_ret
    exact ⟨by rw [HE.out]; rfl, rfl⟩
theorem asked_any (ao : Option Addr) (cap g : Nat) (l : List Glb) (s : ByteArray) (w : World) (hl : l.length ≤ 1048576) (hcap : l.length ≤ cap) (hcm : cap ≤ 9223372036854775807) (hao : 0 < l.length → ao = some ⟨g, 0, none⟩) (hr : RowG w g l) (hz : ableG l) (hs : s.size ≤ 9223372036854775807) :
    Calls Try.prog 41 #[.slice ao l.length cap, .string s] w fun e w' => e = .returned (.int .i64 (askG l s)) ∧ Below w.heap.size w w' := by
  obtain ⟨R, hR⟩ : ∃ R, R = askG l s := ⟨_, rfl⟩
  obtain ⟨c, hc⟩ : ∃ c, c = globFault l := ⟨_, rfl⟩
  obtain ⟨d, hd⟩ : ∃ d, d = symC s := ⟨_, rfl⟩
  have HC : Hid (Calls Try.prog 69 #[.slice ao l.length cap] w fun e w' => e = .returned (.int .i64 c) ∧ Below w.heap.size w w') := by rw [hc]; exact l7Fault_any ao cap g l w hl hcap hcm hao hr hz
  have HD : Hid (∀ u, Calls Try.prog 70 #[.string s] u fun e w' => e = .returned (.int .i64 d) ∧ w' = u) := fun u => by rw [hd]; exact specSF_any s u hs
  have HR : Hid (R = if c ≠ 0 then c else d) := by show R = _; rw [hR, hc, hd]; rfl
  rw [← hR]
  clear hR hc hd hl hcap hcm hao hr hz hs
  by_cases h0 : c = 0
  · subst h0
    have HE : Hid (R = d) := by show R = d; rw [HR.out]; simp
    clear HR
    go_enter Try.func41, Try.ntmps41
    go_wp2_with fail
    refine HC.out.mono ?_
    rintro e w1 ⟨rfl, hb⟩
    have HB : Hid (Below w.heap.size w w1) := hb
    clear hb
    go_wp2_with (go_at_call 70; refine (HD.out _).mono ?_; rintro e w' ⟨rfl, rfl⟩)
    go_ret
    exact ⟨by rw [HE.out]; rfl, HB.out⟩
  · have HE : Hid (R = c) := by show R = c; rw [HR.out, if_pos h0]
    have h0' : (c != 0) = true := by simpa using h0
    clear HR h0
    go_enter Try.func41, Try.ntmps41
    go_wp2_with fail
    refine HC.out.mono ?_
    rintro e w1 ⟨rfl, hb⟩
    have HB : Hid (Below w.heap.size w w1) := hb
    clear hb
    go_wp2
    go_ret
    exact ⟨by rw [HE.out]; rfl, HB.out⟩
/-- What LookGlobal answers. -/
def gZ : Glb := ⟨⟨#[]⟩, ⟨0, 0, ⟨#[]⟩⟩, 0⟩
def codeLG (l : List Glb) (s : ByteArray) : Int := if askG l s ≠ 0 then askG l s else if (atG l s).isSome = true then 0 else 4
def valLG (l : List Glb) (s : ByteArray) : Glb := if askG l s ≠ 0 then gZ else match atG l s with | some k => l.getD k gZ | none => gZ
abbrev GR (c : Int) (t : Glb) : Value := .agg #[.int .i64 c, .string t.name, .int .i64 t.value.kind, .int .i64 t.value.num, .string t.value.name, .int .i64 t.ver]
theorem lg_bad {l : List Glb} {s : ByteArray} (h : askG l s ≠ 0) : codeLG l s = askG l s ∧ valLG l s = gZ := ⟨if_pos h, if_pos h⟩
theorem lg_none {l : List Glb} {s : ByteArray} (h : askG l s = 0) (hn : atG l s = none) : codeLG l s = 4 ∧ valLG l s = gZ := by
  unfold codeLG valLG; rw [h, hn]; simp
theorem lg_some {l : List Glb} {s : ByteArray} {k : Nat} (h : askG l s = 0) (hn : atG l s = some k) (hk : k < l.length) : codeLG l s = 0 ∧ valLG l s = l[k]'hk := by
  unfold codeLG valLG; rw [h, hn]; simp [List.getD, hk]
end Go.Proofs.Ytgfienijabkpjaa
