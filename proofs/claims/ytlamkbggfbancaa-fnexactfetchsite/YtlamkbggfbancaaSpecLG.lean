/-
  The model's l7Asked and LookGlobal; nothing that was there is turned.
-/
import Derived.Test.YtlamkbggfbancaaSpecGF
import Derived.Test.YtlamkbggfbancaaGlobKit
namespace Go.Proofs.Ytlamkbggfbancaa
open Go.RowKit Go.Extern.Stop Go.Stop Go.Extern Num Go.Lib

/-- What is wrong with globals, or with a name. -/
def askG (l : List Glb) (s : ByteArray) : Int := if globFault l ≠ 0 then globFault l else symC s
theorem specSF_any (s : ByteArray) (w : World) (hs : s.size ≤ 9223372036854775807) :
    Calls Try.prog 76 #[.string s] w fun e w' => e = .returned (.int .i64 (symC s)) ∧ w' = w := by
  obtain ⟨c, hc⟩ : ∃ c, c = symC s := ⟨_, rfl⟩
  rw [← hc]
  cases h : symL s.data.toList with
  | true =>
    have HS : Hid (∀ u, Calls Try.prog 80 #[.string s] u fun e w' => e = .returned (.bool true) ∧ w' = u) := fun u => by rw [← h]; exact sym_any s u hs
    have HE : Hid (c = 0) := by show c = 0; rw [hc, symC, if_pos h]
    clear hc h hs
    go_enter Try.func76, Try.ntmps76
    go_wp2_with (go_at_call 80; refine (HS.out _).mono ?_; rintro e w' ⟨rfl, rfl⟩)
    go_ret
    exact ⟨by rw [HE.out]; rfl, rfl⟩
  | false =>
    have HS : Hid (∀ u, Calls Try.prog 80 #[.string s] u fun e w' => e = .returned (.bool false) ∧ w' = u) := fun u => by rw [← h]; exact sym_any s u hs
    have HE : Hid (c = 5) := by show c = 5; rw [hc, symC, if_neg (by rw [h]; simp)]
    clear hc h hs
    go_enter Try.func76, Try.ntmps76
    go_wp2_with (go_at_call 80; refine (HS.out _).mono ?_; rintro e w' ⟨rfl, rfl⟩)
    go_ret
    exact ⟨by rw [HE.out]; rfl, rfl⟩
theorem asked_any (ao : Option Addr) (cap g : Nat) (l : List Glb) (s : ByteArray) (w : World) (hl : l.length ≤ 1048576) (hcap : l.length ≤ cap) (hcm : cap ≤ 9223372036854775807) (hao : 0 < l.length → ao = some ⟨g, 0, none⟩) (hr : RowG w g l) (hz : ableG l) (hs : s.size ≤ 9223372036854775807) :
    Calls Try.prog 46 #[.slice ao l.length cap, .string s] w fun e w' => e = .returned (.int .i64 (askG l s)) ∧ Below w.heap.size w w' := by
  obtain ⟨R, hR⟩ : ∃ R, R = askG l s := ⟨_, rfl⟩
  obtain ⟨c, hc⟩ : ∃ c, c = globFault l := ⟨_, rfl⟩
  obtain ⟨d, hd⟩ : ∃ d, d = symC s := ⟨_, rfl⟩
  have HC : Hid (Calls Try.prog 61 #[.slice ao l.length cap] w fun e w' => e = .returned (.int .i64 c) ∧ Below w.heap.size w w') := by rw [hc]; exact l7Fault_any ao cap g l w hl hcap hcm hao hr hz
  have HD : Hid (∀ u, Calls Try.prog 76 #[.string s] u fun e w' => e = .returned (.int .i64 d) ∧ w' = u) := fun u => by rw [hd]; exact specSF_any s u hs
  have HR : Hid (R = if c ≠ 0 then c else d) := by show R = _; rw [hR, hc, hd]; rfl
  rw [← hR]
  clear hR hc hd hl hcap hcm hao hr hz hs
  by_cases h0 : c = 0
  · subst h0
    have HE : Hid (R = d) := by show R = d; rw [HR.out]; simp
    clear HR
    go_enter Try.func46, Try.ntmps46
    go_wp2_with fail
    refine HC.out.mono ?_
    rintro e w1 ⟨rfl, hb⟩
    have HB : Hid (Below w.heap.size w w1) := hb
    clear hb
    go_wp2_with (go_at_call 76; refine (HD.out _).mono ?_; rintro e w' ⟨rfl, rfl⟩)
    go_ret
    exact ⟨by rw [HE.out]; rfl, HB.out⟩
  · have HE : Hid (R = c) := by show R = c; rw [HR.out, if_pos h0]
    have h0' : (c != 0) = true := by simpa using h0
    clear HR h0
    go_enter Try.func46, Try.ntmps46
    go_wp2_with fail
    refine HC.out.mono ?_
    rintro e w1 ⟨rfl, hb⟩
    have HB : Hid (Below w.heap.size w w1) := hb
    clear hb
    go_wp2
    go_ret
    exact ⟨by rw [HE.out]; rfl, HB.out⟩
/-- What LookGlobal answers. -/
def gZ : Glb := ⟨⟨#[]⟩, ⟨0, 0, ⟨#[]⟩⟩, 0⟩
def codeLG (l : List Glb) (s : ByteArray) : Int := if askG l s ≠ 0 then askG l s else if (atG l s).isSome = true then 0 else 4
def valLG (l : List Glb) (s : ByteArray) : Glb := if askG l s ≠ 0 then gZ else match atG l s with | some k => l.getD k gZ | none => gZ
abbrev GR (c : Int) (t : Glb) : Value := .agg #[.int .i64 c, .string t.name, .int .i64 t.value.kind, .int .i64 t.value.num, .string t.value.name, .int .i64 t.ver]
theorem lg_bad {l : List Glb} {s : ByteArray} (h : askG l s ≠ 0) : codeLG l s = askG l s ∧ valLG l s = gZ := ⟨if_pos h, if_pos h⟩
theorem lg_none {l : List Glb} {s : ByteArray} (h : askG l s = 0) (hn : atG l s = none) : codeLG l s = 4 ∧ valLG l s = gZ := by
  unfold codeLG valLG; rw [h, hn]; simp
theorem lg_some {l : List Glb} {s : ByteArray} {k : Nat} (h : askG l s = 0) (hn : atG l s = some k) (hk : k < l.length) : codeLG l s = 0 ∧ valLG l s = l[k]'hk := by
  unfold codeLG valLG; rw [h, hn]; simp [List.getD, hk]
set_option maxHeartbeats 2000000 in
theorem specLG_any (ao : Option Addr) (cap g : Nat) (l : List Glb) (s : ByteArray) (w : World) (hl : l.length ≤ 1048576) (hcap : l.length ≤ cap) (hcm : cap ≤ 9223372036854775807) (hao : 0 < l.length → ao = some ⟨g, 0, none⟩) (hr : RowG w g l) (hz : ableG l) (hs : s.size ≤ 9223372036854775807) :
    Calls Try.prog 27 #[.slice ao l.length cap, .string s] w fun e w' => e = .returned (GR (codeLG l s) (valLG l s)) ∧ Below w.heap.size w w' := by
  obtain ⟨c, hc⟩ : ∃ c, c = askG l s := ⟨_, rfl⟩
  obtain ⟨W, hW⟩ : ∃ W, W = w.alloc (.cells #[.int .i64 0, .string ⟨#[]⟩, .int .i64 0, .int .i64 0, .string ⟨#[]⟩, .int .i64 0] 35) := ⟨_, rfl⟩
  have HBW : Hid (Below w.heap.size w W) := by rw [hW]; exact (Below.refl _ _).alloc (Nat.le_refl _) _
  have HZ : Hid (∀ (o : Nat) (v : Value), [Value.int .i64 0, .string ⟨#[]⟩, .int .i64 0, .int .i64 0, .string ⟨#[]⟩, .int .i64 0][o]? = some v → W.cell? ⟨w.heap.size, o, none⟩ = some v) := fun o v h => by rw [hW, World.cell?_alloc_at _ _ _ _ rfl]; simpa using h
  have HZf : Hid (∀ o, W.frozen? ⟨w.heap.size, o, none⟩ = false) := fun o => by rw [hW, World.frozen?_alloc_at _ _ _ _ rfl]
  have zW : W.heap.size = w.heap.size + 1 := by rw [hW]; simp
  have HC : Hid (Calls Try.prog 46 #[.slice ao l.length cap, .string s] W fun e w' => e = .returned (.int .i64 c) ∧ Below W.heap.size W w') := by rw [hc]; exact asked_any ao cap g l s W hl hcap hcm hao (hr.below HBW.out) hz hs
  have HW : Hid (W = w.alloc (.cells #[.int .i64 0, .string ⟨#[]⟩, .int .i64 0, .int .i64 0, .string ⟨#[]⟩, .int .i64 0] 35)) := hW
  have HP : Hid (RowG W g l) := hr.below HBW.out
  have HA : Hid (0 < l.length → ao = some ⟨g, 0, none⟩) := hao
  clear hW
  by_cases h0 : c = 0
  case neg =>
    obtain ⟨e1, e2⟩ := lg_bad (l := l) (s := s) (by rw [← hc]; exact h0)
    rw [e1, e2, ← hc]
    have h0' : (c != 0) = true := by simpa using h0
    clear e1 e2 hc h0 hl hcap hcm hao hr hz hs
    go_enter Try.func27, Try.ntmps27
    go_wp2_with fail
    rw [← HW.out]
    refine HC.out.mono ?_
    rintro e w1 ⟨rfl, hb⟩
    have z0 := cell_keep hb (HZ.out 0 _ rfl)
    have z1 := cell_keep hb (HZ.out 1 _ rfl)
    have z2 := cell_keep hb (HZ.out 2 _ rfl)
    have z3 := cell_keep hb (HZ.out 3 _ rfl)
    have z4 := cell_keep hb (HZ.out 4 _ rfl)
    have z5 := cell_keep hb (HZ.out 5 _ rfl)
    have zf : ∀ o, w1.frozen? ⟨w.heap.size, o, none⟩ = false := fun o => by rw [(bcell hb).2 _ _ (by omega)]; exact HZf.out o
    have HB : Hid (Below w.heap.size w w1) := HBW.out.trans (hb.mono HBW.out.size)
    clear hb
    go_wp2
    exact bodyPost_ret (v := GR c gZ) (by simp [results, Try.results27, go_sem, z0, z1, z2, z3, z4, z5, gZ]) rfl ⟨rfl, by repeat (first | refine Below.setCell ?_ (by simp) _ | exact HB.out)⟩
  subst h0
  cases hat : atG l s with
  | none =>
    obtain ⟨e1, e2⟩ := lg_none hc.symm hat
    rw [e1, e2]
    have HL : Hid (∀ u, Below W.heap.size W u → Calls Try.prog 49 #[.slice ao l.length cap, .string s] u fun e w' => e = .returned (.int .i64 (-1)) ∧ w' = u) := fun u hu => by
      have := l7At_any ao cap g l s u hl hao (HP.out.below hu)
      rw [hat] at this
      exact this
    clear e1 e2 hc hl hcap hcm hao hr hz hs hat
    go_enter Try.func27, Try.ntmps27
    go_wp2_with fail
    rw [← HW.out]
    refine HC.out.mono ?_
    rintro e w1 ⟨rfl, hb⟩
    have z0 := cell_keep hb (HZ.out 0 _ rfl)
    have z1 := cell_keep hb (HZ.out 1 _ rfl)
    have z2 := cell_keep hb (HZ.out 2 _ rfl)
    have z3 := cell_keep hb (HZ.out 3 _ rfl)
    have z4 := cell_keep hb (HZ.out 4 _ rfl)
    have z5 := cell_keep hb (HZ.out 5 _ rfl)
    have zf : ∀ o, w1.frozen? ⟨w.heap.size, o, none⟩ = false := fun o => by rw [(bcell hb).2 _ _ (by omega)]; exact HZf.out o
    have HB : Hid (Below w.heap.size w w1) := HBW.out.trans (hb.mono HBW.out.size)
    have HB1 : Hid (Below W.heap.size W w1) := hb
    clear hb
    go_wp2_with (go_at_call 49; refine (HL.out _ HB1.out).mono ?_; rintro e w' ⟨rfl, rfl⟩)
    exact bodyPost_ret (v := GR 4 gZ) (by simp [results, Try.results27, go_sem, z0, z1, z2, z3, z4, z5, gZ]) rfl ⟨rfl, by repeat (first | refine Below.setCell ?_ (by simp) _ | exact HB.out)⟩
  | some k =>
    obtain ⟨hk, _, _⟩ := atG_some hat
    obtain ⟨e1, e2⟩ := lg_some hc.symm hat hk
    rw [e1, e2]
    obtain ⟨t, ht⟩ : ∃ t, t = l[k]'hk := ⟨_, rfl⟩
    rw [← ht]
    have HRt : Hid (∀ u, Below W.heap.size W u → u.cell? ⟨g, k * 5, none⟩ = some (.string t.name) ∧ u.cell? ⟨g, k * 5 + 1, none⟩ = some (.int .i64 t.value.kind) ∧ u.cell? ⟨g, k * 5 + 2, none⟩ = some (.int .i64 t.value.num) ∧ u.cell? ⟨g, k * 5 + 3, none⟩ = some (.string t.value.name) ∧ u.cell? ⟨g, k * 5 + 4, none⟩ = some (.int .i64 t.ver)) := fun u hu => by rw [ht]; exact HP.out.below hu k hk
    have HL : Hid (∀ u, Below W.heap.size W u → Calls Try.prog 49 #[.slice ao l.length cap, .string s] u fun e w' => e = .returned (.int .i64 (k : Int)) ∧ w' = u) := fun u hu => by
      have := l7At_any ao cap g l s u hl hao (HP.out.below hu)
      rw [hat] at this
      exact this
    obtain rfl := HA.out (by omega)
    clear e1 e2 hc hcap hcm hao hr hz hs hat ht
    go_enter Try.func27, Try.ntmps27
    go_wp2_with fail
    rw [← HW.out]
    refine HC.out.mono ?_
    rintro e w1 ⟨rfl, hb⟩
    have z0 := cell_keep hb (HZ.out 0 _ rfl)
    have z1 := cell_keep hb (HZ.out 1 _ rfl)
    have z2 := cell_keep hb (HZ.out 2 _ rfl)
    have z3 := cell_keep hb (HZ.out 3 _ rfl)
    have z4 := cell_keep hb (HZ.out 4 _ rfl)
    have z5 := cell_keep hb (HZ.out 5 _ rfl)
    have zf : ∀ o, w1.frozen? ⟨w.heap.size, o, none⟩ = false := fun o => by rw [(bcell hb).2 _ _ (by omega)]; exact HZf.out o
    have HB : Hid (Below w.heap.size w w1) := HBW.out.trans (hb.mono HBW.out.size)
    have HB1 : Hid (Below W.heap.size W w1) := hb
    obtain ⟨r0, r1, r2, r3, r4⟩ := HRt.out _ hb
    clear hb
    go_wp2_with (go_at_call 49; refine (HL.out _ HB1.out).mono ?_; rintro e w' ⟨rfl, rfl⟩)
    exact bodyPost_ret (v := GR 0 t) (by simp [results, Try.results27, go_sem, z0, z1, z2, z3, z4, z5]) rfl ⟨rfl, by repeat (first | refine Below.setCell ?_ (by simp) _ | exact HB.out)⟩
end Go.Proofs.Ytlamkbggfbancaa
