/-
  The model's SiteFault; nothing that was there is turned.
-/
import Derived.Test.YtlamkbggfbancaaFsB
namespace Go.Proofs.Ytlamkbggfbancaa
open Go.RowKit Go.Extern.Stop Go.Stop Go.Extern Num Go.Lib

theorem l7Site_any (ao : Option Addr) (cap g bs : Nat) (l : List Glb) (s : ByteArray) (t : Ste) (w : World) (hl : l.length ≤ 1048576) (hao : 0 < l.length → ao = some ⟨g, 0, none⟩) (hr : RowG w g l) (ht : t.value.name.size ≤ 9223372036854775807) (hb : SteAt bs t w) :
    Calls Try.prog 66 #[.slice ao l.length cap, .string s, .pointer (some ⟨bs, 0, none⟩)] w fun e w' => e = .returned (.int .i64 (siteM l s t)) ∧ Below w.heap.size w w' := by
  by_cases h0 : t.ver = 0
  · exact site_zero ao cap bs l s t w hb h0
  by_cases h1 : 1 ≤ t.ver ∧ t.ver ≤ 99999
  · cases hat : atG l s with
    | none => exact site_none ao cap g bs l s t w hl hao hr ht hb h1 hat
    | some k =>
      by_cases he : (l.getD k gZ).ver = t.ver
      · exact site_same ao cap g bs l s t w hl hao hr ht hb h1 k hat he
      · exact site_apart ao cap g bs l s t w hl hao hr ht hb h1 k hat he
  · exact site_out ao cap bs l s t w hb (by omega)
theorem specSiteF_any (ao : Option Addr) (cap g : Nat) (l : List Glb) (s : ByteArray) (t : Ste) (w : World) (hl : l.length ≤ 1048576) (hcap : l.length ≤ cap) (hcm : cap ≤ 9223372036854775807) (hao : 0 < l.length → ao = some ⟨g, 0, none⟩) (hr : RowG w g l) (hz : ableG l) (hs : s.size ≤ 9223372036854775807) (ht : t.value.name.size ≤ 9223372036854775807) :
    Calls Try.prog 36 #[.slice ao l.length cap, .string s, t.val] w fun e w' => e = .returned (.int .i64 (codeSF l s t)) ∧ Below w.heap.size w w' := by
  obtain ⟨R, hR⟩ : ∃ R, R = codeSF l s t := ⟨_, rfl⟩
  rw [← hR]
  obtain ⟨c, hc⟩ : ∃ c, c = askG l s := ⟨_, rfl⟩
  obtain ⟨d, hd⟩ : ∃ d, d = siteM l s t := ⟨_, rfl⟩
  have HR : Hid (R = if c ≠ 0 then c else d) := by show R = _; rw [hR, codeSF_site, hc, hd]
  obtain ⟨W, hW⟩ : ∃ W, W = w.alloc (.cells #[.int .i64 t.ver, .int .i64 t.value.kind, .int .i64 t.value.num, .string t.value.name] 39) := ⟨_, rfl⟩
  have HW : Hid (W = w.alloc (.cells #[.int .i64 t.ver, .int .i64 t.value.kind, .int .i64 t.value.num, .string t.value.name] 39)) := hW
  have HBW : Hid (Below w.heap.size w W) := by rw [hW]; exact (Below.refl _ _).alloc (Nat.le_refl _) _
  have HS : Hid (SteAt w.heap.size t W) := by
    rw [hW]
    exact ⟨by rw [World.cell?_alloc_at _ _ _ _ rfl]; rfl, by rw [World.cell?_alloc_at _ _ _ _ rfl]; rfl, by rw [World.cell?_alloc_at _ _ _ _ rfl]; rfl, by rw [World.cell?_alloc_at _ _ _ _ rfl]; rfl⟩
  have HC : Hid (Calls Try.prog 46 #[.slice ao l.length cap, .string s] W fun e w' => e = .returned (.int .i64 c) ∧ Below W.heap.size W w') := by rw [hc]; exact asked_any ao cap g l s W hl hcap hcm hao (hr.below HBW.out) hz hs
  have HD : Hid (∀ u, Below W.heap.size W u → Calls Try.prog 66 #[.slice ao l.length cap, .string s, .pointer (some ⟨w.heap.size, 0, none⟩)] u fun e w' => e = .returned (.int .i64 d) ∧ Below u.heap.size u w') := fun u hu => by rw [hd]; exact l7Site_any ao cap g w.heap.size l s t u hl hao ((hr.below HBW.out).below hu) ht (HS.out.below hu)
  clear hW hR hc hd hl hcap hcm hao hr hz hs ht
  go_enter Try.func36, Try.ntmps36
  go_wp2_with fail
  rw [← HW.out]
  refine HC.out.mono ?_
  rintro e w1 ⟨rfl, hb1⟩
  have HB1 : Hid (Below W.heap.size W w1) := hb1
  have HBw : Hid (Below w.heap.size w w1) := HBW.out.trans (hb1.mono HBW.out.size)
  clear hb1
  by_cases h0 : c = 0
  · subst h0
    have HE : Hid (R = d) := by show R = d; rw [HR.out]; simp
    clear HR
    go_wp2_with fail
    refine (HD.out _ HB1.out).mono ?_
    rintro e w2 ⟨rfl, hb2⟩
    have HB2 : Hid (Below w.heap.size w w2) := HBw.out.trans (hb2.mono HBw.out.size)
    clear hb2
    go_wp2
    go_ret
    exact ⟨by rw [HE.out]; rfl, HB2.out⟩
  · have HE : Hid (R = c) := by show R = c; rw [HR.out, if_pos h0]
    have h0' : (c != 0) = true := by simpa using h0
    clear HR h0
    go_wp2
    go_ret
    exact ⟨by rw [HE.out]; rfl, HBw.out⟩
end Go.Proofs.Ytlamkbggfbancaa
