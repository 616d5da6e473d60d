/-
  Parts of the proof laid into one text, one behind the other; each says at its head what is proved in it.
-/
import Derived.Test.YtfdkklhigliciaaGreatDoorImExYHx
import Derived.Test.YtfdkklhigliciaaGreatDoorSpecExHx
import Derived.Test.YtfdkklhigliciaaGreatDoorXaP
/-
  The exact law of ExpandData answers true at every slice of data; nothing that was there is turned.
-/
namespace Go.Proofs.YtfdkklhigliciaaGreatDoor
open Go.RowKit Go.Extern.Stop Go.Stop Go.Extern Num Go.Lib

theorem OutE.cv {w : World} {B : Nat} {v : Value} {C : List Cor} (h : OutE w B v C) : ∃ P, P.map Prod.fst = C ∧ CV w B v P := by
  obtain ⟨P, h1, h2, h3⟩ := h
  exact ⟨P, h1, h2, fun i hi => h3 _ (List.getElem_mem hi)⟩
/-- Few cores with few data. -/
def smallC (P : List (Cor × Value)) : Prop := P.length ≤ 1048576 ∧ ∀ x ∈ P, x.1.data.length ≤ 1048576
theorem smallC_of {P : List (Cor × Value)} {C : List Cor} (h : P.map Prod.fst = C) (h1 : C.length ≤ 160) (h2 : ∀ c ∈ C, c.data.length ≤ 1048576) : smallC P := by
  subst h
  rw [List.length_map] at h1
  exact ⟨by omega, fun x hx => h2 _ (List.mem_map_of_mem hx)⟩
theorem endCr_pos {P : List (Cor × Value)} (hz : smallC P) : endCr 1 P ≤ 4620000000000000000 := by
  have h1 := endCr_le P 1 hz.2
  have h4 : P.length * 4194309 ≤ 1048576 * 4194309 := Nat.mul_le_mul_right _ hz.1
  omega
set_option maxRecDepth 100000 in
set_option maxHeartbeats 4000000 in
theorem lawEx_any (w : World) (hL : LT w) (a : Option Addr) (cp : Nat) (l : List Dat) (hl : l.length ≤ 9223372036854775807) (h : MemD w a l) (hz : ∀ (k : Nat) (h : k < l.length), l[k].name.size ≤ 9223372036854775807) :
    Calls Tryz.prog 3 #[.slice a l.length cp] w fun e w' => e = .returned (.bool true) ∧ Below w.heap.size w w' := by
  have HS : Hid (Calls Tryz.prog 5 #[.slice a l.length cp, .int .i64 1048576] w fun e w' => SZD l w e w') := szDS_any a cp l w 1048576 (Nat.le_refl _) hl h hz
  have HT : Hid (MemD w a l) := h
  have HG : Hid (∀ u, Below w.heap.size w u → LT u) := fun u hu => hL.below hu
  clear h hz hL hl
  go_enter Tryz.func3, Tryz.ntmps3
  go_wp2_with fail
  refine HS.out.mono ?_
  rintro e w1 ⟨h1, b1⟩
  have B1 : Hid (Below w.heap.size w w1) := b1
  clear b1
  rcases h1 with rfl | ⟨q, hq, rfl, hl, hz⟩
  · go_wp2
    go_ret
    exact ⟨rfl, B1.out⟩
  have HN : Hid (l.length ≤ 1048576) := hl
  have HU : Hid (∀ wx, Below w.heap.size w wx → Calls Tryz.prog 7 #[.slice a l.length cp] wx fun e w' => ∃ g, e = .returned (.slice (some ⟨g, 0, none⟩) l.length l.length) ∧ w'.ownsRow wx.heap.size 49 4 (.slice (some ⟨g, 0, none⟩) l.length l.length) l.length (cellsD l) ∧ Below wx.heap.size wx w') := fun wx hx => toDS_any a cp l wx hl (HT.out.below hx)
  have hsm := expD_small l hl
  have HSp : Hid (∀ (u : World) (g B : Nat), u.ownsRow B 49 4 (.slice (some ⟨g, 0, none⟩) l.length l.length) l.length (cellsD l) → Calls Tryz.prog 6 #[.slice (some ⟨g, 0, none⟩) l.length l.length] u fun e w' => ∃ v, e = .returned (.agg #[.int .i64 (expD l).1, v]) ∧ OutE w' u.heap.size v (expD l).2 ∧ Below u.heap.size u w') := fun u g B hi => specEx_any _ _ B l u hi (name_le hz)
  have HIm : Hid (∀ (u : World) (g B : Nat), Below w.heap.size w u → u.ownsRow B 49 4 (.slice (some ⟨g, 0, none⟩) l.length l.length) l.length (cellsD l) → Calls Tryz.prog 8 #[.slice (some ⟨g, 0, none⟩) l.length l.length] u fun e w' => ∃ v P, e = .returned (.agg #[.int .i64 (expD l).1, v]) ∧ CV w' u.heap.size v P ∧ apartCr P ∧ P.map Prod.fst = (expD l).2 ∧ Below u.heap.size u w') := fun u g B hu hi => implEx_any _ _ B l u hi hz (HG.out u hu)
  generalize (expD l).1 = c at HSp HIm
  generalize (expD l).2 = C at HSp HIm hsm
  have HLs : Hid (∀ P : List (Cor × Value), P.map Prod.fst = C → smallC P) := fun P hP => smallC_of hP hsm.1 hsm.2
  clear hz hl hsm
  go_wp2_with fail
  refine (HU.out _ B1.out).mono ?_
  rintro e w2 ⟨g2, rfl, o2, b2⟩
  have O2 : Hid (w2.ownsRow w1.heap.size 49 4 (.slice (some ⟨g2, 0, none⟩) l.length l.length) l.length (cellsD l)) := o2
  have B2 : Hid (Below w.heap.size w w2) := B1.out.trans (b2.mono B1.out.size)
  clear o2 b2 B1
  go_wp2_with fail
  refine (HSp.out w2 g2 _ O2.out).mono ?_
  rintro e w3 ⟨vw, rfl, hsee, b3⟩
  obtain ⟨Pw, hPw, hvw⟩ := hsee.cv
  have B3 : Hid (Below w.heap.size w w3) := B2.out.trans (b3.mono B2.out.size)
  have hz3 : w.heap.size ≤ w3.heap.size := B3.out.size
  obtain ⟨u3, hu3⟩ : ∃ u, u = w3.alloc (.cells #[.int .i64 c, vw] 26) := ⟨_, rfl⟩
  have HU3 : Hid (u3 = w3.alloc (.cells #[.int .i64 c, vw] 26)) := hu3
  have hs3 : w3.heap.size < u3.heap.size := by rw [hu3]; simp
  have BU3 : Hid (Below w.heap.size w u3) := by rw [hu3]; exact B3.out.alloc B3.out.size _
  have HX : Hid (∀ u, Below u3.heap.size u3 u → Cu2 w3.heap.size (.int .i64 c) vw u ∧ CV u w2.heap.size vw Pw) := fun u hu => by
    have h1 : Cu2 w3.heap.size (.int .i64 c) vw u3 := by rw [hu3]; exact Cu2.new _ _ _ _
    have h2 : CV u3 w2.heap.size vw Pw := by rw [hu3]; exact hvw.below ((Below.refl _ _).alloc (Nat.le_refl _) _)
    exact ⟨h1.below hu, h2.below hu⟩
  have HPw : Hid (Pw.map Prod.fst = C) := hPw
  obtain ⟨aw, cw, rfl⟩ := own_form hvw.row
  obtain ⟨nw, hnw⟩ : ∃ nw, nw = Pw.length := ⟨_, rfl⟩
  rw [← hnw] at HU3 HX ⊢
  clear hu3 hsee b3 O2 B2 B3 hvw hPw hnw
  go_wp2_with fail
  rw [← HU3.out]
  clear HU3
  refine (HU.out _ BU3.out).mono ?_
  rintro e w4 ⟨g4, rfl, o4, b4⟩
  have HI4 : Hid (w4.ownsRow u3.heap.size 49 4 (.slice (some ⟨g4, 0, none⟩) l.length l.length) l.length (cellsD l)) := o4
  have HF4 : Hid (u3.heap.size ≤ g4 ∧ g4 < w4.heap.size) := o4.lt g4 rfl
  have B4 : Hid (Below u3.heap.size u3 w4) := b4
  have hs4 : u3.heap.size ≤ w4.heap.size := b4.size
  clear o4 b4
  go_wp2_with fail
  refine (HIm.out w4 g4 _ (BU3.out.trans (B4.out.mono BU3.out.size)) HI4.out).mono ?_
  rintro e w5 ⟨vg, Rg, rfl, hvg, hag, hmg, b5⟩
  obtain ⟨u5, hu5⟩ : ∃ u, u = w5.alloc (.cells #[.int .i64 c, vg] 26) := ⟨_, rfl⟩
  have HU5 : Hid (u5 = w5.alloc (.cells #[.int .i64 c, vg] 26)) := hu5
  have hs5 : w5.heap.size < u5.heap.size := by rw [hu5]; simp
  have hb5 : Below w4.heap.size w4 u5 := by rw [hu5]; exact b5.alloc b5.size _
  have hs45 : w4.heap.size ≤ w5.heap.size := b5.size
  have HB5 : Hid (Below w4.heap.size w4 u5) := hb5
  have HVg : Hid (CV u5 w4.heap.size vg Rg) := by rw [hu5]; exact hvg.below ((Below.refl _ _).alloc (Nat.le_refl _) _)
  have HCg : Hid (Cu2 w5.heap.size (.int .i64 c) vg u5) := by rw [hu5]; exact Cu2.new _ _ _ _
  have HFg : Hid (∀ b, footCr vg Rg b → w4.heap.size ≤ b ∧ b < w5.heap.size) := fun b hb => hvg.foot hb
  have HMg : Hid (Rg.map Prod.fst = C) := hmg
  have HAg : Hid (apartCr Rg) := hag
  have HSg : Hid (smallC Rg) := HLs.out Rg hmg
  have BX5 : Hid (Below u3.heap.size u3 u5) := B4.out.trans (hb5.mono B4.out.size)
  have HI5 : Hid (u5.ownsRow u3.heap.size 49 4 (.slice (some ⟨g4, 0, none⟩) l.length l.length) l.length (cellsD l)) := own_below HI4.out hb5
  obtain ⟨ag, cg, rfl⟩ := own_form hvg.row
  obtain ⟨ng, hng⟩ : ∃ ng, ng = Rg.length := ⟨_, rfl⟩
  rw [← hng] at HU5 HVg HCg HFg ⊢
  clear hng hu5 hvg hmg hag b5 hb5 HI4 B4
  have q0 := HCg.out.c0
  have q1 := HCg.out.c1
  obtain ⟨⟨p0, p1⟩, -⟩ := HX.out u5 BX5.out
  rw [HU5.out] at q0 q1 p0 p1
  go_wp2_with fail
  rw [← HU5.out]
  clear q0 q1 p0 p1 HU5
  have HEq : Hid (∀ u, CV u w4.heap.size (.slice ag ng cg) Rg → Below u3.heap.size u3 u → Calls Tryz.prog 9 #[.agg #[.int .i64 c, .slice ag ng cg], .agg #[.int .i64 c, .slice aw nw cw]] u fun e w' => e = .returned (.bool true) ∧ Below u.heap.size u w') := fun u hv hu => eqRC_same c _ _ _ _ Rg Pw (by rw [HMg.out, HPw.out]) u HSg.out.1 HSg.out.2 hv (HX.out u hu).2
  refine (HEq.out _ HVg.out BX5.out).mono ?_
  rintro e w6 ⟨rfl, b6⟩
  have HB6 : Hid (Below u5.heap.size u5 w6) := b6
  have BX6 : Hid (Below u3.heap.size u3 w6) := BX5.out.trans (b6.mono BX5.out.size)
  have BW6 : Hid (Below w.heap.size w w6) := BU3.out.trans (BX6.out.mono BU3.out.size)
  clear b6
  go_wp2_with fail
  refine (HU.out _ BW6.out).mono ?_
  rintro e w7 ⟨g7, rfl, o7, b7⟩
  have HI7 : Hid (w7.ownsRow w6.heap.size 49 4 (.slice (some ⟨g7, 0, none⟩) l.length l.length) l.length (cellsD l)) := o7
  have HB7 : Hid (Below u5.heap.size u5 w7) := HB6.out.trans (b7.mono HB6.out.size)
  clear o7 b7
  go_wp2_with fail
  refine (eqDS_same _ _ _ _ l w7 HN.out (own_below HI5.out HB7.out) HI7.out).mono ?_
  rintro e w8 ⟨rfl, b8⟩
  have HB8 : Hid (Below u5.heap.size u5 w8) := HB7.out.trans (b8.mono HB7.out.size)
  have BX8 : Hid (Below u3.heap.size u3 w8) := BX5.out.trans (HB8.out.mono BX5.out.size)
  have hs8 : u5.heap.size ≤ w8.heap.size := HB8.out.size
  clear b8 HB6 HB7 HI7 BX6 BW6
  obtain ⟨E4, hE⟩ : ∃ E : Nat, E = 1 + 4 * l.length := ⟨_, rfl⟩
  have HK : Hid (Calls Tryz.prog 11 #[.slice (some ⟨g4, 0, none⟩) l.length l.length, .int .i64 1] w8 fun e w' => e = .returned (.int .i64 (E4 : Int)) ∧ Keeps (fun b => g4 = b) w8 w') := by
    show Calls _ _ _ _ _
    rw [hE]
    refine (markDS_any (some ⟨g4, 0, none⟩) l.length _ 1 l w8 HN.out (Nat.le_refl _) (by omega) (own_below HI5.out HB8.out)).mono ?_
    rintro e w' ⟨rfl, _, hg⟩
    exact ⟨rfl, (Keeps.refl _ _).grown hg (fun g e => Option.some.inj e)⟩
  clear hE
  go_wp2_with fail
  refine HK.out.mono ?_
  rintro e w9 ⟨rfl, hk9⟩
  have BX9 : Hid (Below u3.heap.size u3 w9) := keepsX BX8.out (by omega) hk9 (fun b hb => by have := HF4.out.1; omega)
  have HV9 : Hid (CV w9 w4.heap.size (.slice ag ng cg) Rg) := (HVg.out.below HB8.out).keeps hk9 (fun b hb hb' => by have h1 := HFg.out b hb; have h2 := HF4.out.2; omega)
  have HC9 : Hid (Cu2 w5.heap.size (.int .i64 c) (.slice ag ng cg) w9) := (HCg.out.below HB8.out).keeps hk9 (fun hb => by have h2 := HF4.out.2; omega)
  have hs9 : w8.heap.size ≤ w9.heap.size := hk9.size
  clear hk9 BX8 HB8 HVg HCg HI5 HF4 HK
  have q0 := HC9.out.c0
  have q1 := HC9.out.c1
  obtain ⟨⟨p0, p1⟩, -⟩ := HX.out w9 BX9.out
  go_wp2_with fail
  clear q0 q1 p0 p1
  refine (HEq.out _ HV9.out BX9.out).mono ?_
  rintro e w10 ⟨rfl, b10⟩
  have BX10 : Hid (Below u3.heap.size u3 w10) := BX9.out.trans (b10.mono BX9.out.size)
  have HV10 : Hid (CV w10 w4.heap.size (.slice ag ng cg) Rg) := HV9.out.below b10
  have HC10 : Hid (Cu2 w5.heap.size (.int .i64 c) (.slice ag ng cg) w10) := HC9.out.below b10
  have hs10 : w9.heap.size ≤ w10.heap.size := b10.size
  clear b10 BX9 HV9 HC9
  have q0 := HC10.out.c0
  have q1 := HC10.out.c1
  go_wp2_with fail
  clear q0 q1
  refine (markRC_any c Rg _ _ w10 HSg.out.1 HSg.out.2 HV10.out HAg.out).mono ?_
  rintro e w11 ⟨rfl, hv11, hk11⟩
  have HEg : Hid (∀ u, CV u w4.heap.size (.slice ag ng cg) (marksCr 1 Rg) → Calls Tryz.prog 13 #[.agg #[.int .i64 c, .slice ag ng cg], .int .i64 1] u fun e w' => e = .returned (.int .i64 ((endCr 1 Rg : Nat) : Int)) ∧ Below u.heap.size u w') := fun u hu => heldRC_any c Rg _ _ u HSg.out.1 HSg.out.2 hu
  have hEg := endCr_pos HSg.out
  obtain ⟨Eg, hE⟩ : ∃ E, E = endCr 1 Rg := ⟨_, rfl⟩
  rw [← hE] at hEg HEg ⊢
  clear hE
  have BX11 : Hid (Below u3.heap.size u3 w11) := keepsX BX10.out (by omega) hk11 (fun b hb => by have := HFg.out b hb; omega)
  have HV11 : Hid (CV w11 w4.heap.size (.slice ag ng cg) (marksCr 1 Rg)) := hv11
  have HC11 : Hid (Cu2 w5.heap.size (.int .i64 c) (.slice ag ng cg) w11) := HC10.out.keeps hk11 (fun hb => by have h2 := HFg.out _ hb; omega)
  have hkn : ((Eg : Int) != (Eg : Int)) = false := by simp
  clear hv11 hk11 BX10 HV10 HC10
  have q0 := HC11.out.c0
  have q1 := HC11.out.c1
  go_wp2_with fail
  clear q0 q1
  refine (HEg.out _ HV11.out).mono ?_
  rintro e w12 ⟨rfl, b12⟩
  have BX12 : Hid (Below u3.heap.size u3 w12) := BX11.out.trans (b12.mono BX11.out.size)
  have HV12 : Hid (CV w12 w4.heap.size (.slice ag ng cg) (marksCr 1 Rg)) := HV11.out.below b12
  have HC12 : Hid (Cu2 w5.heap.size (.int .i64 c) (.slice ag ng cg) w12) := HC11.out.below b12
  have BW12 : Hid (Below w.heap.size w w12) := BU3.out.trans (BX12.out.mono BU3.out.size)
  clear b12 BX11 HV11 HC11
  go_wp2_with fail
  refine (HU.out _ BW12.out).mono ?_
  rintro e w13 ⟨g13, rfl, o13, b13⟩
  have HI13 : Hid (w13.ownsRow w12.heap.size 49 4 (.slice (some ⟨g13, 0, none⟩) l.length l.length) l.length (cellsD l)) := o13
  have HB13 : Hid (Below w12.heap.size w12 w13) := b13
  have BW13 : Hid (Below w.heap.size w w13) := BW12.out.trans (b13.mono BW12.out.size)
  clear o13 b13
  go_wp2_with fail
  refine (HIm.out w13 g13 _ BW13.out HI13.out).mono ?_
  rintro e w14 ⟨vh, Rh, rfl, hvh, -, hmh, b14⟩
  obtain ⟨u14, hu14⟩ : ∃ u, u = w14.alloc (.cells #[.int .i64 c, vh] 26) := ⟨_, rfl⟩
  have HU14 : Hid (u14 = w14.alloc (.cells #[.int .i64 c, vh] 26)) := hu14
  have hb14 : Below w12.heap.size w12 u14 := by rw [hu14]; exact (HB13.out.trans (b14.mono HB13.out.size)).alloc (Nat.le_trans HB13.out.size b14.size) _
  have HSh : Hid (CV u14 w13.heap.size vh Rh) := by rw [hu14]; exact hvh.below ((Below.refl _ _).alloc (Nat.le_refl _) _)
  have HMh : Hid (Rh.map Prod.fst = C) := hmh
  have HCh : Hid (Cu2 w14.heap.size (.int .i64 c) vh u14) := by rw [hu14]; exact Cu2.new _ _ _ _
  have BX14 : Hid (Below u3.heap.size u3 u14) := BX12.out.trans (hb14.mono BX12.out.size)
  have HV14 : Hid (CV u14 w4.heap.size (.slice ag ng cg) (marksCr 1 Rg)) := HV12.out.below hb14
  have HC14 : Hid (Cu2 w5.heap.size (.int .i64 c) (.slice ag ng cg) u14) := HC12.out.below hb14
  obtain ⟨ah, ch, rfl⟩ := own_form hvh.row
  obtain ⟨nh, hnh⟩ : ∃ nh, nh = Rh.length := ⟨_, rfl⟩
  rw [← hnh] at HU14 HSh HCh ⊢
  clear hnh hu14 hvh hmh b14 hb14 HV12 HC12 BX12 HI13 HB13 BW13 BW12
  have q0 := HCh.out.c0
  have q1 := HCh.out.c1
  obtain ⟨⟨p0, p1⟩, hse⟩ := HX.out u14 BX14.out
  have HSe : Hid (CV u14 w2.heap.size (.slice aw nw cw) Pw) := hse
  clear hse
  rw [HU14.out] at q0 q1 p0 p1
  go_wp2_with fail
  rw [← HU14.out]
  clear q0 q1 p0 p1 HU14
  refine (eqRC_same c _ _ _ _ Rh Pw (by rw [HMh.out, HPw.out]) u14 (HLs.out Rh HMh.out).1 (HLs.out Rh HMh.out).2 HSh.out HSe.out).mono ?_
  rintro e w15 ⟨rfl, b15⟩
  have HV15 : Hid (CV w15 w4.heap.size (.slice ag ng cg) (marksCr 1 Rg)) := HV14.out.below b15
  have HC15 : Hid (Cu2 w5.heap.size (.int .i64 c) (.slice ag ng cg) w15) := HC14.out.below b15
  have BX15 : Hid (Below u3.heap.size u3 w15) := BX14.out.trans (b15.mono BX14.out.size)
  clear b15 HV14 HC14 BX14 HSh HSe HCh
  have q0 := HC15.out.c0
  have q1 := HC15.out.c1
  go_wp2_with fail
  clear q0 q1
  refine (HEg.out _ HV15.out).mono ?_
  rintro e w16 ⟨rfl, b16⟩
  have BW16 : Hid (Below w.heap.size w w16) := BU3.out.trans ((BX15.out.trans (b16.mono BX15.out.size)).mono BU3.out.size)
  clear b16
  go_wp2
  go_ret
  exact ⟨rfl, BW16.out⟩
end Go.Proofs.YtfdkklhigliciaaGreatDoor
