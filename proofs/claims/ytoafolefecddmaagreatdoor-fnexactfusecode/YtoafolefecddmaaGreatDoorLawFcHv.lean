/-
  Parts of the proof laid into one text, one behind the other: LawFc. Contracts of the program's and the model's functions, and what they are proved of, as their theorems say.
-/
import Derived.Test.YtoafolefecddmaaGreatDoorUhC
import Derived.Test.YtoafolefecddmaaGreatDoorUhD
import Derived.Test.YtoafolefecddmaaGreatDoorUfF
import Derived.Test.YtoafolefecddmaaGreatDoorTiC
namespace Go.Proofs.YtoafolefecddmaaGreatDoor
open Go.RowKit Go.Extern.Stop Go.Stop Go.Extern Num Go.Lib
set_option maxRecDepth 100000 in
set_option maxHeartbeats 4000000 in
theorem lawFc_any (w : World) (hG : LT w ∧ FU w) (a : Option Addr) (cp : Nat) (l : List Blk) (tb : Int) (hl : l.length ≤ 9223372036854775807) (h : MemBl w a l) (hz : ∀ (k : Nat) (h : k < l.length), l[k].able) :
    Calls Tryz.prog 4 #[.slice a l.length cp, .int .i64 tb] w fun e w' => e = .returned (.bool true) ∧ Below w.heap.size w w' := by
  have HS : Hid (Calls Tryz.prog 16 #[.slice a l.length cp, .int .i64 1048576] w fun e w' => SZBl l w e w') := szBlS_any a cp l w 1048576 (Nat.le_refl _) hl h hz
  have HT : Hid (MemBl w a l) := h
  have HG : Hid (∀ u, Below w.heap.size w u → LT u ∧ FU u) := fun u hu => ⟨hG.1.below hu, hG.2.below hu⟩
  obtain ⟨ok, hok⟩ := okR_some l
  have HOk : Hid (OkR l ok) := hok
  clear hok h hz hG hl
  go_enter Tryz.func4, Tryz.ntmps4
  go_wp2_with fail
  refine HS.out.mono ?_
  rintro e w1 ⟨h1, b1⟩
  have B1 : Hid (Below w.heap.size w w1) := b1
  clear b1
  rcases h1 with rfl | ⟨q, hq, rfl, hl, hz⟩
  · go_wp2
    go_ret
    exact ⟨rfl, B1.out⟩
  have HZ : Hid (∀ (k : Nat) (h : k < l.length), l[k].small) := hz
  have HN : Hid (l.length ≤ 1048576) := hl
  have HU : Hid (∀ wx, Below w.heap.size w wx → Calls Tryz.prog 18 #[.slice a l.length cp] wx fun e w' => ∃ g, e = .returned (.slice (some ⟨g, 0, none⟩) l.length l.length) ∧ IsBlA w' wx.heap.size g l.length l ∧ Below wx.heap.size wx w') := fun wx hx => (toBlSA_any a cp l wx hl hz (HT.out.below hx)).mono fun e w' ⟨h1, h2, h3⟩ => ⟨_, h1, h2, h3⟩
  have HSp : Hid (∀ (u : World) (g B : Nat), IsBl u B g l.length l → Calls Tryz.prog 17 #[.slice (some ⟨g, 0, none⟩) l.length l.length, .int .i64 tb] u fun e w' => AnsC (codeFu ok tb l) (blksFu ok tb l) u e w') := fun u g B hi => specFc_any g _ B l ok tb u hl hz hi.row HOk.out
  have HIm : Hid (∀ (u : World) (g B : Nat), Below w.heap.size w u → IsBl u B g l.length l → Calls Tryz.prog 19 #[.slice (some ⟨g, 0, none⟩) l.length l.length, .int .i64 tb] u fun e w' => AnsI (codeFu ok tb l) (blksFu ok tb l) u e w') := fun u g B hu hi => implFc_any g _ B l ok tb u hl hz hi.row (HG.out u hu).1 (HG.out u hu).2 HOk.out
  have hbs := blksFu_small (ok := ok) (tb := tb) HOk.out hz
  obtain ⟨c, hc⟩ : ∃ c, c = codeFu ok tb l := ⟨_, rfl⟩
  obtain ⟨L, hL⟩ : ∃ L, L = blksFu ok tb l := ⟨_, rfl⟩
  rw [← hc, ← hL] at HSp HIm
  rw [← hL] at hbs
  have HLs : Hid (L.length ≤ 1048576 ∧ ∀ (k : Nat) (h : k < L.length), L[k].small) := ⟨by have := hbs.1; omega, hbs.2⟩
  have HSm : Hid (smallR_of_l l) := fun R hR => smallR_of hR hl hz
  clear hz hl hc hL hbs
  go_wp2_with fail
  refine (HU.out _ B1.out).mono ?_
  rintro e w2 ⟨g2, rfl, o2, b2⟩
  have O2 : Hid (IsBl w2 w1.heap.size g2 l.length l) := o2.is
  have B2 : Hid (Below w.heap.size w w2) := B1.out.trans (b2.mono B1.out.size)
  clear o2 b2 B1
  go_wp2_with fail
  refine (HSp.out w2 g2 _ O2.out).mono ?_
  rintro e w3 ⟨vw, rfl, hsee, b3⟩
  have B3 : Hid (Below w.heap.size w w3) := B2.out.trans (b3.mono B2.out.size)
  have hz3 : w.heap.size ≤ w3.heap.size := B3.out.size
  obtain ⟨u3, hu3⟩ : ∃ u, u = w3.alloc (.cells #[.int .i64 c, vw] 39) := ⟨_, rfl⟩
  have HU3 : Hid (u3 = w3.alloc (.cells #[.int .i64 c, vw] 39)) := hu3
  have hs3 : w3.heap.size < u3.heap.size := by rw [hu3]; simp
  have BU3 : Hid (Below w.heap.size w u3) := by rw [hu3]; exact B3.out.alloc B3.out.size _
  have HX : Hid (∀ u, Below u3.heap.size u3 u → Cu w3.heap.size (.int .i64 c) vw u ∧ SeeB u vw L) := fun u hu => by
    have h1 : Cu w3.heap.size (.int .i64 c) vw u3 := by rw [hu3]; exact Cu.new _ _ _ _
    have h2 : SeeB u3 vw L := by rw [hu3]; exact hsee.below (bnewK _ _)
    exact ⟨h1.below hu, h2.below hu⟩
  obtain ⟨aw, cw, rfl, -⟩ := id hsee
  clear hu3 hsee b3 O2 B2 B3
  go_wp2_with fail
  rw [← HU3.out]
  clear HU3
  refine (HU.out _ BU3.out).mono ?_
  rintro e w4 ⟨g4, rfl, o4, b4⟩
  have HI4 : Hid (IsBl w4 u3.heap.size g4 l.length l) := o4.is
  obtain ⟨R4, hR4, hv4, ha4⟩ := o4.bv
  have HV4 : Hid (BV w4 u3.heap.size (.slice (some ⟨g4, 0, none⟩) l.length l.length) R4) := hv4
  have HA4 : Hid (apartR R4) := ha4
  have HS4 : Hid (smallR R4) := HSm.out R4 hR4
  have HF4 : Hid (∀ b, footR (.slice (some ⟨g4, 0, none⟩) l.length l.length) R4 b → u3.heap.size ≤ b ∧ b < w4.heap.size) := fun b hb => hv4.foot hb
  have B4 : Hid (Below u3.heap.size u3 w4) := b4
  have hs4 : u3.heap.size ≤ w4.heap.size := b4.size
  clear o4 hR4 hv4 ha4 b4
  go_wp2_with fail
  refine (HIm.out w4 g4 _ (BU3.out.trans (B4.out.mono BU3.out.size)) HI4.out).mono ?_
  rintro e w5 ⟨vg, Rg, rfl, hvg, hmg, hag, b5⟩
  obtain ⟨u5, hu5⟩ : ∃ u, u = w5.alloc (.cells #[.int .i64 c, vg] 39) := ⟨_, rfl⟩
  have HU5 : Hid (u5 = w5.alloc (.cells #[.int .i64 c, vg] 39)) := hu5
  have hs5 : w5.heap.size < u5.heap.size := by rw [hu5]; simp
  have hb5 : Below w4.heap.size w4 u5 := by rw [hu5]; exact b5.alloc b5.size _
  have hs45 : w4.heap.size ≤ w5.heap.size := b5.size
  have HB5 : Hid (Below w4.heap.size w4 u5) := hb5
  have HVg : Hid (BV u5 w4.heap.size vg Rg) := by rw [hu5]; exact hvg.below (bnewK _ _)
  have HCg : Hid (Cu w5.heap.size (.int .i64 c) vg u5) := by rw [hu5]; exact Cu.new _ _ _ _
  have HFg : Hid (∀ b, footR vg Rg b → w4.heap.size ≤ b ∧ b < w5.heap.size) := fun b hb => hvg.foot hb
  have HMg : Hid (Rg.map RB.blk = L) := hmg
  have HAg : Hid (apartR Rg) := hag
  have HSg : Hid (smallR Rg) := smallR_of hmg HLs.out.1 HLs.out.2
  have BX5 : Hid (Below u3.heap.size u3 u5) := B4.out.trans (hb5.mono B4.out.size)
  have HI5 : Hid (IsBl u5 u3.heap.size g4 l.length l) := HI4.out.below hb5
  have HV5 : Hid (BV u5 u3.heap.size (.slice (some ⟨g4, 0, none⟩) l.length l.length) R4) := HV4.out.below hb5
  obtain ⟨ag, cg, rfl⟩ := own_form hvg.row
  obtain ⟨ng, hng⟩ : ∃ ng, ng = Rg.length := ⟨_, rfl⟩
  rw [← hng] at HU5 HVg HCg HFg ⊢
  have HLg : Hid (L.length = ng) := by show _ = _; rw [hng, ← hmg]; simp
  clear hng hu5 hvg hmg hag b5 hb5 HV4 HI4 B4
  have q0 := HCg.out.c0
  have q1 := HCg.out.c1
  obtain ⟨⟨p0, p1⟩, hse5⟩ := HX.out u5 BX5.out
  have HSe5 : Hid (SeeB u5 (.slice aw L.length cw) L) := hse5
  clear hse5
  rw [HU5.out] at q0 q1 p0 p1
  go_wp2_with fail
  rw [← HU5.out]
  clear q0 q1 p0 p1 HU5
  have HEq : Hid (∀ u, BV u w4.heap.size (.slice ag ng cg) Rg → Below u3.heap.size u3 u → Calls Tryz.prog 20 #[.agg #[.int .i64 c, .slice ag ng cg], .agg #[.int .i64 c, .slice aw L.length cw]] u fun e w' => e = .returned (.bool true) ∧ Below u.heap.size u w') := fun u hv hu => eqCodeR_same c _ _ L u HLs.out.1 HLs.out.2 (by have := hv.see; rw [HMg.out] at this; exact this) (HX.out u hu).2
  refine (HEq.out _ HVg.out BX5.out).mono ?_
  rintro e w6 ⟨rfl, b6⟩
  have HB6 : Hid (Below u5.heap.size u5 w6) := b6
  have BX6 : Hid (Below u3.heap.size u3 w6) := BX5.out.trans (b6.mono BX5.out.size)
  have BW6 : Hid (Below w.heap.size w w6) := BU3.out.trans (BX6.out.mono BU3.out.size)
  clear b6 HSe5
  go_wp2_with fail
  refine (HU.out _ BW6.out).mono ?_
  rintro e w7 ⟨g7, rfl, o7, b7⟩
  have HI7 : Hid (IsBl w7 w6.heap.size g7 l.length l) := o7.is
  have HB7 : Hid (Below u5.heap.size u5 w7) := HB6.out.trans (b7.mono HB6.out.size)
  clear o7 b7
  go_wp2_with fail
  refine (eqBlS_same _ _ _ _ _ _ l w7 HN.out HZ.out (HI5.out.below HB7.out).row HI7.out.row).mono ?_
  rintro e w8 ⟨rfl, b8⟩
  have HB8 : Hid (Below u5.heap.size u5 w8) := HB7.out.trans (b8.mono HB7.out.size)
  have BX8 : Hid (Below u3.heap.size u3 w8) := BX5.out.trans (HB8.out.mono BX5.out.size)
  have hs8 : u5.heap.size ≤ w8.heap.size := HB8.out.size
  clear b8 HB6 HB7 HI7 BX6 BW6
  go_wp2_with fail
  refine (markBls_any R4 _ _ w8 HS4.out (HV5.out.below HB8.out) HA4.out).mono ?_
  rintro e w9 ⟨rfl, -, hk9⟩
  have hE4 := endR_pos HS4.out
  obtain ⟨E4, hE⟩ : ∃ E, E = endR 1 R4 := ⟨_, rfl⟩
  rw [← hE] at hE4 ⊢
  clear hE
  have BX9 : Hid (Below u3.heap.size u3 w9) := keepsB BX8.out (by omega) hk9 (fun b hb => (HF4.out b hb).1)
  have HV9 : Hid (BV w9 w4.heap.size (.slice ag ng cg) Rg) := (HVg.out.below HB8.out).keeps hk9 (fun b hb hb' => by have h1 := HFg.out b hb; have h2 := HF4.out b hb'; omega)
  have HC9 : Hid (Cu w5.heap.size (.int .i64 c) (.slice ag ng cg) w9) := (HCg.out.below HB8.out).keeps hk9 (fun hb => by have h2 := HF4.out _ hb; omega)
  have hs9 : w8.heap.size ≤ w9.heap.size := hk9.size
  clear hk9 BX8 HB8 HVg HCg HV5 HI5 HF4
  have q0 := HC9.out.c0
  have q1 := HC9.out.c1
  obtain ⟨⟨p0, p1⟩, -⟩ := HX.out w9 BX9.out
  go_wp2_with fail
  clear q0 q1 p0 p1
  refine (HEq.out _ HV9.out BX9.out).mono ?_
  rintro e w10 ⟨rfl, b10⟩
  have BX10 : Hid (Below u3.heap.size u3 w10) := BX9.out.trans (b10.mono BX9.out.size)
  have HV10 : Hid (BV w10 w4.heap.size (.slice ag ng cg) Rg) := HV9.out.below b10
  have HC10 : Hid (Cu w5.heap.size (.int .i64 c) (.slice ag ng cg) w10) := HC9.out.below b10
  have hs10 : w9.heap.size ≤ w10.heap.size := b10.size
  clear b10 BX9 HV9 HC9
  have q0 := HC10.out.c0
  have q1 := HC10.out.c1
  go_wp2_with fail
  clear q0 q1
  refine (markCodeR_any c Rg _ _ w10 HSg.out HV10.out HAg.out).mono ?_
  rintro e w11 ⟨rfl, hv11, hk11⟩
  have HEg : Hid (∀ u, BV u w4.heap.size (.slice ag ng cg) (marksR 1 Rg) → Calls Tryz.prog 24 #[.agg #[.int .i64 c, .slice ag ng cg], .int .i64 1] u fun e w' => e = .returned (.int .i64 ((endR 1 Rg : Nat) : Int)) ∧ Below u.heap.size u w') := fun u hu => heldCodeR_any c Rg _ _ u HSg.out hu
  have hEg := endR_pos HSg.out
  obtain ⟨Eg, hE⟩ : ∃ E, E = endR 1 Rg := ⟨_, rfl⟩
  rw [← hE] at hEg HEg ⊢
  clear hE
  have BX11 : Hid (Below u3.heap.size u3 w11) := keepsB BX10.out (by omega) hk11 (fun b hb => by have := HFg.out b hb; omega)
  have HV11 : Hid (BV w11 w4.heap.size (.slice ag ng cg) (marksR 1 Rg)) := hv11
  have HC11 : Hid (Cu w5.heap.size (.int .i64 c) (.slice ag ng cg) w11) := HC10.out.keeps hk11 (fun hb => by have h2 := HFg.out _ hb; omega)
  have hkn : ((Eg : Int) != (Eg : Int)) = false := by simp
  clear hv11 hk11 BX10 HV10 HC10
  have q0 := HC11.out.c0
  have q1 := HC11.out.c1
  go_wp2_with fail
  clear q0 q1
  refine (HEg.out _ HV11.out).mono ?_
  rintro e w12 ⟨rfl, b12⟩
  have BX12 : Hid (Below u3.heap.size u3 w12) := BX11.out.trans (b12.mono BX11.out.size)
  have HV12 : Hid (BV w12 w4.heap.size (.slice ag ng cg) (marksR 1 Rg)) := HV11.out.below b12
  have HC12 : Hid (Cu w5.heap.size (.int .i64 c) (.slice ag ng cg) w12) := HC11.out.below b12
  have BW12 : Hid (Below w.heap.size w w12) := BU3.out.trans (BX12.out.mono BU3.out.size)
  clear b12 BX11 HV11 HC11
  go_wp2_with fail
  refine (HU.out _ BW12.out).mono ?_
  rintro e w13 ⟨g13, rfl, o13, b13⟩
  have HI13 : Hid (IsBl w13 w12.heap.size g13 l.length l) := o13.is
  have HB13 : Hid (Below w12.heap.size w12 w13) := b13
  have BW13 : Hid (Below w.heap.size w w13) := BW12.out.trans (b13.mono BW12.out.size)
  clear o13 b13
  go_wp2_with fail
  refine (HIm.out w13 g13 _ BW13.out HI13.out).mono ?_
  rintro e w14 ⟨vh, Rh, rfl, hvh, hmh, -, b14⟩
  obtain ⟨u14, hu14⟩ : ∃ u, u = w14.alloc (.cells #[.int .i64 c, vh] 39) := ⟨_, rfl⟩
  have HU14 : Hid (u14 = w14.alloc (.cells #[.int .i64 c, vh] 39)) := hu14
  have hb14 : Below w12.heap.size w12 u14 := by rw [hu14]; exact (HB13.out.trans (b14.mono HB13.out.size)).alloc (Nat.le_trans HB13.out.size b14.size) _
  have HSh : Hid (SeeB u14 vh L) := by rw [hu14]; have := (hvh.below (bnewK w14 (.cells #[.int .i64 c, vh] 39))).see; rw [hmh] at this; exact this
  have HCh : Hid (Cu w14.heap.size (.int .i64 c) vh u14) := by rw [hu14]; exact Cu.new _ _ _ _
  have BX14 : Hid (Below u3.heap.size u3 u14) := BX12.out.trans (hb14.mono BX12.out.size)
  have HV14 : Hid (BV u14 w4.heap.size (.slice ag ng cg) (marksR 1 Rg)) := HV12.out.below hb14
  have HC14 : Hid (Cu w5.heap.size (.int .i64 c) (.slice ag ng cg) u14) := HC12.out.below hb14
  obtain ⟨ah, ch, rfl⟩ := own_form hvh.row
  obtain ⟨nh, hnh⟩ : ∃ nh, nh = Rh.length := ⟨_, rfl⟩
  rw [← hnh] at HU14 HSh HCh ⊢
  clear hnh hu14 hvh hmh b14 hb14 HV12 HC12 BX12 HI13 HB13 BW13 BW12
  have q0 := HCh.out.c0
  have q1 := HCh.out.c1
  obtain ⟨⟨p0, p1⟩, hse⟩ := HX.out u14 BX14.out
  have HSe : Hid (SeeB u14 (.slice aw L.length cw) L) := hse
  clear hse
  rw [HU14.out] at q0 q1 p0 p1
  go_wp2_with fail
  rw [← HU14.out]
  clear q0 q1 p0 p1 HU14
  refine (eqCodeR_same c _ _ L u14 HLs.out.1 HLs.out.2 HSh.out HSe.out).mono ?_
  rintro e w15 ⟨rfl, b15⟩
  have HV15 : Hid (BV w15 w4.heap.size (.slice ag ng cg) (marksR 1 Rg)) := HV14.out.below b15
  have HC15 : Hid (Cu w5.heap.size (.int .i64 c) (.slice ag ng cg) w15) := HC14.out.below b15
  have BX15 : Hid (Below u3.heap.size u3 w15) := BX14.out.trans (b15.mono BX14.out.size)
  clear b15 HV14 HC14 BX14 HSh HSe HCh
  have q0 := HC15.out.c0
  have q1 := HC15.out.c1
  go_wp2_with fail
  clear q0 q1
  refine (HEg.out _ HV15.out).mono ?_
  rintro e w16 ⟨rfl, b16⟩
  have BW16 : Hid (Below w.heap.size w w16) := BU3.out.trans ((BX15.out.trans (b16.mono BX15.out.size)).mono BU3.out.size)
  clear b16
  go_wp2
  go_ret
  exact ⟨rfl, BW16.out⟩
end Go.Proofs.YtoafolefecddmaaGreatDoor
