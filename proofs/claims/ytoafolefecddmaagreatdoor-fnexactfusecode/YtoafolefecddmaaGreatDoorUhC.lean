/-
  Parts of the proof laid into one text, one behind the other: ImplFt, ImplFc0, ImplFb, ImplFc. Contracts of the program's and the model's functions, and what they are proved of, as their theorems say.
-/
import Derived.Test.YtoafolefecddmaaGreatDoorUhB
import Derived.Test.YtoafolefecddmaaGreatDoorUfE
import Derived.Test.YtoafolefecddmaaGreatDoorFacts
import Derived.Test.YtoafolefecddmaaGreatDoorUhD
namespace Go.Proofs.YtoafolefecddmaaGreatDoor
open Go.RowKit Go.Extern.Stop Go.Stop Go.Extern Num Go.Lib
set_option maxRecDepth 100000 in
set_option maxHeartbeats 1500000 in
theorem fuse1_of (b : Blk) (tb : Int) (gk bt : Nat) (L : List Opr) (u : World) (hc : u.cell? ⟨bt, 0, none⟩ = some (.int .i64 tb))
    (hf : ∀ x, Below u.heap.size u x → Calls Tryz.prog 56 #[b.val (.slice (some ⟨gk, 0, none⟩) b.ops.length b.ops.length), .int .i64 tb] x fun e w' => AnsUb b L x e w') :
    Calls Tryz.prog 55 #[b.val (.slice (some ⟨gk, 0, none⟩) b.ops.length b.ops.length), .pointer (some ⟨bt, 0, none⟩)] u fun e w' => AnsUb b L u e w' := by
  obtain ⟨W, hW⟩ : ∃ W, W = (u.alloc (.cells #[.int .i64 b.args, .slice (some ⟨gk, 0, none⟩) b.ops.length b.ops.length] 85)).alloc (.cells #[.int .i64 0, .slice none 0 0] 85) := ⟨_, rfl⟩
  have HW : Hid (W = (u.alloc (.cells #[.int .i64 b.args, .slice (some ⟨gk, 0, none⟩) b.ops.length b.ops.length] 85)).alloc (.cells #[.int .i64 0, .slice none 0 0] 85)) := hW
  have hb0 : Below u.heap.size u W := by rw [hW]; exact ((Below.refl _ _).alloc (Nat.le_refl _) _).alloc (by simp) _
  have r0 : W.cell? ⟨u.heap.size + 1, 0, none⟩ = some (.int .i64 0) := by rw [hW]; simp [go_sem]
  have r1 : W.cell? ⟨u.heap.size + 1, 1, none⟩ = some (.slice none 0 0) := by rw [hW]; simp [go_sem]
  have rf : ∀ j, W.frozen? ⟨u.heap.size + 1, j, none⟩ = false := fun j => by rw [hW]; simp [go_sem]
  have rl : u.heap.size + 1 < W.heap.size := by rw [hW]; simp
  have c0 : W.cell? ⟨bt, 0, none⟩ = some (.int .i64 tb) := cell_keep hb0 hc
  have HQ : Hid (∀ x, Below W.heap.size W x → x.cell? ⟨u.heap.size + 1, 0, none⟩ = some (.int .i64 0) ∧ x.cell? ⟨u.heap.size + 1, 1, none⟩ = some (.slice none 0 0) ∧ (∀ j, x.frozen? ⟨u.heap.size + 1, j, none⟩ = false)) := fun x hx => ⟨cell_keep hx r0, cell_keep hx r1, fun j => by rw [(bcell hx).2 _ _ rl]; exact rf j⟩
  have HB0 : Hid (Below u.heap.size u W) := hb0
  have HF : Hid (Calls Tryz.prog 56 #[b.val (.slice (some ⟨gk, 0, none⟩) b.ops.length b.ops.length), .int .i64 tb] W fun e w' => AnsUb b L W e w') := hf W hb0
  have HRl : Hid (u.heap.size + 1 < W.heap.size) := rl
  rw [hW] at c0
  clear hW hb0 r0 r1 rf rl hc hf
  go_enter Tryz.func55, Tryz.ntmps55
  go_wp2_with fail
  rw [← HW.out]
  refine HF.out.mono ?_
  rintro e w1 ⟨v, P, rfl, ov, hP, hap, b1⟩
  obtain ⟨a1, c1, rfl⟩ := own_form ov.row
  obtain ⟨q0, q1, qf⟩ := HQ.out w1 b1
  have HO : Hid (OV w1 W.heap.size (.slice a1 P.length c1) P) := ov
  have HP : Hid (P.map Prod.fst = L) := hP
  have HA : Hid (apartO P) := hap
  have HB1 : Hid (Below u.heap.size u w1) := HB0.out.trans (b1.mono HB0.out.size)
  obtain ⟨m, hm⟩ : ∃ m, m = P.length := ⟨_, rfl⟩
  rw [← hm] at HO ⊢
  clear ov hP hap b1 hm c0 HW HF HQ
  go_wp2
  refine bodyPost_ret (v := .agg #[.int .i64 b.args, .slice a1 m c1]) (by simp [results, Tryz.results55, go_sem, q0, q1]) rfl ⟨_, _, rfl, ?_, HP.out, HA.out, ?_⟩
  · exact ((HO.out.setLow HRl.out).setLow HRl.out).base (by have := HRl.out; omega)
  · repeat (first | refine Below.setCell ?_ (by simp) _ | exact HB1.out)
set_option maxRecDepth 100000 in
set_option maxHeartbeats 2000000 in
theorem turnFB_of (g cap B : Nat) (l : List Blk) (w : World) (tb : Int) (bt : Nat) (hl : l.length ≤ 60) (hB : RowBl w B g l) (hF : ∀ (k : Nat) (h : k < l.length) (gk : Nat) (u : World), Below w.heap.size w u → IsOp u B gk l[k].ops.length l[k].ops → Calls Tryz.prog 55 #[l[k].val (.slice (some ⟨gk, 0, none⟩) l[k].ops.length l[k].ops.length), .pointer (some ⟨bt, 0, none⟩)] u fun e w' => AnsUb l[k] (fuseB tb l[k]).ops u e w') :
    Calls Tryz.prog 54 #[.slice (some ⟨g, 0, none⟩) l.length cap, .func (.func 55) #[] #[.pointer (some ⟨bt, 0, none⟩)]] w fun e w' => ∃ v R, e = .returned v ∧ BV w' w.heap.size v R ∧ R.map RB.blk = l.map (fuseB tb) ∧ apartR R ∧ Below w.heap.size w w' := by
  have HB : Hid (RowBl w B g l) := hB
  have HUb : Hid (∀ (k : Nat) (h : k < l.length) (gk : Nat) (u : World), Below w.heap.size w u → IsOp u B gk l[k].ops.length l[k].ops → Calls Tryz.prog 55 #[l[k].val (.slice (some ⟨gk, 0, none⟩) l[k].ops.length l[k].ops.length), .pointer (some ⟨bt, 0, none⟩)] u fun e w' => AnsUb l[k] (fuseB tb l[k]).ops u e w') := hF
  obtain ⟨i0, hi, hz0, hz1, hz2⟩ := info_parts infoBl
  clear hB hF
  go_enter Tryz.func54, Tryz.ntmps54
  go_wp2_with fail
  go_loopw [5, 10] (fun v i wr => ∃ (R : List RB) (am : Option Addr) (cm : Nat), R.length ≤ l.length ∧ v = .slice am R.length cm ∧ i = .int .i64 (R.length : Int) ∧ Hid (BV wr w.heap.size (.slice am R.length cm) R) ∧ Hid (R.map RB.blk = (l.take R.length).map (fuseB tb)) ∧ Hid (apartR R) ∧ Hid (Below w.heap.size w wr)) (fun _ i _ => l.length - (RowKit.intOf i).toNat)
  case atStart => exact ⟨[], none, 0, Nat.zero_le _, rfl, rfl, ⟨⟨rfl, .inl ⟨rfl, rfl⟩⟩, fun i hi => by simp at hi⟩, by show _ = _; simp, ⟨fun i j hi => by simp at hi, fun i j hi => by simp at hi, fun i hi => by simp at hi⟩, Below.refl _ _⟩
  case round =>
    obtain ⟨R, am, cm, hR, rfl, rfl, HV, HM, HA, HW⟩ := hrel
    have hws : w.heap.size ≤ wr.heap.size := HW.out.size
    by_cases hlt : R.length < l.length
    · obtain ⟨p0, gk, p1, hio⟩ := HB.out.below HW.out R.length hlt
      have HUk : Hid (∀ u, Below wr.heap.size wr u → Calls Tryz.prog 55 #[l[R.length].val (.slice (some ⟨gk, 0, none⟩) l[R.length].ops.length l[R.length].ops.length), .pointer (some ⟨bt, 0, none⟩)] u fun e w' => AnsUb l[R.length] (fuseB tb l[R.length]).ops u e w') := fun u hu => HUb.out R.length hlt gk u (HW.out.trans (hu.mono HW.out.size)) (hio.below hu)
      obtain ⟨b, hb⟩ : ∃ b, b = l[R.length]'hlt := ⟨_, rfl⟩
      have HTk : Hid ((l.take (R.length + 1)).map (fuseB tb) = (l.take R.length).map (fuseB tb) ++ [(fuseB tb) b]) := by show _ = _; rw [List.take_add_one, List.getElem?_eq_getElem hlt, hb, List.map_append]; rfl
      rw [← hb] at p0 p1 HUk
      clear hb hio
      go_wp2_with fail
      refine (HUk.out _ (bnewK _ _)).mono ?_
      rintro e w3 ⟨v3, P3, rfl, ov, hP3, hap, b3⟩
      obtain ⟨a3, c3, rfl⟩ := own_form ov.row
      have HB3 : Hid (Below wr.heap.size wr w3) := (bnewK wr _).trans (b3.mono (by simp))
      have hz3 : wr.heap.size ≤ w3.heap.size := HB3.out.size
      have HV3 : Hid (BV w3 w.heap.size (.slice am R.length cm) R) := HV.out.below HB3.out
      have HO3 : Hid (OV w3 w.heap.size (.slice a3 P3.length c3) P3) := ov.base (by simp; omega)
      have HA3 : Hid (apartR (R ++ [⟨b.args, .slice a3 P3.length c3, P3⟩])) := HA.out.snoc hap (fun i hi q h1 h2 => by
        have h3 := ((HV.out.ops i hi).foot h1).2
        have h4 := (ov.foot h2).1
        simp at h4; omega)
      have HBk : Hid (RB.blk ⟨b.args, .slice a3 P3.length c3, P3⟩ = (fuseB tb) b) := by show (⟨b.args, P3.map Prod.fst⟩ : Blk) = _; rw [hP3]; rfl
      have HBw3 : Hid (Below w.heap.size w w3) := HW.out.trans (HB3.out.mono HW.out.size)
      clear ov hP3 hap b3 p0 p1
      go_wp2_with (at_builtin; refine wpList_append_lies _ rfl (.tmp 14) (.tmp 18) 37 rfl w.heap.size 85 i0 _ 2 32 Tryz.underlying37 hi hz0 hz1 hz2 rfl (by decide) _ R.length (cellsR R) rfl (own_below HV3.out.row (bnewK _ _)) ⟨_, 0, none⟩ 1 1 [.int .i64 b.args, .slice a3 P3.length c3] rfl rfl ?f1 ?f2 (by decide) ?f3 ?f4 ?f5 _ rfl ?_)
      case f1 => exact World.news_of_block (cs := #[.int .i64 b.args, .slice a3 P3.length c3]) (t := 85) (fr := (0, 0)) (heap_new' _ _ _ (by simp))
      case f2 => intro u hu; simp at hu; rcases hu with rfl | rfl <;> rfl
      case f3 => unfold maxLen; omega
      case f4 => omega
      case f5 => simp; omega
      intro g' cap' w5 hown5 hgrow5 _ _
      have hsn := BV.snoc (HV3.out.below (bnewK _ _)) rfl (HO3.out.below (bnewK _ _)) hown5 hgrow5
      have HB5 : Hid (Below w.heap.size w w5) := (HBw3.out.alloc HBw3.out.size _).grown hgrow5 (by simp; omega) (fun k hk => (HV3.out.row.lt k hk).1)
      obtain ⟨R', hR'⟩ : ∃ R', R' = R ++ [⟨b.args, .slice a3 P3.length c3, P3⟩] := ⟨_, rfl⟩
      have hl' : R'.length = R.length + 1 := by rw [hR']; simp
      rw [← hR'] at hsn HA3
      have HM5 : Hid (R'.map RB.blk = (l.take R'.length).map (fuseB tb)) := by show _ = _; rw [hl', HTk.out, hR', List.map_append, HM.out]; simp only [List.map_cons, List.map_nil]; rw [HBk.out]
      have HV5 : Hid (BV w5 w.heap.size (.slice (some ⟨g', 0, none⟩) R'.length cap') R') := by rw [hl']; exact hsn
      clear hsn hgrow5 hown5 hR'
      go_wp2
      exact ⟨⟨R', some ⟨g', 0, none⟩, cap', by omega, by rw [hl'], by rw [hl']; go_num, HV5.out, HM5.out, HA3.out, HB5.out⟩, by simp [RowKit.intOf]; omega⟩
    · have HE : Hid (R.map RB.blk = l.map (fuseB tb)) := by
        show _ = _
        rw [HM.out, show R.length = l.length by omega, List.take_length]
      clear HM
      go_wp2
      go_ret
      exact ⟨_, R, rfl, HV.out, HE.out, HA.out, HW.out⟩
theorem see2 (u : World) (x y : Int) (T : TypeId) : SeeI (u.alloc (.cells #[.int .i64 x, .int .i64 y] T)) (.slice (some ⟨u.heap.size, 0, none⟩) 2 2) [x, y] :=
  ⟨_, _, rfl, fun _ => ⟨_, _, rfl, fun k hk => by
    rw [World.cell?_alloc_at _ _ _ _ rfl]
    match k, hk with
    | 0, _ => rfl
    | 1, _ => rfl⟩⟩
theorem codeFu_zero {ok : Bool} {tb : Int} {l : List Blk} (h : codeFu ok tb l = 0) : codeF ok l = 0 ∧ tabF tb = 0 ∧ blksFu ok tb l = l.map (fuseB tb) := by
  unfold codeFu at h
  by_cases h0 : codeF ok l = 0
  · rw [if_neg (by simp [h0])] at h
    refine ⟨h0, h, ?_⟩
    unfold blksFu
    rw [if_neg (by simp [h0]), if_neg (by simp [h])]
  · rw [if_pos h0] at h
    exact absurd h h0
theorem tabF_in {tb : Int} (h : tabF tb = 0) : 0 ≤ tb ∧ tb ≤ 15 := by
  unfold tabF at h
  split at h
  · assumption
  · cases h
theorem codeFu_not {ok : Bool} {tb : Int} {l : List Blk} (h : ¬ codeFu ok tb l = 0) : blksFu ok tb l = [] := by
  unfold codeFu at h
  unfold blksFu
  by_cases h0 : codeF ok l = 0
  · rw [if_neg (by simp [h0])] at h
    rw [if_neg (by simp [h0]), if_pos h]
  · rw [if_pos h0]
set_option maxRecDepth 100000 in
set_option maxHeartbeats 1500000 in
theorem implFc_of (g cap B : Nat) (l : List Blk) (ok : Bool) (tb : Int) (w : World) (hl : l.length ≤ 1048576) (hz : ∀ (k : Nat) (h : k < l.length), l[k].small) (hB : RowBl w B g l) (hL : LT w) (hF : FU w) (hok : OkR l ok)
    (hfb : 0 ≤ tb → tb ≤ 15 → ∀ (b : Blk) (gk : Nat) (u : World), FineB b → IsOp u B gk b.ops.length b.ops → FU u → LT u → Calls Tryz.prog 56 #[b.val (.slice (some ⟨gk, 0, none⟩) b.ops.length b.ops.length), .int .i64 tb] u fun e w' => AnsUb b (fuseO tb b.ops) u e w') :
    Calls Tryz.prog 19 #[.slice (some ⟨g, 0, none⟩) l.length cap, .int .i64 tb] w fun e w' => AnsI (codeFu ok tb l) (blksFu ok tb l) w e w' := by
  obtain ⟨W, hW⟩ : ∃ W, W = (w.alloc (.cells #[.int .i64 tb] 2)).alloc (.cells #[.int .i64 0, .slice none 0 0] 39) := ⟨_, rfl⟩
  have HW : Hid (W = (w.alloc (.cells #[.int .i64 tb] 2)).alloc (.cells #[.int .i64 0, .slice none 0 0] 39)) := hW
  have hb0 : Below w.heap.size w W := by rw [hW]; exact ((Below.refl _ _).alloc (Nat.le_refl _) _).alloc (by simp) _
  have r2 : W.cell? ⟨w.heap.size, 0, none⟩ = some (.int .i64 tb) := by rw [hW]; simp [go_sem]
  have r0 : W.cell? ⟨w.heap.size + 1, 0, none⟩ = some (.int .i64 0) := by rw [hW]; simp [go_sem]
  have r1 : W.cell? ⟨w.heap.size + 1, 1, none⟩ = some (.slice none 0 0) := by rw [hW]; simp [go_sem]
  have rf : ∀ j, W.frozen? ⟨w.heap.size + 1, j, none⟩ = false := fun j => by rw [hW]; simp [go_sem]
  have rl : w.heap.size + 1 < W.heap.size := by rw [hW]; simp
  have HTc : Hid (∀ u, Below W.heap.size W u → u.cell? ⟨w.heap.size, 0, none⟩ = some (.int .i64 tb)) := fun u hu => cell_keep hu r2
  have HQ : Hid (∀ u, Below W.heap.size W u → u.cell? ⟨w.heap.size + 1, 0, none⟩ = some (.int .i64 0) ∧ u.cell? ⟨w.heap.size + 1, 1, none⟩ = some (.slice none 0 0) ∧ (∀ j, u.frozen? ⟨w.heap.size + 1, j, none⟩ = false) ∧ w.heap.size + 1 < u.heap.size) := fun u hu => ⟨cell_keep hu r0, cell_keep hu r1, fun j => by rw [(bcell hu).2 _ _ rl]; exact rf j, Nat.lt_of_lt_of_le rl hu.size⟩
  have HBw : Hid (∀ u, Below W.heap.size W u → Below w.heap.size w u) := fun u hu => hb0.trans (hu.mono hb0.size)
  have HL : Hid (∀ u, Below w.heap.size w u → LT u ∧ FU u ∧ RowBl u B g l) := fun u hu => ⟨hL.below hu, hF.below hu, hB.below hu⟩
  have HFi : Hid (codeF ok l = 0 → l.length ≤ 60 ∧ ∀ (k : Nat) (h : k < l.length), FineB l[k]) := fun h0 => fineB_of h0 hok hz
  obtain ⟨D, hD⟩ : ∃ D, D = codeF ok l := ⟨_, rfl⟩
  obtain ⟨T, hT⟩ : ∃ T, T = tabF tb := ⟨_, rfl⟩
  obtain ⟨E, hE⟩ : ∃ E, E = codeFu ok tb l := ⟨_, rfl⟩
  have HCF : Hid (∀ u, Below W.heap.size W u → Calls Tryz.prog 52 #[.slice (some ⟨g, 0, none⟩) l.length cap] u fun e w' => e = .returned (.int .i64 D) ∧ Below u.heap.size u w') := fun u hu => by
    have h := HL.out u (HBw.out u hu)
    rw [hD]; exact implCF_any g cap B l ok u hl hz h.2.2 h.1 hok
  have HTF : Hid (∀ u, Calls Tryz.prog 53 #[.int .i64 tb] u fun e w' => e = .returned (.int .i64 T) ∧ w' = u) := fun u => by rw [hT]; exact implTf_any tb u
  have HOr : Hid (∀ (u : World) (x : Value), SeeI u x [D, T] → Calls Tryz.prog 51 #[x] u fun e w' => e = .returned (.int .i64 E) ∧ Below u.heap.size u w') := fun u x hx => (orI_any x _ u (by simp) hx).mono fun e w' ⟨h1, h2⟩ => ⟨by rw [hE, ← codeFu_or, ← hD, ← hT]; exact h1, by rw [h2]; exact Below.refl _ _⟩
  have HE : Hid (E = codeFu ok tb l) := hE
  have HFb : Hid (0 ≤ tb → tb ≤ 15 → ∀ (b : Blk) (gk : Nat) (u : World), FineB b → IsOp u B gk b.ops.length b.ops → FU u → LT u → Calls Tryz.prog 56 #[b.val (.slice (some ⟨gk, 0, none⟩) b.ops.length b.ops.length), .int .i64 tb] u fun e w' => AnsUb b (fuseO tb b.ops) u e w') := hfb
  rw [← hE]
  obtain ⟨V, hV⟩ : ∃ V, V = blksFu ok tb l := ⟨_, rfl⟩
  have HV0 : Hid (V = blksFu ok tb l) := hV
  rw [← hV]
  clear hV hD hT hE hB hz hok hW r0 r1 r2 rf rl hb0 hL hF hfb hl
  go_enter Tryz.func19, Tryz.ntmps19
  go_wp2_with fail
  rw [← HW.out]
  clear HW
  refine wp_region_facts (by kernel_rfl) 6 (fun v => Below W.heap.size W v) (fun u v => Below u.heap.size u v) (fun i v u => match i with | 0 => (fun v u => v = .slice (some ⟨g, 0, none⟩) l.length cap) v u | 1 => (fun v u => v = .int .i64 (D)) v u | 2 => (fun v u => v = .int .i64 (tb)) v u | 3 => (fun v u => v = .int .i64 (T)) v u | 4 => (fun v u => SeeI u v [D, T]) v u | 5 => (fun v u => v = .int .i64 (E)) v u | _ => True) (by kernel_rfl) [0, 1, 2, 3, 4, 5] (by kernel_rfl) ?b0 ?bk ?fk ⟨?s0, ?s1, ?s2, ?s3, ?s4, ?s5, trivial⟩ _ rfl [(0, some 6), (1, some 7), (2, some 8), (3, some 9), (4, some 10), (5, some 11)] (by kernel_rfl) ?last
  case b0 => exact Below.drew (Below.refl _ _)
  case bk => exact fun u v h hb => h.trans (hb.mono h.size)
  case fk => intro i v u u' h hb; match i, h with | 0, h => exact (h) | 1, h => exact (h) | 2, h => exact (h) | 3, h => exact (h) | 4, h => exact (h.below hb) | 5, h => exact (h) | _ + 6, _ => exact trivial
  case s0 =>
    refine StepF.of rfl [] (by kernel_rfl) ?_
    intro vs u hB hf K hK
    clear hf
    simp only [putsA, List.foldl_nil, Act.put, List.setIfInBounds_toArray] at hK ⊢
    rw [if_pos (by rfl)]
    go_simp
    exact hK.out _ _ (Below.refl _ _) rfl
  case s1 =>
    refine StepF.of rfl [(0, some 6)] (by kernel_rfl) ?_
    intro vs u hB hf K hK
    have f0 : (fun v u => v = .slice (some ⟨g, 0, none⟩) l.length cap) (vs 0) u := hf.1
    clear hf
    simp only [putsA, List.foldl_cons, List.foldl_nil, Act.put, List.setIfInBounds_toArray, List.set_cons_zero, List.set_cons_succ] at hK ⊢
    generalize vs 0 = v0 at f0 hK ⊢
    rw [if_pos (by rfl)]
    subst f0
    go_simp
    refine (HCF.out u hB).mono ?_
    rintro e w4 ⟨rfl, b4⟩
    exact hK.out _ _ b4 rfl
  case s2 =>
    refine StepF.of rfl [] (by kernel_rfl) ?_
    intro vs u hB hf K hK
    clear hf
    simp only [putsA, List.foldl_nil, Act.put, List.setIfInBounds_toArray] at hK ⊢
    rw [if_pos (by rfl)]
    have c0 := HTc.out u hB
    go_simp
    exact hK.out _ _ (Below.refl _ _) rfl
  case s3 =>
    refine StepF.of rfl [(1, some 7), (2, some 8)] (by kernel_rfl) ?_
    intro vs u hB hf K hK
    have f1 : (fun v u => v = .int .i64 (D)) (vs 1) u := hf.1
    have f2 : (fun v u => v = .int .i64 (tb)) (vs 2) u := hf.2.1
    clear hf
    simp only [putsA, List.foldl_cons, List.foldl_nil, Act.put, List.setIfInBounds_toArray, List.set_cons_zero, List.set_cons_succ] at hK ⊢
    generalize vs 1 = v1 at f1 hK ⊢
    generalize vs 2 = v2 at f2 hK ⊢
    rw [if_pos (by rfl)]
    subst f2
    clear f1
    go_simp
    refine (HTF.out u).mono ?_
    rintro e w4 ⟨rfl, e4⟩
    replace e4 := e4.symm
    subst e4
    exact hK.out _ _ (Below.refl _ _) rfl
  case s4 =>
    refine StepF.of rfl [(1, some 7), (3, some 9)] (by kernel_rfl) ?_
    intro vs u hB hf K hK
    have f1 : (fun v u => v = .int .i64 (D)) (vs 1) u := hf.1
    have f3 : (fun v u => v = .int .i64 (T)) (vs 3) u := hf.2.1
    clear hf
    simp only [putsA, List.foldl_cons, List.foldl_nil, Act.put, List.setIfInBounds_toArray, List.set_cons_zero, List.set_cons_succ] at hK ⊢
    generalize vs 1 = v1 at f1 hK ⊢
    generalize vs 3 = v3 at f3 hK ⊢
    rw [if_pos (by rfl)]
    subst f1
    subst f3
    go_simp
    refine hK.out _ _ ((Below.refl _ _).alloc (Nat.le_refl _) _) ?_
    exact see2 _ _ _ _
  case s5 =>
    refine StepF.of rfl [(3, some 9), (4, some 10)] (by kernel_rfl) ?_
    intro vs u hB hf K hK
    have f3 : (fun v u => v = .int .i64 (T)) (vs 3) u := hf.1
    have f4 : (fun v u => SeeI u v [D, T]) (vs 4) u := hf.2.1
    clear hf
    simp only [putsA, List.foldl_cons, List.foldl_nil, Act.put, List.setIfInBounds_toArray, List.set_cons_zero, List.set_cons_succ] at hK ⊢
    generalize vs 3 = v3 at f3 hK ⊢
    generalize vs 4 = v4 at f4 hK ⊢
    rw [if_pos (by rfl)]
    clear f3
    obtain ⟨ar, cr, rfl, -⟩ := id f4
    go_simp
    refine (HOr.out u _ f4).mono ?_
    rintro e w4 ⟨rfl, b4⟩
    exact hK.out _ _ b4 rfl
  case last =>
    intro vs u hB hf K hK
    have f0 : (fun v u => v = .slice (some ⟨g, 0, none⟩) l.length cap) (vs 0) u := hf.1
    have f1 : (fun v u => v = .int .i64 (D)) (vs 1) u := hf.2.1
    have f2 : (fun v u => v = .int .i64 (tb)) (vs 2) u := hf.2.2.1
    have f3 : (fun v u => v = .int .i64 (T)) (vs 3) u := hf.2.2.2.1
    have f4 : (fun v u => SeeI u v [D, T]) (vs 4) u := hf.2.2.2.2.1
    have f5 : (fun v u => v = .int .i64 (E)) (vs 5) u := hf.2.2.2.2.2.1
    clear hf
    simp only [putsA, List.foldl_cons, List.foldl_nil, Act.put, List.setIfInBounds_toArray, List.set_cons_zero, List.set_cons_succ]
    generalize vs 0 = v0 at f0 ⊢
    generalize vs 1 = v1 at f1 ⊢
    generalize vs 2 = v2 at f2 ⊢
    generalize vs 3 = v3 at f3 ⊢
    generalize vs 4 = v4 at f4 ⊢
    generalize vs 5 = v5 at f5 ⊢
    rw [if_pos (by rfl)]
    subst f5
    clear f0 f1 f2 f3 f4
    go_simp
    refine hK.out _ _ ?_
    have HB1 : Hid (Below W.heap.size W u) := hB
    clear hB hK HCF HTF HOr
    by_cases hn : E = 0
    · have hc := codeFu_zero (HE.out ▸ hn)
      obtain ⟨h60, hfine⟩ := HFi.out hc.1
      obtain ⟨ht1, ht2⟩ := tabF_in hc.2.1
      have HE2 : Hid (E = 0 ∧ V = l.map (fuseB tb)) := ⟨hn, by rw [HV0.out, hc.2.2]⟩
      have HTu : Hid (Calls Tryz.prog 54 #[.slice (some ⟨g, 0, none⟩) l.length cap, .func (.func 55) #[] #[.pointer (some ⟨w.heap.size, 0, none⟩)]] u fun e w' => ∃ v R, e = .returned v ∧ BV w' u.heap.size v R ∧ R.map RB.blk = l.map (fuseB tb) ∧ apartR R ∧ Below u.heap.size u w') := turnFB_of g cap B l u tb w.heap.size h60 (HL.out u (HBw.out u HB1.out)).2.2 (fun k hk gk x hx hr => fuse1_of l[k] tb gk w.heap.size (fuseO tb l[k].ops) x (HTc.out x (HB1.out.trans (hx.mono HB1.out.size))) (fun y hy => by
        have hxy : Below W.heap.size W y := (HB1.out.trans (hx.mono HB1.out.size)).trans (hy.mono (Nat.le_trans HB1.out.size hx.size))
        have h := HL.out y (HBw.out y hxy)
        exact HFb.out ht1 ht2 l[k] gk y (hfine k hk) (hr.below hy) h.2.1 h.1))
      subst hn
      clear hfine hc HE HFi HFb HV0 ht1 ht2
      go_wp2_with fail
      refine HTu.out.mono ?_
      rintro e w2 ⟨v, R, rfl, hv, hM, hap, b2⟩
      have HM : Hid (R.map RB.blk = l.map (fuseB tb)) := hM
      have HA : Hid (apartR R) := hap
      have HB2 : Hid (Below W.heap.size W w2) := HB1.out.trans (b2.mono HB1.out.size)
      have hw1 : w.heap.size + 1 < u.heap.size := (HQ.out u HB1.out).2.2.2
      obtain ⟨av, cv, rfl⟩ := own_form hv.row
      have HV : Hid (BV w2 u.heap.size (.slice av R.length cv) R) := hv
      obtain ⟨q0, q1, qf, ql⟩ := HQ.out w2 HB2.out
      have HBx : Hid (Below w.heap.size w w2) := HBw.out _ HB2.out
      clear hv hM hap b2 HTu
      go_wp2
      refine bodyPost_ret (v := .agg #[.int .i64 0, .slice av R.length cv]) (by simp [results, Tryz.results19, go_sem, q0, q1]) rfl ⟨.slice av R.length cv, R, rfl, ?_, by rw [HE2.out.2, HM.out], HA.out, ?_⟩
      · exact ((HV.out.setBox hw1).setBox hw1).base (by omega)
      · repeat (first | refine Below.setCell ?_ (by simp) _ | exact HBx.out)
    · have HE2 : Hid (V = []) := by show _ = _; rw [HV0.out]; exact codeFu_not (HE.out ▸ hn)
      have hcn : (E != 0) = true := by rw [bne_iff_ne]; exact hn
      obtain ⟨q0, q1, qf, ql⟩ := HQ.out u HB1.out
      have HBx : Hid (Below w.heap.size w u) := HBw.out _ HB1.out
      clear hn HQ HE HV0 HFi HFb
      go_wp2
      refine bodyPost_ret (v := .agg #[.int .i64 E, .slice none 0 0]) (by simp [results, Tryz.results19, go_sem, q0, q1]) rfl ⟨.slice none 0 0, [], rfl, ansNil _ _, by rw [HE2.out]; rfl, apartNil, ?_⟩
      repeat (first | refine Below.setCell ?_ (by simp) _ | exact HBx.out)
theorem UbS.nextN {W u X u' : World} {B rb old : Nat} {M N : List (Opr × Value)} {Q : List Int} (h : UbS W B rb M Q u) (hX : Below u.heap.size u X) (hrb : rb ≤ u.heap.size) (hr : RbAt u' B rb (M ++ N) (Q ++ List.replicate old (M.length : Int))) (hf : ∀ j, u'.frozen? ⟨rb, j, none⟩ = false) (hb : Below rb X u') (hN : apartO N) (hd : ∀ (k : Nat) (hk : k < N.length) (g : Nat), N[k].2.ownBlock = some g → u.heap.size ≤ g) : UbS W B rb (M ++ N) (Q ++ List.replicate old (M.length : Int)) u' := by
  refine ⟨hr, hf, apartO_append h.ap hN (fun i k hi hk g h1 h2 => ?_), (h.below.trans (hX.mono hrb)).trans hb⟩
  obtain ⟨v, -, hov⟩ := h.rbat.ops
  have a := (hov.data i hi).lt g h1
  have c := hd k hk g h2
  omega
theorem fld2 (c : Int) (ao : Option Addr) (n cc : Nat) (u : World) : (Instr.field 131 (.agg #[.int .i64 c, .slice ao n cc]) 1).run Tryz.prog u = .ok (.slice ao n cc) u := by kernel_rfl
theorem wrapFb (n : Nat) (h : n < 1000) : IntKind.i64.wrap ((n : Int) + 1) = (n : Int) + 1 := by
  unfold IntKind.wrap
  simp [IntKind.signed, IntKind.bits]
  omega
theorem contains_row {w : World} {B : Nat} {v : Value} {l : List Int} (h : w.ownsRow B 2 1 v l.length (cellsI l)) (hl : l.length ≤ 1000) (x : Int) :
    Calls Tryz.prog 86 #[v, .int .i64 x] w fun e w' => e = .returned (.bool (l.any (fun y => x == y))) ∧ w' = w := by
  rcases id h.2 with ⟨rfl, e⟩ | ⟨g, cap, cur, rfl, -⟩
  · have hl0 : l = [] := by
      have := h.1
      cases l with
      | nil => rfl
      | cons y r => first | (simp at e) | (simp at e; omega)
    subst hl0
    exact containsI_of _ x _ w (indexI_none x 0 w)
  · exact containsI_of _ x _ w (indexI_any l x g cap w hl (fun k hk => rowI_at h k hk))
set_option maxRecDepth 100000 in
set_option maxHeartbeats 2000000 in
theorem fuseBlock_any (tb : Int) (b : Blk) (gk : Nat) (w : World) (ht1 : 0 ≤ tb) (ht2 : tb ≤ 15) (hb : FineB b) (B : Nat) (hO : IsOp w B gk b.ops.length b.ops) (hF : FU w) (hL : LT w) :
    Calls Tryz.prog 56 #[b.val (.slice (some ⟨gk, 0, none⟩) b.ops.length b.ops.length), .int .i64 tb] w fun e w' => AnsUb b (fuseO tb b.ops) w e w' := by
  have hsm : b.small := ⟨by have := hb.len; omega, fun k hk => (hb.ops _ (List.getElem_mem hk)).2.2⟩
  obtain ⟨W0, hW0⟩ : ∃ W0, W0 = (w.alloc (.cells #[.int .i64 b.args, .slice (some ⟨gk, 0, none⟩) b.ops.length b.ops.length] 85)).alloc (.cells #[.int .i64 0, .slice none 0 0] 85) := ⟨_, rfl⟩
  have HW0 : Hid (W0 = (w.alloc (.cells #[.int .i64 b.args, .slice (some ⟨gk, 0, none⟩) b.ops.length b.ops.length] 85)).alloc (.cells #[.int .i64 0, .slice none 0 0] 85)) := hW0
  have hb0 : Below w.heap.size w W0 := by rw [hW0]; exact ((Below.refl _ _).alloc (Nat.le_refl _) _).alloc (by simp) _
  have HW0s : Hid (W0.heap.size = w.heap.size + 2) := by show _ = _; rw [hW0]; simp
  have a0 : W0.cell? ⟨w.heap.size, 0, none⟩ = some (.int .i64 b.args) := by rw [hW0]; simp [go_sem]
  have a1 : W0.cell? ⟨w.heap.size, 1, none⟩ = some (.slice (some ⟨gk, 0, none⟩) b.ops.length b.ops.length) := by rw [hW0]; simp [go_sem]
  have z0 : W0.cell? ⟨w.heap.size + 1, 0, none⟩ = some (.int .i64 0) := by rw [hW0]; simp [go_sem]
  have z1 : W0.cell? ⟨w.heap.size + 1, 1, none⟩ = some (.slice none 0 0) := by rw [hW0]; simp [go_sem]
  have zf : ∀ j, W0.frozen? ⟨w.heap.size + 1, j, none⟩ = false := fun j => by rw [hW0]; simp [go_sem]
  have hz0 : w.heap.size + 1 < W0.heap.size := by rw [hW0]; simp
  have HK : Hid (∀ u, Below W0.heap.size W0 u → u.cell? ⟨w.heap.size, 0, none⟩ = some (.int .i64 b.args) ∧ u.cell? ⟨w.heap.size, 1, none⟩ = some (.slice (some ⟨gk, 0, none⟩) b.ops.length b.ops.length) ∧ u.cell? ⟨w.heap.size + 1, 0, none⟩ = some (.int .i64 0) ∧ u.cell? ⟨w.heap.size + 1, 1, none⟩ = some (.slice none 0 0) ∧ (∀ j, u.frozen? ⟨w.heap.size + 1, j, none⟩ = false)) := fun u hu => ⟨cell_keep hu a0, cell_keep hu a1, cell_keep hu z0, cell_keep hu z1, fun j => by rw [(bcell hu).2 _ _ hz0]; exact zf j⟩
  have HBu : Hid (∀ u, Below W0.heap.size W0 u → Below w.heap.size w u) := fun u hu => hb0.trans (hu.mono hb0.size)
  have HO : Hid (∀ u, Below w.heap.size w u → RowOp u B gk b.ops) := fun u hu => (hO.below hu).row
  have HTI : Hid (Calls Tryz.prog 84 #[b.val (.slice (some ⟨gk, 0, none⟩) b.ops.length b.ops.length)] W0 fun e w' => AnsT b W0 e w') := implTI_any b gk B W0 hsm (hO.below hb0) (hL.below hb0)
  have HFu : Hid (∀ u, Below w.heap.size w u → FU u) := fun u hu => hF.below hu
  have HFn : Hid (∀ t ∈ b.ops, fine1 b.ops.length t) := hb.ops
  have HBf : Hid (blkFault b = 0) := hb.fault
  have hl := hb.len
  have HI : Hid (∀ k, FInv b.ops 1 (runF tb b.ops k)) := fun k => runF_inv hb.ops k
  clear hW0 hb0 a0 a1 z0 z1 zf hO hF hb hsm hL
  obtain ⟨a0, a1, -, -, -⟩ := HK.out W0 (Below.refl _ _)
  go_enter Tryz.func56, Tryz.ntmps56
  go_wp2_with fail
  rw [← HW0.out]
  clear HW0
  refine HTI.out.mono ?_
  rintro e w1 ⟨at1, ct1, rfl, ot, b1⟩
  have hfld : ∀ u, (Instr.field 131 (.agg #[.int .i64 (blkFault b), .slice at1 (outT b).length ct1]) 1).run Tryz.prog u = .ok (.slice at1 (outT b).length ct1) u := fun u => fld2 _ _ _ _ u
  have HCn : Hid (∀ (x : Int) (u : World), 0 ≤ x → x < 1000 → Below w1.heap.size w1 u → Calls Tryz.prog 86 #[.slice at1 (outT b).length ct1, .int .i64 x] u fun e w' => e = .returned (.bool (isT b.ops x)) ∧ w' = u) := fun x u h0 h1 hu => by
    rw [← outT_mem HBf.out x h0 h1]
    exact contains_row (own_below ot hu) (outT_len b) x
  obtain ⟨D1, hD1⟩ : ∃ D1, D1 = (outT b).length := ⟨_, rfl⟩
  obtain ⟨D0, hD0⟩ : ∃ D0, D0 = blkFault b := ⟨_, rfl⟩
  rw [← hD1] at HCn hfld ⊢
  rw [← hD0] at hfld ⊢
  obtain ⟨W, hW⟩ : ∃ W, W = w1.alloc (.cells #[.slice none 0 0, .slice none 0 0] 134) := ⟨_, rfl⟩
  have HW : Hid (W = w1.alloc (.cells #[.slice none 0 0, .slice none 0 0] 134)) := hW
  have HB1 : Hid (Below W0.heap.size W0 w1) := b1
  have HWs : Hid (W.heap.size = w1.heap.size + 1) := by show _ = _; rw [hW]; simp
  have hb1 : Below w1.heap.size w1 W := by rw [hW]; exact bnewK _ _
  have HS0 : Hid (UbS W (w1.heap.size + 1) w1.heap.size [] [] W) := by
    refine ⟨⟨⟨.slice none 0 0, by rw [hW]; simp [go_sem], ⟨⟨rfl, .inl ⟨rfl, rfl⟩⟩, fun i hi => by simp at hi⟩⟩, ⟨none, 0, by rw [hW]; simp [go_sem], ⟨rfl, .inl ⟨rfl, rfl⟩⟩⟩⟩, fun j => by rw [hW]; simp [go_sem], fun i j hi => by simp at hi, Below.refl _ _⟩
  have HB1u : Hid (∀ u, Below w1.heap.size W u → Below w1.heap.size w1 u) := fun u hu => hb1.trans hu
  have HB0u : Hid (∀ u, Below w1.heap.size W u → Below W0.heap.size W0 u) := fun u hu => HB1.out.trans ((hb1.trans hu).mono HB1.out.size)
  have hz1 : w.heap.size + 2 ≤ w1.heap.size := by have := HB1.out.size; have := HW0s.out; omega
  clear hW hb1 b1 ot hD1 hD0 HTI a0 a1
  go_wp2_with fail
  rw [← HW.out]
  clear HW hfld
  go_loopw [7] (fun i wr => ∃ (m : Nat) (M : List (Opr × Value)) (Q : List Int), Q.length ≤ b.ops.length ∧ i = .int .i64 (Q.length : Int) ∧ Hid (UbS W (w1.heap.size + 1) w1.heap.size M Q wr) ∧ Hid ((runF tb b.ops m).1 = M.map Prod.fst ∧ (runF tb b.ops m).2 = Q)) (fun i _ => b.ops.length - (RowKit.intOf i).toNat)
  case atStart => exact ⟨0, [], [], Nat.zero_le _, rfl, HS0.out, ⟨rfl, rfl⟩⟩
  case round =>
    obtain ⟨m, M, Q, hj, rfl, HS, HU⟩ := hrel
    have HBw : Hid (Below w.heap.size w wr) := HBu.out _ (HB0u.out _ HS.out.below)
    have hws : w1.heap.size + 1 ≤ wr.heap.size := by have := HS.out.below.size; have := HWs.out; omega
    have hib := HI.out m
    have hMl : M.length ≤ 200 := by have h1 := hib.news; rw [HU.out.1, HU.out.2] at h1; simp at h1; omega
    have hQl : Q.length ≤ 200 := by omega
    obtain ⟨k0, k1, -, -, -⟩ := HK.out wr (HB0u.out _ HS.out.below)
    have HKr : Hid (∀ u, Below wr.heap.size wr u → u.cell? ⟨w.heap.size, 0, none⟩ = some (.int .i64 b.args) ∧ u.cell? ⟨w.heap.size, 1, none⟩ = some (.slice (some ⟨gk, 0, none⟩) b.ops.length b.ops.length)) := fun u hu => ⟨cell_keep hu k0, cell_keep hu k1⟩
    by_cases hlt : Q.length < b.ops.length
    · obtain ⟨e0, e1, e2, e3, e4, e5, gy, e6, hdy⟩ := HO.out wr HBw.out Q.length hlt
      have hfn := HFn.out _ (List.getElem_mem hlt)
      obtain ⟨t, ht⟩ : ∃ t, t = b.ops[Q.length]'hlt := ⟨_, rfl⟩
      rw [← ht] at e0 e1 e2 e3 e4 e5 e6 hdy hfn
      have htq : b.ops[Q.length]? = some t := by rw [List.getElem?_eq_getElem hlt, ht]
      have hrl : (runF tb b.ops m).2.length = Q.length := by rw [HU.out.2]
      have hgk := lt_of_cell e0
      have HE7 : Hid (∀ u, Below wr.heap.size wr u → u.cell? ⟨gk, Q.length * 7, none⟩ = some (.int .i64 t.kind) ∧ u.cell? ⟨gk, Q.length * 7 + 1, none⟩ = some (.int .i64 t.a) ∧ u.cell? ⟨gk, Q.length * 7 + 2, none⟩ = some (.int .i64 t.b) ∧ u.cell? ⟨gk, Q.length * 7 + 3, none⟩ = some (.int .i64 t.c) ∧ u.cell? ⟨gk, Q.length * 7 + 4, none⟩ = some (.int .i64 t.d) ∧ u.cell? ⟨gk, Q.length * 7 + 5, none⟩ = some (.string t.name) ∧ u.cell? ⟨gk, Q.length * 7 + 6, none⟩ = some (.slice (some ⟨gy, 0, none⟩) t.data.length t.data.length)) := fun u hu => ⟨cell_keep hu e0, cell_keep hu e1, cell_keep hu e2, cell_keep hu e3, cell_keep hu e4, cell_keep hu e5, cell_keep hu e6⟩
      have HD : Hid (∀ u, Below wr.heap.size wr u → u.ownsRow B 196 4 (.slice (some ⟨gy, 0, none⟩) t.data.length t.data.length) t.data.length (cellsD t.data)) := fun u hu => own_below hdy hu
      have HEnd : Hid (∀ (N : List (Opr × Value)) (old : Nat) (X u' : World), 0 < old → runF tb b.ops (m + 1) = putF (runF tb b.ops m) old (N.map Prod.fst) → Below wr.heap.size wr X → RbAt u' (w1.heap.size + 1) w1.heap.size (M ++ N) (Q ++ List.replicate old (M.length : Int)) → (∀ j, u'.frozen? ⟨w1.heap.size, j, none⟩ = false) → Below w1.heap.size X u' → apartO N → (∀ (k : Nat) (hk : k < N.length) (g : Nat), N[k].2.ownBlock = some g → wr.heap.size ≤ g) → ∃ (M' : List (Opr × Value)) (Q' : List Int), UbS W (w1.heap.size + 1) w1.heap.size M' Q' u' ∧ ((runF tb b.ops (m + 1)).1 = M'.map Prod.fst ∧ (runF tb b.ops (m + 1)).2 = Q') ∧ Q'.length ≤ b.ops.length ∧ Q.length < Q'.length) := fun N old X u' ho h1 h2 h3 h4 h5 h6 h7 => by
        have e2 : (runF tb b.ops (m + 1)).2 = Q ++ List.replicate old (M.length : Int) := by
          rw [h1]
          show (runF tb b.ops m).2 ++ List.replicate old ((runF tb b.ops m).1.length : Int) = _
          rw [HU.out.2, HU.out.1]; simp
        refine ⟨_, _, HS.out.nextN h2 (by omega) h3 h4 h5 h6 h7, ⟨?_, e2⟩, ?_, ?_⟩
        · rw [h1, List.map_append]
          show (runF tb b.ops m).1 ++ _ = _
          rw [HU.out.1]
        · have := (HI.out (m + 1)).olds
          rw [e2] at this; exact this
        · simp; omega
      have HRb : Hid (∀ u, Below wr.heap.size wr u → RbAt u (w1.heap.size + 1) w1.heap.size M Q ∧ ∀ j, u.frozen? ⟨w1.heap.size, j, none⟩ = false) := fun u hu => ⟨HS.out.rbat.below hu, fun j => by rw [(bcell hu).2 _ _ (by omega)]; exact HS.out.fz j⟩
      have HCo : Hid (∀ u, Below wr.heap.size wr u → Calls Tryz.prog 89 #[t.val (.slice (some ⟨gy, 0, none⟩) t.data.length t.data.length)] u fun e w' => ∃ v, e = .returned (t.val v) ∧ w'.ownsRow (u.heap.size + 2) 196 4 v t.data.length (cellsD t.data) ∧ Below u.heap.size u w') := fun u hu => copyOp_any t (some ⟨gy, 0, none⟩) t.data.length B u hfn.2.2 (HD.out u hu)
      obtain ⟨q, Y, hFs, hY1, hY0⟩ : ∃ (q : Nat) (Y : Bool), (∀ u, Below wr.heap.size wr u → Calls Tryz.prog 85 #[.slice (some ⟨gk, Q.length * 7, none⟩) (b.ops.length - Q.length) (b.ops.length - Q.length), .int .i64 tb] u fun e w' => e = .returned (.tuple #[fusV q, .bool Y]) ∧ Below u.heap.size u w') ∧ (Y = true → ∃ h : Q.length + 1 < b.ops.length, twoK tb t.kind (b.ops[Q.length + 1]'h).kind ≠ 0 ∧ q = fusK (twoK tb t.kind (b.ops[Q.length + 1]'h).kind)) ∧ (Y = false → ∀ b2, b.ops[Q.length + 1]? = some b2 → pairs tb b.ops Q.length t b2 = false) := by
        by_cases h2 : Q.length + 1 < b.ops.length
        · refine ⟨fusK (twoK tb t.kind (b.ops[Q.length + 1]'h2).kind), twoK tb t.kind (b.ops[Q.length + 1]'h2).kind != 0, fun u hu => fusionOf_any gk (Q.length * 7) _ _ tb t.kind (b.ops[Q.length + 1]'h2).kind u ht1 ht2 (by omega) (cell_keep hu e0) ?_ (HFu.out u (HBw.out.trans (hu.mono HBw.out.size))), fun h => ⟨h2, by simpa using h, rfl⟩, fun h b2 hb2 => ?_⟩
          · rw [show Q.length * 7 + 7 = (Q.length + 1) * 7 by omega]
            exact (HO.out u (HBw.out.trans (hu.mono HBw.out.size)) (Q.length + 1) h2).1
          · rw [List.getElem?_eq_getElem h2] at hb2
            injection hb2 with hb2
            subst hb2
            unfold pairs
            rw [h]; rfl
        · refine ⟨4, false, fun u _ => fusionOf_few gk _ _ _ tb u (by omega), fun h => (by cases h), fun _ b2 hb2 => ?_⟩
          rw [List.getElem?_eq_none (by omega)] at hb2
          cases hb2
      obtain ⟨x0, x1, x2, x3, hx⟩ : ∃ x0 x1 x2 x3 : Int, fusV q = .agg #[.int .i64 x0, .int .i64 x1, .int .i64 x2, .int .i64 x3] := ⟨_, _, _, _, rfl⟩
      rw [hx] at hFs
      have HFs : Hid (∀ u, Below wr.heap.size wr u → Calls Tryz.prog 85 #[.slice (some ⟨gk, Q.length * 7, none⟩) (b.ops.length - Q.length) (b.ops.length - Q.length), .int .i64 tb] u fun e w' => e = .returned (.tuple #[.agg #[.int .i64 x0, .int .i64 x1, .int .i64 x2, .int .i64 x3], .bool Y]) ∧ Below u.heap.size u w') := hFs
      have HY1 : Hid (Y = true → ∃ h : Q.length + 1 < b.ops.length, twoK tb t.kind (b.ops[Q.length + 1]'h).kind ≠ 0 ∧ q = fusK (twoK tb t.kind (b.ops[Q.length + 1]'h).kind)) := hY1
      have HXq : Hid (fusV q = .agg #[.int .i64 x0, .int .i64 x1, .int .i64 x2, .int .i64 x3]) := hx
      have HPl : Hid ((∀ b2, b.ops[Q.length + 1]? = some b2 → pairs tb b.ops Q.length t b2 = false) → runF tb b.ops (m + 1) = putF (runF tb b.ops m) 1 [t]) := fun h => runF_plain hrl htq h
      have HY0 : Hid (Y = false → ∀ b2, b.ops[Q.length + 1]? = some b2 → pairs tb b.ops Q.length t b2 = false) := hY0
      have HFt : Hid (fine1 b.ops.length t ∧ b.ops[Q.length]? = some t ∧ (runF tb b.ops m).2.length = Q.length) := ⟨hfn, htq, hrl⟩
      clear hib hFs hY1 hY0 hx hfn ht htq hrl e0 e1 e2 e3 e4 e5 e6 hdy
      go_wp2_with fail
      refine (HFs.out _ (Below.refl _ _)).mono ?_
      rintro e w2 ⟨rfl, b2⟩
      obtain ⟨X, hX⟩ : ∃ X, X = w2.alloc (.cells #[.int .i64 x0, .int .i64 x1, .int .i64 x2, .int .i64 x3] 102) := ⟨_, rfl⟩
      have HXe : Hid (X = w2.alloc (.cells #[.int .i64 x0, .int .i64 x1, .int .i64 x2, .int .i64 x3] 102)) := hX
      have HBX : Hid (Below wr.heap.size wr X) := by show Below _ _ _; rw [hX]; exact b2.alloc b2.size _
      have HXc : Hid (∀ u, Below X.heap.size X u → u.cell? ⟨w2.heap.size, 0, none⟩ = some (.int .i64 x0) ∧ u.cell? ⟨w2.heap.size, 1, none⟩ = some (.int .i64 x1) ∧ u.cell? ⟨w2.heap.size, 2, none⟩ = some (.int .i64 x2) ∧ u.cell? ⟨w2.heap.size, 3, none⟩ = some (.int .i64 x3)) := fun u hu => by
        refine ⟨cell_keep hu ?_, cell_keep hu ?_, cell_keep hu ?_, cell_keep hu ?_⟩ <;> (rw [hX, World.cell?_alloc_at _ _ _ _ rfl]; rfl)
      have HBu2 : Hid (∀ u, Below X.heap.size X u → Below wr.heap.size wr u) := fun u hu => HBX.out.trans (hu.mono HBX.out.size)
      clear hX b2 HFs k0 k1
      go_upto_region 7 with fail
      rw [← HXe.out]
      clear HXe
      cases Y with
      | false =>
        have HSt : Hid (runF tb b.ops (m + 1) = putF (runF tb b.ops m) 1 [t]) := HPl.out (HY0.out rfl)
        clear HPl HY0 HY1 HFt HXq HXc HCn
        obtain ⟨k0, k1⟩ := HKr.out X HBX.out
        obtain ⟨e0, e1, e2, e3, e4, e5, e6⟩ := HE7.out X HBX.out
        go_wp2_with fail
        refine (HCo.out X HBX.out).mono ?_
        rintro e w3 ⟨v1, rfl, o1, b3⟩
        obtain ⟨a1, c1, rfl⟩ := own_form o1
        have HB3 : Hid (Below wr.heap.size wr w3) := HBu2.out _ b3
        have HO1 : Hid (w3.ownsRow wr.heap.size 196 4 (.slice a1 t.data.length c1) t.data.length (cellsD t.data)) := own_base o1 (by have := HBX.out.size; omega)
        have hz3 : wr.heap.size ≤ w3.heap.size := HB3.out.size
        clear b3 o1 HCo k0 k1 e0 e1 e2 e3 e4 e5 e6
        go_wp2_with fail
        obtain ⟨X2, hX2⟩ : ∃ X, X = w3.alloc (.cells #[.int .i64 t.kind, .int .i64 t.a, .int .i64 t.b, .int .i64 t.c, .int .i64 t.d, .string t.name, .slice a1 t.data.length c1] 100) := ⟨_, rfl⟩
        have hb2X : Below w3.heap.size w3 X2 := by rw [hX2]; exact bnewK _ _
        have HBX2 : Hid (Below wr.heap.size wr X2) := HB3.out.trans (hb2X.mono HB3.out.size)
        have hXr : X2.ownsRow (w1.heap.size + 1) 100 7 (.slice (some ⟨w3.heap.size, 0, none⟩) 1 1) 1 (cellsOp [(t, .slice a1 t.data.length c1)]) := by
          rw [hX2]; exact ownNewO _ _ _ 1 _ rfl (by omega) (by omega) (by rfl)
        have hXd : ∀ (i : Nat) (h : i < [(t, Value.slice a1 t.data.length c1)].length), X2.ownsRow (w1.heap.size + 1) 196 4 ([(t, Value.slice a1 t.data.length c1)][i]).2 ([(t, Value.slice a1 t.data.length c1)][i]).1.data.length (cellsD ([(t, Value.slice a1 t.data.length c1)][i]).1.data) := fun i h => by
          match i, h with
          | 0, _ => exact own_base (own_below HO1.out hb2X) (by omega)
          | _ + 1, h => exact absurd h (by simp)
        rw [← hX2]
        have hXs : w1.heap.size + 1 ≤ X2.heap.size := by have := hb2X.size; omega
        clear hX2
        refine (put_any 1 M [(t, .slice a1 t.data.length c1)] Q (w1.heap.size + 1) w1.heap.size w3.heap.size X2 (by omega) (by simp) (by simp) (by omega) (by omega) (by omega) hXs (HRb.out _ HBX2.out).1 (HRb.out _ HBX2.out).2 hXr hXd (cellsOp_one' _ (fun x hx => by simp at hx; subst hx; rfl))).mono ?_
        rintro e w4 ⟨rfl, hR4, hF4, b4⟩
        obtain ⟨M', Q', hn1, hn2, hq1, hq2⟩ := HEnd.out [(t, .slice a1 t.data.length c1)] 1 X2 w4 (by omega) HSt.out HBX2.out hR4 hF4 b4 (apartO_one _) (fun k hk g hg => by
          match k, hk, hg with
          | 0, _, hg => exact (HO1.out.lt g hg).1
          | _ + 1, hk, _ => exact absurd hk (by simp))
        have HN1 : Hid (UbS W (w1.heap.size + 1) w1.heap.size M' Q' w4) := hn1
        have HN2 : Hid ((runF tb b.ops (m + 1)).1 = M'.map Prod.fst ∧ (runF tb b.ops (m + 1)).2 = Q') := hn2
        obtain ⟨-, ⟨ap, cq, kq, -⟩⟩ := hn1.rbat
        clear hn1 hn2 hR4 hF4 b4 hXr hXd hb2X HEnd HRb
        go_wp2
        exact ⟨⟨m + 1, M', Q', hq1, by go_num, HN1.out, HN2.out⟩, by simp [RowKit.intOf]; omega⟩
      | true =>
        obtain ⟨h2, hk, hq⟩ := HY1.out rfl
        obtain ⟨t2, ht2⟩ : ∃ t2, t2 = b.ops[Q.length + 1]'h2 := ⟨_, rfl⟩
        have htq2 : b.ops[Q.length + 1]? = some t2 := by rw [List.getElem?_eq_getElem h2, ht2]
        rw [← ht2] at hk hq
        have HC1 : Hid (∀ u, Below wr.heap.size wr u → Calls Tryz.prog 86 #[.slice at1 D1 ct1, .int .i64 ((Q.length : Int) + 1)] u fun e w' => e = .returned (.bool (isT b.ops ((Q.length : Int) + 1))) ∧ w' = u) := fun u hu => HCn.out _ u (by omega) (by omega) (HB1u.out _ (HS.out.below.trans (hu.mono (by omega))))
        obtain ⟨Dt, hDt⟩ : ∃ Dt, Dt = isT b.ops ((Q.length : Int) + 1) := ⟨_, rfl⟩
        rw [← hDt] at HC1
        have HPr : Hid (pairs tb b.ops Q.length t t2 = !Dt) := by
          show _ = _
          unfold pairs
          rw [← hDt]
          have : (twoK tb t.kind t2.kind != 0) = true := by simpa using hk
          rw [this]; rfl
        have HQ2 : Hid (b.ops[Q.length + 1]? = some t2 ∧ twoK tb t.kind t2.kind ≠ 0 ∧ q = fusK (twoK tb t.kind t2.kind)) := ⟨htq2, hk, hq⟩
        clear hDt hk hq htq2 HY0 HY1 HCn
        cases Dt with
        | true =>
          have HSt : Hid (runF tb b.ops (m + 1) = putF (runF tb b.ops m) 1 [t]) := HPl.out (fun b2 hb2 => by
            rw [HQ2.out.1] at hb2
            injection hb2 with hb2
            subst hb2
            exact HPr.out)
          clear HPl HFt HXq HXc HPr HQ2
          go_wp2_with fail
          refine (HC1.out _ HBX.out).mono ?_
          rintro e w5 ⟨rfl, e5⟩
          replace e5 := e5.symm
          subst e5
          clear HC1
          obtain ⟨k0, k1⟩ := HKr.out X HBX.out
          obtain ⟨e0, e1, e2, e3, e4, e5, e6⟩ := HE7.out X HBX.out
          go_wp2_with fail
          refine (HCo.out X HBX.out).mono ?_
          rintro e w3 ⟨v1, rfl, o1, b3⟩
          obtain ⟨a1, c1, rfl⟩ := own_form o1
          have HB3 : Hid (Below wr.heap.size wr w3) := HBu2.out _ b3
          have HO1 : Hid (w3.ownsRow wr.heap.size 196 4 (.slice a1 t.data.length c1) t.data.length (cellsD t.data)) := own_base o1 (by have := HBX.out.size; omega)
          have hz3 : wr.heap.size ≤ w3.heap.size := HB3.out.size
          clear b3 o1 HCo k0 k1 e0 e1 e2 e3 e4 e5 e6
          go_wp2_with fail
          obtain ⟨X2, hX2⟩ : ∃ X, X = w3.alloc (.cells #[.int .i64 t.kind, .int .i64 t.a, .int .i64 t.b, .int .i64 t.c, .int .i64 t.d, .string t.name, .slice a1 t.data.length c1] 100) := ⟨_, rfl⟩
          have hb2X : Below w3.heap.size w3 X2 := by rw [hX2]; exact bnewK _ _
          have HBX2 : Hid (Below wr.heap.size wr X2) := HB3.out.trans (hb2X.mono HB3.out.size)
          have hXr : X2.ownsRow (w1.heap.size + 1) 100 7 (.slice (some ⟨w3.heap.size, 0, none⟩) 1 1) 1 (cellsOp [(t, .slice a1 t.data.length c1)]) := by
            rw [hX2]; exact ownNewO _ _ _ 1 _ rfl (by omega) (by omega) (by rfl)
          have hXd : ∀ (i : Nat) (h : i < [(t, Value.slice a1 t.data.length c1)].length), X2.ownsRow (w1.heap.size + 1) 196 4 ([(t, Value.slice a1 t.data.length c1)][i]).2 ([(t, Value.slice a1 t.data.length c1)][i]).1.data.length (cellsD ([(t, Value.slice a1 t.data.length c1)][i]).1.data) := fun i h => by
            match i, h with
            | 0, _ => exact own_base (own_below HO1.out hb2X) (by omega)
            | _ + 1, h => exact absurd h (by simp)
          rw [← hX2]
          have hXs : w1.heap.size + 1 ≤ X2.heap.size := by have := hb2X.size; omega
          clear hX2
          refine (put_any 1 M [(t, .slice a1 t.data.length c1)] Q (w1.heap.size + 1) w1.heap.size w3.heap.size X2 (by omega) (by simp) (by simp) (by omega) (by omega) (by omega) hXs (HRb.out _ HBX2.out).1 (HRb.out _ HBX2.out).2 hXr hXd (cellsOp_one' _ (fun x hx => by simp at hx; subst hx; rfl))).mono ?_
          rintro e w4 ⟨rfl, hR4, hF4, b4⟩
          obtain ⟨M', Q', hn1, hn2, hq1, hq2⟩ := HEnd.out [(t, .slice a1 t.data.length c1)] 1 X2 w4 (by omega) HSt.out HBX2.out hR4 hF4 b4 (apartO_one _) (fun k hk g hg => by
            match k, hk, hg with
            | 0, _, hg => exact (HO1.out.lt g hg).1
            | _ + 1, hk, _ => exact absurd hk (by simp))
          have HN1 : Hid (UbS W (w1.heap.size + 1) w1.heap.size M' Q' w4) := hn1
          have HN2 : Hid ((runF tb b.ops (m + 1)).1 = M'.map Prod.fst ∧ (runF tb b.ops (m + 1)).2 = Q') := hn2
          obtain ⟨-, ⟨ap, cq, kq, -⟩⟩ := hn1.rbat
          clear hn1 hn2 hR4 hF4 b4 hXr hXd hb2X HEnd HRb
          go_wp2
          exact ⟨⟨m + 1, M', Q', hq1, by go_num, HN1.out, HN2.out⟩, by simp [RowKit.intOf]; omega⟩
        | false =>
          have hfn := HFt.out.1
          have hfn2 : fine1 b.ops.length t2 := by rw [ht2]; exact HFn.out _ (List.getElem_mem h2)
          obtain ⟨f0, f1, f2, f3, f4, f5, gz, f6, hdz⟩ := HO.out wr HBw.out (Q.length + 1) h2
          rw [← ht2] at f0 f1 f2 f3 f4 f5 f6
          have HE8 : Hid (∀ u, Below wr.heap.size wr u → u.cell? ⟨gk, (Q.length + 1) * 7, none⟩ = some (.int .i64 t2.kind) ∧ u.cell? ⟨gk, (Q.length + 1) * 7 + 1, none⟩ = some (.int .i64 t2.a) ∧ u.cell? ⟨gk, (Q.length + 1) * 7 + 2, none⟩ = some (.int .i64 t2.b) ∧ u.cell? ⟨gk, (Q.length + 1) * 7 + 3, none⟩ = some (.int .i64 t2.c) ∧ u.cell? ⟨gk, (Q.length + 1) * 7 + 4, none⟩ = some (.int .i64 t2.d) ∧ u.cell? ⟨gk, (Q.length + 1) * 7 + 5, none⟩ = some (.string t2.name) ∧ u.cell? ⟨gk, (Q.length + 1) * 7 + 6, none⟩ = some (.slice (some ⟨gz, 0, none⟩) t2.data.length t2.data.length)) := fun u hu => ⟨cell_keep hu f0, cell_keep hu f1, cell_keep hu f2, cell_keep hu f3, cell_keep hu f4, cell_keep hu f5, cell_keep hu f6⟩
          have hj := fun (u : World) (hu : Below wr.heap.size wr u) => join_fine tb t t2 hfn hfn2 HQ2.out.2.1 (some ⟨gy, 0, none⟩) (some ⟨gz, 0, none⟩) t.data.length t2.data.length t2.data.length B u (HD.out u hu)
          have HSt0 : runF tb b.ops (m + 1) = putF (runF tb b.ops m) 2 [joinO t t2 (twoK tb t.kind t2.kind)] := runF_pair HFt.out.2.2 HFt.out.2.1 HQ2.out.1 HPr.out
          obtain ⟨J, hJ⟩ : ∃ J, J = joinO t t2 (twoK tb t.kind t2.kind) := ⟨_, rfl⟩
          rw [← HQ2.out.2.2, HXq.out, ← hJ] at hj
          rw [← hJ] at HSt0
          have HSt : Hid (runF tb b.ops (m + 1) = putF (runF tb b.ops m) 2 [J]) := HSt0
          have HJn : Hid (∀ u, Below wr.heap.size wr u → Calls Tryz.prog 88 #[.agg #[.int .i64 x0, .int .i64 x1, .int .i64 x2, .int .i64 x3], t.val (.slice (some ⟨gy, 0, none⟩) t.data.length t.data.length), t2.val (.slice (some ⟨gz, 0, none⟩) t2.data.length t2.data.length)] u fun e w' => ∃ v, e = .returned (J.val v) ∧ w'.ownsRow (u.heap.size + 4) 196 4 v J.data.length (cellsD J.data) ∧ Below u.heap.size u w') := hj
          clear hj HSt0 hJ hfn hfn2 f0 f1 f2 f3 f4 f5 f6 hdz HFt HQ2 HPl HXq HPr ht2 HCo HD
          go_wp2_with fail
          refine (HC1.out _ HBX.out).mono ?_
          rintro e w5 ⟨rfl, e5⟩
          replace e5 := e5.symm
          subst e5
          clear HC1
          go_upto_region 8 with fail
          refine wp_region_facts (by kernel_rfl) 14 (fun v => Below X.heap.size X v) (fun u v => Below u.heap.size u v) (fun i v u => match i with | 0 => (fun v u => v = .agg #[.int .i64 x0, .int .i64 x1, .int .i64 x2, .int .i64 x3]) v u | 1 => (fun v u => v = .pointer (some ⟨w.heap.size, 1, none⟩)) v u | 2 => (fun v u => v = .slice (some ⟨gk, 0, none⟩) b.ops.length b.ops.length) v u | 3 => (fun v u => v = .int .i64 (Q.length : Int)) v u | 4 => (fun v u => v = .pointer (some ⟨gk, Q.length * 7, none⟩)) v u | 5 => (fun v u => v = t.val (.slice (some ⟨gy, 0, none⟩) t.data.length t.data.length)) v u | 6 => (fun v u => v = .pointer (some ⟨w.heap.size, 1, none⟩)) v u | 7 => (fun v u => v = .slice (some ⟨gk, 0, none⟩) b.ops.length b.ops.length) v u | 8 => (fun v u => v = .int .i64 (Q.length : Int)) v u | 9 => (fun v u => v = .int .i64 ((Q.length : Int) + 1)) v u | 10 => (fun v u => v = .pointer (some ⟨gk, (Q.length + 1) * 7, none⟩)) v u | 11 => (fun v u => v = t2.val (.slice (some ⟨gz, 0, none⟩) t2.data.length t2.data.length)) v u | 12 => (fun v u => ∃ x, v = J.val x ∧ u.ownsRow wr.heap.size 196 4 x J.data.length (cellsD J.data)) v u | 13 => (fun v u => ∃ g ax cx, v = .slice (some ⟨g, 0, none⟩) 1 1 ∧ u.ownsRow (w1.heap.size + 1) 100 7 (.slice (some ⟨g, 0, none⟩) 1 1) 1 (cellsOp [(J, .slice ax J.data.length cx)]) ∧ u.ownsRow wr.heap.size 196 4 (.slice ax J.data.length cx) J.data.length (cellsD J.data)) v u | _ => True) (by kernel_rfl) [0, 1, 2, 3, 4, 5, 6, 7, 8, 9, 10, 11, 12, 13] (by kernel_rfl) ?b0 ?bk ?fk ⟨?s0, ?s1, ?s2, ?s3, ?s4, ?s5, ?s6, ?s7, ?s8, ?s9, ?s10, ?s11, ?s12, ?s13, trivial⟩ _ rfl [(0, some 38), (1, some 39), (2, some 40), (3, some 41), (4, some 42), (5, some 43), (6, some 44), (7, some 45), (8, some 46), (9, some 47), (10, some 48), (11, some 49), (12, some 50), (13, some 51)] (by kernel_rfl) ?last
          case b0 => exact Below.drew (Below.refl _ _)
          case bk => exact fun u v h hb => h.trans (hb.mono h.size)
          case fk => intro i v u u' h hb; match i, h with | 0, h => exact (h) | 1, h => exact (h) | 2, h => exact (h) | 3, h => exact (h) | 4, h => exact (h) | 5, h => exact (h) | 6, h => exact (h) | 7, h => exact (h) | 8, h => exact (h) | 9, h => exact (h) | 10, h => exact (h) | 11, h => exact (h) | 12, h => exact ((let ⟨x, e, o⟩ := h; ⟨x, e, own_below o hb⟩)) | 13, h => exact ((let ⟨g, ax, cx, e, o, o2⟩ := h; ⟨g, ax, cx, e, own_below o hb, own_below o2 hb⟩)) | _ + 14, _ => exact trivial
          case s0 =>
            refine StepF.of rfl [] (by kernel_rfl) ?_
            intro vs u hB hf K hK
            clear hf
            simp only [putsA, List.foldl_nil, Act.put, List.setIfInBounds_toArray] at hK ⊢
            rw [if_pos (by rfl)]
            obtain ⟨c0, c1, c2, c3⟩ := HXc.out u hB
            go_simp
            exact hK.out _ _ (Below.refl _ _) rfl
          case s1 =>
            refine StepF.of rfl [] (by kernel_rfl) ?_
            intro vs u hB hf K hK
            clear hf
            simp only [putsA, List.foldl_nil, Act.put, List.setIfInBounds_toArray] at hK ⊢
            rw [if_pos (by rfl)]
            go_simp
            exact hK.out _ _ (Below.refl _ _) rfl
          case s2 =>
            refine StepF.of rfl [(1, some 39)] (by kernel_rfl) ?_
            intro vs u hB hf K hK
            have f1 : (fun v u => v = .pointer (some ⟨w.heap.size, 1, none⟩)) (vs 1) u := hf.1
            clear hf
            simp only [putsA, List.foldl_cons, List.foldl_nil, Act.put, List.setIfInBounds_toArray, List.set_cons_zero, List.set_cons_succ] at hK ⊢
            generalize vs 1 = v1 at f1 hK ⊢
            rw [if_pos (by rfl)]
            subst f1
            have c0 := (HKr.out u (HBu2.out u hB)).2
            go_simp
            exact hK.out _ _ (Below.refl _ _) rfl
          case s3 =>
            refine StepF.of rfl [] (by kernel_rfl) ?_
            intro vs u hB hf K hK
            clear hf
            simp only [putsA, List.foldl_nil, Act.put, List.setIfInBounds_toArray] at hK ⊢
            rw [if_pos (by rfl)]
            go_simp
            exact hK.out _ _ (Below.refl _ _) rfl
          case s4 =>
            refine StepF.of rfl [(2, some 40), (3, some 41)] (by kernel_rfl) ?_
            intro vs u hB hf K hK
            have f2 : (fun v u => v = .slice (some ⟨gk, 0, none⟩) b.ops.length b.ops.length) (vs 2) u := hf.1
            have f3 : (fun v u => v = .int .i64 (Q.length : Int)) (vs 3) u := hf.2.1
            clear hf
            simp only [putsA, List.foldl_cons, List.foldl_nil, Act.put, List.setIfInBounds_toArray, List.set_cons_zero, List.set_cons_succ] at hK ⊢
            generalize vs 2 = v2 at f2 hK ⊢
            generalize vs 3 = v3 at f3 hK ⊢
            rw [if_pos (by rfl)]
            subst f2
            subst f3
            go_simp
            exact hK.out _ _ (Below.refl _ _) rfl
          case s5 =>
            refine StepF.of rfl [(4, some 42)] (by kernel_rfl) ?_
            intro vs u hB hf K hK
            have f4 : (fun v u => v = .pointer (some ⟨gk, Q.length * 7, none⟩)) (vs 4) u := hf.1
            clear hf
            simp only [putsA, List.foldl_cons, List.foldl_nil, Act.put, List.setIfInBounds_toArray, List.set_cons_zero, List.set_cons_succ] at hK ⊢
            generalize vs 4 = v4 at f4 hK ⊢
            rw [if_pos (by rfl)]
            subst f4
            obtain ⟨e0, e1, e2, e3, e4, e5, e6⟩ := HE7.out u (HBu2.out u hB)
            go_simp
            exact hK.out _ _ (Below.refl _ _) rfl
          case s6 =>
            refine StepF.of rfl [] (by kernel_rfl) ?_
            intro vs u hB hf K hK
            clear hf
            simp only [putsA, List.foldl_nil, Act.put, List.setIfInBounds_toArray] at hK ⊢
            rw [if_pos (by rfl)]
            go_simp
            exact hK.out _ _ (Below.refl _ _) rfl
          case s7 =>
            refine StepF.of rfl [(6, some 44)] (by kernel_rfl) ?_
            intro vs u hB hf K hK
            have f6 : (fun v u => v = .pointer (some ⟨w.heap.size, 1, none⟩)) (vs 6) u := hf.1
            clear hf
            simp only [putsA, List.foldl_cons, List.foldl_nil, Act.put, List.setIfInBounds_toArray, List.set_cons_zero, List.set_cons_succ] at hK ⊢
            generalize vs 6 = v6 at f6 hK ⊢
            rw [if_pos (by rfl)]
            subst f6
            have c0 := (HKr.out u (HBu2.out u hB)).2
            go_simp
            exact hK.out _ _ (Below.refl _ _) rfl
          case s8 =>
            refine StepF.of rfl [] (by kernel_rfl) ?_
            intro vs u hB hf K hK
            clear hf
            simp only [putsA, List.foldl_nil, Act.put, List.setIfInBounds_toArray] at hK ⊢
            rw [if_pos (by rfl)]
            go_simp
            exact hK.out _ _ (Below.refl _ _) rfl
          case s9 =>
            refine StepF.of rfl [(8, some 46)] (by kernel_rfl) ?_
            intro vs u hB hf K hK
            have f8 : (fun v u => v = .int .i64 (Q.length : Int)) (vs 8) u := hf.1
            clear hf
            simp only [putsA, List.foldl_cons, List.foldl_nil, Act.put, List.setIfInBounds_toArray, List.set_cons_zero, List.set_cons_succ] at hK ⊢
            generalize vs 8 = v8 at f8 hK ⊢
            rw [if_pos (by rfl)]
            subst f8
            go_simp
            exact hK.out _ _ (Below.refl _ _) (by rw [wrapFb Q.length (by omega)])
          case s10 =>
            refine StepF.of rfl [(7, some 45), (9, some 47)] (by kernel_rfl) ?_
            intro vs u hB hf K hK
            have f7 : (fun v u => v = .slice (some ⟨gk, 0, none⟩) b.ops.length b.ops.length) (vs 7) u := hf.1
            have f9 : (fun v u => v = .int .i64 ((Q.length : Int) + 1)) (vs 9) u := hf.2.1
            clear hf
            simp only [putsA, List.foldl_cons, List.foldl_nil, Act.put, List.setIfInBounds_toArray, List.set_cons_zero, List.set_cons_succ] at hK ⊢
            generalize vs 7 = v7 at f7 hK ⊢
            generalize vs 9 = v9 at f9 hK ⊢
            rw [if_pos (by rfl)]
            subst f7
            subst f9
            have hb1 : (0 : Int) ≤ (Q.length : Int) + 1 := by omega
            have hb2 : (Q.length : Int) + 1 < (b.ops.length : Int) := by omega
            go_simp
            exact hK.out _ _ (Below.refl _ _) rfl
          case s11 =>
            refine StepF.of rfl [(10, some 48)] (by kernel_rfl) ?_
            intro vs u hB hf K hK
            have f10 : (fun v u => v = .pointer (some ⟨gk, (Q.length + 1) * 7, none⟩)) (vs 10) u := hf.1
            clear hf
            simp only [putsA, List.foldl_cons, List.foldl_nil, Act.put, List.setIfInBounds_toArray, List.set_cons_zero, List.set_cons_succ] at hK ⊢
            generalize vs 10 = v10 at f10 hK ⊢
            rw [if_pos (by rfl)]
            subst f10
            obtain ⟨e0, e1, e2, e3, e4, e5, e6⟩ := HE8.out u (HBu2.out u hB)
            go_simp
            exact hK.out _ _ (Below.refl _ _) rfl
          case s12 =>
            refine StepF.of rfl [(0, some 38), (5, some 43), (11, some 49)] (by kernel_rfl) ?_
            intro vs u hB hf K hK
            have f0 : (fun v u => v = .agg #[.int .i64 x0, .int .i64 x1, .int .i64 x2, .int .i64 x3]) (vs 0) u := hf.1
            have f5 : (fun v u => v = t.val (.slice (some ⟨gy, 0, none⟩) t.data.length t.data.length)) (vs 5) u := hf.2.1
            have f11 : (fun v u => v = t2.val (.slice (some ⟨gz, 0, none⟩) t2.data.length t2.data.length)) (vs 11) u := hf.2.2.1
            clear hf
            simp only [putsA, List.foldl_cons, List.foldl_nil, Act.put, List.setIfInBounds_toArray, List.set_cons_zero, List.set_cons_succ] at hK ⊢
            generalize vs 0 = v0 at f0 hK ⊢
            generalize vs 5 = v5 at f5 hK ⊢
            generalize vs 11 = v11 at f11 hK ⊢
            rw [if_pos (by rfl)]
            subst f0
            subst f5
            subst f11
            go_simp
            refine (HJn.out u (HBu2.out u hB)).mono ?_
            rintro e w6 ⟨x, rfl, ox, b6⟩
            exact hK.out _ _ b6 ⟨x, rfl, own_base ox (by have := (HBu2.out u hB).size; omega)⟩
          case s13 =>
            refine StepF.of rfl [(12, some 50)] (by kernel_rfl) ?_
            intro vs u hB hf K hK
            have f12 : (fun v u => ∃ x, v = J.val x ∧ u.ownsRow wr.heap.size 196 4 x J.data.length (cellsD J.data)) (vs 12) u := hf.1
            clear hf
            simp only [putsA, List.foldl_cons, List.foldl_nil, Act.put, List.setIfInBounds_toArray, List.set_cons_zero, List.set_cons_succ] at hK ⊢
            generalize vs 12 = v12 at f12 hK ⊢
            rw [if_pos (by rfl)]
            obtain ⟨x, rfl, ox⟩ := f12
            obtain ⟨ax, cx, rfl⟩ := own_form ox
            have hsu := (HBu2.out u hB).size
            go_simp
            refine hK.out _ _ ((Below.refl _ _).alloc (Nat.le_refl _) _) ?_
            exact ⟨_, ax, cx, rfl, ownNewO _ _ _ 1 _ rfl (by omega) (by omega) (by rfl), own_below ox (bnewK _ _)⟩
          case last =>
            intro vs u hB hf K hK
            have f0 : (fun v u => v = .agg #[.int .i64 x0, .int .i64 x1, .int .i64 x2, .int .i64 x3]) (vs 0) u := hf.1
            have f1 : (fun v u => v = .pointer (some ⟨w.heap.size, 1, none⟩)) (vs 1) u := hf.2.1
            have f2 : (fun v u => v = .slice (some ⟨gk, 0, none⟩) b.ops.length b.ops.length) (vs 2) u := hf.2.2.1
            have f3 : (fun v u => v = .int .i64 (Q.length : Int)) (vs 3) u := hf.2.2.2.1
            have f4 : (fun v u => v = .pointer (some ⟨gk, Q.length * 7, none⟩)) (vs 4) u := hf.2.2.2.2.1
            have f5 : (fun v u => v = t.val (.slice (some ⟨gy, 0, none⟩) t.data.length t.data.length)) (vs 5) u := hf.2.2.2.2.2.1
            have f6 : (fun v u => v = .pointer (some ⟨w.heap.size, 1, none⟩)) (vs 6) u := hf.2.2.2.2.2.2.1
            have f7 : (fun v u => v = .slice (some ⟨gk, 0, none⟩) b.ops.length b.ops.length) (vs 7) u := hf.2.2.2.2.2.2.2.1
            have f8 : (fun v u => v = .int .i64 (Q.length : Int)) (vs 8) u := hf.2.2.2.2.2.2.2.2.1
            have f9 : (fun v u => v = .int .i64 ((Q.length : Int) + 1)) (vs 9) u := hf.2.2.2.2.2.2.2.2.2.1
            have f10 : (fun v u => v = .pointer (some ⟨gk, (Q.length + 1) * 7, none⟩)) (vs 10) u := hf.2.2.2.2.2.2.2.2.2.2.1
            have f11 : (fun v u => v = t2.val (.slice (some ⟨gz, 0, none⟩) t2.data.length t2.data.length)) (vs 11) u := hf.2.2.2.2.2.2.2.2.2.2.2.1
            have f12 : (fun v u => ∃ x, v = J.val x ∧ u.ownsRow wr.heap.size 196 4 x J.data.length (cellsD J.data)) (vs 12) u := hf.2.2.2.2.2.2.2.2.2.2.2.2.1
            have f13 : (fun v u => ∃ g ax cx, v = .slice (some ⟨g, 0, none⟩) 1 1 ∧ u.ownsRow (w1.heap.size + 1) 100 7 (.slice (some ⟨g, 0, none⟩) 1 1) 1 (cellsOp [(J, .slice ax J.data.length cx)]) ∧ u.ownsRow wr.heap.size 196 4 (.slice ax J.data.length cx) J.data.length (cellsD J.data)) (vs 13) u := hf.2.2.2.2.2.2.2.2.2.2.2.2.2.1
            clear hf
            simp only [putsA, List.foldl_cons, List.foldl_nil, Act.put, List.setIfInBounds_toArray, List.set_cons_zero, List.set_cons_succ]
            generalize vs 0 = v0 at f0 ⊢
            generalize vs 1 = v1 at f1 ⊢
            generalize vs 2 = v2 at f2 ⊢
            generalize vs 3 = v3 at f3 ⊢
            generalize vs 4 = v4 at f4 ⊢
            generalize vs 5 = v5 at f5 ⊢
            generalize vs 6 = v6 at f6 ⊢
            generalize vs 7 = v7 at f7 ⊢
            generalize vs 8 = v8 at f8 ⊢
            generalize vs 9 = v9 at f9 ⊢
            generalize vs 10 = v10 at f10 ⊢
            generalize vs 11 = v11 at f11 ⊢
            generalize vs 12 = v12 at f12 ⊢
            generalize vs 13 = v13 at f13 ⊢
            rw [if_pos (by rfl)]
            obtain ⟨g, ax, cx, rfl, orow, odat⟩ := f13
            clear f0 f1 f2 f3 f4 f5 f6 f7 f8 f9 f10 f11 f12
            have HBU : Hid (Below wr.heap.size wr u) := HBu2.out u hB
            have hus : w1.heap.size + 1 ≤ u.heap.size := by have := HBU.out.size; omega
            have HOr : Hid (u.ownsRow (w1.heap.size + 1) 100 7 (.slice (some ⟨g, 0, none⟩) 1 1) 1 (cellsOp [(J, .slice ax J.data.length cx)])) := orow
            have HOd : Hid (u.ownsRow wr.heap.size 196 4 (.slice ax J.data.length cx) J.data.length (cellsD J.data)) := odat
            clear orow odat HJn HE7 HE8 HXc HKr
            go_simp
            refine (put_any 2 M [(J, .slice ax J.data.length cx)] Q (w1.heap.size + 1) w1.heap.size g u (by omega) (by simp) (by simp) (by omega) (by omega) (by omega) hus (HRb.out _ HBU.out).1 (HRb.out _ HBU.out).2 HOr.out (fun i h => by
              match i, h with
              | 0, _ => exact own_base HOd.out (by omega)
              | _ + 1, h => exact absurd h (by simp)) (cellsOp_one' _ (fun x hx => by simp at hx; subst hx; rfl))).mono ?_
            rintro e w4 ⟨rfl, hR4, hF4, b4⟩
            refine hK.out _ _ ?_
            obtain ⟨M', Q', hn1, hn2, hq1, hq2⟩ := HEnd.out [(J, .slice ax J.data.length cx)] 2 u w4 (by omega) HSt.out HBU.out hR4 hF4 b4 (apartO_one _) (fun k hk g hg => by
              match k, hk, hg with
              | 0, _, hg => exact (HOd.out.lt g hg).1
              | _ + 1, hk, _ => exact absurd hk (by simp))
            have HN1 : Hid (UbS W (w1.heap.size + 1) w1.heap.size M' Q' w4) := hn1
            have HN2 : Hid ((runF tb b.ops (m + 1)).1 = M'.map Prod.fst ∧ (runF tb b.ops (m + 1)).2 = Q') := hn2
            obtain ⟨-, ⟨ap, cq, kq, -⟩⟩ := hn1.rbat
            clear hn1 hn2 hR4 hF4 b4 HEnd HRb hK
            go_wp2
            exact ⟨⟨m + 1, M', Q', hq1, by go_num, HN1.out, HN2.out⟩, by simp [RowKit.intOf]; omega⟩
    · have hje : Q.length = b.ops.length := by omega
      have hrn : runF tb b.ops m = runF tb b.ops b.ops.length := runF_end m (by rw [HU.out.2]; omega)
      have HTg : Hid (∀ x ∈ M, hasT x.1 = true → 0 ≤ tgtO x.1 ∧ tgtO x.1 < (Q.length : Int)) := fun x hx hh => by
        have h1 := hib.ops x.1 (by rw [HU.out.1]; exact List.mem_map.2 ⟨x, hx, rfl⟩)
        have := h1.2.1 hh
        omega
      have HBk : Hid (Calls Tryz.prog 90 #[.pointer (some ⟨w1.heap.size, 0, none⟩), .int .i64 b.args] wr fun e w' => ∃ v', e = .returned (.agg #[.int .i64 b.args, v']) ∧ OV w' (w1.heap.size + 1) v' (turnP Q M) ∧ (∀ b, v'.ownBlock = some b → wr.heap.size ≤ b) ∧ Below wr.heap.size wr w') := block_any M Q b.args (w1.heap.size + 1) w1.heap.size wr (by omega) (by omega) HS.out.rbat (by omega) HTg.out
      have HE : Hid ((turnP Q M).map Prod.fst = fuseO tb b.ops) := by
        show _ = _
        rw [turnP_fst]
        show _ = ((runF tb b.ops b.ops.length).1).map (turnO (runF tb b.ops b.ops.length).2)
        rw [← hrn, HU.out.1, HU.out.2]
      have HA : Hid (apartO (turnP Q M)) := apartO_turn HS.out.ap
      have HKu : Hid (∀ u, Below wr.heap.size wr u → u.cell? ⟨w.heap.size + 1, 0, none⟩ = some (.int .i64 0) ∧ u.cell? ⟨w.heap.size + 1, 1, none⟩ = some (.slice none 0 0) ∧ (∀ j, u.frozen? ⟨w.heap.size + 1, j, none⟩ = false)) := fun u hu => by
        obtain ⟨-, -, q1, q2, qf⟩ := HK.out wr (HB0u.out _ HS.out.below)
        exact ⟨cell_keep hu q1, cell_keep hu q2, fun j => by rw [(bcell hu).2 _ _ (by omega)]; exact qf j⟩
      clear hib HTg hje hrn HI HCn
      go_wp2_with fail
      refine HBk.out.mono ?_
      rintro e w2 ⟨v', rfl, ov, -, b2⟩
      obtain ⟨a2, c2, rfl⟩ := own_form ov.row
      have HO2 : Hid (OV w2 (w1.heap.size + 1) (.slice a2 (turnP Q M).length c2) (turnP Q M)) := ov
      obtain ⟨q1, q2, qf⟩ := HKu.out w2 b2
      have HB2 : Hid (Below w.heap.size w w2) := HBw.out.trans (b2.mono HBw.out.size)
      obtain ⟨mm, hm⟩ : ∃ mm, mm = (turnP Q M).length := ⟨_, rfl⟩
      rw [← hm] at HO2 ⊢
      clear ov b2 hm HKu HBk k0 k1
      go_wp2
      refine bodyPost_ret (v := .agg #[.int .i64 b.args, .slice a2 mm c2]) (by simp [results, Tryz.results56, go_sem, q1, q2]) rfl ⟨_, _, rfl, ?_, HE.out, HA.out, ?_⟩
      · exact ((HO2.out.setLow (by omega)).setLow (by omega)).base (by omega)
      · repeat (first | refine Below.setCell ?_ (by simp) _ | exact HB2.out)
theorem implFc_any (g cap B : Nat) (l : List Blk) (ok : Bool) (tb : Int) (w : World) (hl : l.length ≤ 1048576) (hz : ∀ (k : Nat) (h : k < l.length), l[k].small) (hB : RowBl w B g l) (hL : LT w) (hF : FU w) (hok : OkR l ok) :
    Calls Tryz.prog 19 #[.slice (some ⟨g, 0, none⟩) l.length cap, .int .i64 tb] w fun e w' => AnsI (codeFu ok tb l) (blksFu ok tb l) w e w' :=
  implFc_of g cap B l ok tb w hl hz hB hL hF hok (fun h1 h2 b gk u hb hO hFu hLu => fuseBlock_any tb b gk u h1 h2 hb B hO hFu hLu)
end Go.Proofs.YtoafolefecddmaaGreatDoor
