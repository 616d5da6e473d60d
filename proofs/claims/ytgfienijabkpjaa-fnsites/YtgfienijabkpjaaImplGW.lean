/-
  The program's globalsWith: globals and a name that have no fault; nothing that was there is turned.
-/
import Derived.Test.YtgfienijabkpjaaImplG
import Derived.Test.YtgfienijabkpjaaSpecLG
namespace Go.Proofs.Ytgfienijabkpjaa
open Go.RowKit Go.Extern.Stop Go.Stop Go.Extern Num Go.Lib

/-- What globalsWith answers. -/
def AnsGw (w : World) (l : List Glb) (s : ByteArray) (c : Int) (e : Ending) (w' : World) : Prop :=
  ∃ (C : Array Value) (x : Wd), e = .returned (.tuple #[.agg C, x.val, .int .i64 c]) ∧ C.size = 301 ∧ C.all (·.oneCell') = true ∧ (c = 0 → x = nW s ∧ ∃ b, w.heap.size ≤ b ∧ GlC C.toList b (l.map rwOf) ∧ MapW w' b ((l.map rwOf).map Rw.name) ∧ ((l.map rwOf).map Rw.name).Nodup) ∧ Below w.heap.size w w'
theorem results_cct {fn : Func} {p q u : Tmp} {ty ty2 : TypeId} (h : fn.results = #[.cell p ty, .cell q ty2, .tmp u]) (tmps : Array Value) (P : Program) (w : World) :
    (results fn tmps).run P w =
      ((asAddr (tmps.getD p undef)).run P w).andThen fun a w₁ => ((loadVar ty a).run P w₁).andThen fun v w₂ => ((asAddr (tmps.getD q undef)).run P w₂).andThen fun a2 w₃ => ((loadVar ty2 a2).run P w₃).andThen fun v2 w₄ => .ok (.tuple #[v, v2, tmps.getD u undef]) w₄ := by
  simp only [results, h]
  simp [Sem.run_bind, Result.andThen]
theorem infoWd : (Try.prog.info? 74).map (·.size) = some 2 := by kernel_rfl
/-- A word put into a block, and read. -/
theorem ldWd (W : World) (B : Nat) (x : Wd) (h0 : W.cell? ⟨B, 0, none⟩ = some (.int .u8 x.tag)) (h1 : W.cell? ⟨B, 1, none⟩ = some (.int .u64 x.rest)) : (loadVar 74 ⟨B, 0, none⟩).run Try.prog W = .ok x.val W := by
  have h := run_loadVar_mid (P := Try.prog) W B 0 74 [.int .u8 x.tag, .int .u64 x.rest] _ (fun j v hv => by
    match j, hv with
    | 0, hv => simp at hv; subst hv; simpa using h0
    | 1, hv => simp at hv; subst hv; simpa using h1) Try.underlying74 rfl (by rw [infoWd]; rfl)
  exact h
theorem cell_setCells {b b' : Nat} (h : b' ≠ b) (vs : List Value) (o o' : Nat) (w : World) : (w.setCells b o vs).cell? ⟨b', o', none⟩ = w.cell? ⟨b', o', none⟩ := by
  have e := heap_setCells h vs o w
  unfold World.cell?
  simp only [e]
theorem range_other {w : World} {h b o : Nat} {C : List Value} {v : Value} (H : w.rangeAt h 0 C) (hb : h ≠ b) : (w.setCell ⟨b, o, none⟩ v).rangeAt h 0 C := fun j u hu => by
  rw [World.cell?_setCell_other _ _ _ _ (by simp)]; exact H j u hu
set_option maxRecDepth 100000 in
set_option maxHeartbeats 4000000 in
theorem globalsWith_any (ao : Option Addr) (cap g : Nat) (l : List Glb) (s : ByteArray) (w : World) (hl : l.length ≤ 1048576) (hao : 0 < l.length → ao = some ⟨g, 0, none⟩) (hr : RowG w g l) (hz : ableG l) (hs : s.size ≤ 9223372036854775807) :
    Calls Try.prog 45 #[.slice ao l.length cap, .string s] w fun e w' => AnsGw w l s (askG l s) e w' := by
  obtain ⟨R, hR⟩ : ∃ R, R = askG l s := ⟨_, rfl⟩
  obtain ⟨c, hc⟩ : ∃ c, c = globFault l := ⟨_, rfl⟩
  obtain ⟨d, hd⟩ : ∃ d, d = symC s := ⟨_, rfl⟩
  obtain ⟨x, hx⟩ : ∃ x, x = nW s := ⟨_, rfl⟩
  have HC : Hid (∀ u, Below w.heap.size w u → Calls Try.prog 48 #[.slice ao l.length cap] u fun e w' => AnsGl u l c e w') := fun u hu => by rw [hc]; exact globalsOf_any ao cap g l u hl hao (hr.below hu) hz
  have HS : Hid (∀ u, Calls Try.prog 74 #[.string s] u fun e w' => e = .returned (.tuple #[x.val, .int .i64 d]) ∧ Below u.heap.size u w') := fun u => by rw [hx, hd]; exact symOf_any s u hs
  have HR : Hid (R = if c ≠ 0 then c else d) := by show R = _; rw [hR, hc, hd]; rfl
  have HX : Hid (x = nW s) := hx
  rw [← hR]
  clear hR hc hd hx hl hao hr hz hs
  have hbz := buildZ
  obtain ⟨W, hW⟩ : ∃ W, W = (w.alloc (.cells Try.zeroCells79 79)).alloc (.cells #[.int .u8 0, .int .u64 0] 74) := ⟨_, rfl⟩
  have HBW : Hid (Below w.heap.size w W) := by rw [hW]; exact ((Below.refl _ _).alloc (Nat.le_refl _) _).alloc (by simp) _
  have HT0 : Hid (W.there w.heap.size 0 301) := by rw [hW]; exact World.there_alloc (there_new w _ _ (by simp)) _
  have HQ0 : Hid (W.cell? ⟨w.heap.size + 1, 0, none⟩ = some (.int .u8 0) ∧ W.cell? ⟨w.heap.size + 1, 1, none⟩ = some (.int .u64 0) ∧ ∀ o, W.frozen? ⟨w.heap.size + 1, o, none⟩ = false) := by
    rw [hW]
    exact ⟨by rw [World.cell?_alloc_at _ _ _ _ (by simp)]; rfl, by rw [World.cell?_alloc_at _ _ _ _ (by simp)]; rfl, fun o => by rw [World.frozen?_alloc_at _ _ _ _ (by simp)]⟩
  have zW : W.heap.size = w.heap.size + 2 := by rw [hW]; simp
  have HWe : Hid (W = (w.alloc (.cells Try.zeroCells79 79)).alloc (.cells #[.int .u8 0, .int .u64 0] 74)) := hW
  clear hW
  go_enter Try.func45, Try.ntmps45
  go_wp2_with fail
  rw [← HWe.out]
  refine (HC.out _ HBW.out).mono ?_
  rintro e w1 ⟨C, rfl, hCs, hCa, hC0, hb1⟩
  have HC0 : Hid (c = 0 → ∃ b, W.heap.size ≤ b ∧ GlC C.toList b (l.map rwOf) ∧ MapW w1 b ((l.map rwOf).map Rw.name) ∧ ((l.map rwOf).map Rw.name).Nodup) := hC0
  have HCa : Hid (C.all (·.oneCell') = true) := hCa
  have HB1 : Hid (Below W.heap.size W w1) := hb1
  have z1 : w.heap.size + 1 < w1.heap.size := by have := hb1.size; omega
  obtain ⟨U, hU⟩ : ∃ U, U = (w1.alloc (.cells Try.zeroCells79 79)).setCells w1.heap.size 0 C.toList := ⟨_, rfl⟩
  have HU : Hid (U = (w1.alloc (.cells Try.zeroCells79 79)).setCells w1.heap.size 0 C.toList) := hU
  have HT1 : Hid ((w1.alloc (.cells Try.zeroCells79 79)).there w1.heap.size 0 C.size) := by rw [hCs]; exact there_new w1 _ _ (by simp)
  have HBU : Hid (Below w1.heap.size w1 U) := by rw [hU]; exact below_setCells ((Below.refl _ _).alloc (Nat.le_refl _) _) (Nat.le_refl _) _ _
  have HRU : Hid (U.rangeAt w1.heap.size 0 C.toList) := by rw [hU]; exact World.rangeAt_setCells_same _ _ _ _ (by rw [Array.length_toList]; exact HT1.out)
  have HBW1 : Hid (Below W.heap.size W U) := HB1.out.trans (HBU.out.mono HB1.out.size)
  have zU : w1.heap.size < U.heap.size := range_lt HRU.out (by rw [Array.length_toList, hCs]; omega)
  clear hU hCa hb1 hC0
  by_cases h0 : c = 0
  case neg =>
    have HE : Hid (R = c ∧ c ≠ 0) := ⟨by rw [HR.out, if_pos h0], h0⟩
    have h0' : (c != 0) = true := by simpa using h0
    have HTu : Hid (U.there w.heap.size 0 Try.zeroCells79.size) := by rw [show Try.zeroCells79.size = 301 by simp]; exact there_below HT0.out HBW1.out
    have q0 := cell_keep HBW1.out HQ0.out.1
    have q1 := cell_keep HBW1.out HQ0.out.2.1
    have qf : ∀ o, U.frozen? ⟨w.heap.size + 1, o, none⟩ = false := fun o => by rw [(bcell HBW1.out).2 _ _ (by omega)]; exact HQ0.out.2.2 o
    obtain ⟨V, hV⟩ : ∃ V, V = U.setCells w.heap.size 0 Try.zeroCells79.toList := ⟨_, rfl⟩
    have r0 : V.cell? ⟨w.heap.size + 1, 0, none⟩ = some (.int .u8 0) := by rw [hV, cell_setCells (by omega)]; exact q0
    have r1 : V.cell? ⟨w.heap.size + 1, 1, none⟩ = some (.int .u64 0) := by rw [hV, cell_setCells (by omega)]; exact q1
    have rf : ∀ o, V.frozen? ⟨w.heap.size + 1, o, none⟩ = false := fun o => by rw [hV, World.frozen?_setCells]; exact qf o
    have HVr : Hid (V.rangeAt w.heap.size 0 Try.zeroCells79.toList) := by rw [hV]; exact World.rangeAt_setCells_same _ _ _ _ (by rw [Array.length_toList]; exact HTu.out)
    have HVb : Hid (Below w.heap.size w V) := by rw [hV]; exact below_setCells (HBW.out.trans (HBW1.out.mono HBW.out.size)) (Nat.le_refl _) _ _
    have HV : Hid (V = U.setCells w.heap.size 0 Try.zeroCells79.toList) := hV
    clear HR h0 hV q0 q1 qf
    go_wp2_with (first | (refine wpList_store_mid rfl 79 _ _ rfl w1.heap.size 0 C rfl rfl HT1.out (by rw [infoGl, hCs]) HCa.out ?_; rw [← HU.out]) | (refine wpList_store_mid rfl 79 _ _ rfl w.heap.size 0 Try.zeroCells79 rfl rfl HTu.out (by rw [infoGl]; simp) zc_all ?_; rw [← HV.out]))
    refine bodyPost_ret (v := .tuple #[.agg Try.zeroCells79, Wd.val ⟨0, 0⟩, .int .i64 c]) ?_ rfl ⟨Try.zeroCells79, ⟨0, 0⟩, by rw [HE.out.1], by simp, zc_all, fun e => absurd (HE.out.1 ▸ e) HE.out.2, ?_⟩
    · rw [results_cct rfl]
      simp only [Array.getD_eq_getD_getElem?, List.getElem?_toArray, List.getElem?_cons_succ, List.getElem?_cons_zero, Option.getD_some, asAddr, Sem.run_pure, Result.andThen_ok]
      rw [loadGl _ _ Try.zeroCells79.toList zc_len (range_other (range_other HVr.out (by omega)) (by omega))]
      simp only [Result.andThen_ok, Array.toArray_toList]
      rw [ldWd _ _ ⟨0, 0⟩ (by rw [World.cell?_setCell_other _ _ _ _ (by simp), World.cell?_setCell_same _ _ _ r0]) (by rw [World.cell?_setCell_same _ _ _ (by rw [World.cell?_setCell_other _ _ _ _ (by simp)]; exact r1)])]
      rfl
    · exact (HVb.out.setCell (by simp) _).setCell (by simp) _
  subst h0
  go_wp2_with (first | (refine wpList_store_mid rfl 79 _ _ rfl w1.heap.size 0 C rfl rfl HT1.out (by rw [infoGl, hCs]) HCa.out ?_; rw [← HU.out]) | (go_at_call 74; refine (HS.out _).mono ?_; rintro e w2 ⟨rfl, hb2⟩; have HB2 : Hid (Below U.heap.size U w2) := hb2; clear hb2))
  obtain ⟨X, hX⟩ : ∃ X, X = w2.alloc (.cells #[.int .u8 x.tag, .int .u64 x.rest] 74) := ⟨_, rfl⟩
  rw [← hX]
  obtain ⟨Y, hY⟩ : ∃ Y, Y = X.drew := ⟨_, rfl⟩
  have HBX : Hid (Below U.heap.size U Y) := by rw [hY, hX]; exact (HB2.out.alloc HB2.out.size _).drew
  have HBX0 : Hid (Below W.heap.size W Y) := HBW1.out.trans (HBX.out.mono HBW1.out.size)
  have zX : U.heap.size ≤ w2.heap.size := HB2.out.size
  have HS0 : Hid (Y.rangeAt w1.heap.size 0 C.toList ∧ Y.cell? ⟨w2.heap.size, 0, none⟩ = some (.int .u8 x.tag) ∧ Y.cell? ⟨w2.heap.size, 1, none⟩ = some (.int .u64 x.rest)) :=
    ⟨range_below HRU.out HBX.out, by rw [hY, World.cell?_drew, hX, World.cell?_alloc_at _ _ _ _ rfl]; rfl, by rw [hY, World.cell?_drew, hX, World.cell?_alloc_at _ _ _ _ rfl]; rfl⟩
  have HTX : Hid (Y.there w.heap.size 0 C.size) := by rw [hCs]; exact there_below HT0.out HBX0.out
  have HQX : Hid (Y.cell? ⟨w.heap.size + 1, 0, none⟩ = some (.int .u8 0) ∧ Y.cell? ⟨w.heap.size + 1, 1, none⟩ = some (.int .u64 0) ∧ ∀ o, Y.frozen? ⟨w.heap.size + 1, o, none⟩ = false) := ⟨cell_keep HBX0.out HQ0.out.1, cell_keep HBX0.out HQ0.out.2.1, fun o => by rw [(bcell HBX0.out).2 _ _ (by omega)]; exact HQ0.out.2.2 o⟩
  clear hX
  have hCl : C.toList.length = 301 := by rw [Array.length_toList, hCs]
  refine wp_region_held (S := fun u => u.rangeAt w1.heap.size 0 C.toList ∧ u.cell? ⟨w2.heap.size, 0, none⟩ = some (.int .u8 x.tag) ∧ u.cell? ⟨w2.heap.size, 1, none⟩ = some (.int .u64 x.rest)) (by kernel_rfl) ?_
  rw [show ({ X with drawn := X.drawn + 1 } : World) = Y from hY.symm]
  clear hY
  refine wpAnyH_take (i := 0) (v := .agg C) (by rfl) (by kernel_rfl) (by kernel_rfl) (by kernel_rfl) (by intro _ _ _ h; exact h) (yieldsIf_load_mid (by rfl) 79 _ rfl w1.heap.size 0 rfl C.toList _ (fun u hu => hu.1) Try.underlying79 rfl (by rw [infoGl, hCl])) HS0.out ?_
  try simp only [Act.put]
  try simp only [List.setIfInBounds_toArray]
  try simp only [List.set_cons_zero, List.set_cons_succ]
  refine wpAnyH_take (i := 1) (v := x.val) (by rfl) (by kernel_rfl) (by kernel_rfl) (by kernel_rfl) (by intro _ _ _ h; exact h) (yieldsIf_load_mid (by rfl) 74 _ rfl w2.heap.size 0 rfl [.int .u8 x.tag, .int .u64 x.rest] _ (fun u hu j v hv => by
    match j, hv with
    | 0, hv => simp at hv; subst hv; simpa using hu.2.1
    | 1, hv => simp at hv; subst hv; simpa using hu.2.2) Try.underlying74 rfl (by rw [infoWd]; rfl)) HS0.out ?_
  try simp only [Act.put]
  try simp only [List.setIfInBounds_toArray]
  try simp only [List.set_cons_zero, List.set_cons_succ]
  refine wpAnyH_take (i := 2) (v := .int .i64 d) (by rfl) (by kernel_rfl) (by kernel_rfl) (by kernel_rfl) (by intro _ _ _ h; exact h) (Or.inl ⟨by rfl, fun u hu => by go_simp⟩) HS0.out ?_
  try simp only [Act.put]
  try simp only [List.setIfInBounds_toArray]
  try simp only [List.set_cons_zero, List.set_cons_succ]
  refine wpAnyH_all (rs := [3]) (by kernel_rfl) (by simp) ?_
  intro i hi
  obtain rfl : i = 3 := by simpa using hi
  refine wpOp_step (by rfl) (fun K' hK => ?_)
  rw [if_pos (by rfl)]
  refine wp_store_mid 79 _ _ rfl w.heap.size 0 C rfl rfl HTX.out (by rw [infoGl, hCs]) HCa.out ?_
  obtain ⟨Z, hZ⟩ : ∃ Z, Z = Y.setCells w.heap.size 0 C.toList := ⟨_, rfl⟩
  have HSZ : Hid (Z.rangeAt w1.heap.size 0 C.toList ∧ Z.cell? ⟨w2.heap.size, 0, none⟩ = some (.int .u8 x.tag) ∧ Z.cell? ⟨w2.heap.size, 1, none⟩ = some (.int .u64 x.rest)) := by
    rw [hZ]
    exact ⟨World.rangeAt_setCells_apart HS0.out.1 _ _ _ (Or.inl (by omega)), by rw [cell_setCells (by omega)]; exact HS0.out.2.1, by rw [cell_setCells (by omega)]; exact HS0.out.2.2⟩
  have HTZ : Hid (Z.there (w.heap.size + 1) 0 2) := fun j hj => by
    rw [hZ, cell_setCells (by omega), World.frozen?_setCells, Nat.zero_add]
    refine ⟨?_, HQX.out.2.2 j⟩
    rcases (by omega : j = 0 ∨ j = 1) with rfl | rfl
    · rw [HQX.out.1]; rfl
    · rw [HQX.out.2.1]; rfl
  have HRZ : Hid (Z.rangeAt w.heap.size 0 C.toList) := by rw [hZ]; exact World.rangeAt_setCells_same _ _ _ _ (by rw [Array.length_toList]; exact HTX.out)
  have HBZ : Hid (Below w.heap.size w Z) := by rw [hZ]; exact below_setCells (HBW.out.trans (HBX0.out.mono HBW.out.size)) (Nat.le_refl _) _ _
  have HMZ : Hid (∀ b, w.heap.size + 2 ≤ b → b < w1.heap.size → Z.heap[b]? = w1.heap[b]?) := fun b h1 h2 => by
    rw [hZ, heap_setCells (by omega), HBX.out.block b (by omega), HBU.out.block b h2]
  rw [← hZ]
  refine hK _ _ ⟨HSZ.out, ?_⟩
  clear hK hZ
  refine wpAnyH_all (rs := [4]) (by kernel_rfl) (by simp) ?_
  intro i hi
  obtain rfl : i = 4 := by simpa using hi
  refine wpOp_step (by rfl) (fun K' hK => ?_)
  rw [if_pos (by rfl)]
  refine wp_store_mid 74 _ _ rfl (w.heap.size + 1) 0 #[.int .u8 x.tag, .int .u64 x.rest] rfl rfl HTZ.out (by rw [infoWd]; rfl) (all_oneCell_toArray (cs := [.int .u8 x.tag, .int .u64 x.rest]) (fun v hv => by simp at hv; rcases hv with rfl | rfl <;> rfl)) ?_
  obtain ⟨T, hT⟩ : ∃ T, T = Z.setCells (w.heap.size + 1) 0 #[.int .u8 x.tag, .int .u64 x.rest].toList := ⟨_, rfl⟩
  have HST : Hid (T.rangeAt w1.heap.size 0 C.toList ∧ T.cell? ⟨w2.heap.size, 0, none⟩ = some (.int .u8 x.tag) ∧ T.cell? ⟨w2.heap.size, 1, none⟩ = some (.int .u64 x.rest)) := by
    rw [hT]
    exact ⟨World.rangeAt_setCells_apart HSZ.out.1 _ _ _ (Or.inl (by omega)), by rw [cell_setCells (by omega)]; exact HSZ.out.2.1, by rw [cell_setCells (by omega)]; exact HSZ.out.2.2⟩
  have HRT : Hid (T.rangeAt w.heap.size 0 C.toList) := by rw [hT]; exact World.rangeAt_setCells_apart HRZ.out _ _ _ (Or.inl (by omega))
  have HRX : Hid (T.rangeAt (w.heap.size + 1) 0 [.int .u8 x.tag, .int .u64 x.rest]) := by rw [hT]; exact World.rangeAt_setCells_same _ _ _ _ HTZ.out
  have HBT : Hid (Below w.heap.size w T) := by rw [hT]; exact below_setCells HBZ.out (by omega) _ _
  have HMT : Hid (∀ b, w.heap.size + 2 ≤ b → b < w1.heap.size → T.heap[b]? = w1.heap[b]?) := fun b h1 h2 => by
    rw [hT, heap_setCells (by omega)]; exact HMZ.out b h1 h2
  rw [← hT]
  refine hK _ _ ⟨HST.out, ?_⟩
  clear hK hT
  refine wpAnyH_all (rs := [5]) (by kernel_rfl) (by simp) ?_
  intro i hi
  obtain rfl : i = 5 := by simpa using hi
  refine wpOp_step (by rfl) (fun K' hK => ?_)
  rw [if_pos (by rfl)]
  replace hK : Shut (∀ a w, _ → K' a w) := hK
  go_simp
  refine hK.out _ _ ⟨HST.out, ?_⟩
  clear hK
  refine wpAnyH_done (by kernel_rfl) ?_ _
  go_wp2
  refine bodyPost_ret (v := .tuple #[.agg C, x.val, .int .i64 d]) ?_ rfl ⟨C, x, by rw [HR.out]; rfl, hCs, HCa.out, fun _ => ⟨HX.out, ?_⟩, HBT.out⟩
  · rw [results_cct rfl]
    simp only [Array.getD_eq_getD_getElem?, List.getElem?_toArray, List.getElem?_cons_succ, List.getElem?_cons_zero, Option.getD_some, asAddr, Sem.run_pure, Result.andThen_ok]
    rw [loadGl _ _ C.toList hCl HRT.out]
    simp only [Result.andThen_ok, Array.toArray_toList]
    rw [ldWd _ _ x (HRX.out 0 _ rfl) (HRX.out 1 _ rfl)]
    rfl
  · obtain ⟨b, h1, h2, h3, h4⟩ := HC0.out trivial
    exact ⟨b, by omega, h2, h3.keep (HMT.out b (by omega) h3.lt), h4⟩
end Go.Proofs.Ytgfienijabkpjaa
