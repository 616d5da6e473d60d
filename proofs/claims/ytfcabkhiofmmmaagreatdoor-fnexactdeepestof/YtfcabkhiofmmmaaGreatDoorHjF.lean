/-
  Parts of the proof laid into one text, one behind the other; each says at its head what is proved in it.
-/
import Derived.Test.YtfcabkhiofmmmaaGreatDoorHjD
import Derived.Test.YtfcabkhiofmmmaaGreatDoorHjE
import Derived.Test.YtfcabkhiofmmmaaGreatDoorTiC
/-
  The model's DeepestOf: the greatest height of all; nothing that was there is turned.
-/
namespace Go.Proofs.YtfcabkhiofmmmaaGreatDoor
open Go.RowKit Go.Extern.Stop Go.Stop Go.Extern Num Go.Lib

theorem hgt_top {l : List Opr} (hb : ∀ t ∈ l, OpBnd t) : ∀ (n : Nat) (H : List Int), openN H = n → HInv l H → H[0]? = some 0 → NoH l ∨ ∃ H', IsHgt l H' ∧ HInv l H' := by
  intro n
  induction n using Nat.strongRecOn with
  | _ n ih =>
    intro H hn hi h0
    by_cases hc : ∀ j, j < l.length → ClosedAt l H j
    · exact .inr ⟨H, hgt_closed hi h0 hc, hi⟩
    · obtain ⟨j, hj⟩ := Classical.not_forall.1 hc
      obtain ⟨hjl, hj⟩ := Classical.not_imp.1 hj
      unfold ClosedAt at hj
      obtain ⟨t, hj⟩ := Classical.not_forall.1 hj
      obtain ⟨g, hj⟩ := Classical.not_forall.1 hj
      obtain ⟨ht, hj⟩ := Classical.not_imp.1 hj
      obtain ⟨hg, hj⟩ := Classical.not_imp.1 hj
      obtain ⟨hp, hj⟩ := Classical.not_imp.1 hj
      have hr : Rch l j g := by
        rcases hi.only j g hg with e | e
        · omega
        · exact e.2
      have hbt := hb t (List.mem_of_getElem? ht)
      cases hok : okO t g
      · exact .inl (noH_bad hr ht hok)
      · have hj2 : ¬ ∀ i h, Lead l j g i h → H[i]? = some h := fun hx => hj ⟨hok, hx⟩
        obtain ⟨i, hj2⟩ := Classical.not_forall.1 hj2
        obtain ⟨h, hj2⟩ := Classical.not_forall.1 hj2
        obtain ⟨hl, hne⟩ := Classical.not_imp.1 hj2
        have hri := hr.lead hl
        obtain ⟨t2, ht2, he, hw⟩ := hl
        rw [ht] at ht2
        obtain rfl := Option.some.inj ht2
        have hlv : leavesO t = false := by
          rcases hw with ⟨h1, _⟩ | ⟨h1, _⟩
          · unfold endsO at h1; simp only [Bool.or_eq_false_iff] at h1; exact h1.2
          · exact hasT_leaves h1
        have hpos : 0 ≤ h := by rw [he]; exact next_pos hlv hok
        have htop : h ≤ 2 * ((l.length : Int) - (openN H : Int)) + 2 := by
          have := hi.top j g hg
          have := next_le hbt.take.1 g
          omega
        obtain ⟨a, b, H', e⟩ : ∃ a b H', leadF H (i : Int) h = (a, b, H') := ⟨_, _, _, rfl⟩
        have s := lead_step hi hri hpos htop e
        cases b
        · exact .inl (s.1 rfl)
        · obtain ⟨s1, s2, s3, s4, s5⟩ := s.2 rfl
          cases a
          · rw [s3 rfl] at s2; exact absurd s2 hne
          · have := s4 rfl
            exact ih (openN H') (by omega) H' rfl s1 (s5 0 0 h0 (by omega))
theorem IsHgt.top {l : List Opr} {H : List Int} (h : IsHgt l H) (hb : ∀ t ∈ l, OpBnd t) (hl : l.length ≤ 200) : ∀ (i : Nat) (x : Int), H[i]? = some x → -1 ≤ x ∧ x ≤ 400 := by
  have hl1 : 1 ≤ l.length := by
    rcases Nat.eq_zero_or_pos l.length with e | e
    · have hn : NoH l := by rw [List.length_eq_zero_iff.1 e]; exact noH_nil
      exact absurd ⟨H, h⟩ hn
    · exact e
  rcases hgt_top hb _ (hi0 l.length) rfl (hi0_inv hl1) (by simp [hi0]) with hn | ⟨H', h1, h2⟩
  · exact absurd ⟨H, h⟩ hn
  · intro i x hx
    rw [h.uniq h1] at hx
    have := h2.top i x hx
    rcases h2.only i x hx with e | e <;> omega
theorem hrel_of {b : Blk} {H : List Int} (h0 : blkFault b = 0) (h : Holds b.ops H) : HRel b 0 H := .inr (.inl ⟨h0, rfl, h.1, h.2⟩)
theorem codeF_ok {ok : Bool} {l : List Blk} (h : codeF ok l = 0) : ok = true ∧ codeFault9 l = 0 := by
  unfold codeF at h
  by_cases e : codeFault9 l = 0
  · rw [if_pos e] at h
    cases hh : headF l
    · rw [hh] at h
      cases ok
      · simp at h
      · exact ⟨rfl, e⟩
    · rw [hh] at h; simp at h
  · rw [if_neg e] at h; exact absurd h e
theorem l1Max_any (x y : Int) (w : World) : Calls Tryz.prog 61 #[.int .i64 x, .int .i64 y] w fun e w' => e = .returned (.int .i64 (max x y)) ∧ Below w.heap.size w w' := by
  by_cases h : y < x
  · have HM : Hid (max x y = x) := by show _ = _; omega
    go_enter Tryz.func61, Tryz.ntmps61
    go_wp2
    go_ret
    exact ⟨by rw [HM.out]; rfl, Below.refl _ _⟩
  · have HM : Hid (max x y = y) := by show _ = _; omega
    go_enter Tryz.func61, Tryz.ntmps61
    go_wp2
    go_ret
    exact ⟨by rw [HM.out]; rfl, Below.refl _ _⟩
/-- What DeepestOf tells. -/
def deepV (ok : Bool) (l : List Blk) (Hs : List (List Int)) : Int := if codeF ok l ≠ 0 then 0 else deepL l Hs l.length
theorem deepTo_le {l : List Opr} {H : List Int} (hb : ∀ t ∈ l, OpBnd t) (ht : ∀ (i : Nat) (x : Int), H[i]? = some x → -1 ≤ x ∧ x ≤ 400) (hn : H.length = l.length) : ∀ k, k ≤ l.length → deepTo l H k ≤ 402
  | 0, _ => by simp [deepTo]
  | k + 1, hk => by
    have h1 := deepTo_le hb ht hn k (by omega)
    have hk' : k < l.length := by omega
    have e1 : l.getD k ⟨0, 0, 0, 0, 0, ByteArray.empty, []⟩ = l[k] := by simp [hk']
    have e2 : H[k]? = some (H.getD k 0) := by simp [show k < H.length by omega]
    have h2 := ht k _ e2
    have h3 := next_le (hb l[k] (List.getElem_mem hk')).take.1 (H.getD k 0)
    simp only [deepTo, e1]
    unfold deepO
    split <;> omega
theorem deepL_le {l : List Blk} {Hs : List (List Int)} (h : ∀ k, k < l.length → deepTo (l.getD k ⟨0, []⟩).ops (Hs.getD k []) (l.getD k ⟨0, []⟩).ops.length ≤ 402) : ∀ k, k ≤ l.length → deepL l Hs k ≤ 402
  | 0, _ => by simp [deepL]
  | k + 1, hk => by
    have h1 := deepL_le h k (by omega)
    have h2 := h k (by omega)
    simp only [deepL]
    omega
set_option maxRecDepth 100000 in
set_option maxHeartbeats 4000000 in
theorem specDp_any (g cap B : Nat) (l : List Blk) (ok : Bool) (Hs : List (List Int)) (w : World) (hl : l.length ≤ 1048576) (hz : ∀ (k : Nat) (h : k < l.length), l[k].small) (hB : RowBl w B g l) (hok : OkR l ok) (hHs : ok = true → AllH l Hs) :
    Calls Tryz.prog 32 #[.slice (some ⟨g, 0, none⟩) l.length cap] w fun e w' => e = .returned (.agg #[.int .i64 (codeF ok l), .int .i64 (deepV ok l Hs)]) ∧ Below w.heap.size w w' := by
  obtain ⟨W, hW⟩ : ∃ W, W = w.alloc (.cells #[.int .i64 0, .int .i64 0] 40) := ⟨_, rfl⟩
  have HW : Hid (W = w.alloc (.cells #[.int .i64 0, .int .i64 0] 40)) := hW
  have hb0 : Below w.heap.size w W := by rw [hW]; exact (Below.refl _ _).alloc (Nat.le_refl _) _
  have r0 : W.cell? ⟨w.heap.size, 0, none⟩ = some (.int .i64 0) := by rw [hW]; simp [go_sem]
  have r1 : W.cell? ⟨w.heap.size, 1, none⟩ = some (.int .i64 0) := by rw [hW]; simp [go_sem]
  have rf : ∀ j, W.frozen? ⟨w.heap.size, j, none⟩ = false := fun j => by rw [hW]; simp [go_sem]
  have rl : w.heap.size < W.heap.size := by rw [hW]; simp
  have HQ : Hid (∀ u, Below W.heap.size W u → u.cell? ⟨w.heap.size, 0, none⟩ = some (.int .i64 0) ∧ u.cell? ⟨w.heap.size, 1, none⟩ = some (.int .i64 0) ∧ (∀ j, u.frozen? ⟨w.heap.size, j, none⟩ = false) ∧ w.heap.size < u.heap.size) := fun u hu => ⟨cell_keep hu r0, cell_keep hu r1, fun j => by rw [(bcell hu).2 _ _ rl]; exact rf j, Nat.lt_of_lt_of_le rl hu.size⟩
  have HB0 : Hid (Below w.heap.size w W) := hb0
  have HB : Hid (RowBl W B g l) := hB.below hb0
  have HZ : Hid (∀ (k : Nat) (h : k < l.length), l[k].small) := hz
  have HF : Hid (Calls Tryz.prog 45 #[.slice (some ⟨g, 0, none⟩) l.length cap] W fun e w' => AnsF ok l W e w') := l10Fault_any g cap B l ok W hl hz (hB.below hb0) hok
  have HMx : Hid (∀ (u : World) (x y : Int), Calls Tryz.prog 61 #[.int .i64 x, .int .i64 y] u fun e w' => e = .returned (.int .i64 (max x y)) ∧ Below u.heap.size u w') := fun u x y => l1Max_any x y u
  obtain ⟨C, hC⟩ : ∃ C, C = codeF ok l := ⟨_, rfl⟩
  obtain ⟨V, hV⟩ : ∃ V, V = deepV ok l Hs := ⟨_, rfl⟩
  rw [← hC, ← hV]
  have HC : Hid (codeF ok l = C) := hC.symm
  have HV : Hid (V = if C ≠ 0 then 0 else deepL l Hs l.length) := by show _ = _; rw [hV, ← HC.out]; rfl
  have HHs : Hid (ok = true → AllH l Hs) := hHs
  clear hC hV hB hz hok hW r0 r1 rf rl hb0 hHs
  go_enter Tryz.func32, Tryz.ntmps32
  go_wp2_with fail
  rw [← HW.out]
  refine HF.out.mono ?_
  rintro e w1 ⟨hcase, b1⟩
  have HB1 : Hid (Below W.heap.size W w1) := b1
  clear b1 HF HW
  rcases hcase with ⟨hn, rfl⟩ | ⟨h0, A, gA, cA, -, rfl, -⟩
  · rw [HC.out]
    rw [HC.out] at hn
    have hcn : (C != 0) = true := by rw [bne_iff_ne]; exact hn
    have HE : Hid (V = 0) := by show _ = _; rw [HV.out, if_pos hn]
    obtain ⟨q0, q1, qf, ql⟩ := HQ.out w1 HB1.out
    have HBw : Hid (Below w.heap.size w w1) := HB0.out.trans (HB1.out.mono HB0.out.size)
    clear hn HQ
    go_wp2
    refine bodyPost_ret (v := .agg #[.int .i64 C, .int .i64 V]) (by rw [HE.out]; simp [results, Tryz.results32, go_sem, q0, q1]) rfl ⟨rfl, ?_⟩
    repeat (first | refine Below.setCell ?_ (by simp) _ | exact HBw.out)
  · obtain ⟨hokt, h9⟩ := codeF_ok h0
    have HAll : Hid (AllH l Hs) := HHs.out hokt
    have HC0 : Hid (C = 0) := by show _ = _; rw [← HC.out]; exact h0
    have HVe : Hid (V = deepL l Hs l.length) := by show _ = _; rw [HV.out, HC0.out]; rfl
    have h60 := (nine_all h9).1
    have HFt : Hid (∀ (k : Nat) (hk : k < l.length), blkFault l[k] = 0) := (nine_all h9).2
    clear hokt h9 h0
    have HTop : Hid (∀ (k : Nat) (hk : k < l.length), ∀ (i : Nat) (x : Int), (Hs.getD k [])[i]? = some x → -1 ≤ x ∧ x ≤ 400) := fun k hk => (HAll.out.at' k hk).2.top (fun t ht => opBnd ((blk_ops (HFt.out k hk)).2.1 t ht)) (blk_ops (HFt.out k hk)).1
    have HDt : Hid (∀ (k : Nat) (hk : k < l.length) (q : Nat), q ≤ l[k].ops.length → deepTo l[k].ops (Hs.getD k []) q ≤ 402) := fun k hk q hq => deepTo_le (fun t ht => opBnd ((blk_ops (HFt.out k hk)).2.1 t ht)) (HTop.out k hk) (HAll.out.at' k hk).2.len q hq
    have HDl : Hid (∀ k, k ≤ l.length → deepL l Hs k ≤ 402) := fun k hk => deepL_le (fun q hq => by
      have e : l.getD q ⟨0, []⟩ = l[q] := by simp [hq]
      rw [e]; exact HDt.out q hq _ (Nat.le_refl _)) k hk
    go_wp2_with fail
    go_loopw [5, 6] (fun v u wr => ∃ (i : Nat) (m : Int), i ≤ l.length ∧ v = .int .i64 m ∧ u = .int .i64 (i : Int) ∧ Hid (m = deepL l Hs i) ∧ Hid (Below w1.heap.size w1 wr)) (fun _ u _ => l.length - (RowKit.intOf u).toNat)
    case atStart => exact ⟨0, 0, Nat.zero_le _, rfl, rfl, rfl, Below.refl _ _⟩
    case round =>
      obtain ⟨i, m, hi, rfl, rfl, HM, HBr⟩ := hrel
      have HBW : Hid (Below W.heap.size W wr) := HB1.out.trans (HBr.out.mono HB1.out.size)
      by_cases hlt : i < l.length
      · obtain ⟨p0, gx, p1, hio⟩ := HB.out i hlt
        obtain ⟨b, hb⟩ : ∃ b, b = l[i]'hlt := ⟨_, rfl⟩
        have hsm := HZ.out i hlt
        have hf0 := HFt.out i hlt
        have hall := HAll.out.at' i hlt
        have htop := HTop.out i hlt
        have hdt := HDt.out i hlt
        rw [← hb] at p0 p1 hio hsm hf0 hall hdt
        obtain ⟨H, hH⟩ : ∃ H, H = Hs.getD i [] := ⟨_, rfl⟩
        rw [← hH] at hall htop hdt
        have HLen : Hid (H.length = b.ops.length) := hall.2.len
        have HNx : Hid (deepL l Hs (i + 1) = max (deepL l Hs i) (deepTo b.ops H b.ops.length)) := by
          show _ = _
          have e : l.getD i ⟨0, []⟩ = b := by rw [hb]; simp [hlt]
          rw [deepL, e, ← hH]
        have HP : Hid (∀ u, Below W.heap.size W u → u.cell? ⟨g, i * 2, none⟩ = some (.int .i64 b.args) ∧ u.cell? ⟨g, i * 2 + 1, none⟩ = some (.slice (some ⟨gx, 0, none⟩) b.ops.length b.ops.length) ∧ RowOp u B gx b.ops) := fun u hu => ⟨cell_keep hu p0, cell_keep hu p1, (hio.below hu).row⟩
        have HHt : Hid (Calls Tryz.prog 39 #[.pointer (some ⟨g, i * 2, none⟩)] wr fun e w' => AnsH 0 H wr e w') := l10Heights_any b 0 H B g (i * 2) gx wr hsm (HP.out wr HBW.out).1 (HP.out wr HBW.out).2.1 (HP.out wr HBW.out).2.2 (hrel_of hf0 hall)
        have hol : b.ops.length ≤ 200 := (blk_ops hf0).1
        have HBd : Hid (∀ t ∈ b.ops, OpBnd t) := fun t ht => opBnd ((blk_ops hf0).2.1 t ht)
        have HTp : Hid (∀ (i : Nat) (x : Int), H[i]? = some x → -1 ≤ x ∧ x ≤ 400) := htop
        have HD2 : Hid (∀ q, q ≤ b.ops.length → deepTo b.ops H q ≤ 402) := hdt
        clear p0 p1 hio hsm hf0 hall hb hH htop hdt
        go_wp2_with fail
        refine HHt.out.mono ?_
        rintro e w2 ⟨aH, cH, rfl, o2, b2⟩
        have HB2 : Hid (Below w1.heap.size w1 w2) := HBr.out.trans (b2.mono HBr.out.size)
        rw [HLen.out] at o2 ⊢
        have HO2 : Hid (w2.ownsRow wr.heap.size 2 1 (.slice aH b.ops.length cH) b.ops.length (cellsI H)) := o2
        clear b2 o2 HHt
        go_wp2_with fail
        go_loopw [5, 9] (fun v u wz => ∃ (k : Nat) (m : Int), k ≤ b.ops.length ∧ v = .int .i64 m ∧ u = .int .i64 (k : Int) ∧ Hid (m = max (deepL l Hs i) (deepTo b.ops H k)) ∧ Hid (Below w2.heap.size w2 wz)) (fun _ u _ => b.ops.length - (RowKit.intOf u).toNat)
        case atStart => exact ⟨0, m, Nat.zero_le _, rfl, rfl, by show _ = _; rw [HM.out]; have := deepL_pos l Hs i; simp only [deepTo]; omega, Below.refl _ _⟩
        case round =>
          obtain ⟨k, m, hk, rfl, rfl, HM, HB3⟩ := hrel
          have HBW3 : Hid (Below W.heap.size W wr) := HB1.out.trans ((HB2.out.trans (HB3.out.mono HB2.out.size)).mono HB1.out.size)
          obtain ⟨-, s1, hro⟩ := HP.out wr HBW3.out
          by_cases hlk : k < b.ops.length
          · obtain ⟨gy, hop⟩ := hro.at k hlk
            obtain ⟨t, ht⟩ : ∃ t, t = b.ops[k]'hlk := ⟨_, rfl⟩
            rw [← ht] at hop
            have hbt : OpBnd t := HBd.out t (by rw [ht]; exact List.getElem_mem hlk)
            have HTk : Hid (Calls Tryz.prog 60 #[.pointer (some ⟨gx, k * 7, none⟩)] wr fun e w' => e = .returned (.tuple #[.int .i64 (takeO t), .int .i64 (putO t)]) ∧ w' = wr) := l10Takes_any t B gx (k * 7) gy wr hop hbt
            obtain ⟨gh, c', hv, _, _⟩ := HO2.out.form (by omega)
            obtain ⟨rfl, rfl⟩ : aH = some ⟨gh, 0, none⟩ ∧ cH = c' := by simp at hv; exact hv
            have q0 := ArI.own HLen.out (own_below HO2.out HB3.out) k hlk
            obtain ⟨x, hx⟩ : ∃ x, x = H.getD k 0 := ⟨_, rfl⟩
            rw [← hx] at q0
            have hxt := HTp.out k x (by rw [hx]; have : k < H.length := by rw [HLen.out]; exact hlk
                                        simp [this])
            have HNk : Hid (deepTo b.ops H (k + 1) = max (deepTo b.ops H k) (deepO t x)) := by
              show _ = _
              have e : b.ops.getD k ⟨0, 0, 0, 0, 0, ByteArray.empty, []⟩ = t := by rw [ht]; simp [hlk]
              rw [deepTo, e, ← hx]
            have htk := hbt.take
            obtain ⟨K1, hK1⟩ : ∃ K, K = takeO t := ⟨_, rfl⟩
            obtain ⟨K2, hK2⟩ : ∃ K, K = putO t := ⟨_, rfl⟩
            have HN : Hid (nextO t x = x - K1 + K2) := by show _ = _; rw [hK1, hK2]; rfl
            rw [← hK1, ← hK2] at HTk htk
            obtain ⟨t1, t2, t3, t4⟩ := htk
            clear ht hx hK1 hK2 hv hro hop
            go_wp2_with fail
            refine HTk.out.mono ?_
            rintro e w' ⟨rfl, hw'⟩
            replace hw' := hw'.symm
            subst hw'
            clear HTk s1
            by_cases hneg : x < 0
            · have HM2 : Hid (m = max (deepL l Hs i) (deepTo b.ops H (k + 1))) := by
                have hx1 : x = -1 := by omega
                show _ = _
                rw [HM.out, HNk.out, hx1]
                have := deepTo_pos b.ops H k
                simp only [deepO, if_true]
                omega
              clear HM HNk
              go_wp2
              exact ⟨⟨k + 1, m, by omega, rfl, by go_num, HM2.out, HB3.out⟩, by simp [RowKit.intOf]; omega⟩
            · have HM2 : Hid (max m (max x (x - K1 + K2)) = max (deepL l Hs i) (deepTo b.ops H (k + 1))) := by
                show _ = _
                rw [HM.out, HNk.out, deepO, if_neg (by omega), HN.out]
                omega
              have hmb : m ≤ 402 ∧ 0 ≤ m := by
                have h1 := HDl.out i (by omega)
                have h2 := HD2.out k hk
                have h3 := deepL_pos l Hs i
                rw [HM.out]; omega
              have a0 : ∀ p : BW wr, p.x.cell? ⟨gh, k, none⟩ = some (.int .i64 x) := fun p => p.cell q0
              have hne := bw_some wr
              obtain ⟨hm1, hm2⟩ := hmb
              clear HM HNk
              go_wp2_with fail
              refine wp_region_below (by kernel_rfl) (by kernel_rfl) ?_
              repeat (go_big_quiet_step ((go_at_call 61; exact calls_bw (HMx.out _ _ _))))
              refine wpQuiet_nil ?_
              intro wq hw'
              obtain ⟨⟨_, bq⟩, rfl⟩ := hw'
              have HB4 : Hid (Below w2.heap.size w2 wq) := HB3.out.trans (bq.mono HB3.out.size)
              clear bq a0 hne q0
              go_wp2
              exact ⟨⟨k + 1, _, by omega, rfl, by go_num, HM2.out, HB4.out⟩, by simp [RowKit.intOf]; omega⟩
          · have HM2 : Hid (m = deepL l Hs (i + 1)) := by
              show _ = _
              have e : k = b.ops.length := by omega
              rw [HM.out, HNx.out, e]
            clear HM
            go_wp2
            exact ⟨⟨i + 1, m, by omega, rfl, by go_num, HM2.out, HB2.out.trans (HB3.out.mono HB2.out.size)⟩, by simp [RowKit.intOf]; omega⟩
      · have HE : Hid (V = m) := by
          show _ = _
          have e : i = l.length := by omega
          rw [HVe.out, HM.out, e]
        obtain ⟨q0, q1, qf, ql⟩ := HQ.out wr HBW.out
        have HBw : Hid (Below w.heap.size w wr) := HB0.out.trans (HBW.out.mono HB0.out.size)
        clear HM HQ
        go_wp2
        refine bodyPost_ret (v := .agg #[.int .i64 C, .int .i64 V]) (by rw [HE.out, HC0.out]; simp [results, Tryz.results32, go_sem, q0, q1]) rfl ⟨rfl, ?_⟩
        repeat (first | refine Below.setCell ?_ (by simp) _ | exact HBw.out)
end Go.Proofs.YtfcabkhiofmmmaaGreatDoor
/-
  The program's deepest and DeepestOf: the greatest height of a block, and of all; nothing that was there is turned.
-/
namespace Go.Proofs.YtfcabkhiofmmmaaGreatDoor
open Go.RowKit Go.Extern.Stop Go.Stop Go.Extern Num Go.Lib

theorem max_two (ats : Array TypeId) (ty : TypeId) (x y : Int) (w : World) : (Builtin.max_ ats ty #[.int .i64 x, .int .i64 y]).run Tryz.prog w = .ok (.int .i64 (max x y)) w := by
  have e : (if y > x then y else x) = max x y := by split <;> omega
  simp [Builtin.max_, Builtin.max2, e]
theorem max_three (ats : Array TypeId) (ty : TypeId) (x y z : Int) (w : World) : (Builtin.max_ ats ty #[.int .i64 x, .int .i64 y, .int .i64 z]).run Tryz.prog w = .ok (.int .i64 (max (max x y) z)) w := by
  have e : ∀ a b : Int, (if b > a then b else a) = max a b := fun a b => by split <;> omega
  simp [Builtin.max_, Builtin.max2, e]
set_option maxRecDepth 100000 in
set_option maxHeartbeats 2000000 in
theorem deepest_any (b : Blk) (a0 a1 : Option Addr) (co ch B : Nat) (H : List Int) (x : Int) (w : World) (hf : blkFault b = 0) (hh : Holds b.ops H) (hR : HeldR w B a0 a1 co ch b.ops H) :
    Calls Tryz.prog 62 #[heldV b.args (.slice a0 b.ops.length co) (.slice a1 b.ops.length ch) x] w fun e w' => e = .returned (.int .i64 (deepTo b.ops H b.ops.length)) ∧ Below w.heap.size w w' := by
  have hol : b.ops.length ≤ 200 := (blk_ops hf).1
  have HBd : Hid (∀ t ∈ b.ops, OpBnd t) := fun t ht => opBnd ((blk_ops hf).2.1 t ht)
  have HTp : Hid (∀ (i : Nat) (x : Int), H[i]? = some x → -1 ≤ x ∧ x ≤ 400) := hh.2.top HBd.out hol
  have HLen : Hid (H.length = b.ops.length) := hh.2.len
  have HD2 : Hid (∀ q, q ≤ b.ops.length → deepTo b.ops H q ≤ 402) := fun q hq => deepTo_le HBd.out HTp.out hh.2.len q hq
  obtain ⟨W, hW⟩ : ∃ W, W = w.alloc (.cells #[.int .i64 b.args, .slice a0 b.ops.length co, .slice a1 b.ops.length ch, .int .i64 x] 69) := ⟨_, rfl⟩
  have HW : Hid (W = w.alloc (.cells #[.int .i64 b.args, .slice a0 b.ops.length co, .slice a1 b.ops.length ch, .int .i64 x] 69)) := hW
  have HB0 : Hid (Below w.heap.size w W) := by rw [hW]; exact bnew _ _
  have HR : Hid (HeldR W B a0 a1 co ch b.ops H) := hR.below HB0.out
  have y1 : W.cell? ⟨w.heap.size, 1, none⟩ = some (.slice a0 b.ops.length co) := by rw [hW]; simp [go_sem]
  have y2 : W.cell? ⟨w.heap.size, 2, none⟩ = some (.slice a1 b.ops.length ch) := by rw [hW]; simp [go_sem]
  have HY1 : Hid (∀ u, Below W.heap.size W u → u.cell? ⟨w.heap.size, 1, none⟩ = some (.slice a0 b.ops.length co)) := fun u hu => cell_keep hu y1
  obtain ⟨V, hV⟩ : ∃ V, V = deepTo b.ops H b.ops.length := ⟨_, rfl⟩
  rw [← hV]
  have HV : Hid (V = deepTo b.ops H b.ops.length) := hV
  have hmx := max_three
  clear hV hW hR hh hf
  go_enter Tryz.func62, Tryz.ntmps62
  go_upto_region 2 with fail
  rw [← HW.out]
  clear HW
  go_wp2_with fail
  clear y1 y2
  go_loopw [3, 11] (fun v u wz => ∃ (k : Nat) (m : Int), k ≤ b.ops.length ∧ v = .int .i64 m ∧ u = .int .i64 (k : Int) ∧ Hid (m = deepTo b.ops H k) ∧ Hid (Below W.heap.size W wz)) (fun _ u _ => b.ops.length - (RowKit.intOf u).toNat)
  case atStart => exact ⟨0, 0, Nat.zero_le _, rfl, rfl, rfl, Below.refl _ _⟩
  case round =>
    obtain ⟨k, m, hk, rfl, rfl, HM, HB3⟩ := hrel
    by_cases hlk : k < b.ops.length
    · obtain ⟨gh, c', hv, _, _⟩ := HR.out.hs.form (by omega)
      obtain ⟨rfl, rfl⟩ : a1 = some ⟨gh, 0, none⟩ ∧ ch = c' := by simp at hv; exact hv
      obtain ⟨go, c2, hv2, _, _⟩ := HR.out.ops.form (by omega)
      obtain ⟨rfl, rfl⟩ : a0 = some ⟨go, 0, none⟩ ∧ co = c2 := by simp at hv2; exact hv2
      have q0 := ArI.own HLen.out (own_below HR.out.hs HB3.out) k hlk
      obtain ⟨x0, x1, x2, x3, x4, x5⟩ := rowX_at (own_below HR.out.ops HB3.out) k hlk
      obtain ⟨t, ht⟩ : ∃ t, t = b.ops[k]'hlk := ⟨_, rfl⟩
      rw [← ht] at x0 x1 x2 x3 x4 x5
      have hbt : OpBnd t := HBd.out t (by rw [ht]; exact List.getElem_mem hlk)
      obtain ⟨y, hy⟩ : ∃ y, y = H.getD k 0 := ⟨_, rfl⟩
      rw [← hy] at q0
      have hyt := HTp.out k y (by rw [hy]; have : k < H.length := by rw [HLen.out]; exact hlk
                                  simp [this])
      have HNk : Hid (deepTo b.ops H (k + 1) = max (deepTo b.ops H k) (deepO t y)) := by
        show _ = _
        have e : b.ops.getD k ⟨0, 0, 0, 0, 0, ByteArray.empty, []⟩ = t := by rw [ht]; simp [hlk]
        rw [deepTo, e, ← hy]
      clear ht hy hv hv2
      by_cases hm1 : y = -1
      · have HM2 : Hid (m = deepTo b.ops H (k + 1)) := by
          show _ = _
          rw [HM.out, HNk.out, hm1]
          have := deepTo_pos b.ops H k
          simp only [deepO, if_true]
          omega
        clear HM HNk
        subst hm1
        go_wp2
        exact ⟨⟨k + 1, m, by omega, rfl, by go_num, HM2.out, HB3.out⟩, by simp [RowKit.intOf]; omega⟩
      · have hyn : (y != -1) = true := by rw [bne_iff_ne]; exact hm1
        have htk := hbt.take
        have HSt : Hid (∀ u, Calls Tryz.prog 88 #[t.num] u fun e w' => e = .returned (.tuple #[.int .i64 (takeO t), .int .i64 (putO t)]) ∧ Below u.heap.size u w') := fun u => stackChange_any t u hbt
        obtain ⟨K1, hK1⟩ : ∃ K, K = takeO t := ⟨_, rfl⟩
        obtain ⟨K2, hK2⟩ : ∃ K, K = putO t := ⟨_, rfl⟩
        have HN : Hid (nextO t y = y - K1 + K2) := by show _ = _; rw [hK1, hK2]; rfl
        rw [← hK1, ← hK2] at HSt htk
        obtain ⟨t1, t2, t3, t4⟩ := htk
        have HM2 : Hid (max m (max y (y - K1 + K2)) = deepTo b.ops H (k + 1)) := by
          show _ = _
          rw [HM.out, HNk.out, deepO, if_neg hm1, HN.out]
        have hmb : m ≤ 402 ∧ 0 ≤ m := by
          have h2 := HD2.out k hk
          have h3 := deepTo_pos b.ops H k
          rw [HM.out]; omega
        obtain ⟨hmb1, hmb2⟩ := hmb
        have s1 := HY1.out wr HB3.out
        clear HM HNk hK1 hK2 hm1
        go_wp2_with fail
        refine (HSt.out _).mono ?_
        rintro e w4 ⟨rfl, b4⟩
        have HB4 : Hid (Below W.heap.size W w4) := HB3.out.trans (b4.mono HB3.out.size)
        clear b4 HSt q0 x0 x1 x2 x3 x4 x5 s1
        go_wp2
        exact ⟨⟨k + 1, _, by omega, rfl, by go_num, HM2.out, HB4.out⟩, by simp [RowKit.intOf]; omega⟩
    · have HE : Hid (V = m) := by
        show _ = _
        have e : k = b.ops.length := by omega
        rw [HV.out, HM.out, e]
      clear HM
      go_wp2
      go_ret
      exact ⟨by rw [HE.out]; rfl, HB0.out.trans (HB3.out.mono HB0.out.size)⟩
set_option maxRecDepth 100000 in
set_option maxHeartbeats 2000000 in
theorem implDp_any (g cap B : Nat) (l : List Blk) (ok : Bool) (Hs : List (List Int)) (w : World) (hl : l.length ≤ 1048576) (hz : ∀ (k : Nat) (h : k < l.length), l[k].small) (hB : RowBl w B g l) (hL : LT w) (hok : OkR l ok) (hHs : ok = true → AllH l Hs) :
    Calls Tryz.prog 33 #[.slice (some ⟨g, 0, none⟩) l.length cap] w fun e w' => e = .returned (.agg #[.int .i64 (codeF ok l), .int .i64 (deepV ok l Hs)]) ∧ Below w.heap.size w w' := by
  obtain ⟨W, hW⟩ : ∃ W, W = w.alloc (.cells #[.int .i64 0, .int .i64 0] 40) := ⟨_, rfl⟩
  have HW : Hid (W = w.alloc (.cells #[.int .i64 0, .int .i64 0] 40)) := hW
  have hb0 : Below w.heap.size w W := by rw [hW]; exact bnew _ _
  have r0 : W.cell? ⟨w.heap.size, 0, none⟩ = some (.int .i64 0) := by rw [hW]; simp [go_sem]
  have r1 : W.cell? ⟨w.heap.size, 1, none⟩ = some (.int .i64 0) := by rw [hW]; simp [go_sem]
  have rf : ∀ j, W.frozen? ⟨w.heap.size, j, none⟩ = false := fun j => by rw [hW]; simp [go_sem]
  have rl : w.heap.size < W.heap.size := by rw [hW]; simp
  have HQ : Hid (∀ u, Below W.heap.size W u → u.cell? ⟨w.heap.size, 0, none⟩ = some (.int .i64 0) ∧ u.cell? ⟨w.heap.size, 1, none⟩ = some (.int .i64 0) ∧ (∀ j, u.frozen? ⟨w.heap.size, j, none⟩ = false) ∧ w.heap.size < u.heap.size) := fun u hu => ⟨cell_keep hu r0, cell_keep hu r1, fun j => by rw [(bcell hu).2 _ _ rl]; exact rf j, Nat.lt_of_lt_of_le rl hu.size⟩
  have HB0 : Hid (Below w.heap.size w W) := hb0
  have HF : Hid (Calls Tryz.prog 44 #[.slice (some ⟨g, 0, none⟩) l.length cap] W fun e w' => AnsHC ok l W e w') := holdCode_any g cap B l ok W hl hz (hB.below hb0) (hL.below hb0) hok
  obtain ⟨C, hC⟩ : ∃ C, C = codeF ok l := ⟨_, rfl⟩
  obtain ⟨V, hV⟩ : ∃ V, V = deepV ok l Hs := ⟨_, rfl⟩
  rw [← hC, ← hV]
  have HC : Hid (codeF ok l = C) := hC.symm
  have HV : Hid (V = if C ≠ 0 then 0 else deepL l Hs l.length) := by show _ = _; rw [hV, ← HC.out]; rfl
  have HHs : Hid (ok = true → AllH l Hs) := hHs
  have hmx := max_two
  clear hC hV hB hz hok hW r0 r1 rf rl hb0 hL hHs
  go_enter Tryz.func33, Tryz.ntmps33
  go_wp2_with fail
  rw [← HW.out]
  refine HF.out.mono ?_
  rintro e w1 ⟨ao, n, cr, rfl, hyes, b1⟩
  have HB1 : Hid (Below W.heap.size W w1) := b1
  have HYe : Hid (codeF ok l = 0 → ∃ L A gr, ao = some ⟨gr, 0, none⟩ ∧ n = L.length ∧ HeldC w1 W.heap.size l ok L A gr cr) := hyes
  clear b1 HF HW hyes
  rw [HC.out]
  by_cases hn : C = 0
  · have h0 : codeF ok l = 0 := by rw [HC.out]; exact hn
    obtain ⟨L, A, gr, rfl, rfl, hh⟩ := HYe.out h0
    obtain ⟨hokt, h9⟩ := codeF_ok h0
    have HAll : Hid (AllH l Hs) := HHs.out hokt
    have HC0 : Hid (C = 0) := hn
    have HVe : Hid (V = deepL l Hs l.length) := by show _ = _; rw [HV.out, hn]; rfl
    have h60 := (nine_all h9).1
    have HLn : Hid (L.length = l.length) := by show _ = _; rw [← hh.map]; simp
    have hLl : L.length ≤ 60 := by rw [HLn.out]; exact h60
    have HAt : Hid (∀ (k : Nat) (h : k < L.length), ∃ hk : k < l.length, l[k] = (L[k]).b ∧ blkFault (L[k]).b = 0 ∧ Hs.getD k [] = (L[k]).H) := fun k hk => by
      have hk' : k < l.length := by rw [← HLn.out]; exact hk
      have h2 : l[k]? = some (L[k]).b := by rw [← hh.map, List.getElem?_map, List.getElem?_eq_getElem hk]; rfl
      rw [List.getElem?_eq_getElem hk'] at h2
      have h3 := Option.some.inj h2
      have h4 := (nine_all h9).2 k hk'
      rw [h3] at h4
      have h5 := HAll.out.at' k hk'
      rw [h3] at h5
      exact ⟨hk', h3, h4, h5.2.uniq (hh.holds k hk).2⟩
    have HHl : Hid (HdL w1 W.heap.size (some ⟨gr, 0, none⟩) cr L A) := hh.row
    have HHo : Hid (∀ (k : Nat) (h : k < L.length), Holds (L[k]).b.ops (L[k]).H) := hh.holds
    subst hn
    clear h0 hokt h9 hh HYe h60
    go_wp2_with fail
    go_loopw [5, 19] (fun v u wr => ∃ (i : Nat) (m : Int), i ≤ L.length ∧ v = .int .i64 m ∧ u = .int .i64 (i : Int) ∧ Hid (m = deepL l Hs i) ∧ Hid (Below w1.heap.size w1 wr)) (fun _ u _ => L.length - (RowKit.intOf u).toNat)
    case atStart => exact ⟨0, 0, Nat.zero_le _, rfl, rfl, rfl, Below.refl _ _⟩
    case round =>
      obtain ⟨i, m, hi, rfl, rfl, HM, HBr⟩ := hrel
      have HBW : Hid (Below W.heap.size W wr) := HB1.out.trans (HBr.out.mono HB1.out.size)
      by_cases hlt : i < L.length
      · obtain ⟨q0, q1, q2, q3⟩ := rowH_at (HHl.out.below HBr.out) i hlt
        have hit := (HHl.out.below HBr.out).items i hlt
        obtain ⟨hil, hle, hf0, hHe⟩ := HAt.out i hlt
        have hho := HHo.out i hlt
        obtain ⟨⟨b, a0, a1, co, ch, Hh⟩, ht⟩ : ∃ t, t = L[i]'hlt := ⟨_, rfl⟩
        rw [← ht] at q0 q1 q2 hit hle hf0 hHe hho
        replace q1 : wr.cell? ⟨gr, i * 4 + 1, none⟩ = some (.slice a0 b.ops.length co) := q1
        replace q2 : wr.cell? ⟨gr, i * 4 + 2, none⟩ = some (.slice a1 b.ops.length ch) := q2
        replace q0 : wr.cell? ⟨gr, i * 4, none⟩ = some (.int .i64 b.args) := q0
        replace hf0 : blkFault b = 0 := hf0
        replace hho : Holds b.ops Hh := hho
        replace hHe : Hs.getD i [] = Hh := hHe
        replace hle : l[i] = b := hle
        obtain ⟨x9, hx9⟩ : ∃ x, x = A.getD i 0 := ⟨_, rfl⟩
        rw [← hx9] at q3
        have HDp : Hid (∀ u, Below wr.heap.size wr u → Calls Tryz.prog 62 #[heldV b.args (.slice a0 b.ops.length co) (.slice a1 b.ops.length ch) x9] u fun e w' => e = .returned (.int .i64 (deepTo b.ops Hh b.ops.length)) ∧ Below u.heap.size u w') := fun u hu => deepest_any b a0 a1 co ch W.heap.size Hh x9 u hf0 hho (HeldR.below hit hu)
        have HNx : Hid (deepL l Hs (i + 1) = max (deepL l Hs i) (deepTo b.ops Hh b.ops.length)) := by
          show _ = _
          have e : l.getD i ⟨0, []⟩ = b := by rw [← hle]; simp [hil]
          rw [deepL, e, hHe]
        obtain ⟨D, hD⟩ : ∃ D, D = deepTo b.ops Hh b.ops.length := ⟨_, rfl⟩
        rw [← hD] at HDp HNx
        have HM2 : Hid (max m D = deepL l Hs (i + 1)) := by show _ = _; rw [HNx.out, HM.out]
        clear ht hit hle hf0 hho hHe hx9 hD HM
        go_wp2_with fail
        refine (HDp.out _ (bnew _ _)).mono ?_
        rintro e w3 ⟨rfl, b3⟩
        have HB3 : Hid (Below w1.heap.size w1 w3) := (HBr.out.trans ((bnew wr _).mono HBr.out.size)).trans (b3.mono (by have := HBr.out.size; simp; omega))
        clear b3 HDp q0 q1 q2 q3
        go_wp2
        exact ⟨⟨i + 1, _, by omega, rfl, by go_num, HM2.out, HB3.out⟩, by simp [RowKit.intOf]; omega⟩
      · have HE : Hid (V = m) := by
          show _ = _
          have e : i = l.length := by have := HLn.out; omega
          rw [HVe.out, HM.out, e]
        obtain ⟨q0, q1, qf, ql⟩ := HQ.out wr HBW.out
        have HBw : Hid (Below w.heap.size w wr) := HB0.out.trans (HBW.out.mono HB0.out.size)
        clear HM HQ
        go_wp2
        refine bodyPost_ret (v := .agg #[.int .i64 0, .int .i64 V]) (by rw [HE.out]; simp [results, Tryz.results33, go_sem, q0, q1]) rfl ⟨rfl, ?_⟩
        repeat (first | refine Below.setCell ?_ (by simp) _ | exact HBw.out)
  · have hcn : (C != 0) = true := by rw [bne_iff_ne]; exact hn
    have HE : Hid (V = 0) := by show _ = _; rw [HV.out, if_pos hn]
    obtain ⟨q0, q1, qf, ql⟩ := HQ.out w1 HB1.out
    have HBw : Hid (Below w.heap.size w w1) := HB0.out.trans (HB1.out.mono HB0.out.size)
    clear hn HQ HYe
    go_wp2
    refine bodyPost_ret (v := .agg #[.int .i64 C, .int .i64 V]) (by rw [HE.out]; simp [results, Tryz.results33, go_sem, q0, q1]) rfl ⟨rfl, ?_⟩
    repeat (first | refine Below.setCell ?_ (by simp) _ | exact HBw.out)
end Go.Proofs.YtfcabkhiofmmmaaGreatDoor
/-
  The exact law of DeepestOf answers true at every code; nothing that was there is turned.
-/
namespace Go.Proofs.YtfcabkhiofmmmaaGreatDoor
open Go.RowKit Go.Extern.Stop Go.Stop Go.Extern Num Go.Lib

theorem eqIntR_Dp (c v : Int) (w : World) : Calls Tryz.prog 31 #[.agg #[.int .i64 c, .int .i64 v], .agg #[.int .i64 c, .int .i64 v]] w fun e w' => e = .returned (.bool true) ∧ Below w.heap.size w w' := by
  go_enter Tryz.func31, Tryz.ntmps31
  go_wp2
  go_ret
  exact ⟨rfl, by repeat (first | exact Below.refl _ _ | refine Below.alloc ?_ (by simp <;> omega) _)⟩
set_option maxHeartbeats 1000000 in
theorem lawDp_any (w : World) (hG : LT w) (a : Option Addr) (cp : Nat) (l : List Blk) (hl : l.length ≤ 9223372036854775807) (h : MemBl w a l) (hz : ∀ (k : Nat) (h : k < l.length), l[k].able) :
    Calls Tryz.prog 8 #[.slice a l.length cp] w fun e w' => e = .returned (.bool true) ∧ Below w.heap.size w w' := by
  have HS : Hid (Calls Tryz.prog 19 #[.slice a l.length cp, .int .i64 1048576] w fun e w' => SZBl l w e w') := szBlS_any a cp l w 1048576 (Nat.le_refl _) hl h hz
  have HT : Hid (MemBl w a l) := h
  have HG : Hid (∀ u, Below w.heap.size w u → LT u) := fun u hu => hG.below hu
  obtain ⟨ok, hok⟩ := okR_some l
  have HOk : Hid (OkR l ok) := hok
  obtain ⟨Hs, hHs⟩ : ∃ Hs, ok = true → AllH l Hs := by
    cases ok
    · exact ⟨[], fun e => by cases e⟩
    · obtain ⟨Hs, h⟩ := allH_some l (hok.1 rfl)
      exact ⟨Hs, fun _ => h⟩
  have HHs : Hid (ok = true → AllH l Hs) := hHs
  obtain ⟨c, hc⟩ : ∃ c, c = codeF ok l := ⟨_, rfl⟩
  obtain ⟨x, hx⟩ : ∃ x, x = deepV ok l Hs := ⟨_, rfl⟩
  have HE : Hid (codeF ok l = c ∧ deepV ok l Hs = x) := ⟨hc.symm, hx.symm⟩
  clear hok hHs
  clear h hz hG hc hx hl
  go_enter Tryz.func8, Tryz.ntmps8
  go_wp2_with fail
  refine HS.out.mono ?_
  rintro e w1 ⟨h1, b1⟩
  have B1 : Hid (Below w.heap.size w w1) := b1
  clear b1
  rcases h1 with rfl | ⟨q, hq, rfl, hl, hz⟩
  · go_wp2
    go_ret
    exact ⟨rfl, B1.out⟩
  have HZ : Hid (∀ (k : Nat) (h : k < l.length), l[k].small) := hz
  have HN : Hid (l.length ≤ 1048576) := hl
  have HU : Hid (∀ wx, Below w.heap.size w wx → Calls Tryz.prog 21 #[.slice a l.length cp] wx fun e w' => ∃ g, e = .returned (.slice (some ⟨g, 0, none⟩) l.length l.length) ∧ IsBl w' wx.heap.size g l.length l ∧ Below wx.heap.size wx w') := fun wx hx => (toBlS_any a cp l wx hl hz (HT.out.below hx)).mono fun e w' ⟨h1, h2, h3⟩ => ⟨_, h1, h2, h3⟩
  clear hz hl
  go_wp2_with fail
  refine (HU.out _ B1.out).mono ?_
  rintro e w2 ⟨g2, rfl, o2, b2⟩
  have O2 : Hid (IsBl w2 w1.heap.size g2 l.length l) := o2
  have B2 : Hid (Below w.heap.size w w2) := B1.out.trans (b2.mono B1.out.size)
  clear o2 b2
  go_wp2_with fail
  refine (specDp_any _ _ _ l ok Hs w2 HN.out HZ.out O2.out.row HOk.out HHs.out).mono ?_
  rw [HE.out.1, HE.out.2]
  rintro e w3 ⟨rfl, b3⟩
  have B3 : Hid (Below w.heap.size w w3) := B2.out.trans (b3.mono B2.out.size)
  have z3 : w.heap.size ≤ w3.heap.size := B3.out.size
  clear b3 O2
  go_wp2_with fail
  refine (HU.out _ (B3.out.alloc z3 _)).mono ?_
  rintro e w4 ⟨g4, rfl, o4, b4⟩
  obtain ⟨BB4, hBB4⟩ : ∃ n, n = (w3.alloc (.cells #[.int .i64 c, .int .i64 x] 40)).heap.size := ⟨_, rfl⟩
  rw [← hBB4] at o4
  clear hBB4
  have O4 : Hid (IsBl w4 BB4 g4 l.length l) := o4
  have B4 : Hid (Below w.heap.size w w4) := (B3.out.alloc z3 _).trans (b4.mono (by simp; omega))
  obtain ⟨c4, f4⟩ := bcell b4
  have z4 : w3.heap.size < w4.heap.size := by have := b4.size; simp at this; omega
  clear o4 b4
  go_wp2_with fail
  refine (implDp_any _ _ _ l ok Hs w4 HN.out HZ.out O4.out.row (HG.out _ B4.out) HOk.out HHs.out).mono ?_
  rw [HE.out.1, HE.out.2]
  rintro e w5 ⟨rfl, b5⟩
  obtain ⟨c5, f5⟩ := bcell b5
  have O5 : Hid (IsBl w5 BB4 g4 l.length l) := O4.out.below b5
  have z5 : w3.heap.size < w5.heap.size := by have := b5.size; omega
  have B5 : Hid (Below w.heap.size w w5) := B4.out.trans (b5.mono (by omega))
  clear b5 O4
  go_wp2_with fail
  refine (eqIntR_Dp _ _ _).mono ?_
  rintro e w6 ⟨rfl, b6⟩
  have O6 : Hid (IsBl w6 BB4 g4 l.length l) := (O5.out.below ((Below.refl _ _).alloc (Nat.le_refl _) _)).below b6
  have B6 : Hid (Below w.heap.size w w6) := (B5.out.alloc (by omega) _).trans (b6.mono (by simp; omega))
  clear b6 O5 c4 f4 c5 f5
  go_wp2_with fail
  refine (HU.out _ B6.out).mono ?_
  rintro e w7 ⟨g7, rfl, o7, b7⟩
  obtain ⟨BB7, hBB7⟩ : ∃ n, n = w6.heap.size := ⟨_, rfl⟩
  rw [← hBB7] at o7
  clear hBB7
  have O7 : Hid (IsBl w7 BB7 g7 l.length l) := o7
  have P7 : Hid (IsBl w7 BB4 g4 l.length l) := O6.out.below b7
  have B7 : Hid (Below w.heap.size w w7) := B6.out.trans (b7.mono B6.out.size)
  clear o7 b7 O6
  go_wp2_with fail
  refine (eqBlS_same _ _ _ _ _ _ l w7 HN.out HZ.out P7.out.row O7.out.row).mono ?_
  rintro e w8 ⟨rfl, b8⟩
  go_wp2
  go_ret
  exact ⟨rfl, B7.out.trans (b8.mono B7.out.size)⟩
end Go.Proofs.YtfcabkhiofmmmaaGreatDoor
