/-
  Parts of the proof laid into one text, one behind the other: SpecHgtA, SpecHgtB, SpecHgtC. Contracts of the program's and the model's functions, and what they are proved of, as their theorems say.
-/
import Derived.Test.YtoafolefecddmaaGreatDoorTjB
import Derived.Test.YtoafolefecddmaaGreatDoorHgA
import Derived.Test.YtoafolefecddmaaGreatDoorUiA
namespace Go.Proofs.YtoafolefecddmaaGreatDoor
open Go.RowKit Go.Extern.Stop Go.Stop Go.Extern Num Go.Lib
set_option maxRecDepth 100000 in
set_option maxHeartbeats 1000000 in
theorem l10Takes_any (t : Opr) (B g o gk : Nat) (w : World) (h : OpAt w B g o t gk) (hb : OpBnd t) : Calls Tryz.prog 195 #[.pointer (some ⟨g, o, none⟩)] w fun e w' => e = .returned (.tuple #[.int .i64 (takeO t), .int .i64 (putO t)]) ∧ w' = w := by
  obtain ⟨p0, p1, p2, p3, p4, p5, p6, _⟩ := h
  obtain ⟨R, hR⟩ : ∃ R, R = takeO t := ⟨_, rfl⟩
  obtain ⟨S, hS⟩ : ∃ S, S = putO t := ⟨_, rfl⟩
  rw [← hR, ← hS]
  have a1 := hb.a1
  have a2 := hb.a2
  rcases hb.kinds with k | k | k | k | k | k | k | k | k | k | k | k | k | k | k | k
  all_goals
    have HR : Hid (R = takeO t ∧ S = putO t) := ⟨hR, hS⟩
    have HK := k
    unfold takeO putO at HR
    rw [HK] at HR p0
    clear hR hS k HK hb
    go_enter Tryz.func195, Tryz.ntmps195
    go_wp2
    exact bodyPost_ret (v := .tuple #[.int .i64 R, .int .i64 S]) (by
      obtain ⟨h1, h2⟩ := HR.out
      rw [h1, h2]
      simp [results, Tryz.results195, go_sem]) rfl ⟨rfl, rfl⟩
set_option maxRecDepth 100000 in
set_option maxHeartbeats 1000000 in
theorem l10Ends_any (t : Opr) (w : World) (hb : OpBnd t) : Calls Tryz.prog 196 #[.int .i64 t.kind] w fun e w' => e = .returned (.bool (endsO t)) ∧ w' = w := by
  obtain ⟨R, hR⟩ : ∃ R, R = endsO t := ⟨_, rfl⟩
  rw [← hR]
  rcases hb.kinds with k | k | k | k | k | k | k | k | k | k | k | k | k | k | k | k
  all_goals
    have HR : Hid (R = endsO t) := hR
    have HK := k
    unfold endsO leavesO at HR
    rw [HK] at HR ⊢
    clear hR k HK hb
    go_enter Tryz.func196, Tryz.ntmps196
    go_wp2_with (go_at_call 80; refine (l1In_any _ _ _ _).mono ?_; rintro e w' ⟨rfl, hw'⟩; replace hw' := hw'.symm; subst hw')
    go_ret
    exact ⟨by rw [HR.out]; rfl, rfl⟩
set_option maxRecDepth 100000 in
set_option maxHeartbeats 1000000 in
theorem l10High_any (t : Opr) (x : Int) (B g o gk : Nat) (w : World) (h : OpAt w B g o t gk) (hb : OpBnd t) : Calls Tryz.prog 194 #[.pointer (some ⟨g, o, none⟩), .int .i64 x] w fun e w' => e = .returned (.bool (okO t x)) ∧ w' = w := by
  have HT : Hid (Calls Tryz.prog 195 #[.pointer (some ⟨g, o, none⟩)] w fun e w' => e = .returned (.tuple #[.int .i64 (takeO t), .int .i64 (putO t)]) ∧ w' = w) := l10Takes_any t B g o gk w h hb
  obtain ⟨p0, p1, p2, p3, p4, p5, p6, _⟩ := h
  obtain ⟨R, hR⟩ : ∃ R, R = okO t x := ⟨_, rfl⟩
  obtain ⟨A, hA⟩ : ∃ A, A = takeO t := ⟨_, rfl⟩
  rw [← hA] at HT
  rw [← hR]
  have a1 := hb.a1
  have a2 := hb.a2
  rcases hb.kinds with k | k | k | k | k | k | k | k | k | k | k | k | k | k | k | k
  all_goals
    have HR : Hid (R = okO t x) := hR
    have HA : Hid (A = takeO t) := hA
    have HK := k
    unfold okO leavesO atEndO at HR
    rw [← HA.out] at HR
    rw [HK] at HR p0
    clear hR k HK hb HA hA
    go_enter Tryz.func194, Tryz.ntmps194
    go_wp2_with (go_at_call 195; refine HT.out.mono ?_; rintro e w' ⟨rfl, hw'⟩; replace hw' := hw'.symm; subst hw')
    go_ret
    exact ⟨by rw [HR.out]; rfl, rfl⟩
set_option maxRecDepth 100000 in
set_option maxHeartbeats 1000000 in
theorem l10Lead_any (H : List Int) (k h : Int) (base gh cap n : Nat) (w : World) (hn : H.length = n) (hl : n ≤ 200) (hk1 : -1000 ≤ k) (hk2 : k ≤ 1000) (ho : w.ownsRow base 2 1 (.slice (some ⟨gh, 0, none⟩) n cap) n (cellsI H)) :
    Calls Tryz.prog 197 #[.slice (some ⟨gh, 0, none⟩) n cap, .int .i64 k, .int .i64 h] w fun e w' => e = .returned (.tuple #[.bool (leadF H k h).1, .bool (leadF H k h).2.1]) ∧ w'.ownsRow base 2 1 (.slice (some ⟨gh, 0, none⟩) n cap) n (cellsI (leadF H k h).2.2) ∧ Below base w w' := by
  obtain ⟨a, b, H', e⟩ : ∃ a b H', leadF H k h = (a, b, H') := ⟨_, _, _, rfl⟩
  rw [e]
  have HB : Hid (base ≤ gh ∧ gh < w.heap.size) := ho.lt gh rfl
  by_cases hin : 0 ≤ k ∧ k < (n : Int)
  · obtain ⟨j, rfl⟩ : ∃ j : Nat, k = (j : Int) := ⟨k.toNat, by omega⟩
    have hj : j < H.length := by omega
    have hjn : j < n := by omega
    have hin' : (decide ((0 : Int) ≤ (j : Int)) && decide ((j : Int) ≤ (n : Int) - 1)) = true := by simp; omega
    have hd : H.getD j 0 = H[j] := by simp [hj]
    have p0 : w.cell? ⟨gh, j, none⟩ = some (.int .i64 (H[j]'hj)) := rowI_at (by rw [hn]; exact ho) j hj
    have pf : w.frozen? ⟨gh, j, none⟩ = false := own_frozen ho j
    obtain ⟨x, hx⟩ : ∃ x, x = H[j]'hj := ⟨_, rfl⟩
    rw [← hx] at p0 hd
    by_cases hneg : x < 0
    · have HE : Hid (a = true ∧ b = true ∧ H' = H.set j h) := by
        unfold leadF at e
        rw [if_pos (by omega), Int.toNat_natCast, hd, if_pos hneg] at e
        simp only [Prod.mk.injEq] at e
        exact ⟨e.1.symm, e.2.1.symm, e.2.2.symm⟩
      have HO : Hid ((w.setCell ⟨gh, j, none⟩ (.int .i64 h)).ownsRow base 2 1 (.slice (some ⟨gh, 0, none⟩) n cap) n (cellsI (H.set j h))) := by
        have := own_put ho j (.int .i64 h)
        rwa [show (cellsI H).set j (.int .i64 h) = cellsI (H.set j h) by simp [cellsI, List.map_set]] at this
      clear e ho hd hx
      go_enter Tryz.func197, Tryz.ntmps197
      go_wp2_with (go_at_call 80; refine (l1In_any _ _ _ _).mono ?_; rintro e w' ⟨rfl, hw'⟩; replace hw' := hw'.symm; subst hw'; rw [hin'])
      obtain ⟨h1, h2, h3⟩ := HE.out
      exact bodyPost_ret (v := .tuple #[.bool a, .bool b]) (by
        rw [h1, h2]
        simp [results, Tryz.results197, go_sem]) rfl ⟨rfl, by rw [h3]; exact HO.out, (Below.refl _ _).setCell HB.out.1 _⟩
    · have HE : Hid (a = false ∧ b = (x == h) ∧ H' = H) := by
        unfold leadF at e
        rw [if_pos (by omega), Int.toNat_natCast, hd, if_neg hneg] at e
        simp only [Prod.mk.injEq] at e
        exact ⟨e.1.symm, e.2.1.symm, e.2.2.symm⟩
      have HO : Hid (w.ownsRow base 2 1 (.slice (some ⟨gh, 0, none⟩) n cap) n (cellsI H)) := ho
      clear e ho hd hx
      have a0 : ∀ p : BW w, p.x.cell? ⟨gh, j, none⟩ = some (.int .i64 x) := fun p => p.cell p0
      have hne := bw_some w
      go_enter Tryz.func197, Tryz.ntmps197
      go_wp2_with (go_at_call 80; refine (l1In_any _ _ _ _).mono ?_; rintro e w' ⟨rfl, hw'⟩; replace hw' := hw'.symm; subst hw'; rw [hin'])
      refine wp_region_below (by kernel_rfl) (by kernel_rfl) ?_
      repeat (go_big_quiet_step (fail))
      refine wpQuiet_nil ?_
      intro wq hw'
      obtain ⟨⟨_, bq⟩, rfl⟩ := hw'
      have HQ : Hid (Below w.heap.size w _) := bq
      clear bq a0 hne
      go_wp2
      obtain ⟨h1, h2, h3⟩ := HE.out
      exact bodyPost_ret (v := .tuple #[.bool a, .bool b]) (by
        rw [h1, h2]
        simp [results, Tryz.results197, go_sem]) rfl ⟨rfl, by rw [h3]; exact own_below HO.out HQ.out, HQ.out.mono (by have := HB.out; omega)⟩
  · have HE : Hid (a = false ∧ b = false ∧ H' = H) := by
      unfold leadF at e
      rw [if_neg (by omega)] at e
      simp only [Prod.mk.injEq] at e
      exact ⟨e.1.symm, e.2.1.symm, e.2.2.symm⟩
    have hin' : (decide ((0 : Int) ≤ k) && decide (k ≤ (n : Int) - 1)) = false := by
      cases q : (decide ((0 : Int) ≤ k) && decide (k ≤ (n : Int) - 1))
      · rfl
      · simp only [Bool.and_eq_true, decide_eq_true_eq] at q; omega
    have HO : Hid (w.ownsRow base 2 1 (.slice (some ⟨gh, 0, none⟩) n cap) n (cellsI H)) := ho
    clear e ho hin
    go_enter Tryz.func197, Tryz.ntmps197
    go_wp2_with (go_at_call 80; refine (l1In_any _ _ _ _).mono ?_; rintro e w' ⟨rfl, hw'⟩; replace hw' := hw'.symm; subst hw'; rw [hin'])
    obtain ⟨h1, h2, h3⟩ := HE.out
    exact bodyPost_ret (v := .tuple #[.bool a, .bool b]) (by
      rw [h1, h2]
      simp [results, Tryz.results197, go_sem]) rfl ⟨rfl, by rw [h3]; exact HO.out, Below.refl _ _⟩
set_option maxRecDepth 100000 in
set_option maxHeartbeats 2000000 in
theorem l10Pass_any (l : List Opr) (H0 : List Int) (B g o gk gh cap : Nat) (W w : World) (hl : l.length ≤ 200) (hf : ∀ t ∈ l, opFault t = 0) (h1 : W.cell? ⟨g, o + 1, none⟩ = some (.slice (some ⟨gk, 0, none⟩) l.length l.length)) (hO : RowOp W B gk l) (hw : Below W.heap.size W w)
    (ho : w.ownsRow W.heap.size 2 1 (.slice (some ⟨gh, 0, none⟩) l.length cap) l.length (cellsI H0)) (hi : HInv l H0) (h0 : H0[0]? = some 0) :
    Calls Tryz.prog 154 #[.pointer (some ⟨g, o, none⟩), .slice (some ⟨gh, 0, none⟩) l.length cap] w fun e w' => ∃ u ok H, e = .returned (.tuple #[.bool u, .bool ok]) ∧ w'.ownsRow W.heap.size 2 1 (.slice (some ⟨gh, 0, none⟩) l.length cap) l.length (cellsI H) ∧ Below W.heap.size W w' ∧ (ok = false → NoH l) ∧ (ok = true → PassI l H0 H l.length u) := by
  have HOA : Hid (∀ (k : Nat) (hk : k < l.length), ∃ gx, ∀ u, Below W.heap.size W u → OpAt u B gk (k * 7) (l[k]'hk) gx) := fun k hk => by
    obtain ⟨gx, hx⟩ := hO.at k hk
    exact ⟨gx, fun u hu => hx.below hu⟩
  have H1 : Hid (∀ u, Below W.heap.size W u → u.cell? ⟨g, o + 1, none⟩ = some (.slice (some ⟨gk, 0, none⟩) l.length l.length)) := fun u hu => cell_keep hu h1
  have HPass0 : Hid (PassI l H0 H0 0 false) := ⟨hi, h0, Nat.le_refl _, (fun h => by cases h), fun _ => ⟨rfl, fun j hj => absurd hj (Nat.not_lt_zero j)⟩⟩
  have HO0 : Hid (w.ownsRow W.heap.size 2 1 (.slice (some ⟨gh, 0, none⟩) l.length cap) l.length (cellsI H0)) := ho
  have HB0 : Hid (Below W.heap.size W w) := hw
  have HF : Hid (∀ t ∈ l, opFault t = 0) := hf
  clear h1 hO hw ho hi h0 hf
  go_enter Tryz.func154, Tryz.ntmps154
  go_wp2_with fail
  go_loopw [6, 7] (fun v i wr => ∃ (k : Nat) (u : Bool) (H : List Int), k ≤ l.length ∧ v = .bool u ∧ i = .int .i64 (k : Int) ∧ Hid (PassI l H0 H k u) ∧ Hid (wr.ownsRow W.heap.size 2 1 (.slice (some ⟨gh, 0, none⟩) l.length cap) l.length (cellsI H)) ∧ Hid (Below W.heap.size W wr)) (fun _ i _ => l.length - (RowKit.intOf i).toNat)
  case atStart => exact ⟨0, false, H0, Nat.zero_le _, rfl, rfl, HPass0.out, HO0.out, HB0.out⟩
  case round =>
    obtain ⟨k, u, H, hk, rfl, rfl, HP, HO, HB⟩ := hrel
    have s1 := H1.out wr HB.out
    by_cases hlt : k < l.length
    · obtain ⟨gx, hox⟩ := HOA.out k hlt
      have hHk : k < H.length := by rw [HP.out.inv.len]; exact hlt
      have p0 : wr.cell? ⟨gh, k, none⟩ = some (.int .i64 (H[k]'hHk)) := rowI_at (by rw [HP.out.inv.len]; exact HO.out) k hHk
      have hHk2 : H[k]? = some (H[k]'hHk) := List.getElem?_eq_getElem hHk
      have hd : H.getD k 0 = H[k]'hHk := by simp [hHk]
      obtain ⟨x, hxe⟩ : ∃ x, x = H[k]'hHk := ⟨_, rfl⟩
      rw [← hxe] at p0 hHk2 hd
      have HHk : Hid (H[k]? = some x) := hHk2
      have HD : Hid (H.getD k 0 = x) := hd
      have HLen1 : Hid (H.length = l.length) := HP.out.inv.len
      clear hHk2 hd hxe hHk
      by_cases hneg : x < 0
      · have HP2 : Hid (PassI l H0 H (k + 1) u) := HP.out.skip (by rw [HD.out]; exact hneg) hlt
        clear HP HOA
        go_wp2
        exact ⟨⟨k + 1, u, H, by omega, rfl, by go_num, HP2.out, HO.out, HB.out⟩, by simp [RowKit.intOf]; omega⟩
      have hx : 0 ≤ x := by omega
      obtain ⟨t, ht⟩ : ∃ t, t = l[k]'hlt := ⟨_, rfl⟩
      rw [← ht] at hox
      have HTt : Hid (l[k]? = some t) := by show _ = _; rw [ht]; exact List.getElem?_eq_getElem hlt
      have hbt : OpBnd t := opBnd (HF.out t (by rw [ht]; exact List.getElem_mem hlt))
      clear ht HOA
      have HOA : Hid (∀ u, Below W.heap.size W u → OpAt u B gk (k * 7) t gx) := hox
      clear hox
      have hxt : x ≤ 400 := by have := HP.out.inv.top k x HHk.out; omega
      have HTop1 : Hid (nextO t x ≤ 2 * ((l.length : Int) - (openN H : Int)) + 2) := by have := HP.out.inv.top k x HHk.out; have := next_le hbt.take.1 x; show _ ≤ _; omega
      have HI1 : Hid (HInv l H) := HP.out.inv
      have HRk : Hid (Rch l k x) := by
        rcases HP.out.inv.only k x HHk.out with e | e
        · omega
        · exact e.2
      have HHi : Hid (Calls Tryz.prog 194 #[.pointer (some ⟨gk, k * 7, none⟩), .int .i64 x] wr fun e w' => e = .returned (.bool (okO t x)) ∧ w' = wr) := l10High_any t x B gk (k * 7) gx wr (HOA.out wr HB.out) hbt
      have HTk : Hid (Calls Tryz.prog 195 #[.pointer (some ⟨gk, k * 7, none⟩)] wr fun e w' => e = .returned (.tuple #[.int .i64 (takeO t), .int .i64 (putO t)]) ∧ w' = wr) := l10Takes_any t B gk (k * 7) gx wr (HOA.out wr HB.out) hbt
      have HEn : Hid (Calls Tryz.prog 196 #[.int .i64 t.kind] wr fun e w' => e = .returned (.bool (endsO t)) ∧ w' = wr) := l10Ends_any t wr hbt
      have q0 := (HOA.out wr HB.out).c0
      have htk := hbt.take
      obtain ⟨K1, hK1⟩ : ∃ K, K = takeO t := ⟨_, rfl⟩
      obtain ⟨K2, hK2⟩ : ∃ K, K = putO t := ⟨_, rfl⟩
      obtain ⟨N, hN⟩ : ∃ N, N = x - K1 + K2 := ⟨_, rfl⟩
      have HN : Hid (N = nextO t x) := by show _ = _; rw [hN, hK1, hK2]; rfl
      have HN2 : Hid (x - K1 + K2 = N) := hN.symm
      rw [← hK1, ← hK2] at HTk htk
      obtain ⟨t1, t2, t3, t4⟩ := htk
      clear hK1 hK2 hN
      cases hok : okO t x
      · have HNo : Hid (NoH l) := noH_bad HRk.out HTt.out hok
        rw [hok] at HHi
        clear hok
        go_wp2_with fail
        refine HHi.out.mono ?_
        rintro e w' ⟨rfl, hw'⟩
        replace hw' := hw'.symm
        subst hw'
        go_wp2
        exact bodyPost_ret (v := .tuple #[.bool false, .bool false]) (by simp [results, Tryz.results154, go_sem]) rfl ⟨false, false, H, rfl, HO.out, HB.out, fun _ => HNo.out, fun h => by cases h⟩
      have HOk : Hid (okO t x = true) := hok
      rw [hok] at HHi
      clear hok
      go_wp2_with fail
      refine HHi.out.mono ?_
      rintro e w' ⟨rfl, hw'⟩
      replace hw' := hw'.symm
      subst hw'
      clear HHi
      go_wp2_with fail
      refine HTk.out.mono ?_
      rintro e w' ⟨rfl, hw'⟩
      replace hw' := hw'.symm
      subst hw'
      clear HTk
      go_wp2_with fail
      rw [HN2.out]
      refine HEn.out.mono ?_
      rintro e w' ⟨rfl, hw'⟩
      replace hw' := hw'.symm
      subst hw'
      clear HEn p0 q0 s1
      cases hE : endsO t
      · have HE : Hid (endsO t = false) := hE
        clear hE
        obtain ⟨n1, o1, H1', e1⟩ : ∃ n1 o1 H1', leadF H ((k + 1 : Nat) : Int) (nextO t x) = (n1, o1, H1') := ⟨_, _, _, rfl⟩
        have HL1 : Hid (Calls Tryz.prog 197 #[.slice (some ⟨gh, 0, none⟩) l.length cap, .int .i64 ((k : Int) + 1), .int .i64 N] wr fun e w' => e = .returned (.tuple #[.bool n1, .bool o1]) ∧ w'.ownsRow W.heap.size 2 1 (.slice (some ⟨gh, 0, none⟩) l.length cap) l.length (cellsI H1') ∧ Below W.heap.size wr w') := by
          have := l10Lead_any H ((k + 1 : Nat) : Int) (nextO t x) W.heap.size gh cap l.length wr HLen1.out hl (by omega) (by omega) HO.out
          rw [e1] at this
          rw [HN.out]
          exact this
        have HST1 : Hid ((o1 = false → NoH l) ∧ (o1 = true → HInv l H1' ∧ openN H1' ≤ openN H)) := by
          have hlv : leavesO t = false := by have := HE.out; unfold endsO at this; simp only [Bool.or_eq_false_iff] at this; exact this.2
          have s := lead_step HI1.out (HRk.out.lead ⟨t, HTt.out, rfl, .inl ⟨HE.out, rfl⟩⟩) (next_pos hlv HOk.out) HTop1.out e1
          refine ⟨s.1, fun h => ?_⟩
          obtain ⟨a, _, c, d, _⟩ := s.2 h
          refine ⟨a, ?_⟩
          cases n1
          · rw [c rfl]; exact Nat.le_refl _
          · have := d rfl; omega
        have HL1e : Hid (leadF H ((k + 1 : Nat) : Int) (nextO t x) = (n1, o1, H1')) := e1
        clear e1
        go_wp2_with fail
        refine HL1.out.mono ?_
        rintro e w2 ⟨rfl, o2', b2⟩
        have HO2 : Hid (w2.ownsRow W.heap.size 2 1 (.slice (some ⟨gh, 0, none⟩) l.length cap) l.length (cellsI H1')) := o2'
        have HB2 : Hid (Below W.heap.size W w2) := HB.out.trans b2
        clear o2' b2 HL1
        cases o1
        · have HNo : Hid (NoH l) := HST1.out.1 rfl
          go_wp2
          exact bodyPost_ret (v := .tuple #[.bool false, .bool false]) (by simp [results, Tryz.results154, go_sem]) rfl ⟨false, false, H1', rfl, HO2.out, HB2.out, fun _ => HNo.out, fun h => by cases h⟩
        clear HLen1
        have HI1' : Hid (HInv l H1') := (HST1.out.2 rfl).1
        have HTop1' : Hid (nextO t x ≤ 2 * ((l.length : Int) - (openN H1' : Int)) + 2) := by have := (HST1.out.2 rfl).2; have := HTop1.out; show _ ≤ _; omega
        clear HI1 HTop1
        have HI1 : Hid (HInv l H1') := HI1'.out
        have HTop1 : Hid (nextO t x ≤ 2 * ((l.length : Int) - (openN H1' : Int)) + 2) := HTop1'.out
        have HLen1 : Hid (H1'.length = l.length) := HI1.out.len
        clear HI1' HTop1' HST1
        cases u <;> cases n1
        all_goals
          have HTg : Hid (Calls Tryz.prog 153 #[.pointer (some ⟨gk, k * 7, none⟩)] w2 fun e w' => e = .returned (.int .i64 (tgtO t)) ∧ w' = w2) := l9Target_any t B gk (k * 7) gx w2 (HOA.out w2 HB2.out)
          obtain ⟨T, hT⟩ : ∃ T, T = tgtO t := ⟨_, rfl⟩
          rw [← hT] at HTg
          go_wp2_with fail
          refine HTg.out.mono ?_
          rintro e w' ⟨rfl, hw'⟩
          replace hw' := hw'.symm
          subst hw'
          clear HTg
          cases hH : hasT t
          · have hTn : T = -1 := by rw [hT]; exact tgt_none hH
            have HP2 : Hid (PassI l H0 H1' (k + 1) (_ || _ || false)) := HP.out.step HTt.out HHk.out hx HOk.out (.inl ⟨HE.out, HL1e.out⟩) (.inr ⟨hH, rfl, rfl⟩) (fun e => by rw [hH] at e; cases e) hbt.take.1
            subst hTn
            clear hT hH
            go_wp2
            exact ⟨⟨k + 1, _, H1', by omega, by first | rfl | simp, by go_num, by show PassI _ _ _ _ _; simpa using HP2.out, HO2.out, HB2.out⟩, by simp [RowKit.intOf]; omega⟩
          · have hTb := hbt.tgt hH
            rw [← hT] at hTb
            have hT0 : (0 : Int) ≤ T := hTb.1
            obtain ⟨n2, o2, H2, e2⟩ : ∃ n2 o2 H2, leadF H1' T (nextO t x) = (n2, o2, H2) := ⟨_, _, _, rfl⟩
            have HL2 : Hid (Calls Tryz.prog 197 #[.slice (some ⟨gh, 0, none⟩) l.length cap, .int .i64 T, .int .i64 N] w2 fun e w' => e = .returned (.tuple #[.bool n2, .bool o2]) ∧ w'.ownsRow W.heap.size 2 1 (.slice (some ⟨gh, 0, none⟩) l.length cap) l.length (cellsI H2) ∧ Below W.heap.size w2 w') := by
              have := l10Lead_any H1' T (nextO t x) W.heap.size gh cap l.length w2 HLen1.out hl (by omega) (by omega) HO2.out
              rw [e2] at this
              rw [HN.out]
              exact this
            have HST : Hid ((o2 = false → NoH l) ∧ (o2 = true → PassI l H0 H2 (k + 1) (_ || _ || n2))) := ⟨fun h => by
                subst h
                have s := lead_step HI1.out (HRk.out.lead (i := T.toNat) ⟨t, HTt.out, rfl, .inr ⟨hH, by omega⟩⟩) (next_pos (hasT_leaves hH) HOk.out) HTop1.out (n := n2) (o := false) (H' := H2) (by rw [show ((T.toNat : Nat) : Int) = T by omega]; exact e2)
                exact s.1 rfl, fun h => by
                subst h
                exact HP.out.step HTt.out HHk.out hx HOk.out (.inl ⟨HE.out, HL1e.out⟩) (.inl ⟨hH, by rw [← hT]; exact e2⟩) (fun _ => by omega) hbt.take.1⟩
            clear hT hH e2
            go_wp2_with fail
            refine HL2.out.mono ?_
            rintro e w3 ⟨rfl, o3, b3⟩
            have HO3 : Hid (w3.ownsRow W.heap.size 2 1 (.slice (some ⟨gh, 0, none⟩) l.length cap) l.length (cellsI H2)) := o3
            have HB3 : Hid (Below W.heap.size W w3) := HB2.out.trans b3
            clear o3 b3 HL2
            cases o2
            · have HNo : Hid (NoH l) := HST.out.1 rfl
              clear HST
              go_wp2
              exact bodyPost_ret (v := .tuple #[.bool false, .bool false]) (by simp [results, Tryz.results154, go_sem]) rfl ⟨false, false, H2, rfl, HO3.out, HB3.out, fun _ => HNo.out, fun h => by cases h⟩
            · have HP2 := HST.out.2 rfl
              have HP3 : Hid (PassI l H0 H2 (k + 1) (_ || _ || n2)) := HP2
              clear HP2 HST
              go_wp2
              exact ⟨⟨k + 1, _, H2, by omega, by first | rfl | simp, by go_num, by show PassI _ _ _ _ _; simpa using HP3.out, HO3.out, HB3.out⟩, by simp [RowKit.intOf]; omega⟩
      · have HE : Hid (endsO t = true) := hE
        clear hE
        cases u
        all_goals
          have HTg : Hid (Calls Tryz.prog 153 #[.pointer (some ⟨gk, k * 7, none⟩)] wr fun e w' => e = .returned (.int .i64 (tgtO t)) ∧ w' = wr) := l9Target_any t B gk (k * 7) gx wr (HOA.out wr HB.out)
          obtain ⟨T, hT⟩ : ∃ T, T = tgtO t := ⟨_, rfl⟩
          rw [← hT] at HTg
          go_wp2_with fail
          refine HTg.out.mono ?_
          rintro e w' ⟨rfl, hw'⟩
          replace hw' := hw'.symm
          subst hw'
          clear HTg
          cases hH : hasT t
          · have hTn : T = -1 := by rw [hT]; exact tgt_none hH
            have HP2 : Hid (PassI l H0 H (k + 1) (_ || false || false)) := HP.out.step HTt.out HHk.out hx HOk.out (.inr ⟨HE.out, rfl, rfl⟩) (.inr ⟨hH, rfl, rfl⟩) (fun e => by rw [hH] at e; cases e) hbt.take.1
            subst hTn
            clear hT hH
            go_wp2
            exact ⟨⟨k + 1, _, H, by omega, by first | rfl | simp, by go_num, by show PassI _ _ _ _ _; simpa using HP2.out, HO.out, HB.out⟩, by simp [RowKit.intOf]; omega⟩
          · have hTb := hbt.tgt hH
            rw [← hT] at hTb
            have hT0 : (0 : Int) ≤ T := hTb.1
            obtain ⟨n2, o2, H2, e2⟩ : ∃ n2 o2 H2, leadF H T (nextO t x) = (n2, o2, H2) := ⟨_, _, _, rfl⟩
            have HL2 : Hid (Calls Tryz.prog 197 #[.slice (some ⟨gh, 0, none⟩) l.length cap, .int .i64 T, .int .i64 N] wr fun e w' => e = .returned (.tuple #[.bool n2, .bool o2]) ∧ w'.ownsRow W.heap.size 2 1 (.slice (some ⟨gh, 0, none⟩) l.length cap) l.length (cellsI H2) ∧ Below W.heap.size wr w') := by
              have := l10Lead_any H T (nextO t x) W.heap.size gh cap l.length wr HLen1.out hl (by omega) (by omega) HO.out
              rw [e2] at this
              rw [HN.out]
              exact this
            have HST : Hid ((o2 = false → NoH l) ∧ (o2 = true → PassI l H0 H2 (k + 1) (_ || false || n2))) := ⟨fun h => by
                subst h
                have s := lead_step HI1.out (HRk.out.lead (i := T.toNat) ⟨t, HTt.out, rfl, .inr ⟨hH, by omega⟩⟩) (next_pos (hasT_leaves hH) HOk.out) HTop1.out (n := n2) (o := false) (H' := H2) (by rw [show ((T.toNat : Nat) : Int) = T by omega]; exact e2)
                exact s.1 rfl, fun h => by
                subst h
                exact HP.out.step HTt.out HHk.out hx HOk.out (.inr ⟨HE.out, rfl, rfl⟩) (.inl ⟨hH, by rw [← hT]; exact e2⟩) (fun _ => by omega) hbt.take.1⟩
            clear hT hH e2
            go_wp2_with fail
            refine HL2.out.mono ?_
            rintro e w3 ⟨rfl, o3, b3⟩
            have HO3 : Hid (w3.ownsRow W.heap.size 2 1 (.slice (some ⟨gh, 0, none⟩) l.length cap) l.length (cellsI H2)) := o3
            have HB3 : Hid (Below W.heap.size W w3) := HB.out.trans b3
            clear o3 b3 HL2
            cases o2
            · have HNo : Hid (NoH l) := HST.out.1 rfl
              clear HST
              go_wp2
              exact bodyPost_ret (v := .tuple #[.bool false, .bool false]) (by simp [results, Tryz.results154, go_sem]) rfl ⟨false, false, H2, rfl, HO3.out, HB3.out, fun _ => HNo.out, fun h => by cases h⟩
            · have HP2 := HST.out.2 rfl
              have HP3 : Hid (PassI l H0 H2 (k + 1) (_ || false || n2)) := HP2
              clear HP2 HST
              go_wp2
              exact ⟨⟨k + 1, _, H2, by omega, by first | rfl | simp, by go_num, by show PassI _ _ _ _ _; simpa using HP3.out, HO3.out, HB3.out⟩, by simp [RowKit.intOf]; omega⟩
    · have e : k = l.length := by omega
      subst e
      clear HOA
      go_wp2
      exact bodyPost_ret (v := .tuple #[.bool u, .bool true]) (by simp [results, Tryz.results154, go_sem]) rfl ⟨u, true, H, rfl, HO.out, HB.out, (fun h => by cases h), fun _ => HP.out⟩
theorem HRel.no {b : Blk} {c : Int} {H : List Int} (hr : HRel b c H) (h0 : blkFault b = 0) (hn : leadsOut b.ops = true ∨ NoH b.ops) : c = 1 ∧ H = [] := by
  rcases hr with ⟨h, _, _⟩ | ⟨_, _, ho, hH⟩ | ⟨_, rfl, rfl, _⟩
  · exact absurd h0 h
  · rcases hn with hn | hn
    · rw [ho] at hn; cases hn
    · exact absurd ⟨H, hH⟩ hn
  · exact ⟨rfl, rfl⟩
theorem HRel.yes {b : Blk} {c : Int} {H H' : List Int} (hr : HRel b c H) (h0 : blkFault b = 0) (ho : leadsOut b.ops = false) (hH : IsHgt b.ops H') : c = 0 ∧ H = H' := by
  rcases hr with ⟨h, _, _⟩ | ⟨_, rfl, _, hH2⟩ | ⟨_, _, _, hn⟩
  · exact absurd h0 h
  · exact ⟨rfl, hH2.uniq hH⟩
  · rcases hn with hn | hn
    · rw [ho] at hn; cases hn
    · exact absurd ⟨H', hH⟩ hn
theorem HRel.fault {b : Blk} {c : Int} {H : List Int} (hr : HRel b c H) (h0 : blkFault b ≠ 0) : c = blkFault b ∧ H = [] := by
  rcases hr with ⟨_, h1, h2⟩ | ⟨h, _⟩ | ⟨h, _⟩
  · exact ⟨h1, h2⟩
  · exact absurd h h0
  · exact absurd h h0
def hi0 (j : Nat) : List Int := 0 :: List.replicate (j - 1) (-1)
theorem hi0_len (j : Nat) (h : 1 ≤ j) : (hi0 j).length = j := by simp [hi0]; omega
theorem hi0_next (j : Nat) (h : 1 ≤ j) : hi0 (j + 1) = hi0 j ++ [-1] := by
  obtain ⟨i, rfl⟩ : ∃ i, j = i + 1 := ⟨j - 1, by omega⟩
  simp [hi0, List.replicate_succ']
theorem openN_rep (n : Nat) : openN (List.replicate n (-1)) ≤ n := by have := openN_le (List.replicate n (-1)); simpa using this
theorem hi0_inv {l : List Opr} (h : 1 ≤ l.length) : HInv l (hi0 l.length) := by
  have key : ∀ (i : Nat) (x : Int), (hi0 l.length)[i]? = some x → (i = 0 ∧ x = 0) ∨ x = -1 := fun i x e => by
    cases i with
    | zero => left; simp [hi0] at e; exact ⟨rfl, e.symm⟩
    | succ i =>
      right
      rw [hi0, List.getElem?_cons_succ, List.getElem?_replicate] at e
      split at e
      · exact (Option.some.inj e).symm
      · cases e
  have hN : openN (hi0 l.length) ≤ l.length - 1 := by
    have := openN_rep (l.length - 1)
    simp [hi0, openN]; exact this
  refine ⟨hi0_len _ h, fun i x e => ?_, fun i x e => ?_⟩
  · rcases key i x e with ⟨rfl, rfl⟩ | h
    · exact .inr ⟨Int.le_refl _, Rch.zero l⟩
    · exact .inl h
  · rcases key i x e with ⟨rfl, rfl⟩ | h <;> omega
def hAt (w : World) (g n : Nat) : List Int := (List.range n).map (fun k => match w.cell? ⟨g, k, none⟩ with | some (.int _ x) => x | _ => 0)
theorem hAt_own {w : World} {base g cap n : Nat} {H : List Int} (hn : H.length = n) (h : w.ownsRow base 2 1 (.slice (some ⟨g, 0, none⟩) n cap) n (cellsI H)) : hAt w g n = H := by
  subst hn
  apply List.ext_getElem
  · simp [hAt]
  · intro k h1 h2
    simp [hAt, rowI_at h k h2]
theorem leadsOut_hit {l : List Opr} (k : Nat) (h : k < l.length) (hc : outO1 l.length l[k] = true) : leadsOut l = true := List.any_eq_true.2 ⟨l[k], List.getElem_mem h, hc⟩
theorem leadsOut_none {l : List Opr} (h : ∀ (k : Nat) (hk : k < l.length), k < l.length → outO1 l.length l[k] = false) : leadsOut l = false := by
  unfold leadsOut
  rw [List.any_eq_false]
  intro t ht
  obtain ⟨k, hk, rfl⟩ := List.getElem_of_mem ht
  rw [h k hk hk]; decide
def AnsH (c : Int) (H : List Int) (w : World) (e : Ending) (w' : World) : Prop :=
  ∃ ao cap, e = .returned (.tuple #[.slice ao H.length cap, .int .i64 c]) ∧ w'.ownsRow w.heap.size 2 1 (.slice ao H.length cap) H.length (cellsI H) ∧ Below w.heap.size w w'
set_option maxRecDepth 100000 in
set_option maxHeartbeats 2000000 in
theorem l10Heights_any (b : Blk) (c : Int) (H : List Int) (B g o gk : Nat) (w : World) (hs : b.small) (h0 : w.cell? ⟨g, o, none⟩ = some (.int .i64 b.args)) (h1 : w.cell? ⟨g, o + 1, none⟩ = some (.slice (some ⟨gk, 0, none⟩) b.ops.length b.ops.length)) (hO : RowOp w B gk b.ops) (hr : HRel b c H) :
    Calls Tryz.prog 112 #[.pointer (some ⟨g, o, none⟩)] w fun e w' => AnsH c H w e w' := by
  have HF : Hid (Calls Tryz.prog 111 #[.pointer (some ⟨g, o, none⟩)] w fun e w' => e = .returned (.int .i64 (blkFault b)) ∧ Below w.heap.size w w') := l9Block_any b B g o gk w hs h0 h1 hO
  have HR : Hid (HRel b c H) := hr
  have H1 : Hid (∀ u, Below w.heap.size w u → u.cell? ⟨g, o + 1, none⟩ = some (.slice (some ⟨gk, 0, none⟩) b.ops.length b.ops.length)) := fun u hu => cell_keep hu h1
  have HRo : Hid (∀ u, Below w.heap.size w u → RowOp u B gk b.ops) := fun u hu => hO.below hu
  obtain ⟨R, hR⟩ : ∃ R, R = blkFault b := ⟨_, rfl⟩
  rw [← hR] at HF
  have HRf : Hid (R = blkFault b) := hR
  obtain ⟨i0, hi, hz0, hz1, hz2⟩ := info_parts infoI
  clear hR hr h0 h1 hO hs
  go_enter Tryz.func112, Tryz.ntmps112
  go_wp2_with fail
  refine HF.out.mono ?_
  rintro e w1 ⟨rfl, b1⟩
  have HB1 : Hid (Below w.heap.size w w1) := b1
  have HNo : Hid (c = 1 ∧ H = [] → ∀ u, Below w.heap.size w u → AnsH c H w (.returned (.tuple #[.slice none 0 0, .int .i64 1])) u) := fun ⟨h1, h2⟩ u hu => ⟨none, 0, by rw [h1, h2]; rfl, by rw [h2]; exact nilOwn _ _, hu⟩
  clear b1 HF
  by_cases hc : R = 0
  · subst hc
    have h0 : Hid (blkFault b = 0) := HRf.out.symm
    have hlen := (blk_ops h0.out).1
    have HFt : Hid (∀ t ∈ b.ops, opFault t = 0) := (blk_ops h0.out).2.1
    have s1 := H1.out w1 HB1.out
    obtain ⟨l, hlb⟩ : ∃ l, l = b.ops := ⟨_, rfl⟩
    have HLb : Hid (b.ops = l) := hlb.symm
    rw [← hlb] at s1 hlen HFt HRo H1
    have HNo2 : Hid ((leadsOut l = true ∨ NoH l) → ∀ u, Below w.heap.size w u → AnsH c H w (.returned (.tuple #[.slice none 0 0, .int .i64 1])) u) := fun hx u hu => HNo.out (HR.out.no h0.out (by rw [HLb.out]; exact hx)) u hu
    have HYes : Hid (∀ H', leadsOut l = false → IsHgt l H' → c = 0 ∧ H = H') := fun H' ha hb => HR.out.yes h0.out (by rw [HLb.out]; exact ha) (by rw [HLb.out]; exact hb)
    clear HR HRf HNo h0 hlb HLb
    by_cases hl0 : l.length = 0
    · have HX : Hid (AnsH c H w (.returned (.tuple #[.slice none 0 0, .int .i64 1])) w1) := HNo2.out (.inr (by rw [List.length_eq_zero_iff.1 hl0]; exact noH_nil)) w1 HB1.out
      clear HNo2 HYes H1 HRo HFt
      go_wp2
      exact bodyPost_ret (v := .tuple #[.slice none 0 0, .int .i64 1]) (by simp [results, Tryz.results112, go_sem]) rfl HX.out
    have hl1 : 1 ≤ l.length := by omega
    have hl2 : ((l.length : Int) == 0) = false := by rw [beq_eq_false_iff_ne]; omega
    go_wp2_with fail
    clear s1
    go_loopw [5] (fun i wr => ∃ j : Nat, j ≤ l.length ∧ i = .int .i64 (j : Int) ∧ Hid (∀ (k : Nat) (hk : k < l.length), k < j → outO1 l.length l[k] = false) ∧ Hid (Below w1.heap.size w1 wr)) (fun i _ => l.length - (RowKit.intOf i).toNat)
    case atStart => exact ⟨0, Nat.zero_le _, rfl, fun k _ hk => by omega, Below.refl _ _⟩
    case round =>
      obtain ⟨j, hj, rfl, HJ, HBr⟩ := hrel
      have HBw : Hid (Below w.heap.size w wr) := HB1.out.trans (HBr.out.mono HB1.out.size)
      have s1 := H1.out wr HBw.out
      by_cases hlt : j < l.length
      · obtain ⟨gx, hox⟩ := (HRo.out wr HBw.out).at j hlt
        obtain ⟨t, ht⟩ : ∃ t, t = l[j]'hlt := ⟨_, rfl⟩
        rw [← ht] at hox
        obtain ⟨T, hT⟩ : ∃ T, T = tgtO t := ⟨_, rfl⟩
        have HTg : Hid (∀ p : BW wr, Calls Tryz.prog 153 #[.pointer (some ⟨gk, j * 7, none⟩)] p.x fun e w' => e = .returned (.int .i64 T) ∧ Below p.x.heap.size p.x w') := fun p => by
          rw [hT]
          exact (l9Target_any t B gk (j * 7) gx p.x (hox.below p.h)).mono fun e w' ⟨h1, h2⟩ => ⟨h1, by rw [h2]; exact Below.refl _ _⟩
        have HC : Hid (outO1 l.length (l[j]'hlt) = decide ((l.length : Int) ≤ T)) := by
          show _ = _
          rw [← ht, hT]
          unfold outO1
          cases hh : hasT t
          · have := tgt_none hh
            simp; omega
          · simp
        clear hox ht hT
        have a0 : ∀ p : BW wr, p.x.cell? ⟨g, o + 1, none⟩ = some (.slice (some ⟨gk, 0, none⟩) l.length l.length) := fun p => p.cell s1
        have hne := bw_some wr
        go_wp2_with fail
        refine wp_region_below (by kernel_rfl) (by kernel_rfl) ?_
        repeat (go_big_quiet_step ((go_at_call 153; exact calls_bw (HTg.out _))))
        refine wpQuiet_nil ?_
        intro wq hw'
        obtain ⟨⟨_, bq⟩, rfl⟩ := hw'
        have HB2 : Hid (Below w1.heap.size w1 wq) := HBr.out.trans (bq.mono HBr.out.size)
        have HBw2 : Hid (Below w.heap.size w wq) := HB1.out.trans (HB2.out.mono HB1.out.size)
        clear bq a0 hne HTg s1
        by_cases hge : (l.length : Int) ≤ T
        · have HX : Hid (AnsH c H w (.returned (.tuple #[.slice none 0 0, .int .i64 1])) wq) := HNo2.out (.inl (leadsOut_hit j hlt (by rw [HC.out]; simpa using hge))) wq HBw2.out
          clear HNo2 HYes H1 HRo HFt HJ
          go_wp2
          exact bodyPost_ret (v := .tuple #[.slice none 0 0, .int .i64 1]) (by simp [results, Tryz.results112, go_sem]) rfl HX.out
        · have HJ2 : Hid (∀ (k : Nat) (hk : k < l.length), k < j + 1 → outO1 l.length l[k] = false) := fun k hk hkj => by
            by_cases e : k < j
            · exact HJ.out k hk e
            · have : k = j := by omega
              subst this
              rw [HC.out]; simpa using hge
          clear HJ
          go_wp2
          exact ⟨⟨j + 1, by omega, by go_num, HJ2.out, HB2.out⟩, by simp [RowKit.intOf]; omega⟩
      · have HLo : Hid (leadsOut l = false) := leadsOut_none (fun k hk _ => HJ.out k hk (by omega))
        have hzw : w1.heap.size ≤ wr.heap.size := HBr.out.size
        clear HJ
        go_wp2_with fail
        clear s1 hj hlt
        go_loopw [6, 7] (fun v i wx => ∃ (j gh cap : Nat), 1 ≤ j ∧ j ≤ l.length ∧ v = .slice (some ⟨gh, 0, none⟩) j cap ∧ i = .int .i64 (j : Int) ∧ Hid (wx.ownsRow w1.heap.size 2 1 (.slice (some ⟨gh, 0, none⟩) j cap) j (cellsI (hi0 j))) ∧ Hid (Below w1.heap.size w1 wx)) (fun _ i _ => l.length - (RowKit.intOf i).toNat)
        case atStart =>
          refine ⟨1, wr.heap.size, 1, Nat.le_refl _, hl1, rfl, rfl, ?_, HBr.out.alloc hzw _⟩
          exact ⟨by simp [hi0, cellsI], .inr ⟨wr.heap.size, 1, _, rfl, hzw, heap_alloc_new wr _, Nat.le_refl _, by unfold maxLen; omega, by simp, by simp [hi0, cellsI]⟩⟩
        case round =>
          obtain ⟨j, gh, cap, hj1, hj, rfl, rfl, HO2, HBx⟩ := hrel
          have HBw2 : Hid (Below w.heap.size w wr) := HB1.out.trans (HBx.out.mono HB1.out.size)
          have s1 := H1.out wr HBw2.out
          have hzx : w1.heap.size ≤ wr.heap.size := HBx.out.size
          by_cases hlt : j < l.length
          · go_wp2_with (at_builtin; refine wpList_append_lies _ rfl (.tmp 53) (.tmp 54) 78 rfl w1.heap.size 2 i0 _ 1 8 Tryz.underlying78 hi hz0 hz1 hz2 rfl (by decide) _ j (cellsI (hi0 j)) rfl (HO2.out.alloc _) ⟨_, 0, none⟩ 1 1 [.int .i64 (-1)] rfl rfl ?c1 ?c2 (by decide) ?c3 ?c4 ?c5 _ rfl ?_)
            case c1 => exact newsI (heap_new' _ _ _ (by simp))
            case c2 => intro u hu; simp at hu; subst hu; rfl
            case c3 => unfold maxLen; omega
            case c4 => omega
            case c5 => simp; omega
            intro g' cap' w4 hown1 hgrow1 _ _
            have HO4 : Hid (w4.ownsRow w1.heap.size 2 1 (.slice (some ⟨g', 0, none⟩) (j + 1) cap') (j + 1) (cellsI (hi0 (j + 1)))) := by
              rw [hi0_next j hj1, cellsI_append]
              exact hown1
            have HB4 : Hid (Below w1.heap.size w1 w4) := (HBx.out.alloc hzx _).grown hgrow1 (by simp; omega) (fun k hk => (HO2.out.lt k hk).1)
            clear hown1 hgrow1 s1
            go_wp2
            exact ⟨⟨j + 1, g', cap', by omega, by omega, rfl, by go_num, HO4.out, HB4.out⟩, by simp [RowKit.intOf]; omega⟩
          · have e : j = l.length := by omega
            subst e
            go_wp2_with fail
            clear s1
            go_loopw [8] (fun _ wy => ∃ Hc : List Int, Hid (HInv l Hc) ∧ Hid (Hc[0]? = some 0) ∧ Hid (wy.ownsRow w1.heap.size 2 1 (.slice (some ⟨gh, 0, none⟩) l.length cap) l.length (cellsI Hc)) ∧ Hid (Below w1.heap.size w1 wy)) (fun _ wy => openN (hAt wy gh l.length))
            case atStart => exact ⟨hi0 l.length, hi0_inv hl1, by show _ = _; simp [hi0], HO2.out, HBx.out⟩
            case round =>
              obtain ⟨Hc, HI, HZ, HOc, HBy⟩ := hrel
              have HPs : Hid (Calls Tryz.prog 154 #[.pointer (some ⟨g, o, none⟩), .slice (some ⟨gh, 0, none⟩) l.length cap] wr fun e w' => ∃ u ok H, e = .returned (.tuple #[.bool u, .bool ok]) ∧ w'.ownsRow w1.heap.size 2 1 (.slice (some ⟨gh, 0, none⟩) l.length cap) l.length (cellsI H) ∧ Below w1.heap.size w1 w' ∧ (ok = false → NoH l) ∧ (ok = true → PassI l Hc H l.length u)) := l10Pass_any l Hc B g o gk gh cap w1 wr hlen HFt.out (H1.out w1 HB1.out) (HRo.out w1 HB1.out) HBy.out HOc.out HI.out HZ.out
              have HM : Hid (openN (hAt wr gh l.length) = openN Hc) := by show _ = _; rw [hAt_own HI.out.len HOc.out]
              go_wp2_with fail
              refine HPs.out.mono ?_
              rintro e w5 ⟨u, ok, H5, rfl, o5, b5, n5, p5⟩
              have HO5 : Hid (w5.ownsRow w1.heap.size 2 1 (.slice (some ⟨gh, 0, none⟩) l.length cap) l.length (cellsI H5)) := o5
              have HB5 : Hid (Below w1.heap.size w1 w5) := b5
              have HBw5 : Hid (Below w.heap.size w w5) := HB1.out.trans (b5.mono HB1.out.size)
              have HN5 : Hid (ok = false → NoH l) := n5
              have HP5 : Hid (ok = true → PassI l Hc H5 l.length u) := p5
              clear o5 b5 n5 p5 HPs
              cases ok
              · have HX : Hid (AnsH c H w (.returned (.tuple #[.slice none 0 0, .int .i64 1])) w5) := HNo2.out (.inr (HN5.out rfl)) w5 HBw5.out
                clear HNo2 HYes H1 HRo HFt HN5 HP5
                go_wp2
                exact bodyPost_ret (v := .tuple #[.slice none 0 0, .int .i64 1]) (by simp [results, Tryz.results112, go_sem]) rfl HX.out
              · have HP : Hid (PassI l Hc H5 l.length u) := HP5.out rfl
                clear HP5 HN5
                cases u
                · have HX : Hid (AnsH c H w (.returned (.tuple #[.slice (some ⟨gh, 0, none⟩) l.length cap, .int .i64 0])) w5) := by
                    obtain ⟨e1, e2⟩ := HYes.out H5 HLo.out HP.out.done
                    have e3 : H.length = l.length := by rw [e2]; exact HP.out.inv.len
                    exact ⟨some ⟨gh, 0, none⟩, cap, by rw [e1, e3], by rw [e3, e2]; exact own_base HO5.out HB1.out.size, HBw5.out⟩
                  clear HNo2 HYes H1 HRo HFt HP
                  go_wp2
                  exact bodyPost_ret (v := .tuple #[.slice (some ⟨gh, 0, none⟩) l.length cap, .int .i64 0]) (by simp [results, Tryz.results112, go_sem]) rfl HX.out
                · go_wp2
                  exact ⟨⟨H5, HP.out.inv, HP.out.first, HO5.out, HB5.out⟩, by rw [HM.out, hAt_own HP.out.inv.len HO5.out]; exact HP.out.less rfl⟩
  · have hcn : (R != 0) = true := by rw [bne_iff_ne]; exact hc
    have HX : Hid (AnsH c H w (.returned (.tuple #[.slice none 0 0, .int .i64 R])) w1) := by
      obtain ⟨h1, h2⟩ := HR.out.fault (by rw [← HRf.out]; exact hc)
      exact ⟨none, 0, by rw [h1, h2, HRf.out]; rfl, by rw [h2]; exact nilOwn _ _, HB1.out⟩
    clear hc HR HRf HNo
    go_wp2
    exact bodyPost_ret (v := .tuple #[.slice none 0 0, .int .i64 R]) (by simp [results, Tryz.results112, go_sem]) rfl HX.out
end Go.Proofs.YtoafolefecddmaaGreatDoor
