/-
  The program's iterator cellsFrom: the pairs from a word on, each pointed at; nothing that was there is turned but what the rounds own.
-/
import Derived.Test.YtbfhoennafopaaaCellsMath
import Derived.Test.YtbfhoennafopaaaSeqX
import Derived.Test.YtbfhoennafopaaaImplCons
import Derived.Shelf.Abstract
import Derived.OwnWalkIn
import Derived.TacticsInMore
import Derived.LoopNIn
import Derived.LoopIn
namespace Go.Proofs.Ytbfhoennafopaaa
open Go.RowKit Go.Extern.Stop Go.Stop Go.Extern Num Go.Lib Go.Shelf

attribute [local go_sem ↓] Go.wp_at_zero Go.wp_at_succ
set_option maxHeartbeats 1000000 in
theorem cellAt_any (B h k : Nat) (v : Value) (bs : List Nat) (cs : List (Wd × Wd)) (x : Wd) (w : World) (K : HpAt w B h v bs cs) (hn : cs.length ≤ 4000) (hk : k < bs.length) (hx : x.rest = (k : Int)) :
    Calls Try.prog 59 #[.pointer (some ⟨h, 0, none⟩), x.val] w fun e w' => e = .returned (.pointer (some ⟨bs[k], 0, none⟩)) ∧ Below w.heap.size w w' := by
  obtain ⟨a, c, rfl⟩ := own_form K.fd.2.1
  have c0 := K.fd.1
  have hlt := K.fd.lt
  obtain ⟨gQ, cQ, hvQ, _, _⟩ := K.fd.2.1.form (by omega)
  obtain ⟨rfl, rfl⟩ : a = some ⟨gQ, 0, none⟩ ∧ c = cQ := by simp at hvQ; exact hvQ
  clear hvQ
  have hbl : bs.length ≤ 4000 := by rw [K.len]; exact hn
  obtain ⟨b, hb⟩ : ∃ b, b = bs[k]'hk := ⟨_, rfl⟩
  have e0 : w.cell? ⟨gQ, k, none⟩ = some (.pointer (some ⟨b, 0, none⟩)) := by
    have ha : ∀ j, (⟨gQ, 0, none⟩ : Addr).add j = ⟨gQ, j, none⟩ := fun j => by unfold Addr.add; split <;> simp_all
    rw [← ha, hb]
    exact K.fd.2.1.cells (g := gQ) rfl k _ (by simp [ptrs, hk])
  rw [← hb]
  have hlg : gQ < w.heap.size := lt_of_cell e0
  obtain ⟨tg, rs⟩ := x
  simp only at hx
  subst hx
  have a1 : ∀ p : BW (w.alloc (.cells #[.int .u8 tg, .int .u64 (k : Int)] 59)), p.x.cell? ⟨w.heap.size, 1, none⟩ = some (.int .u64 (k : Int)) := fun p => p.cell (by rw [World.cell?_alloc_at _ _ _ _ rfl]; rfl)
  have a2 : ∀ p : BW (w.alloc (.cells #[.int .u8 tg, .int .u64 (k : Int)] 59)), p.x.cell? ⟨h, 0, none⟩ = some (.slice (some ⟨gQ, 0, none⟩) bs.length c) := fun p => p.cell (by rw [World.cell?_alloc_past _ _ _ hlt]; exact c0)
  have a3 : ∀ p : BW (w.alloc (.cells #[.int .u8 tg, .int .u64 (k : Int)] 59)), p.x.cell? ⟨gQ, k, none⟩ = some (.pointer (some ⟨b, 0, none⟩)) := fun p => p.cell (by rw [World.cell?_alloc_past _ _ _ hlg]; exact e0)
  have hne := bw_some (w.alloc (.cells #[.int .u8 tg, .int .u64 (k : Int)] 59))
  clear c0 e0 K hb
  have hki : (k : Int) < (bs.length : Int) := by omega
  show Calls Try.prog _ #[.pointer (some ⟨h, 0, none⟩), .agg #[.int .u8 tg, .int .u64 (k : Int)]] w _
  go_enter Try.func59, Try.ntmps59
  go_wp2_with fail
  refine wp_region_below (by kernel_rfl) (by kernel_rfl) ?_
  repeat (go_big_quiet_step (fail))
  refine wpQuiet_nil ?_
  intro wq hw'
  obtain ⟨⟨_, bq⟩, rfl⟩ := hw'
  clear a1 a2 a3 hne
  go_wp2
  go_ret
  exact ⟨rfl, ((Below.refl _ _).alloc (Nat.le_refl _) _).trans (bq.mono (by simp))⟩
/-- What the loop's own variable still leads to. -/
def msV (p : Value) (w : World) : Nat := match p with
  | .pointer (some a) => (match w.cell? ⟨a.block, 0, none⟩, w.cell? ⟨a.block, 1, none⟩ with | some (.int _ t), some (.int _ r) => if t = 5 then r.toNat + 1 else 0 | _, _ => 0)
  | _ => 0
theorem msV_of {b : Nat} {t r : Int} {w : World} (h0 : w.cell? ⟨b, 0, none⟩ = some (.int .u8 t)) (h1 : w.cell? ⟨b, 1, none⟩ = some (.int .u64 r)) : msV (.pointer (some ⟨b, 0, none⟩)) w = if t = 5 then r.toNat + 1 else 0 := by
  unfold msV; simp only [h0, h1]
theorem HpAt.low {w w1 : World} {B h n : Nat} {v : Value} {bs : List Nat} {cs : List (Wd × Wd)} (H : HpAt w B h v bs cs) (hn : w.heap.size = n) (hb : Below n w w1) : HpAt w1 B h v bs cs := H.keep (by rw [hn]; exact hb)
theorem roundIn_wide {P : Program} {n m l : Nat} {f : FuncId} {tmps : Array Value} {assign body : Code} {w : World} {R : Ending → World → Prop} (h : RoundIn Fence.wide n P l f tmps assign body w R) : RoundIn Fence.wide m P l f tmps assign body w R :=
  ⟨trivial, fun c cs _ => h.2 c cs (room_wide _)⟩
theorem kq_below {β : Type} {n₀ B : Nat} {M : World → Nat → Prop} {J : β → World → Prop} (hO : OwnM n₀ B M J) {s : β} {W W' : World} (hJ : J s W) (hb : Below W.heap.size W W') (hn : n₀ ≤ W.heap.size) : Kq n₀ M W W' := ⟨hb.mono hn, fun b hlt _ => hb.block b hlt, fun b _ hm => hO.read s W W' hJ (fun b hm => hb.block b (hO.lt hJ hm)) b hm⟩
theorem own_belowM {β : Type} {n₀ B : Nat} {M : World → Nat → Prop} {J : β → World → Prop} (hO : OwnM n₀ B M J) {s : β} {W W' : World} (hJ : J s W) (hb : Below W.heap.size W W') (hn : n₀ ≤ W.heap.size) (hB : B ≤ W.heap.size) : J s W' := hO.keep s W W' hJ (hb.mono hn) (fun b h => hb.block b (by omega)) (fun b h => hb.block b (hO.lt hJ h))
attribute [local go_sem] Oper.semAt_some
/-- The loop's own variable: a box of a word. -/
structure WBox (b : Nat) (x : Wd) (w : World) : Prop where
  c0 : w.cell? ⟨b, 0, none⟩ = some (.int .u8 x.tag)
  c1 : w.cell? ⟨b, 1, none⟩ = some (.int .u64 x.rest)
  fz : ∀ o, w.frozen? ⟨b, o, none⟩ = false
theorem WBox.new (w : World) (x : Wd) (t : TypeId) : WBox w.heap.size x (w.alloc (.cells #[.int .u8 x.tag, .int .u64 x.rest] t)) := ⟨by rw [World.cell?_alloc_at _ _ _ _ rfl]; rfl, by rw [World.cell?_alloc_at _ _ _ _ rfl]; rfl, fun o => by rw [World.frozen?_alloc_at _ _ _ _ rfl]⟩
theorem WBox.same {b : Nat} {x : Wd} {w w' : World} (h : WBox b x w) (hb : w'.heap[b]? = w.heap[b]?) : WBox b x w' := ⟨by rw [World.cell?_of_block (a := ⟨b, 0, none⟩) hb]; exact h.c0, by rw [World.cell?_of_block (a := ⟨b, 1, none⟩) hb]; exact h.c1, fun o => by rw [World.frozen?_of_block (a := ⟨b, o, none⟩) hb]; exact h.fz o⟩
theorem WBox.lt {b : Nat} {x : Wd} {w : World} (h : WBox b x w) : b < w.heap.size := lt_of_cell h.c0
theorem WBox.below {b : Nat} {x : Wd} {w w' : World} (h : WBox b x w) (hb : Below w.heap.size w w') : WBox b x w' := h.same (hb.block b h.lt)
set_option maxRecDepth 100000 in
set_option maxHeartbeats 2000000 in
theorem cells_seq (l : List Pai) (t : Vlu) (hh : heapFault l = 0) (hah : aheadV l.length t) (n₀ B h wb hb : Nat) (v : Value) (bs : List Nat) (w : World) (K : ∀ u, Below n₀ w u → HpAt u B h v bs (wordsP l)) (hn : n₀ ≤ w.heap.size) (hwb : WBox wb (wdOf t) w) (hhb : w.cell? ⟨hb, 0, none⟩ = some (.pointer (some ⟨h, 0, none⟩))) (M : World → Nat → Prop) (N : Nat → Prop) (hN : N hb) (hbs : ∀ (k : Nat) (hk : k < bs.length), bs[k] < n₀) :
    SeqX Try.prog 58 #[.pointer (some ⟨wb, 0, none⟩), .pointer (some ⟨hb, 0, none⟩)] (fun k : Nat => #[.pointer (some ⟨bs.getD k 0, 0, none⟩)]) n₀ (allI l t) w M N := fun y J W hW hnW hO hNM hY h0 => by
  have hlen : bs.length = l.length := by rw [(K w (Below.refl _ _)).len, wordsP_len]
  have hl4 := fault_len hh
  show Calls Try.prog _ #[.func (.yield y) #[] #[], .pointer (some ⟨wb, 0, none⟩), .pointer (some ⟨hb, 0, none⟩)] W _
  have hwbW := hwb.below hW
  have c0 := hwbW.c0
  have c1 := hwbW.c1
  have hF : ∀ f, Fence.wide.fn f := fun _ => trivial
  refine (callsIn_wide (n := 10)).1 ?_
  refine callsIn_of_wp Try.func58 rfl (hF _) ?_ rfl
  simp only [Try.ntmps58, List.size_toArray, List.length_cons, List.length_nil, Nat.reduceAdd, Nat.reduceSub, Array.replicate_succ, Array.replicate_zero, List.push_toArray, List.append_toArray, List.nil_append, List.cons_append]
  have j0 : J [] (W.alloc (.cells #[.int .u8 (wdOf t).tag, .int .u64 (wdOf t).rest] 59)) := hO.alloc h0 hnW (Nat.le_refl _) _
  have k0 : Kq n₀ M W (W.alloc (.cells #[.int .u8 (wdOf t).tag, .int .u64 (wdOf t).rest] 59)) := kq_alloc hO h0 hnW _
  have m0 : ¬ M (W.alloc (.cells #[.int .u8 (wdOf t).tag, .int .u64 (wdOf t).rest] 59)) W.heap.size := fun hm => by have := hO.lt h0 (hO.allocM h0 _ hm); omega
  have x0 : WBox W.heap.size (wdOf t) (W.alloc (.cells #[.int .u8 (wdOf t).tag, .int .u64 (wdOf t).rest] 59)) := WBox.new W _ _
  gi_wp2
  gi_loopw [4, 5] (fun p _ wr => ∃ j b : Nat, p = .pointer (some ⟨b, 0, none⟩) ∧ Hid (J (idxV l j t) wr ∧ Kq n₀ M W wr ∧ W.heap.size ≤ b ∧ ¬ M wr b ∧ (idxV l j t).length = j) ∧ WBox b (wdOf (goV l j t)) wr) (fun p _ wr => msV p wr)
  case atStart => exact ⟨0, W.heap.size, rfl, ⟨j0, k0, Nat.le_refl _, m0, rfl⟩, x0⟩
  case round =>
    obtain ⟨j, b, rfl, HJ, hx⟩ := hrel
    obtain ⟨jJ, jK, hbW, hbM, hjl⟩ := HJ.out
    have hga := goV_ahead hh j l.length t (Nat.le_refl _) hah
    have hsr := jK.size
    have hbr := hx.lt
    by_cases hk : (goV l j t).kind = 5
    · obtain ⟨k, hkl, hnum, hkj, hgo, hhd, hix⟩ := step_at hh hah j hk
      have X0 := hx.c0
      have X1 := hx.c1
      rw [wd_tag hga.1.1, hk] at X0
      rw [wd_rest hga.1.1 hk, hnum] at X1
      have hbl : hb < w.heap.size := lt_of_cell hhb
      have hbM0 : ¬ M W hb := hNM _ W h0 hb hN
      have ch : wr.cell? ⟨hb, 0, none⟩ = some (.pointer (some ⟨h, 0, none⟩)) := (jK.cell (by have := hW.size; omega) hbM0).trans ((hW.cell (p := ⟨hb, 0, none⟩) hbl).trans hhb)
      have hKr := K wr ((hW.mono hn).trans jK.1)
      have hkb : k < bs.length := by omega
      have hW4 : (wordsP l).length ≤ 4000 := by rw [wordsP_len]; exact hl4
      have HC : Hid (CallsIn Fence.wide (10 - 1) Try.prog 59 #[.pointer (some ⟨h, 0, none⟩), .agg #[.int .u8 5, .int .u64 (k : Int)]] wr fun e w' => e = .returned (.pointer (some ⟨bs[k], 0, none⟩)) ∧ Below wr.heap.size wr w') := (callsIn_wide).2 (cellAt_any B h k v bs (wordsP l) ⟨5, (k : Int)⟩ wr hKr hW4 hkb rfl)
      have HD : Hid (∀ u, Below n₀ w u → u.cell? ⟨bs[k], 2, none⟩ = some (.int .u8 (wdOf (goV l (j + 1) t)).tag) ∧ u.cell? ⟨bs[k], 3, none⟩ = some (.int .u64 (wdOf (goV l (j + 1) t)).rest)) := fun u hu => by
        have hkw : k < (wordsP l).length := by rw [wordsP_len]; exact hkl
        have he := (K u hu).each k hkb hkw
        have e1 : (wordsP l)[k]'hkw = (wdOf (l[k]'hkl).head, wdOf (l[k]'hkl).tail) := by simp [wordsP]
        rw [e1] at he
        rw [hgo]
        exact ⟨he.c2, he.c3⟩
      have HP : Hid (idxV l j t ++ [k] <+: allI l t ∧ idxV l (j + 1) t = idxV l j t ++ [k]) := ⟨by
        rw [← hix]; unfold allI
        have := idxV_pre (l := l) (j + 1) (l.length - (j + 1)) t
        rwa [show j + 1 + (l.length - (j + 1)) = l.length by omega] at this, hix⟩
      have hgd : bs.getD k 0 = bs[k] := by simp [hkb]
      have hms : msV (.pointer (some ⟨b, 0, none⟩)) wr = k + 1 := by rw [msV_of X0 X1]; simp
      have HMS : Hid (msV (.pointer (some ⟨b, 0, none⟩)) wr = k + 1 ∧ ((goV l (j + 1) t).kind = 5 → (goV l (j + 1) t).num.toNat < k)) := ⟨hms, fun h5 => by
        have := pair_ahead hh k hkl
        rw [hgo] at h5 ⊢
        have := this.2.2 h5
        omega⟩
      have HJL : Hid ((idxV l j t).length = j) := hjl
      have hv1 : vfault (goV l (j + 1) t) = 0 := (goV_ahead hh (j + 1) l.length t (Nat.le_refl _) hah).1.1
      have HV1 : Hid (vfault (goV l (j + 1) t) = 0) := hv1
      clear hms hgo hhd hix hnum hjl hv1
      have HBK : Hid (bs[k] < n₀) := hbs k hkb
      generalize bs[k] = bk at HC HD hgd HBK
      gi_wp2_with fail
      refine HC.out.mono ?_
      rintro e w2 ⟨rfl, b2⟩
      have j2 : J (idxV l j t) w2 := own_belowM hO jJ b2 (by omega) hsr
      have k2 : Kq n₀ M W w2 := jK.trans (kq_below hO jJ b2 (by omega))
      have hb2 : ¬ M w2 b := fun hm => hbM ((kq_below hO jJ b2 (by omega : n₀ ≤ wr.heap.size)).2.2 b hbr hm)
      have hx2 := hx.below b2
      obtain ⟨kk, fn, tmps, assign, body, hy, hR⟩ := hY (idxV l j t) k w2 j2 HP.out.1 k2.size
      rw [hgd] at hy
      have hR' := roundIn_wide (m := 10 - 1) hR
      clear hR hY HC X0 X1 ch
      have hbn : n₀ ≤ b := by omega
      gi_wp2_with (refine hR'.mono ?_; rintro r w3 ⟨rfl, j3, k3⟩; have hx3 : WBox b (wdOf (goV l j t)) w3 := hx2.same (k3.2.1 b hx2.lt hb2); have q0 := hx3.c0; have q1 := hx3.c1; have qf := hx3.fz; have qd := HD.out w3 ((hW.mono hn).trans (k2.trans k3).1); have d2 := qd.1; have d3 := qd.2)
      have hne : bk ≠ b := fun e => by
        have h1 : bk < n₀ := HBK.out
        omega
      obtain ⟨x', hx'⟩ : ∃ x', x' = wdOf (goV l (j + 1) t) := ⟨_, rfl⟩
      rw [← hx']
      obtain ⟨w4, hw4⟩ : ∃ w4, w4 = (w3.setCell ⟨b, 0, none⟩ (.int .u8 x'.tag)).setCell ⟨b, 1, none⟩ (.int .u64 x'.rest) := ⟨_, rfl⟩
      rw [← hw4]
      have same4 : ∀ c, c ≠ b → w4.heap[c]? = w3.heap[c]? := fun c hc => by rw [hw4]; exact (Below.heap_setCell _ _ _ _ hc).trans (Below.heap_setCell _ _ _ _ hc)
      have s4 : w4.heap.size = w3.heap.size := by rw [hw4]; simp
      have b4 : Below n₀ w3 w4 := by rw [hw4]; exact ((Below.refl _ _).setCell hbn _).setCell hbn _
      have m3 : ¬ M w3 b := fun hm => hb2 (k3.2.2 b hx2.lt hm)
      have j3' : J (idxV l (j + 1) t) w3 := by rw [HP.out.2]; exact j3
      have hs3 : W.heap.size ≤ w3.heap.size := (k2.trans k3).size
      have j4 : J (idxV l (j + 1) t) w4 := hO.keep _ w3 w4 j3' b4 (fun c hc => same4 c (by omega)) (fun c hc => same4 c (fun e => m3 (e ▸ hc)))
      have k4 : Kq n₀ M W w4 := kq_turn hO j3' (k2.trans k3) hbW m3 b4 same4
      have xn := WBox.new w4 x' 59
      rw [s4] at xn
      refine ⟨⟨j + 1, w3.heap.size, rfl, ⟨hO.alloc j4 (by omega) (by omega) _, k4.trans (kq_alloc hO j4 (by omega) _), hs3, fun hm => ?_, ?_⟩, by rw [← hx']; exact xn⟩, ?_⟩
      · have := hO.lt j4 (hO.allocM j4 _ hm); omega
      · rw [HP.out.2, List.length_append, HJL.out]; rfl
      · rw [HMS.out.1, msV_of xn.c0 xn.c1, hx']
        by_cases h5 : (goV l (j + 1) t).kind = 5
        · rw [wd_tag HV1.out, if_pos h5, wd_rest HV1.out h5]
          have := HMS.out.2 h5
          omega
        · rw [wd_tag HV1.out, if_neg h5]; omega
    · have hk' : ((wdOf (goV l j t)).tag == 5) = false := by rw [wd_tag hga.1.1]; simpa using hk
      have X0 := hx.c0
      have hall := allI_at hh hah hk
      have JL : J (allI l t) wr := by rw [hall]; exact jJ
      clear hall
      gi_wp2
      exact bodyPost_end (v := .tuple #[]) (by simp [results, Try.results58]) rfl ⟨⟨_, rfl⟩, JL, hsr⟩
end Go.Proofs.Ytbfhoennafopaaa
