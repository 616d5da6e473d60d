/-
  Parts of the proof laid into one text, one behind the other; each says at its head what is proved in it.
-/
import Derived.Test.YtebnonpdaddniaaGreatDoorHtM
/-
  The program's up over a tree of cores, told with what was told; and paramsOut: how many parameters the lambda has that is so many out; nothing that was there is turned.
-/
namespace Go.Proofs.YtebnonpdaddniaaGreatDoor
open Go.RowKit Go.Extern.Stop Go.Stop Go.Extern Num Go.Lib Go.Shelf
attribute [local go_sem] Oper.semAt_some

set_option maxRecDepth 100000 in
set_option maxHeartbeats 2000000 in
theorem up2_inC (F : Fence) (n : Nat) (hF : ∀ f, F.fn f) (hro : F.round = none) (hn : 1 ≤ n) (l ba bt n₀ lo hi tb : Nat) (N : List (Cor × Value)) (hp : ParsC N) (a : Int) (ha : -1 ≤ a) (ha2 : a < N.length) (J Jx : List Int → World → Prop)
    (hY : ∀ pre x W, J pre W → pre ++ [x] <+: upLC N a → YieldAt F (n - 1) Tryz.prog l #[.int .i64 x] W fun e W' =>
      (e = .returned (.bool true) ∧ J (pre ++ [x]) W' ∧ Kpx n₀ lo hi W W') ∨ (e = .returned (.bool false) ∧ Jx (pre ++ [x]) W'))
    (W : World) (hBa : W.cell? ⟨ba, 0, none⟩ = some (.int .i64 a)) (hBt : W.cell? ⟨bt, 0, none⟩ = some (.pointer (some ⟨tb, 0, none⟩))) (hlo : lo ≤ bt) (hhi : bt < hi) (hT : IsTreeC n₀ W tb N) (h0 : J [] W) :
    CallsIn F n Tryz.prog 231 #[.func (.yield l) #[] #[], .pointer (some ⟨ba, 0, none⟩), .pointer (some ⟨bt, 0, none⟩)] W fun e W' => (∃ v, e = .returned v) ∧
      ((∃ ys, ys = upLC N a ∧ J ys W') ∨ (∃ pre, pre <+: upLC N a ∧ Jx pre W')) := by
  refine callsIn_of_wp Tryz.func231 rfl (hF _) ?_ hro
  simp only [Tryz.ntmps231, List.size_toArray, List.length_cons, List.length_nil, Nat.reduceAdd, Nat.reduceSub, Array.replicate_succ, Array.replicate_zero, List.push_toArray, List.append_toArray, List.nil_append, List.cons_append]
  gi_wp2
  gi_loopw [4] (fun i wr => ∃ (q : Int) (pre : List Int), i = .int .i64 q ∧ -1 ≤ q ∧ q < N.length ∧ upLC N a = pre ++ upLC N q ∧ J pre wr ∧ Kpx n₀ lo hi W wr)
    (fun i _ => (RowKit.intOf i + 1).toNat)
  case atStart => exact ⟨a, [], rfl, ha, ha2, rfl, h0, kpx_refl _ _ _ _⟩
  case round =>
    obtain ⟨q, pre, rfl, hq1, hq2, hup, hJs, hnx⟩ := hrel
    by_cases hq : q = -1
    · subst hq
      gi_wp2
      go_end0
      exact ⟨⟨_, rfl⟩, .inl ⟨pre, by rw [hup, upL_negC]; simp, hJs⟩⟩
    · obtain ⟨k, rfl⟩ : ∃ k : Nat, q = (k : Int) := ⟨q.toNat, by omega⟩
      have hk : k < N.length := by omega
      have hne : ((k : Int) != -1) = true := by simp
      have e1 := upL_atC hp k hk
      have hpk := hp k hk
      obtain ⟨fn, tmps, assign, body, hy, hR⟩ := hY pre (k : Int) wr hJs (by rw [hup, e1]; exact ⟨upLC N N[k].1.parent, by simp⟩)
      replace hup : upLC N a = (pre ++ [(k : Int)]) ++ upLC N N[k].1.parent := by rw [hup, e1]; simp
      clear e1
      gi_wp2
      refine hR.mono ?_
      rintro e W3 (⟨rfl, hJ3, hk3⟩ | ⟨rfl, hJx3⟩)
      · obtain ⟨ao, g, cap, hc, htb, hg, hao, hrow⟩ := (hT.below hnx.1).below hk3.1
        obtain rfl := hao (by intro h; rw [h] at hk; simp at hk)
        have hc3 : W3.cell? ⟨bt, 0, none⟩ = some (.pointer (some ⟨tb, 0, none⟩)) := ((kpx_t hnx hk3).cell hlo hhi).trans hBt
        have hr3 := (hrow k hk).1
        gi_wp2
        go_roundw
        case rel => exact ⟨N[k].1.parent, pre ++ [(k : Int)], rfl, hpk.2, by omega, hup, hJ3, kpx_t hnx hk3⟩
        case measure => simp [RowKit.intOf]; omega
      · gi_wp2
        go_end0
        exact ⟨⟨_, rfl⟩, .inr ⟨pre ++ [(k : Int)], ⟨_, hup.symm⟩, hJx3⟩⟩
theorem up_seqC (F : Fence) (n : Nat) (hF : ∀ f, F.fn f) (hro : F.round = none) (hn : 1 ≤ n) (ba bt n₀ lo hi tb B : Nat) (N : List (Cor × Value)) (hp : ParsC N) (a : Int) (ha : -1 ≤ a) (ha2 : a < N.length) (w : World) (hn₀ : n₀ ≤ w.heap.size)
    (hBa : w.cell? ⟨ba, 0, none⟩ = some (.int .i64 a)) (hBt : w.cell? ⟨bt, 0, none⟩ = some (.pointer (some ⟨tb, 0, none⟩))) (hlo : lo ≤ bt) (hhi : bt < hi) (hhi2 : hi ≤ w.heap.size) (hba : ba < w.heap.size) (hT : IsTreeC n₀ w tb N) :
    SeqO F n Tryz.prog 231 #[.pointer (some ⟨ba, 0, none⟩), .pointer (some ⟨bt, 0, none⟩)] (fun x : Int => #[Value.int .i64 x]) B 0 (Kpx n₀ lo hi) (fun ys => ys = upLC N a) (fun pre => pre <+: upLC N a) (fun pre x => pre ++ [x] <+: upLC N a) w := fun l J Jx W hWB hW hJ _ hY h0 => by
  refine (up2_inC F n hF hro hn l ba bt n₀ lo hi tb N hp a ha ha2 (fun pre W => J pre W ∧ B ≤ W.heap.size) Jx ?_ W ((hW.cell (p := ⟨ba, 0, none⟩) hba).trans hBa) ((hW.cell (p := ⟨bt, 0, none⟩) (by show bt < _; omega)).trans hBt) hlo hhi (hT.below (hW.mono hn₀)) ⟨h0, by omega⟩).mono ?_
  · rintro pre x W1 ⟨hJ1, hs1⟩ hpx
    refine (hY pre x W1 hJ1 hpx (by omega)).mono ?_
    rintro r W' ⟨⟨h1, h2⟩ | ⟨h1, h2⟩, h3, h4⟩
    · exact .inl ⟨h1, ⟨h2, Nat.le_trans hs1 h4.size⟩, h3⟩
    · exact .inr ⟨h1, h2⟩
  · rintro r W' ⟨hv, ⟨ys, rfl, hJ1, _⟩ | ⟨pre, hpre, hJ1⟩⟩
    · exact ⟨hv, .inl ⟨_, rfl, hJ1⟩⟩
    · exact ⟨hv, .inr ⟨pre, hpre, hJ1⟩⟩
/-- How many lambdas there are among places. -/
def lamN (l : List Cor) : List Int → Int
  | [] => 0
  | x :: r => (if kdC l x.toNat = 5 then 1 else 0) + lamN l r
theorem lamN_snoc (l : List Cor) (P : List Int) (x : Int) : lamN l (P ++ [x]) = lamN l P + (if kdC l x.toNat = 5 then 1 else 0) := by
  induction P with
  | nil => simp [lamN]
  | cons y r ih => simp only [List.cons_append, lamN, ih]; omega
theorem lamN_bound (l : List Cor) (P : List Int) : 0 ≤ lamN l P ∧ lamN l P ≤ P.length := by
  induction P with
  | nil => simp [lamN]
  | cons y r ih => simp only [lamN, List.length_cons]; split <;> omega
/-- The temporaries of a round. -/
abbrev actPO (s tb : Nat) (a out x : Int) : Act := { tmps := #[.pointer (some ⟨tb, 0, none⟩), .int .i64 a, .int .i64 out, .pointer (some ⟨s, 0, none⟩), undef, .pointer (some ⟨s + 1, 0, none⟩), .pointer (some ⟨s + 1 + 1, 0, none⟩), .pointer (some ⟨s + 1 + 1 + 1, 0, none⟩), .int .i64 x, undef, .pointer (some ⟨tb, 0, none⟩), .int .i64 a, .func (.func 231) #[] #[.pointer (some ⟨s + 1 + 1 + 1 + 1 + 1, 0, none⟩), .pointer (some ⟨s + 1 + 1 + 1 + 1, 0, none⟩)], .int .i64 x, undef, undef, undef, undef, undef, undef, undef, undef, undef, undef, undef, undef, undef, undef, undef, undef, undef, undef], defers := [] }
set_option maxRecDepth 100000 in
set_option maxHeartbeats 4000000 in
theorem paramsOut_in (n : Nat) (hn : 3 ≤ n) (tb : Nat) (N : List (Cor × Value)) (l : List Cor) (hN : N.map Prod.fst = l) (hp : ParsC N) (hl : N.length ≤ 1000) (hdv : ∀ x ∈ N, ∃ da dn dc, x.2 = .slice da dn dc) (a : Int) (ha : -1 ≤ a) (ha2 : a < N.length) (out : Int) (w : World) (hT : IsTreeC w.heap.size w tb N) :
    CallsIn Fence.wide n Tryz.prog 183 #[.pointer (some ⟨tb, 0, none⟩), .int .i64 a, .int .i64 out] w fun e W' => e = .returned (.int .i64 (poF l out (upLC N a) 0)) ∧ Below w.heap.size w W' := by
  have h1 : 1 ≤ n := by omega
  have hF : ∀ f, Fence.wide.fn f := fun _ => trivial
  refine callsIn_of_wp_marks Tryz.func183 rfl (hF _) ?_ rfl
  simp only [Tryz.ntmps183, List.size_toArray, List.length_cons, List.length_nil, Nat.reduceAdd, Nat.reduceSub, Array.replicate_succ, Array.replicate_zero, List.push_toArray, List.append_toArray, List.nil_append, List.cons_append]
  gi_wp2_with (first | (gi_at_call 210; refine (up_inC Fence.wide (n - 1) hF rfl _ _ _).mono ?_; rintro e w' ⟨rfl, rfl⟩))
  have c0 := Boxed.new w 87 (.pointer (some ⟨tb, 0, none⟩))
  have c1 := Boxed.new (w.alloc (.cells #[.pointer (some ⟨tb, 0, none⟩)] 87)) 2 (.int .i64 out)
  have c2 := Boxed.new ((w.alloc (.cells #[.pointer (some ⟨tb, 0, none⟩)] 87)).alloc (.cells #[.int .i64 out] 2)) 2 (.int .i64 0)
  have c3 := Boxed.new (((w.alloc (.cells #[.pointer (some ⟨tb, 0, none⟩)] 87)).alloc (.cells #[.int .i64 out] 2)).alloc (.cells #[.int .i64 0] 2)) 2 (.int .i64 0)
  have c4 := Boxed.new ((((w.alloc (.cells #[.pointer (some ⟨tb, 0, none⟩)] 87)).alloc (.cells #[.int .i64 out] 2)).alloc (.cells #[.int .i64 0] 2)).alloc (.cells #[.int .i64 0] 2)) 87 (.pointer (some ⟨tb, 0, none⟩))
  have c5 := Boxed.new (((((w.alloc (.cells #[.pointer (some ⟨tb, 0, none⟩)] 87)).alloc (.cells #[.int .i64 out] 2)).alloc (.cells #[.int .i64 0] 2)).alloc (.cells #[.int .i64 0] 2)).alloc (.cells #[.pointer (some ⟨tb, 0, none⟩)] 87)) 2 (.int .i64 a)
  simp only [World.size_alloc] at c1 c2 c3 c4 c5
  have hB0 : Below w.heap.size w ((((((w.alloc (.cells #[.pointer (some ⟨tb, 0, none⟩)] 87)).alloc (.cells #[.int .i64 out] 2)).alloc (.cells #[.int .i64 0] 2)).alloc (.cells #[.int .i64 0] 2)).alloc (.cells #[.pointer (some ⟨tb, 0, none⟩)] 87)).alloc (.cells #[.int .i64 a] 2)) := ((((((Below.refl _ w).alloc (Nat.le_refl _) _).alloc (by simp) _).alloc (by simp; omega) _).alloc (by simp; omega) _).alloc (by simp; omega) _).alloc (by simp; omega) _
  have hsz6 : ((((((w.alloc (.cells #[.pointer (some ⟨tb, 0, none⟩)] 87)).alloc (.cells #[.int .i64 out] 2)).alloc (.cells #[.int .i64 0] 2)).alloc (.cells #[.int .i64 0] 2)).alloc (.cells #[.pointer (some ⟨tb, 0, none⟩)] 87)).alloc (.cells #[.int .i64 a] 2)).heap.size = w.heap.size + 6 := by simp
  refine range_own rfl h1 (gf := 231) (lb := #[.pointer (some ⟨w.heap.size + 1 + 1 + 1 + 1 + 1, 0, none⟩), .pointer (some ⟨w.heap.size + 1 + 1 + 1 + 1, 0, none⟩)]) rfl (hF _) (enters_of Tryz.func231 (by kernel_rfl) rfl)
    (up_seqC Fence.wide (n - 1) hF rfl (by omega) (w.heap.size + 1 + 1 + 1 + 1 + 1) (w.heap.size + 1 + 1 + 1 + 1) w.heap.size (w.heap.size + 1 + 1 + 1 + 1) (w.heap.size + 1 + 1 + 1 + 1 + 1 + 1) tb _ N hp a ha ha2 _ (by simp; omega) c5.cell (c4.alloc _).cell (Nat.le_refl _) (by omega) (by simp) (by simp) (hT.below hB0)) kpx_t
    (fun X o o' g1 g2 g3 => kpx_b (w := ((((((w.alloc (.cells #[.pointer (some ⟨tb, 0, none⟩)] 87)).alloc (.cells #[.int .i64 out] 2)).alloc (.cells #[.int .i64 0] 2)).alloc (.cells #[.int .i64 0] 2)).alloc (.cells #[.pointer (some ⟨tb, 0, none⟩)] 87)).alloc (.cells #[.int .i64 a] 2))) (by simp; omega) (by simp) X _ o o' (by omega) g1 g2 g3) (Below.refl _ _) (fun _ => rfl)
    (fun pre W => ((∀ rest, poF l out (pre ++ rest) 0 = poF l out rest (lamN l pre)) ∧ Boxed W w.heap.size 87 (.pointer (some ⟨tb, 0, none⟩)) ∧ Boxed W (w.heap.size + 1) 2 (.int .i64 out) ∧ Boxed W (w.heap.size + 1 + 1) 2 (.int .i64 0) ∧ Boxed W (w.heap.size + 1 + 1 + 1) 2 (.int .i64 (lamN l pre))) ∧ Below w.heap.size w W)
    (fun c pre W => (c = .ret ∧ ∃ r, (∀ rest, poF l out (pre ++ rest) 0 = r) ∧ Boxed W (w.heap.size + 1 + 1) 2 (.int .i64 r)) ∧ Below w.heap.size w W)
    (OwnFrom.and (OwnFrom.and (ownFrom_pure _ _) (OwnFrom.and (Own.from (boxed_own _ _ _) _) (OwnFrom.and (Own.from (boxed_own _ _ _) _) (OwnFrom.and (Own.from (boxed_own _ _ _) _) (fun s A B row hs hg hr => (Own.from (boxed_own _ _ _) _ : OwnFrom _ (fun (_ : Unit) W => Boxed W (w.heap.size + 1 + 1 + 1) 2 (.int .i64 (lamN l s)))) () A B row hs hg hr))))) (ownFrom_below (Nat.le_refl _) (by simp; omega)))
    (fun c => OwnFrom.and (OwnFrom.and (ownFrom_pure _ _) (fun s A B row hs hg hr => by obtain ⟨r, h1, h2⟩ := hs; exact ⟨r, h1, (Own.from (boxed_own _ _ _) _ : OwnFrom _ (fun (_ : Unit) W => Boxed W (w.heap.size + 1 + 1) 2 (.int .i64 r))) () A B row h2 hg hr⟩)) (ownFrom_below (Nat.le_refl _) (by simp; omega)))
    ⟨⟨fun rest => rfl, ((((c0.alloc _).alloc _).alloc _).alloc _).alloc _, (((c1.alloc _).alloc _).alloc _).alloc _, ((c2.alloc _).alloc _).alloc _, (c3.alloc _).alloc _⟩, hB0⟩
    (fun x a' _ => a' = actPO w.heap.size tb a out x) (fun x a' s X X' row hs _ _ => hs) ?assign ?body ?done ?stop
  case assign =>
    intro l' pre x W K hI hK
    gi_wp2
    exact hK _ _ (KeepsFrom.refl _ _) (kpx_refl _ _ _ _) hI rfl
  case body =>
    rintro l' pre x a' W ⟨⟨hpo, b0, b1, b2, b3⟩, hB⟩ rfl hpx hmm
    have hx : x ∈ upLC N a := hpx.subset (by simp)
    obtain ⟨hx0, hxa⟩ := upL_mem hp (a + 1).toNat a ha2 (by omega) x hx
    obtain ⟨k, rfl⟩ : ∃ k : Nat, x = (k : Int) := ⟨x.toNat, by omega⟩
    have hk : k < N.length := by omega
    have hplen : pre.length ≤ N.length := by
      have g1 := hpx.length_le
      have g2 := upL_lenC hp N.length a ha2 ha2 ha
      simp at g1; omega
    have hlb := lamN_bound l pre
    obtain ⟨ao, g, cap, hc, htb, hg, hao, hrow⟩ := hT.below hB
    obtain rfl := hao (by intro h; rw [h] at hk; simp at hk)
    obtain ⟨r0, r1, r2, r3, r4, r5, r6⟩ := hrow k hk
    obtain ⟨da, dn, dc, hdk⟩ := hdv N[k] (List.getElem_mem hk)
    rw [hdk] at r6
    have HKd : Hid (kdC l k = N[k].1.kind) := by show _ = _; rw [← hN, kdC_at _ k (by simpa using hk)]; simp
    have HNa : Hid (naC l k = N[k].1.a) := by show _ = _; rw [← hN, naC_at _ k (by simpa using hk)]; simp
    have HLm := lamN_snoc l pre (k : Int)
    rw [Int.toNat_natCast, HKd.out] at HLm
    have HSt : Hid (∀ rest, poF l out (pre ++ [(k : Int)] ++ rest) 0 = if N[k].1.kind = 5 then (if lamN l pre = out then N[k].1.a else poF l out rest (lamN l pre + 1)) else poF l out rest (lamN l pre)) := fun rest => by
      rw [List.append_assoc, hpo]
      simp only [List.cons_append, List.nil_append, poF, Int.toNat_natCast, HKd.out, HNa.out]
    have q0 := b0.cell
    have q1 := b1.cell
    have q2 := b2.cell
    have f2 := b2.frozen
    have q3 := b3.cell
    have f3 := b3.frozen
    have hlt0 := b3.lt
    have hlt1 := b1.lt
    have hlt2 := b2.lt
    clear hrow hao hdk hpo hx hpx HKd HNa
    generalize N[k].1.parent = n0 at r0 r2 HSt HLm
    obtain ⟨kd, hkd⟩ : ∃ kd, kd = N[k].1.kind := ⟨_, rfl⟩
    rw [← hkd] at r1 HSt HLm
    clear hkd
    obtain ⟨na, hna⟩ : ∃ na, na = N[k].1.a := ⟨_, rfl⟩
    rw [← hna] at r3 HSt
    clear hna
    obtain ⟨lam, hlam⟩ : ∃ lam, lam = lamN l pre := ⟨_, rfl⟩
    rw [← hlam] at HSt HLm hlb q3 b3
    clear hlam
    by_cases hkd : kd = 5
    · subst hkd
      rw [if_pos rfl] at HLm
      by_cases hlo : lam = out
      · have hb1 : (lam == out) = true := by simpa using hlo
        have HS2 : Hid (∀ rest, poF l out (pre ++ [(k : Int)] ++ rest) 0 = na) := fun rest => by rw [HSt.out, if_pos rfl, if_pos hlo]
        clear HSt HLm
        gi_wp2
        exact ⟨((KeepsOthers.setCell _ _ _).from _).trans ((KeepsOthers.alloc _ _).from _), ⟨((Below.refl _ W).setCell (p := ⟨w.heap.size + 1 + 1, 0, none⟩) (by show _ ≤ _; simp <;> omega) _).alloc (by simp; omega) _, fun b l1 l2 => (Below.heap_alloc _ _ b (by simp; omega)).trans (Below.heap_setCell W ⟨w.heap.size + 1 + 1, 0, none⟩ _ b (by intro e; have : b = w.heap.size + 1 + 1 := e; omega))⟩, ⟨rfl, na, HS2.out, (b2.set _).alloc _⟩, (hB.setCell (p := ⟨w.heap.size + 1 + 1, 0, none⟩) (by show _ ≤ _; simp <;> omega) _).alloc (by simp; omega) _⟩
      · have hb1 : (lam == out) = false := by simpa using hlo
        have HS2 : Hid (∀ rest, poF l out (pre ++ [(k : Int)] ++ rest) 0 = poF l out rest (lam + 1)) := fun rest => by rw [HSt.out, if_pos rfl, if_neg hlo]
        have HL2 : Hid (lamN l (pre ++ [(k : Int)]) = lam + 1) := HLm
        clear HSt HLm
        gi_wp2
        exact ⟨((KeepsOthers.setCell _ _ _).from _).trans ((KeepsOthers.alloc _ _).from _), ⟨((Below.refl _ W).setCell (p := ⟨w.heap.size + 1 + 1 + 1, 0, none⟩) (by show _ ≤ _; simp <;> omega) _).alloc (by simp; omega) _, fun b l1 l2 => (Below.heap_alloc _ _ b (by simp; omega)).trans (Below.heap_setCell W ⟨w.heap.size + 1 + 1 + 1, 0, none⟩ _ b (by intro e; have : b = w.heap.size + 1 + 1 + 1 := e; omega))⟩, ⟨fun rest => by rw [HS2.out, HL2.out], (b0.other (by omega) _).alloc _, (b1.other (by omega) _).alloc _, (b2.other (by omega) _).alloc _, by rw [HL2.out]; exact (b3.set _).alloc _⟩, (hB.setCell (p := ⟨w.heap.size + 1 + 1 + 1, 0, none⟩) (by show _ ≤ _; simp <;> omega) _).alloc (by simp; omega) _⟩
    · have hb0 : (kd != 5) = true := by simpa using hkd
      rw [if_neg hkd] at HLm
      have HS2 : Hid (∀ rest, poF l out (pre ++ [(k : Int)] ++ rest) 0 = poF l out rest lam) := fun rest => by rw [HSt.out, if_neg hkd]
      have HL2 : Hid (lamN l (pre ++ [(k : Int)]) = lam) := by show _ = _; rw [HLm]; omega
      clear HSt HLm hkd
      gi_wp2
      exact ⟨(KeepsOthers.alloc _ _).from _, kpx_below ((Below.refl _ _).alloc (Nat.le_refl _) _) (by omega) (by omega), ⟨fun rest => by rw [HS2.out, HL2.out], b0.alloc _, b1.alloc _, b2.alloc _, by rw [HL2.out]; exact b3.alloc _⟩, hB.alloc (by omega) _⟩
  case done =>
    rintro D ys W hD rfl ⟨⟨hpo, -, -, hr, -⟩, hB⟩ hK
    have hc2 := hr.cell
    have hf := hr.frozen
    have HP : Hid (poF l out (upLC N a) 0 = 0) := by
      have := hpo []
      rw [List.append_nil] at this
      rw [this]; rfl
    gi_wp2
    have hK' := (KeepsOthers.setCell W ⟨w.heap.size + 1 + 1, 0, none⟩ (.int .i64 0)).same D _ hK rfl
    refine ⟨by simp, .inl ⟨_, _, rfl, run_takeDeferred hK', ?_⟩⟩
    have hc5 := cell_kept (hr.set (.int .i64 0)).cell (grownBy_putObj' _ D (.deferred none)) (fun r e => by cases e; exact ⟨_, hK', rfl⟩)
    refine ⟨.int .i64 0, ?_, by rw [HP.out], (hB.setCell (p := ⟨w.heap.size + 1 + 1, 0, none⟩) (by show w.heap.size ≤ w.heap.size + 1 + 1; omega) _).trans (belowK_b (w := w) (Nat.le_refl _) _ D _ _ (by simp at hD; omega) hK' rfl rfl)⟩
    simp [results, Tryz.f183, go_sem, hc5]
  case stop =>
    rintro D c pre W hD hpre ⟨⟨rfl, r, hre, hr⟩, hB⟩ hK
    have HP : Hid (poF l out (upLC N a) 0 = r) := by
      obtain ⟨t, ht⟩ := hpre
      rw [← ht]; exact hre t
    gi_wp2
    refine ⟨by simp, .inl ⟨_, _, rfl, run_takeDeferred hK, ?_⟩⟩
    have hc5 := cell_kept hr.cell (grownBy_putObj' _ D (.deferred none)) (fun r e => by cases e; exact ⟨_, hK, rfl⟩)
    refine ⟨.int .i64 r, ?_, by rw [HP.out], hB.trans (belowK_b (w := w) (Nat.le_refl _) W D _ _ (by simp at hD; omega) hK rfl rfl)⟩
    simp [results, Tryz.f183, go_sem, hc5]
theorem paramsOut_any (tb : Nat) (N : List (Cor × Value)) (l : List Cor) (hN : N.map Prod.fst = l) (hp : ParsC N) (hl : N.length ≤ 1000) (hdv : ∀ x ∈ N, ∃ da dn dc, x.2 = .slice da dn dc) (a : Int) (ha : -1 ≤ a) (ha2 : a < N.length) (out : Int) (w : World) (hT : IsTreeC w.heap.size w tb N) :
    Calls Tryz.prog 183 #[.pointer (some ⟨tb, 0, none⟩), .int .i64 a, .int .i64 out] w fun e W' => e = .returned (.int .i64 (poF l out (upLC N a) 0)) ∧ Below w.heap.size w W' := (callsIn_wide (n := 3)).1 (paramsOut_in 3 (by omega) tb N l hN hp hl hdv a ha ha2 out w hT)
end Go.Proofs.YtebnonpdaddniaaGreatDoor
