/-
  ListFrom of the program: the heads from a value on, in memory of its own, and what is behind them; nothing that was there is turned.
-/
import Derived.Test.YtbfhoennafopaaaCellsM
import Derived.Test.YtbfhoennafopaaaSpecLF
import Derived.Test.YtbfhoennafopaaaHeldIn
import Derived.Test.YtbfhoennafopaaaBoxLay
import Derived.Test.YtbfhoennafopaaaFacts
namespace Go.Proofs.Ytbfhoennafopaaa
open Go.RowKit Go.Extern.Stop Go.Stop Go.Extern Num Go.Lib Go.Shelf
attribute [local go_sem] Oper.semAt_some

/-- What the rounds own: the box of what is left, the box of the values, their row. -/
def Ml (n : Nat) (W : World) (b : Nat) : Prop := b = n ∨ b = n + 1 ∨ ∃ v fr, W.heap[n + 1]? = some (.cells #[v] 32 fr) ∧ v.ownBlock = some b
/-- The state between two rounds: so many values are told. -/
structure LfI (w1 : World) (h : Nat) (l : List Pai) (t : Vlu) (j : Nat) (W : World) : Prop where
  rb : W.heap[w1.heap.size]? = some (.cells #[.int .u8 (wdOf (goV l j t)).tag, .int .u64 (wdOf (goV l j t)).rest] 59 (0, 0))
  row : ∃ ao c, W.heap[w1.heap.size + 1]? = some (.cells #[.slice ao j c] 32 (0, 0)) ∧ W.ownsRow (w1.heap.size + 2) 26 3 (.slice ao j c) j (cellsV (headsV l j t))
  hb : W.heap[w1.heap.size + 2]? = some (.cells #[.pointer (some ⟨h, 0, none⟩)] 56 (0, 0))
  bel : Below w1.heap.size w1 W
theorem own_same {w w' : World} {base : Nat} {e : TypeId} {size n : Nat} {v : Value} {xs : List Value} (h : w.ownsRow base e size v n xs) (hs : ∀ g, v.ownBlock = some g → w'.heap[g]? = w.heap[g]?) : w'.ownsRow base e size v n xs := by
  refine ⟨h.1, ?_⟩
  rcases h.2 with hn | ⟨g, cap, cur, rfl, hbg, hgg, rest⟩
  · exact .inl hn
  · exact .inr ⟨g, cap, cur, rfl, hbg, (hs g rfl).trans hgg, rest⟩
theorem Ml.row {n : Nat} {W : World} {v : Value} {fr : Nat × Nat} {g : Nat} (h : W.heap[n + 1]? = some (.cells #[v] 32 fr)) (hg : v.ownBlock = some g) : Ml n W g := .inr (.inr ⟨v, fr, h, hg⟩)
theorem Ml.read {n : Nat} {W W' : World} (h : W'.heap[n + 1]? = W.heap[n + 1]?) {b : Nat} (hm : Ml n W' b) : Ml n W b := by
  rcases hm with hm | hm | ⟨v, fr, h1, h2⟩
  · exact .inl hm
  · exact .inr (.inl hm)
  · exact .inr (.inr ⟨v, fr, by rw [← h]; exact h1, h2⟩)
theorem LfI.not {w1 W : World} {h j : Nat} {l : List Pai} {t : Vlu} (H : LfI w1 h l t j W) : ¬ Ml w1.heap.size W (w1.heap.size + 2) := fun hm => by
  obtain ⟨ao, c, h1, h2⟩ := H.row
  rcases hm with hm | hm | ⟨v, fr, h3, h4⟩
  · omega
  · omega
  · rw [h1] at h3
    injection h3 with h3
    injection h3 with h3
    obtain rfl : v = .slice ao j c := by simpa using h3.symm
    exact own_ne h2 H.hb (by decide) _ h4 rfl
theorem lfi_own (w1 : World) (h : Nat) (l : List Pai) (t : Vlu) (B : Nat) (hB : w1.heap.size + 3 ≤ B) : OwnM (β := List Nat) w1.heap.size B (Ml w1.heap.size) (fun pre W => LfI w1 h l t pre.length W) := by
  refine ⟨fun s W W' H hb hlow hM => ?_, fun s W W' H hM b hm => Ml.read (hM _ (.inr (.inl rfl))) hm, fun s W b H hm => ?_⟩
  · obtain ⟨ao, c, h1, h2⟩ := H.row
    exact ⟨(hM _ (.inl rfl)).trans H.rb, ⟨ao, c, (hM _ (.inr (.inl rfl))).trans h1, own_same h2 (fun g hg => hM g (Ml.row h1 hg))⟩, (hlow _ (by omega)).trans H.hb, H.bel.trans hb⟩
  · obtain ⟨ao, c, h1, h2⟩ := H.row
    rcases hm with rfl | rfl | ⟨v, fr, h3, h4⟩
    · exact ⟨_, H.rb, rfl⟩
    · exact ⟨_, h1, rfl⟩
    · rw [h1] at h3
      injection h3 with h3
      injection h3 with h3
      obtain rfl : v = .slice ao s.length c := by simpa using h3.symm
      rcases h2.2 with ⟨e1, _⟩ | ⟨g, cap, cur, e1, _, hgg, _⟩
      · rw [e1] at h4; cases h4
      · rw [e1] at h4
        have : g = b := by simpa [Value.ownBlock] using h4
        subst this
        exact ⟨_, hgg, rfl⟩
theorem LfI.next {w1 X U X3 : World} {h j vc g' cap' : Nat} {vo : Option Addr} {l : List Pai} {t : Vlu} {p : Pai} (H : LfI w1 h l t j X) (hv : X.heap[w1.heap.size + 1]? = some (.cells #[.slice vo j vc] 32 (0, 0))) (hrow : X.ownsRow (w1.heap.size + 2) 26 3 (.slice vo j vc) j (cellsV (headsV l j t)))
    (hb : Below X.heap.size X U) (hg : U.grownBy X3 (Value.slice vo j vc).ownBlock) (hat : (Value.slice vo j vc).ownBlock = some g' ∨ g' = U.heap.size) (hown : X3.ownsRow (w1.heap.size + 2) 26 3 (.slice (some ⟨g', 0, none⟩) (j + 1) cap') (j + 1) (cellsV (headsV l j t) ++ [.int .i64 p.head.kind, .int .i64 p.head.num, .string p.head.name]))
    (hgo : goV l (j + 1) t = p.tail) (hhd : headsV l (j + 1) t = headsV l j t ++ [p.head]) :
    Kq w1.heap.size (Ml w1.heap.size) X (((X3.setCell ⟨w1.heap.size + 1, 0, none⟩ (.slice (some ⟨g', 0, none⟩) (j + 1) cap')).setCell ⟨w1.heap.size, 0, none⟩ (.int .u8 (wdOf p.tail).tag)).setCell ⟨w1.heap.size, 1, none⟩ (.int .u64 (wdOf p.tail).rest)) ∧ LfI w1 h l t (j + 1) (((X3.setCell ⟨w1.heap.size + 1, 0, none⟩ (.slice (some ⟨g', 0, none⟩) (j + 1) cap')).setCell ⟨w1.heap.size, 0, none⟩ (.int .u8 (wdOf p.tail).tag)).setCell ⟨w1.heap.size, 1, none⟩ (.int .u64 (wdOf p.tail).rest)) := by
  have hl0 : w1.heap.size < X.heap.size := lt_of_block H.rb
  have hl1 : w1.heap.size + 1 < X.heap.size := lt_of_block hv
  have hl2 : w1.heap.size + 2 < X.heap.size := lt_of_block H.hb
  have hsz := hb.size
  have nr : ∀ b, b < w1.heap.size + 2 → some b ≠ (Value.slice vo j vc).ownBlock := fun b hlt e => by have := (hrow.lt b e.symm).1; omega
  have n2 : some (w1.heap.size + 2) ≠ (Value.slice vo j vc).ownBlock := fun e => own_ne hrow H.hb (by decide) _ e.symm rfl
  have old : ∀ b, b < X.heap.size → some b ≠ (Value.slice vo j vc).ownBlock → X3.heap[b]? = X.heap[b]? := fun b h1 h2 => (hg.block b (by omega) h2).trans (hb.block b h1)
  have k0 : X3.heap[w1.heap.size]? = _ := (old _ hl0 (nr _ (by omega))).trans H.rb
  have k1 : X3.heap[w1.heap.size + 1]? = _ := (old _ hl1 (nr _ (by omega))).trans hv
  have s1 := heap_setCell_same X3 (w1.heap.size + 1) 0 _ _ (.slice (some ⟨g', 0, none⟩) (j + 1) cap') k1
  have s0 : (X3.setCell ⟨w1.heap.size + 1, 0, none⟩ (.slice (some ⟨g', 0, none⟩) (j + 1) cap')).heap[w1.heap.size]? = _ := (heap_setCell_other X3 ⟨w1.heap.size + 1, 0, none⟩ w1.heap.size _ (by show w1.heap.size ≠ w1.heap.size + 1; omega)).trans k0
  have s2 := heap_setCell_same _ w1.heap.size 0 _ _ (.int .u8 (wdOf p.tail).tag) s0
  have s3 := heap_setCell_same _ w1.heap.size 1 _ _ (.int .u64 (wdOf p.tail).rest) s2
  have oth : ∀ b, b ≠ w1.heap.size → b ≠ w1.heap.size + 1 → (((X3.setCell ⟨w1.heap.size + 1, 0, none⟩ (.slice (some ⟨g', 0, none⟩) (j + 1) cap')).setCell ⟨w1.heap.size, 0, none⟩ (.int .u8 (wdOf p.tail).tag)).setCell ⟨w1.heap.size, 1, none⟩ (.int .u64 (wdOf p.tail).rest)).heap[b]? = X3.heap[b]? := fun b h1 h2 => (heap_setCell_other _ _ b _ h1).trans ((heap_setCell_other _ _ b _ h1).trans (heap_setCell_other _ _ b _ h2))
  have f1 : (((X3.setCell ⟨w1.heap.size + 1, 0, none⟩ (.slice (some ⟨g', 0, none⟩) (j + 1) cap')).setCell ⟨w1.heap.size, 0, none⟩ (.int .u8 (wdOf p.tail).tag)).setCell ⟨w1.heap.size, 1, none⟩ (.int .u64 (wdOf p.tail).rest)).heap[w1.heap.size + 1]? = some (.cells #[.slice (some ⟨g', 0, none⟩) (j + 1) cap'] 32 (0, 0)) := (heap_setCell_other _ _ _ _ (by show w1.heap.size + 1 ≠ w1.heap.size; omega)).trans ((heap_setCell_other _ _ _ _ (by show w1.heap.size + 1 ≠ w1.heap.size; omega)).trans s1)
  have hgn : g' ≠ w1.heap.size ∧ g' ≠ w1.heap.size + 1 := by have := (hown.lt g' rfl).1; omega
  have bel3 : Below w1.heap.size X (((X3.setCell ⟨w1.heap.size + 1, 0, none⟩ (.slice (some ⟨g', 0, none⟩) (j + 1) cap')).setCell ⟨w1.heap.size, 0, none⟩ (.int .u8 (wdOf p.tail).tag)).setCell ⟨w1.heap.size, 1, none⟩ (.int .u64 (wdOf p.tail).rest)) := (((((hb.mono (by omega)).trans (below_of_grown hg (by omega) (fun k hk => by have := (hrow.lt k hk).1; omega))).setCell (by show w1.heap.size ≤ w1.heap.size + 1; omega) _).setCell (by show w1.heap.size ≤ w1.heap.size; omega) _).setCell (by show w1.heap.size ≤ w1.heap.size; omega) _)
  refine ⟨⟨bel3, fun b h1 h2 => ?_, fun b h1 h2 => ?_⟩, ⟨?_, ⟨some ⟨g', 0, none⟩, cap', f1, ?_⟩, ?_, H.bel.trans bel3⟩⟩
  · refine (oth b (fun e => h2 (.inl e)) (fun e => h2 (.inr (.inl e)))).trans (old b h1 (fun e => h2 (Ml.row hv e.symm)))
  · rcases h2 with h2 | h2 | ⟨v, fr, h3, h4⟩
    · exact .inl h2
    · exact .inr (.inl h2)
    · rw [f1] at h3
      injection h3 with h3
      injection h3 with h3
      obtain rfl : v = .slice (some ⟨g', 0, none⟩) (j + 1) cap' := by simpa using h3.symm
      have e1 : g' = b := by simpa [Value.ownBlock] using h4
      subst e1
      rcases hat with h5 | h5
      · exact Ml.row hv h5
      · omega
  · rw [hgo]; exact s3
  · rw [hhd, cellsV_append]
    refine own_same hown (fun x hx => ?_)
    have e1 : g' = x := by simpa [Value.ownBlock] using hx
    subst e1
    exact oth _ hgn.1 hgn.2
  · exact (oth _ (by omega) (by omega)).trans ((old _ hl2 n2).trans H.hb)
theorem two_cells {u : World} {x T : Nat} {v0 v1 : Value} (h : u.heap[x]? = some (.cells #[v0, v1] T (0, 0))) : u.cell? ⟨x, 0, none⟩ = some v0 ∧ u.cell? ⟨x, 1, none⟩ = some v1 ∧ ∀ o, u.frozen? ⟨x, o, none⟩ = false := by
  simp [World.cell?, World.frozen?, h]
theorem one_cell {u : World} {x T : Nat} {v0 : Value} (h : u.heap[x]? = some (.cells #[v0] T (0, 0))) : u.cell? ⟨x, 0, none⟩ = some v0 ∧ ∀ o, u.frozen? ⟨x, o, none⟩ = false := by
  simp [World.cell?, World.frozen?, h]
theorem cellsFrom_any (p : Option Addr) (x : Wd) (w : World) :
    Calls Try.prog 36 #[.pointer p, x.val] w fun e w' => e = .returned (.func (.func 58) #[] #[.pointer (some ⟨w.heap.size + 1, 0, none⟩), .pointer (some ⟨w.heap.size, 0, none⟩)]) ∧ w' = (w.alloc (.cells #[.pointer p] 56)).alloc (.cells #[.int .u8 x.tag, .int .u64 x.rest] 59) := by
  go_enter Try.func36, Try.ntmps36
  go_wp2
  go_ret
  exact ⟨rfl, rfl⟩
theorem lf_put {b D : Nat} {c : Int} {s : Value} {T : Vlu} {Y : World} (h : BoxA b c s T Y) (hD : b ≠ D) (o : Obj) : (Y.putObj D o).cell? ⟨b, 0, none⟩ = some (.int .i64 c) ∧ (Y.putObj D o).cell? ⟨b, 1, none⟩ = some s ∧ (Y.putObj D o).cell? ⟨b, 2, none⟩ = some (.int .i64 T.kind) ∧ (Y.putObj D o).cell? ⟨b, 3, none⟩ = some (.int .i64 T.num) ∧ (Y.putObj D o).cell? ⟨b, 4, none⟩ = some (.string T.name) := by
  have e : ∀ j, (Y.putObj D o).cell? ⟨b, j, none⟩ = Y.cell? ⟨b, j, none⟩ := fun j => World.cell?_of_block (a := ⟨b, j, none⟩) (World.putObj_heap_other hD)
  exact ⟨(e 0).trans h.c0, (e 1).trans h.c1, (e 2).trans h.c2, (e 3).trans h.c3, (e 4).trans h.c4⟩
/-- The temporaries of a round. -/
abbrev actL (a b h c d k m : Nat) (ao : Option Addr) (cap n : Nat) (t : Vlu) (tg rs : Int) (q q' : Value) : Act := { tmps := #[.slice ao n cap, t.val, undef, .pointer (some ⟨a, 0, none⟩), .pointer (some ⟨b, 0, none⟩), .pointer (some ⟨h, 0, none⟩), .pointer (some ⟨c, 0, none⟩), .int .i64 0, .pointer (some ⟨d, 0, none⟩), q, .tuple #[.pointer (some ⟨h, 0, none⟩), .agg #[.int .u8 tg, .int .u64 rs], .int .i64 0], .slice ao n cap, .agg #[.int .i64 t.kind, .int .i64 t.num, .string t.name], .tuple #[.pointer (some ⟨h, 0, none⟩), .agg #[.int .u8 tg, .int .u64 rs], .int .i64 0], .pointer (some ⟨h, 0, none⟩), .agg #[.int .u8 tg, .int .u64 rs], .int .i64 0, .int .i64 0, .bool false, undef, undef, .pointer (some ⟨h, 0, none⟩), .agg #[.int .u8 tg, .int .u64 rs], .func (.func 58) #[] #[.pointer (some ⟨k, 0, none⟩), .pointer (some ⟨m, 0, none⟩)], q', undef, undef, undef, undef, undef, undef, undef, undef, undef, undef, undef, undef, undef, undef, undef, undef, undef, undef, undef, undef], defers := [] }
set_option maxRecDepth 100000 in
set_option maxHeartbeats 2000000 in
theorem implLF_any (ao : Option Addr) (cap g : Nat) (l : List Pai) (t : Vlu) (w : World) (hl : l.length ≤ 1048576) (hao : 0 < l.length → ao = some ⟨g, 0, none⟩) (hr : RowP w g l) (hz : ableL l) (ht : t.name.size ≤ 9223372036854775807) :
    Calls Try.prog 10 #[.slice ao l.length cap, t.val] w fun e w' => AnsL w (codeLF l t) (outLF l t) (restLF l t) e w' := by
  have HW : Hid (Calls Try.prog 29 #[.slice ao l.length cap, t.val] (lfW w t) fun e w' => (∃ p, ∃ x : Wd, e = .returned (.tuple #[.pointer p, x.val, .int .i64 (askV l t)]) ∧ (askV l t = 0 → x = wdOf t ∧ ∃ h, p = some ⟨h, 0, none⟩ ∧ Heap w' (lfW w t).heap.size h (wordsP l))) ∧ Below (lfW w t).heap.size (lfW w t) w') := heapWith_any ao cap g l t (lfW w t) hl hao (hr.below (lf_old w t)) hz ht
  clear hao hr hz ht
  have hF : ∀ f, Fence.wide.fn f := fun _ => trivial
  have hmx : Try.prog.follows .mixedOrders = true := by kernel_rfl
  by_cases h0 : askV l t = 0
  case neg =>
    have e1 : codeLF l t = askV l t := by unfold codeLF; rw [if_pos h0]
    have h0' : (askV l t != 0) = true := by simpa using h0
    have e2 : outLF l t = [] := by unfold outLF; rw [e1, if_neg h0]
    have e3 : restLF l t = ⟨0, 0, ⟨#[]⟩⟩ := by unfold restLF; rw [e1, if_neg h0]
    rw [e1, e2, e3]
    have HW3 : Hid (Calls Try.prog 29 #[.slice ao l.length cap, t.val] (lfW w t) fun e w' => (∃ p, ∃ x : Wd, e = .returned (.tuple #[.pointer p, x.val, .int .i64 (askV l t)])) ∧ Below (lfW w t).heap.size (lfW w t) w') := by
      refine HW.out.mono ?_
      rintro e w1 ⟨⟨p, x, rfl, _⟩, hb⟩
      exact ⟨⟨p, x, rfl⟩, hb⟩
    clear e1 e2 e3 h0 HW
    generalize askV l t = c at h0' HW3
    have HL : Hid (∀ w1, Below (lfW w t).heap.size (lfW w t) w1 → w1.heap[w.heap.size + 1]? = some (.cells #[.int .i64 0, .slice none 0 0, .int .i64 0, .int .i64 0, .string ⟨#[]⟩] 34 (0, 0)) ∧ Below w.heap.size w w1) := fun w1 hb => ⟨(hb.block _ (by rw [lfW_size]; omega)).trans (by unfold lfW; exact heap_new' _ _ _ (by simp)), (lf_old w t).trans (hb.mono (by rw [lfW_size]; omega))⟩
    unfold lfW at HW3
    go_enter Try.func10, Try.ntmps10
    go_wp2_with fail
    refine HW3.out.mono ?_
    rintro e w1 ⟨⟨p, x, rfl⟩, hb⟩
    obtain ⟨hblk, hold⟩ := HL.out w1 hb
    obtain ⟨r0, r1, r2, r3, r4, rf⟩ := five_cells hblk
    have HOl : Hid (Below w.heap.size w w1) := hold
    have z1 : w.heap.size + 1 < w1.heap.size := lt_of_block hblk
    clear hb hold hblk
    go_wp2
    refine bodyPost_ret (v := .agg #[.int .i64 c, .slice none 0 0, .int .i64 0, .int .i64 0, .string ⟨#[]⟩]) (by simp [results, Try.results10, go_sem, r0, r1, r2, r3, r4, z1, World.cell?_alloc_lt]) rfl ⟨none, 0, rfl, none_rowV _ _, ?_⟩
    repeat (first | refine Below.setCell ?_ (by simp <;> omega) _ | refine Below.alloc ?_ (by have := HOl.out.size; simp <;> omega) _ | exact HOl.out)
  obtain ⟨hh, hi0⟩ := askV_zero h0
  have hah := aheadV_of hi0
  have ec : codeLF l t = if 200 < (allV l t).length then 2 else 0 := by unfold codeLF; rw [if_neg (by rw [h0]; decide)]
  have HMany : Hid (200 < (allV l t).length → AnsL w (codeLF l t) (outLF l t) (restLF l t) = AnsL w 2 [] ⟨0, 0, ⟨#[]⟩⟩) := fun h => by
    have e1 : codeLF l t = 2 := by rw [ec, if_pos h]
    rw [e1]; unfold outLF restLF; rw [e1, if_neg (by decide), if_neg (by decide)]
  have HFew : Hid (¬ 200 < (allV l t).length → AnsL w (codeLF l t) (outLF l t) (restLF l t) = AnsL w 0 (allV l t) (restV l t)) := fun h => by
    have e1 : codeLF l t = 0 := by rw [ec, if_neg h]
    rw [e1]; unfold outLF restLF; rw [e1, if_pos rfl, if_pos rfl]
  generalize AnsL w (codeLF l t) (outLF l t) (restLF l t) = ANS at HMany HFew ⊢
  have HW2 : Hid (CallsIn Fence.wide (10 - 1) Try.prog 29 #[.slice ao l.length cap, .agg #[.int .i64 t.kind, .int .i64 t.num, .string t.name]] (lfW w t) fun e w1 => ∃ h, e = .returned (.tuple #[.pointer (some ⟨h, 0, none⟩), .agg #[.int .u8 (wdOf t).tag, .int .u64 (wdOf t).rest], .int .i64 0]) ∧ Heap w1 (w.heap.size + 2) h (wordsP l) ∧ Below (w.heap.size + 2) (lfW w t) w1) := by
    refine (callsIn_wide).2 (HW.out.mono ?_)
    rintro e w1 ⟨⟨p, x, rfl, hx⟩, hb⟩
    obtain ⟨rfl, h, rfl, hH⟩ := hx h0
    rw [lfW_size] at hH hb
    exact ⟨h, by rw [h0], hH, hb⟩
  clear HW ec h0 hi0
  unfold lfW at HW2
  refine (callsIn_wide (n := 10)).1 ?_
  refine callsIn_of_wp_marks Try.func10 rfl trivial ?_ rfl
  simp only [Try.ntmps10, List.size_toArray, List.length_cons, List.length_nil, Nat.reduceAdd, Nat.reduceSub, Array.replicate_succ, Array.replicate_zero, List.push_toArray, List.append_toArray, List.nil_append, List.cons_append]
  gi_wp2_with fail
  refine HW2.out.mono ?_
  rintro e w1 ⟨h, rfl, hH, hB1⟩
  obtain ⟨vq, bs, HK⟩ := hH
  have HKK : Hid (HpAt w1 (w.heap.size + 2) h vq bs (wordsP l)) := HK
  have HB1 : Hid (Below (w.heap.size + 2) (lfW w t) w1) := hB1
  clear HK hB1 HW2
  gi_wp2_with (gi_at_call 36; refine ((callsIn_wide (n := 10 - 1)).2 (cellsFrom_any _ (wdOf t) _)).mono ?_; rintro e w' ⟨rfl, rfl⟩)
  obtain ⟨w4, hw4⟩ : ∃ w4, w4 = ((((w1.alloc (.cells #[.int .u8 (wdOf t).tag, .int .u64 (wdOf t).rest] 59)).alloc (.cells #[.slice none 0 0] 32)).alloc (.cells #[.pointer (some ⟨h, 0, none⟩)] 56)).alloc (.cells #[.int .u8 (wdOf t).tag, .int .u64 (wdOf t).rest] 59)) := ⟨_, rfl⟩
  have hs4 : w4.heap.size = w1.heap.size + 4 := by rw [hw4]; simp
  have b4 : Below w1.heap.size w1 w4 := by rw [hw4]; exact ((((Below.refl _ w1).alloc (Nat.le_refl _) _).alloc (by simp) _).alloc (by simp; omega) _).alloc (by simp; omega) _
  have q0 : w4.heap[w1.heap.size]? = some (.cells #[.int .u8 (wdOf t).tag, .int .u64 (wdOf t).rest] 59 (0, 0)) := by
    rw [hw4, heap_alloc_old _ _ (by simp <;> omega), heap_alloc_old _ _ (by simp <;> omega), heap_alloc_old _ _ (by simp), heap_alloc_new]
  have q1 : w4.heap[w1.heap.size + 1]? = some (.cells #[.slice none 0 0] 32 (0, 0)) := by
    rw [hw4, heap_alloc_old _ _ (by simp <;> omega), heap_alloc_old _ _ (by simp)]; exact heap_new' _ _ _ (by simp)
  have q2 : w4.heap[w1.heap.size + 2]? = some (.cells #[.pointer (some ⟨h, 0, none⟩)] 56 (0, 0)) := by
    rw [hw4, heap_alloc_old _ _ (by simp)]; exact heap_new' _ _ _ (by simp)
  have q3 : w4.heap[w1.heap.size + 3]? = some (.cells #[.int .u8 (wdOf t).tag, .int .u64 (wdOf t).rest] 59 (0, 0)) := by
    rw [hw4]; exact heap_new' _ _ _ (by simp)
  have I0 : LfI w1 h l t 0 w4 := ⟨q0, ⟨none, 0, q1, none_rowV _ _⟩, q2, b4⟩
  have xw : WBox (w1.heap.size + 1 + 1 + 1) (wdOf t) w4 := ⟨(two_cells q3).1, (two_cells q3).2.1, (two_cells q3).2.2⟩
  have hlen : bs.length = l.length := by rw [HKK.out.len, wordsP_len]
  rw [← hw4]
  clear hw4 q0 q1 q3
  obtain ⟨i0, hi, hz0, hz1, hz2⟩ := info_parts infoV
  refine range_X (by omega : 1 ≤ 10) (gf := 58) (lb := #[.pointer (some ⟨w1.heap.size + 1 + 1 + 1, 0, none⟩), .pointer (some ⟨w1.heap.size + 1 + 1, 0, none⟩)]) rfl (enters_of Try.func58 (by kernel_rfl) rfl) (Ml w1.heap.size) (fun b => b = w1.heap.size + 1 + 1)
    (cells_seq l t hh hah w1.heap.size (w.heap.size + 2) h (w1.heap.size + 1 + 1 + 1) (w1.heap.size + 1 + 1) vq bs w4 (fun u hu => HKK.out.keep (b4.trans hu)) (by omega) xw (one_cell q2).1 _ _ rfl (fun k hk => lt_of_cell (HKK.out.each k hk (by rw [wordsP_len]; omega)).c0)) (Below.refl _ _) (by omega) (fun _ => rfl)
    (fun pre W => LfI w1 h l t pre.length W) (lfi_own w1 h l t _ (by omega)) (fun pre W H b hb => by subst hb; exact H.not) I0
    (fun x a' _ => a' = actL w.heap.size (w.heap.size + 1) h w1.heap.size (w1.heap.size + 1) (w1.heap.size + 1 + 1 + 1) (w1.heap.size + 1 + 1) ao cap l.length t (wdOf t).tag (wdOf t).rest (.pointer (some ⟨bs.getD x 0, 0, none⟩)) (.pointer (some ⟨bs.getD x 0, 0, none⟩))) (fun _ _ _ _ _ _ h _ _ _ => h) ?assign ?body ?done
  case assign =>
    rintro l' pre x X K hI _ _ hK
    gi_wp2
    exact hK _ _ (Kq.refl _ _ _) hI rfl
  case body =>
    rintro l' pre k a' X hI rfl hpx hs
    obtain ⟨hkl, hpre, hk5, hnum, hgo, hhd⟩ := idx_step hh hah hpx
    have hFr : ∀ f, (Fence.wide.inRound l').fn f := fun _ => trivial
    have hpl : pre.length ≤ 4000 := by
      have h1 := hpx.length_le
      have h2 : (allI l t).length ≤ l.length := by unfold allI; rw [idxV_len]; exact headsV_len l _ t
      have h3 := fault_len hh
      rw [List.length_append] at h1
      omega
    obtain ⟨j, hj⟩ : ∃ j, j = pre.length := ⟨_, rfl⟩
    rw [← hj] at hI hgo hhd hpl
    have HJ : Hid ((pre ++ [k]).length = j + 1) := by show _ = _; rw [List.length_append, ← hj]; rfl
    obtain ⟨vo, vc, hv, hrow⟩ := hI.row
    have hkb : k < bs.length := by omega
    have hgd : bs.getD k 0 = bs[k] := by simp [hkb]
    obtain ⟨p, hp⟩ : ∃ p, p = l[k]'hkl := ⟨_, rfl⟩
    rw [← hp] at hgo hhd
    have hca : CellAt bs[k] (wdOf p.head, wdOf p.tail) X := by
      have hkw : k < (wordsP l).length := by rw [wordsP_len]; exact hkl
      have e1 : (wordsP l)[k]'hkw = (wdOf p.head, wdOf p.tail) := by rw [hp]; simp [wordsP]
      have := (HKK.out.keep hI.bel).each k hkb hkw
      rwa [e1] at this
    have hfp := heap_fine hh k hkl
    rw [← hp] at hfp
    have HVal : Hid (∀ w, Calls Try.prog 37 #[.agg #[.int .u8 (wdOf p.head).tag, .int .u64 (wdOf p.head).rest]] w fun e w' => e = .returned (.agg #[.int .i64 p.head.kind, .int .i64 p.head.num, .string p.head.name]) ∧ Below w.heap.size w w') := fun w => value_any p.head w hfp.1
    have hbk : bs[k] < w1.heap.size := lt_of_cell (HKK.out.each k hkb (by rw [wordsP_len]; omega)).c0
    have HI : Hid (LfI w1 h l t j X) := hI
    have HO : Hid (X.ownsRow (w1.heap.size + 2) 26 3 (.slice vo j vc) j (cellsV (headsV l j t))) := hrow
    have HG : Hid (goV l (j + 1) t = p.tail ∧ headsV l (j + 1) t = headsV l j t ++ [p.head]) := ⟨hgo, hhd⟩
    have sv := one_cell hv
    have sr := two_cells hI.rb
    have hl2 : w1.heap.size + 2 < X.heap.size := lt_of_block hI.hb
    rw [hgd]
    generalize bs[k] = bk at hca hbk
    obtain ⟨d0, d1, d2, d3⟩ := hca
    simp only at d0 d1 d2 d3
    clear hgo hhd hrow hI hk5 hnum hpre hj hp hfp hpx hgd
    have hS0 : (fun u : World => u.cell? ⟨w1.heap.size + 1, 0, none⟩ = some (.slice vo j vc) ∧ u.cell? ⟨bk, 0, none⟩ = some (.int .u8 (wdOf p.head).tag) ∧ u.cell? ⟨bk, 1, none⟩ = some (.int .u64 (wdOf p.head).rest)) X.drew := ⟨sv.1, d0, d1⟩
    gi_wp2_with fail
    refine region_anyH (z := 8) (S := fun u : World => u.cell? ⟨w1.heap.size + 1, 0, none⟩ = some (.slice vo j vc) ∧ u.cell? ⟨bk, 0, none⟩ = some (.int .u8 (wdOf p.head).tag) ∧ u.cell? ⟨bk, 1, none⟩ = some (.int .u64 (wdOf p.head).rest)) hmx ?_
    refine anyH_take hFr (by kernel_rfl) (i := 0) (v := ?_) (d := some 25) (by kernel_rfl) rfl rfl (by kernel_rfl) (by kernel_rfl) (by kernel_rfl) (fun _ _ _ h => h) hS0 (Or.inl ⟨by rfl, fun w hSw => ?_⟩) ?_
    rotate_left
    · obtain ⟨s0, s1, s2⟩ := hSw
      go_simp
      all_goals (try (first | with_reducible rfl | omega))
    try simp only [Act.put]
    try simp only [List.setIfInBounds_toArray]
    try simp only [List.set_cons_zero, List.set_cons_succ]
    refine anyH_take hFr (by kernel_rfl) (i := 1) (v := ?_) (d := some 26) (by kernel_rfl) rfl rfl (by kernel_rfl) (by kernel_rfl) (by kernel_rfl) (fun _ _ _ h => h) hS0 (Or.inl ⟨by rfl, fun w hSw => ?_⟩) ?_
    rotate_left
    · obtain ⟨s0, s1, s2⟩ := hSw
      go_simp
      all_goals (try (first | with_reducible rfl | omega))
    try simp only [Act.put]
    try simp only [List.setIfInBounds_toArray]
    try simp only [List.set_cons_zero, List.set_cons_succ]
    refine anyH_take hFr (by kernel_rfl) (i := 2) (v := ?_) (d := some 27) (by kernel_rfl) rfl rfl (by kernel_rfl) (by kernel_rfl) (by kernel_rfl) (fun _ _ _ h => h) hS0 (Or.inl ⟨by rfl, fun w hSw => ?_⟩) ?_
    rotate_left
    · obtain ⟨s0, s1, s2⟩ := hSw
      go_simp
      all_goals (try (first | with_reducible rfl | omega))
    try simp only [Act.put]
    try simp only [List.setIfInBounds_toArray]
    try simp only [List.set_cons_zero, List.set_cons_succ]
    refine anyH_take hFr (by kernel_rfl) (i := 3) (v := ?_) (d := some 28) (by kernel_rfl) rfl rfl (by kernel_rfl) (by kernel_rfl) (by kernel_rfl) (fun _ _ _ h => h) hS0 (Or.inl ⟨by rfl, fun w hSw => ?_⟩) ?_
    rotate_left
    · obtain ⟨s0, s1, s2⟩ := hSw
      go_simp
      all_goals (try (first | with_reducible rfl | omega))
    try simp only [Act.put]
    try simp only [List.setIfInBounds_toArray]
    try simp only [List.set_cons_zero, List.set_cons_succ]
    refine anyH_take hFr (by kernel_rfl) (i := 4) (v := ?_) (d := some 29) (by kernel_rfl) rfl rfl (by kernel_rfl) (by kernel_rfl) (by kernel_rfl) (fun _ _ _ h => h) hS0 (Or.inl ⟨by rfl, fun w hSw => ?_⟩) ?_
    rotate_left
    · obtain ⟨s0, s1, s2⟩ := hSw
      go_simp
      all_goals (try (first | with_reducible rfl | omega))
    try simp only [Act.put]
    try simp only [List.setIfInBounds_toArray]
    try simp only [List.set_cons_zero, List.set_cons_succ]
    refine anyH_one (i := 5) (by kernel_rfl) (op_plain rfl (by rfl) (by simp) ?_)
    go_simp
    refine (HVal.out _).mono ?_
    rintro r X2 ⟨rfl, b2⟩
    have hS2 : X2.cell? ⟨w1.heap.size + 1, 0, none⟩ = some (.slice vo j vc) ∧ X2.cell? ⟨bk, 0, none⟩ = some (.int .u8 (wdOf p.head).tag) ∧ X2.cell? ⟨bk, 1, none⟩ = some (.int .u64 (wdOf p.head).rest) := ⟨cell_keep b2 hS0.1, cell_keep b2 hS0.2.1, cell_keep b2 hS0.2.2⟩
    refine ⟨hS2, ?_⟩
    try simp only [Act.put]
    try simp only [List.setIfInBounds_toArray]
    try simp only [List.set_cons_zero, List.set_cons_succ]
    refine anyH_one (i := 6) (by kernel_rfl) (op_plain rfl (by rfl) (by simp) ?_)
    go_simp
    have hS3 : ∀ o, (X2.alloc o).cell? ⟨w1.heap.size + 1, 0, none⟩ = some (.slice vo j vc) ∧ (X2.alloc o).cell? ⟨bk, 0, none⟩ = some (.int .u8 (wdOf p.head).tag) ∧ (X2.alloc o).cell? ⟨bk, 1, none⟩ = some (.int .u64 (wdOf p.head).rest) := fun o => ⟨cell_keep ((Below.refl _ _).alloc (Nat.le_refl _) _) hS2.1, cell_keep ((Below.refl _ _).alloc (Nat.le_refl _) _) hS2.2.1, cell_keep ((Below.refl _ _).alloc (Nat.le_refl _) _) hS2.2.2⟩
    refine ⟨hS3 _, ?_⟩
    try simp only [Act.put]
    try simp only [List.setIfInBounds_toArray]
    try simp only [List.set_cons_zero, List.set_cons_succ]
    have bU : Below X.heap.size X (X2.alloc (.cells #[.int .i64 p.head.kind, .int .i64 p.head.num, .string p.head.name] 26)) := ((Below.refl _ X).drew.trans b2).alloc (by have := b2.size; simpa using this) _
    have hsU := bU.size
    have hs2 := b2.size
    simp only [World.size_drew] at hs2
    have oU := own_below HO.out bU
    refine anyH_one (i := 7) (by kernel_rfl) (op_plain rfl (by rfl) (by simp) (wp_append_lies _ _ _ 32 rfl (w1.heap.size + 2) 26 i0 _ 3 32 Try.underlying32 hi hz0 hz1 hz2 rfl (by decide) (.slice vo j vc) j (cellsV (headsV l j t)) rfl oU
      ⟨X2.heap.size, 0, none⟩ 1 1 [.int .i64 p.head.kind, .int .i64 p.head.num, .string p.head.name] rfl rfl (World.news_of_block (cs := #[.int .i64 p.head.kind, .int .i64 p.head.num, .string p.head.name]) (t := 26) (fr := (0, 0)) (heap_new' _ _ _ (by simp))) (by simp [Value.oneCell'])
      (by decide) (by unfold maxLen; omega) (by omega) (by simp; omega) _ rfl ?_))
    intro g' cap' X3 hown hgrow hat hlt'
    have HN : Hid (Kq w1.heap.size (Ml w1.heap.size) X (((X3.setCell ⟨w1.heap.size + 1, 0, none⟩ (.slice (some ⟨g', 0, none⟩) (j + 1) cap')).setCell ⟨w1.heap.size, 0, none⟩ (.int .u8 (wdOf p.tail).tag)).setCell ⟨w1.heap.size, 1, none⟩ (.int .u64 (wdOf p.tail).rest)) ∧ LfI w1 h l t (j + 1) (((X3.setCell ⟨w1.heap.size + 1, 0, none⟩ (.slice (some ⟨g', 0, none⟩) (j + 1) cap')).setCell ⟨w1.heap.size, 0, none⟩ (.int .u8 (wdOf p.tail).tag)).setCell ⟨w1.heap.size, 1, none⟩ (.int .u64 (wdOf p.tail).rest))) := HI.out.next hv HO.out bU hgrow hat hown HG.out.1 HG.out.2
    have nr : ∀ b, b < w1.heap.size + 2 → some b ≠ (Value.slice vo j vc).ownBlock := fun b hlt e => by have := (HO.out.lt b e.symm).1; omega
    have hS4 : X3.cell? ⟨w1.heap.size + 1, 0, none⟩ = some (.slice vo j vc) ∧ X3.cell? ⟨bk, 0, none⟩ = some (.int .u8 (wdOf p.head).tag) ∧ X3.cell? ⟨bk, 1, none⟩ = some (.int .u64 (wdOf p.head).rest) := ⟨hgrow.cell (hS3 _).1 (nr (w1.heap.size + 1) (by omega)), hgrow.cell (hS3 _).2.1 (nr bk (by omega)), hgrow.cell (hS3 _).2.2 (nr bk (by omega))⟩
    have e1 := hS4.1
    have e2 := hgrow.cell (cell_keep bU d2) (nr bk (by omega))
    have e3 := hgrow.cell (cell_keep bU d3) (nr bk (by omega))
    have e4 := hgrow.cell (cell_keep bU sr.1) (nr w1.heap.size (by omega))
    have e5 := hgrow.cell (cell_keep bU sr.2.1) (nr w1.heap.size (by omega))
    have ff : ∀ b o, b < w1.heap.size + 2 → X3.frozen? ⟨b, o, none⟩ = X.frozen? ⟨b, o, none⟩ := fun b o hlt => by
      rw [World.frozen?_of_block (a := ⟨b, o, none⟩) (hgrow.block b (by omega) (nr b hlt)), (bcell bU).2 _ _ (by omega)]
    have f1 : ∀ o, X3.frozen? ⟨w1.heap.size + 1, o, none⟩ = false := fun o => by rw [ff _ _ (by omega)]; exact sv.2 o
    have f0 : ∀ o, X3.frozen? ⟨w1.heap.size, o, none⟩ = false := fun o => by rw [ff _ _ (by omega)]; exact sr.2.2 o
    refine ⟨by first | exact hS4 | exact fun _ => hS4, ?_⟩
    try simp only [Act.put]
    try simp only [List.setIfInBounds_toArray]
    try simp only [List.set_cons_zero, List.set_cons_succ]
    clear hown hgrow hat bU oU hS3 hS2 hS0 b2 ff nr d0 d1 d2 d3 sv sr
    have z1 : bk ≠ w1.heap.size + 1 := by omega
    have z0 : bk ≠ w1.heap.size := by omega
    refine anyH_one (i := 8) (by kernel_rfl) (op_plain rfl (by rfl) (by simp) ?_)
    go_simp
    refine anyH_done (by kernel_rfl) ?_ _
    gi_wp2
    exact ⟨HN.out.1, by show LfI w1 h l t (pre ++ [k]).length _; rw [HJ.out]; exact HN.out.2⟩
  case done =>
    rintro X hI hs hK
    have hk5 := allI_done hh hah
    have hall := allV_at hh hah hk5
    have hfull := idxV_full hh hah (allI l t).length (Nat.le_refl _)
    obtain ⟨j, hj⟩ : ∃ j, j = (allI l t).length := ⟨_, rfl⟩
    have hI' : LfI w1 h l t j X := by rw [hj]; exact hI
    rw [← hj] at hall hfull hk5
    obtain ⟨vo, vc, hv, hrow⟩ := hI'.row
    have hlenj : (headsV l j t).length = j := by rw [← idxV_len]; exact hfull
    have hj4 : j ≤ 4000 := by
      have h2 : (allI l t).length ≤ l.length := by unfold allI; rw [idxV_len]; exact headsV_len l _ t
      have h3 := fault_len hh
      omega
    have hvf := (goV_ahead hh j l.length t (Nat.le_refl _) hah).1.1
    have HVal : Hid (∀ w, Calls Try.prog 37 #[.agg #[.int .u8 (wdOf (goV l j t)).tag, .int .u64 (wdOf (goV l j t)).rest]] w fun e w' => e = .returned (.agg #[.int .i64 (goV l j t).kind, .int .i64 (goV l j t).num, .string (goV l j t).name]) ∧ Below w.heap.size w w') := fun w => value_any (goV l j t) w hvf
    have sv := one_cell hv
    have sr := two_cells hI'.rb
    rw [hs4] at hK
    rw [hall.1, hall.2, hlenj] at HFew
    rw [hall.1, hlenj] at HMany
    have hb1 : Below (lfW w t).heap.size (lfW w t) X := by rw [lfW_size]; exact HB1.out.trans (hI'.bel.mono (by have := HB1.out.size; rw [lfW_size] at this; exact this))
    have e : ∀ o, (lfW w t).cell? ⟨w.heap.size + 1, o, none⟩ = (#[Value.int .i64 0, .slice none 0 0, .int .i64 0, .int .i64 0, .string ⟨#[]⟩] : Array Value)[o]? := fun o => by unfold lfW; rw [World.cell?_alloc_at _ _ _ _ (by simp)]
    have r0 : X.cell? ⟨w.heap.size + 1, 0, none⟩ = some (.int .i64 0) := cell_keep hb1 (e 0)
    have r1 : X.cell? ⟨w.heap.size + 1, 1, none⟩ = some (.slice none 0 0) := cell_keep hb1 (e 1)
    have r2 : X.cell? ⟨w.heap.size + 1, 2, none⟩ = some (.int .i64 0) := cell_keep hb1 (e 2)
    have r3 : X.cell? ⟨w.heap.size + 1, 3, none⟩ = some (.int .i64 0) := cell_keep hb1 (e 3)
    have r4 : X.cell? ⟨w.heap.size + 1, 4, none⟩ = some (.string ⟨#[]⟩) := cell_keep hb1 (e 4)
    have rf : ∀ o, X.frozen? ⟨w.heap.size + 1, o, none⟩ = false := fun o => by
      rw [(bcell hb1).2 _ _ (by rw [lfW_size]; omega)]
      unfold lfW
      rw [World.frozen?_alloc_at _ _ _ _ (by simp)]
    have hblk : X.heap[w.heap.size + 1]? = some (.cells #[.int .i64 0, .slice none 0 0, .int .i64 0, .int .i64 0, .string ⟨#[]⟩] 34 (0, 0)) := (hb1.block _ (by rw [lfW_size]; omega)).trans (by unfold lfW; exact heap_new' _ _ _ (by simp))
    have HOl : Hid (Below w.heap.size w X) := (lf_old w t).trans (hb1.mono (by rw [lfW_size]; omega))
    have HOw : Hid (X.ownsRow (w1.heap.size + 2) 26 3 (.slice vo j vc) j (cellsV (headsV l j t))) := hrow
    have hw1 : w.heap.size + 2 ≤ w1.heap.size := by have := HB1.out.size; rw [lfW_size] at this; exact this
    have hK0 := hK
    clear hI hI' hrow hall hfull e hb1 hv hvf hj HKK HB1
    have sv1 := sv.1
    have sr0 := sr.1
    have sr1 := sr.2.1
    by_cases h200 : 200 < j
    · have HE := HMany.out h200
      subst HE
      have h2' : (200 : Int) < (j : Int) := by omega
      gi_wp2
      obtain ⟨hbx, hgr⟩ := five_put (c := 2) (s := .slice none 0 0) (t := ⟨0, 0, ⟨#[]⟩⟩) hblk
      simp only at hbx hgr
      generalize ((((X.setCell ⟨w.heap.size + 1, 0, none⟩ (.int .i64 2)).setCell ⟨w.heap.size + 1, 1, none⟩ (.slice none 0 0)).setCell ⟨w.heap.size + 1, 2, none⟩ (.int .i64 0)).setCell ⟨w.heap.size + 1, 3, none⟩ (.int .i64 0)).setCell ⟨w.heap.size + 1, 4, none⟩ (.string ⟨#[]⟩) = Y at hbx hgr ⊢
      have hKY : Y.heap[w1.heap.size + 4]? = some (.deferred (some [])) := (hgr.block _ (lt_of_block hK) (by simp; omega)).trans hK
      refine ⟨by simp, .inl ⟨_, _, rfl, run_takeDeferred hKY, ?_⟩⟩
      obtain ⟨y0, y1, y2, y3, y4⟩ := lf_put hbx (D := w1.heap.size + 4) (by omega) (.deferred none)
      refine ⟨.agg #[.int .i64 2, .slice none 0 0, .int .i64 0, .int .i64 0, .string ⟨#[]⟩], ?_, none, 0, rfl, none_rowV _ _, ?_⟩
      · simp [results, Try.f10, go_sem, y0, y1, y2, y3, y4]
      · exact (HOl.out.trans (below_of_grown hgr HOl.out.size (fun k hk => by have := Option.some.inj hk; omega))).trans (below_put _ _ _ _ (by omega))
    · have HE := HFew.out h200
      subst HE
      have h2' : ¬ (200 : Int) < (j : Int) := by omega
      gi_wp2_with fail
      refine (wpIn_wide).2 ?_
      refine wp_region_facts (by kernel_rfl) 4 (fun v => Below X.heap.size X v) (fun u v => Below u.heap.size u v) (fun i v u => match i with | 0 => (fun v u => v = .slice vo j vc) v u | 1 => (fun v u => v = .agg #[.int .u8 (wdOf (goV l j t)).tag, .int .u64 (wdOf (goV l j t)).rest]) v u | 2 => (fun v u => v = .agg #[.int .i64 (goV l j t).kind, .int .i64 (goV l j t).num, .string (goV l j t).name]) v u | 3 => (fun v u => v = .agg #[.int .i64 0, .slice vo j vc, .int .i64 (goV l j t).kind, .int .i64 (goV l j t).num, .string (goV l j t).name]) v u | _ => True) (by kernel_rfl) [0, 1, 2, 3] (by kernel_rfl) ?b0 ?bk ?fk ⟨?s0, ?s1, ?s2, ?s3, trivial⟩ _ rfl [(0, some 41), (1, some 42), (2, some 43), (3, some 44)] (by kernel_rfl) ?last
      case b0 => exact Below.drew (Below.refl _ _)
      case bk => exact fun u v h hb => h.trans (hb.mono h.size)
      case fk => intro i v u u' h hb; match i, h with | 0, h => exact (h) | 1, h => exact (h) | 2, h => exact (h) | 3, h => exact (h) | _ + 4, _ => exact trivial
      case s0 =>
        refine StepF.of rfl [] (by kernel_rfl) ?_
        intro vs u hB hf K hK
        clear hf
        simp only [putsA, List.foldl_nil, Act.put, List.setIfInBounds_toArray] at hK ⊢
        rw [if_pos (by rfl)]
        have g0 := cell_keep hB sv1
        go_simp
        exact hK.out _ _ (Below.refl _ _) rfl
      case s1 =>
        refine StepF.of rfl [] (by kernel_rfl) ?_
        intro vs u hB hf K hK
        clear hf
        simp only [putsA, List.foldl_nil, Act.put, List.setIfInBounds_toArray] at hK ⊢
        rw [if_pos (by rfl)]
        have g0 := cell_keep hB sr0
        have g1 := cell_keep hB sr1
        go_simp
        exact hK.out _ _ (Below.refl _ _) rfl
      case s2 =>
        refine StepF.of rfl [(1, some 42)] (by kernel_rfl) ?_
        intro vs u hB hf K hK
        have f1 : (fun v u => v = .agg #[.int .u8 (wdOf (goV l j t)).tag, .int .u64 (wdOf (goV l j t)).rest]) (vs 1) u := hf.1
        clear hf
        simp only [putsA, List.foldl_cons, List.foldl_nil, Act.put, List.setIfInBounds_toArray, List.set_cons_zero, List.set_cons_succ] at hK ⊢
        generalize vs 1 = v1 at f1 hK ⊢
        rw [if_pos (by rfl)]
        subst f1
        go_simp
        refine (HVal.out _).mono ?_
        rintro e w4 ⟨rfl, b4⟩
        exact hK.out _ _ b4 rfl
      case s3 =>
        refine StepF.of rfl [(0, some 41), (2, some 43)] (by kernel_rfl) ?_
        intro vs u hB hf K hK
        have f0 : (fun v u => v = .slice vo j vc) (vs 0) u := hf.1
        have f2 : (fun v u => v = .agg #[.int .i64 (goV l j t).kind, .int .i64 (goV l j t).num, .string (goV l j t).name]) (vs 2) u := hf.2.1
        clear hf
        simp only [putsA, List.foldl_cons, List.foldl_nil, Act.put, List.setIfInBounds_toArray, List.set_cons_zero, List.set_cons_succ] at hK ⊢
        generalize vs 0 = v0 at f0 hK ⊢
        generalize vs 2 = v2 at f2 hK ⊢
        rw [if_pos (by rfl)]
        subst f0
        subst f2
        go_simp
        exact hK.out _ _ (Below.refl _ _) rfl
      case last =>
        intro vs u hB hf K hK
        have f0 : (fun v u => v = .slice vo j vc) (vs 0) u := hf.1
        have f1 : (fun v u => v = .agg #[.int .u8 (wdOf (goV l j t)).tag, .int .u64 (wdOf (goV l j t)).rest]) (vs 1) u := hf.2.1
        have f2 : (fun v u => v = .agg #[.int .i64 (goV l j t).kind, .int .i64 (goV l j t).num, .string (goV l j t).name]) (vs 2) u := hf.2.2.1
        have f3 : (fun v u => v = .agg #[.int .i64 0, .slice vo j vc, .int .i64 (goV l j t).kind, .int .i64 (goV l j t).num, .string (goV l j t).name]) (vs 3) u := hf.2.2.2.1
        clear hf
        simp only [putsA, List.foldl_cons, List.foldl_nil, Act.put, List.setIfInBounds_toArray, List.set_cons_zero, List.set_cons_succ]
        generalize vs 0 = v0 at f0 ⊢
        generalize vs 1 = v1 at f1 ⊢
        generalize vs 2 = v2 at f2 ⊢
        generalize vs 3 = v3 at f3 ⊢
        rw [if_pos (by rfl)]
        subst f3
        clear f0 f1 f2
        have hbu : u.heap[w.heap.size + 1]? = _ := (hB.block _ (lt_of_block hblk)).trans hblk
        obtain ⟨z0, z1, z2, z3, z4, zf⟩ := five_cells hbu
        go_simp
        refine hK.out _ _ ?_
        clear hK z0 z1 z2 z3 z4 zf
        obtain ⟨hbx, hgr⟩ := five_put (c := 0) (s := .slice vo j vc) (t := goV l j t) hbu
        generalize ((((u.setCell ⟨w.heap.size + 1, 0, none⟩ (.int .i64 0)).setCell ⟨w.heap.size + 1, 1, none⟩ (.slice vo j vc)).setCell ⟨w.heap.size + 1, 2, none⟩ (.int .i64 (goV l j t).kind)).setCell ⟨w.heap.size + 1, 3, none⟩ (.int .i64 (goV l j t).num)).setCell ⟨w.heap.size + 1, 4, none⟩ (.string (goV l j t).name) = Y at hbx hgr ⊢
        have hKY : Y.heap[w1.heap.size + 4]? = some (.deferred (some [])) := (hgr.block _ (by have := lt_of_block hK0; have := hB.size; omega) (by simp; omega)).trans ((hB.block _ (lt_of_block hK0)).trans hK0)
        gi_wp2
        refine ⟨by simp, .inl ⟨_, _, rfl, run_takeDeferred hKY, ?_⟩⟩
        obtain ⟨y0, y1, y2, y3, y4⟩ := lf_put hbx (D := w1.heap.size + 4) (by omega) (.deferred none)
        refine ⟨.agg #[.int .i64 0, .slice vo j vc, .int .i64 (goV l j t).kind, .int .i64 (goV l j t).num, .string (goV l j t).name], ?_, vo, vc, by rw [hlenj], ?_, ?_⟩
        · simp [results, Try.f10, go_sem, y0, y1, y2, y3, y4]
        · rw [hlenj]
          refine own_base (base := w1.heap.size + 2) ?_ (by omega)
          refine own_same (own_apart (own_below HOw.out hB) hgr (fun g hg e => by have h1 := (HOw.out.lt g hg).1; have h2 := Option.some.inj e; omega)) (fun g hg => World.putObj_heap_other (fun e => ?_))
          rcases HOw.out.2 with ⟨e1, _⟩ | ⟨g2, c2, cu, e1, _, hg2, _⟩
          · rw [e1] at hg; cases hg
          · rw [e1] at hg
            have : g2 = g := by simpa [Value.ownBlock] using hg
            subst this
            subst e
            rw [hK0] at hg2; cases hg2
        · exact ((HOl.out.trans (hB.mono HOl.out.size)).trans (below_of_grown hgr (Nat.le_trans HOl.out.size hB.size) (fun k hk => by have := Option.some.inj hk; omega))).trans (below_put _ _ _ _ (by omega))
end Go.Proofs.Ytbfhoennafopaaa
