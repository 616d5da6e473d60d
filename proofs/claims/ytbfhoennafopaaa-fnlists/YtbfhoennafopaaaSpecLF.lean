/-
  The model's ListFrom: the heads from a value on, in memory of its own, and what is behind them; nothing that was there is turned.
-/
import Derived.Test.YtbfhoennafopaaaSpecCT
import Derived.Test.YtbfhoennafopaaaListMath
import Derived.Deep.AppendLies
namespace Go.Proofs.Ytbfhoennafopaaa
open Go.RowKit Go.Extern.Stop Go.Stop Go.Extern Num Go.Lib

/-- What ListFrom answers: a code, values in a row of its own, a value. -/
def AnsL (w : World) (c : Int) (m : List Vlu) (t : Vlu) (e : Ending) (w' : World) : Prop :=
  ∃ ao cp, e = .returned (.agg #[.int .i64 c, .slice ao m.length cp, .int .i64 t.kind, .int .i64 t.num, .string t.name]) ∧ w'.ownsRow w.heap.size 26 3 (.slice ao m.length cp) m.length (cellsV m) ∧ Below w.heap.size w w'
theorem none_rowV (w : World) (B : Nat) : w.ownsRow B 26 3 (.slice none 0 0) 0 (cellsV []) := ⟨by simp [cellsV], .inl ⟨rfl, rfl⟩⟩
/-- The two boxes of the call, as they were laid: the value that is asked, and the answer. -/
def lfW (w : World) (t : Vlu) : World := (w.alloc (.cells #[.int .i64 t.kind, .int .i64 t.num, .string t.name] 26)).alloc (.cells #[.int .i64 0, .slice none 0 0, .int .i64 0, .int .i64 0, .string ⟨#[]⟩] 34)
theorem lfW_size (w : World) (t : Vlu) : (lfW w t).heap.size = w.heap.size + 2 := by simp [lfW]
/-- How many values the box holds. -/
def lenV (r : Nat) (w : World) : Nat := match w.cell? ⟨r, 1, none⟩ with
  | some (.slice _ n _) => n
  | _ => 0
/-- The loop's state in memory. -/
structure LfAt (w : World) (t : Vlu) (l : List Pai) (j : Nat) (u : World) : Prop where
  lo : Below (w.heap.size + 2) (lfW w t) u
  c0 : u.cell? ⟨w.heap.size + 1 + 1, 0, none⟩ = some (.int .i64 0)
  c2 : u.cell? ⟨w.heap.size + 1 + 1, 2, none⟩ = some (.int .i64 (goV l j t).kind)
  c3 : u.cell? ⟨w.heap.size + 1 + 1, 3, none⟩ = some (.int .i64 (goV l j t).num)
  c4 : u.cell? ⟨w.heap.size + 1 + 1, 4, none⟩ = some (.string (goV l j t).name)
  fz : ∀ o, u.frozen? ⟨w.heap.size + 1 + 1, o, none⟩ = false
  row : ∃ ao c, u.cell? ⟨w.heap.size + 1 + 1, 1, none⟩ = some (.slice ao j c) ∧ u.ownsRow (w.heap.size + 3) 26 3 (.slice ao j c) j (cellsV (headsV l j t))
theorem LfAt.start (w : World) (t : Vlu) (l : List Pai) : LfAt w t l 0 ((lfW w t).alloc (.cells #[.int .i64 0, .slice none 0 0, .int .i64 t.kind, .int .i64 t.num, .string t.name] 34)) := by
  have hs := lfW_size w t
  refine ⟨(Below.refl _ _).alloc (by omega) _, ?_, ?_, ?_, ?_, fun o => ?_, none, 0, ?_, none_rowV _ _⟩
  all_goals first
    | (rw [World.cell?_alloc_at _ _ _ _ (by rw [hs])]; rfl)
    | (rw [World.frozen?_alloc_at _ _ _ _ (by rw [hs])])
theorem LfAt.size {w u : World} {t : Vlu} {l : List Pai} {j : Nat} (h : LfAt w t l j u) : w.heap.size + 3 ≤ u.heap.size := by have h1 : w.heap.size + 1 + 1 < u.heap.size := lt_of_cell h.c0; omega
theorem LfAt.len {w u : World} {t : Vlu} {l : List Pai} {j : Nat} (h : LfAt w t l j u) : lenV (w.heap.size + 1 + 1) u = j := by
  obtain ⟨ao, c, h1, _⟩ := h.row
  unfold lenV; rw [h1]
theorem lf_old (w : World) (t : Vlu) : Below w.heap.size w (lfW w t) := ((Below.refl _ _).alloc (Nat.le_refl _) _).alloc (by simp) _
theorem LfAt.old {w u : World} {t : Vlu} {l : List Pai} {j : Nat} (h : LfAt w t l j u) : Below w.heap.size w u := (lf_old w t).trans (h.lo.mono (by omega))
theorem LfAt.box {w u : World} {t : Vlu} {l : List Pai} {j : Nat} (h : LfAt w t l j u) : u.cell? ⟨w.heap.size + 1, 0, none⟩ = some (.int .i64 0) ∧ u.cell? ⟨w.heap.size + 1, 1, none⟩ = some (.slice none 0 0) ∧ u.cell? ⟨w.heap.size + 1, 2, none⟩ = some (.int .i64 0) ∧ u.cell? ⟨w.heap.size + 1, 3, none⟩ = some (.int .i64 0) ∧ u.cell? ⟨w.heap.size + 1, 4, none⟩ = some (.string ⟨#[]⟩) ∧ ∀ o, u.frozen? ⟨w.heap.size + 1, o, none⟩ = false := by
  have hb : Below (lfW w t).heap.size (lfW w t) u := h.lo.mono (by rw [lfW_size]; omega)
  have e : ∀ o, (lfW w t).cell? ⟨w.heap.size + 1, o, none⟩ = (#[Value.int .i64 0, .slice none 0 0, .int .i64 0, .int .i64 0, .string ⟨#[]⟩] : Array Value)[o]? := fun o => by unfold lfW; rw [World.cell?_alloc_at _ _ _ _ (by simp)]
  refine ⟨cell_keep hb (e 0), cell_keep hb (e 1), cell_keep hb (e 2), cell_keep hb (e 3), cell_keep hb (e 4), fun o => ?_⟩
  rw [(bcell hb).2 _ _ (by rw [lfW_size]; omega)]
  unfold lfW
  rw [World.frozen?_alloc_at _ _ _ _ (by simp)]
theorem lf_row_ne {w u : World} {j : Nat} {ao : Option Addr} {c : Nat} {xs : List Value} (h : u.ownsRow (w.heap.size + 3) 26 3 (.slice ao j c) j xs) : (Value.slice ao j c).ownBlock ≠ some (w.heap.size + 1 + 1) := fun e => by have := (h.lt _ e).1; omega
theorem LfAt.next {w wr U w4 : World} {t : Vlu} {l : List Pai} {j g' cap' ca : Nat} {ao : Option Addr} {p : Pai} (h : LfAt w t l j wr) (hb : Below wr.heap.size wr U) (hc : wr.cell? ⟨w.heap.size + 1 + 1, 1, none⟩ = some (.slice ao j ca)) (ho : wr.ownsRow (w.heap.size + 3) 26 3 (.slice ao j ca) j (cellsV (headsV l j t)))
    (hg : U.grownBy w4 (Value.slice ao j ca).ownBlock) (hown : w4.ownsRow (w.heap.size + 3) 26 3 (.slice (some ⟨g', 0, none⟩) (j + 1) cap') (j + 1) (cellsV (headsV l j t) ++ [.int .i64 p.head.kind, .int .i64 p.head.num, .string p.head.name]))
    (hgo : goV l (j + 1) t = p.tail) (hhd : headsV l (j + 1) t = headsV l j t ++ [p.head]) : LfAt w t l (j + 1) ((((w4.setCell ⟨w.heap.size + 1 + 1, 1, none⟩ (.slice (some ⟨g', 0, none⟩) (j + 1) cap')).setCell ⟨w.heap.size + 1 + 1, 2, none⟩ (.int .i64 p.tail.kind)).setCell ⟨w.heap.size + 1 + 1, 3, none⟩ (.int .i64 p.tail.num)).setCell ⟨w.heap.size + 1 + 1, 4, none⟩ (.string p.tail.name)) := by
  have hne := lf_row_ne ho
  have hsz := h.size
  have hsU := hb.size
  have k0 := hg.cell (cell_keep hb h.c0) (Ne.symm hne)
  have k1 := hg.cell (cell_keep hb hc) (Ne.symm hne)
  have k2 := hg.cell (cell_keep hb h.c2) (Ne.symm hne)
  have k3 := hg.cell (cell_keep hb h.c3) (Ne.symm hne)
  have k4 := hg.cell (cell_keep hb h.c4) (Ne.symm hne)
  have ne : ∀ {i j : Nat}, i ≠ j → (⟨w.heap.size + 1 + 1, i, none⟩ : Addr) ≠ ⟨w.heap.size + 1 + 1, j, none⟩ := fun h e => h (by injection e)
  have o : ∀ (v : World) (i j : Nat) (y : Value), i ≠ j → (v.setCell ⟨w.heap.size + 1 + 1, i, none⟩ y).cell? ⟨w.heap.size + 1 + 1, j, none⟩ = v.cell? ⟨w.heap.size + 1 + 1, j, none⟩ := fun v i j y h => World.cell?_setCell_other _ _ _ _ (ne h)
  have hgb : ∀ g, (Value.slice (some ⟨g', 0, none⟩) (j + 1) cap').ownBlock = some g → g ≠ w.heap.size + 1 + 1 := fun g hg e => by have := (hown.lt g hg).1; omega
  refine ⟨?_, ?_, ?_, ?_, ?_, fun x => ?_, some ⟨g', 0, none⟩, cap', ?_, ?_⟩
  · refine Below.setCell (Below.setCell (Below.setCell (Below.setCell ?_ (by simp) _) (by simp) _) (by simp) _) (by simp) _
    exact h.lo.trans ((hb.mono (by omega)).trans (below_of_grown hg (by omega) (fun k hk => by have := (ho.lt k hk).1; omega)))
  · rw [o _ 4 0 _ (by decide), o _ 3 0 _ (by decide), o _ 2 0 _ (by decide), o _ 1 0 _ (by decide)]; exact k0
  · rw [hgo, o _ 4 2 _ (by decide), o _ 3 2 _ (by decide)]
    exact World.cell?_setCell_same' _ _ _ (by rw [o _ 1 2 _ (by decide), k2]; rfl)
  · rw [hgo, o _ 4 3 _ (by decide)]
    exact World.cell?_setCell_same' _ _ _ (by rw [o _ 2 3 _ (by decide), o _ 1 3 _ (by decide), k3]; rfl)
  · rw [hgo]
    exact World.cell?_setCell_same' _ _ _ (by rw [o _ 3 4 _ (by decide), o _ 2 4 _ (by decide), o _ 1 4 _ (by decide), k4]; rfl)
  · rw [World.frozen?_setCell, World.frozen?_setCell, World.frozen?_setCell, World.frozen?_setCell, World.frozen?_of_block (a := ⟨w.heap.size + 1 + 1, x, none⟩) (hg.block _ (by show w.heap.size + 1 + 1 < _; omega) (Ne.symm hne)), (bcell hb).2 _ _ (by omega)]
    exact h.fz x
  · rw [o _ 4 1 _ (by decide), o _ 3 1 _ (by decide), o _ 2 1 _ (by decide)]
    exact World.cell?_setCell_same' _ _ _ (by rw [k1]; rfl)
  · rw [hhd, cellsV_append]
    exact own_set' (own_set' (own_set' (own_set' hown hgb _) hgb _) hgb _) hgb _
set_option maxRecDepth 100000 in
set_option maxHeartbeats 2000000 in
theorem specLF_any (cap base g : Nat) (l : List Pai) (t : Vlu) (w : World) (hl : l.length ≤ 1048576) (h : w.ownsRow base 71 6 (.slice (some ⟨g, 0, none⟩) l.length cap) l.length (cellsP l)) (hz : ableL l) (ht : t.name.size ≤ 9223372036854775807) :
    Calls Try.prog 22 #[.slice (some ⟨g, 0, none⟩) l.length cap, t.val] w fun e w' => AnsL w (codeLF l t) (outLF l t) (restLF l t) e w' := by
  have HR : Hid (RowP w g l) := RowP.of h
  have HA : Hid (Calls Try.prog 34 #[.slice (some ⟨g, 0, none⟩) l.length cap, .pointer (some ⟨w.heap.size, 0, none⟩)] (lfW w t) fun e w' => e = .returned (.int .i64 (askV l t)) ∧ w' = lfW w t) :=
    l5Asked_any _ cap g w.heap.size l t _ hl (fun _ => rfl) (HR.out.below (lf_old w t)) hz ht ⟨by unfold lfW; rw [World.cell?_alloc_past _ _ _ (by simp), World.cell?_alloc_at _ _ _ _ rfl]; rfl, by unfold lfW; rw [World.cell?_alloc_past _ _ _ (by simp), World.cell?_alloc_at _ _ _ _ rfl]; rfl, by unfold lfW; rw [World.cell?_alloc_past _ _ _ (by simp), World.cell?_alloc_at _ _ _ _ rfl]; rfl⟩
  clear h hz ht
  by_cases h0 : askV l t = 0
  case neg =>
    have e1 : codeLF l t = askV l t := by unfold codeLF; rw [if_pos h0]
    have h0' : (askV l t != 0) = true := by simpa using h0
    have e2 : outLF l t = [] := by unfold outLF; rw [e1, if_neg h0]
    have e3 : restLF l t = ⟨0, 0, ⟨#[]⟩⟩ := by unfold restLF; rw [e1, if_neg h0]
    rw [e1, e2, e3]
    clear e1 e2 e3 h0
    generalize askV l t = c at h0' HA
    unfold lfW at HA
    go_enter Try.func22, Try.ntmps22
    go_wp2_with fail
    refine HA.out.mono ?_
    rintro e w1 ⟨rfl, rfl⟩
    go_wp2
    refine bodyPost_ret (v := .agg #[.int .i64 c, .slice none 0 0, .int .i64 0, .int .i64 0, .string ⟨#[]⟩]) (by simp [results, Try.results22, go_sem]) rfl ⟨none, 0, rfl, none_rowV _ _, ?_⟩
    repeat (first | refine Below.setCell ?_ (by simp <;> omega) _ | refine Below.alloc ?_ (by simp <;> omega) _ | exact Below.refl _ _)
  obtain ⟨hh, hi⟩ := askV_zero h0
  have hah := aheadV_of hi
  have ec : codeLF l t = if 200 < (allV l t).length then 2 else 0 := by unfold codeLF; rw [if_neg (by rw [h0]; decide)]
  have HMany : Hid (200 < (allV l t).length → AnsL w (codeLF l t) (outLF l t) (restLF l t) = AnsL w 2 [] ⟨0, 0, ⟨#[]⟩⟩) := fun h => by
    have e1 : codeLF l t = 2 := by rw [ec, if_pos h]
    rw [e1]; unfold outLF restLF; rw [e1, if_neg (by decide), if_neg (by decide)]
  have HFew : Hid (¬ 200 < (allV l t).length → AnsL w (codeLF l t) (outLF l t) (restLF l t) = AnsL w 0 (allV l t) (restV l t)) := fun h => by
    have e1 : codeLF l t = 0 := by rw [ec, if_neg h]
    rw [e1]; unfold outLF restLF; rw [e1, if_pos rfl, if_pos rfl]
  have HAl : Hid (∀ j, (goV l j t).kind ≠ 5 → allV l t = headsV l j t ∧ restV l t = goV l j t) := fun j hj => allV_at hh hah hj
  have HOn : Hid (∀ j, (goV l j t).kind = 5 → ∃ (k : Nat) (hk : k < l.length), (goV l j t).num = (k : Int) ∧ k + j < l.length ∧ goV l (j + 1) t = (l[k]'hk).tail ∧ headsV l (j + 1) t = headsV l j t ++ [(l[k]'hk).head]) := fun j hj => by
    obtain ⟨h1, h2⟩ := goV_ahead hh j l.length t (Nat.le_refl _) hah
    obtain ⟨hi, _, he, _, _⟩ := atV_some hh (Nat.le_refl _) h1 hj
    have h3 := h1.2 hj
    refine ⟨_, hi, by omega, h2 hj, ?_⟩
    exact goV_on l j t _ he
  have HLe : Hid (∀ j, (headsV l j t).length = j → headsV l j t <+: allV l t ∨ l.length < j) := fun j _ => by
    by_cases hj : j ≤ l.length
    · left; unfold allV; have := headsV_pre (l := l) j (l.length - j) t; rwa [show j + (l.length - j) = l.length by omega] at this
    · right; omega
  rw [h0] at HA
  generalize AnsL w (codeLF l t) (outLF l t) (restLF l t) = ANS at HMany HFew ⊢
  clear h0 hi hah ec
  obtain ⟨i0, hi, hz0, hz1, hz2⟩ := info_parts infoV
  unfold lfW at HA
  go_enter Try.func22, Try.ntmps22
  go_wp2_with fail
  refine HA.out.mono ?_
  rintro e w1 ⟨rfl, rfl⟩
  go_wp2_with fail
  go_loopw [7] (fun _ wr => ∃ j : Nat, j ≤ 200 ∧ Hid (j ≤ l.length) ∧ Hid (LfAt w t l j wr)) (fun _ wr => 201 - lenV (w.heap.size + 1 + 1) wr)
  case atStart => exact ⟨0, Nat.zero_le _, Nat.zero_le _, LfAt.start w t l⟩
  case round =>
    obtain ⟨j, hj, HJ, HL⟩ := hrel
    obtain ⟨ao, ca, hrc, hrow⟩ := HL.out.row
    have HLN : Hid ((headsV l j t).length = j) := by show _ = _; have := hrow.1; rw [cellsV_length] at this; omega
    have HO : Hid (wr.ownsRow (w.heap.size + 3) 26 3 (.slice ao j ca) j (cellsV (headsV l j t))) := hrow
    have c2 := HL.out.c2
    have c3 := HL.out.c3
    have c4 := HL.out.c4
    have fz := HL.out.fz
    have zz := HL.out.size
    have hne := lf_row_ne hrow
    obtain ⟨r0, r1, r2, r3, r4, rf⟩ := HL.out.box
    have HLen : Hid (lenV (w.heap.size + 1 + 1) wr = j) := by show lenV _ _ = j; unfold lenV; rw [hrc]
    clear hrow
    have c0 := HL.out.c0
    have z2 : w.heap.size + 1 + 1 < wr.heap.size := by omega
    have z1 : w.heap.size + 1 < wr.heap.size := by omega
    by_cases hk : (goV l j t).kind = 5
    · obtain ⟨k, hkl, hnum, hkj, hgo, hhd⟩ := HOn.out j hk
      obtain ⟨e0, e1, e2, e3, e4, e5⟩ := (HR.out.below HL.out.old) k hkl
      obtain ⟨p, hp⟩ : ∃ p, p = l[k]'hkl := ⟨_, rfl⟩
      rw [← hp] at e0 e1 e2 e3 e4 e5 hgo hhd
      rw [hk] at c2
      rw [hnum] at c3
      have HG : Hid (goV l (j + 1) t = p.tail ∧ headsV l (j + 1) t = headsV l j t ++ [p.head]) := ⟨hgo, hhd⟩
      have HJ1 : Hid (j + 1 ≤ l.length) := by show j + 1 ≤ l.length; omega
      clear hp hgo hhd hk hnum
      have hl63 : l.length ≤ 9223372036854775807 := by omega
      go_wp2_with (at_builtin; refine wpList_append_lies _ rfl (.tmp 27) (.tmp 30) 32 rfl (w.heap.size + 3) 26 i0 _ 3 32 Try.underlying32 hi hz0 hz1 hz2 rfl (by decide) _ j (cellsV (headsV l j t)) rfl ((HO.out.alloc _).alloc _) ⟨_, 0, none⟩ 1 1 [.int .i64 p.head.kind, .int .i64 p.head.num, .string p.head.name] rfl rfl ?c1 ?c2 (by decide) ?c3 ?c4 ?c5 _ rfl ?_)
      case c1 => exact World.news_of_block (cs := #[.int .i64 p.head.kind, .int .i64 p.head.num, .string p.head.name]) (t := 26) (fr := (0, 0)) (heap_new' _ _ _ (by simp))
      case c2 => intro u hu; simp at hu; rcases hu with rfl | rfl | rfl <;> rfl
      case c3 => unfold maxLen; omega
      case c4 => omega
      case c5 => simp; omega
      intro g' cap' w4 hown4 hgrow4 _ hlt4
      have hbU : Below wr.heap.size wr ((wr.alloc (.cells #[.int .i64 p.head.kind, .int .i64 p.head.num, .string p.head.name, .int .i64 p.tail.kind, .int .i64 p.tail.num, .string p.tail.name] 71)).alloc (.cells #[.int .i64 p.head.kind, .int .i64 p.head.num, .string p.head.name] 26)) := ((Below.refl _ _).alloc (Nat.le_refl _) _).alloc (by simp) _
      have HN : Hid (LfAt w t l (j + 1) ((((w4.setCell ⟨w.heap.size + 1 + 1, 1, none⟩ (.slice (some ⟨g', 0, none⟩) (j + 1) cap')).setCell ⟨w.heap.size + 1 + 1, 2, none⟩ (.int .i64 p.tail.kind)).setCell ⟨w.heap.size + 1 + 1, 3, none⟩ (.int .i64 p.tail.num)).setCell ⟨w.heap.size + 1 + 1, 4, none⟩ (.string p.tail.name))) := HL.out.next hbU hrc HO.out hgrow4 hown4 HG.out.1 HG.out.2
      have hnp : (Value.slice ao j ca).ownBlock ≠ some wr.heap.size := fun e => by have := (HO.out.lt _ e).2; omega
      have pb : ∀ o x, (#[Value.int .i64 p.head.kind, .int .i64 p.head.num, .string p.head.name, .int .i64 p.tail.kind, .int .i64 p.tail.num, .string p.tail.name] : Array Value)[o]? = some x → w4.cell? ⟨wr.heap.size, o, none⟩ = some x := fun o x hx => hgrow4.cell (by rw [World.cell?_alloc_past _ _ _ (by simp), World.cell?_alloc_at _ _ _ _ rfl]; exact hx) (Ne.symm hnp)
      have pb3 := pb 3 _ rfl
      have pb4 := pb 4 _ rfl
      have pb5 := pb 5 _ rfl
      have q1 := hgrow4.cell (cell_keep hbU hrc) (Ne.symm hne)
      have q2 := hgrow4.cell (cell_keep hbU c2) (Ne.symm hne)
      have q3 := hgrow4.cell (cell_keep hbU c3) (Ne.symm hne)
      have q4 := hgrow4.cell (cell_keep hbU c4) (Ne.symm hne)
      have f4 : ∀ o, w4.frozen? ⟨w.heap.size + 1 + 1, o, none⟩ = false := fun o => by
        rw [World.frozen?_of_block (a := ⟨w.heap.size + 1 + 1, o, none⟩) (hgrow4.block _ (by show w.heap.size + 1 + 1 < _; simp; omega) (Ne.symm hne)), (bcell hbU).2 _ _ (by omega)]; exact fz o
      have z4 : wr.heap.size < w4.heap.size := lt_of_cell pb3
      have zn : w.heap.size + 1 + 1 ≠ wr.heap.size := by omega
      have HOld : Hid (Below w.heap.size w w4) := HL.out.old.trans ((hbU.mono HL.out.old.size).trans (below_of_grown hgrow4 (by simp; omega) (fun k hk => by have := (HO.out.lt k hk).1; omega)))
      clear pb hbU hgrow4 hown4 c0 c2 c3 c4 hrc fz e0 e1 e2 e3 e4 e5 r0 r1 r2 r3 r4 rf
      obtain ⟨r0, r1, r2, r3, r4, rf⟩ := HN.out.box
      have HNl : Hid (200 < j + 1 → 200 < (allV l t).length) := fun h => by
        have h1 : (headsV l (j + 1) t).length = j + 1 := by rw [HG.out.2, List.length_append, HLN.out]; rfl
        rcases HLe.out (j + 1) h1 with h2 | h2
        · have := h2.length_le; omega
        · have := HJ1.out; omega
      clear hkj hkl hne hnp hl63
      by_cases hj2 : j = 200
      · subst hj2
        have HE := HMany.out (HNl.out (by omega))
        subst HE
        go_wp2
        refine bodyPost_ret (v := .agg #[.int .i64 2, .slice none 0 0, .int .i64 0, .int .i64 0, .string ⟨#[]⟩]) (by simp [results, Try.results22, go_sem, r0, r1, r2, r3, r4]) rfl ⟨none, 0, rfl, none_rowV _ _, ?_⟩
        repeat (first | refine Below.setCell ?_ (by simp <;> omega) _ | exact HOld.out)
      · have hj3 : j + 1 ≤ 200 := by omega
        clear hj2 hj r0 r1 r2 r3 r4 rf
        have HL2 : Hid (lenV (w.heap.size + 1 + 1) ((((w4.setCell ⟨w.heap.size + 1 + 1, 1, none⟩ (.slice (some ⟨g', 0, none⟩) (j + 1) cap')).setCell ⟨w.heap.size + 1 + 1, 2, none⟩ (.int .i64 p.tail.kind)).setCell ⟨w.heap.size + 1 + 1, 3, none⟩ (.int .i64 p.tail.num)).setCell ⟨w.heap.size + 1 + 1, 4, none⟩ (.string p.tail.name)) = j + 1) := HN.out.len
        go_wp2
        exact ⟨⟨j + 1, hj3, HJ1.out, HN⟩, by rw [HL2.out, HLen.out]; omega⟩
    · have hk' : ((goV l j t).kind == 5) = false := by simpa using hk
      have HE := HFew.out (by rw [(HAl.out j hk).1, HLN.out]; omega)
      rw [(HAl.out j hk).1, (HAl.out j hk).2] at HE
      subst HE
      go_wp2
      refine bodyPost_ret (v := .agg #[.int .i64 0, .slice ao j ca, .int .i64 (goV l j t).kind, .int .i64 (goV l j t).num, .string (goV l j t).name]) (by simp [results, Try.results22, go_sem, r0, r1, r2, r3, r4]) rfl ⟨ao, ca, by rw [HLN.out], ?_, ?_⟩
      · rw [HLN.out]
        refine own_base (base := w.heap.size + 3) ?_ (by omega)
        repeat (first | refine own_set_low ?_ (by omega) _ | exact HO.out)
      · have hold := HL.out.old
        repeat (first | refine Below.setCell ?_ (by simp) _ | exact hold)
end Go.Proofs.Ytbfhoennafopaaa
