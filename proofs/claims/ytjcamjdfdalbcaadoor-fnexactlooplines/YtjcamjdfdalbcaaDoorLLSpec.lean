/-
  The model's LoopLines: the lines that aren't blank, or a code; nothing that was there is turned.
-/
import Derived.Test.YtjcamjdfdalbcaaDoorLLImpl
import Derived.Deep.RegionLaw
import Derived.Deep.DrawnRows
namespace Go.Proofs.YtjcamjdfdalbcaaDoor
open Go.RowKit Go.Extern.Stop Go.Stop Go.Extern Num Go.Lib

attribute [local go_sem ↓] Go.wp_at_zero Go.wp_at_succ
/-- The answer that grows: its code, and its names in a row of their own. -/
structure OutT (w : World) (r : Nat) (v : Value) (L : List ByteArray) : Prop where
  c0 : w.cell? ⟨r, 0, none⟩ = some (.int .i64 0)
  fz : ∀ o, w.frozen? ⟨r, o, none⟩ = false
  f1 : Fld w r r 1 9 1 v L.length (cellsT L)
theorem OutT.below {w w' : World} {r : Nat} {v : Value} {L : List ByteArray} (h : OutT w r v L) (hb : Below w.heap.size w w') : OutT w' r v L :=
  ⟨cell_keep hb h.c0, fun o => by rw [(bcell hb).2 _ _ h.f1.lt]; exact h.fz o, h.f1.below hb⟩
theorem OutT.put {w U w1 : World} {r g' c' H : Nat} {v : Value} {L : List ByteArray} {z : ByteArray} (h : OutT w r v L) (hb : Below w.heap.size w U) (hg : U.grownBy w1 v.ownBlock)
    (hown : w1.ownsRow r 9 1 (.slice (some ⟨g', 0, none⟩) (L.length + 1) c') (L.length + 1) (cellsT L ++ [.string z])) (hat : v.ownBlock = some g' ∨ g' = H) (hH : U.heap.size = H) :
    OutT (w1.setCell ⟨r, 1, none⟩ (.slice (some ⟨g', 0, none⟩) (L.length + 1) c')) r (.slice (some ⟨g', 0, none⟩) (L ++ [z]).length c') (L ++ [z]) ∧ Below r w (w1.setCell ⟨r, 1, none⟩ (.slice (some ⟨g', 0, none⟩) (L.length + 1) c')) := by
  have hlt := h.f1.lt
  have hsz := hb.size
  have hne : v.ownBlock ≠ some r := fun e => h.f1.2.2 r e rfl
  have k0 := afterGrow (f := 0) hb h.c0 (h.fz 0) hg hne
  refine ⟨⟨?_, fz_grown (fun o => by rw [(bcell hb).2 _ _ hlt]; exact h.fz o) (by omega) hg hne _ _, ?_⟩, ?_⟩
  · rw [World.cell?_setCell_other _ _ _ _ (by intro e; injection e with _ e2 _; exact absurd e2 (by decide))]
    exact k0.1
  · have e : (L ++ [z]).length = L.length + 1 := by simp
    rw [e, cellsT_append]
    refine (h.f1.below hb).put hg hown (fun g hg' => ?_)
    have : g' = g := by simpa [Value.ownBlock] using hg'
    subst this
    rcases hat with h1 | h1
    · exact .inl h1
    · right; omega
  · exact Below.setCell ((hb.mono (by omega)).grown hg (by omega) (fun k hk => (h.f1.2.1.lt k hk).1)) (Nat.le_refl _) _
theorem OutT.new (w : World) : OutT (w.alloc (.cells #[.int .i64 0, .slice none 0 0] 24)) w.heap.size (.slice none 0 0) [] :=
  ⟨by rw [World.cell?_alloc_at _ _ _ _ rfl]; rfl, fun o => by simp [go_sem], by rw [World.cell?_alloc_at _ _ _ _ rfl]; rfl, World.ownsRow_nil _ _ _ _, fun g h => by simp [Value.ownBlock] at h⟩
theorem sliceS (s : ByteArray) (i j : Nat) (h1 : i ≤ j) (h2 : j ≤ s.size) (w : World) : (Instr.slice 9 (.string s) (some (.int .i64 (i : Int))) (some (.int .i64 (j : Int))) none).run Tryd.prog w = .ok (.string (s.extract i j)) w := by
  rw [run_slice_string (P := Tryd.prog) w 9 s .i64 .i64 i j Tryd.underlying9 (by omega) (by omega) (by omega)]; simp
/-- How far the model is at the i-th byte: a line begins at f, the lines L lie behind it. -/
structure LnAt (t : ByteArray) (f i : Nat) (L : List ByteArray) : Prop where
  fi : f ≤ i
  len : L.length ≤ i
  all : if i ≤ t.size then L ++ linesL (t.extract f t.size) = linesL t ∧ ∀ (k : Nat), f ≤ k → k < i → t.data.toList[k]? ≠ some 10 else L = linesL t
theorem LnAt.zero (t : ByteArray) : LnAt t 0 0 [] := by
  refine ⟨Nat.le_refl _, Nat.le_refl _, ?_⟩
  rw [if_pos (by omega)]
  refine ⟨?_, fun k _ h => by omega⟩
  have e : t.extract 0 t.size = t := by
    apply ByteArray.ext
    apply Array.ext'
    rw [extract_data, List.drop_zero, Nat.sub_zero, List.take_of_length_le (by simp)]
  rw [e]; rfl
theorem LnAt.next {t : ByteArray} {f i : Nat} {L : List ByteArray} (h : LnAt t f i L) (hi : i < t.size) (hx : t[i] ≠ 10) : LnAt t f (i + 1) L := by
  obtain ⟨h1, h2, h3⟩ := h
  rw [if_pos (by omega)] at h3
  refine ⟨by omega, by omega, ?_⟩
  rw [if_pos (by omega)]
  refine ⟨h3.1, fun k hk hk2 => ?_⟩
  by_cases e : k < i
  · exact h3.2 k hk e
  · obtain rfl : k = i := by omega
    intro h4
    apply hx
    have := (List.getElem?_eq_some_iff.1 h4).2
    exact this
/-- A line is at its end. -/
theorem LnAt.line {t : ByteArray} {f i : Nat} {L : List ByteArray} (h : LnAt t f i L) (hi : i ≤ t.size) (hx : ∀ h : i < t.size, t[i] = 10) : LnAt t (i + 1) (i + 1) (if blankB (t.extract f i) = true then L else L ++ [t.extract f i]) := by
  obtain ⟨h1, h2, h3⟩ := h
  rw [if_pos hi] at h3
  refine ⟨Nat.le_refl _, by cases blankB (t.extract f i) <;> simp <;> omega, ?_⟩
  by_cases h4 : i < t.size
  · rw [if_pos (by omega)]
    refine ⟨?_, fun k hk hk2 => by omega⟩
    rw [← h3.1, linesL_hit t f i h1 h4 (by rw [List.getElem?_eq_some_iff]; exact ⟨by simpa using h4, hx h4⟩) h3.2]
    cases blankB (t.extract f i) <;> simp
  · obtain rfl : i = t.size := by omega
    rw [if_neg (by omega), ← h3.1, linesL_miss t f h1 h3.2]
    cases blankB (t.extract f t.size) <;> simp
theorem LnAt.done {t : ByteArray} {f i : Nat} {L : List ByteArray} (h : LnAt t f i L) (hi : t.size < i) : L = linesL t := by
  have := h.all
  rwa [if_neg (by omega)] at this
theorem linesF_two (L : List ByteArray) : linesF L 0 = 0 ∨ linesF L 0 = 2 := by
  have h : ∀ l : List ByteArray, longL l = 0 ∨ longL l = 2 := by
    intro l
    induction l with
    | nil => exact .inl rfl
    | cons s r ih =>
      unfold longL
      split
      · exact .inr rfl
      · exact ih
  unfold linesF
  split
  · exact .inr rfl
  · rw [if_pos (by omega)]; exact h L
set_option maxRecDepth 100000 in
set_option maxHeartbeats 4000000 in
theorem specLL_any (t : ByteArray) (w : World) (hs : t.size ≤ 1048576) :
    Calls Tryd.prog 4 #[.string t] w fun e w' => AnsLL (lcL t) (lmL t) w w' e := by
  by_cases h2 : t.size ≤ 2000
  · have HBl : Hid (∀ (s : ByteArray) (u : World), s.size ≤ 1048576 → Calls Tryd.prog 9 #[.string s] u fun e w' => e = .returned (.bool (blankB s)) ∧ w' = u) := fun s u h => l15Blank_any s h u
    have HLf : Hid (∀ (u : World) (a : Option Addr) (c : Nat), MemT u a (linesL t) → Calls Tryd.prog 10 #[.slice a (linesL t).length c, .int .i64 0] u fun e w' => e = .returned (.int .i64 (linesF (linesL t) 0)) ∧ w' = u) := fun u a c h => specLn_any a c (linesL t) 0 u (by have := linesL_len t; omega) h (fun k h => by have := linesL_size t k h; omega)
    obtain ⟨i0, hi, hz0, hz1, hz2⟩ := info_parts infoT
    go_enter Tryd.func4, Tryd.ntmps4
    go_wp2_with fail
    obtain ⟨W1, hW1⟩ : ∃ W1, W1 = w.alloc (.cells #[.int .i64 0, .slice none 0 0] 24) := ⟨_, rfl⟩
    have hz1' : W1.heap.size = w.heap.size + 1 := by rw [hW1]; simp
    have HW1 : Hid (Below w.heap.size w W1) := by rw [hW1]; exact (Below.refl _ _).alloc (Nat.le_refl _) _
    have HR1 : Hid (RBx W1 w.heap.size 0 (.slice none 0 0)) := by rw [hW1]; exact RBx.new w
    have HO1 : Hid (OutT ((w.alloc (.cells #[.int .i64 0, .slice none 0 0] 24)).alloc (.cells #[.int .i64 0, .slice none 0 0] 24)) (w.heap.size + 1) (.slice none 0 0) []) := by
      have := OutT.new W1
      rw [hz1', hW1] at this
      exact this
    have HB1 : Hid (Below (w.heap.size + 1) W1 ((w.alloc (.cells #[.int .i64 0, .slice none 0 0] 24)).alloc (.cells #[.int .i64 0, .slice none 0 0] 24))) := by
      rw [← hW1]; exact (Below.refl _ _).alloc (by omega) _
    clear hW1
    go_loopw [4, 5, 6] (fun a b _ wr => ∃ (f i : Nat) (v : Value) (L : List ByteArray), i ≤ t.size + 1 ∧ f ≤ i ∧ L.length ≤ i ∧ a = .int .i64 (f : Int) ∧ b = .int .i64 (i : Int) ∧ Hid (LnAt t f i L) ∧ Hid (OutT wr (w.heap.size + 1) v L) ∧ Hid (Below (w.heap.size + 1) W1 wr)) (fun _ b _ _ => t.size + 1 - (RowKit.intOf b).toNat)
    case atStart => exact ⟨0, 0, _, [], by omega, Nat.le_refl _, Nat.le_refl _, rfl, rfl, LnAt.zero t, HO1.out, HB1.out⟩
    case round =>
      obtain ⟨f, i, v, L, hi1, hfi, hLi, rfl, rfl, HL, HO, HB⟩ := hrel
      by_cases hle : i ≤ t.size
      · have hC : (∃ h : i < t.size, (((t[i]'h).toNat : Int) == 10) = false) ∨ (∃ h : i < t.size, (((t[i]'h).toNat : Int) == 10) = true) ∨ i = t.size := by
          by_cases h : i < t.size
          · cases hq : (((t[i]'h).toNat : Int) == 10)
            · exact .inl ⟨h, hq⟩
            · exact .inr (.inl ⟨h, hq⟩)
          · exact .inr (.inr (by omega))
        rcases hC with ⟨hlt, ht⟩ | hC
        · have HN : Hid (LnAt t f (i + 1) L) := HL.out.next hlt fun e => by rw [e] at ht; exact absurd ht (by decide)
          go_wp2_with fail
          exact ⟨⟨f, i + 1, v, L, by omega, by omega, by omega, rfl, by go_num, HN.out, HO.out, HB.out⟩, by simp [RowKit.intOf]; omega⟩
        · have HN : Hid (LnAt t (i + 1) (i + 1) (if blankB (t.extract f i) = true then L else L ++ [t.extract f i])) := HL.out.line hle fun h => by
            rcases hC with ⟨h9, ht⟩ | e
            · exact u8_of _ 10 ht
            · omega
          have hsl := sliceS t f i hfi hle
          have hxs : (t.extract f i).size ≤ 1048576 := by rw [ByteArray.size_extract]; omega
          have HX : Hid (∀ u, Calls Tryd.prog 9 #[.string (t.extract f i)] u fun e w' => e = .returned (.bool (blankB (t.extract f i))) ∧ w' = u) := fun u => HBl.out _ u hxs
          clear hxs
          generalize t.extract f i = x at hsl HX HN
          generalize blankB x = D at HX HN
          rcases hC with ⟨hlt, ht⟩ | hC
          case' inr => have hlt : ¬ (i : Int) < (t.size : Int) := by omega
                       clear hC
          all_goals
            cases D
            · have HN2 : Hid (LnAt t (i + 1) (i + 1) (L ++ [x])) := HN.out
              obtain ⟨av, cv, hv⟩ : ∃ av cv, v = .slice av L.length cv := own_form HO.out.f1.2.1
              subst hv
              have o1 := HO.out.f1.1
              have hb1 : w.heap.size + 1 < wr.heap.size := HO.out.f1.lt
              have HRow : Hid (wr.ownsRow (w.heap.size + 1) 9 1 (.slice av L.length cv) L.length (cellsT L)) := HO.out.f1.2.1
              have fz1 := HO.out.fz 1
              have ag : (Value.slice av L.length cv).ownBlock ≠ some (w.heap.size + 1) := fun e => HO.out.f1.2.2 _ e rfl
              go_wp2_with (first | (go_at_call 9; refine (HX.out _).mono ?_; rintro e w' ⟨rfl, hw'⟩; replace hw' := hw'.symm; subst hw') | (at_builtin; refine wpList_append_lies _ rfl (.tmp 36) (.tmp 38) 22 rfl (w.heap.size + 1) 9 i0 _ 1 16 Tryd.underlying22 hi hz0 hz1 hz2 rfl (by decide) _ L.length (cellsT L) rfl (HRow.out.alloc _) ⟨_, 0, none⟩ 1 1 [.string x] rfl rfl ?c1 ?c2 (by decide) ?c3 ?c4 ?c5 _ rfl ?_))
              case c1 => exact newsT (heap_new' _ _ _ (by simp))
              case c2 => intro u hu; simp at hu; rcases hu with rfl; rfl
              case c3 => unfold maxLen; omega
              case c4 => omega
              case c5 => simp; omega
              intro g' cap' w1 hown1 hgrow1 hat1 hlt1
              have R : Hid _ := OutT.put (z := x) HO.out ((Below.refl _ wr).alloc (Nat.le_refl _) _) hgrow1 hown1 hat1 (by simp)
              obtain ⟨k1, k2⟩ := afterGrow (w := wr) ((Below.refl _ wr).alloc (Nat.le_refl _) _) o1 fz1 hgrow1 ag
              have HBn : Hid (∀ u, Below (w.heap.size + 1) wr u → Below (w.heap.size + 1) W1 u) := fun u hu => HB.out.trans hu
              clear hgrow1 hown1 hat1 hlt1
              go_wp2
              exact ⟨⟨i + 1, i + 1, _, L ++ [x], by omega, by omega, by simp; omega, by go_num, by go_num, HN2.out, R.out.1, HBn.out _ R.out.2⟩, by simp [RowKit.intOf]; omega⟩
            · have HN2 : Hid (LnAt t (i + 1) (i + 1) L) := HN.out
              go_wp2_with (go_at_call 9; refine (HX.out _).mono ?_; rintro e w' ⟨rfl, hw'⟩; replace hw' := hw'.symm; subst hw')
              exact ⟨⟨i + 1, i + 1, v, L, by omega, by omega, by omega, by go_num, by go_num, HN2.out, HO.out, HB.out⟩, by simp [RowKit.intOf]; omega⟩
      · have HE : Hid (L = linesL t) := HL.out.done (by omega)
        obtain ⟨av, cv, hv⟩ : ∃ av cv, v = .slice av L.length cv := own_form HO.out.f1.2.1
        subst hv
        have HX : Hid (Calls Tryd.prog 10 #[.slice av L.length cv, .int .i64 0] wr fun e w' => e = .returned (.int .i64 (linesF L 0)) ∧ w' = wr) := by
          have hM : MemT wr av L := fun h0 => by
            obtain ⟨g, c, e1, e2, -⟩ := HO.out.f1.2.1.form (by omega)
            obtain ⟨rfl, rfl⟩ : av = some ⟨g, 0, none⟩ ∧ cv = c := by simp at e1; exact e1
            exact MemT.of HO.out.f1.2.1 h0
          have := HLf.out wr av cv (by rw [← HE.out]; exact hM)
          rw [← HE.out] at this
          exact this
        obtain ⟨F, hF⟩ : ∃ F, F = linesF L 0 := ⟨_, rfl⟩
        rw [← hF] at HX
        have HA : Hid (lcL t = F ∧ lmL t = if F = 0 then L else []) := by
          refine ⟨by unfold lcL; rw [if_neg (by omega), ← HE.out, hF], ?_⟩
          unfold lmL
          rw [← HE.out, ← hF]
          by_cases h3 : F = 0
          · rw [if_pos ⟨h2, h3⟩, if_pos h3]
          · rw [if_neg (fun h => h3 h.2), if_neg h3]
        have hF2 : F = 0 ∨ F = 2 := by rw [hF]; exact linesF_two L
        clear hF
        have HR : Hid (RBx wr w.heap.size 0 (.slice none 0 0)) := ⟨by rw [HB.out.cell (p := ⟨w.heap.size, 0, none⟩) (by simp)]; exact HR1.out.p0, by rw [HB.out.cell (p := ⟨w.heap.size, 1, none⟩) (by simp)]; exact HR1.out.p1, fun o => by rw [HB.out.frozen (p := ⟨w.heap.size, o, none⟩) (by simp)]; exact HR1.out.fz o⟩
        have HB3 : Hid (Below w.heap.size w wr) := HW1.out.trans (HB.out.mono (by omega))
        obtain ⟨q0, q1, qf⟩ := HR.out
        have f0 := qf 0
        have f1 := qf 1
        have o0 := HO.out.c0
        have o1 := HO.out.f1.1
        have hlt1 := HO.out.f1.lt
        have HOe : Hid (wr.ownsRow (w.heap.size + 1) 9 1 (.slice av L.length cv) L.length (cellsT L)) := HO.out.f1.2.1
        clear qf
        rcases hF2 with rfl | rfl
        · obtain ⟨e0, e1⟩ := HR.out.two (.int .i64 0) (.slice av L.length cv)
          go_wp2_with (go_at_call 10; refine HX.out.mono ?_; rintro e w' ⟨rfl, hw'⟩; replace hw' := hw'.symm; subst hw')
          refine bodyPost_ret (v := .agg #[.int .i64 0, .slice av L.length cv]) (by simp [results, Tryd.results4, go_sem, e0, e1]) rfl ?_
          rw [HA.out.1, HA.out.2, if_pos trivial]
          have hnb : ∀ gg, (Value.slice av L.length cv).ownBlock = some gg → gg ≠ w.heap.size := fun gg hgg => by have := (HOe.out.lt gg hgg).1; omega
          exact ⟨_, _, rfl, own_base (own_set' (own_set' HOe.out hnb _) hnb _) (by omega), Below.setCell (Below.setCell HB3.out (Nat.le_refl _) _) (Nat.le_refl _) _⟩
        · obtain ⟨e0, e1⟩ := HR.out.two (.int .i64 2) (.slice none 0 0)
          go_wp2_with (go_at_call 10; refine HX.out.mono ?_; rintro e w' ⟨rfl, hw'⟩; replace hw' := hw'.symm; subst hw')
          refine bodyPost_ret (v := .agg #[.int .i64 2, .slice none 0 0]) (by simp [results, Tryd.results4, go_sem, e0, e1]) rfl ?_
          rw [HA.out.1, HA.out.2, if_neg (by decide)]
          exact ⟨_, _, rfl, World.ownsRow_nil _ _ _ _, Below.setCell (Below.setCell HB3.out (Nat.le_refl _) _) (Nat.le_refl _) _⟩
  · have h3 : 2000 < t.size := by omega
    have HA : Hid (lcL t = 2 ∧ lmL t = []) := ⟨by unfold lcL; rw [if_pos h3], by unfold lmL; rw [if_neg (fun h => h2 h.1)]⟩
    clear h2
    go_enter Tryd.func4, Tryd.ntmps4
    go_wp2_with fail
    refine bodyPost_ret (v := .agg #[.int .i64 2, .slice none 0 0]) (by simp [results, Tryd.results4, go_sem]) rfl ?_
    rw [HA.out.1, HA.out.2]
    refine ⟨_, _, rfl, World.ownsRow_nil _ _ _ _, ?_⟩
    repeat (first | exact Below.refl _ _ | refine Below.alloc ?_ (by simp) _ | refine Below.setCell ?_ (by simp) _)
end Go.Proofs.YtjcamjdfdalbcaaDoor
