/-
  Parts of the proof laid into one text, one behind the other; each says at its head what is proved in it.
-/
import Derived.Test.YtebnonpdaddniaaGreatDoorHtJ
import Derived.Test.YtebnonpdaddniaaGreatDoorWithinKHt
import Derived.Test.YtebnonpdaddniaaGreatDoorMkDatumAHt
/-
  The laws' markCoreS: what it writes into cores lies in the blocks of these cores; nothing else is turned.
-/
namespace Go.Proofs.YtebnonpdaddniaaGreatDoor
open Go.RowKit Go.Extern.Stop Go.Stop Go.Extern Num Go.Lib

theorem own_sizeC {w : World} {B g n m T : Nat} {xs : List Value} (h : w.ownsRow B T 4 (.slice (some ⟨g, 0, none⟩) n m) n xs) : ∃ cur, w.heap[g]? = some (.cells cur T (0, 0)) ∧ cur.size = m * 4 := by
  rcases h.2 with ⟨e, _⟩ | ⟨g', cap, cur, e, _, h3, _, _, h6, _⟩
  · cases e
  · obtain ⟨rfl, rfl⟩ : g = g' ∧ m = cap := by simp at e; exact e
    exact ⟨cur, h3, h6⟩
/-- The data of each core, whatever they hold. -/
def DatOkC (w : World) (B g hi : Nat) (P : List (Cor × Value)) : Prop := ∀ x ∈ P, ∃ gk, ∃ l : List Dat, x.2 = .slice (some ⟨gk, 0, none⟩) l.length l.length ∧ g < gk ∧ gk < hi ∧ l.length ≤ 1048576 ∧ w.ownsRow B 100 4 (.slice (some ⟨gk, 0, none⟩) l.length l.length) l.length (cellsD l)
theorem DatOkC.below {w w' : World} {B g hi : Nat} {P : List (Cor × Value)} (h : DatOkC w B g hi P) (hb : Below w.heap.size w w') : DatOkC w' B g hi P := fun x hx => by
  obtain ⟨gk, l, h1, h2, h3, h4, h5⟩ := h x hx
  exact ⟨gk, l, h1, h2, h3, h4, own_below h5 hb⟩
theorem DatOkC.set {w : World} {B g hi : Nat} {P : List (Cor × Value)} (h : DatOkC w B g hi P) (j : Nat) (u : Value) : DatOkC (w.setCell ⟨g, j, none⟩ u) B g hi P := fun x hx => by
  obtain ⟨gk, l, h1, h2, h3, h4, h5⟩ := h x hx
  exact ⟨gk, l, h1, h2, h3, h4, own_set h5 (p := ⟨g, j, none⟩) (by show gk ≠ g; omega) u⟩
theorem DatOkC.marked {w w' : World} {B g hi gj : Nat} {P : List (Cor × Value)} {l l' : List Dat} (h : DatOkC w B g hi P) (ho : w.ownsRow B 100 4 (.slice (some ⟨gj, 0, none⟩) l.length l.length) l.length (cellsD l)) (hl : l'.length = l.length) (hn : w'.ownsRow B 100 4 (.slice (some ⟨gj, 0, none⟩) l.length l.length) l.length (cellsD l')) (hg : w.grownBy w' (some gj)) : DatOkC w' B g hi P := fun x hx => by
  obtain ⟨gk, m, h1, h2, h3, h4, h5⟩ := h x hx
  by_cases e : gk = gj
  · subst e
    obtain ⟨c1, e1, s1⟩ := own_sizeC ho
    obtain ⟨c2, e2, s2⟩ := own_sizeC h5
    rw [e1] at e2
    have hcc : c1 = c2 := by injection e2 with q; injection q
    subst hcc
    have hlm : m.length = l'.length := by omega
    refine ⟨gk, l', by rw [h1, hlm], h2, h3, by omega, ?_⟩
    rw [hl]; exact hn
  · exact ⟨gk, m, h1, h2, h3, h4, own_apart h5 hg (fun g' hg' e' => e (by have h7 : gk = g' := (by simpa [Value.ownBlock] using hg'); have h8 := Option.some.inj e'; omega))⟩
/-- The slices of cores, where they lie. -/
def At5 (xs : List Value) (P : List (Cor × Value)) : Prop := ∀ (k : Nat) (h : k < P.length), xs[k * 6 + 5]? = some P[k].2
theorem At5.set {xs : List Value} {P : List (Cor × Value)} (h : At5 xs P) (j i : Nat) (hi : i < 5) (v : Value) : At5 (xs.set (j * 6 + i) v) P := fun k hk => by
  rw [List.getElem?_set_ne (by omega)]; exact h k hk
set_option maxRecDepth 100000 in
set_option maxHeartbeats 4000000 in
theorem markCS_any (P : List (Cor × Value)) (xs : List Value) (B g hi cap lo k0 : Nat) (w : World) (hk : 1 ≤ k0) (hk2 : k0 ≤ 4620000000000000000) (hl : P.length ≤ 1048576) (ho : w.ownsRow B 85 6 (.slice (some ⟨g, 0, none⟩) P.length cap) P.length xs) (h6 : At5 xs P) (hd : DatOkC w B g hi P) (hlo : lo ≤ B) (hhi : g < hi) :
    Calls Tryz.prog 36 #[.slice (some ⟨g, 0, none⟩) P.length cap, .int .i64 (k0 : Int)] w fun e w' => ∃ q : Nat, e = .returned (.int .i64 (q : Int)) ∧ k0 ≤ q ∧ q ≤ k0 + P.length * 4194310 ∧ Within lo hi w w' := by
  have hBg : B ≤ g := (ho.lt g rfl).1
  have H0 : Hid (∃ ys, w.ownsRow B 85 6 (.slice (some ⟨g, 0, none⟩) P.length cap) P.length ys ∧ At5 ys P ∧ DatOkC w B g hi P ∧ Within lo hi w w) := ⟨xs, ho, h6, hd, Within.refl _ _ _⟩
  clear ho h6 hd
  go_enter Tryz.func36, Tryz.ntmps36
  go_wp2_with fail
  go_loopw [1, 5] (fun v i wr => ∃ j q : Nat, j ≤ P.length ∧ i = .int .i64 (j : Int) ∧ v = .int .i64 (q : Int) ∧ k0 ≤ q ∧ q ≤ k0 + j * 4194310 ∧ Hid (∃ ys, wr.ownsRow B 85 6 (.slice (some ⟨g, 0, none⟩) P.length cap) P.length ys ∧ At5 ys P ∧ DatOkC wr B g hi P ∧ Within lo hi w wr)) (fun _ i _ => P.length - (RowKit.intOf i).toNat)
  case atStart => exact ⟨0, k0, Nat.zero_le _, rfl, rfl, Nat.le_refl _, by omega, H0.out⟩
  case round =>
    obtain ⟨j, q, hj, rfl, rfl, hq1, hq2, HX⟩ := hrel
    by_cases hlt : j < P.length
    · obtain ⟨ys, oy, y6, dy, wy⟩ := HX.out
      have hyl : ys.length = P.length * 6 := oy.1
      obtain ⟨x0, e0⟩ := own_cell oy (j * 6) (by omega)
      obtain ⟨x1, e1⟩ := own_cell oy (j * 6 + 1) (by omega)
      obtain ⟨x2, e2⟩ := own_cell oy (j * 6 + 2) (by omega)
      obtain ⟨x3, e3⟩ := own_cell oy (j * 6 + 3) (by omega)
      have ff : ∀ i, wr.frozen? ⟨g, i, none⟩ = false := own_frozen oy
      have hgl : g < wr.heap.size := (oy.lt g rfl).2
      have HT : Hid (∀ u, Calls Tryz.prog 68 #[.int .i64 ((q : Int) + 1 + 1 + 1 + 1)] u fun e w' => e = .returned (S (109 :: decDigits (q + 4))) ∧ Below u.heap.size u w') := fun u => markText_any (q + 4) u (by omega) (by omega)
      have HY : Hid (∃ ys, wr.ownsRow B 85 6 (.slice (some ⟨g, 0, none⟩) P.length cap) P.length ys ∧ At5 ys P ∧ DatOkC wr B g hi P ∧ Within lo hi w wr) := ⟨ys, oy, y6, dy, wy⟩
      clear oy y6 dy wy HX hyl
      go_wp2_with fail
      have HU : Hid (∃ ys, World.ownsRow ((((wr.setCell ⟨g, j * 6, none⟩ (.int .i64 (q : Int))).setCell ⟨g, j * 6 + 1, none⟩ (.int .i64 ((q : Int) + 1))).setCell ⟨g, j * 6 + 2, none⟩ (.int .i64 ((q : Int) + 1 + 1))).setCell ⟨g, j * 6 + 3, none⟩ (.int .i64 ((q : Int) + 1 + 1 + 1))) B 85 6 (.slice (some ⟨g, 0, none⟩) P.length cap) P.length ys ∧ At5 ys P ∧ DatOkC ((((wr.setCell ⟨g, j * 6, none⟩ (.int .i64 (q : Int))).setCell ⟨g, j * 6 + 1, none⟩ (.int .i64 ((q : Int) + 1))).setCell ⟨g, j * 6 + 2, none⟩ (.int .i64 ((q : Int) + 1 + 1))).setCell ⟨g, j * 6 + 3, none⟩ (.int .i64 ((q : Int) + 1 + 1 + 1))) B g hi P ∧ Within lo hi w ((((wr.setCell ⟨g, j * 6, none⟩ (.int .i64 (q : Int))).setCell ⟨g, j * 6 + 1, none⟩ (.int .i64 ((q : Int) + 1))).setCell ⟨g, j * 6 + 2, none⟩ (.int .i64 ((q : Int) + 1 + 1))).setCell ⟨g, j * 6 + 3, none⟩ (.int .i64 ((q : Int) + 1 + 1 + 1)))) := by
        obtain ⟨ys, oy, y6, dy, wy⟩ := HY.out
        exact ⟨_, own_put (own_put (own_put (own_put oy _ _) _ _) _ _) _ _, At5.set (At5.set (At5.set (At5.set y6 j 0 (by omega) _) j 1 (by omega) _) j 2 (by omega) _) j 3 (by omega) _, (((dy.set _ _).set _ _).set _ _).set _ _, (((wy.set (by omega) hhi _ _).set (by omega) hhi _ _).set (by omega) hhi _ _).set (by omega) hhi _ _⟩
      generalize ((((wr.setCell ⟨g, j * 6, none⟩ (.int .i64 (q : Int))).setCell ⟨g, j * 6 + 1, none⟩ (.int .i64 ((q : Int) + 1))).setCell ⟨g, j * 6 + 2, none⟩ (.int .i64 ((q : Int) + 1 + 1))).setCell ⟨g, j * 6 + 3, none⟩ (.int .i64 ((q : Int) + 1 + 1 + 1))) = U at HU ⊢
      clear e0 e1 e2 e3 ff hgl HY
      refine (HT.out _).mono ?_
      rintro e w1 ⟨rfl, b1⟩
      obtain ⟨ys, oy, y6, dy, wy⟩ := HU.out
      have o1 := own_below oy b1
      have d1 := dy.below b1
      have v1 := wy.below b1
      obtain ⟨gj, lj, hx2, hgj, hgh, hll, hoj⟩ := d1 _ (List.getElem_mem hlt)
      have hyl : ys.length = P.length * 6 := o1.1
      obtain ⟨x5, e5⟩ := own_cell o1 (j * 6 + 4) (by omega)
      have ha : ∀ i, (⟨g, 0, none⟩ : Addr).add i = ⟨g, i, none⟩ := fun i => by unfold Addr.add; split <;> simp_all
      have e6 : w1.cell? ⟨g, j * 6 + 5, none⟩ = some (.slice (some ⟨gj, 0, none⟩) lj.length lj.length) := by
        rw [← ha, ← hx2]; exact o1.cells (g := g) rfl _ _ (y6 j hlt)
      have ff : ∀ i, w1.frozen? ⟨g, i, none⟩ = false := own_frozen o1
      have HM : Hid (∀ s : Value, Calls Tryz.prog 27 #[.slice (some ⟨gj, 0, none⟩) lj.length lj.length, .int .i64 ((q : Int) + 1 + 1 + 1 + 1 + 1)] (w1.setCell ⟨g, j * 6 + 4, none⟩ s) fun e w' => e = .returned (.int .i64 ((q + 5 + 4 * lj.length : Nat) : Int)) ∧ w'.ownsRow B 100 4 (.slice (some ⟨gj, 0, none⟩) lj.length lj.length) lj.length (cellsD (marksD (q + 5) lj.length)) ∧ (w1.setCell ⟨g, j * 6 + 4, none⟩ s).grownBy w' (some gj)) := fun s => by
        have := markDS_any (some ⟨gj, 0, none⟩) lj.length B (q + 5) lj (w1.setCell ⟨g, j * 6 + 4, none⟩ s) hll (by omega) (by omega) (own_set hoj (p := ⟨g, j * 6 + 4, none⟩) (by show gj ≠ g; omega) s)
        have e : ((q + 5 : Nat) : Int) = (q : Int) + 1 + 1 + 1 + 1 + 1 := by omega
        rw [e] at this
        exact this
      have HZ : Hid (∀ (s : Value) (w' : World), w'.ownsRow B 100 4 (.slice (some ⟨gj, 0, none⟩) lj.length lj.length) lj.length (cellsD (marksD (q + 5) lj.length)) → (w1.setCell ⟨g, j * 6 + 4, none⟩ s).grownBy w' (some gj) → ∃ ys, w'.ownsRow B 85 6 (.slice (some ⟨g, 0, none⟩) P.length cap) P.length ys ∧ At5 ys P ∧ DatOkC w' B g hi P ∧ Within lo hi w w') := fun s w' hn hg =>
        ⟨_, own_apart (own_put o1 (j * 6 + 4) s) hg (fun g' hg' e => by have h7 : g = g' := (by simpa [Value.ownBlock] using hg'); have h8 := Option.some.inj e; omega), At5.set y6 j 4 (by omega) s, (d1.set (j * 6 + 4) s).marked (own_set hoj (p := ⟨g, j * 6 + 4, none⟩) (by show gj ≠ g; omega) s) (marksD_len _ _) hn hg, (v1.set (by omega) hhi (j * 6 + 4) s).grown hg (by omega) hgh⟩
      clear o1 d1 v1 hoj oy y6 dy wy b1 hx2 ha HU HT hyl
      go_wp2_with fail
      refine (HM.out _).mono ?_
      rintro e w2 ⟨rfl, hn, hg⟩
      have HZ2 : Hid (∃ ys, w2.ownsRow B 85 6 (.slice (some ⟨g, 0, none⟩) P.length cap) P.length ys ∧ At5 ys P ∧ DatOkC w2 B g hi P ∧ Within lo hi w w2) := HZ.out _ w2 hn hg
      clear hn hg HZ HM e5 e6 ff
      go_wp2
      exact ⟨⟨j + 1, q + 5 + 4 * lj.length, by omega, by go_num, rfl, by omega, by omega, HZ2.out⟩, by simp [RowKit.intOf]; omega⟩
    · go_wp2
      go_ret
      obtain ⟨ys, oy, y6, dy, wy⟩ := HX.out
      have hjl : j = P.length := by omega
      exact ⟨q, rfl, hq1, by rw [← hjl]; exact hq2, wy⟩
theorem IsC.datOk {w : World} {B g cap : Nat} {l : List Cor} (h : IsC w B g cap l) (hs : ∀ (k : Nat) (h : k < l.length), l[k].small) : ∃ P : List (Cor × Value), P.map Prod.fst = l ∧ w.ownsRow B 85 6 (.slice (some ⟨g, 0, none⟩) l.length cap) l.length (cellsC P) ∧ At5 (cellsC P) P ∧ DatOkC w B g w.heap.size P := by
  obtain ⟨P, h1, h2, h3⟩ := h
  refine ⟨P, h1, h2, fun k hk => (cellsC_at P k hk).2.2.2.2.2, fun x hx => ?_⟩
  obtain ⟨gk, q1, q2, q3⟩ := h3 x hx
  obtain ⟨k, hk, e⟩ := List.getElem_of_mem hx
  have hkl : k < l.length := by rw [← h1]; simpa using hk
  have e2 : l[k] = x.1 := by simp [← h1, e]
  exact ⟨gk, x.1.data, q1, q2, (q3.lt gk rfl).2, by rw [← e2]; exact (hs k hkl).len, q3⟩
end Go.Proofs.YtebnonpdaddniaaGreatDoor
