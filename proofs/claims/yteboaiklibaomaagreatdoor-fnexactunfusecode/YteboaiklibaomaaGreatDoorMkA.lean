/-
  Parts of the proof laid into one text, one behind the other; each says at its head what is proved in it.
-/
import Derived.Test.YteboaiklibaomaaGreatDoorDigitsHt
import Derived.Test.YteboaiklibaomaaGreatDoorStDatumHt
import Derived.Test.YteboaiklibaomaaGreatDoorTiE
/-
  The laws' markText: the text of a number that marks a place; nothing that was there is turned.
-/
namespace Go.Proofs.YteboaiklibaomaaGreatDoor
open Go.RowKit Go.Extern.Stop Go.Stop Go.Extern Num Go.Lib

theorem add_cons (d : Nat) (o : List UInt8) (ho : o.length ≤ 1000) (w : World) : (Op.stringOp .add ⟨[digB d].toArray⟩ ⟨o.toArray⟩).run Tryz.prog w = .ok (S (digB d :: o)) w :=
  run_string_add_lists w [digB d] o (by simp) (by omega)
theorem add_m (o : List UInt8) (ho : o.length ≤ 1000) (w : World) : (Op.stringOp .add ⟨#[109]⟩ ⟨o.toArray⟩).run Tryz.prog w = .ok (S (109 :: o)) w :=
  run_string_add_lists w [109] o (by simp) (by omega)
theorem mark_len {k m : Nat} {o : List UInt8} (hk : k ≤ 4800000000000000000) (he : (if m = 0 then o else decDigits m ++ o) = decDigits k) : o.length ≤ 19 := by
  have h : (decDigits k).length ≤ 19 := by rw [decDigits_length]; exact nDigits_le_of_lt k 18 (by omega)
  rw [← he] at h
  split at h
  · exact h
  · rw [List.length_append] at h; omega
theorem mark_step {k m : Nat} {o : List UInt8} (h0 : ¬ m = 0) (he : (if m = 0 then o else decDigits m ++ o) = decDigits k) : (if m / 10 = 0 then digB (m % 10) :: o else decDigits (m / 10) ++ (digB (m % 10) :: o)) = decDigits k := by
  rw [if_neg h0] at he
  rw [← he]
  by_cases h : m < 10
  · rw [if_pos (by omega), decDigits_one h, Nat.mod_eq_of_lt h]; rfl
  · rw [if_neg (by omega), ← dig_step m (m / 10) (m % 10) h rfl rfl]; simp
set_option maxRecDepth 100000 in
theorem markText_any (k : Nat) (w : World) (hk : 1 ≤ k) (hk2 : k ≤ 4800000000000000000) :
    Calls Tryz.prog 55 #[.int .i64 (k : Int)] w fun e w' => e = .returned (S (109 :: decDigits k)) ∧ Below w.heap.size w w' := by
  go_enter Tryz.func55, Tryz.ntmps55
  go_wp2_with fail
  go_loopw [0, 3] (fun n v wr => ∃ (m : Nat) (o : List UInt8), n = .int .i64 (m : Int) ∧ v = S o ∧ m ≤ k ∧ (if m = 0 then o else decDigits m ++ o) = decDigits k ∧ Below w.heap.size w wr) (fun n _ _ => (RowKit.intOf n).toNat)
  case atStart => exact ⟨k, [], rfl, rfl, Nat.le_refl _, by rw [if_neg (by omega)]; simp, Below.refl _ _⟩
  case round =>
    obtain ⟨m, o, rfl, rfl, hm, he, hb⟩ := hrel
    have hl := mark_len hk2 he
    have HE : Hid ((if m = 0 then o else decDigits m ++ o) = decDigits k) := he
    have HB : Hid (Below w.heap.size w wr) := hb
    clear he hb
    by_cases h0 : m = 0
    · subst h0
      have HO : Hid (o = decDigits k) := HE.out
      have hsa := fun (w : World) => add_m o (by omega) w
      go_wp2
      go_ret
      exact ⟨by rw [← HO.out]; rfl, HB.out⟩
    · have hcv := fun W b => conv_one (m % 10) (by omega) W b
      have hsa := fun (w : World) => add_cons (m % 10) o (by omega) w
      go_wp2
      exact ⟨⟨m / 10, _, by go_num, rfl, by omega, mark_step h0 HE.out, HB.out.alloc HB.out.size _⟩, by simp [RowKit.intOf]; omega⟩
end Go.Proofs.YteboaiklibaomaaGreatDoor
/-
  The laws' markDatumS: what it writes into data; nothing but the marked row is turned.
-/
namespace Go.Proofs.YteboaiklibaomaaGreatDoor
open Go.RowKit Go.Extern.Stop Go.Stop Go.Extern Num Go.Lib

/-- What is put as the mark of a place. -/
def markD (k i : Nat) : Dat := ⟨((k + 4 * i : Nat) : Int), ((k + 4 * i : Nat) : Int) + 1, ((k + 4 * i : Nat) : Int) + 1 + 1, ⟨(109 :: decDigits (k + 4 * i + 3)).toArray⟩⟩
def marksD (k : Nat) : Nat → List Dat
  | 0 => []
  | n + 1 => marksD k n ++ [markD k n]
theorem marksD_len (k n : Nat) : (marksD k n).length = n := by
  induction n with
  | zero => rfl
  | succ n ih => simp [marksD, ih]
theorem marksD_at (k n i : Nat) (h : i < n) : (marksD k n)[i]'(by rw [marksD_len]; exact h) = markD k i := by
  induction n with
  | zero => omega
  | succ n ih =>
    simp only [marksD]
    by_cases hi : i < n
    · rw [List.getElem_append_left (by rw [marksD_len]; exact hi)]; exact ih hi
    · have : i = n := by omega
      subst this
      rw [List.getElem_append_right (by rw [marksD_len]; omega)]
      simp [marksD_len]
theorem setD (A R : List Dat) (t t' : Dat) (i : Nat) (hA : A.length = i) :
    (((((cellsD (A ++ t :: R)).set (i * 4) (.int .i64 t'.kind)).set (i * 4 + 1) (.int .i64 t'.parent)).set (i * 4 + 2) (.int .i64 t'.num)).set (i * 4 + 3) (.string t'.name)) = cellsD ((A ++ [t']) ++ R) := by
  have hl : (cellsD A).length = i * 4 := by rw [cellsD_length, hA]
  rw [cellsD_append, cellsD_append, cellsD_append]
  rw [List.set_append_right _ _ (by omega), List.set_append_right _ _ (by omega), List.set_append_right _ _ (by omega), List.set_append_right _ _ (by omega)]
  rw [hl, show i * 4 - i * 4 = 0 by omega, show i * 4 + 1 - i * 4 = 1 by omega, show i * 4 + 2 - i * 4 = 2 by omega, show i * 4 + 3 - i * 4 = 3 by omega]
  simp [cellsD, Dat.cells]
theorem midD_at (k i : Nat) (l : List Dat) (hi : i < l.length) : (marksD k i ++ l.drop i).length = l.length ∧ ∃ R, l.drop i = (l[i]'hi) :: R ∧ R = l.drop (i + 1) := by
  refine ⟨by rw [List.length_append, marksD_len, List.length_drop]; omega, l.drop (i + 1), ?_, rfl⟩
  exact List.drop_eq_getElem_cons hi
theorem markD_next {w wr w2 : World} {g cap base k i q : Nat} {l : List Dat}
    (ho : wr.ownsRow base 133 4 (.slice (some ⟨g, 0, none⟩) l.length cap) l.length (cellsD (marksD k i ++ l.drop i))) (hg : w.grownBy wr (some g)) (hi : i < l.length) (hq : q = k + 4 * i)
    (hb : Below (((wr.setCell ⟨g, i * 4, none⟩ (.int .i64 ((q : Int)))).setCell ⟨g, i * 4 + 1, none⟩ (.int .i64 ((q : Int) + 1))).setCell ⟨g, i * 4 + 2, none⟩ (.int .i64 ((q : Int) + 1 + 1))).heap.size (((wr.setCell ⟨g, i * 4, none⟩ (.int .i64 ((q : Int)))).setCell ⟨g, i * 4 + 1, none⟩ (.int .i64 ((q : Int) + 1))).setCell ⟨g, i * 4 + 2, none⟩ (.int .i64 ((q : Int) + 1 + 1))) w2) :
    (w2.setCell ⟨g, i * 4 + 3, none⟩ (S (109 :: decDigits (q + 3)))).ownsRow base 133 4 (.slice (some ⟨g, 0, none⟩) l.length cap) l.length (cellsD (marksD k (i + 1) ++ l.drop (i + 1))) ∧ w.grownBy (w2.setCell ⟨g, i * 4 + 3, none⟩ (S (109 :: decDigits (q + 3)))) (some g) := by
  refine ⟨?_, gb_set (gb_below (gb_set (gb_set (gb_set hg _) _) _) hb) _⟩
  have h := own_put (own_below (own_put (own_put (own_put ho (i * 4) (.int .i64 ((q : Int)))) (i * 4 + 1) (.int .i64 ((q : Int) + 1))) (i * 4 + 2) (.int .i64 ((q : Int) + 1 + 1))) hb) (i * 4 + 3) (S (109 :: decDigits (q + 3)))
  obtain ⟨_, R, hR, rfl⟩ := midD_at k i l hi
  rw [hR] at h
  have e := setD (marksD k i) (l.drop (i + 1)) (l[i]'hi) (markD k i) i (marksD_len k i)
  subst hq
  have e2 : (((((cellsD (marksD k i ++ (l[i]'hi) :: l.drop (i + 1))).set (i * 4) (.int .i64 (((k + 4 * i : Nat) : Int)))).set (i * 4 + 1) (.int .i64 (((k + 4 * i : Nat) : Int) + 1))).set (i * 4 + 2) (.int .i64 (((k + 4 * i : Nat) : Int) + 1 + 1))).set (i * 4 + 3) (S (109 :: decDigits (k + 4 * i + 3)))) = cellsD (marksD k (i + 1) ++ l.drop (i + 1)) := e
  rw [e2] at h
  exact h
set_option maxRecDepth 100000 in
set_option maxHeartbeats 2000000 in
theorem markDS_some (g cap base k : Nat) (l : List Dat) (w : World) (hl : l.length ≤ 1048576) (hk : 1 ≤ k) (hk2 : k ≤ 4700000000000000000) (h : w.ownsRow base 133 4 (.slice (some ⟨g, 0, none⟩) l.length cap) l.length (cellsD l)) :
    Calls Tryz.prog 56 #[.slice (some ⟨g, 0, none⟩) l.length cap, .int .i64 (k : Int)] w fun e w' => e = .returned (.int .i64 ((k + 4 * l.length : Nat) : Int)) ∧ w'.ownsRow base 133 4 (.slice (some ⟨g, 0, none⟩) l.length cap) l.length (cellsD (marksD k l.length)) ∧ w.grownBy w' (some g) := by
  go_enter Tryz.func56, Tryz.ntmps56
  go_wp2_with fail
  go_loopw [1, 5] (fun v n wr => ∃ i q : Nat, i ≤ l.length ∧ n = .int .i64 (i : Int) ∧ v = .int .i64 (q : Int) ∧ q = k + 4 * i ∧ wr.ownsRow base 133 4 (.slice (some ⟨g, 0, none⟩) l.length cap) l.length (cellsD (marksD k i ++ l.drop i)) ∧ w.grownBy wr (some g)) (fun _ n _ => l.length - (RowKit.intOf n).toNat)
  case atStart => exact ⟨0, k, Nat.zero_le _, rfl, rfl, by omega, by simpa [marksD] using h, gb_refl _ _⟩
  case round =>
    obtain ⟨i, q, hi, rfl, rfl, hq, ho, hg⟩ := hrel
    have HO : Hid (wr.ownsRow base 133 4 (.slice (some ⟨g, 0, none⟩) l.length cap) l.length (cellsD (marksD k i ++ l.drop i))) := ho
    have HG : Hid (w.grownBy wr (some g)) := hg
    have HQ : Hid (q = k + 4 * i) := hq
    have hq1 : 1 ≤ q := by omega
    have hq2 : q ≤ 4710000000000000000 := by omega
    clear ho hg hq h
    by_cases hlt : i < l.length
    · have hgl : g < wr.heap.size := (HO.out.lt g rfl).2
      have HT : Hid (∀ w, Calls Tryz.prog 55 #[.int .i64 ((q : Int) + 1 + 1 + 1)] w fun e w' => e = .returned (S (109 :: decDigits (q + 3))) ∧ Below w.heap.size w w') := fun w => markText_any (q + 3) w (by omega) (by omega)
      have hlen := (midD_at k i l hlt).1
      have HR : Hid (∀ j, j < l.length * 4 → ∃ u, wr.cell? ⟨g, j, none⟩ = some u) := fun j hj => own_cell HO.out j (by rw [cellsD_length, hlen]; exact hj)
      obtain ⟨x0, e0⟩ := HR.out (i * 4) (by omega)
      obtain ⟨x1, e1⟩ := HR.out (i * 4 + 1) (by omega)
      obtain ⟨x2, e2⟩ := HR.out (i * 4 + 2) (by omega)
      obtain ⟨x3, e3⟩ := HR.out (i * 4 + 3) (by omega)
      have ff : ∀ j, wr.frozen? ⟨g, j, none⟩ = false := own_frozen HO.out
      go_wp2_with (go_at_call 55; refine (HT.out _).mono ?_; rintro e w2 ⟨rfl, hb⟩; obtain ⟨hc, hf⟩ := bcell hb)
      have R := markD_next (q := q) HO.out HG.out hlt HQ.out hb
      exact ⟨⟨i + 1, q + 4, by omega, by go_num, by go_num, by have := HQ.out; omega, R.1, R.2⟩, by simp [RowKit.intOf]; omega⟩
    · have hil : i = l.length := by omega
      have HE : Hid ((q : Int) = ((k + 4 * l.length : Nat) : Int)) := by have := HQ.out; show (q : Int) = _; rw [this, hil]
      have HO2 : Hid (wr.ownsRow base 133 4 (.slice (some ⟨g, 0, none⟩) l.length cap) l.length (cellsD (marksD k l.length))) := by
        have h := HO.out
        rw [hil, List.drop_length, List.append_nil] at h
        exact h
      clear hil
      go_wp2
      go_ret
      exact ⟨by rw [← HE.out]; rfl, HO2.out, HG.out⟩
theorem markDS_nil (ao : Option Addr) (cap k : Nat) (w : World) :
    Calls Tryz.prog 56 #[.slice ao 0 cap, .int .i64 (k : Int)] w fun e w' => e = .returned (.int .i64 (k : Int)) ∧ w' = w := by
  go_enter Tryz.func56, Tryz.ntmps56
  go_wp2_with fail
  go_loop [1, 5] (fun v i => v = .int .i64 (k : Int) ∧ i = .int .i64 0) (fun _ _ => 0)
  case atStart => exact ⟨rfl, rfl⟩
  case round =>
    obtain ⟨rfl, rfl⟩ := hrel
    go_wp2
    go_ret
    exact ⟨rfl, rfl⟩
theorem markDS_any (ao : Option Addr) (cap base k : Nat) (l : List Dat) (w : World) (hl : l.length ≤ 1048576) (hk : 1 ≤ k) (hk2 : k ≤ 4700000000000000000) (h : w.ownsRow base 133 4 (.slice ao l.length cap) l.length (cellsD l)) :
    Calls Tryz.prog 56 #[.slice ao l.length cap, .int .i64 (k : Int)] w fun e w' => e = .returned (.int .i64 ((k + 4 * l.length : Nat) : Int)) ∧ w'.ownsRow base 133 4 (.slice ao l.length cap) l.length (cellsD (marksD k l.length)) ∧ w.grownBy w' (Value.slice ao l.length cap).ownBlock := by
  cases l with
  | nil =>
    refine (markDS_nil ao cap k w).mono ?_
    rintro e w' ⟨rfl, rfl⟩
    exact ⟨rfl, h, gb_refl _ _⟩
  | cons t r =>
    obtain ⟨g, c, hv, _, _⟩ := h.form (by simp)
    obtain ⟨rfl, rfl⟩ : ao = some ⟨g, 0, none⟩ ∧ cap = c := by simp at hv; exact hv
    exact markDS_some g cap base k (t :: r) w hl hk hk2 h
end Go.Proofs.YteboaiklibaomaaGreatDoor
/-
  The laws' markOpS and markBlock: what they write into operations lies in the blocks of these operations; nothing else is turned.
-/
namespace Go.Proofs.YteboaiklibaomaaGreatDoor
open Go.RowKit Go.Extern.Stop Go.Stop Go.Extern Num Go.Lib

/-- Nothing is turned but blocks from lo on and below hi, and those that are new. -/
structure Within (lo hi : Nat) (w w' : World) : Prop where
  os : w'.os = w.os
  tape : w'.tape = w.tape
  output : w'.output = w.output
  size : w.heap.size ≤ w'.heap.size
  block : ∀ k, k < w.heap.size → (k < lo ∨ hi ≤ k) → w'.heap[k]? = w.heap[k]?
theorem Within.refl (lo hi : Nat) (w : World) : Within lo hi w w := ⟨rfl, rfl, rfl, Nat.le_refl _, fun _ _ _ => rfl⟩
theorem Within.below {lo hi : Nat} {a w w' : World} (h : Within lo hi a w) (hb : Below w.heap.size w w') : Within lo hi a w' :=
  ⟨hb.os.trans h.os, hb.tape.trans h.tape, hb.output.trans h.output, Nat.le_trans h.size hb.size, fun k hk ho => (hb.block k (Nat.lt_of_lt_of_le hk h.size)).trans (h.block k hk ho)⟩
theorem Within.grown {lo hi g : Nat} {a w w' : World} (h : Within lo hi a w) (hg : w.grownBy w' (some g)) (h1 : lo ≤ g) (h2 : g < hi) : Within lo hi a w' :=
  ⟨hg.os.trans h.os, hg.tape.trans h.tape, hg.output.trans h.output, Nat.le_trans h.size hg.size, fun k hk ho => (hg.block k (Nat.lt_of_lt_of_le hk h.size) (fun e => by have := Option.some.inj e; omega)).trans (h.block k hk ho)⟩
theorem Within.set {lo hi g : Nat} {a w : World} (h : Within lo hi a w) (h1 : lo ≤ g) (h2 : g < hi) (j : Nat) (u : Value) : Within lo hi a (w.setCell ⟨g, j, none⟩ u) :=
  h.grown (gb_set (gb_refl _ _) _) h1 h2
theorem Within.cell {lo hi : Nat} {w w' : World} {p : Addr} {v : Value} (h : Within lo hi w w') (hc : w.cell? p = some v) (ho : p.block < lo ∨ hi ≤ p.block) : w'.cell? p = some v := by
  rw [World.cell?_of_block (h.block p.block (lt_of_cell hc) ho)]; exact hc
theorem Within.own {lo hi base size n : Nat} {e : TypeId} {v : Value} {xs : List Value} {w w' : World} (h : Within lo hi w w') (ho : w.ownsRow base e size v n xs) (hg : ∀ g, v.ownBlock = some g → g < lo ∨ hi ≤ g) : w'.ownsRow base e size v n xs := by
  refine ⟨ho.1, ?_⟩
  rcases ho.2 with h1 | ⟨g, cap, cur, rfl, h2, h3, h4⟩
  · exact .inl h1
  · have hl := (World.ownsRow.lt ⟨ho.1, .inr ⟨g, cap, cur, rfl, h2, h3, h4⟩⟩ g rfl).2
    exact .inr ⟨g, cap, cur, rfl, h2, (h.block g hl (hg g rfl)).trans h3, h4⟩
/-- The data of each operation, whatever they hold. -/
def DatOk (w : World) (B g hi : Nat) (P : List (Opr × Value)) : Prop := ∀ x ∈ P, ∃ gk, ∃ l : List Dat, x.2 = .slice (some ⟨gk, 0, none⟩) l.length l.length ∧ g < gk ∧ gk < hi ∧ l.length ≤ 1048576 ∧ w.ownsRow B 133 4 (.slice (some ⟨gk, 0, none⟩) l.length l.length) l.length (cellsD l)
theorem DatOk.below {w w' : World} {B g hi : Nat} {P : List (Opr × Value)} (h : DatOk w B g hi P) (hb : Below w.heap.size w w') : DatOk w' B g hi P := fun x hx => by
  obtain ⟨gk, l, h1, h2, h3, h4, h5⟩ := h x hx
  exact ⟨gk, l, h1, h2, h3, h4, own_below h5 hb⟩
theorem DatOk.set {w : World} {B g hi : Nat} {P : List (Opr × Value)} (h : DatOk w B g hi P) (j : Nat) (u : Value) : DatOk (w.setCell ⟨g, j, none⟩ u) B g hi P := fun x hx => by
  obtain ⟨gk, l, h1, h2, h3, h4, h5⟩ := h x hx
  exact ⟨gk, l, h1, h2, h3, h4, own_set h5 (p := ⟨g, j, none⟩) (by show gk ≠ g; omega) u⟩
theorem own_size {w : World} {B g n m T : Nat} {xs : List Value} (h : w.ownsRow B T 4 (.slice (some ⟨g, 0, none⟩) n m) n xs) : ∃ cur, w.heap[g]? = some (.cells cur T (0, 0)) ∧ cur.size = m * 4 := by
  rcases h.2 with ⟨e, _⟩ | ⟨g', cap, cur, e, _, h3, _, _, h6, _⟩
  · cases e
  · obtain ⟨rfl, rfl⟩ : g = g' ∧ m = cap := by simp at e; exact e
    exact ⟨cur, h3, h6⟩
theorem DatOk.marked {w w' : World} {B g hi gj : Nat} {P : List (Opr × Value)} {l l' : List Dat} (h : DatOk w B g hi P) (ho : w.ownsRow B 133 4 (.slice (some ⟨gj, 0, none⟩) l.length l.length) l.length (cellsD l)) (hl : l'.length = l.length) (hn : w'.ownsRow B 133 4 (.slice (some ⟨gj, 0, none⟩) l.length l.length) l.length (cellsD l')) (hg : w.grownBy w' (some gj)) : DatOk w' B g hi P := fun x hx => by
  obtain ⟨gk, m, h1, h2, h3, h4, h5⟩ := h x hx
  by_cases e : gk = gj
  · subst e
    obtain ⟨c1, e1, s1⟩ := own_size ho
    obtain ⟨c2, e2, s2⟩ := own_size h5
    rw [e1] at e2
    have hcc : c1 = c2 := by injection e2 with q; injection q
    subst hcc
    have hlm : m.length = l'.length := by omega
    refine ⟨gk, l', by rw [h1, hlm], h2, h3, by omega, ?_⟩
    rw [hl]; exact hn
  · exact ⟨gk, m, h1, h2, h3, h4, own_apart h5 hg (fun g' hg' e' => e (by have h7 : gk = g' := (by simpa [Value.ownBlock] using hg'); have h8 := Option.some.inj e'; omega))⟩
/-- The slices of operations, where they lie. -/
def At6 (xs : List Value) (P : List (Opr × Value)) : Prop := ∀ (k : Nat) (h : k < P.length), xs[k * 7 + 6]? = some P[k].2
theorem At6.set {xs : List Value} {P : List (Opr × Value)} (h : At6 xs P) (j i : Nat) (hi : i < 6) (v : Value) : At6 (xs.set (j * 7 + i) v) P := fun k hk => by
  rw [List.getElem?_set_ne (by omega)]; exact h k hk
set_option maxRecDepth 100000 in
set_option maxHeartbeats 4000000 in
theorem markOpS_any (P : List (Opr × Value)) (xs : List Value) (B g hi cap lo k0 : Nat) (w : World) (hk : 1 ≤ k0) (hk2 : k0 ≤ 4620000000000000000) (hl : P.length ≤ 1048576) (ho : w.ownsRow B 66 7 (.slice (some ⟨g, 0, none⟩) P.length cap) P.length xs) (h6 : At6 xs P) (hd : DatOk w B g hi P) (hlo : lo ≤ B) (hhi : g < hi) :
    Calls Tryz.prog 32 #[.slice (some ⟨g, 0, none⟩) P.length cap, .int .i64 (k0 : Int)] w fun e w' => ∃ q : Nat, e = .returned (.int .i64 (q : Int)) ∧ k0 ≤ q ∧ q ≤ k0 + P.length * 4194310 ∧ Within lo hi w w' := by
  have hBg : B ≤ g := (ho.lt g rfl).1
  have H0 : Hid (∃ ys, w.ownsRow B 66 7 (.slice (some ⟨g, 0, none⟩) P.length cap) P.length ys ∧ At6 ys P ∧ DatOk w B g hi P ∧ Within lo hi w w) := ⟨xs, ho, h6, hd, Within.refl _ _ _⟩
  clear ho h6 hd
  go_enter Tryz.func32, Tryz.ntmps32
  go_wp2_with fail
  go_loopw [1, 5] (fun v i wr => ∃ j q : Nat, j ≤ P.length ∧ i = .int .i64 (j : Int) ∧ v = .int .i64 (q : Int) ∧ k0 ≤ q ∧ q ≤ k0 + j * 4194310 ∧ Hid (∃ ys, wr.ownsRow B 66 7 (.slice (some ⟨g, 0, none⟩) P.length cap) P.length ys ∧ At6 ys P ∧ DatOk wr B g hi P ∧ Within lo hi w wr)) (fun _ i _ => P.length - (RowKit.intOf i).toNat)
  case atStart => exact ⟨0, k0, Nat.zero_le _, rfl, rfl, Nat.le_refl _, by omega, H0.out⟩
  case round =>
    obtain ⟨j, q, hj, rfl, rfl, hq1, hq2, HX⟩ := hrel
    by_cases hlt : j < P.length
    · obtain ⟨ys, oy, y6, dy, wy⟩ := HX.out
      have hyl : ys.length = P.length * 7 := oy.1
      obtain ⟨x0, e0⟩ := own_cell oy (j * 7) (by omega)
      obtain ⟨x1, e1⟩ := own_cell oy (j * 7 + 1) (by omega)
      obtain ⟨x2, e2⟩ := own_cell oy (j * 7 + 2) (by omega)
      obtain ⟨x3, e3⟩ := own_cell oy (j * 7 + 3) (by omega)
      obtain ⟨x4, e4⟩ := own_cell oy (j * 7 + 4) (by omega)
      have ff : ∀ i, wr.frozen? ⟨g, i, none⟩ = false := own_frozen oy
      have hgl : g < wr.heap.size := (oy.lt g rfl).2
      have HT : Hid (∀ u, Calls Tryz.prog 55 #[.int .i64 ((q : Int) + 1 + 1 + 1 + 1 + 1)] u fun e w' => e = .returned (S (109 :: decDigits (q + 5))) ∧ Below u.heap.size u w') := fun u => markText_any (q + 5) u (by omega) (by omega)
      have HY : Hid (∃ ys, wr.ownsRow B 66 7 (.slice (some ⟨g, 0, none⟩) P.length cap) P.length ys ∧ At6 ys P ∧ DatOk wr B g hi P ∧ Within lo hi w wr) := ⟨ys, oy, y6, dy, wy⟩
      clear oy y6 dy wy HX hyl
      go_wp2_with fail
      have HU : Hid (∃ ys, World.ownsRow (((((wr.setCell ⟨g, j * 7, none⟩ (.int .i64 (q : Int))).setCell ⟨g, j * 7 + 1, none⟩ (.int .i64 ((q : Int) + 1))).setCell ⟨g, j * 7 + 2, none⟩ (.int .i64 ((q : Int) + 1 + 1))).setCell ⟨g, j * 7 + 3, none⟩ (.int .i64 ((q : Int) + 1 + 1 + 1))).setCell ⟨g, j * 7 + 4, none⟩ (.int .i64 ((q : Int) + 1 + 1 + 1 + 1))) B 66 7 (.slice (some ⟨g, 0, none⟩) P.length cap) P.length ys ∧ At6 ys P ∧ DatOk (((((wr.setCell ⟨g, j * 7, none⟩ (.int .i64 (q : Int))).setCell ⟨g, j * 7 + 1, none⟩ (.int .i64 ((q : Int) + 1))).setCell ⟨g, j * 7 + 2, none⟩ (.int .i64 ((q : Int) + 1 + 1))).setCell ⟨g, j * 7 + 3, none⟩ (.int .i64 ((q : Int) + 1 + 1 + 1))).setCell ⟨g, j * 7 + 4, none⟩ (.int .i64 ((q : Int) + 1 + 1 + 1 + 1))) B g hi P ∧ Within lo hi w (((((wr.setCell ⟨g, j * 7, none⟩ (.int .i64 (q : Int))).setCell ⟨g, j * 7 + 1, none⟩ (.int .i64 ((q : Int) + 1))).setCell ⟨g, j * 7 + 2, none⟩ (.int .i64 ((q : Int) + 1 + 1))).setCell ⟨g, j * 7 + 3, none⟩ (.int .i64 ((q : Int) + 1 + 1 + 1))).setCell ⟨g, j * 7 + 4, none⟩ (.int .i64 ((q : Int) + 1 + 1 + 1 + 1)))) := by
        obtain ⟨ys, oy, y6, dy, wy⟩ := HY.out
        exact ⟨_, own_put (own_put (own_put (own_put (own_put oy _ _) _ _) _ _) _ _) _ _, At6.set (At6.set (At6.set (At6.set (At6.set y6 j 0 (by omega) _) j 1 (by omega) _) j 2 (by omega) _) j 3 (by omega) _) j 4 (by omega) _, ((((dy.set _ _).set _ _).set _ _).set _ _).set _ _, ((((wy.set (by omega) hhi _ _).set (by omega) hhi _ _).set (by omega) hhi _ _).set (by omega) hhi _ _).set (by omega) hhi _ _⟩
      generalize (((((wr.setCell ⟨g, j * 7, none⟩ (.int .i64 (q : Int))).setCell ⟨g, j * 7 + 1, none⟩ (.int .i64 ((q : Int) + 1))).setCell ⟨g, j * 7 + 2, none⟩ (.int .i64 ((q : Int) + 1 + 1))).setCell ⟨g, j * 7 + 3, none⟩ (.int .i64 ((q : Int) + 1 + 1 + 1))).setCell ⟨g, j * 7 + 4, none⟩ (.int .i64 ((q : Int) + 1 + 1 + 1 + 1))) = U at HU ⊢
      clear e0 e1 e2 e3 e4 ff hgl HY
      refine (HT.out _).mono ?_
      rintro e w1 ⟨rfl, b1⟩
      obtain ⟨ys, oy, y6, dy, wy⟩ := HU.out
      have o1 := own_below oy b1
      have d1 := dy.below b1
      have v1 := wy.below b1
      obtain ⟨gj, lj, hx2, hgj, hgh, hll, hoj⟩ := d1 _ (List.getElem_mem hlt)
      have hyl : ys.length = P.length * 7 := o1.1
      obtain ⟨x5, e5⟩ := own_cell o1 (j * 7 + 5) (by omega)
      have ha : ∀ i, (⟨g, 0, none⟩ : Addr).add i = ⟨g, i, none⟩ := fun i => by unfold Addr.add; split <;> simp_all
      have e6 : w1.cell? ⟨g, j * 7 + 6, none⟩ = some (.slice (some ⟨gj, 0, none⟩) lj.length lj.length) := by
        rw [← ha, ← hx2]; exact o1.cells (g := g) rfl _ _ (y6 j hlt)
      have ff : ∀ i, w1.frozen? ⟨g, i, none⟩ = false := own_frozen o1
      have HM : Hid (∀ s : Value, Calls Tryz.prog 56 #[.slice (some ⟨gj, 0, none⟩) lj.length lj.length, .int .i64 ((q : Int) + 1 + 1 + 1 + 1 + 1 + 1)] (w1.setCell ⟨g, j * 7 + 5, none⟩ s) fun e w' => e = .returned (.int .i64 ((q + 6 + 4 * lj.length : Nat) : Int)) ∧ w'.ownsRow B 133 4 (.slice (some ⟨gj, 0, none⟩) lj.length lj.length) lj.length (cellsD (marksD (q + 6) lj.length)) ∧ (w1.setCell ⟨g, j * 7 + 5, none⟩ s).grownBy w' (some gj)) := fun s => by
        have := markDS_any (some ⟨gj, 0, none⟩) lj.length B (q + 6) lj (w1.setCell ⟨g, j * 7 + 5, none⟩ s) hll (by omega) (by omega) (own_set hoj (p := ⟨g, j * 7 + 5, none⟩) (by show gj ≠ g; omega) s)
        have e : ((q + 6 : Nat) : Int) = (q : Int) + 1 + 1 + 1 + 1 + 1 + 1 := by omega
        rw [e] at this
        exact this
      have HZ : Hid (∀ (s : Value) (w' : World), w'.ownsRow B 133 4 (.slice (some ⟨gj, 0, none⟩) lj.length lj.length) lj.length (cellsD (marksD (q + 6) lj.length)) → (w1.setCell ⟨g, j * 7 + 5, none⟩ s).grownBy w' (some gj) → ∃ ys, w'.ownsRow B 66 7 (.slice (some ⟨g, 0, none⟩) P.length cap) P.length ys ∧ At6 ys P ∧ DatOk w' B g hi P ∧ Within lo hi w w') := fun s w' hn hg =>
        ⟨_, own_apart (own_put o1 (j * 7 + 5) s) hg (fun g' hg' e => by have h7 : g = g' := (by simpa [Value.ownBlock] using hg'); have h8 := Option.some.inj e; omega), At6.set y6 j 5 (by omega) s, (d1.set (j * 7 + 5) s).marked (own_set hoj (p := ⟨g, j * 7 + 5, none⟩) (by show gj ≠ g; omega) s) (marksD_len _ _) hn hg, (v1.set (by omega) hhi (j * 7 + 5) s).grown hg (by omega) hgh⟩
      clear o1 d1 v1 hoj oy y6 dy wy b1 hx2 ha HU HT hyl
      go_wp2_with fail
      refine (HM.out _).mono ?_
      rintro e w2 ⟨rfl, hn, hg⟩
      have HZ2 : Hid (∃ ys, w2.ownsRow B 66 7 (.slice (some ⟨g, 0, none⟩) P.length cap) P.length ys ∧ At6 ys P ∧ DatOk w2 B g hi P ∧ Within lo hi w w2) := HZ.out _ w2 hn hg
      clear hn hg HZ HM e5 e6 ff
      go_wp2
      exact ⟨⟨j + 1, q + 6 + 4 * lj.length, by omega, by go_num, rfl, by omega, by omega, HZ2.out⟩, by simp [RowKit.intOf]; omega⟩
    · go_wp2
      go_ret
      obtain ⟨ys, oy, y6, dy, wy⟩ := HX.out
      have hjl : j = P.length := by omega
      exact ⟨q, rfl, hq1, by rw [← hjl]; exact hq2, wy⟩
theorem IsOp.datOk {w : World} {B g cap : Nat} {l : List Opr} (h : IsOp w B g cap l) (hs : ∀ (k : Nat) (h : k < l.length), l[k].small) : ∃ P : List (Opr × Value), P.map Prod.fst = l ∧ w.ownsRow B 66 7 (.slice (some ⟨g, 0, none⟩) l.length cap) l.length (cellsOp P) ∧ At6 (cellsOp P) P ∧ DatOk w B g w.heap.size P := by
  obtain ⟨P, h1, h2, h3⟩ := h
  refine ⟨P, h1, h2, fun k hk => (cellsOp_at P k hk).2.2.2.2.2.2, fun x hx => ?_⟩
  obtain ⟨gk, q1, q2, q3⟩ := h3 x hx
  obtain ⟨k, hk, e⟩ := List.getElem_of_mem hx
  have hkl : k < l.length := by rw [← h1]; simpa using hk
  have e2 : l[k] = x.1 := by simp [← h1, e]
  exact ⟨gk, x.1.data, q1, q2, q3.lt.2, by rw [← e2]; exact (hs k hkl).len, q3⟩
end Go.Proofs.YteboaiklibaomaaGreatDoor
/-
  The laws' heldDatumS: whether data still hold the marks.
-/
namespace Go.Proofs.YteboaiklibaomaaGreatDoor
open Go.RowKit Go.Extern.Stop Go.Stop Go.Extern Num Go.Lib

theorem heldD_at {w : World} {g cap base k n i q : Nat} (h : w.ownsRow base 133 4 (.slice (some ⟨g, 0, none⟩) n cap) n (cellsD (marksD k n))) (hi : i < n) (hq : q = k + 4 * i) :
    w.cell? ⟨g, i * 4, none⟩ = some (.int .i64 ((q : Int))) ∧ w.cell? ⟨g, i * 4 + 1, none⟩ = some (.int .i64 ((q : Int) + 1)) ∧ w.cell? ⟨g, i * 4 + 2, none⟩ = some (.int .i64 ((q : Int) + 1 + 1)) ∧ w.cell? ⟨g, i * 4 + 3, none⟩ = some (S (109 :: decDigits (q + 3))) := by
  subst hq
  have hl := marksD_len k n
  have h' : w.ownsRow base 133 4 (.slice (some ⟨g, 0, none⟩) (marksD k n).length cap) (marksD k n).length (cellsD (marksD k n)) := by rw [hl]; exact h
  obtain ⟨h1, h2, h3, h4⟩ := rowD_at h' i (by rw [hl]; exact hi)
  rw [marksD_at k n i hi] at h1 h2 h3 h4
  exact ⟨h1, h2, h3, h4⟩
set_option maxRecDepth 100000 in
set_option maxHeartbeats 2000000 in
theorem heldDS_some (g cap base k n : Nat) (w : World) (hl : n ≤ 1048576) (hk : 1 ≤ k) (hk2 : k ≤ 4700000000000000000) (h : w.ownsRow base 133 4 (.slice (some ⟨g, 0, none⟩) n cap) n (cellsD (marksD k n))) :
    Calls Tryz.prog 86 #[.slice (some ⟨g, 0, none⟩) n cap, .int .i64 (k : Int)] w fun e w' => e = .returned (.int .i64 ((k + 4 * n : Nat) : Int)) ∧ Below w.heap.size w w' := by
  have HO : Hid (w.ownsRow base 133 4 (.slice (some ⟨g, 0, none⟩) n cap) n (cellsD (marksD k n))) := h
  clear h
  go_enter Tryz.func86, Tryz.ntmps86
  go_wp2_with fail
  go_loopw [1, 5] (fun v m wr => ∃ i q : Nat, i ≤ n ∧ m = .int .i64 (i : Int) ∧ v = .int .i64 (q : Int) ∧ q = k + 4 * i ∧ Below w.heap.size w wr) (fun _ m _ => n - (RowKit.intOf m).toNat)
  case atStart => exact ⟨0, k, Nat.zero_le _, rfl, rfl, by omega, Below.refl _ _⟩
  case round =>
    obtain ⟨i, q, hi, rfl, rfl, hq, hb⟩ := hrel
    have HB : Hid (Below w.heap.size w wr) := hb
    have HQ : Hid (q = k + 4 * i) := hq
    have hq1 : 1 ≤ q := by omega
    have hq2 : q ≤ 4710000000000000000 := by omega
    clear hb hq
    by_cases hlt : i < n
    · have HA : Hid _ := heldD_at (own_below HO.out HB.out) hlt HQ.out
      have a0 := HA.out.1
      have a1 := HA.out.2.1
      have a2 := HA.out.2.2.1
      have a3 : ∀ p : BW wr, p.x.cell? ⟨g, i * 4 + 3, none⟩ = some (S (109 :: decDigits (q + 3))) := fun p => p.cell HA.out.2.2.2
      have hne := bw_some wr
      have HT : Hid (∀ w, Calls Tryz.prog 55 #[.int .i64 ((q : Int) + 1 + 1 + 1)] w fun e w' => e = .returned (S (109 :: decDigits (q + 3))) ∧ Below w.heap.size w w') := fun w => markText_any (q + 3) w (by omega) (by omega)
      go_wp2_with fail
      refine wp_region_below (by kernel_rfl) (by kernel_rfl) ?_
      repeat (go_big_quiet_step ((go_at_call 55; exact calls_bw (HT.out _))))
      refine wpQuiet_nil ?_
      intro wq hw'
      obtain ⟨⟨_, bq⟩, rfl⟩ := hw'
      have HB2 : Hid _ := HB.out.trans (bq.mono HB.out.size)
      clear bq a0 a1 a2 a3 hne
      go_wp2
      exact ⟨⟨i + 1, q + 4, by omega, by go_num, by go_num, by have := HQ.out; omega, HB2.out⟩, by simp [RowKit.intOf]; omega⟩
    · have hil : i = n := by omega
      have HE : Hid ((q : Int) = ((k + 4 * n : Nat) : Int)) := by have := HQ.out; show (q : Int) = _; rw [this, hil]
      clear hil
      go_wp2
      go_ret
      exact ⟨by rw [← HE.out]; rfl, HB.out⟩
theorem heldDS_nil (ao : Option Addr) (cap k : Nat) (w : World) :
    Calls Tryz.prog 86 #[.slice ao 0 cap, .int .i64 (k : Int)] w fun e w' => e = .returned (.int .i64 (k : Int)) ∧ w' = w := by
  go_enter Tryz.func86, Tryz.ntmps86
  go_wp2_with fail
  go_loop [1, 5] (fun v i => v = .int .i64 (k : Int) ∧ i = .int .i64 0) (fun _ _ => 0)
  case atStart => exact ⟨rfl, rfl⟩
  case round =>
    obtain ⟨rfl, rfl⟩ := hrel
    go_wp2
    go_ret
    exact ⟨rfl, rfl⟩
theorem heldDS_any (ao : Option Addr) (cap base k n : Nat) (w : World) (hl : n ≤ 1048576) (hk : 1 ≤ k) (hk2 : k ≤ 4700000000000000000) (h : w.ownsRow base 133 4 (.slice ao n cap) n (cellsD (marksD k n))) :
    Calls Tryz.prog 86 #[.slice ao n cap, .int .i64 (k : Int)] w fun e w' => e = .returned (.int .i64 ((k + 4 * n : Nat) : Int)) ∧ Below w.heap.size w w' := by
  cases n with
  | zero =>
    refine (heldDS_nil ao cap k w).mono ?_
    rintro e w' ⟨rfl, rfl⟩
    exact ⟨rfl, Below.refl _ _⟩
  | succ n =>
    obtain ⟨g, c, hv, _, _⟩ := h.form (by simp)
    obtain ⟨rfl, rfl⟩ : ao = some ⟨g, 0, none⟩ ∧ cap = c := by simp at hv; exact hv
    exact heldDS_some g cap base k (n + 1) w hl hk hk2 h
end Go.Proofs.YteboaiklibaomaaGreatDoor
