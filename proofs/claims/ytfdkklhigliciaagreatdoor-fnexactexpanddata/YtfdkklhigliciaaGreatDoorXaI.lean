/-
  Parts of the proof laid into one text, one behind the other; each says at its head what is proved in it.
-/
import Derived.Test.YtfdkklhigliciaaGreatDoorXaH
import Derived.Deep.RegionLaw
import Derived.Deep.DrawnRows
import Derived.Deep.RegionHeld3
import Derived.Test.YtfdkklhigliciaaGreatDoorXaE
/-
  The model's l4Put and l4Bind: a core or a frame put behind the others.
-/
namespace Go.Proofs.YtfdkklhigliciaaGreatDoor
open Go.RowKit Go.Extern.Stop Go.Stop Go.Extern Num Go.Lib

set_option maxRecDepth 100000 in
set_option maxHeartbeats 2000000 in
theorem put_row (B m : Nat) (v : Value) (P : List (Cor × Value)) (t : Cor) (dv : Value) (hdv : ∃ da dn dc, dv = .slice da dn dc) (w : World) (hB : B ≤ w.heap.size) (fz : w.frozen? ⟨m, 1, none⟩ = false) (h : Fld w B m 1 78 6 v P.length (cellsC P)) (hl : P.length < 1000) :
    Calls Tryz.prog 40 #[.pointer (some ⟨m, 0, none⟩), t.val dv] w fun e w' => e = .returned (.int .i64 (P.length : Nat)) ∧ AddK B m 1 78 6 v (P ++ [(t, dv)]).length (cellsC (P ++ [(t, dv)])) w w' := by
  obtain ⟨da, dn, dc, rfl⟩ := hdv
  obtain ⟨k, p, na, nb, z, dl⟩ := t
  show Calls _ _ #[.pointer (some ⟨m, 0, none⟩), .agg #[.int .i64 k, .int .i64 p, .int .i64 na, .int .i64 nb, .string z, .slice da dn dc]] _ _
  obtain ⟨aD, cD, rfl⟩ := own_form h.2.1
  have c0 := h.1
  have hlt := h.lt
  have HH : Hid (Fld w B m 1 78 6 (.slice aD P.length cD) P.length (cellsC P)) := h
  obtain ⟨i0, hi, hz0, hz1, hz2⟩ := info_parts infoC
  clear h
  go_enter Tryz.func40, Tryz.ntmps40
  go_wp2_with fail
  have ag : (Value.slice aD P.length cD).ownBlock ≠ some m := fun e => HH.out.2.2 m e rfl
  have HO : Hid (w.ownsRow B 78 6 (.slice aD P.length cD) P.length (cellsC P)) := HH.out.2.1
  go_region_law
    ((refine step_append_lies _ (by rfl) _ _ _ (by rfl) B 78 i0 _ 6 72 Tryz.underlying24 hi hz0 hz1 hz2 rfl (by decide) (.slice aD P.length cD) P.length (cellsC P) (by rfl) (by repeat (first | exact HO.out | refine World.ownsRow.alloc ?_ _ | refine World.ownsRow.drew ?_))
        ⟨w.heap.size + 1, 0, none⟩ 1 1 [.int .i64 k, .int .i64 p, .int .i64 na, .int .i64 nb, .string z, .slice da dn dc] (by rfl) (by rfl) (World.news_of_block (cs := #[.int .i64 k, .int .i64 p, .int .i64 na, .int .i64 nb, .string z, .slice da dn dc]) (t := 78) (fr := (0, 0)) (heap_new' _ _ _ (by simp))) (by simp [Value.oneCell'])
        (by decide) (by unfold maxLen; omega) (by omega) (by simp; omega) (w.heap.size + 2) (by simp) ?_; intro g' cap' w1 hown1 hgrow hat hlt'; obtain ⟨k1, k2⟩ := afterGrow (w := w) (by repeat (first | exact Below.refl _ _ | refine Below.drew ?_ | refine Below.alloc ?_ (by simp <;> omega) _)) c0 fz hgrow ag))
  all_goals
    have hs : (w1.setCell ⟨m, 1, none⟩ (.slice (some ⟨g', 0, none⟩) (P.length + 1) cap')).cell? ⟨m, 1, none⟩ = some (.slice (some ⟨g', 0, none⟩) (P.length + 1) cap') := World.cell?_setCell_same' _ _ _ (by rw [k1]; rfl)
    have R : Hid (AddK B m 1 78 6 (.slice aD P.length cD) (P ++ [((⟨k, p, na, nb, z, dl⟩ : Cor), Value.slice da dn dc)]).length (cellsC (P ++ [((⟨k, p, na, nb, z, dl⟩ : Cor), Value.slice da dn dc)])) w (w1.setCell ⟨m, 1, none⟩ (.slice (some ⟨g', 0, none⟩) (P.length + 1) cap'))) := by
      refine ⟨_, w1, g', cap', ?_, hgrow, ?_, ?_, ?_⟩
      · repeat (first | exact Below.refl _ _ | refine Below.drew ?_ | refine Below.alloc ?_ (by simp <;> omega) _)
      · rw [cellsC_append, List.length_append]; exact hown1
      · rcases hat with h | h
        · exact .inl h
        · right; simp; omega
      · rw [List.length_append]; rfl
    clear hgrow hown1 hat k1 k2
    go_wp2
    go_ret
    exact ⟨by go_num, R.out⟩
set_option maxRecDepth 100000 in
set_option maxHeartbeats 2000000 in
theorem bind_row (B m : Nat) (v : Value) (F : List Frm) (N : List ByteArray) (o : Int) (nv : Value) (hdv : ∃ da dn dc, nv = .slice da dn dc) (w : World) (hB : B ≤ w.heap.size) (fz : w.frozen? ⟨m, 2, none⟩ = false) (h : Fld w B m 2 115 2 v F.length (cellsFr F)) (hl : F.length < 1000) :
    Calls Tryz.prog 100 #[.pointer (some ⟨m, 0, none⟩), nv, .int .i64 o] w fun e w' => e = .returned (.int .i64 (F.length : Nat)) ∧ AddK B m 2 115 2 v (F ++ [(N, o, nv)]).length (cellsFr (F ++ [(N, o, nv)])) w w' := by
  obtain ⟨da, dn, dc, rfl⟩ := hdv
  obtain ⟨aD, cD, rfl⟩ := own_form h.2.1
  have c0 := h.1
  have hlt := h.lt
  have HH : Hid (Fld w B m 2 115 2 (.slice aD F.length cD) F.length (cellsFr F)) := h
  obtain ⟨i0, hi, hz0, hz1, hz2⟩ := info_parts infoFr
  clear h
  have ag : (Value.slice aD F.length cD).ownBlock ≠ some m := fun e => HH.out.2.2 m e rfl
  have HO : Hid (w.ownsRow B 115 2 (.slice aD F.length cD) F.length (cellsFr F)) := HH.out.2.1
  go_enter Tryz.func100, Tryz.ntmps100
  go_wp2_with (first | (at_builtin; refine wpList_append_lies _ rfl (.tmp 11) (.tmp 15) 44 rfl B 115 i0 _ 2 32 Tryz.underlying44 hi hz0 hz1 hz2 rfl (by decide) _ F.length (cellsFr F) rfl (HO.out.alloc _) ⟨_, 0, none⟩ 1 1 [.slice da dn dc, .int .i64 o] rfl rfl ?c1 ?c2 (by decide) ?c3 ?c4 ?c5 _ rfl ?_))
  case c1 => exact World.news_of_block (cs := #[.slice da dn dc, .int .i64 o]) (t := 115) (fr := (0, 0)) (heap_new' _ _ _ (by simp))
  case c2 => simp [Value.oneCell']
  case c3 => unfold maxLen; omega
  case c4 => omega
  case c5 => simp; omega
  intro g' cap' w1 hown1 hgrow hat hlt'
  obtain ⟨k1, k2⟩ := afterGrow (w := w) ((Below.refl _ w).alloc (Nat.le_refl _) _) c0 fz hgrow ag
  have hs : (w1.setCell ⟨m, 2, none⟩ (.slice (some ⟨g', 0, none⟩) (F.length + 1) cap')).cell? ⟨m, 2, none⟩ = some (.slice (some ⟨g', 0, none⟩) (F.length + 1) cap') := World.cell?_setCell_same' _ _ _ (by rw [k1]; rfl)
  have R : Hid (AddK B m 2 115 2 (.slice aD F.length cD) (F ++ [((N, o, Value.slice da dn dc) : Frm)]).length (cellsFr (F ++ [((N, o, Value.slice da dn dc) : Frm)])) w (w1.setCell ⟨m, 2, none⟩ (.slice (some ⟨g', 0, none⟩) (F.length + 1) cap'))) := by
    refine ⟨_, w1, g', cap', (Below.refl _ w).alloc (Nat.le_refl _) _, hgrow, ?_, ?_, ?_⟩
    · rw [cellsFr_append, List.length_append]; exact hown1
    · rcases hat with h | h
      · exact .inl h
      · right; simp; omega
    · rw [List.length_append]; rfl
  clear hgrow hown1 hat
  go_wp2
  go_ret
  exact ⟨by go_num, R.out⟩
/-- A core put behind the others. -/
theorem l4Put_any (w : World) (B m g dc : Nat) (d : List Dat) (P : List (Cor × Value)) (F : List Frm) (t : Cor) (dv : Value) (h : Mk w B m g dc d P F) (hl : P.length < 1000) (ho : w.ownsRow B 49 4 dv t.data.length (cellsD t.data)) :
    Calls Tryz.prog 40 #[.pointer (some ⟨m, 0, none⟩), t.val dv] w fun e w' => e = .returned (.int .i64 (P.length : Nat)) ∧ Mk w' B m g dc d (P ++ [(t, dv)]) F ∧ Kp B w w' ∧ Below m w w' := by
  obtain ⟨v, hv⟩ := h.hC
  obtain ⟨ao, cp, hd⟩ := own_form ho
  refine (put_row B m v P t dv ⟨_, _, _, hd⟩ w h.hi (h.fz 1) hv hl).mono ?_
  rintro e w' ⟨rfl, ha⟩
  exact ⟨rfl, h.put hv ha (fun x hx => by
    rcases List.mem_append.1 hx with hx | hx
    · exact h.dat x hx
    · obtain rfl : x = (t, dv) := by simpa using hx
      exact ho)⟩
/-- A frame put behind the others. -/
theorem l4Bind_any (w : World) (B m g dc : Nat) (d : List Dat) (P : List (Cor × Value)) (F : List Frm) (N : List ByteArray) (o : Int) (nv : Value) (h : Mk w B m g dc d P F) (hl : F.length < 1000) (ho : w.ownsRow B 9 1 nv N.length (cellsT N)) :
    Calls Tryz.prog 100 #[.pointer (some ⟨m, 0, none⟩), nv, .int .i64 o] w fun e w' => e = .returned (.int .i64 (F.length : Nat)) ∧ Mk w' B m g dc d P (F ++ [(N, o, nv)]) ∧ Kp B w w' ∧ Below m w w' := by
  obtain ⟨v, hv⟩ := h.hF
  obtain ⟨ao, cp, hd⟩ := own_form ho
  refine (bind_row B m v F N o nv ⟨_, _, _, hd⟩ w h.hi (h.fz 2) hv hl).mono ?_
  rintro e w' ⟨rfl, ha⟩
  exact ⟨rfl, h.bind hv ha (fun x hx => by
    rcases List.mem_append.1 hx with hx | hx
    · exact h.nam x hx
    · obtain rfl : x = (N, o, nv) := by simpa using hx
      exact ho)⟩
end Go.Proofs.YtfdkklhigliciaaGreatDoor
/-
  The model's l4Find: a name sought in the frames around a place; l4Param: a name that may be given.
-/
namespace Go.Proofs.YtfdkklhigliciaaGreatDoor
open Go.RowKit Go.Extern.Stop Go.Stop Go.Extern Num Go.Lib

/-- What the frames around a place hold. -/
def chainF (F : List Frm) : Int → Env → Prop
  | f, [] => f = -1
  | f, N :: E => ∃ (k : Nat) (o : Int) (nv : Value), f = (k : Int) ∧ F[k]? = some (N, o, nv) ∧ chainF F o E
theorem chainF.more {F : List Frm} (G : List Frm) : ∀ {E : Env} {f : Int}, chainF F f E → chainF (F ++ G) f E
  | [], _, h => h
  | N :: E, _, h => by
    obtain ⟨k, o, nv, h1, h2, h3⟩ := h
    refine ⟨k, o, nv, h1, ?_, chainF.more G h3⟩
    rw [List.getElem?_append_left (List.getElem?_eq_some_iff.1 h2).1]
    exact h2
/-- What l4Find answers. -/
def fdV : Option (Nat × Nat) → Value
  | some p => .tuple #[.int .i64 (p.1 : Int), .int .i64 (p.2 : Int), .bool true]
  | none => .tuple #[.int .i64 0, .int .i64 0, .bool false]
theorem frm_at {w : World} {B m g dc : Nat} {d : List Dat} {P : List (Cor × Value)} {F : List Frm} (h : Mk w B m g dc d P F) {k : Nat} {N : List ByteArray} {o : Int} {nv : Value} (hk : F[k]? = some (N, o, nv)) :
    ∃ gF cF, w.cell? ⟨m, 2, none⟩ = some (.slice (some ⟨gF, 0, none⟩) F.length cF) ∧ k < F.length ∧ w.cell? ⟨gF, k * 2, none⟩ = some nv ∧ w.cell? ⟨gF, k * 2 + 1, none⟩ = some (.int .i64 o) ∧ w.ownsRow B 9 1 nv N.length (cellsT N) := by
  obtain ⟨v, hv⟩ := h.hF
  obtain ⟨hlt, he⟩ := List.getElem?_eq_some_iff.1 hk
  obtain ⟨gF, cF, rfl, _, _⟩ := hv.2.1.form (by omega)
  have ha : ∀ j, (⟨gF, 0, none⟩ : Addr).add j = ⟨gF, j, none⟩ := fun j => by unfold Addr.add; split <;> simp_all
  obtain ⟨a0, a1⟩ := cellsFr_at F k hlt
  rw [he] at a0 a1
  refine ⟨gF, cF, hv.1, hlt, ?_, ?_, h.nam _ (he ▸ List.getElem_mem hlt)⟩
  · rw [← ha]; exact hv.2.1.cells (g := gF) rfl _ _ a0
  · rw [← ha]; exact hv.2.1.cells (g := gF) rfl _ _ a1
set_option maxRecDepth 100000 in
set_option maxHeartbeats 2000000 in
theorem l4Find_any (w : World) (B m g dc : Nat) (d : List Dat) (P : List (Cor × Value)) (F : List Frm) (f : Int) (E : Env) (s : ByteArray) (h : Mk w B m g dc d P F) (hc : chainF F f E) (hE : E.length ≤ 1000) (hN : ∀ x ∈ F, x.1.length ≤ 1000) :
    Calls Tryz.prog 43 #[.pointer (some ⟨m, 0, none⟩), .int .i64 f, .string s] w fun e w' => e = .returned (fdV (findE E s)) ∧ w' = w := by
  have HM : Hid (Mk w B m g dc d P F) := h
  have HN : Hid (∀ x ∈ F, x.1.length ≤ 1000) := hN
  have HC : Hid (chainF F f E) := hc
  clear h hN hc
  go_enter Tryz.func43, Tryz.ntmps43
  go_wp2_with fail
  go_loopw [1, 9] (fun f' o wr => ∃ (n : Nat) (f2 : Int) (E' : Env), f' = .int .i64 f2 ∧ o = .int .i64 (n : Int) ∧ n + E'.length ≤ 1000 ∧ Hid (chainF F f2 E') ∧ Hid (findE E s = (findE E' s).map fun p => (p.1 + n, p.2)) ∧ wr = w) (fun _ o _ => 1000 - (RowKit.intOf o).toNat)
  case atStart => exact ⟨0, f, E, rfl, rfl, by omega, HC.out, by show _ = _; cases findE E s <;> rfl, rfl⟩
  case round =>
    obtain ⟨n, f2, E', rfl, rfl, hn, HC2, HR, rfl⟩ := hrel
    cases E' with
    | nil =>
      have h1 : f2 = -1 := HC2.out
      subst h1
      have HV : Hid (findE E s = none) := by show _ = _; rw [HR.out]; rfl
      go_wp2
      exact bodyPost_ret (v := fdV none) (by simp [results, Tryz.results43, go_sem, fdV]) rfl ⟨by rw [HV.out], rfl⟩
    | cons N E2 =>
      obtain ⟨k, o, nv, rfl, hk, hch⟩ := HC2.out
      obtain ⟨gF, cF, c2, hlt, c3, c4, ho⟩ := frm_at HM.out hk
      have hNl : N.length ≤ 1000 := HN.out _ (List.mem_of_getElem? hk)
      obtain ⟨aN, cN, rfl⟩ := own_form ho
      have HO : Hid (wr.ownsRow B 9 1 (.slice aN N.length cN) N.length (cellsT N)) := ho
      have HC3 : Hid (chainF F o E2) := hch
      clear hk hch ho
      simp only [List.length_cons] at hn
      go_wp2_with fail
      go_loopw [11] (fun i wr2 => ∃ j : Nat, j ≤ N.length ∧ i = .int .i64 (j : Int) ∧ Hid (∀ (q : Nat) (h : q < N.length), q < j → (N[q].toList == s.toList) = false) ∧ wr2 = wr) (fun i _ => N.length - (RowKit.intOf i).toNat)
      case atStart => exact ⟨0, Nat.zero_le _, rfl, fun q _ hq => by omega, rfl⟩
      case round =>
        obtain ⟨j, hj, rfl, HJ, rfl⟩ := hrel
        by_cases hlj : j < N.length
        · obtain ⟨gN, cN', hsl, _, _⟩ := HO.out.form (by omega)
          obtain ⟨rfl, rfl⟩ : aN = some ⟨gN, 0, none⟩ ∧ cN = cN' := by simp at hsl; exact hsl
          have e1 := rowT_at HO.out j hlj
          cases hb : (N[j].toList == s.toList) with
          | true =>
            have HV : Hid (findE E s = some (n, j)) := by
              show _ = _
              rw [HR.out, findE_hit (idxF_at N s j hlj HJ.out hb)]
              simp
            go_wp2
            exact bodyPost_ret (v := fdV (some (n, j))) (by simp [results, Tryz.results43, go_sem, fdV]) rfl ⟨by rw [HV.out], rfl⟩
          | false =>
            have HJ2 : Hid (∀ (q : Nat) (h : q < N.length), q < j + 1 → (N[q].toList == s.toList) = false) := fun q hq hqj => by
              by_cases e : q < j
              · exact HJ.out q hq e
              · obtain rfl : q = j := by omega
                exact hb
            go_wp2
            exact ⟨⟨j + 1, by omega, by go_num, HJ2.out, trivial⟩, by simp [RowKit.intOf]; omega⟩
        · have HR2 : Hid (findE E s = (findE E2 s).map fun p => (p.1 + (n + 1), p.2)) := by
            show _ = _
            rw [HR.out, findE_on (idxF_none N s (fun q hq => HJ.out q hq (by omega)))]
            cases findE E2 s with
            | none => rfl
            | some p => simp; omega
          go_wp2
          exact ⟨⟨n + 1, o, E2, rfl, by go_num, by omega, HC3.out, HR2.out, trivial⟩, by simp [RowKit.intOf]; omega⟩
/-- What l4Param answers. -/
def pmV (d : List Dat) (a : Int) (N : List ByteArray) : Value := if symP d a = true ∧ idxF N (nameAt d a) = none then .tuple #[.string (nameAt d a), .int .i64 0] else .tuple #[.string ⟨#[]⟩, .int .i64 1]
set_option maxRecDepth 100000 in
set_option maxHeartbeats 2000000 in
theorem l4Param_any (w : World) (B m g dc : Nat) (d : List Dat) (P : List (Cor × Value)) (F : List Frm) (a : Nat) (N : List ByteArray) (nv : Value) (h : Mk w B m g dc d P F) (ha : a < d.length) (ho : w.ownsRow B 9 1 nv N.length (cellsT N)) (hN : N.length ≤ 1000) :
    Calls Tryz.prog 99 #[.pointer (some ⟨m, 0, none⟩), .int .i64 (a : Int), nv] w fun e w' => e = .returned (pmV d a N) ∧ Below w.heap.size w w' := by
  have hd := h.hd
  obtain ⟨r0, _, _, r3⟩ := h.row a ha
  obtain ⟨aN, cN, rfl⟩ := own_form ho
  have HO : Hid (w.ownsRow B 9 1 (.slice aN N.length cN) N.length (cellsT N)) := ho
  obtain ⟨k, hk⟩ : ∃ k, k = d[a].kind := ⟨_, rfl⟩
  obtain ⟨z, hz⟩ : ∃ z, z = d[a].name := ⟨_, rfl⟩
  have HP : Hid (pmV d a N = if (k = 3 ∧ kwB z = false) ∧ idxF N z = none then .tuple #[.string z, .int .i64 0] else .tuple #[.string ⟨#[]⟩, .int .i64 1]) := by
    have e1 : kindAt d (a : Int) = k := by unfold kindAt; rw [hk]; simp [ha]
    have e2 : nameAt d (a : Int) = z := by unfold nameAt; rw [hz]; simp [ha]
    show _ = _
    unfold pmV symP
    rw [e1, e2]
    simp
  rw [← hk] at r0
  rw [← hz] at r3
  have HKw : Hid (∀ u, Calls Tryz.prog 42 #[.string z] u fun e w' => e = .returned (.bool (kwB z)) ∧ Below u.heap.size u w') := fun u => specKw_any z u
  clear h ho hk hz
  go_enter Tryz.func99, Tryz.ntmps99
  by_cases h3 : k = 3
  · subst h3
    go_wp2_with fail
    refine (HKw.out _).mono ?_
    rintro e wq ⟨rfl, b1⟩
    cases hkw : kwB z with
    | true =>
      have HP2 : Hid (pmV d a N = .tuple #[.string ⟨#[]⟩, .int .i64 1]) := by show _ = _; rw [HP.out, hkw]; simp
      go_wp2
      exact bodyPost_ret (v := .tuple #[.string ⟨#[]⟩, .int .i64 1]) (by simp [results, Tryz.results99, go_sem]) rfl ⟨by rw [HP2.out], b1⟩
    | false =>
      have HP2 : Hid (pmV d a N = if idxF N z = none then .tuple #[.string z, .int .i64 0] else .tuple #[.string ⟨#[]⟩, .int .i64 1]) := by show _ = _; rw [HP.out, hkw]; simp
      have HO2 : Hid (World.ownsRow _ B 9 1 (.slice aN N.length cN) N.length (cellsT N)) := own_below HO.out b1
      have s0 := cell_keep b1 r0
      have s3 := cell_keep b1 r3
      have HB : Hid (Below w.heap.size w _) := b1
      clear r0 r3 hd b1 HKw
      go_wp2_with fail
      go_loopw [9] (fun i wr => ∃ j : Nat, j ≤ N.length ∧ i = .int .i64 (j : Int) ∧ Hid (∀ (q : Nat) (h : q < N.length), q < j → (N[q].toList == z.toList) = false) ∧ Hid (Below wq.heap.size wq wr)) (fun i _ => N.length - (RowKit.intOf i).toNat)
      case atStart => exact ⟨0, Nat.zero_le _, rfl, fun q _ hq => by omega, Below.refl _ _⟩
      case round =>
        obtain ⟨j, hj, rfl, HJ, HB2⟩ := hrel
        have HB3 : Hid (Below w.heap.size w wr) := HB.out.trans (HB2.out.mono HB.out.size)
        have t3 := cell_keep HB2.out s3
        by_cases hlj : j < N.length
        · obtain ⟨gN, cN', hsl, _, _⟩ := HO2.out.form (by omega)
          obtain ⟨rfl, rfl⟩ : aN = some ⟨gN, 0, none⟩ ∧ cN = cN' := by simp at hsl; exact hsl
          have e1 := cell_keep HB2.out (rowT_at HO2.out j hlj)
          have q0 : ∀ p : BW wr, p.x.cell? ⟨gN, j, none⟩ = some (.string N[j]) := fun p => p.cell e1
          have q3 : ∀ p : BW wr, p.x.cell? ⟨g, a * 4 + 3, none⟩ = some (.string z) := fun p => p.cell t3
          have hne := bw_some wr
          go_wp2_with fail
          refine wp_region_below (by kernel_rfl) (by kernel_rfl) ?_
          repeat (go_big_quiet_step (fail))
          refine wpQuiet_nil ?_
          intro wx hw'
          obtain ⟨⟨_, b5⟩, rfl⟩ := hw'
          have HB5 : Hid (Below wq.heap.size wq wx) := HB2.out.trans (b5.mono HB2.out.size)
          have HB6 : Hid (Below w.heap.size w wx) := HB3.out.trans (b5.mono HB3.out.size)
          clear b5 q0 q3 hne e1
          cases hb : (N[j].toList == z.toList) with
          | true =>
            have HV : Hid (pmV d a N = .tuple #[.string ⟨#[]⟩, .int .i64 1]) := by
              show _ = _
              rw [HP2.out, idxF_at N z j hlj HJ.out hb]
              rfl
            go_wp2
            exact bodyPost_ret (v := .tuple #[.string ⟨#[]⟩, .int .i64 1]) (by simp [results, Tryz.results99, go_sem]) rfl ⟨by rw [HV.out], HB6.out⟩
          | false =>
            have HJ2 : Hid (∀ (q : Nat) (h : q < N.length), q < j + 1 → (N[q].toList == z.toList) = false) := fun q hq hqj => by
              by_cases e : q < j
              · exact HJ.out q hq e
              · obtain rfl : q = j := by omega
                exact hb
            go_wp2
            exact ⟨⟨j + 1, by omega, by go_num, HJ2.out, HB5.out⟩, by simp [RowKit.intOf]; omega⟩
        · have HV : Hid (pmV d a N = .tuple #[.string z, .int .i64 0]) := by
            show _ = _
            rw [HP2.out, idxF_none N z (fun q hq => HJ.out q hq (by omega))]
            rfl
          go_wp2
          exact bodyPost_ret (v := .tuple #[.string z, .int .i64 0]) (by simp [results, Tryz.results99, go_sem]) rfl ⟨by rw [HV.out], HB3.out⟩
  · have HP2 : Hid (pmV d a N = .tuple #[.string ⟨#[]⟩, .int .i64 1]) := by show _ = _; rw [HP.out]; simp [h3]
    have h3' : (k != 3) = true := by simpa using h3
    go_wp2
    exact bodyPost_ret (v := .tuple #[.string ⟨#[]⟩, .int .i64 1]) (by simp [results, Tryz.results99, go_sem]) rfl ⟨by rw [HP2.out], Below.refl _ _⟩
end Go.Proofs.YtfdkklhigliciaaGreatDoor
/-
  The model's l4All: parts expanded one behind the other, from what l4Expand does with each.
-/
namespace Go.Proofs.YtfdkklhigliciaaGreatDoor
open Go.RowKit Go.Extern.Stop Go.Stop Go.Extern Num Go.Lib

/-- The maker with the cores so far, and the frame that is around a place. -/
def St (w : World) (B m g dc : Nat) (l : List Dat) (C : List Cor) (F : List Frm) (f : Int) (E : Env) : Prop :=
  ∃ P, Mk w B m g dc l P F ∧ P.map Prod.fst = C ∧ F.length ≤ P.length ∧ (∀ x ∈ F, x.1.length ≤ 3) ∧ chainF F f E
theorem St.below {w w' : World} {B m g dc : Nat} {l : List Dat} {C : List Cor} {F : List Frm} {f : Int} {E : Env} (h : St w B m g dc l C F f E) (hb : Below w.heap.size w w') : St w' B m g dc l C F f E := by
  obtain ⟨P, h1, h2⟩ := h
  exact ⟨P, h1.below hb, h2⟩
/-- What is answered: the code; where it is none, the maker holds the cores; nothing else is turned. -/
def AnsX (B m g dc : Nat) (l : List Dat) (F : List Frm) (r : Int × List Cor) (w : World) (e : Ending) (w' : World) : Prop :=
  e = .returned (.int .i64 r.1) ∧ (r.1 = 0 → ∃ P G, Mk w' B m g dc l P (F ++ G) ∧ P.map Prod.fst = r.2 ∧ (F ++ G).length ≤ P.length ∧ ∀ x ∈ F ++ G, x.1.length ≤ 3) ∧ Kp B w w' ∧ Below m w w'
/-- What is expected of l4Expand, so deep. -/
def ExS (l : List Dat) (n : Nat) : Prop := ∀ (w : World) (B m g dc a : Nat) (par f : Int) (E : Env) (C : List Cor) (F : List Frm), St w B m g dc l C F f E → a < l.length → l.length ≤ a + n → E.length + n ≤ 1000 → (expF l n a par E C).2.length ≤ 900 →
  Calls Tryz.prog 19 #[.pointer (some ⟨m, 0, none⟩), .int .i64 (a : Int), .int .i64 par, .int .i64 f] w fun e w' => AnsX B m g dc l F (expF l n a par E C) w e w'
/-- Ints that lie in a row from some place on. -/
def IRow (w : World) (B : Nat) (ao : Option Addr) (L : List Int) : Prop := L = [] ∨ ∃ q off cs fr, ao = some ⟨q, off, none⟩ ∧ B ≤ q ∧ w.heap[q]? = some (.cells cs 2 fr) ∧ ∀ (k : Nat) (h : k < L.length), cs[off + k]? = some (.int .i64 L[k])
theorem typ_ni : (2 : TypeId) ≠ 78 ∧ (2 : TypeId) ≠ 115 := by decide
theorem IRow.keep {w w' : World} {B : Nat} {ao : Option Addr} {L : List Int} (h : IRow w B ao L) (hk : Kp B w w') : IRow w' B ao L := by
  rcases h with h | ⟨q, off, cs, fr, h1, h2, h3, h4⟩
  · exact .inl h
  · exact .inr ⟨q, off, cs, fr, h1, h2, hk.cell h2 typ_ni.1 typ_ni.2 h3, h4⟩
theorem IRow.at {w : World} {B : Nat} {ao : Option Addr} {L : List Int} (h : IRow w B ao L) (hl : L ≠ []) : ∃ q off, ao = some ⟨q, off, none⟩ ∧ ∀ (k : Nat) (h : k < L.length), w.cell? ⟨q, off + k, none⟩ = some (.int .i64 L[k]) := by
  rcases h with h | ⟨q, off, cs, fr, h1, h2, h3, h4⟩
  · exact absurd h hl
  · exact ⟨q, off, h1, fun k hk => by rw [cell_of_heap h3]; exact h4 k hk⟩
theorem IRow.drop {w : World} {B q off : Nat} {L : List Int} (h : IRow w B (some ⟨q, off, none⟩) L) (j : Nat) : IRow w B (some ⟨q, off + j, none⟩) (L.drop j) := by
  rcases h with h | ⟨q', off', cs, fr, h1, h2, h3, h4⟩
  · left; rw [h]; simp
  · obtain ⟨rfl, rfl⟩ : q = q' ∧ off = off' := by simpa using h1
    refine .inr ⟨q, off + j, cs, fr, rfl, h2, h3, fun k hk => ?_⟩
    rw [List.length_drop] at hk
    rw [List.getElem_drop, Nat.add_assoc]
    exact h4 (j + k) (by omega)
theorem IRow.of {w : World} {base B : Nat} {ao : Option Addr} {L : List Int} {c : Nat} (h : w.ownsRow base 2 1 (.slice ao L.length c) L.length (cellsI L)) (hB : B ≤ base) : IRow w B ao L := by
  rcases h.2 with ⟨_, h0⟩ | ⟨g, cap, cur, hv, hb, hg, h1, _, _, h4⟩
  · left; exact List.length_eq_zero_iff.1 h0
  · right
    refine ⟨g, 0, cur, (0, 0), by simp at hv; exact hv.1, by omega, hg, fun k hk => ?_⟩
    have e : (cellsI L)[k]? = some (.int .i64 L[k]) := by simp [cellsI, hk]
    rw [← h4, List.getElem?_take_of_lt (by omega)] at e
    simpa using e
theorem allF_take {f : Nat → List Cor → Int × List Cor} {L : List Int} {C : List Cor} {k : Nat} (hk : k < L.length) (h : (allF f (L.take k) C).1 = 0) : allF f (L.take (k + 1)) C = f L[k].toNat (allF f (L.take k) C).2 := by
  rw [List.take_succ_eq_append_getElem hk]
  exact allF_append f _ _ _ h
theorem allF_part {f : Nat → List Cor → Int × List Cor} {L : List Int} {C : List Cor} {k : Nat} (h : (allF f (L.take k) C).1 ≠ 0) : allF f L C = allF f (L.take k) C := by
  conv => lhs; rw [← List.take_append_drop k L]
  exact allF_stop f _ _ _ h
/-- A list of cores only grows. -/
def grows (f : Nat → List Cor → Int × List Cor) : Prop := ∀ a C, C.length ≤ (f a C).2.length
theorem allF_grows {f : Nat → List Cor → Int × List Cor} (hf : grows f) : ∀ (L : List Int) (C : List Cor), C.length ≤ (allF f L C).2.length
  | [], C => Nat.le_refl _
  | a :: r, C => by
    show C.length ≤ (if (f a.toNat C).1 = 0 then allF f r (f a.toNat C).2 else f a.toNat C).2.length
    split
    · exact Nat.le_trans (hf _ _) (allF_grows hf r _)
    · exact hf _ _
theorem allF_take_le {f : Nat → List Cor → Int × List Cor} (hf : grows f) (L : List Int) (C : List Cor) (k : Nat) : (allF f (L.take k) C).2.length ≤ (allF f L C).2.length := by
  by_cases h : (allF f (L.take k) C).1 = 0
  · have : ∀ (A R : List Int) (C : List Cor), (allF f A C).1 = 0 → (allF f A C).2.length ≤ (allF f (A ++ R) C).2.length := by
      intro A
      induction A with
      | nil => intro R C _; exact allF_grows hf R C
      | cons a A ih =>
        intro R C h
        have e : allF f (a :: A) C = if (f a.toNat C).1 = 0 then allF f A (f a.toNat C).2 else f a.toNat C := rfl
        have e' : allF f (a :: A ++ R) C = if (f a.toNat C).1 = 0 then allF f (A ++ R) (f a.toNat C).2 else f a.toNat C := rfl
        by_cases hc : (f a.toNat C).1 = 0
        · rw [e, if_pos hc] at h ⊢
          rw [e', if_pos hc]
          exact ih R _ h
        · rw [e, if_neg hc] at h
          exact absurd h hc
    have := this (L.take k) (L.drop k) C h
    rwa [List.take_append_drop] at this
  · rw [← allF_part h]
    exact Nat.le_refl _
set_option maxRecDepth 100000 in
set_option maxHeartbeats 2000000 in
theorem l4All_of (l : List Dat) (n : Nat) (hX : ExS l n) (w : World) (B m g dc : Nat) (ao : Option Addr) (cp : Nat) (L : List Int) (par f : Int) (E : Env) (C : List Cor) (F : List Frm) (h : St w B m g dc l C F f E) (hL : IRow w B ao L) (hb : ∀ b ∈ L, ∃ j : Nat, b = (j : Int) ∧ j < l.length ∧ l.length ≤ j + n) (hl : L.length ≤ 1000) (hE : E.length + n ≤ 1000) (hg : grows fun a D => expF l n a par E D) (h9 : (allF (fun a D => expF l n a par E D) L C).2.length ≤ 900) :
    Calls Tryz.prog 46 #[.pointer (some ⟨m, 0, none⟩), .slice ao L.length cp, .int .i64 par, .int .i64 f] w fun e w' => AnsX B m g dc l F (allF (fun a D => expF l n a par E D) L C) w e w' := by
  obtain ⟨fx, hfx⟩ : ∃ fx, fx = fun (a : Nat) (D : List Cor) => expF l n a par E D := ⟨_, rfl⟩
  have HX : Hid (∀ (u : World) (a : Nat) (D : List Cor) (G : List Frm), St u B m g dc l D G f E → a < l.length → l.length ≤ a + n → (fx a D).2.length ≤ 900 → Calls Tryz.prog 19 #[.pointer (some ⟨m, 0, none⟩), .int .i64 (a : Int), .int .i64 par, .int .i64 f] u fun e w' => AnsX B m g dc l G (fx a D) u e w') := fun u a D G hs ha hn h9 => by
    rw [hfx] at h9 ⊢
    exact hX u B m g dc a par f E D G hs ha hn hE h9
  rw [← hfx] at hg h9 ⊢
  have H9 : Hid (∀ k, (allF fx (L.take k) C).2.length ≤ 900) := fun k => Nat.le_trans (allF_take_le hg L C k) h9
  have HB : Hid (∀ b ∈ L, ∃ j : Nat, b = (j : Int) ∧ j < l.length ∧ l.length ≤ j + n) := hb
  have HS : Hid (∃ G, (allF fx (L.take 0) C).1 = 0 ∧ St w B m g dc l (allF fx (L.take 0) C).2 (F ++ G) f E) := ⟨[], rfl, by rw [List.append_nil]; exact h⟩
  have HL : Hid (IRow w B ao L) := hL
  have hmB : m < B := by obtain ⟨P, h1, _⟩ := h; exact h1.lo
  clear h hb hX hE hg h9 hfx hL
  go_enter Tryz.func46, Tryz.ntmps46
  go_wp2_with fail
  go_loopw [9] (fun i wr => ∃ k : Nat, k ≤ L.length ∧ i = .int .i64 (k : Int) ∧ Hid (∃ G, (allF fx (L.take k) C).1 = 0 ∧ St wr B m g dc l (allF fx (L.take k) C).2 (F ++ G) f E) ∧ Hid (Kp B w wr) ∧ Hid (Below m w wr)) (fun i _ => L.length - (RowKit.intOf i).toNat)
  case atStart => exact ⟨0, Nat.zero_le _, rfl, HS.out, Kp.refl _ _, Below.refl _ _⟩
  case round =>
    obtain ⟨k, hk, rfl, HS2, HK, HBm⟩ := hrel
    by_cases hlt : k < L.length
    · obtain ⟨G, h0, hs⟩ := HS2.out
      obtain ⟨q, off, rfl, hc⟩ := (HL.out.keep HK.out).at (by intro e; subst e; simp at hlt)
      have c1 := hc k hlt
      obtain ⟨j, hj, hj1, hj2⟩ := HB.out L[k] (List.getElem_mem hlt)
      rw [hj] at c1
      have hjt : L[k].toNat = j := by omega
      have e2 := allF_take (C := C) hlt h0
      rw [hjt] at e2
      have HC : Hid (Calls Tryz.prog 19 #[.pointer (some ⟨m, 0, none⟩), .int .i64 (j : Int), .int .i64 par, .int .i64 f] wr fun e w' => AnsX B m g dc l (F ++ G) (allF fx (L.take (k + 1)) C) wr e w') := by
        show Calls _ _ _ _ _
        rw [e2]
        exact HX.out wr j _ (F ++ G) hs hj1 hj2 (by rw [← e2]; exact H9.out (k + 1))
      have HCh : Hid (chainF (F ++ G) f E) := by obtain ⟨P, _, _, _, _, h5⟩ := hs; exact h5
      clear hc hs e2 hj hjt h0 HS2
      go_wp2_with fail
      refine HC.out.mono ?_
      rintro e w2 ⟨rfl, h1, hk2, hb2⟩
      have HK2 : Hid (Kp B w w2) := HK.out.trans hk2
      have HB2 : Hid (Below m w w2) := HBm.out.trans hb2
      have H1 : Hid ((allF fx (L.take (k + 1)) C).1 = 0 → ∃ P G', Mk w2 B m g dc l P (F ++ G ++ G') ∧ P.map Prod.fst = (allF fx (L.take (k + 1)) C).2 ∧ (F ++ G ++ G').length ≤ P.length ∧ ∀ x ∈ F ++ G ++ G', x.1.length ≤ 3) := h1
      clear h1 hk2 hb2 HC
      by_cases hz : (allF fx (L.take (k + 1)) C).1 = 0
      · have HS3 : Hid (∃ G, (allF fx (L.take (k + 1)) C).1 = 0 ∧ St w2 B m g dc l (allF fx (L.take (k + 1)) C).2 (F ++ G) f E) := by
          obtain ⟨P, G', h1, h2, h3, h4⟩ := H1.out hz
          refine ⟨G ++ G', hz, P, ?_⟩
          rw [← List.append_assoc]
          exact ⟨h1, h2, h3, h4, HCh.out.more G'⟩
        rw [hz]
        clear H1
        go_wp2
        exact ⟨⟨k + 1, by omega, by go_num, HS3.out, HK2.out, HB2.out⟩, by simp [RowKit.intOf]; omega⟩
      · have HR : Hid (AnsX B m g dc l F (allF fx L C) w (.returned (.int .i64 (allF fx (L.take (k + 1)) C).1)) w2) := by
          show AnsX _ _ _ _ _ _ _ _ _ _
          rw [allF_part hz]
          exact ⟨rfl, fun e => absurd e hz, HK2.out, HB2.out⟩
        have hz' : ((allF fx (L.take (k + 1)) C).1 != 0) = true := by simpa using hz
        generalize (allF fx (L.take (k + 1)) C).1 = cc at HR hz' ⊢
        clear H1 hz
        go_wp2
        go_ret
        exact HR.out
    · have HR : Hid (AnsX B m g dc l F (allF fx L C) w (.returned (.int .i64 0)) wr) := by
        obtain ⟨G, h0, P, h1, h2, h3, h4, h5⟩ := HS2.out
        rw [List.take_of_length_le (by omega)] at h0 h2
        show AnsX _ _ _ _ _ _ _ _ _ _
        exact ⟨by rw [h0], fun _ => ⟨P, G, h1, h2, h3, h4⟩, HK.out, HBm.out⟩
      go_wp2
      go_ret
      exact HR.out
end Go.Proofs.YtfdkklhigliciaaGreatDoor
/-
  The model's l4Assign: a name and what it is to be, from what l4Expand does.
-/
namespace Go.Proofs.YtfdkklhigliciaaGreatDoor
open Go.RowKit Go.Extern.Stop Go.Stop Go.Extern Num Go.Lib

theorem AnsX.pre {B m g dc : Nat} {l : List Dat} {F : List Frm} {r : Int × List Cor} {w u w' : World} {e : Ending} (h : AnsX B m g dc l F r u e w') (hk : Kp B w u) (hb : Below m w u) : AnsX B m g dc l F r w e w' :=
  ⟨h.1, h.2.1, hk.trans h.2.2.1, hb.trans h.2.2.2⟩
theorem AnsX.code {B m g dc : Nat} {l : List Dat} {F : List Frm} {c : Int} {C : List Cor} {w w' : World} (hc : c ≠ 0) (hk : Kp B w w') (hb : Below m w w') : AnsX B m g dc l F (c, C) w (.returned (.int .i64 c)) w' :=
  ⟨rfl, fun e => absurd e hc, hk, hb⟩
theorem expF_grows (l : List Dat) : ∀ (n a : Nat) (par : Int) (E : Env) (C : List Cor), C.length ≤ (expF l n a par E C).2.length := by
  intro n
  induction n with
  | zero => intro a par E C; exact Nat.le_refl _
  | succ n ih =>
    intro a par E C
    have hall : ∀ (par : Int) (E : Env) (L : List Int) (D : List Cor), C.length ≤ D.length → C.length ≤ (allF (fun b D => expF l n b par E D) L D).2.length := fun par E L D h => Nat.le_trans h (allF_grows (fun a D => ih a par E D) L D)
    have h1 : ∀ t : Cor, C.length ≤ (C ++ [t]).length := fun t => by simp
    have hasg : ∀ k p, C.length ≤ (asgF l (expF l n) k p par E C).2.length := fun k p => by
      unfold asgF
      split
      · exact Nat.le_trans (h1 _) (ih _ _ _ _)
      · exact Nat.le_refl _
    simp only [expF]
    split
    · exact h1 _
    · split
      · split
        · exact Nat.le_refl _
        · split <;> exact h1 _
      · split
        · exact Nat.le_refl _
        · split
          · unfold formF
            split
            · split
              · exact h1 _
              · exact Nat.le_refl _
            · split
              · split
                · exact hall _ _ _ _ (h1 _)
                · exact Nat.le_refl _
              · split
                · split
                  · exact hall _ _ _ _ (h1 _)
                  · exact Nat.le_refl _
                · split
                  · unfold lamF
                    split
                    · split
                      · exact Nat.le_refl _
                      · split
                        · exact Nat.le_refl _
                        · exact Nat.le_trans (h1 _) (ih _ _ _ _)
                    · exact Nat.le_refl _
                  · split
                    · unfold letG
                      split
                      · split
                        · exact Nat.le_refl _
                        · split
                          · exact Nat.le_refl _
                          · have h2 : ∀ a b E' (t t' : Cor), C.length ≤ (expF l n a b E' (C ++ [t] ++ [t'])).2.length := fun a b E' t t' => Nat.le_trans (by simp) (ih _ _ _ _)
                            split
                            · exact hall _ _ _ _ (h2 _ _ _ _ _)
                            · exact h2 _ _ _ _ _
                      · exact Nat.le_refl _
                    · split <;> exact hasg _ _
          · split
            · exact Nat.le_refl _
            · exact hall _ _ _ _ (h1 _)
/-- A core put behind the others that has no data. -/
theorem putS_any (w : World) (B m g dc : Nat) (l : List Dat) (C : List Cor) (F : List Frm) (f : Int) (E : Env) (k par : Int) (a b : Nat) (z : ByteArray) (h : St w B m g dc l C F f E) (hl : C.length < 1000) :
    Calls Tryz.prog 40 #[.pointer (some ⟨m, 0, none⟩), .agg #[.int .i64 k, .int .i64 par, .int .i64 (a : Int), .int .i64 (b : Int), .string z, .slice none 0 0]] w fun e w' => e = .returned (.int .i64 (C.length : Nat)) ∧ St w' B m g dc l (C ++ [coC k par a b z []]) F f E ∧ Kp B w w' ∧ Below m w w' := by
  obtain ⟨P, h1, h2, h3, h4⟩ := h
  have hP : P.length = C.length := by rw [← h2, List.length_map]
  refine (l4Put_any w B m g dc l P F (coC k par a b z []) (.slice none 0 0) h1 (by omega) (World.ownsRow_nil _ _ _ _)).mono ?_
  rintro e w' ⟨rfl, hm, hk, hb⟩
  exact ⟨by rw [hP], ⟨P ++ [(coC k par a b z [], .slice none 0 0)], hm, by rw [List.map_append, h2]; rfl, by rw [List.length_append]; omega, h4⟩, hk, hb⟩
theorem St.len {w : World} {B m g dc : Nat} {l : List Dat} {C : List Cor} {F : List Frm} {f : Int} {E : Env} (h : St w B m g dc l C F f E) : F.length ≤ C.length := by
  obtain ⟨P, _, h2, h3, _⟩ := h
  rw [← h2, List.length_map]; exact h3
set_option maxRecDepth 100000 in
set_option maxHeartbeats 1000000 in
theorem l4Assign_of (l : List Dat) (n : Nat) (hX : ExS l n) (w : World) (B m g dc : Nat) (ao : Option Addr) (cp : Nat) (L : List Int) (par f kd : Int) (E : Env) (C : List Cor) (F : List Frm) (h : St w B m g dc l C F f E) (hL : IRow w B ao L) (hb : ∀ b ∈ L, ∃ j : Nat, b = (j : Int) ∧ j < l.length ∧ l.length ≤ j + n) (hE : E.length + n ≤ 1000) (h9 : (asgF l (expF l n) kd L par E C).2.length ≤ 900) :
    Calls Tryz.prog 66 #[.pointer (some ⟨m, 0, none⟩), .slice ao L.length cp, .int .i64 par, .int .i64 f, .int .i64 kd] w fun e w' => AnsX B m g dc l F (asgF l (expF l n) kd L par E C) w e w' := by
  by_cases hln : L.length = 3
  case neg =>
    have HR : Hid (AnsX B m g dc l F (asgF l (expF l n) kd L par E C) w (.returned (.int .i64 1)) w) := by
      show AnsX _ _ _ _ _ _ _ _ _ _
      unfold asgF
      rw [if_neg (fun e => hln e.1)]
      exact AnsX.code (by decide) (Kp.refl _ _) (Below.refl _ _)
    have hln' : ((L.length : Int) != 3) = true := by simp; omega
    clear h9 hX h hL hb
    go_enter Tryz.func66, Tryz.ntmps66
    go_wp2
    go_ret
    exact HR.out
  by_cases hkp : kd = 8 ∧ par ≠ -1
  · have HR : Hid (AnsX B m g dc l F (asgF l (expF l n) kd L par E C) w (.returned (.int .i64 1)) w) := by
      show AnsX _ _ _ _ _ _ _ _ _ _
      unfold asgF
      rw [if_neg (fun e => e.2.1 hkp)]
      exact AnsX.code (by decide) (Kp.refl _ _) (Below.refl _ _)
    obtain ⟨rfl, hp⟩ := hkp
    have hp' : (par != -1) = true := by simpa using hp
    clear h9 hX h hL hb
    rw [hln]
    go_enter Tryz.func66, Tryz.ntmps66
    go_wp2
    go_ret
    exact HR.out
  obtain ⟨x0, x1, x2, rfl⟩ : ∃ x0 x1 x2, L = [x0, x1, x2] := by
    match L, hln with
    | [a, b, c], _ => exact ⟨a, b, c, rfl⟩
  obtain ⟨j1, rfl, j1l, -⟩ := hb x1 (by simp)
  obtain ⟨j2, rfl, j2l, j2n⟩ := hb x2 (by simp)
  obtain ⟨q, off, rfl, hc⟩ := hL.at (by simp)
  have c1 := hc 1 (by simp)
  have c2 := hc 2 (by simp)
  simp only [List.getElem_cons_succ, List.getElem_cons_zero] at c1 c2
  have hCl : C.length ≤ 900 := by
    unfold asgF at h9
    split at h9
    · exact Nat.le_trans (by simp) (Nat.le_trans (expF_grows l n _ C.length E _) h9)
    · exact h9
  have HA : Hid (asgF l (expF l n) kd [x0, (j1 : Int), (j2 : Int)] par E C = if symP l j1 = true ∧ findE E (nameAt l j1) = none then expF l n j2 C.length E (C ++ [coC kd par 0 0 (nameAt l j1) []]) else (1, C)) := by
    show _ = _
    unfold asgF
    simp only [hln, true_and, hkp, not_false_eq_true]
    rfl
  rw [HA.out] at h9
  have HSt : Hid (St w B m g dc l C F f E) := h
  have HLr : Hid (IRow w B (some ⟨q, off, none⟩) [x0, (j1 : Int), (j2 : Int)]) := hL
  have HPm : Hid (Calls Tryz.prog 99 #[.pointer (some ⟨m, 0, none⟩), .int .i64 (j1 : Int), .slice none 0 0] w fun e w' => e = .returned (pmV l j1 []) ∧ Below w.heap.size w w') := by
    obtain ⟨P, h1, _⟩ := h
    exact l4Param_any w B m g dc l P F j1 [] (.slice none 0 0) h1 j1l (World.ownsRow_nil _ _ _ _) (by simp)
  have HFd : Hid (∀ u, Below w.heap.size w u → ∀ s, Calls Tryz.prog 43 #[.pointer (some ⟨m, 0, none⟩), .int .i64 f, .string s] u fun e w' => e = .returned (fdV (findE E s)) ∧ w' = u) := fun u hu s => by
    obtain ⟨P, h1, _, _, h4, h5⟩ := h.below hu
    exact l4Find_any u B m g dc l P F f E s h1 h5 (by omega) (fun x hx => by have := h4 x hx; omega)
  obtain ⟨R, hR⟩ : ∃ R, R = asgF l (expF l n) kd [x0, (j1 : Int), (j2 : Int)] par E C := ⟨_, rfl⟩
  have HRR : Hid (R = if symP l j1 = true ∧ findE E (nameAt l j1) = none then expF l n j2 C.length E (C ++ [coC kd par 0 0 (nameAt l j1) []]) else (1, C)) := by show _ = _; rw [hR, HA.out]
  rw [← hR]
  have hk8 : ((kd == 8) = true ∧ (par != -1) = false) ∨ (kd == 8) = false := by
    by_cases e : kd = 8
    · left
      refine ⟨by simpa using e, ?_⟩
      by_cases e2 : par = -1
      · simp [e2]
      · exact absurd ⟨e, e2⟩ hkp
    · right; simpa using e
  clear hkp h hL hc hb HA hR
  rcases hk8 with ⟨h8, hp8⟩ | h8
  case' inl =>
    go_enter Tryz.func66, Tryz.ntmps66
    go_wp2_with fail
  case' inr =>
    go_enter Tryz.func66, Tryz.ntmps66
    go_wp2_with fail
  all_goals
    refine HPm.out.mono ?_
    rintro e w1 ⟨rfl, b1⟩
    have HS1 : Hid (St w1 B m g dc l C F f E) := HSt.out.below b1
    have HB1 : Hid (Below w.heap.size w w1) := b1
    have HL1 : Hid (IRow w1 B (some ⟨q, off, none⟩) [x0, (j1 : Int), (j2 : Int)]) := HLr.out.keep (Kp.of_below b1)
    have d2 := cell_keep b1 c2
    have hBw : B ≤ w.heap.size := by obtain ⟨P, h1, _⟩ := HSt.out; exact h1.hi
    have hmB : m < B := by obtain ⟨P, h1, _⟩ := HSt.out; exact h1.lo
    have HK1 : Hid (Kp B w w1 ∧ Below m w w1) := ⟨Kp.of_below b1, b1.mono (show m ≤ w.heap.size by omega)⟩
    clear b1 HPm HSt HLr c1 c2
    obtain ⟨z, HZ⟩ : ∃ z, Hid (z = nameAt l j1) := ⟨_, rfl⟩
    by_cases hs : symP l j1 = true
    · have e1 : pmV l j1 [] = .tuple #[.string z, .int .i64 0] := by unfold pmV; rw [if_pos ⟨hs, rfl⟩, ← show z = _ from HZ.out]
      rw [e1]
      clear e1
      go_wp2_with fail
      refine (HFd.out _ HB1.out z).mono ?_
      rintro e w2 ⟨rfl, hw2⟩
      replace hw2 := hw2.symm
      subst hw2
      rcases hf : findE E z with _ | ⟨o, i⟩
      · rw [← show z = _ from HZ.out, if_pos ⟨hs, hf⟩] at h9
        have HR : Hid (∀ e w', AnsX B m g dc l F (expF l n j2 C.length E (C ++ [coC kd par 0 0 z []])) w e w' → AnsX B m g dc l F R w e w') := fun e w' h => by rw [show R = _ from HRR.out, ← show z = _ from HZ.out, if_pos ⟨hs, hf⟩]; exact h
        have HP : Hid (∀ u, Below w1.heap.size w1 u → Calls Tryz.prog 40 #[.pointer (some ⟨m, 0, none⟩), .agg #[.int .i64 kd, .int .i64 par, .int .i64 0, .int .i64 0, .string z, .slice none 0 0]] u fun e w' => e = .returned (.int .i64 (C.length : Nat)) ∧ St w' B m g dc l (C ++ [coC kd par 0 0 z []]) F f E ∧ w'.cell? ⟨q, off + 2, none⟩ = some (.int .i64 (j2 : Int)) ∧ Kp B w w' ∧ Below m w w') := fun u hu => by
          refine (putS_any u B m g dc l C F f E kd par 0 0 z (HS1.out.below hu) (by omega)).mono ?_
          rintro e w' ⟨h1, h2, h3, h4⟩
          obtain ⟨q', off', he, hc'⟩ := ((HL1.out.keep (Kp.of_below hu)).keep h3).at (by simp)
          obtain ⟨rfl, rfl⟩ : q = q' ∧ off = off' := by simpa using he
          exact ⟨h1, h2, hc' 2 (by simp), (HK1.out.1.trans (Kp.of_below hu)).trans h3, (HK1.out.2.trans (hu.mono (show m ≤ w1.heap.size by have := HB1.out.size; omega))).trans h4⟩
        have HXX : Hid (∀ u, St u B m g dc l (C ++ [coC kd par 0 0 z []]) F f E → Calls Tryz.prog 19 #[.pointer (some ⟨m, 0, none⟩), .int .i64 (j2 : Int), .int .i64 (C.length : Nat), .int .i64 f] u fun e w' => AnsX B m g dc l F (expF l n j2 C.length E (C ++ [coC kd par 0 0 z []])) u e w') := fun u hu => hX u B m g dc j2 C.length f E _ F hu j2l j2n hE h9
        clear hX h9 HFd hs hf HZ HS1 HL1 HRR
        simp only [fdV]
        go_wp2_with fail
        go_region_with (first
          | (go_at_call 40; refine (HP.out _ (by repeat (first | exact Below.refl _ _ | refine Below.drew ?_))).mono ?_; rintro e wp ⟨rfl, hs, e2, hk⟩; have HSp : Hid (St wp B m g dc l (C ++ [coC kd par 0 0 z []]) F f E) := hs; have HKp : Hid (Kp B w wp ∧ Below m w wp) := hk; clear hs hk)
          | (go_at_call 19; refine (HXX.out _ HSp.out).mono ?_; rintro e wx hx; have HXp : Hid (AnsX B m g dc l F (expF l n j2 C.length E (C ++ [coC kd par 0 0 z []])) wp e wx) := hx; have he := hx.1; clear hx; subst he)
          | fail)
        all_goals
          have HW : Hid (AnsX B m g dc l F R w (.returned (.int .i64 (expF l n j2 C.length E (C ++ [coC kd par 0 0 z []])).1)) wx) := HR.out _ _ (HXp.out.pre HKp.out.1 HKp.out.2)
          clear HR HXX HP HSp HXp HKp
          generalize (expF l n j2 C.length E (C ++ [coC kd par 0 0 z []])).1 = cc at HW ⊢
          go_wp2
          go_ret
          exact HW.out
      · have HR : Hid (AnsX B m g dc l F R w (.returned (.int .i64 1)) w1) := by
          show AnsX _ _ _ _ _ _ _ _ _ _
          rw [show R = _ from HRR.out, if_neg (fun e => by rw [← show z = _ from HZ.out, hf] at e; cases e.2)]
          exact AnsX.code (by decide) HK1.out.1 HK1.out.2
        clear hX h9 HFd hs hf HZ HS1 HL1 HRR
        simp only [fdV]
        go_wp2
        go_ret
        exact HR.out
    · have e1 : pmV l j1 [] = .tuple #[.string ⟨#[]⟩, .int .i64 1] := by unfold pmV; rw [if_neg (fun e => hs e.1)]
      have HR : Hid (AnsX B m g dc l F R w (.returned (.int .i64 1)) w1) := by
        show AnsX _ _ _ _ _ _ _ _ _ _
        rw [show R = _ from HRR.out, if_neg (fun e => hs e.1)]
        exact AnsX.code (by decide) HK1.out.1 HK1.out.2
      rw [e1]
      clear e1 hX h9 HFd hs HZ HS1 HL1 HRR
      go_wp2
      go_ret
      exact HR.out
end Go.Proofs.YtfdkklhigliciaaGreatDoor
