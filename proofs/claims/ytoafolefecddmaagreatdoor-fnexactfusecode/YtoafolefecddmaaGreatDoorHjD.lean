/-
  Parts of the proof laid into one text, one behind the other: AroundMath, SpecAr, SpecLo, CodeMath, SpecCf. Contracts of the program's and the model's functions, and what they are proved of, as their theorems say.
-/
import Derived.Test.YtoafolefecddmaaGreatDoorHgA
import Derived.Test.YtoafolefecddmaaGreatDoorHjB
namespace Go.Proofs.YtoafolefecddmaaGreatDoor
def cloB (n i : Nat) : List Opr → List Int → Option (List Int)
  | [], A => some A
  | t :: r, A => if t.kind = 4 then (if t.a ≤ (i : Int) ∨ (n : Int) ≤ t.a ∨ A.getD t.a.toNat 0 ≠ -1 then none else cloB n i r (A.set t.a.toNat (i : Int))) else cloB n i r A
def cloL (n : Nat) : Nat → List Blk → List Int → Option (List Int)
  | _, [], A => some A
  | i, b :: r, A => (cloB n i b.ops A).bind (cloL n (i + 1) r)
structure ArI (n : Nat) (A : List Int) : Prop where
  len : A.length = n
  low : ∀ (k : Nat) (x : Int), A[k]? = some x → x = -1 ∨ (0 ≤ x ∧ x < (k : Int))
theorem ArI.put {n i : Nat} {A : List Int} (h : ArI n A) {k : Nat} (hk : i < k) : ArI n (A.set k (i : Int)) := by
  refine ⟨by rw [List.length_set]; exact h.len, fun j x hj => ?_⟩
  by_cases e : k = j
  · subst e
    by_cases hl : k < A.length
    · rw [List.getElem?_set_self hl] at hj
      have := Option.some.inj hj
      omega
    · rw [List.getElem?_eq_none_iff.2 (by rw [List.length_set]; omega)] at hj; cases hj
  · rw [List.getElem?_set_ne e] at hj; exact h.low j x hj
theorem cloB_inv (n i : Nat) : ∀ (l : List Opr) (A A' : List Int), ArI n A → cloB n i l A = some A' → ArI n A'
  | [], A, A', h, e => by have := Option.some.inj e; subst this; exact h
  | t :: r, A, A', h, e => by
    unfold cloB at e
    by_cases k : t.kind = 4
    · rw [if_pos k] at e
      by_cases q : t.a ≤ (i : Int) ∨ (n : Int) ≤ t.a ∨ A.getD t.a.toNat 0 ≠ -1
      · rw [if_pos q] at e; cases e
      · rw [if_neg q] at e
        exact cloB_inv n i r _ A' (h.put (by omega)) e
    · rw [if_neg k] at e
      exact cloB_inv n i r A A' h e
theorem cloL_inv (n : Nat) : ∀ (l : List Blk) (i : Nat) (A A' : List Int), ArI n A → cloL n i l A = some A' → ArI n A'
  | [], _, A, A', h, e => by have := Option.some.inj e; subst this; exact h
  | b :: r, i, A, A', h, e => by
    unfold cloL at e
    cases q : cloB n i b.ops A with
    | none => rw [q] at e; cases e
    | some A1 => rw [q] at e; exact cloL_inv n r (i + 1) A1 A' (cloB_inv n i b.ops A A1 h q) e
theorem ArI.start (n : Nat) : ArI n (List.replicate n (-1)) := ⟨by simp, fun k x h => by
  rw [List.getElem?_replicate] at h
  split at h
  · exact .inl (Option.some.inj h).symm
  · cases h⟩
def gapA (A : List Int) : Bool := (A.drop 1).any (fun x => x == -1)
def upB (A : List Int) : Nat → Nat → Nat
  | 0, b => b
  | o + 1, b => if b = 0 then 0 else upB A o (A.getD b 0).toNat
theorem upB_zero (A : List Int) : ∀ o, upB A o 0 = 0
  | 0 => rfl
  | o + 1 => by simp [upB]
def argsF (l : List Blk) (A : List Int) : Nat → Nat → List Int
  | 0, _ => []
  | f + 1, b => if b = 0 then [] else (l.getD b ⟨0, []⟩).args :: argsF l A f (A.getD b 0).toNat
theorem argsF_at (l : List Blk) (A : List Int) (hA : ∀ k, 0 < k → k < l.length → 0 ≤ A.getD k 0 ∧ A.getD k 0 < (k : Int)) : ∀ (f b o : Nat), b ≤ f → b < l.length → (argsF l A f b)[o]? = if upB A o b = 0 then none else some (l.getD (upB A o b) ⟨0, []⟩).args
  | 0, b, o, hf, hb => by
    have : b = 0 := by omega
    subst this
    simp [argsF, upB_zero]
  | f + 1, b, o, hf, hb => by
    by_cases e : b = 0
    · subst e; simp [argsF, upB_zero]
    · have hq := hA b (by omega) hb
      unfold argsF
      rw [if_neg e]
      cases o with
      | zero => simp [upB, e]
      | succ o =>
        rw [List.getElem?_cons_succ, argsF_at l A hA f _ o (by omega) (by omega)]
        simp [upB, e]
theorem argsF_len (l : List Blk) (A : List Int) : ∀ (f b : Nat), (argsF l A f b).length ≤ f
  | 0, b => by simp [argsF]
  | f + 1, b => by
    unfold argsF
    split
    · simp
    · have := argsF_len l A f (A.getD b 0).toNat
      rw [List.length_cons]; omega
def outL (l : List Blk) (A : List Int) (i : Nat) (p : Int × Int) : Bool := upB A p.1.toNat i == 0 || decide ((l.getD (upB A p.1.toNat i) ⟨0, []⟩).args ≤ p.2)
def locsO (t : Opr) : List (Int × Int) := if t.kind = 2 ∨ t.kind = 14 ∨ t.kind = 16 then [(t.a, t.b)] else if t.kind = 15 then [(t.a, t.b), (t.c, t.d)] else []
def opLoc (l : List Blk) (A : List Int) (i : Nat) (t : Opr) : Int := if (locsO t).any (outL l A i) then 3 else if t.kind = 9 ∧ 0 < i then 1 else 0
def blkLoc (l : List Blk) (A : List Int) (i : Nat) : Int := firstC (opLoc l A i) (l.getD i ⟨0, []⟩).ops
def tailF (l : List Blk) : Int :=
  match cloL l.length 0 l (List.replicate l.length (-1)) with
  | none => 1
  | some A => if gapA A then 1 else firstC (blkLoc l A) (List.range l.length)
def headF (l : List Blk) : Bool := match l with | [] => true | b :: _ => b.args != 0
def codeF (ok : Bool) (l : List Blk) : Int := if codeFault9 l = 0 then (if headF l then 1 else if ok then tailF l else 1) else codeFault9 l
structure AllH (l : List Blk) (Hs : List (List Int)) : Prop where
  len : Hs.length = l.length
  at' : ∀ (k : Nat) (h : k < l.length), Holds l[k].ops (Hs.getD k [])
def OkR (l : List Blk) (ok : Bool) : Prop := ok = true ↔ ∀ b ∈ l, ∃ H, Holds b.ops H
theorem okR_some (l : List Blk) : ∃ ok, OkR l ok := by
  by_cases h : ∀ b ∈ l, ∃ H, Holds b.ops H
  · exact ⟨true, ⟨fun _ => h, fun _ => rfl⟩⟩
  · exact ⟨false, ⟨(fun e => by cases e), fun e => absurd e h⟩⟩
theorem OkR.no {l : List Blk} {ok : Bool} (h : OkR l ok) (k : Nat) (hk : k < l.length) (hn : ¬ ∃ H, Holds l[k].ops H) : ok = false := by
  cases ok
  · rfl
  · exact absurd (h.1 rfl _ (List.getElem_mem hk)) hn
theorem OkR.yes {l : List Blk} {ok : Bool} (h : OkR l ok) (hy : ∀ (k : Nat) (hk : k < l.length), k < l.length → ∃ H, Holds l[k].ops H) : ok = true :=
  h.2 fun b hb => by obtain ⟨k, hk, rfl⟩ := List.getElem_of_mem hb; exact hy k hk hk
theorem HRel.holds {b : Blk} {c : Int} {H : List Int} (hr : HRel b c H) (h0 : blkFault b = 0) : (c = 0 ∧ Holds b.ops H) ∨ (c = 1 ∧ H = [] ∧ ¬ ∃ H, Holds b.ops H) := by
  rcases hr with ⟨h, _⟩ | ⟨_, h1, h2, h3⟩ | ⟨_, h1, h2, h3⟩
  · exact absurd h0 h
  · exact .inl ⟨h1, h2, h3⟩
  · refine .inr ⟨h1, h2, fun ⟨H', h4, h5⟩ => ?_⟩
    rcases h3 with h3 | h3
    · rw [h4] at h3; cases h3
    · exact h3 ⟨H', h5⟩
def aroundR (ok : Bool) (l : List Blk) : Option (List Int) := if ok then (cloL l.length 0 l (List.replicate l.length (-1))).bind (fun A => if gapA A then none else some A) else none
theorem tailF_none {l : List Blk} (h : aroundR true l = none) : tailF l = 1 := by
  unfold aroundR at h
  unfold tailF
  cases e : cloL l.length 0 l (List.replicate l.length (-1)) with
  | none => rfl
  | some A =>
    rw [e] at h
    simp only [if_true, Option.bind_some] at h
    cases g : gapA A
    · rw [g] at h; simp at h
    · simp only; rw [g]; rfl
theorem tailF_some {l : List Blk} {A : List Int} (h : aroundR true l = some A) : tailF l = firstC (blkLoc l A) (List.range l.length) ∧ gapA A = false ∧ ArI l.length A := by
  unfold aroundR at h
  unfold tailF
  cases e : cloL l.length 0 l (List.replicate l.length (-1)) with
  | none => rw [e] at h; simp at h
  | some A' =>
    rw [e] at h
    simp only [if_true, Option.bind_some] at h
    cases g : gapA A'
    · rw [g] at h
      simp only [Bool.false_eq_true, if_false] at h
      obtain rfl := Option.some.inj h
      exact ⟨by simp only; rw [g]; rfl, g, cloL_inv l.length l 0 _ _ (ArI.start _) e⟩
    · rw [g] at h; simp at h
theorem gapA_hit {A : List Int} (k : Nat) (h0 : 1 ≤ k) (h : k < A.length) (hv : A.getD k 0 = -1) : gapA A = true := by
  unfold gapA
  rw [List.any_eq_true]
  refine ⟨A[k], ?_, ?_⟩
  · rw [List.mem_iff_getElem]
    obtain ⟨j, rfl⟩ : ∃ j, k = j + 1 := ⟨k - 1, by omega⟩
    exact ⟨j, by simp; omega, by simp⟩
  · have : A.getD k 0 = A[k] := by simp [h]
    rw [← this, hv]; rfl
theorem gapA_none {A : List Int} (h : ∀ k, 1 ≤ k → k < A.length → A.getD k 0 ≠ -1) : gapA A = false := by
  unfold gapA
  rw [List.any_eq_false]
  intro x hx
  rw [List.mem_iff_getElem] at hx
  obtain ⟨j, hj, rfl⟩ := hx
  have hj' : j + 1 < A.length := by simp at hj; omega
  have := h (j + 1) (by omega) hj'
  simp only [List.getD_eq_getElem?_getD, List.getElem?_eq_getElem hj', Option.getD_some] at this
  simpa using this
theorem gap_low {n : Nat} {A : List Int} (hA : ArI n A) (hg : gapA A = false) (k : Nat) (h0 : 0 < k) (hk : k < n) : 0 ≤ A.getD k 0 ∧ A.getD k 0 < (k : Int) := by
  have hl : k < A.length := by rw [hA.len]; exact hk
  have e : A[k]? = some (A.getD k 0) := by simp [hl]
  rcases hA.low k _ e with h | h
  · have := gapA_hit k (by omega) hl h
    rw [hg] at this; cases this
  · exact h
end Go.Proofs.YtoafolefecddmaaGreatDoor
namespace Go.Proofs.YtoafolefecddmaaGreatDoor
open Go.RowKit Go.Extern.Stop Go.Stop Go.Extern Num Go.Lib
theorem cloB_drop {n i : Nat} {l : List Opr} {A : List Int} (k : Nat) (h : k < l.length) (t : Opr) (ht : l[k]? = some t) : cloB n i (l.drop k) A = if t.kind = 4 then (if t.a ≤ (i : Int) ∨ (n : Int) ≤ t.a ∨ A.getD t.a.toNat 0 ≠ -1 then none else cloB n i (l.drop (k + 1)) (A.set t.a.toNat (i : Int))) else cloB n i (l.drop (k + 1)) A := by
  rw [List.drop_eq_getElem_cons h]
  have : l[k] = t := by rw [List.getElem?_eq_getElem h] at ht; exact Option.some.inj ht
  rw [this]
  rfl
theorem cloL_drop {n : Nat} {l : List Blk} {A : List Int} (i : Nat) (h : i < l.length) (b : Blk) (hb : l[i]? = some b) : cloL n i (l.drop i) A = (cloB n i b.ops A).bind (cloL n (i + 1) (l.drop (i + 1))) := by
  rw [List.drop_eq_getElem_cons h]
  have : l[i] = b := by rw [List.getElem?_eq_getElem h] at hb; exact Option.some.inj hb
  rw [this]
  rfl
def AnsAr (ok : Bool) (l : List Blk) (w : World) (e : Ending) (w' : World) : Prop :=
  ((aroundR ok l = none ∧ e = .returned (.tuple #[.slice none 0 0, .int .i64 1])) ∨ (∃ A g cap, aroundR ok l = some A ∧ e = .returned (.tuple #[.slice (some ⟨g, 0, none⟩) l.length cap, .int .i64 0]) ∧ w'.ownsRow w.heap.size 2 1 (.slice (some ⟨g, 0, none⟩) l.length cap) l.length (cellsI A))) ∧ Below w.heap.size w w'
theorem ArI.own {w : World} {base g cap n : Nat} {A : List Int} (hA : A.length = n) (h : w.ownsRow base 2 1 (.slice (some ⟨g, 0, none⟩) n cap) n (cellsI A)) (k : Nat) (hk : k < n) : w.cell? ⟨g, k, none⟩ = some (.int .i64 (A.getD k 0)) := by
  have hk' : k < A.length := by omega
  have := rowI_at (by rw [hA]; exact h) k hk'
  rw [this]; simp [hk']
set_option maxRecDepth 100000 in
set_option maxHeartbeats 4000000 in
theorem l10Around_any (g cap B : Nat) (l : List Blk) (ok : Bool) (w : World) (hl0 : 0 < l.length) (hl : l.length ≤ 60) (hz : ∀ (k : Nat) (h : k < l.length), l[k].small) (hB : RowBl w B g l) (hf : ∀ (k : Nat) (h : k < l.length), blkFault l[k] = 0) (hok : OkR l ok) :
    Calls Tryz.prog 78 #[.slice (some ⟨g, 0, none⟩) l.length cap] w fun e w' => AnsAr ok l w e w' := by
  have HB : Hid (RowBl w B g l) := hB
  have HZ : Hid (∀ (k : Nat) (h : k < l.length), l[k].small) := hz
  have HF : Hid (∀ (k : Nat) (h : k < l.length), blkFault l[k] = 0) := hf
  have HOk : Hid (OkR l ok) := hok
  have HNo : Hid (aroundR ok l = none → ∀ u, Below w.heap.size w u → AnsAr ok l w (.returned (.tuple #[.slice none 0 0, .int .i64 1])) u) := fun h u hu => ⟨.inl ⟨h, rfl⟩, hu⟩
  have HNone : Hid (cloL l.length 0 l (List.replicate l.length (-1)) = none → aroundR ok l = none) := fun h => by unfold aroundR; rw [h]; cases ok <;> rfl
  obtain ⟨R, hR⟩ : ∃ R, R = cloL l.length 0 l (List.replicate l.length (-1)) := ⟨_, rfl⟩
  have HR : Hid (cloL l.length 0 l (List.replicate l.length (-1)) = R) := hR.symm
  rw [← hR] at HNone
  obtain ⟨i0, hi, hz0, hz1, hz2⟩ := info_parts infoI
  clear hB hz hf hok hR
  go_enter Tryz.func78, Tryz.ntmps78
  go_wp2_with fail
  go_loopw [4, 5] (fun v i wx => ∃ (j gh cp : Nat), j ≤ l.length ∧ v = .slice (some ⟨gh, 0, none⟩) j cp ∧ i = .int .i64 (j : Int) ∧ Hid (wx.ownsRow w.heap.size 2 1 (.slice (some ⟨gh, 0, none⟩) j cp) j (cellsI (List.replicate j (-1)))) ∧ Hid (Below w.heap.size w wx)) (fun _ i _ => l.length - (RowKit.intOf i).toNat)
  case atStart =>
    refine ⟨0, w.heap.size, 0, Nat.zero_le _, rfl, rfl, ?_, (Below.refl _ _).alloc (Nat.le_refl _) _⟩
    exact ⟨by simp [cellsI], .inr ⟨w.heap.size, 0, _, rfl, Nat.le_refl _, heap_alloc_new w _, Nat.le_refl _, by unfold maxLen; omega, by simp, by simp [cellsI]⟩⟩
  case round =>
    obtain ⟨j, gh, cp, hj, rfl, rfl, HO2, HBx⟩ := hrel
    have hzx : w.heap.size ≤ wr.heap.size := HBx.out.size
    by_cases hlt : j < l.length
    · go_wp2_with (at_builtin; refine wpList_append_lies _ rfl (.tmp 19) (.tmp 20) 78 rfl w.heap.size 2 i0 _ 1 8 Tryz.underlying78 hi hz0 hz1 hz2 rfl (by decide) _ j (cellsI (List.replicate j (-1))) rfl (HO2.out.alloc _) ⟨_, 0, none⟩ 1 1 [.int .i64 (-1)] rfl rfl ?c1 ?c2 (by decide) ?c3 ?c4 ?c5 _ rfl ?_)
      case c1 => exact newsI (heap_new' _ _ _ (by simp))
      case c2 => intro u hu; simp at hu; subst hu; rfl
      case c3 => unfold maxLen; omega
      case c4 => omega
      case c5 => simp; omega
      intro g' cap' w4 hown1 hgrow1 _ _
      have HO4 : Hid (w4.ownsRow w.heap.size 2 1 (.slice (some ⟨g', 0, none⟩) (j + 1) cap') (j + 1) (cellsI (List.replicate (j + 1) (-1)))) := by
        rw [List.replicate_succ', cellsI_append]
        exact hown1
      have HB4 : Hid (Below w.heap.size w w4) := (HBx.out.alloc hzx _).grown hgrow1 (by simp; omega) (fun k hk => (HO2.out.lt k hk).1)
      clear hown1 hgrow1
      go_wp2
      exact ⟨⟨j + 1, g', cap', by omega, rfl, by go_num, HO4.out, HB4.out⟩, by simp [RowKit.intOf]; omega⟩
    · have e : j = l.length := by omega
      subst e
      go_wp2_with fail
      go_loopw [6] (fun i wy => ∃ (j : Nat) (A : List Int), j ≤ l.length ∧ i = .int .i64 (j : Int) ∧ Hid (cloL l.length j (l.drop j) A = R ∧ ArI l.length A) ∧ Hid (∀ (k : Nat) (hk : k < l.length), k < j → ∃ H, Holds l[k].ops H) ∧ Hid (wy.ownsRow w.heap.size 2 1 (.slice (some ⟨gh, 0, none⟩) l.length cp) l.length (cellsI A)) ∧ Hid (Below w.heap.size w wy)) (fun i _ => l.length - (RowKit.intOf i).toNat)
      case atStart => exact ⟨0, List.replicate l.length (-1), Nat.zero_le _, rfl, ⟨by rw [List.drop_zero]; exact HR.out, ArI.start _⟩, fun k _ hk => by omega, HO2.out, HBx.out⟩
      case round =>
        obtain ⟨j, A, hj, rfl, HA, HH, HO3, HB3⟩ := hrel
        by_cases hlt : j < l.length
        · obtain ⟨p0, gx, p1, hio⟩ := HB.out j hlt
          obtain ⟨b, hb⟩ : ∃ b, b = l[j]'hlt := ⟨_, rfl⟩
          have hsm := HZ.out j hlt
          have hf0 := HF.out j hlt
          rw [← hb] at p0 p1 hio hsm hf0
          have HBj : Hid (l[j]? = some b) := by show _ = _; rw [hb]; exact List.getElem?_eq_getElem hlt
          have HBe : Hid (l[j]'hlt = b) := hb.symm
          have HP : Hid (∀ u, Below w.heap.size w u → u.cell? ⟨g, j * 2, none⟩ = some (.int .i64 b.args) ∧ u.cell? ⟨g, j * 2 + 1, none⟩ = some (.slice (some ⟨gx, 0, none⟩) b.ops.length b.ops.length) ∧ RowOp u B gx b.ops) := fun u hu => ⟨cell_keep hu p0, cell_keep hu p1, (hio.below hu).row⟩
          obtain ⟨c, H, hr⟩ := HRel.some b
          have HHt : Hid (Calls Tryz.prog 112 #[.pointer (some ⟨g, j * 2, none⟩)] wr fun e w' => AnsH c H wr e w') := l10Heights_any b c H B g (j * 2) gx wr hsm (HP.out wr HB3.out).1 (HP.out wr HB3.out).2.1 (HP.out wr HB3.out).2.2 hr
          have HC := hr.holds hf0
          have hol : b.ops.length ≤ 200 := (blk_ops hf0).1
          have HBd : Hid (∀ t ∈ b.ops, OpBnd t) := fun t ht => opBnd ((blk_ops hf0).2.1 t ht)
          clear p0 p1 hio hsm hf0 hb hr
          go_wp2_with fail
          refine HHt.out.mono ?_
          rintro e w1 ⟨aH, cH, rfl, -, b1⟩
          have HB4 : Hid (Below w.heap.size w w1) := HB3.out.trans (b1.mono HB3.out.size)
          have HO4 : Hid (w1.ownsRow w.heap.size 2 1 (.slice (some ⟨gh, 0, none⟩) l.length cp) l.length (cellsI A)) := own_below HO3.out b1
          clear b1 HHt
          rcases HC with ⟨hc, hh⟩ | ⟨hc, -, hh⟩
          · subst hc
            have HH2 : Hid (∀ (k : Nat) (hk : k < l.length), k < j + 1 → ∃ H, Holds l[k].ops H) := fun k hk hkj => by
              by_cases e : k < j
              · exact HH.out k hk e
              · have : k = j := by omega
                subst this
                exact ⟨H, by rw [HBe.out]; exact hh⟩
            have HA2 : Hid ((cloB l.length j b.ops A).bind (cloL l.length (j + 1) (l.drop (j + 1))) = R ∧ ArI l.length A) := ⟨by rw [← cloL_drop j hlt b HBj.out]; exact HA.out.1, HA.out.2⟩
            clear hh HH HA HO3 HB3
            go_wp2_with fail
            go_loopw [9] (fun i wz => ∃ (k : Nat) (A : List Int), k ≤ b.ops.length ∧ i = .int .i64 (k : Int) ∧ Hid ((cloB l.length j (b.ops.drop k) A).bind (cloL l.length (j + 1) (l.drop (j + 1))) = R ∧ ArI l.length A) ∧ Hid (wz.ownsRow w.heap.size 2 1 (.slice (some ⟨gh, 0, none⟩) l.length cp) l.length (cellsI A)) ∧ Hid (Below w.heap.size w wz)) (fun i _ => b.ops.length - (RowKit.intOf i).toNat)
            case atStart => exact ⟨0, A, Nat.zero_le _, rfl, by rw [List.drop_zero]; exact HA2.out, HO4.out, HB4.out⟩
            case round =>
              obtain ⟨k, A, hk, rfl, HA, HO5, HB5⟩ := hrel
              obtain ⟨-, s1, hro⟩ := HP.out wr HB5.out
              by_cases hlk : k < b.ops.length
              · obtain ⟨gy, hop⟩ := hro.at k hlk
                obtain ⟨t, ht⟩ : ∃ t, t = b.ops[k]'hlk := ⟨_, rfl⟩
                rw [← ht] at hop
                have hbt : OpBnd t := HBd.out t (by rw [ht]; exact List.getElem_mem hlk)
                have HD := cloB_drop (n := l.length) (i := j) (A := A) k hlk t (by rw [ht]; exact List.getElem?_eq_getElem hlk)
                obtain ⟨c0, c1, _, _, _, _, _, _⟩ := hop
                clear ht hro
                cases k4 : (t.kind == 4)
                · have HA3 : Hid ((cloB l.length j (b.ops.drop (k + 1)) A).bind (cloL l.length (j + 1) (l.drop (j + 1))) = R ∧ ArI l.length A) := by
                    rw [if_neg (by intro e; rw [e] at k4; cases k4)] at HD
                    rw [← HD]; exact HA.out
                  have k4' : (t.kind != 4) = true := by rw [bne, k4]; rfl
                  clear HD HA
                  go_wp2
                  exact ⟨⟨k + 1, A, by omega, by go_num, HA3.out, HO5.out, HB5.out⟩, by simp [RowKit.intOf]; omega⟩
                · rw [if_pos (by simpa using k4)] at HD
                  have k4' : (t.kind != 4) = false := by rw [bne, k4]; rfl
                  have ha1 := hbt.a1
                  have ha2 := hbt.a2
                  obtain ⟨a, hae⟩ : ∃ a : Nat, t.a = (a : Int) := ⟨t.a.toNat, by omega⟩
                  rw [hae] at c1 HD ha2
                  rw [Int.toNat_natCast] at HD
                  clear hae ha1 k4
                  by_cases hx : (a : Int) ≤ (j : Int)
                  · have HX : Hid (AnsAr ok l w (.returned (.tuple #[.slice none 0 0, .int .i64 1])) wr) := by
                      rw [if_pos (.inl hx)] at HD
                      refine HNo.out (HNone.out ?_) wr HB5.out
                      rw [← HA.out.1, HD]; rfl
                    clear HD HA
                    go_wp2
                    exact bodyPost_ret (v := .tuple #[.slice none 0 0, .int .i64 1]) (by simp [results, Tryz.results78, go_sem]) rfl HX.out
                  by_cases hy : (l.length : Int) ≤ (a : Int)
                  · have HX : Hid (AnsAr ok l w (.returned (.tuple #[.slice none 0 0, .int .i64 1])) wr) := by
                      rw [if_pos (.inr (.inl hy))] at HD
                      refine HNo.out (HNone.out ?_) wr HB5.out
                      rw [← HA.out.1, HD]; rfl
                    clear HD HA
                    go_wp2
                    exact bodyPost_ret (v := .tuple #[.slice none 0 0, .int .i64 1]) (by simp [results, Tryz.results78, go_sem]) rfl HX.out
                  have hal : a < l.length := by omega
                  have q0 := ArI.own HA.out.2.len HO5.out a hal
                  have qf : wr.frozen? ⟨gh, a, none⟩ = false := own_frozen HO5.out a
                  obtain ⟨x, hxe⟩ : ∃ x, x = A.getD a 0 := ⟨_, rfl⟩
                  rw [← hxe] at q0 HD
                  have hxl : x = -1 ∨ 0 ≤ x := by
                    have hl2 : a < A.length := by rw [HA.out.2.len]; exact hal
                    have e2 : A[a]? = some x := by rw [hxe]; simp [hl2]
                    rcases HA.out.2.low a x e2 with h | h
                    · exact .inl h
                    · exact .inr h.1
                  clear hxe
                  rcases hxl with hxm | hxp
                  · subst hxm
                    rw [if_neg (by simp; omega)] at HD
                    have HA3 : Hid ((cloB l.length j (b.ops.drop (k + 1)) (A.set a (j : Int))).bind (cloL l.length (j + 1) (l.drop (j + 1))) = R ∧ ArI l.length (A.set a (j : Int))) := ⟨by rw [← HD]; exact HA.out.1, HA.out.2.put (by omega)⟩
                    have HO6 : Hid ((wr.setCell ⟨gh, a, none⟩ (.int .i64 (j : Int))).ownsRow w.heap.size 2 1 (.slice (some ⟨gh, 0, none⟩) l.length cp) l.length (cellsI (A.set a (j : Int)))) := by
                      have := own_put HO5.out a (.int .i64 (j : Int))
                      rwa [show (cellsI A).set a (.int .i64 (j : Int)) = cellsI (A.set a (j : Int)) by simp [cellsI, List.map_set]] at this
                    have HB6 : Hid (Below w.heap.size w (wr.setCell ⟨gh, a, none⟩ (.int .i64 (j : Int)))) := HB5.out.setCell (HO5.out.lt gh rfl).1 _
                    clear HD HA
                    go_wp2
                    exact ⟨⟨k + 1, A.set a (j : Int), by omega, by go_num, HA3.out, HO6.out, HB6.out⟩, by simp [RowKit.intOf]; omega⟩
                  · have HX : Hid (AnsAr ok l w (.returned (.tuple #[.slice none 0 0, .int .i64 1])) wr) := by
                      rw [if_pos (.inr (.inr (by omega)))] at HD
                      refine HNo.out (HNone.out ?_) wr HB5.out
                      rw [← HA.out.1, HD]; rfl
                    clear HD HA
                    go_wp2
                    exact bodyPost_ret (v := .tuple #[.slice none 0 0, .int .i64 1]) (by simp [results, Tryz.results78, go_sem]) rfl HX.out
              · have HA3 : Hid (cloL l.length (j + 1) (l.drop (j + 1)) A = R ∧ ArI l.length A) := by
                  have := HA.out
                  rw [List.drop_of_length_le (by omega)] at this
                  exact this
                clear HA hro
                go_wp2
                exact ⟨⟨j + 1, A, by omega, by go_num, HA3.out, HH2.out, HO5.out, HB5.out⟩, by simp [RowKit.intOf]; omega⟩
          · subst hc
            have HX : Hid (AnsAr ok l w (.returned (.tuple #[.slice none 0 0, .int .i64 1])) w1) := by
              have hno : ok = false := HOk.out.no j hlt (by rw [HBe.out]; exact hh)
              exact HNo.out (by rw [hno]; rfl) w1 HB4.out
            clear hh HA HH
            go_wp2
            exact bodyPost_ret (v := .tuple #[.slice none 0 0, .int .i64 1]) (by simp [results, Tryz.results78, go_sem]) rfl HX.out
        · have e : j = l.length := by omega
          subst e
          have HYes : Hid (ok = true) := HOk.out.yes (fun k hk _ => HH.out k hk hk)
          have HA2 : Hid (some A = R ∧ ArI l.length A) := by
            have := HA.out
            rw [List.drop_of_length_le (Nat.le_refl _)] at this
            exact this
          clear HA HH
          go_wp2_with fail
          go_loopw [11] (fun i wz => ∃ k : Nat, 1 ≤ k ∧ k ≤ l.length ∧ i = .int .i64 (k : Int) ∧ Hid (∀ q, 1 ≤ q → q < k → A.getD q 0 ≠ -1) ∧ wz = wr) (fun i _ => l.length - (RowKit.intOf i).toNat)
          case atStart => exact ⟨1, Nat.le_refl _, by omega, rfl, fun q h1 h2 => by omega, rfl⟩
          case round =>
            obtain ⟨k, hk1, hk2, rfl, HG, hw⟩ := hrel
            subst hw
            by_cases hlt2 : k < l.length
            · have q0 := ArI.own HA2.out.2.len HO3.out k hlt2
              obtain ⟨x, hxe⟩ : ∃ x, x = A.getD k 0 := ⟨_, rfl⟩
              rw [← hxe] at q0
              have hkA : k < A.length := by rw [HA2.out.2.len]; exact hlt2
              have hxl : x = -1 ∨ 0 ≤ x := by
                have e2 : A[k]? = some x := by rw [hxe]; simp [hkA]
                rcases HA2.out.2.low k x e2 with h | h
                · exact .inl h
                · exact .inr h.1
              have HXe : Hid (A.getD k 0 = x) := hxe.symm
              clear hxe
              rcases hxl with hxm | hxp
              · subst hxm
                have HX : Hid (AnsAr ok l w (.returned (.tuple #[.slice none 0 0, .int .i64 1])) wr) := by
                  refine HNo.out ?_ wr HB3.out
                  unfold aroundR
                  rw [HR.out, HYes.out, ← HA2.out.1]
                  simp only [if_true, Option.bind_some]
                  rw [gapA_hit k hk1 hkA HXe.out]; rfl
                clear HG
                go_wp2
                exact bodyPost_ret (v := .tuple #[.slice none 0 0, .int .i64 1]) (by simp [results, Tryz.results78, go_sem]) rfl HX.out
              · have HG2 : Hid (∀ q, 1 ≤ q → q < k + 1 → A.getD q 0 ≠ -1) := fun q h1 h2 => by
                  by_cases e : q < k
                  · exact HG.out q h1 e
                  · have : q = k := by omega
                    subst this
                    rw [HXe.out]; omega
                clear HG
                go_wp2
                exact ⟨⟨k + 1, by omega, by omega, by go_num, HG2.out, by trivial⟩, by simp [RowKit.intOf]; omega⟩
            · have HX : Hid (AnsAr ok l w (.returned (.tuple #[.slice (some ⟨gh, 0, none⟩) l.length cp, .int .i64 0])) wr) := by
                refine ⟨.inr ⟨A, gh, cp, ?_, rfl, HO3.out⟩, HB3.out⟩
                unfold aroundR
                rw [HR.out, HYes.out, ← HA2.out.1]
                simp only [if_true, Option.bind_some]
                rw [gapA_none (fun q h1 h2 => HG.out q h1 (by rw [HA2.out.2.len] at h2; omega))]; rfl
              clear HG
              go_wp2
              exact bodyPost_ret (v := .tuple #[.slice (some ⟨gh, 0, none⟩) l.length cp, .int .i64 0]) (by simp [results, Tryz.results78, go_sem]) rfl HX.out
set_option maxRecDepth 100000 in
set_option maxHeartbeats 1000000 in
theorem l10Local_any (g cap B gA cA base : Nat) (l : List Blk) (A : List Int) (i : Nat) (o x : Int) (w : World) (hi : i < l.length) (ho0 : 0 ≤ o) (ho1 : o ≤ 999) (hB : RowBl w B g l) (hAr : w.ownsRow base 2 1 (.slice (some ⟨gA, 0, none⟩) l.length cA) l.length (cellsI A)) (hA : ∀ k, 0 < k → k < l.length → 0 ≤ A.getD k 0 ∧ A.getD k 0 < (k : Int)) :
    Calls Tryz.prog 113 #[.slice (some ⟨g, 0, none⟩) l.length cap, .slice (some ⟨gA, 0, none⟩) l.length cA, .int .i64 (i : Int), .int .i64 o, .int .i64 x] w fun e w' => e = .returned (.bool (!(outL l A i (o, x)))) ∧ w' = w := by
  have HB : Hid (RowBl w B g l) := hB
  have HAr : Hid (w.ownsRow base 2 1 (.slice (some ⟨gA, 0, none⟩) l.length cA) l.length (cellsI A)) := hAr
  have HA : Hid (∀ k, 0 < k → k < l.length → 0 ≤ A.getD k 0 ∧ A.getD k 0 < (k : Int)) := hA
  have hAl : A.length = l.length := by have := hAr.1; simpa [cellsI] using this
  have HAl : Hid (A.length = l.length) := hAl
  obtain ⟨R, hR⟩ : ∃ R, R = !(outL l A i (o, x)) := ⟨_, rfl⟩
  rw [← hR]
  obtain ⟨U, hU⟩ : ∃ U, U = upB A o.toNat i := ⟨_, rfl⟩
  have HR : Hid (R = !(U == 0 || decide ((l.getD U ⟨0, []⟩).args ≤ x))) := by show _ = _; rw [hR, hU]; rfl
  obtain ⟨p, rfl⟩ : ∃ p : Nat, o = (p : Int) := ⟨o.toNat, by omega⟩
  rw [Int.toNat_natCast] at hU
  have HU : Hid (upB A p i = U) := hU.symm
  clear hB hAr hA hR hU hAl ho0
  go_enter Tryz.func113, Tryz.ntmps113
  go_wp2_with fail
  go_loopw [2, 3] (fun v u wr => ∃ (j q : Nat), j < l.length ∧ q ≤ 999 ∧ v = .int .i64 (j : Int) ∧ u = .int .i64 (q : Int) ∧ Hid (upB A q j = U) ∧ wr = w) (fun _ u _ => (RowKit.intOf u).toNat)
  case atStart => exact ⟨i, p, hi, by omega, rfl, rfl, HU.out, rfl⟩
  case round =>
    obtain ⟨j, q, hj, hq, rfl, rfl, HUq, hw⟩ := hrel
    subst hw
    by_cases hz : j = 0
    · subst hz
      have HF : Hid (R = false) := by
        have : U = 0 := by rw [← HUq.out]; exact upB_zero A q
        show _ = _; rw [HR.out, this]; rfl
      by_cases hq0 : q = 0
      · subst hq0
        go_wp2
        go_ret
        exact ⟨by rw [HF.out]; rfl, rfl⟩
      · have hqp : 0 < q := by omega
        go_wp2
        go_ret
        exact ⟨by rw [HF.out]; rfl, rfl⟩
    · have hjp : 0 < j := by omega
      obtain ⟨y, hy⟩ : ∃ y, j = y + 1 := ⟨j - 1, by omega⟩
      by_cases hq0 : q = 0
      · subst hq0
        have HUj : Hid (U = j) := HUq.out.symm
        obtain ⟨p0, -, -, -⟩ := HB.out j hj
        have hd : l.getD j ⟨0, []⟩ = l[j]'hj := by simp [hj]
        obtain ⟨a, ha⟩ : ∃ a, a = (l[j]'hj).args := ⟨_, rfl⟩
        rw [← ha] at p0
        have HF : Hid (R = decide (x < a)) := by
          show _ = _
          rw [HR.out, HUj.out, hd, ← ha]
          have e : (j == 0) = false := by rw [beq_eq_false_iff_ne]; exact hz
          rw [e, Bool.false_or]
          by_cases h : a ≤ x
          · simp [h]
          · simp [h]; omega
        clear ha hd hz
        subst hy
        go_wp2
        go_ret
        exact ⟨by rw [HF.out]; rfl, rfl⟩
      · obtain ⟨z, hzq⟩ : ∃ z, q = z + 1 := ⟨q - 1, by omega⟩
        have q0 := ArI.own HAl.out HAr.out j hj
        have hb := HA.out j hjp hj
        obtain ⟨m, hm⟩ : ∃ m : Nat, A.getD j 0 = (m : Int) := ⟨(A.getD j 0).toNat, by omega⟩
        rw [hm] at q0 hb
        have HU2 : Hid (upB A z m = U) := by
          show _ = _
          rw [← HUq.out, hzq, upB, if_neg hz, hm, Int.toNat_natCast]
        clear hm hz hq0
        subst hzq
        subst hy
        go_wp2
        exact ⟨⟨m, z, by omega, by omega, rfl, by go_num, HU2.out, by trivial⟩, by simp [RowKit.intOf]⟩
set_option maxRecDepth 100000 in
set_option maxHeartbeats 4000000 in
theorem l10Locals_any (g cap B gA cA base : Nat) (l : List Blk) (A : List Int) (i : Nat) (b : Blk) (w : World) (hi : i < l.length) (hbi : l[i]? = some b) (hf : blkFault b = 0) (hB : RowBl w B g l) (hAr : w.ownsRow base 2 1 (.slice (some ⟨gA, 0, none⟩) l.length cA) l.length (cellsI A)) (hA : ∀ k, 0 < k → k < l.length → 0 ≤ A.getD k 0 ∧ A.getD k 0 < (k : Int)) :
    Calls Tryz.prog 79 #[.slice (some ⟨g, 0, none⟩) l.length cap, .slice (some ⟨gA, 0, none⟩) l.length cA, .int .i64 (i : Int)] w fun e w' => e = .returned (.int .i64 (firstC (opLoc l A i) b.ops)) ∧ Below w.heap.size w w' := by
  have hbe : l[i]'hi = b := by rw [List.getElem?_eq_getElem hi] at hbi; exact Option.some.inj hbi
  obtain ⟨-, gx, p1, hio⟩ := hB i hi
  rw [hbe] at p1 hio
  have HP : Hid (∀ u, Below w.heap.size w u → u.cell? ⟨g, i * 2 + 1, none⟩ = some (.slice (some ⟨gx, 0, none⟩) b.ops.length b.ops.length) ∧ RowOp u B gx b.ops) := fun u hu => ⟨cell_keep hu p1, (hio.below hu).row⟩
  have hol : b.ops.length ≤ 200 := (blk_ops hf).1
  have HBd : Hid (∀ t ∈ b.ops, OpBnd t) := fun t ht => opBnd ((blk_ops hf).2.1 t ht)
  have HLo : Hid (∀ u, Below w.heap.size w u → ∀ (o x : Int), 0 ≤ o → o ≤ 999 → Calls Tryz.prog 113 #[.slice (some ⟨g, 0, none⟩) l.length cap, .slice (some ⟨gA, 0, none⟩) l.length cA, .int .i64 (i : Int), .int .i64 o, .int .i64 x] u fun e w' => e = .returned (.bool (!(outL l A i (o, x)))) ∧ Below u.heap.size u w') := fun u hu o x h0 h1 =>
    (l10Local_any g cap B gA cA base l A i o x u hi h0 h1 (hB.below hu) (own_below hAr hu) hA).mono fun e w' ⟨h1, h2⟩ => ⟨h1, by rw [h2]; exact Below.refl _ _⟩
  obtain ⟨R, hR⟩ : ∃ R, R = firstC (opLoc l A i) b.ops := ⟨_, rfl⟩
  rw [← hR]
  have HR : Hid (R = firstC (opLoc l A i) b.ops) := hR
  clear hR hbe hbi p1 hio hB hAr hA hf
  go_enter Tryz.func79, Tryz.ntmps79
  go_wp2_with fail
  go_loopw [7] (fun v wr => ∃ k : Nat, k ≤ b.ops.length ∧ v = .int .i64 (k : Int) ∧ Hid (∀ (q : Nat) (h : q < b.ops.length), q < k → opLoc l A i b.ops[q] = 0) ∧ Hid (Below w.heap.size w wr)) (fun v _ => b.ops.length - (RowKit.intOf v).toNat)
  case atStart => exact ⟨0, Nat.zero_le _, rfl, fun q _ hq => by omega, Below.refl _ _⟩
  case round =>
    obtain ⟨k, hk, rfl, HJ, HB⟩ := hrel
    obtain ⟨s1, hro⟩ := HP.out wr HB.out
    by_cases hlk : k < b.ops.length
    · obtain ⟨gy, hop⟩ := hro.at k hlk
      obtain ⟨t, ht⟩ : ∃ t, t = b.ops[k]'hlk := ⟨_, rfl⟩
      rw [← ht] at hop
      have hbt : OpBnd t := HBd.out t (by rw [ht]; exact List.getElem_mem hlk)
      have HTe : Hid (b.ops[k]'hlk = t) := ht.symm
      obtain ⟨c0, c1, c2, c3, c4, _, _, _⟩ := hop
      have a1 : ∀ p : BW wr, p.x.cell? ⟨gx, k * 7 + 1, none⟩ = some (.int .i64 t.a) := fun p => p.cell c1
      have a2 : ∀ p : BW wr, p.x.cell? ⟨gx, k * 7 + 2, none⟩ = some (.int .i64 t.b) := fun p => p.cell c2
      have a3 : ∀ p : BW wr, p.x.cell? ⟨gx, k * 7 + 3, none⟩ = some (.int .i64 t.c) := fun p => p.cell c3
      have a4 : ∀ p : BW wr, p.x.cell? ⟨gx, k * 7 + 4, none⟩ = some (.int .i64 t.d) := fun p => p.cell c4
      have hne := bw_some wr
      clear ht hro
      rcases hbt.kinds with k0 | k0 | k0 | k0 | k0 | k0 | k0 | k0 | k0 | k0 | k0 | k0 | k0 | k0 | k0 | k0
      · have K0 : Hid (t.kind = 1) := k0
        rw [k0] at c0
        clear k0
        have HO0 : Hid (opLoc l A i t = 0) := by show _ = _; unfold opLoc locsO; rw [K0.out]; simp
        have HJ2 : Hid (∀ (q : Nat) (h : q < b.ops.length), q < k + 1 → opLoc l A i b.ops[q] = 0) := fun q hq hqk => by
          by_cases e : q < k
          · exact HJ.out q hq e
          · have : q = k := by omega
            subst this; rw [HTe.out]; exact HO0.out
        clear HJ
        go_wp2
        exact ⟨⟨k + 1, by omega, by go_num, HJ2.out, HB.out⟩, by simp [RowKit.intOf]; omega⟩
      · have K0 : Hid (t.kind = 2) := k0
        rw [k0] at c0
        clear k0
        obtain ⟨D, hD⟩ : ∃ D, D = outL l A i (t.a, t.b) := ⟨_, rfl⟩
        have HD : Hid (outL l A i (t.a, t.b) = D) := hD.symm
        have H1 : Hid (∀ p : BW wr, Calls Tryz.prog 113 #[.slice (some ⟨g, 0, none⟩) l.length cap, .slice (some ⟨gA, 0, none⟩) l.length cA, .int .i64 (i : Int), .int .i64 t.a, .int .i64 t.b] p.x fun e w' => e = .returned (.bool (!D)) ∧ Below p.x.heap.size p.x w') := fun p => by rw [hD]; exact HLo.out p.x (HB.out.trans (p.h.mono HB.out.size)) t.a t.b hbt.a1 hbt.a2
        clear hD
        cases D
        · have HO0 : Hid (opLoc l A i t = 0) := by show _ = _; unfold opLoc locsO; rw [K0.out]; simp [HD.out]
          go_wp2_with fail
          refine wp_region_below (by kernel_rfl) (by kernel_rfl) ?_
          repeat (go_big_quiet_step ((go_at_call 113; exact calls_bw (H1.out _))))
          refine wpQuiet_nil ?_
          intro wq hw'
          obtain ⟨⟨_, bq⟩, rfl⟩ := hw'
          have HB2 : Hid (Below w.heap.size w wq) := HB.out.trans (bq.mono HB.out.size)
          clear bq
          clear H1
          have HJ2 : Hid (∀ (q : Nat) (h : q < b.ops.length), q < k + 1 → opLoc l A i b.ops[q] = 0) := fun q hq hqk => by
            by_cases e : q < k
            · exact HJ.out q hq e
            · have : q = k := by omega
              subst this; rw [HTe.out]; exact HO0.out
          clear HJ
          go_wp2
          exact ⟨⟨k + 1, by omega, by go_num, HJ2.out, HB2.out⟩, by simp [RowKit.intOf]; omega⟩
        · have HO0 : Hid (opLoc l A i t = 3) := by show _ = _; unfold opLoc locsO; rw [K0.out]; simp [HD.out]
          go_wp2_with fail
          refine wp_region_below (by kernel_rfl) (by kernel_rfl) ?_
          repeat (go_big_quiet_step ((go_at_call 113; exact calls_bw (H1.out _))))
          refine wpQuiet_nil ?_
          intro wq hw'
          obtain ⟨⟨_, bq⟩, rfl⟩ := hw'
          have HB2 : Hid (Below w.heap.size w wq) := HB.out.trans (bq.mono HB.out.size)
          clear bq
          clear H1
          have HF : Hid (R = 3) := by show _ = _; rw [HR.out, firstC_hit b.ops k hlk HJ.out (by rw [HTe.out, HO0.out]; decide), HTe.out, HO0.out]
          clear HJ HR
          go_wp2
          go_ret
          exact ⟨by rw [HF.out]; rfl, HB2.out⟩
      · have K0 : Hid (t.kind = 3) := k0
        rw [k0] at c0
        clear k0
        have HO0 : Hid (opLoc l A i t = 0) := by show _ = _; unfold opLoc locsO; rw [K0.out]; simp
        have HJ2 : Hid (∀ (q : Nat) (h : q < b.ops.length), q < k + 1 → opLoc l A i b.ops[q] = 0) := fun q hq hqk => by
          by_cases e : q < k
          · exact HJ.out q hq e
          · have : q = k := by omega
            subst this; rw [HTe.out]; exact HO0.out
        clear HJ
        go_wp2
        exact ⟨⟨k + 1, by omega, by go_num, HJ2.out, HB.out⟩, by simp [RowKit.intOf]; omega⟩
      · have K0 : Hid (t.kind = 4) := k0
        rw [k0] at c0
        clear k0
        have HO0 : Hid (opLoc l A i t = 0) := by show _ = _; unfold opLoc locsO; rw [K0.out]; simp
        have HJ2 : Hid (∀ (q : Nat) (h : q < b.ops.length), q < k + 1 → opLoc l A i b.ops[q] = 0) := fun q hq hqk => by
          by_cases e : q < k
          · exact HJ.out q hq e
          · have : q = k := by omega
            subst this; rw [HTe.out]; exact HO0.out
        clear HJ
        go_wp2
        exact ⟨⟨k + 1, by omega, by go_num, HJ2.out, HB.out⟩, by simp [RowKit.intOf]; omega⟩
      · have K0 : Hid (t.kind = 5) := k0
        rw [k0] at c0
        clear k0
        have HO0 : Hid (opLoc l A i t = 0) := by show _ = _; unfold opLoc locsO; rw [K0.out]; simp
        have HJ2 : Hid (∀ (q : Nat) (h : q < b.ops.length), q < k + 1 → opLoc l A i b.ops[q] = 0) := fun q hq hqk => by
          by_cases e : q < k
          · exact HJ.out q hq e
          · have : q = k := by omega
            subst this; rw [HTe.out]; exact HO0.out
        clear HJ
        go_wp2
        exact ⟨⟨k + 1, by omega, by go_num, HJ2.out, HB.out⟩, by simp [RowKit.intOf]; omega⟩
      · have K0 : Hid (t.kind = 6) := k0
        rw [k0] at c0
        clear k0
        have HO0 : Hid (opLoc l A i t = 0) := by show _ = _; unfold opLoc locsO; rw [K0.out]; simp
        have HJ2 : Hid (∀ (q : Nat) (h : q < b.ops.length), q < k + 1 → opLoc l A i b.ops[q] = 0) := fun q hq hqk => by
          by_cases e : q < k
          · exact HJ.out q hq e
          · have : q = k := by omega
            subst this; rw [HTe.out]; exact HO0.out
        clear HJ
        go_wp2
        exact ⟨⟨k + 1, by omega, by go_num, HJ2.out, HB.out⟩, by simp [RowKit.intOf]; omega⟩
      · have K0 : Hid (t.kind = 7) := k0
        rw [k0] at c0
        clear k0
        have HO0 : Hid (opLoc l A i t = 0) := by show _ = _; unfold opLoc locsO; rw [K0.out]; simp
        have HJ2 : Hid (∀ (q : Nat) (h : q < b.ops.length), q < k + 1 → opLoc l A i b.ops[q] = 0) := fun q hq hqk => by
          by_cases e : q < k
          · exact HJ.out q hq e
          · have : q = k := by omega
            subst this; rw [HTe.out]; exact HO0.out
        clear HJ
        go_wp2
        exact ⟨⟨k + 1, by omega, by go_num, HJ2.out, HB.out⟩, by simp [RowKit.intOf]; omega⟩
      · have K0 : Hid (t.kind = 8) := k0
        rw [k0] at c0
        clear k0
        have HO0 : Hid (opLoc l A i t = 0) := by show _ = _; unfold opLoc locsO; rw [K0.out]; simp
        have HJ2 : Hid (∀ (q : Nat) (h : q < b.ops.length), q < k + 1 → opLoc l A i b.ops[q] = 0) := fun q hq hqk => by
          by_cases e : q < k
          · exact HJ.out q hq e
          · have : q = k := by omega
            subst this; rw [HTe.out]; exact HO0.out
        clear HJ
        go_wp2
        exact ⟨⟨k + 1, by omega, by go_num, HJ2.out, HB.out⟩, by simp [RowKit.intOf]; omega⟩
      · have K0 : Hid (t.kind = 9) := k0
        rw [k0] at c0
        clear k0
        by_cases hi0 : i = 0
        · subst hi0
          have HO0 : Hid (opLoc l A 0 t = 0) := by show _ = _; unfold opLoc locsO; rw [K0.out]; simp
          have HJ2 : Hid (∀ (q : Nat) (h : q < b.ops.length), q < k + 1 → opLoc l A 0 b.ops[q] = 0) := fun q hq hqk => by
            by_cases e : q < k
            · exact HJ.out q hq e
            · have : q = k := by omega
              subst this; rw [HTe.out]; exact HO0.out
          clear HJ
          go_wp2
          exact ⟨⟨k + 1, by omega, by go_num, HJ2.out, HB.out⟩, by simp [RowKit.intOf]; omega⟩
        · have hip : 0 < i := by omega
          have HO0 : Hid (opLoc l A i t = 1) := by show _ = _; unfold opLoc locsO; rw [K0.out]; simp [hip]
          have HF : Hid (R = 1) := by show _ = _; rw [HR.out, firstC_hit b.ops k hlk HJ.out (by rw [HTe.out, HO0.out]; decide), HTe.out, HO0.out]
          clear HJ HR
          go_wp2
          go_ret
          exact ⟨by rw [HF.out]; rfl, HB.out⟩
      · have K0 : Hid (t.kind = 10) := k0
        rw [k0] at c0
        clear k0
        have HO0 : Hid (opLoc l A i t = 0) := by show _ = _; unfold opLoc locsO; rw [K0.out]; simp
        have HJ2 : Hid (∀ (q : Nat) (h : q < b.ops.length), q < k + 1 → opLoc l A i b.ops[q] = 0) := fun q hq hqk => by
          by_cases e : q < k
          · exact HJ.out q hq e
          · have : q = k := by omega
            subst this; rw [HTe.out]; exact HO0.out
        clear HJ
        go_wp2
        exact ⟨⟨k + 1, by omega, by go_num, HJ2.out, HB.out⟩, by simp [RowKit.intOf]; omega⟩
      · have K0 : Hid (t.kind = 11) := k0
        rw [k0] at c0
        clear k0
        have HO0 : Hid (opLoc l A i t = 0) := by show _ = _; unfold opLoc locsO; rw [K0.out]; simp
        have HJ2 : Hid (∀ (q : Nat) (h : q < b.ops.length), q < k + 1 → opLoc l A i b.ops[q] = 0) := fun q hq hqk => by
          by_cases e : q < k
          · exact HJ.out q hq e
          · have : q = k := by omega
            subst this; rw [HTe.out]; exact HO0.out
        clear HJ
        go_wp2
        exact ⟨⟨k + 1, by omega, by go_num, HJ2.out, HB.out⟩, by simp [RowKit.intOf]; omega⟩
      · have K0 : Hid (t.kind = 12) := k0
        rw [k0] at c0
        clear k0
        have HO0 : Hid (opLoc l A i t = 0) := by show _ = _; unfold opLoc locsO; rw [K0.out]; simp
        have HJ2 : Hid (∀ (q : Nat) (h : q < b.ops.length), q < k + 1 → opLoc l A i b.ops[q] = 0) := fun q hq hqk => by
          by_cases e : q < k
          · exact HJ.out q hq e
          · have : q = k := by omega
            subst this; rw [HTe.out]; exact HO0.out
        clear HJ
        go_wp2
        exact ⟨⟨k + 1, by omega, by go_num, HJ2.out, HB.out⟩, by simp [RowKit.intOf]; omega⟩
      · have K0 : Hid (t.kind = 13) := k0
        rw [k0] at c0
        clear k0
        have HO0 : Hid (opLoc l A i t = 0) := by show _ = _; unfold opLoc locsO; rw [K0.out]; simp
        have HJ2 : Hid (∀ (q : Nat) (h : q < b.ops.length), q < k + 1 → opLoc l A i b.ops[q] = 0) := fun q hq hqk => by
          by_cases e : q < k
          · exact HJ.out q hq e
          · have : q = k := by omega
            subst this; rw [HTe.out]; exact HO0.out
        clear HJ
        go_wp2
        exact ⟨⟨k + 1, by omega, by go_num, HJ2.out, HB.out⟩, by simp [RowKit.intOf]; omega⟩
      · have K0 : Hid (t.kind = 14) := k0
        rw [k0] at c0
        clear k0
        obtain ⟨D, hD⟩ : ∃ D, D = outL l A i (t.a, t.b) := ⟨_, rfl⟩
        have HD : Hid (outL l A i (t.a, t.b) = D) := hD.symm
        have H1 : Hid (∀ p : BW wr, Calls Tryz.prog 113 #[.slice (some ⟨g, 0, none⟩) l.length cap, .slice (some ⟨gA, 0, none⟩) l.length cA, .int .i64 (i : Int), .int .i64 t.a, .int .i64 t.b] p.x fun e w' => e = .returned (.bool (!D)) ∧ Below p.x.heap.size p.x w') := fun p => by rw [hD]; exact HLo.out p.x (HB.out.trans (p.h.mono HB.out.size)) t.a t.b hbt.a1 hbt.a2
        clear hD
        cases D
        · have HO0 : Hid (opLoc l A i t = 0) := by show _ = _; unfold opLoc locsO; rw [K0.out]; simp [HD.out]
          go_wp2_with fail
          refine wp_region_below (by kernel_rfl) (by kernel_rfl) ?_
          repeat (go_big_quiet_step ((go_at_call 113; exact calls_bw (H1.out _))))
          refine wpQuiet_nil ?_
          intro wq hw'
          obtain ⟨⟨_, bq⟩, rfl⟩ := hw'
          have HB2 : Hid (Below w.heap.size w wq) := HB.out.trans (bq.mono HB.out.size)
          clear bq
          clear H1
          have HJ2 : Hid (∀ (q : Nat) (h : q < b.ops.length), q < k + 1 → opLoc l A i b.ops[q] = 0) := fun q hq hqk => by
            by_cases e : q < k
            · exact HJ.out q hq e
            · have : q = k := by omega
              subst this; rw [HTe.out]; exact HO0.out
          clear HJ
          go_wp2
          exact ⟨⟨k + 1, by omega, by go_num, HJ2.out, HB2.out⟩, by simp [RowKit.intOf]; omega⟩
        · have HO0 : Hid (opLoc l A i t = 3) := by show _ = _; unfold opLoc locsO; rw [K0.out]; simp [HD.out]
          go_wp2_with fail
          refine wp_region_below (by kernel_rfl) (by kernel_rfl) ?_
          repeat (go_big_quiet_step ((go_at_call 113; exact calls_bw (H1.out _))))
          refine wpQuiet_nil ?_
          intro wq hw'
          obtain ⟨⟨_, bq⟩, rfl⟩ := hw'
          have HB2 : Hid (Below w.heap.size w wq) := HB.out.trans (bq.mono HB.out.size)
          clear bq
          clear H1
          have HF : Hid (R = 3) := by show _ = _; rw [HR.out, firstC_hit b.ops k hlk HJ.out (by rw [HTe.out, HO0.out]; decide), HTe.out, HO0.out]
          clear HJ HR
          go_wp2
          go_ret
          exact ⟨by rw [HF.out]; rfl, HB2.out⟩
      · have K0 : Hid (t.kind = 15) := k0
        rw [k0] at c0
        clear k0
        obtain ⟨D, hD⟩ : ∃ D, D = !(outL l A i (t.a, t.b)) := ⟨_, rfl⟩
        have HD : Hid (outL l A i (t.a, t.b) = !D) := by show _ = _; rw [hD, Bool.not_not]
        have H1 : Hid (∀ p : BW wr, Calls Tryz.prog 113 #[.slice (some ⟨g, 0, none⟩) l.length cap, .slice (some ⟨gA, 0, none⟩) l.length cA, .int .i64 (i : Int), .int .i64 t.a, .int .i64 t.b] p.x fun e w' => e = .returned (.bool D) ∧ Below p.x.heap.size p.x w') := fun p => by rw [hD]; exact HLo.out p.x (HB.out.trans (p.h.mono HB.out.size)) t.a t.b hbt.a1 hbt.a2
        obtain ⟨E, hE⟩ : ∃ E, E = !(outL l A i (t.c, t.d)) := ⟨_, rfl⟩
        have HE : Hid (outL l A i (t.c, t.d) = !E) := by show _ = _; rw [hE, Bool.not_not]
        have H2 : Hid (∀ p : BW wr, Calls Tryz.prog 113 #[.slice (some ⟨g, 0, none⟩) l.length cap, .slice (some ⟨gA, 0, none⟩) l.length cA, .int .i64 (i : Int), .int .i64 t.c, .int .i64 t.d] p.x fun e w' => e = .returned (.bool E) ∧ Below p.x.heap.size p.x w') := fun p => by rw [hE]; exact HLo.out p.x (HB.out.trans (p.h.mono HB.out.size)) t.c t.d hbt.c1 hbt.c2
        clear hD hE
        cases D
        · have HO0 : Hid (opLoc l A i t = 3) := by show _ = _; unfold opLoc locsO; rw [K0.out]; simp [HD.out]
          go_wp2_with fail
          refine wp_region_below (by kernel_rfl) (by kernel_rfl) ?_
          repeat (go_big_quiet_step ((go_at_call 113; exact calls_bw (H1.out _))))
          refine wpQuiet_nil ?_
          intro wq hw'
          obtain ⟨⟨_, bq⟩, rfl⟩ := hw'
          have HB2 : Hid (Below w.heap.size w wq) := HB.out.trans (bq.mono HB.out.size)
          clear bq
          clear H1 H2
          have HF : Hid (R = 3) := by show _ = _; rw [HR.out, firstC_hit b.ops k hlk HJ.out (by rw [HTe.out, HO0.out]; decide), HTe.out, HO0.out]
          clear HJ HR
          go_wp2
          go_ret
          exact ⟨by rw [HF.out]; rfl, HB2.out⟩
        · cases E
          · have HO0 : Hid (opLoc l A i t = 3) := by show _ = _; unfold opLoc locsO; rw [K0.out]; simp [HD.out, HE.out]
            go_wp2_with fail
            refine wp_region_below (by kernel_rfl) (by kernel_rfl) ?_
            repeat (go_big_quiet_step (fail))
            go_big_quiet_step ((go_at_call 113; exact calls_bw (H1.out _)))
            repeat (go_big_quiet_step ((go_at_call 113; exact calls_bw (H2.out _))))
            refine wpQuiet_nil ?_
            intro wq hw'
            obtain ⟨⟨_, bq⟩, rfl⟩ := hw'
            have HB2 : Hid (Below w.heap.size w wq) := HB.out.trans (bq.mono HB.out.size)
            clear bq
            clear H1 H2
            have HF : Hid (R = 3) := by show _ = _; rw [HR.out, firstC_hit b.ops k hlk HJ.out (by rw [HTe.out, HO0.out]; decide), HTe.out, HO0.out]
            clear HJ HR
            go_wp2
            go_ret
            exact ⟨by rw [HF.out]; rfl, HB2.out⟩
          · have HO0 : Hid (opLoc l A i t = 0) := by show _ = _; unfold opLoc locsO; rw [K0.out]; simp [HD.out, HE.out]
            go_wp2_with fail
            refine wp_region_below (by kernel_rfl) (by kernel_rfl) ?_
            repeat (go_big_quiet_step (fail))
            go_big_quiet_step ((go_at_call 113; exact calls_bw (H1.out _)))
            repeat (go_big_quiet_step ((go_at_call 113; exact calls_bw (H2.out _))))
            refine wpQuiet_nil ?_
            intro wq hw'
            obtain ⟨⟨_, bq⟩, rfl⟩ := hw'
            have HB2 : Hid (Below w.heap.size w wq) := HB.out.trans (bq.mono HB.out.size)
            clear bq
            clear H1 H2
            have HJ2 : Hid (∀ (q : Nat) (h : q < b.ops.length), q < k + 1 → opLoc l A i b.ops[q] = 0) := fun q hq hqk => by
              by_cases e : q < k
              · exact HJ.out q hq e
              · have : q = k := by omega
                subst this; rw [HTe.out]; exact HO0.out
            clear HJ
            go_wp2
            exact ⟨⟨k + 1, by omega, by go_num, HJ2.out, HB2.out⟩, by simp [RowKit.intOf]; omega⟩
      · have K0 : Hid (t.kind = 16) := k0
        rw [k0] at c0
        clear k0
        obtain ⟨D, hD⟩ : ∃ D, D = outL l A i (t.a, t.b) := ⟨_, rfl⟩
        have HD : Hid (outL l A i (t.a, t.b) = D) := hD.symm
        have H1 : Hid (∀ p : BW wr, Calls Tryz.prog 113 #[.slice (some ⟨g, 0, none⟩) l.length cap, .slice (some ⟨gA, 0, none⟩) l.length cA, .int .i64 (i : Int), .int .i64 t.a, .int .i64 t.b] p.x fun e w' => e = .returned (.bool (!D)) ∧ Below p.x.heap.size p.x w') := fun p => by rw [hD]; exact HLo.out p.x (HB.out.trans (p.h.mono HB.out.size)) t.a t.b hbt.a1 hbt.a2
        clear hD
        cases D
        · have HO0 : Hid (opLoc l A i t = 0) := by show _ = _; unfold opLoc locsO; rw [K0.out]; simp [HD.out]
          go_wp2_with fail
          refine wp_region_below (by kernel_rfl) (by kernel_rfl) ?_
          repeat (go_big_quiet_step ((go_at_call 113; exact calls_bw (H1.out _))))
          refine wpQuiet_nil ?_
          intro wq hw'
          obtain ⟨⟨_, bq⟩, rfl⟩ := hw'
          have HB2 : Hid (Below w.heap.size w wq) := HB.out.trans (bq.mono HB.out.size)
          clear bq
          clear H1
          have HJ2 : Hid (∀ (q : Nat) (h : q < b.ops.length), q < k + 1 → opLoc l A i b.ops[q] = 0) := fun q hq hqk => by
            by_cases e : q < k
            · exact HJ.out q hq e
            · have : q = k := by omega
              subst this; rw [HTe.out]; exact HO0.out
          clear HJ
          go_wp2
          exact ⟨⟨k + 1, by omega, by go_num, HJ2.out, HB2.out⟩, by simp [RowKit.intOf]; omega⟩
        · have HO0 : Hid (opLoc l A i t = 3) := by show _ = _; unfold opLoc locsO; rw [K0.out]; simp [HD.out]
          go_wp2_with fail
          refine wp_region_below (by kernel_rfl) (by kernel_rfl) ?_
          repeat (go_big_quiet_step ((go_at_call 113; exact calls_bw (H1.out _))))
          refine wpQuiet_nil ?_
          intro wq hw'
          obtain ⟨⟨_, bq⟩, rfl⟩ := hw'
          have HB2 : Hid (Below w.heap.size w wq) := HB.out.trans (bq.mono HB.out.size)
          clear bq
          clear H1
          have HF : Hid (R = 3) := by show _ = _; rw [HR.out, firstC_hit b.ops k hlk HJ.out (by rw [HTe.out, HO0.out]; decide), HTe.out, HO0.out]
          clear HJ HR
          go_wp2
          go_ret
          exact ⟨by rw [HF.out]; rfl, HB2.out⟩
    · have HF : Hid (R = 0) := by show _ = _; rw [HR.out]; exact firstC_none b.ops (fun q hq _ => HJ.out q hq (by omega))
      clear HJ HR
      go_wp2
      go_ret
      exact ⟨by rw [HF.out]; rfl, HB.out⟩
end Go.Proofs.YtoafolefecddmaaGreatDoor
namespace Go.Proofs.YtoafolefecddmaaGreatDoor
theorem codeF_nine {ok : Bool} {l : List Blk} (h : codeFault9 l ≠ 0) : codeF ok l = codeFault9 l := by unfold codeF; rw [if_neg h]
theorem codeF_head {ok : Bool} {l : List Blk} (h : codeFault9 l = 0) (hh : headF l = true) : codeF ok l = 1 := by unfold codeF; rw [if_pos h, hh]; rfl
theorem codeF_none {ok : Bool} {l : List Blk} (h : codeFault9 l = 0) (hh : headF l = false) (ha : aroundR ok l = none) : codeF ok l = 1 := by
  unfold codeF
  rw [if_pos h, hh]
  cases ok
  · rfl
  · exact tailF_none ha
theorem codeF_some {ok : Bool} {l : List Blk} {A : List Int} (h : codeFault9 l = 0) (hh : headF l = false) (ha : aroundR ok l = some A) : codeF ok l = firstC (blkLoc l A) (List.range l.length) ∧ gapA A = false ∧ ArI l.length A ∧ ok = true := by
  cases ok
  · unfold aroundR at ha; simp at ha
  · obtain ⟨h1, h2, h3⟩ := tailF_some ha
    refine ⟨?_, h2, h3, rfl⟩
    unfold codeF
    rw [if_pos h, hh]
    exact h1
theorem nine_all {l : List Blk} (h : codeFault9 l = 0) : l.length ≤ 60 ∧ ∀ (k : Nat) (hk : k < l.length), blkFault l[k] = 0 := by
  unfold codeFault9 at h
  split at h
  · cases h
  · exact ⟨by omega, fun k hk => firstC_zero l h _ (List.getElem_mem hk)⟩
theorem headF_cons {l : List Blk} (hl : 0 < l.length) : headF l = ((l[0]'hl).args != 0) := by
  cases l with
  | nil => simp at hl
  | cons b r => rfl
theorem blkLoc_at {l : List Blk} {A : List Int} {i : Nat} {b : Blk} (h : l[i]? = some b) : blkLoc l A i = firstC (opLoc l A i) b.ops := by
  unfold blkLoc
  simp [h]
theorem range_hit {f : Nat → Int} {n k : Nat} (hk : k < n) (hs : ∀ j, j < k → f j = 0) (he : f k ≠ 0) : firstC f (List.range n) = f k := by
  have := firstC_hit (f := f) (List.range n) k (by simpa using hk) (fun j hj hjk => by rw [List.getElem_range]; exact hs j hjk) (by rw [List.getElem_range]; exact he)
  rwa [List.getElem_range] at this
theorem range_none {f : Nat → Int} {n : Nat} (hs : ∀ j, j < n → f j = 0) : firstC f (List.range n) = 0 :=
  firstC_none _ (fun j hj _ => by rw [List.getElem_range]; exact hs j (by simpa using hj))
end Go.Proofs.YtoafolefecddmaaGreatDoor
namespace Go.Proofs.YtoafolefecddmaaGreatDoor
open Go.RowKit Go.Extern.Stop Go.Stop Go.Extern Num Go.Lib
def AnsF (ok : Bool) (l : List Blk) (w : World) (e : Ending) (w' : World) : Prop :=
  ((codeF ok l ≠ 0 ∧ e = .returned (.tuple #[.slice none 0 0, .int .i64 (codeF ok l)])) ∨ (codeF ok l = 0 ∧ ∃ A g cap, aroundR ok l = some A ∧ e = .returned (.tuple #[.slice (some ⟨g, 0, none⟩) l.length cap, .int .i64 0]) ∧ w'.ownsRow w.heap.size 2 1 (.slice (some ⟨g, 0, none⟩) l.length cap) l.length (cellsI A))) ∧ Below w.heap.size w w'
set_option maxRecDepth 100000 in
set_option maxHeartbeats 2000000 in
theorem l10Fault_any (g cap B : Nat) (l : List Blk) (ok : Bool) (w : World) (hl : l.length ≤ 1048576) (hz : ∀ (k : Nat) (h : k < l.length), l[k].small) (hB : RowBl w B g l) (hok : OkR l ok) :
    Calls Tryz.prog 47 #[.slice (some ⟨g, 0, none⟩) l.length cap] w fun e w' => AnsF ok l w e w' := by
  have H9 : Hid (Calls Tryz.prog 77 #[.slice (some ⟨g, 0, none⟩) l.length cap] w fun e w' => e = .returned (.int .i64 (codeFault9 l)) ∧ Below w.heap.size w w') := l9Fault_any g cap B l w hl hz hB
  have HB : Hid (RowBl w B g l) := hB
  have HZ : Hid (∀ (k : Nat) (h : k < l.length), l[k].small) := hz
  have HOk : Hid (OkR l ok) := hok
  have HNo : Hid (∀ c, codeF ok l = c → c ≠ 0 → ∀ u, Below w.heap.size w u → AnsF ok l w (.returned (.tuple #[.slice none 0 0, .int .i64 c])) u) := fun c hc hn u hu => ⟨.inl ⟨by rw [hc]; exact hn, by rw [hc]⟩, hu⟩
  obtain ⟨R, hR⟩ : ∃ R, R = codeFault9 l := ⟨_, rfl⟩
  rw [← hR] at H9
  have HR : Hid (codeFault9 l = R) := hR.symm
  clear hB hz hok hR
  go_enter Tryz.func47, Tryz.ntmps47
  go_wp2_with fail
  refine H9.out.mono ?_
  rintro e w1 ⟨rfl, b1⟩
  have HB1 : Hid (Below w.heap.size w w1) := b1
  clear b1 H9
  by_cases hc : R = 0
  · subst hc
    have h60 := (nine_all HR.out).1
    have HF : Hid (∀ (k : Nat) (hk : k < l.length), blkFault l[k] = 0) := (nine_all HR.out).2
    by_cases hl0 : l.length = 0
    · have HX : Hid (AnsF ok l w (.returned (.tuple #[.slice none 0 0, .int .i64 1])) w1) := HNo.out 1 (codeF_head HR.out (by rw [List.length_eq_zero_iff.1 hl0]; rfl)) (by decide) w1 HB1.out
      have hl0' : ((l.length : Int) == 0) = true := by rw [hl0]; rfl
      clear HNo
      go_wp2
      exact bodyPost_ret (v := .tuple #[.slice none 0 0, .int .i64 1]) (by simp [results, Tryz.results47, go_sem]) rfl HX.out
    have hl1 : 0 < l.length := by omega
    have hl2 : ((l.length : Int) == 0) = false := by rw [beq_eq_false_iff_ne]; omega
    obtain ⟨p0, -, -, -⟩ := HB.out.below HB1.out 0 hl1
    rw [Nat.zero_mul] at p0
    obtain ⟨a, ha⟩ : ∃ a, a = (l[0]'hl1).args := ⟨_, rfl⟩
    rw [← ha] at p0
    have HH : Hid (headF l = (a != 0)) := by show _ = _; rw [headF_cons hl1, ha]
    clear ha
    cases ha0 : (a != 0)
    · rw [ha0] at HH
      have HAr : Hid (Calls Tryz.prog 78 #[.slice (some ⟨g, 0, none⟩) l.length cap] w1 fun e w' => AnsAr ok l w1 e w') := l10Around_any g cap B l ok w1 hl1 h60 HZ.out (HB.out.below HB1.out) HF.out HOk.out
      go_wp2_with fail
      refine HAr.out.mono ?_
      rintro e w2 ⟨hcase, b2⟩
      have HB2 : Hid (Below w.heap.size w w2) := HB1.out.trans (b2.mono HB1.out.size)
      clear b2 HAr p0
      rcases hcase with ⟨hn, rfl⟩ | ⟨A, gA, cA, hs, rfl, ho⟩
      · have HX : Hid (AnsF ok l w (.returned (.tuple #[.slice none 0 0, .int .i64 1])) w2) := HNo.out 1 (codeF_none HR.out HH.out hn) (by decide) w2 HB2.out
        clear HNo hn
        go_wp2
        exact bodyPost_ret (v := .tuple #[.slice none 0 0, .int .i64 1]) (by simp [results, Tryz.results47, go_sem]) rfl HX.out
      · obtain ⟨hcf, hgap, hArI, -⟩ := codeF_some HR.out HH.out hs
        have HCf : Hid (codeF ok l = firstC (blkLoc l A) (List.range l.length)) := hcf
        have HLow : Hid (∀ k, 0 < k → k < l.length → 0 ≤ A.getD k 0 ∧ A.getD k 0 < (k : Int)) := fun k h1 h2 => gap_low hArI hgap k h1 h2
        have HS : Hid (aroundR ok l = some A) := hs
        have HO2 : Hid (w2.ownsRow w1.heap.size 2 1 (.slice (some ⟨gA, 0, none⟩) l.length cA) l.length (cellsI A)) := ho
        clear hcf hgap hArI hs ho
        go_wp2_with fail
        go_loopw [7] (fun v wr => ∃ i : Nat, i ≤ l.length ∧ v = .int .i64 (i : Int) ∧ Hid (∀ j, j < i → blkLoc l A j = 0) ∧ Hid (Below w2.heap.size w2 wr)) (fun v _ => l.length - (RowKit.intOf v).toNat)
        case atStart => exact ⟨0, Nat.zero_le _, rfl, fun j hj => by omega, Below.refl _ _⟩
        case round =>
          obtain ⟨i, hi, rfl, HJ, HB3⟩ := hrel
          have HBw : Hid (Below w.heap.size w wr) := HB2.out.trans (HB3.out.mono HB2.out.size)
          by_cases hlt : i < l.length
          · obtain ⟨b, hb⟩ : ∃ b, b = l[i]'hlt := ⟨_, rfl⟩
            have hbi : l[i]? = some b := by rw [hb]; exact List.getElem?_eq_getElem hlt
            have hf0 := HF.out i hlt
            rw [← hb] at hf0
            have HL : Hid (Calls Tryz.prog 79 #[.slice (some ⟨g, 0, none⟩) l.length cap, .slice (some ⟨gA, 0, none⟩) l.length cA, .int .i64 (i : Int)] wr fun e w' => e = .returned (.int .i64 (blkLoc l A i)) ∧ Below wr.heap.size wr w') := by
              rw [blkLoc_at hbi]
              exact l10Locals_any g cap B gA cA w1.heap.size l A i b wr hlt hbi hf0 (HB.out.below HBw.out) (own_below HO2.out HB3.out) HLow.out
            obtain ⟨c, hcc⟩ : ∃ c, c = blkLoc l A i := ⟨_, rfl⟩
            rw [← hcc] at HL
            have HC : Hid (blkLoc l A i = c) := hcc.symm
            clear hb hbi hf0 hcc
            go_wp2_with fail
            refine HL.out.mono ?_
            rintro e w3 ⟨rfl, b3⟩
            have HB4 : Hid (Below w2.heap.size w2 w3) := HB3.out.trans (b3.mono HB3.out.size)
            have HBw3 : Hid (Below w.heap.size w w3) := HB2.out.trans (HB4.out.mono HB2.out.size)
            clear b3 HL
            by_cases hc0 : c = 0
            · subst hc0
              have HJ2 : Hid (∀ j, j < i + 1 → blkLoc l A j = 0) := fun j hj => by
                by_cases e : j < i
                · exact HJ.out j e
                · have : j = i := by omega
                  subst this; exact HC.out
              clear HJ
              go_wp2
              exact ⟨⟨i + 1, by omega, by go_num, HJ2.out, HB4.out⟩, by simp [RowKit.intOf]; omega⟩
            · have hcn : (c != 0) = true := by rw [bne_iff_ne]; exact hc0
              have HX : Hid (AnsF ok l w (.returned (.tuple #[.slice none 0 0, .int .i64 c])) w3) := HNo.out c (by rw [HCf.out, range_hit hlt HJ.out (by rw [HC.out]; exact hc0), HC.out]) hc0 w3 HBw3.out
              clear HJ HNo hc0
              go_wp2
              exact bodyPost_ret (v := .tuple #[.slice none 0 0, .int .i64 c]) (by simp [results, Tryz.results47, go_sem]) rfl HX.out
          · have HX : Hid (AnsF ok l w (.returned (.tuple #[.slice (some ⟨gA, 0, none⟩) l.length cA, .int .i64 0])) wr) := by
              refine ⟨.inr ⟨by rw [HCf.out, range_none (fun j hj => HJ.out j (by omega))], A, gA, cA, HS.out, rfl, ?_⟩, HBw.out⟩
              exact own_base (own_below HO2.out HB3.out) HB1.out.size
            clear HJ HNo
            go_wp2
            exact bodyPost_ret (v := .tuple #[.slice (some ⟨gA, 0, none⟩) l.length cA, .int .i64 0]) (by simp [results, Tryz.results47, go_sem]) rfl HX.out
    · rw [ha0] at HH
      have HX : Hid (AnsF ok l w (.returned (.tuple #[.slice none 0 0, .int .i64 1])) w1) := HNo.out 1 (codeF_head HR.out HH.out) (by decide) w1 HB1.out
      clear HNo
      go_wp2
      exact bodyPost_ret (v := .tuple #[.slice none 0 0, .int .i64 1]) (by simp [results, Tryz.results47, go_sem]) rfl HX.out
  · have hcn : (R != 0) = true := by rw [bne_iff_ne]; exact hc
    have HX : Hid (AnsF ok l w (.returned (.tuple #[.slice none 0 0, .int .i64 R])) w1) := HNo.out R (by rw [codeF_nine (by rw [HR.out]; exact hc)]; exact HR.out) hc w1 HB1.out
    clear hc HNo
    go_wp2
    exact bodyPost_ret (v := .tuple #[.slice none 0 0, .int .i64 R]) (by simp [results, Tryz.results47, go_sem]) rfl HX.out
end Go.Proofs.YtoafolefecddmaaGreatDoor
