/-
  Parts of the proof laid into one text, one behind the other; each says at its head what is proved in it.
-/
import Derived.Test.YtoljpgpkeploiaaDoorRdB
import Derived.Test.YtoljpgpkeploiaaDoorRdA
import Derived.Test.YtoljpgpkeploiaaDoorSpecOf
import Derived.Test.YtoljpgpkeploiaaDoorAddM
import Derived.Test.YtoljpgpkeploiaaDoorTreeW
import Derived.Test.YtoljpgpkeploiaaDoorResDataResult
import Derived.Test.YtoljpgpkeploiaaDoorRdC
/-
  What is read stays fit: at most 80 data, each behind the first in a list ahead of it; and what the program tells of it is it.
-/
namespace Go.Proofs.YtoljpgpkeploiaaDoor
open Go.RowKit

structure Fit (D : List Dat) (O : List Int) : Prop where
  len : D.length ≤ 80
  kd : ∀ (k : Nat) (h : k < D.length), 1 ≤ D[k].kind ∧ D[k].kind ≤ 4
  nm : ∀ (k : Nat) (h : k < D.length), D[k].name.size ≤ 1048576
  p0 : ∀ (h : 0 < D.length), D[0].parent = -1
  pp : ∀ (k : Nat) (h : k < D.length), 0 < k → 0 ≤ D[k].parent ∧ D[k].parent < 80
  oo : ∀ x ∈ O, 0 ≤ x ∧ x < (D.length : Int)
variable {D : List Dat} {O P : List Int}
theorem Fit.nil : Fit [] [] := ⟨by simp, fun k h => by simp at h, fun k h => by simp at h, fun h => by simp at h, fun k h => by simp at h, fun x h => by simp at h⟩
theorem Fit.sub (h : Fit D O) (hs : ∀ x ∈ P, x ∈ O) : Fit D P := ⟨h.len, h.kd, h.nm, h.p0, h.pp, fun x hx => h.oo x (hs x hx)⟩
theorem Fit.opn (h : Fit D O) {x : Int} (h0 : 0 ≤ x) (h1 : x < (D.length : Int)) : Fit D (O ++ [x]) := ⟨h.len, h.kd, h.nm, h.p0, h.pp, fun y hy => by
  rcases List.mem_append.1 hy with hy | hy
  · exact h.oo y hy
  · simp at hy; subst hy; exact ⟨h0, h1⟩⟩
/-- Where one more may stand: at the beginning, or in an open list. -/
def May (D : List Dat) (O : List Int) : Prop := (D = [] ∧ O = []) ∨ O ≠ []
theorem Fit.top (h : Fit D O) (hO : O ≠ []) : 0 ≤ topP O ∧ topP O < (D.length : Int) := by
  rcases List.eq_nil_or_concat O with e | ⟨P, x, e⟩
  · exact absurd e hO
  · rw [List.concat_eq_append] at e
    subst e
    rw [topP_in]
    exact h.oo x (by simp)
theorem Fit.push (h : Fit D O) (hm : May D O) (hl : D.length < 80) {k n : Int} {z : ByteArray} (h1 : 1 ≤ k) (h4 : k ≤ 4) (hz : z.size ≤ 1048576) : Fit (D ++ [⟨k, topP O, n, z⟩]) O := by
  have old : ∀ (j : Nat) (h : j < D.length), (D ++ [(⟨k, topP O, n, z⟩ : Dat)])[j]'(by simp; omega) = D[j] := fun j h => List.getElem_append_left h
  have new : ∀ (j : Nat) (hj : j < (D ++ [(⟨k, topP O, n, z⟩ : Dat)]).length), ¬ j < D.length → (D ++ [(⟨k, topP O, n, z⟩ : Dat)])[j] = ⟨k, topP O, n, z⟩ := fun j hj hn => by
    rw [List.getElem_append_right (by omega)]; simp
  refine ⟨by simp; omega, fun j hj => ?_, fun j hj => ?_, fun hj => ?_, fun j hj h0 => ?_, fun x hx => ?_⟩
  · by_cases hn : j < D.length
    · rw [old j hn]; exact h.kd j hn
    · rw [new j hj hn]; exact ⟨h1, h4⟩
  · by_cases hn : j < D.length
    · rw [old j hn]; exact h.nm j hn
    · rw [new j hj hn]; exact hz
  · by_cases hn : 0 < D.length
    · rw [old 0 hn]; exact h.p0 hn
    · rw [new 0 hj hn]
      have hD : D = [] := List.eq_nil_of_length_eq_zero (by omega)
      have hO : O = [] := by
        rcases hm with hm | hm
        · exact hm.2
        · obtain ⟨x, hx⟩ := List.exists_mem_of_ne_nil O hm
          have := h.oo x hx
          rw [hD] at this; simp at this; omega
      show topP O = -1
      rw [hO]; rfl
  · by_cases hn : j < D.length
    · rw [old j hn]; exact h.pp j hn h0
    · rw [new j hj hn]
      have hO : O ≠ [] := by
        rcases hm with hm | hm
        · have : j = 0 := by rw [hm.1] at hj; simp at hj; exact hj
          omega
        · exact hm
      have := h.top hO
      show 0 ≤ topP O ∧ topP O < 80
      omega
  · have := h.oo x hx
    simp; omega
theorem whole_sub : ∀ (m : Nat) (O : List Int) (Q : List Bool), O.length = m → Q.length = O.length → ∀ x ∈ (whole O Q).1, x ∈ O := by
  intro m
  induction m with
  | zero =>
    intro O Q h1 h2 x hx
    obtain rfl := List.eq_nil_of_length_eq_zero h1
    exact hx
  | succ m ih =>
    intro O Q h1 h2 x hx
    rcases List.eq_nil_or_concat O with rfl | ⟨P, y, rfl⟩
    · simp at h1
    rcases List.eq_nil_or_concat Q with rfl | ⟨P2, b, rfl⟩
    · simp at h2
    rw [List.concat_eq_append] at h1 h2 hx ⊢
    rw [List.concat_eq_append] at h2 hx
    have hl : P2.length = P.length := by simpa using h2
    cases b with
    | true => rw [whole_on] at hx; exact List.mem_append_left _ (ih P P2 (by simpa using h1) hl x hx)
    | false => rw [whole_off] at hx; exact hx
theorem tokS_fit {s s' : RS} {t : Tok} (h : Fit s.D s.O) (hs : s.ok) (hm : May s.D s.O) (e : (tokS s t).2 = some s') (h1 : 1 ≤ t.kind) (h6 : t.kind ≤ 6) (hz : t.name.size ≤ 1048576) : Fit s'.D s'.O ∧ s'.D ≠ [] := by
  have lst : ∀ b, fullB s.D s.O = false → Fit (lstS s b).D (lstS s b).O := fun b hf => by
    have hl := full_no hf
    exact (h.push hm hl.1 (by decide) (by decide) (by decide)).opn (by omega) (by simp; omega)
  have ful : ∀ {D : List Dat} {O : List Int}, ¬ fullB D O = true → fullB D O = false := fun h => by simpa using h
  unfold tokS at e
  split at e
  · unfold beginS at e
    split at e
    · cases e
    · rename_i hf
      simp at e
      subst e
      exact ⟨lst false (ful hf), by simp [lstS]⟩
  · split at e
    · unfold beginS at e
      split at e
      · cases e
      · rename_i hf
        simp only [if_true] at e
        unfold putS at e
        split at e
        · cases e
        · rename_i hf2
          cases e
          refine ⟨(lst true (ful hf)).push (.inr (by simp [lstS])) (full_no (ful hf2)).1 (by decide) (by decide) (by decide), by simp⟩
    · split at e
      · simp only at e
        split at e
        · cases e
        · rename_i hn
          cases e
          have hne : s.O ≠ [] := fun x => hn (.inl x)
          refine ⟨h.sub (fun x hx => ?_), ?_⟩
          · exact List.dropLast_subset _ (whole_sub _ _ _ rfl (by simp [hs.1]) x hx)
          · obtain ⟨x, hx⟩ := List.exists_mem_of_ne_nil s.O hne
            have := h.oo x hx
            intro hD
            have hD' : s.D = [] := hD
            rw [hD'] at this; simp at this; omega
      · simp only at e
        unfold putS at e
        split at e
        · cases e
        · rename_i hf
          cases e
          refine ⟨(h.push hm (full_no (ful hf)).1 (by omega) (by omega) hz).sub (whole_sub _ _ _ rfl hs.1), by simp [wholeS]⟩
theorem Fit.ends (h : Fit D O) (hD : D ≠ []) : EndAt (nodes D) 0 D.length := by
  refine ⟨List.length_pos_iff.2 hD, by rw [nodes_len]; omega, fun j hj h0 _ => ?_, fun hj => ?_⟩
  · have hj' : j < D.length := by rw [nodes_len] at hj; exact hj
    rw [nodes_at D j hj']
    exact (h.pp j hj' h0).1
  · rw [nodes_len] at hj; omega
theorem Fit.pdn (h : Fit D O) : ∀ (k : Nat) (hk : k < (nodes D).length), PdN ((k : Int), (nodes D)[k]) := fun k hk => by
  have hk' : k < D.length := by rw [nodes_len] at hk; exact hk
  rw [nodes_at D k hk']
  refine ⟨h.nm k hk', ?_⟩
  show -1 ≤ D[k].parent ∧ D[k].parent < 1000
  by_cases h0 : 0 < k
  · have := h.pp k hk' h0; omega
  · obtain rfl : k = 0 := by omega
    have := h.p0 hk'; omega
theorem Fit.told (h : Fit D O) : (tellN (nodes D) 0 (D.length - 0)).map (subN ((0 : Nat) : Int)) = D := by
  have hlen : (tellN (nodes D) 0 (D.length - 0)).length = D.length := tellN_len _ 0 _ (by rw [nodes_len]; omega)
  apply List.ext_getElem
  · rw [List.length_map, hlen]
  · intro j hj hj'
    obtain ⟨k1, k2⟩ := tellN_at (nodes D) 0 (D.length - 0) j (by rw [nodes_len]; omega) (by omega)
    rw [List.getElem_map, k2]
    have e0 : 0 + j = j := by omega
    simp only [e0]
    rw [nodes_at D j hj']
    show (⟨dkD (tkD D[j].kind), max (D[j].parent - ((0 : Nat) : Int)) (-1), D[j].num, D[j].name⟩ : Dat) = D[j]
    rw [dk_tk (h.kd j hj')]
    have : max (D[j].parent - ((0 : Nat) : Int)) (-1) = D[j].parent := by
      by_cases h0 : 0 < j
      · have := h.pp j hj' h0; omega
      · obtain rfl : j = 0 := by omega
        have := h.p0 hj'; omega
    rw [this]
end Go.Proofs.YtoljpgpkeploiaaDoor
/-
  The tokens of a text: each of a kind that there is, with a name that is no longer than the text; and ReadData's answer, told plainly.
-/
namespace Go.Proofs.YtoljpgpkeploiaaDoor
open Go.RowKit

def TokFit (t : Tok) : Prop := 1 ≤ t.kind ∧ t.kind ≤ 6 ∧ t.name.size ≤ 1048576
theorem E0_size : E0.size = 0 := rfl
theorem wordTok_fit {s : ByteArray} {t : Tok} (h : wordTok s = some t) (hs : s.size ≤ 1048576) : TokFit t := by
  unfold wordTok at h
  have e0 := E0_size
  split at h
  · cases h; exact ⟨by show (1 : Int) ≤ 4; decide, by show (4 : Int) ≤ 6; decide, by show E0.size ≤ _; omega⟩
  · split at h
    · cases h; exact ⟨by decide, by decide, by show E0.size ≤ _; omega⟩
    · split at h
      · cases h; exact ⟨by decide, by decide, by show E0.size ≤ _; omega⟩
      · split at h
        · cases h; exact ⟨by show (1 : Int) ≤ 6; decide, by show (6 : Int) ≤ 6; decide, hs⟩
        · cases h
theorem markB_fit (b : UInt8) (h : markB b ≠ 0) : 1 ≤ markB b ∧ markB b ≤ 6 := by
  unfold markB at h ⊢
  repeat' split
  all_goals first | decide | (exfalso; apply h; simp_all)
theorem tokAt_fit {s : ByteArray} {k : Nat} {t : Tok} (hs : s.size ≤ 400) (h : tokAt s k = some t) : TokFit t := by
  unfold tokAt at h
  split at h
  · refine wordTok_fit h ?_
    rw [ByteArray.size_extract]; omega
  · rename_i hm
    cases h
    have := markB_fit _ hm
    exact ⟨this.1, this.2, by show E0.size ≤ _; rw [E0_size]; omega⟩
theorem cutN_fit (s : ByteArray) (hs : s.size ≤ 400) : ∀ (n k : Nat) (out : List Tok) (c a : Int) (r : List Tok), CutN s n k out c a r → (∀ t ∈ out, TokFit t) → ∀ t ∈ r, TokFit t
  | 0, _, _, _, _, _, h, _ => h.elim
  | n + 1, k, out, c, a, r, h, ho => by
    rcases h with ⟨_, _, _, rfl⟩ | ⟨_, _, _, _, rfl⟩ | ⟨t, _, ht, ⟨_, _, _, rfl⟩ | ⟨_, hc⟩⟩
    · exact ho
    · intro t h; simp at h
    · intro t h; simp at h
    · refine cutN_fit s hs n _ _ _ _ _ hc (fun x hx => ?_)
      rcases List.mem_append.1 hx with hx | hx
      · exact ho x hx
      · simp at hx; subst hx; exact tokAt_fit hs ht
theorem tof_fit {s : ByteArray} {c a : Int} {l : List Tok} (h : TOf s c a l) : ∀ t ∈ l, TokFit t := by
  rcases h with ⟨_, _, _, rfl⟩ | ⟨hs, n, h⟩
  · intro t h; simp at h
  · exact cutN_fit s hs n _ _ _ _ _ h (fun t h => by simp at h)
/-- What ReadData answers: data, a code, where. -/
def rdOf (c a : Int) (l : List Tok) : List Dat × Int × Int := if c = 0 then readD l else ([], c, a)
theorem readFrom_len : ∀ (l : List Tok) (i : Nat) (s : RS), Fit s.D s.O → s.ok → ((i = 0 ∧ s.D = [] ∧ s.O = []) ∨ (0 < i ∧ s.D ≠ [])) → (∀ t ∈ l, TokFit t) → (readFrom i s l).1.length ≤ 80
  | [], i, s, hf, _, _, _ => by
    unfold readFrom
    split
    · simp
    · exact hf.len
  | t :: r, i, s, hf, hs, hA, hl => by
    unfold readFrom
    split
    · simp
    · rename_i hn
      cases e : (tokS s t).2 with
      | none => simp
      | some s' =>
        obtain ⟨t1, t6, tz⟩ := hl t (by simp)
        have hm : May s.D s.O := by
          rcases hA with h | h
          · exact .inl h.2
          · exact .inr fun hO => hn ⟨h.1, hO⟩
        obtain ⟨f', n'⟩ := tokS_fit hf hs hm e t1 t6 tz
        exact readFrom_len r (i + 1) s' f' (tokS_ok hs e) (.inr ⟨by omega, n'⟩) (fun x hx => hl x (by simp [hx]))
theorem rdOf_len {s : ByteArray} {c a : Int} {l : List Tok} (h : TOf s c a l) : (rdOf c a l).1.length ≤ 80 := by
  unfold rdOf
  split
  · exact readFrom_len l 0 ⟨[], [], []⟩ Fit.nil ⟨rfl, by simp⟩ (.inl ⟨rfl, rfl, rfl⟩) (tof_fit h)
  · simp
end Go.Proofs.YtoljpgpkeploiaaDoor
/-
  The program's reader of data in memory (nodes that are read, lists that are open), and what it is asked: innermost, isWhole, hasRoom, dataIn; nothing that was there is turned.
-/
namespace Go.Proofs.YtoljpgpkeploiaaDoor
open Go.RowKit Go.Extern.Stop Go.Stop Go.Extern Num Go.Lib Go.Shelf

/-- An open list: its place, and whether a quote began it. -/
def cellsO : List (Int × Bool) → List Value
  | [] => []
  | x :: r => [.int .i64 x.1, .bool x.2] ++ cellsO r
theorem cellsO_append (a b : List (Int × Bool)) : cellsO (a ++ b) = cellsO a ++ cellsO b := by
  induction a with
  | nil => rfl
  | cons t r ih => simp [cellsO, ih]
theorem cellsO_length (l : List (Int × Bool)) : (cellsO l).length = l.length * 2 := by
  induction l with
  | nil => rfl
  | cons t r ih => simp [cellsO, ih]; omega
theorem infoO : (Tryd.prog.info? 157).map (fun i => (i.zero, i.size, i.bytes)) = some (some (.agg #[.int .i64 0, .bool false]), 2, 16) := by kernel_rfl
theorem rowO_last {w : World} {base g cap : Nat} {O : List (Int × Bool)} {x : Int × Bool} (h : w.ownsRow base 157 2 (.slice (some ⟨g, 0, none⟩) (O.length + 1) cap) (O.length + 1) (cellsO (O ++ [x]))) :
    w.cell? ⟨g, O.length * 2, none⟩ = some (.int .i64 x.1) ∧ w.cell? ⟨g, O.length * 2 + 1, none⟩ = some (.bool x.2) := by
  have ha : ∀ j, (⟨g, 0, none⟩ : Addr).add j = ⟨g, j, none⟩ := fun j => by unfold Addr.add; split <;> simp_all
  have hc := h.cells (g := g) rfl
  have e : cellsO (O ++ [x]) = cellsO O ++ [.int .i64 x.1, .bool x.2] := by rw [cellsO_append]; rfl
  have hl := cellsO_length O
  constructor
  · rw [← ha]; exact hc _ _ (by rw [e, List.getElem?_append_right (by omega)]; simp [hl])
  · rw [← ha]; exact hc _ _ (by rw [e, List.getElem?_append_right (by omega)]; simp [hl])
/-- The innermost open list. -/
def topO (O : List (Int × Bool)) : Int × Bool := O.getLast?.getD (-1, false)
theorem topO_in (O : List (Int × Bool)) (x : Int × Bool) : topO (O ++ [x]) = x := by simp [topO]
/-- The reader: nodes that are read, and open lists. -/
structure RpAt (w : World) (B r : Nat) (vN vO : Value) (N : List Dat) (O : List (Int × Bool)) : Prop where
  hr : B ≤ r
  fz : ∀ o, w.frozen? ⟨r, o, none⟩ = false
  fN : Fld w B r 0 115 4 vN N.length (cellsN N)
  fO : Fld w B r 1 157 2 vO O.length (cellsO O)
  ap : ∀ g, vN.ownBlock = some g → vO.ownBlock ≠ some g
section
variable {w w1 : World} {B r : Nat} {vN vO v' : Value} {N N' : List Dat} {O O' : List (Int × Bool)}
theorem RpAt.keep (h : RpAt w B r vN vO N O) (hb : Below w.heap.size w w1) : RpAt w1 B r vN vO N O :=
  ⟨h.hr, fun o => by rw [(bcell hb).2 r o h.fN.lt]; exact h.fz o, h.fN.below hb, h.fO.below hb, h.ap⟩
theorem RpAt.node (h : RpAt w B r vN vO N O) (hg : w.grownBy w1 vN.ownBlock) (ho : w1.ownsRow B 115 4 v' N'.length (cellsN N')) (hv : ∀ g, v'.ownBlock = some g → vN.ownBlock = some g ∨ w.heap.size ≤ g) :
    RpAt (w1.setCell ⟨r, 0, none⟩ v') B r v' vO N' O := by
  have hro : vN.ownBlock ≠ some r := fun e => h.fN.2.2 r e rfl
  exact ⟨h.hr, fz_grown h.fz h.fN.lt hg hro _ _, h.fN.put hg ho hv, h.fO.other hg hro (apart_sym h.ap) (by omega) _, apart_put hv h.ap h.fO.own_lt⟩
theorem RpAt.opn (h : RpAt w B r vN vO N O) (hg : w.grownBy w1 vO.ownBlock) (ho : w1.ownsRow B 157 2 v' O'.length (cellsO O')) (hv : ∀ g, v'.ownBlock = some g → vO.ownBlock = some g ∨ w.heap.size ≤ g) :
    RpAt (w1.setCell ⟨r, 1, none⟩ v') B r vN v' N O' := by
  have hro : vO.ownBlock ≠ some r := fun e => h.fO.2.2 r e rfl
  exact ⟨h.hr, fz_grown h.fz h.fN.lt hg hro _ _, h.fN.other hg hro h.ap (by omega) _, h.fO.put hg ho hv, apart_sym (apart_put hv (apart_sym h.ap) h.fN.own_lt)⟩
end
def Rp (w : World) (B r : Nat) (N : List Dat) (O : List (Int × Bool)) : Prop := ∃ vN vO, RpAt w B r vN vO N O
theorem Rp.keep {w w1 : World} {B r : Nat} {N : List Dat} {O : List (Int × Bool)} (h : Rp w B r N O) (hb : Below w.heap.size w w1) : Rp w1 B r N O := by
  obtain ⟨vN, vO, h⟩ := h; exact ⟨vN, vO, h.keep hb⟩
theorem Rp.lt {w : World} {B r : Nat} {N : List Dat} {O : List (Int × Bool)} (h : Rp w B r N O) : r < w.heap.size := by
  obtain ⟨vN, vO, h⟩ := h; exact h.fN.lt
/-- The reader's two cells. -/
theorem Rp.cells {w : World} {B r : Nat} {N : List Dat} {O : List (Int × Bool)} (h : Rp w B r N O) : ∃ aN cN aO cO, w.cell? ⟨r, 0, none⟩ = some (.slice aN N.length cN) ∧ w.cell? ⟨r, 1, none⟩ = some (.slice aO O.length cO) := by
  obtain ⟨vN, vO, h⟩ := h
  obtain ⟨aN, cN, rfl⟩ := own_form h.fN.2.1
  obtain ⟨aO, cO, rfl⟩ := own_form h.fO.2.1
  exact ⟨aN, cN, aO, cO, h.fN.1, h.fO.1⟩
theorem inner_none (B r : Nat) (N : List Dat) (w : World) (h : Rp w B r N []) :
    Calls Tryd.prog 112 #[.pointer (some ⟨r, 0, none⟩)] w fun e w' => e = .returned (.agg #[.int .i64 (-1), .bool false]) ∧ Below w.heap.size w w' := by
  obtain ⟨aN, cN, aO, cO, k0, k1⟩ := h.cells
  have hlt := h.lt
  clear h
  simp only [List.length_nil] at k1
  go_enter Tryd.func112, Tryd.ntmps112
  go_wp2
  exact bodyPost_ret (v := .agg #[.int .i64 (-1), .bool false]) (by simp [results, Tryd.results112, go_sem]) rfl ⟨rfl, by
    repeat (first | exact Below.refl _ _ | refine Below.setCell ?_ (by simp) _ | refine Below.drew ?_ | refine Below.alloc ?_ (by simp <;> omega) _)⟩
set_option maxRecDepth 100000 in
set_option maxHeartbeats 2000000 in
theorem inner_some (B r : Nat) (N : List Dat) (O : List (Int × Bool)) (x : Int × Bool) (w : World) (h : Rp w B r N (O ++ [x])) (hO : O.length < 1000) :
    Calls Tryd.prog 112 #[.pointer (some ⟨r, 0, none⟩)] w fun e w' => e = .returned (.agg #[.int .i64 x.1, .bool x.2]) ∧ Below w.heap.size w w' := by
  obtain ⟨vN, vO, h⟩ := h
  obtain ⟨g, c, hv, _, _⟩ := h.fO.2.1.form (by simp)
  have e1 : (O ++ [x]).length = O.length + 1 := by simp
  rw [e1] at hv
  subst hv
  obtain ⟨q0, q1⟩ := rowO_last (by have := h.fO.2.1; rw [e1] at this; exact this)
  have k1 := h.fO.1
  have hlt := h.fN.lt
  have hgl := lt_of_cell q0
  clear h e1
  have hne : ((O.length : Int) + 1 == 0) = false := beq_false_of_ne (by omega)
  have hw1 : IntKind.i64.wrap (O.length : Int) = (O.length : Int) := by rw [IntKind.wrap_i64]; omega
  have hw2 : IntKind.i64.wrap ((O.length : Int) + 1 - 1) = (O.length : Int) := by rw [IntKind.wrap_i64]; omega
  have hi1 : (0 : Int) ≤ (O.length : Int) := by omega
  have hi2 : (O.length : Int) < (O.length : Int) + 1 := by omega
  obtain ⟨p, b⟩ := x
  have n1 := World.new_ne w ⟨r, 1, none⟩ k1
  have n2 := World.new_ne w ⟨g, O.length * 2, none⟩ q0
  go_enter Tryd.func112, Tryd.ntmps112
  go_wp2_with fail
  go_region_held3 (fun w' => w'.cell? ⟨r, 1, none⟩ = some (.slice (some ⟨g, 0, none⟩) (O.length + 1) c) ∧ w'.cell? ⟨g, O.length * 2, none⟩ = some (.int .i64 p) ∧ w'.cell? ⟨g, O.length * 2 + 1, none⟩ = some (.bool b)) (go_keep) (fail)
  all_goals
    go_wp2
    exact bodyPost_ret (v := .agg #[.int .i64 p, .bool b]) (by simp [results, Tryd.results112, go_sem]) rfl ⟨rfl, by
      repeat (first | exact Below.refl _ _ | refine Below.setCell ?_ (by simp) _ | refine Below.drew ?_ | refine Below.alloc ?_ (by simp <;> omega) _)⟩
theorem inner_any (B r : Nat) (N : List Dat) (O : List (Int × Bool)) (w : World) (h : Rp w B r N O) (hO : O.length ≤ 1000) :
    Calls Tryd.prog 112 #[.pointer (some ⟨r, 0, none⟩)] w fun e w' => e = .returned (.agg #[.int .i64 (topO O).1, .bool (topO O).2]) ∧ Below w.heap.size w w' := by
  rcases List.eq_nil_or_concat O with rfl | ⟨P, x, rfl⟩
  · exact inner_none B r N w h
  · rw [List.concat_eq_append] at h hO ⊢
    rw [topO_in]
    exact inner_some B r N P x w h (by simp at hO; omega)
theorem whole_yes (B r : Nat) (N : List Dat) (O : List (Int × Bool)) (w : World) (h : Rp w B r N O) :
    Calls Tryd.prog 65 #[.pointer (some ⟨r, 0, none⟩)] w fun e w' => e = .returned (.bool (decide (0 < N.length) && decide (O.length = 0))) ∧ w' = w := by
  obtain ⟨aN, cN, aO, cO, k0, k1⟩ := h.cells
  have HZ : Hid (Calls Tryd.prog 71 #[.pointer (some ⟨r, 0, none⟩)] w fun e w' => e = .returned (.int .i64 (N.length : Nat)) ∧ w' = w) := size_at r N.length cN aN w k0
  clear h
  by_cases h1 : 0 < N.length
  · have b1 : (0 : Int) < (N.length : Int) := by omega
    by_cases h2 : O.length = 0
    · have b2 : ((O.length : Int) == 0) = true := by simp [h2]
      have e : (decide (0 < N.length) && decide (O.length = 0)) = true := by simp [h1, h2]
      rw [e]
      clear h1 h2 e
      go_enter Tryd.func65, Tryd.ntmps65
      go_wp2_with (go_at_call 71; refine HZ.out.mono ?_; rintro e w' ⟨rfl, rfl⟩)
      go_ret
      exact ⟨rfl, rfl⟩
    · have b2 : ((O.length : Int) == 0) = false := beq_false_of_ne (by omega)
      have e : (decide (0 < N.length) && decide (O.length = 0)) = false := by simp [h2]
      rw [e]
      clear h1 h2 e
      go_enter Tryd.func65, Tryd.ntmps65
      go_wp2_with (go_at_call 71; refine HZ.out.mono ?_; rintro e w' ⟨rfl, rfl⟩)
      go_ret
      exact ⟨rfl, rfl⟩
  · have b1 : ¬ (0 : Int) < (N.length : Int) := by omega
    have e : (decide (0 < N.length) && decide (O.length = 0)) = false := by simp [h1]
    rw [e]
    clear h1 e
    go_enter Tryd.func65, Tryd.ntmps65
    go_wp2_with (go_at_call 71; refine HZ.out.mono ?_; rintro e w' ⟨rfl, rfl⟩)
    go_ret
    exact ⟨rfl, rfl⟩
theorem room_any (B r : Nat) (N : List Dat) (O : List (Int × Bool)) (k : Nat) (w : World) (h : Rp w B r N O) (hN : N.length ≤ 1000) (hO : O.length ≤ 1000) (hk : k ≤ 2) :
    Calls Tryd.prog 95 #[.pointer (some ⟨r, 0, none⟩), .int .i64 (k : Int)] w fun e w' => e = .returned (.bool (decide (N.length + k ≤ 80) && decide (O.length + k ≤ 12))) ∧ w' = w := by
  obtain ⟨aN, cN, aO, cO, k0, k1⟩ := h.cells
  clear h
  by_cases h1 : N.length + k ≤ 80
  · have b1 : (N.length : Int) + (k : Int) ≤ 80 := by omega
    by_cases h2 : O.length + k ≤ 12
    · have b2 : (O.length : Int) + (k : Int) ≤ 12 := by omega
      have e : (decide (N.length + k ≤ 80) && decide (O.length + k ≤ 12)) = true := by simp [h1, h2]
      rw [e]
      clear h1 h2 e
      go_enter Tryd.func95, Tryd.ntmps95
      go_wp2
      go_ret
      exact ⟨rfl, rfl⟩
    · have b2 : ¬ (O.length : Int) + (k : Int) ≤ 12 := by omega
      have e : (decide (N.length + k ≤ 80) && decide (O.length + k ≤ 12)) = false := by simp [h2]
      rw [e]
      clear h1 h2 e
      go_enter Tryd.func95, Tryd.ntmps95
      go_wp2
      go_ret
      exact ⟨rfl, rfl⟩
  · have b1 : ¬ (N.length : Int) + (k : Int) ≤ 80 := by omega
    have e : (decide (N.length + k ≤ 80) && decide (O.length + k ≤ 12)) = false := by simp [h1]
    rw [e]
    clear h1 e
    go_enter Tryd.func95, Tryd.ntmps95
    go_wp2
    go_ret
    exact ⟨rfl, rfl⟩
theorem dataIn_any (k n : Int) (z : ByteArray) (w : World) :
    Calls Tryd.prog 96 #[.agg #[.int .i64 k, .int .i64 n, .string z]] w fun e w' => e = .returned (.int .i64 (if k = 3 then 2 else 1)) ∧ Below w.heap.size w w' := by
  by_cases h : k = 3
  · subst h
    go_enter Tryd.func96, Tryd.ntmps96
    go_wp2
    go_ret
    exact ⟨rfl, (Below.refl _ _).alloc (Nat.le_refl _) _⟩
  · rw [if_neg h]
    have b : (k == 3) = false := by simpa using h
    go_enter Tryd.func96, Tryd.ntmps96
    go_wp2
    go_ret
    exact ⟨rfl, (Below.refl _ _).alloc (Nat.le_refl _) _⟩
end Go.Proofs.YtoljpgpkeploiaaDoor
/-
  The program's reader of data at work: a node that is put behind the others, lists that begin and end; nothing that was there is turned but the reader.
-/
namespace Go.Proofs.YtoljpgpkeploiaaDoor
open Go.RowKit Go.Extern.Stop Go.Stop Go.Extern Num Go.Lib Go.Shelf

theorem RpAt.add {w w' : World} {B r : Nat} {vN vO : Value} {N M : List Dat} {O : List (Int × Bool)} (h : RpAt w B r vN vO N O) (hB : B ≤ w.heap.size) (ha : AddR B r vN M w w') : Rp w' B r M O ∧ Below B w w' := by
  obtain ⟨u, w1, g', c', hb, hg, ho, hat, rfl⟩ := ha
  have hsz := hb.size
  refine ⟨⟨_, vO, (h.keep hb).node hg ho (fun g e => ?_)⟩, ?_⟩
  · have : g = g' := by simp [Value.ownBlock] at e; omega
    subst this
    rcases hat with h' | h'
    · exact .inl h'
    · right; omega
  · exact Below.setCell ((hb.mono hB).grown hg (by omega) (fun k hk => ((h.fN.2.1).lt k hk).1)) (by simpa using h.hr) _
theorem field_p (p : Int) (q : Bool) (w : World) : (Instr.field 157 (.agg #[.int .i64 p, .bool q]) 0).run Tryd.prog w = .ok (.int .i64 p) w := by kernel_rfl
theorem field_q (p : Int) (q : Bool) (w : World) : (Instr.field 157 (.agg #[.int .i64 p, .bool q]) 1).run Tryd.prog w = .ok (.bool q) w := by kernel_rfl
theorem tadd_any (B r : Nat) (N : List Dat) (O : List (Int × Bool)) (p k n : Int) (z : ByteArray) (w : World) (h : Rp w B r N O) (hB : B ≤ w.heap.size) (hN : N.length < 1000) :
    Calls Tryd.prog 61 #[.pointer (some ⟨r, 0, none⟩), .int .i64 p, .agg #[.int .i64 k, .int .i64 n, .string z]] w fun e w' => e = .returned (.int .i64 (N.length : Nat)) ∧ Rp w' B r (N ++ [⟨k, p, n, z⟩]) O ∧ Below B w w' := by
  obtain ⟨vN, vO, h⟩ := h
  refine (add_any B r vN N p k n z w hB (h.fz 0) h.fN hN).mono ?_
  rintro e w' ⟨rfl, ha⟩
  exact ⟨rfl, h.add hB ha⟩
set_option maxRecDepth 100000 in
set_option maxHeartbeats 2000000 in
theorem radd_any (B r : Nat) (N : List Dat) (O : List (Int × Bool)) (k n : Int) (z : ByteArray) (w : World) (h : Rp w B r N O) (hB : B ≤ w.heap.size) (hN : N.length < 1000) (hO : O.length ≤ 1000) :
    Calls Tryd.prog 98 #[.pointer (some ⟨r, 0, none⟩), .agg #[.int .i64 k, .int .i64 n, .string z]] w fun e w' => e = .returned (.int .i64 (N.length : Nat)) ∧ Rp w' B r (N ++ [⟨k, (topO O).1, n, z⟩]) O ∧ Below B w w' := by
  have hlt := h.lt
  have HI : Hid (∀ u, Below w.heap.size w u → Calls Tryd.prog 112 #[.pointer (some ⟨r, 0, none⟩)] u fun e w' => e = .returned (.agg #[.int .i64 (topO O).1, .bool (topO O).2]) ∧ Below u.heap.size u w') := fun u hu => inner_any B r N O u (h.keep hu) hO
  have HA : Hid (∀ u, Below w.heap.size w u → Calls Tryd.prog 61 #[.pointer (some ⟨r, 0, none⟩), .int .i64 (topO O).1, .agg #[.int .i64 k, .int .i64 n, .string z]] u fun e w' => e = .returned (.int .i64 (N.length : Nat)) ∧ Rp w' B r (N ++ [⟨k, (topO O).1, n, z⟩]) O ∧ Below B w w') := fun u hu =>
    (tadd_any B r N O (topO O).1 k n z u (h.keep hu) (Nat.le_trans hB hu.size) hN).mono fun e w' h => ⟨h.1, h.2.1, (hu.mono hB).trans h.2.2⟩
  clear h hB hN hO
  generalize (topO O).2 = qt at HI
  generalize (topO O).1 = pt at HI HA ⊢
  have hfd := fun w => field_p pt qt w
  go_enter Tryd.func98, Tryd.ntmps98
  go_wp2_with fail
  go_region_with (first
    | (go_at_call 112; refine (HI.out _ (by repeat (first | exact Below.refl _ _ | refine Below.drew ?_ | refine Below.alloc ?_ (by simp <;> omega) _))).mono ?_; rintro e w1 ⟨rfl, b1⟩; obtain ⟨hc1, hf1⟩ := bcell b1; have B1 : Hid (Below w.heap.size w w1) := Below.trans (by repeat (first | exact Below.refl _ _ | refine Below.drew ?_ | refine Below.alloc ?_ (by simp <;> omega) _)) (b1.mono (by simp)); clear b1)
    | (go_at_call 61; refine (HA.out _ B1.out).mono ?_; rintro e w2 ⟨rfl, h2, b2⟩; have H2 : Hid (Rp w2 B r (N ++ [⟨k, pt, n, z⟩]) O ∧ Below B w w2) := ⟨h2, b2⟩; clear h2 b2))
  all_goals
    go_wp2
    go_ret
    exact ⟨rfl, H2.out.1, H2.out.2⟩
set_option maxRecDepth 100000 in
set_option maxHeartbeats 2000000 in
theorem begin_any (B r : Nat) (N : List Dat) (O : List (Int × Bool)) (b : Bool) (w : World) (h : Rp w B r N O) (hB : B ≤ w.heap.size) (hN : N.length < 1000) (hO : O.length < 1000) :
    Calls Tryd.prog 97 #[.pointer (some ⟨r, 0, none⟩), .bool b] w fun e w' => e = .returned (.tuple #[]) ∧ Rp w' B r (N ++ [⟨1, (topO O).1, 0, ⟨#[]⟩⟩]) (O ++ [((N.length : Int), b)]) ∧ Below B w w' := by
  have HA : Hid (Calls Tryd.prog 98 #[.pointer (some ⟨r, 0, none⟩), .agg #[.int .i64 1, .int .i64 0, .string ⟨#[]⟩]] w fun e w' => e = .returned (.int .i64 (N.length : Nat)) ∧ Rp w' B r (N ++ [⟨1, (topO O).1, 0, ⟨#[]⟩⟩]) O ∧ Below B w w') := radd_any B r N O 1 0 ⟨#[]⟩ w h hB hN (by omega)
  have hr : B ≤ r := by obtain ⟨_, _, h⟩ := h; exact h.hr
  obtain ⟨i0, hi, hz0, hz1, hz2⟩ := info_parts infoO
  clear h
  obtain ⟨M, hM⟩ : ∃ M, M = N ++ [⟨1, (topO O).1, 0, ⟨#[]⟩⟩] := ⟨_, rfl⟩
  rw [← hM] at HA ⊢
  clear hM
  go_enter Tryd.func97, Tryd.ntmps97
  go_wp2_with fail
  refine HA.out.mono ?_
  rintro e w1 ⟨rfl, h1, b1⟩
  obtain ⟨vN, vO, h1⟩ := h1
  obtain ⟨aO, cO, rfl⟩ := own_form h1.fO.2.1
  have c1 := h1.fO.1
  have fz := h1.fz 1
  have hlt := h1.fN.lt
  have hs1 := b1.size
  have HH : Hid (RpAt w1 B r vN (.slice aO O.length cO) M O) := h1
  have HB1 : Hid (Below B w w1) := b1
  have ag : (Value.slice aO O.length cO).ownBlock ≠ some r := fun e => HH.out.fO.2.2 r e rfl
  have ho : (w1.alloc (.cells #[.int .i64 (N.length : Int), .bool b] 157)).ownsRow B 157 2 (.slice aO O.length cO) O.length (cellsO O) := h1.fO.2.1.alloc _
  clear h1 b1
  go_wp2_with (at_builtin; refine wpList_append_lies _ rfl (.tmp 12) (.tmp 16) 100 rfl B 157 i0 _ 2 16 Tryd.underlying100 hi hz0 hz1 hz2 rfl (by decide) _ O.length (cellsO O) rfl ho ⟨w1.heap.size, 0, none⟩ 1 1 [.int .i64 (N.length : Int), .bool b] rfl rfl (World.news_of_block (cs := #[.int .i64 (N.length : Int), .bool b]) (t := 157) (fr := (0, 0)) (heap_new' _ _ _ rfl)) (by simp [Value.oneCell']) (by decide) (by unfold maxLen; omega) (by omega) (by simp; omega) _ rfl ?_; intro g' cap' w2 hown2 hgrow hat hlt'; obtain ⟨k1, k2⟩ := aftGrow (w := w1) ((Below.refl _ _).alloc (Nat.le_refl _) _) c1 fz hgrow ag)
  have hv : ∀ g, (Value.slice (some ⟨g', 0, none⟩) (O.length + 1) cap').ownBlock = some g → (Value.slice aO O.length cO).ownBlock = some g ∨ (w1.alloc (.cells #[.int .i64 (N.length : Int), .bool b] 157)).heap.size ≤ g := fun g e => by
    have : g = g' := by simp [Value.ownBlock] at e; omega
    subst this
    rcases hat with h' | h'
    · exact .inl h'
    · right; simp at h' ⊢; omega
  have hon : w2.ownsRow B 157 2 (.slice (some ⟨g', 0, none⟩) (O.length + 1) cap') (O ++ [((N.length : Int), b)]).length (cellsO (O ++ [((N.length : Int), b)])) := by rw [cellsO_append, List.length_append]; exact hown2
  exact bodyPost_end (v := .tuple #[]) (by simp [results, Tryd.results97]) rfl ⟨rfl, ⟨vN, _, (HH.out.keep ((Below.refl _ _).alloc (Nat.le_refl _) _)).opn hgrow hon hv⟩,
    Below.setCell ((HB1.out.alloc (by omega) _).grown hgrow (by simp; omega) (fun k hk => ((HH.out.fO.2.1).lt k hk).1)) (by simpa using hr) _⟩
/-- Quotes that end behind a datum. -/
def endQF : Nat → List (Int × Bool) → List (Int × Bool)
  | 0, O => O
  | f + 1, O => if (topO O).2 = true then endQF f O.dropLast else O
def endQ (O : List (Int × Bool)) : List (Int × Bool) := endQF O.length O
theorem endQ_nil : endQ [] = [] := rfl
theorem endQ_on (O : List (Int × Bool)) (p : Int) : endQ (O ++ [(p, true)]) = endQ O := by simp [endQ, endQF, topO]
theorem endQ_off (O : List (Int × Bool)) (p : Int) : endQ (O ++ [(p, false)]) = O ++ [(p, false)] := by simp [endQ, endQF, topO]
def lenAtP (r : Nat) (w : World) : Nat := match w.cell? ⟨r, 1, none⟩ with
  | some (.slice _ n _) => n
  | _ => 0
theorem lenAtP_of {w : World} {B r : Nat} {N : List Dat} {O : List (Int × Bool)} (h : Rp w B r N O) : lenAtP r w = O.length := by
  obtain ⟨_, _, _, _, _, k1⟩ := h.cells
  simp [lenAtP, k1]
theorem popP {w : World} {B r g c : Nat} {vN : Value} {N : List Dat} {O : List (Int × Bool)} {x : Int × Bool} (h : RpAt w B r vN (.slice (some ⟨g, 0, none⟩) (O.length + 1) c) N (O ++ [x])) :
    RpAt (w.setCell ⟨r, 1, none⟩ (.slice (some ⟨g, 0, none⟩) O.length c)) B r vN (.slice (some ⟨g, 0, none⟩) O.length c) N O := by
  refine h.opn (gb_refl _ _) ?_ (fun g hg => Or.inl hg)
  have h1 := h.fO.2.1
  rw [cellsO_append, List.length_append] at h1
  exact ownsRow_pop (by simp [cellsO_length]) h1
theorem own_capP {w : World} {base g cap : Nat} {e : TypeId} {size n : Nat} {xs : List Value} (h : w.ownsRow base e size (.slice (some ⟨g, 0, none⟩) n cap) n xs) : n ≤ cap := by
  rcases h.2 with ⟨hv, _⟩ | ⟨g', cap', cur, hv, _, _, hn, _⟩
  · cases hv
  · cases hv; exact hn
theorem Rp.last {w : World} {B r : Nat} {N : List Dat} {O : List (Int × Bool)} {x : Int × Bool} (h : Rp w B r N (O ++ [x])) :
    ∃ vN g c, RpAt w B r vN (.slice (some ⟨g, 0, none⟩) (O.length + 1) c) N (O ++ [x]) ∧ O.length + 1 ≤ c := by
  obtain ⟨vN, vO, h⟩ := h
  obtain ⟨g, c, hv, _, _⟩ := h.fO.2.1.form (by simp)
  have e1 : (O ++ [x]).length = O.length + 1 := by simp
  rw [e1] at hv
  subst hv
  exact ⟨vN, g, c, h, own_capP (e1 ▸ h.fO.2.1)⟩
set_option maxRecDepth 100000 in
set_option maxHeartbeats 2000000 in
theorem endQuotes_any (B r : Nat) (N : List Dat) (O : List (Int × Bool)) (w : World) (h : Rp w B r N O) (hB : B ≤ w.heap.size) (hO : O.length ≤ 900) :
    Calls Tryd.prog 99 #[.pointer (some ⟨r, 0, none⟩)] w fun e w' => e = .returned (.tuple #[]) ∧ Rp w' B r N (endQ O) ∧ Below B w w' := by
  obtain ⟨RW, hR⟩ : ∃ RW, RW = endQ O := ⟨_, rfl⟩
  rw [← hR]
  have HS : Hid (Rp w B r N O) := h
  have HR : Hid (RW = endQ O) := hR
  have hr : B ≤ r := by obtain ⟨_, _, h⟩ := h; exact h.hr
  clear h hR
  go_enter Tryd.func99, Tryd.ntmps99
  go_wp2_with fail
  go_loopw [] (fun wr => ∃ O' : List (Int × Bool), O'.length ≤ 900 ∧ Hid (Rp wr B r N O') ∧ Hid (endQ O' = RW) ∧ Hid (Below B w wr)) (fun wr => lenAtP r wr)
  case atStart => exact ⟨O, hO, HS.out, HR.out.symm, Below.refl _ _⟩
  case round =>
    obtain ⟨O', hO', HS', HR', HB⟩ := hrel
    have HI : Hid (Calls Tryd.prog 112 #[.pointer (some ⟨r, 0, none⟩)] wr fun e w' => e = .returned (.agg #[.int .i64 (topO O').1, .bool (topO O').2]) ∧ Below wr.heap.size wr w') := inner_any B r N O' wr HS'.out (by omega)
    have hbs : B ≤ wr.heap.size := Nat.le_trans hB HB.out.size
    rcases List.eq_nil_or_concat O' with rfl | ⟨P, ⟨p, q⟩, rfl⟩
    · have hfq := fun w => field_q (-1) false w
      have HI' : Hid (Calls Tryd.prog 112 #[.pointer (some ⟨r, 0, none⟩)] wr fun e w' => e = .returned (.agg #[.int .i64 (-1), .bool false]) ∧ Below wr.heap.size wr w') := HI.out
      clear HI
      go_wp2_with (go_at_call 112; refine HI'.out.mono ?_; rintro e w1 ⟨rfl, b1⟩)
      have e := HR'.out
      rw [endQ_nil] at e
      rw [← e]
      exact bodyPost_end (v := .tuple #[]) (by simp [results, Tryd.results99]) rfl ⟨rfl, HS'.out.keep b1, HB.out.trans (b1.mono hbs)⟩
    · rw [List.concat_eq_append] at hO' HS' HR' HI
      rw [topO_in] at HI
      have hfq := fun w => field_q p q w
      have hP : P.length < 900 := by simp at hO'; omega
      have HSz : Hid (lenAtP r wr = P.length + 1) := by have e := lenAtP_of HS'.out; rw [List.length_append] at e; exact e
      cases q with
      | false =>
        go_wp2_with (go_at_call 112; refine HI.out.mono ?_; rintro e w1 ⟨rfl, b1⟩)
        have e := HR'.out
        rw [endQ_off] at e
        rw [← e]
        exact bodyPost_end (v := .tuple #[]) (by simp [results, Tryd.results99]) rfl ⟨rfl, HS'.out.keep b1, HB.out.trans (b1.mono hbs)⟩
      | true =>
        go_wp2_with (go_at_call 112; refine HI.out.mono ?_; rintro e w1 ⟨rfl, b1⟩)
        obtain ⟨vN, g, c, h1, hc⟩ := (HS'.out.keep b1).last
        have HB1 : Hid (Below B w w1) := HB.out.trans (b1.mono hbs)
        have c1 := h1.fO.1
        have fz := h1.fz
        have hlt := h1.fN.lt
        have HH : Hid (RpAt w1 B r vN (.slice (some ⟨g, 0, none⟩) (P.length + 1) c) N (P ++ [(p, true)])) := h1
        clear h1 b1
        have hwO : IntKind.i64.wrap (P.length : Int) = (P.length : Int) := by rw [IntKind.wrap_i64]; omega
        have hn1 : (0 : Int) ≤ (P.length : Int) := by omega
        have hn2 : (P.length : Int) ≤ (c : Int) := by omega
        have hn3 : (P.length : Int) ≤ ((P.length + 1 : Nat) : Int) := by omega
        go_region_law (fail)
        all_goals
          have R : Hid (RpAt (w1.drew.setCell ⟨r, 1, none⟩ (.slice (some ⟨g, 0, none⟩) P.length c)) B r vN (.slice (some ⟨g, 0, none⟩) P.length c) N P) := popP (HH.out.keep (Below.drew (Below.refl _ _)))
          have RB : Hid (Below B w (w1.drew.setCell ⟨r, 1, none⟩ (.slice (some ⟨g, 0, none⟩) P.length c))) := Below.setCell HB1.out.drew (by simpa using hr) _
          have hl := lenAtP_of (⟨_, _, R.out⟩ : Rp _ B r N P)
          have HL : Hid (lenAtP r (w1.drew.setCell ⟨r, 1, none⟩ (.slice (some ⟨g, 0, none⟩) P.length c)) < lenAtP r wr) := by
            show _ < _
            rw [HSz.out, hl]; omega
          clear hl
          go_wp2_with fail
          exact ⟨⟨P, by omega, ⟨_, _, R.out⟩, by rw [← endQ_on P p]; exact HR'.out, RB.out⟩, HL.out⟩
theorem endList_none (B r : Nat) (N : List Dat) (w : World) (h : Rp w B r N []) :
    Calls Tryd.prog 94 #[.pointer (some ⟨r, 0, none⟩)] w fun e w' => e = .returned (.int .i64 1) ∧ w' = w := by
  obtain ⟨_, _, aO, cO, _, k1⟩ := h.cells
  clear h
  simp only [List.length_nil] at k1
  go_enter Tryd.func94, Tryd.ntmps94
  go_wp2
  go_ret
  exact ⟨rfl, rfl⟩
theorem endList_quote (B r : Nat) (N : List Dat) (O : List (Int × Bool)) (p : Int) (w : World) (h : Rp w B r N (O ++ [(p, true)])) (hO : O.length < 900) :
    Calls Tryd.prog 94 #[.pointer (some ⟨r, 0, none⟩)] w fun e w' => e = .returned (.int .i64 1) ∧ Below w.heap.size w w' := by
  have HI : Hid (Calls Tryd.prog 112 #[.pointer (some ⟨r, 0, none⟩)] w fun e w' => e = .returned (.agg #[.int .i64 p, .bool true]) ∧ Below w.heap.size w w') := inner_some B r N O (p, true) w h (by omega)
  obtain ⟨_, _, aO, cO, _, k1⟩ := h.cells
  rw [List.length_append] at k1
  clear h
  have hne : ((O.length : Int) + 1 == 0) = false := beq_false_of_ne (by omega)
  have hfq := fun w => field_q p true w
  go_enter Tryd.func94, Tryd.ntmps94
  go_wp2_with (go_at_call 112; refine HI.out.mono ?_; rintro e w1 ⟨rfl, b1⟩)
  go_ret
  exact ⟨rfl, b1⟩
set_option maxRecDepth 100000 in
set_option maxHeartbeats 2000000 in
theorem endList_yes (B r : Nat) (N : List Dat) (O : List (Int × Bool)) (p : Int) (w : World) (h : Rp w B r N (O ++ [(p, false)])) (hB : B ≤ w.heap.size) (hO : O.length < 900) :
    Calls Tryd.prog 94 #[.pointer (some ⟨r, 0, none⟩)] w fun e w' => e = .returned (.int .i64 0) ∧ Rp w' B r N (endQ O) ∧ Below B w w' := by
  have HI : Hid (Calls Tryd.prog 112 #[.pointer (some ⟨r, 0, none⟩)] w fun e w' => e = .returned (.agg #[.int .i64 p, .bool false]) ∧ Below w.heap.size w w') := inner_some B r N O (p, false) w h (by omega)
  obtain ⟨_, _, aO, cO, _, k1⟩ := h.cells
  rw [List.length_append] at k1
  have hr : B ≤ r := by obtain ⟨_, _, h⟩ := h; exact h.hr
  have HS : Hid (Rp w B r N (O ++ [(p, false)])) := h
  clear h
  have hne : ((O.length : Int) + 1 == 0) = false := beq_false_of_ne (by omega)
  have hfq := fun w => field_q p false w
  go_enter Tryd.func94, Tryd.ntmps94
  go_wp2_with (go_at_call 112; refine HI.out.mono ?_; rintro e w1 ⟨rfl, b1⟩)
  obtain ⟨vN, g, c, h1, hc⟩ := (HS.out.keep b1).last
  have HB1 : Hid (Below B w w1) := b1.mono hB
  have c1 := h1.fO.1
  have fz := h1.fz
  have hlt := h1.fN.lt
  have HH : Hid (RpAt w1 B r vN (.slice (some ⟨g, 0, none⟩) (O.length + 1) c) N (O ++ [(p, false)])) := h1
  have hs1 : B ≤ w1.heap.size := Nat.le_trans hB b1.size
  clear h1 b1
  have hwO : IntKind.i64.wrap (O.length : Int) = (O.length : Int) := by rw [IntKind.wrap_i64]; omega
  have hn1 : (0 : Int) ≤ (O.length : Int) := by omega
  have hn2 : (O.length : Int) ≤ (c : Int) := by omega
  have hn3 : (O.length : Int) ≤ ((O.length + 1 : Nat) : Int) := by omega
  go_region_law (fail)
  all_goals
    have R : Hid (RpAt (w1.drew.setCell ⟨r, 1, none⟩ (.slice (some ⟨g, 0, none⟩) O.length c)) B r vN (.slice (some ⟨g, 0, none⟩) O.length c) N O) := popP (HH.out.keep (Below.drew (Below.refl _ _)))
    have RB : Hid (Below B w (w1.drew.setCell ⟨r, 1, none⟩ (.slice (some ⟨g, 0, none⟩) O.length c))) := Below.setCell HB1.out.drew (by simpa using hr) _
    have HE : Hid (Calls Tryd.prog 99 #[.pointer (some ⟨r, 0, none⟩)] (w1.drew.setCell ⟨r, 1, none⟩ (.slice (some ⟨g, 0, none⟩) O.length c)) fun e w' => e = .returned (.tuple #[]) ∧ Rp w' B r N (endQ O) ∧ Below B w w') := (endQuotes_any B r N O _ ⟨_, _, R.out⟩ (by simp; exact hs1) (by omega)).mono fun e w' h => ⟨h.1, h.2.1, RB.out.trans h.2.2⟩
    go_wp2_with fail
    refine HE.out.mono ?_
    rintro e w2 ⟨rfl, h2, b2⟩
    have H2 : Hid (Rp w2 B r N (endQ O) ∧ Below B w w2) := ⟨h2, b2⟩
    clear h2 b2
    go_wp2
    go_ret
    exact ⟨rfl, H2.out.1, H2.out.2⟩
end Go.Proofs.YtoljpgpkeploiaaDoor
/-
  The program's reader takes a token: what it comes to; nothing that was there is turned but the reader.
-/
namespace Go.Proofs.YtoljpgpkeploiaaDoor
open Go.RowKit Go.Extern.Stop Go.Stop Go.Extern Num Go.Lib Go.Shelf

def quoteB : ByteArray := ⟨#[113, 117, 111, 116, 101]⟩
/-- Whether there is room. -/
def roomP (N : List Dat) (O : List (Int × Bool)) (k : Nat) : Bool := decide (N.length + k ≤ 80) && decide (O.length + k ≤ 12)
abbrev tokA (k n : Int) (z : ByteArray) : Value := .agg #[.int .i64 k, .int .i64 n, .string z]
theorem below_box {w w' : World} {B : Nat} (o : Obj) (hB : B ≤ w.heap.size) (h : Below B (w.alloc o) w') : Below B w w' := ((Below.refl B w).alloc hB o).trans h
/-- A bracket that ends a list, where the reader's own answer is known. -/
theorem take_close (r : Nat) (c : Int) (n : Int) (z : ByteArray) (w : World) (R : World → Prop)
    (he : Calls Tryd.prog 94 #[.pointer (some ⟨r, 0, none⟩)] (w.alloc (.cells #[.int .i64 2, .int .i64 n, .string z] 74)) fun e w' => e = .returned (.int .i64 c) ∧ R w') :
    Calls Tryd.prog 66 #[.pointer (some ⟨r, 0, none⟩), tokA 2 n z] w fun e w' => e = .returned (.int .i64 c) ∧ R w' := by
  have HE : Hid (Calls Tryd.prog 94 #[.pointer (some ⟨r, 0, none⟩)] (w.alloc (.cells #[.int .i64 2, .int .i64 n, .string z] 74)) fun e w' => e = .returned (.int .i64 c) ∧ R w') := he
  clear he
  go_enter Tryd.func66, Tryd.ntmps66
  go_wp2_with fail
  refine HE.out.mono ?_
  rintro e w1 ⟨rfl, h1⟩
  have H1 : Hid (R w1) := h1
  clear h1
  go_wp2
  go_ret
  exact ⟨rfl, H1.out⟩
theorem dataIn_one (k n : Int) (z : ByteArray) (w : World) (h : k ≠ 3) : Calls Tryd.prog 96 #[.agg #[.int .i64 k, .int .i64 n, .string z]] w fun e w' => e = .returned (.int .i64 1) ∧ Below w.heap.size w w' := by
  have := dataIn_any k n z w; rw [if_neg h] at this; exact this
theorem dataIn_two (n : Int) (z : ByteArray) (w : World) : Calls Tryd.prog 96 #[.agg #[.int .i64 3, .int .i64 n, .string z]] w fun e w' => e = .returned (.int .i64 2) ∧ Below w.heap.size w w' := dataIn_any 3 n z w
set_option maxHeartbeats 1000000 in
theorem take_full (B r : Nat) (N : List Dat) (O : List (Int × Bool)) (k n : Int) (z : ByteArray) (w : World) (h : Rp w B r N O) (hN : N.length ≤ 1000) (hO : O.length ≤ 1000) (hk : k ≠ 2) (hf : roomP N O (if k = 3 then 2 else 1) = false) :
    Calls Tryd.prog 66 #[.pointer (some ⟨r, 0, none⟩), tokA k n z] w fun e w' => e = .returned (.int .i64 2) ∧ Below w.heap.size w w' := by
  have hlt := h.lt
  have hk2 : (k == 2) = false := by simpa using hk
  obtain ⟨d, hd⟩ : ∃ d : Nat, d = if k = 3 then 2 else 1 := ⟨_, rfl⟩
  rw [← hd] at hf
  have hd2 : d ≤ 2 := by rw [hd]; split <;> omega
  have HD : Hid (∀ u, Calls Tryd.prog 96 #[.agg #[.int .i64 k, .int .i64 n, .string z]] u fun e w' => e = .returned (.int .i64 (d : Int)) ∧ Below u.heap.size u w') := fun u => by
    have := dataIn_any k n z u
    have e : (if k = 3 then (2 : Int) else 1) = (d : Int) := by rw [hd]; split <;> rfl
    rw [e] at this; exact this
  have HM : Hid (∀ u, Below w.heap.size w u → Calls Tryd.prog 95 #[.pointer (some ⟨r, 0, none⟩), .int .i64 (d : Int)] u fun e w' => e = .returned (.bool false) ∧ w' = u) := fun u hu => by
    have := room_any B r N O d u (h.keep hu) hN hO hd2
    unfold roomP at hf
    rw [hf] at this; exact this
  clear h hf hd hk
  go_enter Tryd.func66, Tryd.ntmps66
  go_wp2_with fail
  refine (HD.out _).mono ?_
  rintro e w1 ⟨rfl, b1⟩
  have HB1 : Hid (Below w.heap.size w w1) := ((Below.refl _ w).alloc (Nat.le_refl _) _).trans (b1.mono (by simp))
  clear b1
  go_wp2_with fail
  refine (HM.out _ HB1.out).mono ?_
  rintro e w2 ⟨rfl, hw2⟩
  replace hw2 := hw2.symm
  subst hw2
  go_wp2
  go_ret
  exact ⟨rfl, HB1.out⟩
set_option maxHeartbeats 1000000 in
theorem take_open (B r : Nat) (N : List Dat) (O : List (Int × Bool)) (n : Int) (z : ByteArray) (w : World) (h : Rp w B r N O) (hB : B ≤ w.heap.size) (hf : roomP N O 1 = true) :
    Calls Tryd.prog 66 #[.pointer (some ⟨r, 0, none⟩), tokA 1 n z] w fun e w' => e = .returned (.int .i64 0) ∧ Rp w' B r (N ++ [⟨1, (topO O).1, 0, ⟨#[]⟩⟩]) (O ++ [((N.length : Int), false)]) ∧ Below B w w' := by
  have hlt := h.lt
  have hl : N.length + 1 ≤ 80 ∧ O.length + 1 ≤ 12 := by unfold roomP at hf; simpa using hf
  have HM : Hid (∀ u, Below w.heap.size w u → Calls Tryd.prog 95 #[.pointer (some ⟨r, 0, none⟩), .int .i64 1] u fun e w' => e = .returned (.bool true) ∧ w' = u) := fun u hu => by
    have := room_any B r N O 1 u (h.keep hu) (by omega) (by omega) (by omega)
    unfold roomP at hf
    rw [hf] at this; exact this
  have HG : Hid (∀ u, Below w.heap.size w u → Calls Tryd.prog 97 #[.pointer (some ⟨r, 0, none⟩), .bool false] u fun e w' => e = .returned (.tuple #[]) ∧ Rp w' B r (N ++ [⟨1, (topO O).1, 0, ⟨#[]⟩⟩]) (O ++ [((N.length : Int), false)]) ∧ Below B w w') := fun u hu =>
    (begin_any B r N O false u (h.keep hu) (Nat.le_trans hB hu.size) (by omega) (by omega)).mono fun e w' h => ⟨h.1, h.2.1, (hu.mono hB).trans h.2.2⟩
  clear h hf hl
  generalize N ++ [⟨1, (topO O).1, 0, ⟨#[]⟩⟩] = M at HG ⊢
  generalize O ++ [((N.length : Int), false)] = L at HG ⊢
  go_enter Tryd.func66, Tryd.ntmps66
  go_wp2_with fail
  refine (dataIn_one 1 n z _ (by decide)).mono ?_
  rintro e w1 ⟨rfl, b1⟩
  have HB1 : Hid (Below w.heap.size w w1) := ((Below.refl _ w).alloc (Nat.le_refl _) _).trans (b1.mono (by simp))
  have d0 : w1.cell? ⟨w.heap.size, 0, none⟩ = some (.int .i64 1) := by rw [(bcell b1).1 _ _ (by simp)]; simp
  clear b1
  go_wp2_with fail
  refine (HM.out _ HB1.out).mono ?_
  rintro e w2 ⟨rfl, hw2⟩
  replace hw2 := hw2.symm
  subst hw2
  go_wp2_with fail
  refine (HG.out _ HB1.out).mono ?_
  rintro e w3 ⟨rfl, h3, b3⟩
  have H3 : Hid (Rp w3 B r M L ∧ Below B w w3) := ⟨h3, b3⟩
  clear h3 b3
  go_wp2
  go_ret
  exact ⟨rfl, H3.out.1, H3.out.2⟩
set_option maxHeartbeats 1000000 in
theorem take_quote (B r : Nat) (N : List Dat) (O : List (Int × Bool)) (n : Int) (z : ByteArray) (w : World) (h : Rp w B r N O) (hB : B ≤ w.heap.size) (hf : roomP N O 2 = true) :
    Calls Tryd.prog 66 #[.pointer (some ⟨r, 0, none⟩), tokA 3 n z] w fun e w' => e = .returned (.int .i64 0) ∧ Rp w' B r (N ++ [⟨1, (topO O).1, 0, ⟨#[]⟩⟩] ++ [⟨6, (N.length : Int), 0, quoteB⟩]) (O ++ [((N.length : Int), true)]) ∧ Below B w w' := by
  have hlt := h.lt
  have hl : N.length + 2 ≤ 80 ∧ O.length + 2 ≤ 12 := by unfold roomP at hf; simpa using hf
  have HM : Hid (∀ u, Below w.heap.size w u → Calls Tryd.prog 95 #[.pointer (some ⟨r, 0, none⟩), .int .i64 2] u fun e w' => e = .returned (.bool true) ∧ w' = u) := fun u hu => by
    have := room_any B r N O 2 u (h.keep hu) (by omega) (by omega) (by omega)
    unfold roomP at hf
    rw [hf] at this; exact this
  have HG : Hid (∀ u, Below w.heap.size w u → Calls Tryd.prog 97 #[.pointer (some ⟨r, 0, none⟩), .bool true] u fun e w' => e = .returned (.tuple #[]) ∧ Rp w' B r (N ++ [⟨1, (topO O).1, 0, ⟨#[]⟩⟩]) (O ++ [((N.length : Int), true)]) ∧ Below B w w') := fun u hu =>
    (begin_any B r N O true u (h.keep hu) (Nat.le_trans hB hu.size) (by omega) (by omega)).mono fun e w' h => ⟨h.1, h.2.1, (hu.mono hB).trans h.2.2⟩
  have HA : Hid (∀ u, Rp u B r (N ++ [⟨1, (topO O).1, 0, ⟨#[]⟩⟩]) (O ++ [((N.length : Int), true)]) → Below B w u → Calls Tryd.prog 98 #[.pointer (some ⟨r, 0, none⟩), .agg #[.int .i64 6, .int .i64 0, .string ⟨#[113, 117, 111, 116, 101]⟩]] u fun e w' => (∃ v, e = .returned v) ∧ Rp w' B r (N ++ [⟨1, (topO O).1, 0, ⟨#[]⟩⟩] ++ [⟨6, (N.length : Int), 0, quoteB⟩]) (O ++ [((N.length : Int), true)]) ∧ Below B w w') := fun u hu hbu => by
    refine (radd_any B r _ _ 6 0 ⟨#[113, 117, 111, 116, 101]⟩ u hu (Nat.le_trans hB hbu.size) (by simp; omega) (by simp; omega)).mono fun e w' h => ?_
    rw [topO_in] at h
    exact ⟨⟨_, h.1⟩, h.2.1, hbu.trans h.2.2⟩
  clear h hf hl
  generalize N ++ [⟨1, (topO O).1, 0, ⟨#[]⟩⟩] ++ [⟨6, (N.length : Int), 0, quoteB⟩] = M2 at HA ⊢
  generalize N ++ [⟨1, (topO O).1, 0, ⟨#[]⟩⟩] = M at HG HA
  generalize O ++ [((N.length : Int), true)] = L at HG HA ⊢
  go_enter Tryd.func66, Tryd.ntmps66
  go_wp2_with fail
  refine (dataIn_two n z _).mono ?_
  rintro e w1 ⟨rfl, b1⟩
  have HB1 : Hid (Below w.heap.size w w1) := ((Below.refl _ w).alloc (Nat.le_refl _) _).trans (b1.mono (by simp))
  have d0 : w1.cell? ⟨w.heap.size, 0, none⟩ = some (.int .i64 3) := by rw [(bcell b1).1 _ _ (by simp)]; simp
  clear b1
  go_wp2_with fail
  refine (HM.out _ HB1.out).mono ?_
  rintro e w2 ⟨rfl, hw2⟩
  replace hw2 := hw2.symm
  subst hw2
  go_wp2_with fail
  refine (HG.out _ HB1.out).mono ?_
  rintro e w3 ⟨rfl, h3, b3⟩
  have H3 : Hid (Rp w3 B r M L) := h3
  have HB3 : Hid (Below B w w3) := b3
  clear h3 b3
  go_wp2_with fail
  refine (HA.out _ H3.out HB3.out).mono ?_
  rintro e w4 ⟨⟨v, rfl⟩, h4, b4⟩
  have H4 : Hid (Rp w4 B r M2 L ∧ Below B w w4) := ⟨h4, b4⟩
  clear h4 b4
  go_wp2
  go_ret
  exact ⟨rfl, H4.out.1, H4.out.2⟩
set_option maxHeartbeats 1000000 in
theorem take_leaf (B r : Nat) (N : List Dat) (O : List (Int × Bool)) (k n : Int) (z : ByteArray) (w : World) (h : Rp w B r N O) (hB : B ≤ w.heap.size) (hf : roomP N O 1 = true) (h1 : k ≠ 1) (h2 : k ≠ 2) (h3 : k ≠ 3) :
    Calls Tryd.prog 66 #[.pointer (some ⟨r, 0, none⟩), tokA k n z] w fun e w' => e = .returned (.int .i64 0) ∧ Rp w' B r (N ++ [⟨k, (topO O).1, n, z⟩]) (endQ O) ∧ Below B w w' := by
  have hlt := h.lt
  have hl : N.length + 1 ≤ 80 ∧ O.length + 1 ≤ 12 := by unfold roomP at hf; simpa using hf
  have HM : Hid (∀ u, Below w.heap.size w u → Calls Tryd.prog 95 #[.pointer (some ⟨r, 0, none⟩), .int .i64 1] u fun e w' => e = .returned (.bool true) ∧ w' = u) := fun u hu => by
    have := room_any B r N O 1 u (h.keep hu) (by omega) (by omega) (by omega)
    unfold roomP at hf
    rw [hf] at this; exact this
  have HA : Hid (∀ u, Below w.heap.size w u → Calls Tryd.prog 98 #[.pointer (some ⟨r, 0, none⟩), .agg #[.int .i64 k, .int .i64 n, .string z]] u fun e w' => (∃ v, e = .returned v) ∧ Rp w' B r (N ++ [⟨k, (topO O).1, n, z⟩]) O ∧ Below B w w') := fun u hu =>
    (radd_any B r N O k n z u (h.keep hu) (Nat.le_trans hB hu.size) (by omega) (by omega)).mono fun e w' h => ⟨⟨_, h.1⟩, h.2.1, (hu.mono hB).trans h.2.2⟩
  have HE : Hid (∀ u, Rp u B r (N ++ [⟨k, (topO O).1, n, z⟩]) O → Below B w u → Calls Tryd.prog 99 #[.pointer (some ⟨r, 0, none⟩)] u fun e w' => e = .returned (.tuple #[]) ∧ Rp w' B r (N ++ [⟨k, (topO O).1, n, z⟩]) (endQ O) ∧ Below B w w') := fun u hu hbu =>
    (endQuotes_any B r _ O u hu (Nat.le_trans hB hbu.size) (by omega)).mono fun e w' h => ⟨h.1, h.2.1, hbu.trans h.2.2⟩
  clear h hf hl
  have b1 : (k == 1) = false := by simpa using h1
  have b2 : (k == 2) = false := by simpa using h2
  have b3 : (k == 3) = false := by simpa using h3
  have HD : Hid (∀ u, Calls Tryd.prog 96 #[.agg #[.int .i64 k, .int .i64 n, .string z]] u fun e w' => e = .returned (.int .i64 1) ∧ Below u.heap.size u w') := fun u => dataIn_one k n z u h3
  generalize N ++ [⟨k, (topO O).1, n, z⟩] = M at HA HE ⊢
  generalize endQ O = L at HE ⊢
  clear h1 h2 h3
  go_enter Tryd.func66, Tryd.ntmps66
  go_wp2_with fail
  refine (HD.out _).mono ?_
  rintro e w1 ⟨rfl, q1⟩
  have HB1 : Hid (Below w.heap.size w w1) := ((Below.refl _ w).alloc (Nat.le_refl _) _).trans (q1.mono (by simp))
  have d0 : w1.cell? ⟨w.heap.size, 0, none⟩ = some (.int .i64 k) := by rw [(bcell q1).1 _ _ (by simp)]; simp
  have d1 : w1.cell? ⟨w.heap.size, 1, none⟩ = some (.int .i64 n) := by rw [(bcell q1).1 _ _ (by simp)]; simp
  have d2 : w1.cell? ⟨w.heap.size, 2, none⟩ = some (.string z) := by rw [(bcell q1).1 _ _ (by simp)]; simp
  clear q1
  go_wp2_with fail
  refine (HM.out _ HB1.out).mono ?_
  rintro e w2 ⟨rfl, hw2⟩
  replace hw2 := hw2.symm
  subst hw2
  go_wp2_with fail
  refine (HA.out _ HB1.out).mono ?_
  rintro e w3 ⟨⟨v, rfl⟩, h3, b3'⟩
  have H3 : Hid (Rp w3 B r M O) := h3
  have HB3 : Hid (Below B w w3) := b3'
  clear h3 b3'
  go_wp2_with fail
  refine (HE.out _ H3.out HB3.out).mono ?_
  rintro e w4 ⟨rfl, h4, b4⟩
  have H4 : Hid (Rp w4 B r M L ∧ Below B w w4) := ⟨h4, b4⟩
  clear h4 b4
  go_wp2
  go_ret
  exact ⟨rfl, H4.out.1, H4.out.2⟩
end Go.Proofs.YtoljpgpkeploiaaDoor
/-
  The program's reader against the model's: a token that is taken comes to the same; nothing that was there is turned but the reader.
-/
namespace Go.Proofs.YtoljpgpkeploiaaDoor
open Go.RowKit Go.Extern.Stop Go.Stop Go.Extern Num Go.Lib Go.Shelf

/-- The open lists of the model's reader, as the program has them. -/
def zipO (s : RS) : List (Int × Bool) := s.O.zip s.Q
theorem zipO_len {s : RS} (h : s.ok) : (zipO s).length = s.O.length := by unfold zipO; rw [List.length_zip, h.1]; omega
theorem nodes_append (a b : List Dat) : nodes (a ++ b) = nodes a ++ nodes b := by unfold nodes; exact List.map_append
theorem zip_append {O : List Int} {Q : List Bool} (h : Q.length = O.length) (x : Int) (b : Bool) : (O ++ [x]).zip (Q ++ [b]) = O.zip Q ++ [(x, b)] := by
  rw [List.zip_append h.symm]; rfl
/-- The open lists, and their last. -/
theorem RS.cases {s : RS} (h : s.ok) : (s.O = [] ∧ s.Q = []) ∨ ∃ P x P2 b, s.O = P ++ [x] ∧ s.Q = P2 ++ [b] ∧ P2.length = P.length := by
  rcases List.eq_nil_or_concat s.O with e | ⟨P, x, e⟩
  · left
    refine ⟨e, List.eq_nil_of_length_eq_zero ?_⟩
    rw [h.1, e]; rfl
  · right
    rw [List.concat_eq_append] at e
    have hl := h.1
    rw [e] at hl
    rcases List.eq_nil_or_concat s.Q with e2 | ⟨P2, b, e2⟩
    · rw [e2] at hl; simp at hl
    · rw [List.concat_eq_append] at e2
      rw [e2] at hl
      exact ⟨P, x, P2, b, e, e2, by simpa using hl⟩
theorem top_zip {s : RS} (h : s.ok) : (topO (zipO s)).1 = topP s.O := by
  rcases RS.cases h with ⟨e1, e2⟩ | ⟨P, x, P2, b, e1, e2, hl⟩
  · unfold zipO; rw [e1, e2]; rfl
  · unfold zipO; rw [e1, e2, zip_append hl, topO_in, topP_in]
theorem endQ_zip : ∀ (m : Nat) (O : List Int) (Q : List Bool), O.length = m → Q.length = O.length → endQ (O.zip Q) = (whole O Q).1.zip (whole O Q).2 := by
  intro m
  induction m with
  | zero =>
    intro O Q h1 h2
    obtain rfl := List.eq_nil_of_length_eq_zero h1
    obtain rfl := List.eq_nil_of_length_eq_zero (h2.trans rfl)
    rfl
  | succ m ih =>
    intro O Q h1 h2
    rcases List.eq_nil_or_concat O with rfl | ⟨P, x, rfl⟩
    · simp at h1
    rcases List.eq_nil_or_concat Q with rfl | ⟨P2, b, rfl⟩
    · simp at h2
    rw [List.concat_eq_append] at h1 h2 ⊢
    rw [List.concat_eq_append] at h2 ⊢
    have hl : P2.length = P.length := by simpa using h2
    rw [zip_append hl]
    cases b with
    | true => rw [endQ_on, whole_on]; exact ih P P2 (by simpa using h1) hl
    | false => rw [endQ_off, whole_off, zip_append hl]
theorem room_not (a b k m : Nat) (hm : k = m + 1) : (decide (a + k ≤ 80) && decide (b + k ≤ 12)) = !(decide (80 ≤ a + m) || decide (12 ≤ b + m)) := by
  have e1 : decide (a + k ≤ 80) = !decide (80 ≤ a + m) := by rw [← decide_not]; exact decide_eq_decide.2 (by omega)
  have e2 : decide (b + k ≤ 12) = !decide (12 ≤ b + m) := by rw [← decide_not]; exact decide_eq_decide.2 (by omega)
  rw [e1, e2]
  cases decide (80 ≤ a + m) <;> cases decide (12 ≤ b + m) <;> rfl
theorem room_one {s : RS} (h : s.ok) : roomP (nodes s.D) (zipO s) 1 = !(fullB s.D s.O) := by
  unfold roomP fullB
  rw [nodes_len, zipO_len h]
  exact room_not _ _ 1 0 rfl
theorem room_two {s : RS} (h : s.ok) : roomP (nodes s.D) (zipO s) 2 = !(fullB (lstS s true).D (lstS s true).O) := by
  unfold roomP fullB
  rw [nodes_len, zipO_len h]
  have e1 : (lstS s true).D.length = s.D.length + 1 := by simp [lstS]
  have e2 : (lstS s true).O.length = s.O.length + 1 := by simp [lstS]
  rw [e1, e2]
  exact room_not _ _ 2 1 rfl
theorem full_lst {s : RS} (h : fullB s.D s.O = true) : fullB (lstS s true).D (lstS s true).O = true := by
  unfold fullB at h ⊢
  simp [lstS] at h ⊢
  omega
/-- What a token that is taken comes to. -/
def StepP (c : Int) (o : Option RS) (w : World) (B r : Nat) (e : Ending) (w' : World) : Prop :=
  Below B w w' ∧ match o with
  | none => e = .returned (.int .i64 c)
  | some s => e = .returned (.int .i64 0) ∧ Rp w' B r (nodes s.D) (zipO s)
theorem nodes_lst {s : RS} (h : s.ok) (b : Bool) : nodes (lstS s b).D = nodes s.D ++ [⟨1, (topO (zipO s)).1, 0, ⟨#[]⟩⟩] := by
  show nodes (s.D ++ [_]) = _
  rw [nodes_append, top_zip h]; rfl
theorem zip_lst {s : RS} (h : s.ok) (b : Bool) : zipO (lstS s b) = zipO s ++ [(((nodes s.D).length : Int), b)] := by
  show (s.O ++ [_]).zip (s.Q ++ [b]) = _
  rw [zip_append h.1, nodes_len]; rfl
theorem zip_whole {s : RS} (h : s.ok) : zipO (wholeS s) = endQ (zipO s) := (endQ_zip s.O.length s.O s.Q rfl h.1).symm
theorem take_any (B r : Nat) (s : RS) (t : Tok) (w : World) (h : Rp w B r (nodes s.D) (zipO s)) (hs : s.ok) (hD : s.D.length ≤ 80) (hB : B ≤ w.heap.size) (h1 : 1 ≤ t.kind) (h6 : t.kind ≤ 6) :
    Calls Tryd.prog 66 #[.pointer (some ⟨r, 0, none⟩), tokA t.kind t.num t.name] w fun e w' => StepP (tokS s t).1 (tokS s t).2 w B r e w' := by
  obtain ⟨k, n, z⟩ := t
  have hzl := zipO_len hs
  have hnl := nodes_len s.D
  have hol := hs.2
  have h1' : 1 ≤ k := h1
  have h6' : k ≤ 6 := h6
  show Calls Tryd.prog 66 #[.pointer (some ⟨r, 0, none⟩), tokA k n z] w _
  by_cases k1 : k = 1
  · subst k1
    have et : tokS s ⟨1, n, z⟩ = (2, beginS s false) := by simp [tokS]
    rw [et]
    cases hf : fullB s.D s.O with
    | true =>
      have eb : beginS s false = none := by simp [beginS, hf]
      rw [eb]
      refine (take_full B r _ _ 1 n z w h (by omega) (by omega) (by decide) (by show roomP _ _ 1 = false; rw [room_one hs, hf]; rfl)).mono ?_
      rintro e w' ⟨he, hb⟩
      exact ⟨hb.mono hB, he⟩
    | false =>
      have eb : beginS s false = some (lstS s false) := by simp [beginS, hf]
      rw [eb]
      refine (take_open B r _ _ n z w h hB (by rw [room_one hs, hf]; rfl)).mono ?_
      rintro e w' ⟨he, hr, hb⟩
      exact ⟨hb, he, by rw [nodes_lst hs, zip_lst hs]; exact hr⟩
  by_cases k3 : k = 3
  · subst k3
    have et : tokS s ⟨3, n, z⟩ = (2, beginS s true) := by simp [tokS]
    rw [et]
    cases hf2 : fullB (lstS s true).D (lstS s true).O with
    | true =>
      have eb : beginS s true = none := by
        cases hf : fullB s.D s.O with
        | true => simp [beginS, hf]
        | false => simp [beginS, hf, putS, hf2]
      rw [eb]
      refine (take_full B r _ _ 3 n z w h (by omega) (by omega) (by decide) (by show roomP _ _ 2 = false; rw [room_two hs, hf2]; rfl)).mono ?_
      rintro e w' ⟨he, hb⟩
      exact ⟨hb.mono hB, he⟩
    | false =>
      have hf : fullB s.D s.O = false := by
        cases hf : fullB s.D s.O with
        | true => rw [full_lst hf] at hf2; cases hf2
        | false => rfl
      have eb : beginS s true = some ⟨(lstS s true).D ++ [⟨3, topP (lstS s true).O, 0, quoteZ⟩], (lstS s true).O, (lstS s true).Q⟩ := by simp [beginS, hf, putS, hf2]
      rw [eb]
      refine (take_quote B r _ _ n z w h hB (by rw [room_two hs, hf2]; rfl)).mono ?_
      rintro e w' ⟨he, hr, hb⟩
      refine ⟨hb, he, ?_⟩
      show Rp w' B r (nodes ((lstS s true).D ++ [_])) (zipO (lstS s true))
      rw [nodes_append, nodes_lst hs, zip_lst hs]
      have e3 : topP (lstS s true).O = ((nodes s.D).length : Int) := by rw [nodes_len]; exact topP_in _ _
      rw [e3]
      exact hr
  by_cases k2 : k = 2
  · subst k2
    have et : tokS s ⟨2, n, z⟩ = (1, if s.O = [] ∨ s.Q.getLast? = some true then none else some (wholeS ⟨s.D, s.O.dropLast, s.Q.dropLast⟩)) := by simp [tokS]
    rw [et]
    have hal : Below w.heap.size w (w.alloc (.cells #[.int .i64 2, .int .i64 n, .string z] 74)) := (Below.refl _ _).alloc (Nat.le_refl _) _
    have hk := h.keep hal
    rcases RS.cases hs with ⟨e1, e2⟩ | ⟨P, x, P2, b, e1, e2, hl⟩
    · rw [if_pos (.inl e1)]
      have ez : zipO s = [] := by unfold zipO; rw [e1]; rfl
      rw [ez] at hk
      refine (take_close r 1 n z w (fun w' => Below w.heap.size w w') ((endList_none B r _ _ hk).mono fun e w' h => ⟨h.1, by rw [h.2]; exact hal⟩)).mono ?_
      rintro e w' ⟨he, hb⟩
      exact ⟨hb.mono hB, he⟩
    · have ez : zipO s = P.zip P2 ++ [(x, b)] := by unfold zipO; rw [e1, e2, zip_append hl]
      have hPl : (P.zip P2).length < 900 := by rw [List.length_zip]; rw [e1] at hol; simp at hol; omega
      rw [ez] at hk
      cases b with
      | true =>
        rw [if_pos (.inr (by rw [e2]; simp))]
        refine (take_close r 1 n z w (fun w' => Below w.heap.size w w') ((endList_quote B r _ _ x _ hk hPl).mono fun e w' h => ⟨h.1, hal.trans (h.2.mono (by simp))⟩)).mono ?_
        rintro e w' ⟨he, hb⟩
        exact ⟨hb.mono hB, he⟩
      | false =>
        rw [if_neg (by rw [e1, e2]; simp)]
        refine (take_close r 0 n z w (fun w' => Rp w' B r (nodes s.D) (endQ (P.zip P2)) ∧ Below B w w') ((endList_yes B r _ _ x _ hk (by simp; omega) hPl).mono fun e w' h => ⟨h.1, h.2.1, (hal.mono hB).trans h.2.2⟩)).mono ?_
        rintro e w' ⟨he, hr, hb⟩
        refine ⟨hb, he, ?_⟩
        have ew : zipO (wholeS ⟨s.D, s.O.dropLast, s.Q.dropLast⟩) = endQ (P.zip P2) := by
          rw [e1, e2]
          simp only [List.dropLast_concat]
          exact (endQ_zip P.length P P2 rfl hl).symm
        rw [ew]
        exact hr
  have et : tokS s ⟨k, n, z⟩ = (2, (putS s (k - 3) n z).map wholeS) := by simp [tokS, k1, k2, k3]
  rw [et]
  cases hf : fullB s.D s.O with
  | true =>
    have eb : putS s (k - 3) n z = none := by simp [putS, hf]
    rw [eb]
    refine (take_full B r _ _ k n z w h (by omega) (by omega) k2 (by rw [if_neg k3, room_one hs, hf]; rfl)).mono ?_
    rintro e w' ⟨he, hb⟩
    exact ⟨hb.mono hB, he⟩
  | false =>
    have eb : putS s (k - 3) n z = some ⟨s.D ++ [⟨k - 3, topP s.O, n, z⟩], s.O, s.Q⟩ := by simp [putS, hf]
    rw [eb]
    refine (take_leaf B r _ _ k n z w h hB (by rw [room_one hs, hf]; rfl) k1 k2 k3).mono ?_
    rintro e w' ⟨he, hr, hb⟩
    refine ⟨hb, he, ?_⟩
    show Rp w' B r (nodes (s.D ++ [_])) (zipO (wholeS ⟨_, s.O, s.Q⟩))
    have ek : nodD ⟨k - 3, topP s.O, n, z⟩ = ⟨k, (topO (zipO s)).1, n, z⟩ := by
      have : tkD (k - 3) = k := by
        rcases (by omega : k = 4 ∨ k = 5 ∨ k = 6) with rfl | rfl | rfl <;> decide
      unfold nodD
      rw [top_zip hs]
      simp only [this]
    rw [nodes_append, show nodes [(⟨k - 3, topP s.O, n, z⟩ : Dat)] = [nodD ⟨k - 3, topP s.O, n, z⟩] from rfl, ek]
    have ew : zipO (wholeS ⟨s.D ++ [⟨k - 3, topP s.O, n, z⟩], s.O, s.Q⟩) = endQ (zipO s) := (endQ_zip s.O.length s.O s.Q rfl hs.1).symm
    rw [ew]
    exact hr
end Go.Proofs.YtoljpgpkeploiaaDoor
/-
  The program's readTokens: data that are read of tokens; nothing that was there is turned.
-/
namespace Go.Proofs.YtoljpgpkeploiaaDoor
open Go.RowKit Go.Extern.Stop Go.Stop Go.Extern Num Go.Lib Go.Shelf

/-- An answer of readTokens. -/
def AnsRT (R : List Dat × Int × Int) (w : World) (e : Ending) (w' : World) : Prop :=
  ∃ ao cp, e = .returned (.agg #[.int .i64 R.2.1, .int .i64 R.2.2, .slice ao R.1.length cp]) ∧ w'.ownsRow w.heap.size 51 4 (.slice ao R.1.length cp) R.1.length (cellsD R.1) ∧ Below w.heap.size w w'
/-- Where a reading stands: nothing yet, or something. -/
def AtR (k : Nat) (s : RS) : Prop := (k = 0 ∧ s.D = [] ∧ s.O = []) ∨ (0 < k ∧ s.D ≠ [])
theorem rp_new (w : World) : Rp (w.alloc (.cells #[.slice none 0 0, .slice none 0 0] 102)) w.heap.size w.heap.size (nodes []) (zipO ⟨[], [], []⟩) := by
  refine ⟨.slice none 0 0, .slice none 0 0, Nat.le_refl _, fun o => ?_, ⟨by simp, World.ownsRow_nil _ _ _ _, fun g h => by simp [Value.ownBlock] at h⟩, ⟨by simp, World.ownsRow_nil _ _ _ _, fun g h => by simp [Value.ownBlock] at h⟩, fun g h => by simp [Value.ownBlock] at h⟩
  simp only [World.frozen?]; rw [heap_alloc_new]; simp
theorem Rp.own {w : World} {B r : Nat} {N : List Dat} {O : List (Int × Bool)} (h : Rp w B r N O) : OwnT B r N w := by
  obtain ⟨vN, vO, h⟩ := h
  exact ⟨h.hr, h.fz 0, vN, h.fN⟩
/-- The answer's block, and the reader's. -/
abbrev laidR (w : World) : World := w.alloc (.cells #[.int .i64 0, .int .i64 0, .slice none 0 0] 30)
set_option maxRecDepth 100000 in
set_option maxHeartbeats 4000000 in
theorem readTokens_any (a : Option Addr) (cap : Nat) (l : List Tok) (w : World) (hl : l.length ≤ 1048576)
    (ht : ∀ (k : Nat) (h : k < l.length), ∃ g, a = some ⟨g, 0, none⟩ ∧ TokCell w g (k * 3) l[k] ∧ 1 ≤ l[k].kind ∧ l[k].kind ≤ 6 ∧ l[k].name.size ≤ 1048576) :
    Calls Tryd.prog 37 #[.slice a l.length cap] w fun e w' => AnsRT (readD l) w e w' := by
  obtain ⟨R, hR⟩ : ∃ R, R = readD l := ⟨_, rfl⟩
  rw [← hR]
  have HR : Hid (R = readD l) := hR
  have HT : Hid (∀ (k : Nat) (h : k < l.length), ∃ g, a = some ⟨g, 0, none⟩ ∧ TokCell w g (k * 3) l[k] ∧ 1 ≤ l[k].kind ∧ l[k].kind ≤ 6 ∧ l[k].name.size ≤ 1048576) := ht
  clear hR ht
  go_enter Tryd.func37, Tryd.ntmps37
  go_wp2_with fail
  go_loopw [4] (fun i wr => ∃ (k : Nat) (s : RS), k ≤ l.length ∧ i = .int .i64 (k : Int) ∧ Hid (Rp wr (w.heap.size + 1) (w.heap.size + 1) (nodes s.D) (zipO s)) ∧ Hid s.ok ∧ Hid (Fit s.D s.O) ∧ Hid (AtR k s) ∧ Hid (readFrom k s (l.drop k) = R) ∧ Hid (Below (w.heap.size + 1) (laidR w) wr)) (fun i _ => l.length - (RowKit.intOf i).toNat)
  case atStart => exact ⟨0, ⟨[], [], []⟩, Nat.zero_le _, rfl, (by have := rp_new (laidR w); rw [World.size_alloc] at this; exact this), ⟨rfl, by simp⟩, Fit.nil, .inl ⟨rfl, rfl, rfl⟩, by show _ = _; rw [HR.out]; rfl, (Below.refl _ _).alloc (by simp) _⟩
  case round =>
    obtain ⟨k, s, hk, rfl, HS, HK, HFt, HM, HF, HB⟩ := hrel
    obtain ⟨hc1, hf1⟩ := bcell (W := laidR w) (by rw [World.size_alloc]; exact HB.out)
    have HB1 : Hid (Below w.heap.size w wr) := ((Below.refl _ w).alloc (Nat.le_refl _) _).trans (HB.out.mono (by omega))
    have hs1 : w.heap.size + 1 < wr.heap.size := HS.out.lt
    have HW : Hid (Calls Tryd.prog 65 #[.pointer (some ⟨w.heap.size + 1, 0, none⟩)] wr fun e w' => e = .returned (.bool (decide (0 < (nodes s.D).length) && decide ((zipO s).length = 0))) ∧ w' = wr) := whole_yes _ _ _ _ wr HS.out
    rw [nodes_len, zipO_len HK.out] at HW
    by_cases hlt : k < l.length
    · by_cases hwh : 0 < s.D.length ∧ s.O.length = 0
      · have eb : (decide (0 < s.D.length) && decide (s.O.length = 0)) = true := by simp [hwh]
        rw [eb] at HW
        have hO : s.O = [] := List.eq_nil_of_length_eq_zero hwh.2
        have h0 : 0 < k := by
          rcases HM.out with h | h
          · rw [h.2.1] at hwh; simp at hwh
          · exact h.1
        have HE : Hid (R = ([], 1, (k : Int))) := by show _ = _; rw [← HF.out, read_drop hlt, readFrom, if_pos ⟨h0, hO⟩]
        clear hwh eb hO h0 HF
        go_wp2_with (go_at_call 65; refine HW.out.mono ?_; rintro e w' ⟨rfl, rfl⟩)
        refine bodyPost_ret (v := .agg #[.int .i64 1, .int .i64 (k : Int), .slice none 0 0]) (by simp [results, Tryd.results37, go_sem, hc1]) rfl ?_
        rw [HE.out]
        refine ⟨none, 0, rfl, World.ownsRow_nil _ _ _ _, ?_⟩
        repeat (first | exact HB1.out | refine Below.setCell ?_ (by simp) _)
      · have eb : (decide (0 < s.D.length) && decide (s.O.length = 0)) = false := by
          rw [Bool.and_eq_false_iff, decide_eq_false_iff_not, decide_eq_false_iff_not]
          by_cases h : 0 < s.D.length
          · exact .inr fun h2 => hwh ⟨h, h2⟩
          · exact .inl h
        rw [eb] at HW
        obtain ⟨g, rfl, tc, t1, t6, tz⟩ := HT.out k hlt
        have c0 := cell_keep HB1.out tc.1
        have c1 := cell_keep HB1.out tc.2.1
        have c2 := cell_keep HB1.out tc.2.2
        have hstop : ¬ (0 < k ∧ s.O = []) := by
          rintro ⟨h0, hO⟩
          rcases HM.out with h | h
          · omega
          · exact hwh ⟨List.length_pos_iff.2 h.2, by rw [hO]; rfl⟩
        have hmay : May s.D s.O := by
          rcases HM.out with h | h
          · exact .inl h.2
          · exact .inr fun hO => hstop ⟨h.1, hO⟩
        have HQ : Hid (Calls Tryd.prog 66 #[.pointer (some ⟨w.heap.size + 1, 0, none⟩), tokA (l[k]'hlt).kind (l[k]'hlt).num (l[k]'hlt).name] wr fun e w' => StepP (tokS s (l[k]'hlt)).1 (tokS s (l[k]'hlt)).2 wr (w.heap.size + 1) (w.heap.size + 1) e w') := take_any (w.heap.size + 1) (w.heap.size + 1) s (l[k]'hlt) wr HS.out HK.out HFt.out.len (by omega) t1 t6
        have hcode := tokS_code s (l[k]'hlt)
        have HKn : Hid (∀ s', (tokS s (l[k]'hlt)).2 = some s' → s'.ok ∧ Fit s'.D s'.O ∧ s'.D ≠ []) := fun s' e => ⟨tokS_ok HK.out e, tokS_fit HFt.out HK.out hmay e t1 t6 tz⟩
        obtain ⟨c, hc⟩ : ∃ c, c = (tokS s (l[k]'hlt)).1 := ⟨_, rfl⟩
        obtain ⟨o', ho⟩ : ∃ o', o' = (tokS s (l[k]'hlt)).2 := ⟨_, rfl⟩
        rw [← hc, ← ho] at HQ
        rw [← hc] at hcode
        rw [← ho] at HKn
        have HE : Hid (R = o'.elim ([], c, (k : Int)) (fun s' => readFrom (k + 1) s' (l.drop (k + 1)))) := by
          show _ = _
          rw [← HF.out, read_drop hlt, readFrom, if_neg hstop, ← hc, ← ho]
        have hin0 : (0 : Int) ≤ (k : Int) := by omega
        have hin1 : (k : Int) < (l.length : Int) := by omega
        clear hc ho hstop hwh eb hmay tc t1 t6 tz HF
        go_wp2_with (go_at_call 65; refine HW.out.mono ?_; rintro e w' ⟨rfl, rfl⟩)
        refine HQ.out.mono ?_
        rintro e w' ⟨hb, hx⟩
        have hb' : Below (w.heap.size + 1) (laidR w) w' := HB.out.trans hb
        obtain ⟨hc2, hf2⟩ := bcell (W := laidR w) (by rw [World.size_alloc]; exact hb')
        have HB3 : Hid (Below (w.heap.size + 1) (laidR w) w') := hb'
        have HB2 : Hid (Below w.heap.size w w') := ((Below.refl _ w).alloc (Nat.le_refl _) _).trans (hb'.mono (by omega))
        have hs2 := hb.size
        clear hb hb'
        cases o' with
        | none =>
          obtain rfl := hx
          have hcz : (c != 0) = true := by rcases hcode with rfl | rfl <;> rfl
          have HE2 : Hid (R = ([], c, (k : Int))) := HE.out
          go_wp2
          refine bodyPost_ret (v := .agg #[.int .i64 c, .int .i64 (k : Int), .slice none 0 0]) (by simp [results, Tryd.results37, go_sem, hc2]) rfl ?_
          rw [HE2.out]
          refine ⟨none, 0, rfl, World.ownsRow_nil _ _ _ _, ?_⟩
          repeat (first | exact HB2.out | refine Below.setCell ?_ (by simp) _)
        | some s' =>
          obtain ⟨rfl, hx⟩ := hx
          have HX : Hid (Rp w' (w.heap.size + 1) (w.heap.size + 1) (nodes s'.D) (zipO s')) := hx
          have HE2 : Hid (readFrom (k + 1) s' (l.drop (k + 1)) = R) := HE.out.symm
          obtain ⟨ok', fit', ne'⟩ := HKn.out s' rfl
          have HK2 : Hid s'.ok := ok'
          have HF2 : Hid (Fit s'.D s'.O) := fit'
          have HM2 : Hid (AtR (k + 1) s') := .inr ⟨by omega, ne'⟩
          clear hx ok' fit' ne'
          go_wp2
          exact ⟨⟨k + 1, s', by omega, by first | rfl | go_num, HX.out, HK2.out, HF2.out, HM2.out, HE2.out, HB3.out⟩, by simp [RowKit.intOf]; omega⟩
    · have hkl : k = l.length := by omega
      have HF2 : Hid (readFrom k s [] = R) := by have := HF.out; rwa [List.drop_eq_nil_of_le (by omega)] at this
      clear HF
      by_cases hwh : 0 < s.D.length ∧ s.O.length = 0
      · have eb : (decide (0 < s.D.length) && decide (s.O.length = 0)) = true := by simp [hwh]
        rw [eb] at HW
        have hO : s.O = [] := List.eq_nil_of_length_eq_zero hwh.2
        have hD : s.D ≠ [] := List.length_pos_iff.1 hwh.1
        have HE : Hid (R = (s.D, 0, 0)) := by show _ = _; rw [← HF2.out, readFrom, if_neg (fun h => h.elim hD (fun h => h hO))]
        have HD : Hid (Calls Tryd.prog 51 #[.pointer (some ⟨w.heap.size + 1, 0, none⟩), .int .i64 0] wr fun r W' => ∃ ao c, r = .returned (.slice ao s.D.length c) ∧ W'.ownsRow wr.heap.size 51 4 (.slice ao s.D.length c) s.D.length (cellsD s.D) ∧ Below wr.heap.size wr W') := by
          refine ((callsIn_wide (n := 9)).1 (dataBelow_in 9 (by omega) _ (nodes s.D) 0 s.D.length (HFt.out.ends hD) (by rw [nodes_len]; have := HFt.out.len; omega) HFt.out.pdn wr HS.out.own.tree)).mono ?_
          rintro r W' ⟨v, rfl, h1, h2⟩
          rw [HFt.out.told] at h1
          obtain ⟨ao, c, rfl⟩ := own_form h1
          exact ⟨ao, c, rfl, h1, h2⟩
        clear hwh eb hO hD HF2
        generalize s.D = D at HD HE
        subst hkl
        go_wp2_with (go_at_call 65; refine HW.out.mono ?_; rintro e w' ⟨rfl, hw⟩; have hw' := hw.symm; clear hw; subst hw')
        refine HD.out.mono ?_
        rintro e w2 ⟨ao', c', rfl, ho2, hb2⟩
        obtain ⟨hc2, hf2⟩ := bcell hb2
        have HO2 : Hid (w2.ownsRow wr.heap.size 51 4 (.slice ao' D.length c') D.length (cellsD D)) := ho2
        have HB2 : Hid (Below w.heap.size w w2) := HB1.out.trans (hb2.mono (by omega))
        have hs2 := hb2.size
        have hsz : w.heap.size < wr.heap.size := by omega
        have d0 : w2.cell? ⟨w.heap.size, 0, none⟩ = some (.int .i64 0) := by rw [hc2 _ _ hsz, hc1 _ _ (by simp)]; simp
        have d1 : w2.cell? ⟨w.heap.size, 1, none⟩ = some (.int .i64 0) := by rw [hc2 _ _ hsz, hc1 _ _ (by simp)]; simp
        have d2 : w2.cell? ⟨w.heap.size, 2, none⟩ = some (.slice none 0 0) := by rw [hc2 _ _ hsz, hc1 _ _ (by simp)]; simp
        clear ho2 hb2
        go_wp2
        refine bodyPost_ret (v := .agg #[.int .i64 0, .int .i64 0, .slice ao' D.length c']) (by simp [results, Tryd.results37, go_sem, d0, d1, d2]) rfl ?_
        rw [HE.out]
        refine ⟨ao', c', rfl, ?_, ?_⟩
        · refine own_base (base := wr.heap.size) ?_ (by omega)
          repeat (first | exact HO2.out | refine own_set_low ?_ hsz _)
        · repeat (first | exact HB2.out | refine Below.setCell ?_ (by simp) _)
      · have eb : (decide (0 < s.D.length) && decide (s.O.length = 0)) = false := by
          rw [Bool.and_eq_false_iff, decide_eq_false_iff_not, decide_eq_false_iff_not]
          by_cases h : 0 < s.D.length
          · exact .inr fun h2 => hwh ⟨h, h2⟩
          · exact .inl h
        rw [eb] at HW
        have hbad : s.D = [] ∨ s.O ≠ [] := by
          by_cases h : s.D = []
          · exact .inl h
          · exact .inr fun hO => hwh ⟨List.length_pos_iff.2 h, by rw [hO]; rfl⟩
        have HE : Hid (R = ([], 1, (l.length : Int))) := by show _ = _; rw [← HF2.out, readFrom, if_pos hbad, hkl]
        clear hwh eb hbad HF2
        subst hkl
        go_wp2_with (go_at_call 65; refine HW.out.mono ?_; rintro e w' ⟨rfl, rfl⟩)
        refine bodyPost_ret (v := .agg #[.int .i64 1, .int .i64 (l.length : Int), .slice none 0 0]) (by simp [results, Tryd.results37, go_sem, hc1]) rfl ?_
        rw [HE.out]
        refine ⟨none, 0, rfl, World.ownsRow_nil _ _ _ _, ?_⟩
        repeat (first | exact HB1.out | refine Below.setCell ?_ (by simp) _)
end Go.Proofs.YtoljpgpkeploiaaDoor
/-
  The exact law of ReadData answers true at every text, in every world in which the listed variables hold what the program's text lays; nothing that was there is turned.
-/
namespace Go.Proofs.YtoljpgpkeploiaaDoor
open Go.RowKit Go.Extern.Stop Go.Stop Go.Extern Num Go.Lib

/-- An answer of ReadData, its parts known. -/
def AnsRC (c a : Int) (l : List Dat) (w : World) (e : Ending) (w' : World) : Prop :=
  ∃ ao cap, e = .returned (.agg #[.int .i64 c, .int .i64 a, .slice ao l.length cap]) ∧ w'.ownsRow w.heap.size 51 4 (.slice ao l.length cap) l.length (cellsD l) ∧ Below w.heap.size w w'
theorem lawReadD_long (s : ByteArray) (w : World) (h : 1048576 < (s.size : Int)) :
    Calls Tryd.prog 4 #[.string s] w fun e w' => e = .returned (.bool true) ∧ Below w.heap.size w w' := by
  go_enter Tryd.func4, Tryd.ntmps4
  go_wp2
  go_ret
  exact ⟨rfl, Below.refl _ _⟩
set_option maxRecDepth 100000 in
set_option maxHeartbeats 4000000 in
theorem lawReadD_of (s : ByteArray) (c a : Int) (l : List Dat) (w : World) (hL : LR w) (h : ¬ 1048576 < (s.size : Int)) (hl : l.length ≤ 120)
    (hs : ∀ w, Calls Tryd.prog 13 #[.string s] w fun e w' => AnsRC c a l w e w')
    (hi : ∀ w, LR w → Calls Tryd.prog 14 #[.string s] w fun e w' => AnsRC c a l w e w') :
    Calls Tryd.prog 4 #[.string s] w fun e w' => e = .returned (.bool true) ∧ Below w.heap.size w w' := by
  have HS : Hid (∀ w, Calls Tryd.prog 13 #[.string s] w fun e w' => AnsRC c a l w e w') := hs
  have HI : Hid (∀ w, LR w → Calls Tryd.prog 14 #[.string s] w fun e w' => AnsRC c a l w e w') := hi
  clear hs hi
  go_enter Tryd.func4, Tryd.ntmps4
  go_wp2_with fail
  refine (HS.out _).mono ?_
  rintro e w1 ⟨ao, ca, rfl, o1, b1⟩
  have O1 : Hid (w1.ownsRow w.heap.size 51 4 (.slice ao l.length ca) l.length (cellsD l)) := o1
  have B1 : Hid (Below w.heap.size w w1) := b1
  have s1 : w.heap.size ≤ w1.heap.size := b1.size
  clear o1 b1
  go_wp2_with fail
  refine (HI.out _ ((hL.below B1.out).alloc _)).mono ?_
  rintro e w2 ⟨bo, cb, rfl, o2, b2⟩
  have O2 : Hid (World.ownsRow w2 _ 51 4 (.slice bo l.length cb) l.length (cellsD l)) := o2
  have B2 : Hid _ := b2
  obtain ⟨c2, f2⟩ := bcell b2
  have s2 : w1.heap.size < w2.heap.size := by have := b2.size; simp at this; omega
  have hg2 : ∀ g, (Value.slice bo l.length cb).ownBlock = some g → w1.heap.size < g ∧ g < w2.heap.size := fun g hg => by have := o2.lt g hg; simp at this; omega
  have hg1 : ∀ g, (Value.slice ao l.length ca).ownBlock = some g → g < w1.heap.size := fun g hg => (O1.out.lt g hg).2
  clear o2 b2
  go_wp2_with fail
  have X2 : Hid (BoxD w1.heap.size w2.heap.size c a ao bo l.length ca cb (w2.alloc (.cells #[.int .i64 c, .int .i64 a, .slice bo l.length cb] 30))) := BoxD.mk' B2.out
  have BB2 : Hid (Below w.heap.size w (w2.alloc (.cells #[.int .i64 c, .int .i64 a, .slice bo l.length cb] 30))) := ((B1.out.alloc s1 _).trans (B2.out.mono (by simp; omega))).alloc (by omega) _
  have O1a : Hid (World.ownsRow (w2.alloc (.cells #[.int .i64 c, .int .i64 a, .slice bo l.length cb] 30)) w.heap.size 51 4 (.slice ao l.length ca) l.length (cellsD l)) := (own_below (O1.out.alloc _) B2.out).alloc _
  have O2a : Hid (World.ownsRow (w2.alloc (.cells #[.int .i64 c, .int .i64 a, .slice bo l.length cb] 30)) _ 51 4 (.slice bo l.length cb) l.length (cellsD l)) := O2.out.alloc _
  clear c2 f2
  refine (eqRD_same c a bo ao cb ca _ _ l _ (by omega) O2a.out O1a.out).mono ?_
  rintro e w3 ⟨rfl, b3⟩
  have X3 : Hid (BoxD w1.heap.size w2.heap.size c a ao bo l.length ca cb w3) := X2.out.below b3
  have BB3 : Hid (Below w.heap.size w w3) := BB2.out.trans (b3.mono (by simp; omega))
  have O1b : Hid _ := own_below O1a.out b3
  have O2b : Hid (World.ownsRow w3 _ 51 4 (.slice bo l.length cb) l.length (cellsD l)) := own_below O2a.out b3
  have s3 : w2.heap.size < w3.heap.size := by have := b3.size; simp at this; omega
  have q0 := X3.out.q0
  have q1 := X3.out.q1
  have q2 := X3.out.q2
  clear b3
  go_wp2_with fail
  clear q0 q1 q2
  refine (markRD_any c a bo cb _ l _ (by omega) O2b.out).mono ?_
  rintro e w4 ⟨rfl, o4, g4⟩
  have O4 : Hid (World.ownsRow w4 _ 51 4 (.slice bo l.length cb) l.length (cellsD (marksD 1 l.length))) := o4
  have X4 : Hid (BoxD w1.heap.size w2.heap.size c a ao bo l.length ca cb w4) := X3.out.grown g4 (fun e => by have := hg2 _ e.symm; omega) (fun e => by have := hg2 _ e.symm; omega)
  have BB4 : Hid (Below w.heap.size w w4) := BB3.out.trans (below_of_grown g4 (by omega) (fun k hk => by have := hg2 k hk; omega))
  have O1c : Hid _ := own_apart O1b.out g4 (fun g hg e => by have h1 := hg1 g hg; have h2 := hg2 g e; omega)
  have s4 : w3.heap.size ≤ w4.heap.size := g4.size
  have q0 := X4.out.q0
  have q1 := X4.out.q1
  have q2 := X4.out.q2
  clear o4 g4
  obtain ⟨m, hm⟩ : ∃ m : Nat, m = 1 + 4 * l.length := ⟨_, rfl⟩
  have HM : Hid (m = 1 + 4 * l.length) := hm
  rw [← hm]
  clear hm
  go_wp2_with fail
  clear q0 q1 q2
  refine (heldRD_any c a bo cb _ l.length _ (by omega) O4.out).mono ?_
  rintro e w5 ⟨rfl, b5⟩
  rw [← HM.out]
  have X5 : Hid (BoxD w1.heap.size w2.heap.size c a ao bo l.length ca cb w5) := X4.out.below b5
  have BB5 : Hid (Below w.heap.size w w5) := BB4.out.trans (b5.mono (by omega))
  have O1d : Hid _ := own_below O1c.out b5
  have O4b : Hid _ := own_below O4.out b5
  have s5 : w4.heap.size ≤ w5.heap.size := b5.size
  clear b5
  go_wp2_with fail
  refine (HI.out _ (hL.below BB5.out)).mono ?_
  rintro e w6 ⟨ho, ch, rfl, o6, b6⟩
  have O6 : Hid (World.ownsRow w6 _ 51 4 (.slice ho l.length ch) l.length (cellsD l)) := o6
  have X6 : Hid (BoxD w1.heap.size w2.heap.size c a ao bo l.length ca cb w6) := X5.out.below b6
  have BB6 : Hid (Below w.heap.size w w6) := BB5.out.trans (b6.mono (by omega))
  have O1e : Hid _ := own_below O1d.out b6
  have O4c : Hid _ := own_below O4b.out b6
  have s6 : w5.heap.size ≤ w6.heap.size := b6.size
  have p0 := X6.out.p0
  have p1 := X6.out.p1
  have p2 := X6.out.p2
  clear o6 b6
  have l1 : w1.heap.size < w6.heap.size := by omega
  go_wp2_with fail
  clear p0 p1 p2
  refine (eqRD_same c a ho ao ch ca _ _ l _ (by omega) (O6.out.alloc _) (World.ownsRow.alloc O1e.out _)).mono ?_
  rintro e w7 ⟨rfl, b7⟩
  have X7 : Hid (BoxD w1.heap.size w2.heap.size c a ao bo l.length ca cb w7) := (X6.out.below ((Below.refl _ _).alloc (Nat.le_refl _) _)).below b7
  have BB7 : Hid (Below w.heap.size w w7) := (BB6.out.alloc (by omega) _).trans (b7.mono (by simp; omega))
  have O4d : Hid _ := own_below (World.ownsRow.alloc O4c.out _) b7
  have s7 : w6.heap.size ≤ w7.heap.size := by have := b7.size; simp at this; omega
  have q0 := X7.out.q0
  have q1 := X7.out.q1
  have q2 := X7.out.q2
  clear b7
  go_wp2_with fail
  clear q0 q1 q2
  refine (heldRD_any c a bo cb _ l.length _ (by omega) O4d.out).mono ?_
  rintro e w8 ⟨rfl, b8⟩
  rw [← HM.out]
  have BB8 : Hid (Below w.heap.size w w8) := BB7.out.trans (b8.mono (by omega))
  clear b8
  go_wp2
  go_ret
  exact ⟨rfl, BB8.out⟩
end Go.Proofs.YtoljpgpkeploiaaDoor
/-
  ReadData, the program's and the model's: what is read of a text; nothing that was there is turned.
-/
namespace Go.Proofs.YtoljpgpkeploiaaDoor
open Go.RowKit Go.Extern.Stop Go.Stop Go.Extern Num Go.Lib Go.Shelf

theorem ansTC {s : ByteArray} {c a : Int} {l : List Tok} (h : TOf s c a l) {w w' : World} {e : Ending} (h' : AnsT s w e w') : ∃ ao cap, e = .returned (.agg #[.int .i64 c, .int .i64 a, .slice ao l.length cap]) ∧ w'.ownsRow w.heap.size 74 3 (.slice ao l.length cap) l.length (cellsOf l) ∧ Below w.heap.size w w' := by
  obtain ⟨ao, cap, c', a', l', rfl, ht, ho, hb⟩ := h'
  obtain ⟨rfl, rfl, rfl⟩ := tof_one ht h
  exact ⟨ao, cap, rfl, ho, hb⟩
theorem tok_cells {w : World} {base g cap : Nat} {l : List Tok} (h : w.ownsRow base 74 3 (.slice (some ⟨g, 0, none⟩) l.length cap) l.length (cellsOf l)) (k : Nat) (hk : k < l.length) :
    w.cell? ⟨g, k * 3, none⟩ = some (.int .i64 l[k].kind) ∧ w.cell? ⟨g, k * 3 + 1, none⟩ = some (.int .i64 l[k].num) ∧ w.cell? ⟨g, k * 3 + 2, none⟩ = some (.string l[k].name) := by
  have ha : ∀ j, (⟨g, 0, none⟩ : Addr).add j = ⟨g, j, none⟩ := fun j => by unfold Addr.add; split <;> simp_all
  have hc := h.cells (g := g) rfl
  obtain ⟨h1, h2, h3⟩ := cellsOf_at l k hk
  exact ⟨by rw [← ha]; exact hc _ _ h1, by rw [← ha]; exact hc _ _ h2, by rw [← ha]; exact hc _ _ h3⟩
theorem tok_rows {w : World} {base cap : Nat} {ao : Option Addr} {l : List Tok} (h : w.ownsRow base 74 3 (.slice ao l.length cap) l.length (cellsOf l)) (hl : ∀ t ∈ l, TokFit t) :
    ∀ (k : Nat) (h : k < l.length), ∃ g, ao = some ⟨g, 0, none⟩ ∧ TokCell w g (k * 3) l[k] ∧ 1 ≤ l[k].kind ∧ l[k].kind ≤ 6 ∧ l[k].name.size ≤ 1048576 := fun k hk => by
  obtain ⟨g, c, e, _, _⟩ := h.form (by omega)
  obtain ⟨rfl, rfl⟩ : ao = some ⟨g, 0, none⟩ ∧ cap = c := by simp at e; exact e
  have hr := tok_cells h k hk
  obtain ⟨t1, t6, tz⟩ := hl l[k] (List.getElem_mem hk)
  exact ⟨g, rfl, ⟨hr.1, hr.2.1, hr.2.2⟩, t1, t6, tz⟩
set_option maxHeartbeats 1000000 in
theorem implRD_any (s : ByteArray) (c a : Int) (l : List Tok) (w : World) (h : TOf s c a l) (hL : LR w) :
    Calls Tryd.prog 14 #[.string s] w fun e w' => AnsRC (rdOf c a l).2.1 (rdOf c a l).2.2 (rdOf c a l).1 w e w' := by
  have HT : Hid (∀ w, LR w → Calls Tryd.prog 36 #[.string s] w fun e w' => ∃ ao cap, e = .returned (.agg #[.int .i64 c, .int .i64 a, .slice ao l.length cap]) ∧ w'.ownsRow w.heap.size 74 3 (.slice ao l.length cap) l.length (cellsOf l) ∧ Below w.heap.size w w') := fun w hL => (implOf_any s w hL).mono fun _ _ h' => ansTC h h'
  have HF : Hid (∀ t ∈ l, TokFit t) := tof_fit h
  have hl := tof_len h
  clear h
  by_cases hz : c = 0
  · subst hz
    have HR : Hid (rdOf 0 a l = readD l) := by show _ = _; unfold rdOf; rw [if_pos rfl]
    obtain ⟨R, hR⟩ : ∃ R, R = readD l := ⟨_, rfl⟩
    rw [HR.out, ← hR]
    have HR2 : Hid (R = readD l) := hR
    clear hR
    go_enter Tryd.func14, Tryd.ntmps14
    go_wp2_with fail
    refine (HT.out _ (hL.alloc _)).mono ?_
    rintro e w1 ⟨ao, cap, rfl, ho, hb⟩
    have HO : Hid (w1.ownsRow _ 74 3 (.slice ao l.length cap) l.length (cellsOf l)) := ho
    obtain ⟨hc1, hf1⟩ := bcell hb
    have hs1 : w.heap.size < w1.heap.size := by have := hb.size; simp at this; omega
    have HB1 : Hid (Below w.heap.size w w1) := ((Below.refl _ w).alloc (Nat.le_refl _) _).trans (hb.mono (by simp))
    clear ho hb
    have HRT : Hid (∀ o : Obj, Calls Tryd.prog 37 #[.slice ao l.length cap] (w1.alloc o) fun e w' => AnsRT R (w1.alloc o) e w') := fun o => by rw [HR2.out]; exact readTokens_any ao cap l (w1.alloc o) (by omega) (tok_rows (HO.out.alloc o) HF.out)
    go_wp2_with fail
    refine (HRT.out _).mono ?_
    rintro e w2 ⟨ao2, c2, rfl, ho2, hb2⟩
    obtain ⟨hc2, hf2⟩ := bcell hb2
    have HO2 : Hid (w2.ownsRow _ 51 4 (.slice ao2 R.1.length c2) R.1.length (cellsD R.1)) := ho2
    have HB2 : Hid (Below w.heap.size w w2) := (HB1.out.alloc HB1.out.size _).trans (hb2.mono (by simp; omega))
    have hs2 : w1.heap.size < w2.heap.size := by have := hb2.size; simp at this; omega
    have d0 : w2.cell? ⟨w.heap.size, 0, none⟩ = some (.int .i64 0) := by rw [hc2 _ _ (by simp; omega)]; exact cell_laid _ (by rw [hc1 _ _ (by simp)]; simp)
    have d1 : w2.cell? ⟨w.heap.size, 1, none⟩ = some (.int .i64 0) := by rw [hc2 _ _ (by simp; omega)]; exact cell_laid _ (by rw [hc1 _ _ (by simp)]; simp)
    have d2 : w2.cell? ⟨w.heap.size, 2, none⟩ = some (.slice none 0 0) := by rw [hc2 _ _ (by simp; omega)]; exact cell_laid _ (by rw [hc1 _ _ (by simp)]; simp)
    clear ho2 hb2
    go_wp2
    refine bodyPost_ret (v := .agg #[.int .i64 R.2.1, .int .i64 R.2.2, .slice ao2 R.1.length c2]) (by simp [results, Tryd.results14, go_sem, d0, d1, d2]) rfl ⟨ao2, c2, rfl, ?_, ?_⟩
    · refine own_base (base := (w1.heap.size + 1)) ?_ (by omega)
      repeat (first | (have := HO2.out; rw [World.size_alloc] at this; exact this) | refine own_set_low ?_ (by omega) _)
    · repeat (first | exact HB2.out | refine Below.setCell ?_ (by simp) _)
  · have hz1 : (c != 0) = true := by simpa using hz
    have HR : Hid (rdOf c a l = ([], c, a)) := by show _ = _; unfold rdOf; rw [if_neg hz]
    rw [HR.out]
    go_enter Tryd.func14, Tryd.ntmps14
    go_wp2_with (go_at_call 36; refine (HT.out _ (hL.alloc _)).mono ?_; rintro e w1 ⟨ao, cap, rfl, _, hb⟩; obtain ⟨hc, hf⟩ := bcell hb; have hz : w.heap.size < w1.heap.size := (by have := hb.size; simp at this; omega))
    refine bodyPost_ret (v := .agg #[.int .i64 c, .int .i64 a, .slice none 0 0]) (by simp [results, Tryd.results14, go_sem, hc, hz]) rfl ⟨none, 0, rfl, World.ownsRow_nil _ _ _ _, ?_⟩
    repeat (first | exact Below.refl _ _ | refine Below.setCell ?_ (by simp) _ | refine Below.trans ?_ (hb.mono (by simp)) | refine Below.alloc ?_ (by first | omega | (simp <;> omega)) _)
end Go.Proofs.YtoljpgpkeploiaaDoor
/-
  The model's ReadData: what is read of a text; nothing that was there is turned. And the exact law of ReadData.
-/
namespace Go.Proofs.YtoljpgpkeploiaaDoor
open Go.RowKit Go.Extern.Stop Go.Stop Go.Extern Num Go.Lib Go.Shelf

set_option maxHeartbeats 1000000 in
theorem specRD_any (s : ByteArray) (c a : Int) (l : List Tok) (w : World) (h : TOf s c a l) :
    Calls Tryd.prog 13 #[.string s] w fun e w' => AnsRC (rdOf c a l).2.1 (rdOf c a l).2.2 (rdOf c a l).1 w e w' := by
  have HT : Hid (∀ w, Calls Tryd.prog 34 #[.string s] w fun e w' => ∃ ao cap, e = .returned (.agg #[.int .i64 c, .int .i64 a, .slice ao l.length cap]) ∧ w'.ownsRow w.heap.size 74 3 (.slice ao l.length cap) l.length (cellsOf l) ∧ Below w.heap.size w w') := fun w => (specOf_any s w).mono fun _ _ h' => ansTC h h'
  have HF : Hid (∀ t ∈ l, TokFit t) := tof_fit h
  have hl := tof_len h
  clear h
  by_cases hz : c = 0
  · subst hz
    have HR : Hid (rdOf 0 a l = readD l) := by show _ = _; unfold rdOf; rw [if_pos rfl]
    obtain ⟨R, hR⟩ : ∃ R, R = readD l := ⟨_, rfl⟩
    rw [HR.out, ← hR]
    have HR2 : Hid (R = readD l) := hR
    clear hR
    go_enter Tryd.func13, Tryd.ntmps13
    go_wp2_with fail
    refine (HT.out _).mono ?_
    rintro e w1 ⟨ao, cap, rfl, ho, hb⟩
    have HO : Hid (w1.ownsRow _ 74 3 (.slice ao l.length cap) l.length (cellsOf l)) := ho
    obtain ⟨hc1, hf1⟩ := bcell hb
    have hs1 : w.heap.size < w1.heap.size := by have := hb.size; simp at this; omega
    have HB1 : Hid (Below w.heap.size w w1) := ((Below.refl _ w).alloc (Nat.le_refl _) _).trans (hb.mono (by simp))
    clear ho hb
    have HRT : Hid (∀ o : Obj, Calls Tryd.prog 35 #[.slice ao l.length cap] (w1.alloc o) fun e w' => AnsR R (w1.alloc o) e w') := fun o => by rw [HR2.out]; exact l3Read_any ao cap l (w1.alloc o) (by omega) (fun k hk => by obtain ⟨g, h1, h2, h3, h4, _⟩ := tok_rows (HO.out.alloc o) HF.out k hk; exact ⟨g, h1, h2, h3, h4⟩)
    go_wp2_with fail
    refine (HRT.out _).mono ?_
    rintro e w2 ⟨ao2, c2, rfl, ho2, hb2⟩
    obtain ⟨hc2, hf2⟩ := bcell hb2
    have HO2 : Hid (w2.ownsRow _ 51 4 (.slice ao2 R.1.length c2) R.1.length (cellsD R.1)) := ho2
    have HB2 : Hid (Below w.heap.size w w2) := (HB1.out.alloc HB1.out.size _).trans (hb2.mono (by simp; omega))
    have hs2 : w1.heap.size < w2.heap.size := by have := hb2.size; simp at this; omega
    have d0 : w2.cell? ⟨w.heap.size, 0, none⟩ = some (.int .i64 0) := by rw [hc2 _ _ (by simp; omega)]; exact cell_laid _ (by rw [hc1 _ _ (by simp)]; simp)
    have d1 : w2.cell? ⟨w.heap.size, 1, none⟩ = some (.int .i64 0) := by rw [hc2 _ _ (by simp; omega)]; exact cell_laid _ (by rw [hc1 _ _ (by simp)]; simp)
    have d2 : w2.cell? ⟨w.heap.size, 2, none⟩ = some (.slice none 0 0) := by rw [hc2 _ _ (by simp; omega)]; exact cell_laid _ (by rw [hc1 _ _ (by simp)]; simp)
    clear ho2 hb2
    go_wp2
    refine bodyPost_ret (v := .agg #[.int .i64 R.2.1, .int .i64 R.2.2, .slice ao2 R.1.length c2]) (by simp [results, Tryd.results13, go_sem, d0, d1, d2]) rfl ⟨ao2, c2, rfl, ?_, ?_⟩
    · refine own_base (base := (w1.heap.size + 1)) ?_ (by omega)
      repeat (first | (have := HO2.out; rw [World.size_alloc] at this; exact this) | refine own_set_low ?_ (by omega) _)
    · repeat (first | exact HB2.out | refine Below.setCell ?_ (by simp) _)
  · have hz1 : (c != 0) = true := by simpa using hz
    have HR : Hid (rdOf c a l = ([], c, a)) := by show _ = _; unfold rdOf; rw [if_neg hz]
    rw [HR.out]
    go_enter Tryd.func13, Tryd.ntmps13
    go_wp2_with (go_at_call 34; refine (HT.out _).mono ?_; rintro e w1 ⟨ao, cap, rfl, _, hb⟩; obtain ⟨hc, hf⟩ := bcell hb; have hz : w.heap.size < w1.heap.size := (by have := hb.size; simp at this; omega))
    refine bodyPost_ret (v := .agg #[.int .i64 c, .int .i64 a, .slice none 0 0]) (by simp [results, Tryd.results13, go_sem, hc, hz]) rfl ⟨none, 0, rfl, World.ownsRow_nil _ _ _ _, ?_⟩
    repeat (first | exact Below.refl _ _ | refine Below.setCell ?_ (by simp) _ | refine Below.trans ?_ (hb.mono (by simp)) | refine Below.alloc ?_ (by first | omega | (simp <;> omega)) _)
theorem lawReadD_any (s : ByteArray) (w : World) (hL : LR w) :
    Calls Tryd.prog 4 #[.string s] w fun e w' => e = .returned (.bool true) ∧ Below w.heap.size w w' := by
  by_cases hl : 1048576 < (s.size : Int)
  · exact lawReadD_long s w hl
  · obtain ⟨c, a, l, h⟩ := tof_total s
    exact lawReadD_of s _ _ _ w hL hl (Nat.le_trans (rdOf_len h) (by omega)) (fun w => specRD_any s c a l w h) (fun w hL => implRD_any s c a l w h hL)
end Go.Proofs.YtoljpgpkeploiaaDoor
