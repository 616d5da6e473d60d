/-
  Parts of the proof laid into one text, one behind the other; each says at its head what is proved in it.
-/
import Derived.Test.YtfdkklhigliciaaGreatDoorXaH
import Derived.Test.YtfdkklhigliciaaGreatDoorXaC
import Derived.Test.YtfdkklhigliciaaGreatDoorImExAHx
/-
  slices.Contains at texts: whether a text is one of a list; nothing is turned.
-/
namespace Go.Proofs.YtfdkklhigliciaaGreatDoor
open Go.RowKit Go.Extern.Stop Go.Stop Go.Extern Num Go.Lib

/-- Whether a text is one of a list. -/
def hasN (L : List ByteArray) (z : ByteArray) : Bool := L.any fun y => z.toList == y.toList
theorem hasN_hit {z : ByteArray} {L : List ByteArray} (k : Nat) (h : k < L.length) (hp : (z.toList == L[k].toList) = true) : hasN L z = true := List.any_eq_true.2 ⟨L[k], List.getElem_mem h, hp⟩
theorem hasN_none {z : ByteArray} {L : List ByteArray} (h : ∀ (k : Nat) (hk : k < L.length), (z.toList == L[k].toList) = false) : hasN L z = false := by
  unfold hasN
  rw [List.any_eq_false]
  intro t ht
  obtain ⟨k, hk, rfl⟩ := List.getElem_of_mem ht
  rw [h k hk]; decide
set_option maxRecDepth 100000 in
set_option maxHeartbeats 1000000 in
theorem indexT_some (L : List ByteArray) (z : ByteArray) (g co : Nat) (w : World) (hl : L.length ≤ 1000) (hc : ∀ (k : Nat) (h : k < L.length), w.cell? ⟨g, k, none⟩ = some (.string L[k])) :
    Calls Tryz.prog 114 #[.slice (some ⟨g, 0, none⟩) L.length co, .string z] w fun e w' => (∃ k : Int, e = .returned (.int .i64 k) ∧ decide (0 ≤ k) = hasN L z) ∧ w' = w := by
  have HC : Hid (∀ (k : Nat) (h : k < L.length), w.cell? ⟨g, k, none⟩ = some (.string L[k])) := hc
  clear hc
  go_enter Tryz.func114, Tryz.ntmps114
  go_wp2_with fail
  go_loopw [8] (fun i wr => ∃ j : Nat, j ≤ L.length ∧ i = .int .i64 (j : Int) ∧ wr = w ∧ Hid (∀ (k : Nat) (hk : k < L.length), k < j → (z.toList == L[k].toList) = false)) (fun i _ => L.length - (RowKit.intOf i).toNat)
  case atStart => exact ⟨0, Nat.zero_le _, rfl, by trivial, fun k _ hk => by omega⟩
  case round =>
    obtain ⟨j, hj, rfl, rfl, HJ⟩ := hrel
    by_cases hlt : j < L.length
    · have q0 := HC.out j hlt
      obtain ⟨t, ht⟩ : ∃ t, t = L[j]'hlt := ⟨_, rfl⟩
      rw [← ht] at q0
      cases hx : (z.toList == t.toList) with
      | true =>
        have HA : Hid (hasN L z = true) := hasN_hit j hlt (by rw [← ht, hx])
        clear ht
        go_wp2
        go_ret
        exact ⟨⟨(j : Int), rfl, by rw [HA.out]; simp⟩, rfl⟩
      | false =>
        have HJ2 : Hid (∀ (k : Nat) (hk : k < L.length), k < j + 1 → (z.toList == L[k].toList) = false) := fun k hk hkj => by
          by_cases e : k < j
          · exact HJ.out k hk e
          · have : k = j := by omega
            subst this; rw [← ht]; exact hx
        clear HJ ht
        go_wp2
        exact ⟨⟨j + 1, by omega, by go_num, by trivial, HJ2.out⟩, by simp [RowKit.intOf]; omega⟩
    · have HA : Hid (hasN L z = false) := hasN_none (fun k hk => HJ.out k hk (by omega))
      clear HJ
      go_wp2
      go_ret
      exact ⟨⟨-1, rfl, by rw [HA.out]; rfl⟩, rfl⟩
set_option maxHeartbeats 1000000 in
theorem indexT_none (z : ByteArray) (ao : Option Addr) (co : Nat) (w : World) : Calls Tryz.prog 114 #[.slice ao 0 co, .string z] w fun e w' => (∃ k : Int, e = .returned (.int .i64 k) ∧ decide (0 ≤ k) = hasN [] z) ∧ w' = w := by
  go_enter Tryz.func114, Tryz.ntmps114
  go_wp2_with fail
  go_loopw [8] (fun i wr => i = .int .i64 0 ∧ wr = w) (fun i _ => 0)
  case atStart => exact ⟨rfl, rfl⟩
  case round =>
    obtain ⟨rfl, rfl⟩ := hrel
    go_wp2
    go_ret
    exact ⟨⟨-1, rfl, rfl⟩, rfl⟩
set_option maxHeartbeats 1000000 in
theorem containsT_any (v : Value) (base : Nat) (L : List ByteArray) (z : ByteArray) (w : World) (hl : L.length ≤ 1000) (h : w.ownsRow base 9 1 v L.length (cellsT L)) :
    Calls Tryz.prog 202 #[v, .string z] w fun e w' => e = .returned (.bool (hasN L z)) ∧ w' = w := by
  have H : Hid (Calls Tryz.prog 114 #[v, .string z] w fun e w' => (∃ k : Int, e = .returned (.int .i64 k) ∧ decide (0 ≤ k) = hasN L z) ∧ w' = w) := by
    cases L with
    | nil =>
      obtain ⟨ao, ca, rfl⟩ := own_form h
      exact indexT_none z ao ca w
    | cons t r =>
      obtain ⟨g1, c1, rfl, _, _⟩ := h.form (by simp)
      exact indexT_some (t :: r) z g1 c1 w hl (fun k hk => rowT_at h k hk)
  clear h
  generalize hasN L z = D at H ⊢
  go_enter Tryz.func202, Tryz.ntmps202
  go_wp2_with fail
  refine H.out.mono ?_
  rintro e w' ⟨⟨k, rfl, hk⟩, e1⟩
  replace e1 := e1.symm
  subst e1
  have HK : Hid (decide (0 ≤ k) = D) := hk
  clear hk H
  go_wp2
  go_ret
  exact ⟨by rw [← HK.out]; rfl, rfl⟩
end Go.Proofs.YtfdkklhigliciaaGreatDoor
/-
  slices.Index at texts: where a text stands first in a list; nothing is turned.
-/
namespace Go.Proofs.YtfdkklhigliciaaGreatDoor
open Go.RowKit Go.Extern.Stop Go.Stop Go.Extern Num Go.Lib

theorem beqL_comm (a b : List UInt8) : (a == b) = (b == a) := by
  by_cases h : a = b
  · subst h; rfl
  · rw [beq_false_of_ne h, beq_false_of_ne (fun h' => h h'.symm)]
/-- Where a text stands, or -1. -/
def idxI (L : List ByteArray) (z : ByteArray) : Int := match idxF L z with
  | some i => (i : Int)
  | none => -1
theorem idxI_at (L : List ByteArray) (z : ByteArray) (k : Nat) (hk : k < L.length) (h : ∀ (j : Nat) (h : j < L.length), j < k → (z.toList == L[j].toList) = false) (he : (z.toList == L[k].toList) = true) : idxI L z = (k : Int) := by
  unfold idxI
  rw [idxF_at L z k hk (fun j hj hjk => by rw [beqL_comm]; exact h j hj hjk) (by rw [beqL_comm]; exact he)]
theorem idxI_none (L : List ByteArray) (z : ByteArray) (h : ∀ (j : Nat) (h : j < L.length), (z.toList == L[j].toList) = false) : idxI L z = -1 := by
  unfold idxI
  rw [idxF_none L z (fun j hj => by rw [beqL_comm]; exact h j hj)]
theorem hasN_idx (L : List ByteArray) (z : ByteArray) : hasN L z = (idxF L z).isSome := by
  induction L with
  | nil => rfl
  | cons n r ih =>
    have e : hasN (n :: r) z = ((z.toList == n.toList) || hasN r z) := rfl
    rw [e, ih]
    simp only [idxF]
    rw [beqL_comm z.toList]
    cases (n.toList == z.toList) <;> simp
theorem idxF_lt : ∀ (L : List ByteArray) (z : ByteArray) (i : Nat), idxF L z = some i → i < L.length
  | [], _, _, h => by simp [idxF] at h
  | n :: r, z, i, h => by
    simp only [idxF] at h
    split at h
    · cases h; simp
    · cases hr : idxF r z with
      | none => rw [hr] at h; simp at h
      | some j =>
        rw [hr] at h
        have := idxF_lt r z j hr
        simp at h
        subst h
        simpa using this
set_option maxRecDepth 100000 in
set_option maxHeartbeats 1000000 in
theorem idxT_some (L : List ByteArray) (z : ByteArray) (g co : Nat) (w : World) (hl : L.length ≤ 1000) (hc : ∀ (k : Nat) (h : k < L.length), w.cell? ⟨g, k, none⟩ = some (.string L[k])) :
    Calls Tryz.prog 114 #[.slice (some ⟨g, 0, none⟩) L.length co, .string z] w fun e w' => e = .returned (.int .i64 (idxI L z)) ∧ w' = w := by
  have HC : Hid (∀ (k : Nat) (h : k < L.length), w.cell? ⟨g, k, none⟩ = some (.string L[k])) := hc
  clear hc
  go_enter Tryz.func114, Tryz.ntmps114
  go_wp2_with fail
  go_loopw [8] (fun i wr => ∃ j : Nat, j ≤ L.length ∧ i = .int .i64 (j : Int) ∧ wr = w ∧ Hid (∀ (k : Nat) (hk : k < L.length), k < j → (z.toList == L[k].toList) = false)) (fun i _ => L.length - (RowKit.intOf i).toNat)
  case atStart => exact ⟨0, Nat.zero_le _, rfl, by trivial, fun k _ hk => by omega⟩
  case round =>
    obtain ⟨j, hj, rfl, rfl, HJ⟩ := hrel
    by_cases hlt : j < L.length
    · have q0 := HC.out j hlt
      obtain ⟨t, ht⟩ : ∃ t, t = L[j]'hlt := ⟨_, rfl⟩
      rw [← ht] at q0
      cases hx : (z.toList == t.toList) with
      | true =>
        have HA : Hid (idxI L z = (j : Int)) := idxI_at L z j hlt HJ.out (by rw [← ht, hx])
        clear ht
        go_wp2
        go_ret
        exact ⟨by rw [HA.out]; rfl, rfl⟩
      | false =>
        have HJ2 : Hid (∀ (k : Nat) (hk : k < L.length), k < j + 1 → (z.toList == L[k].toList) = false) := fun k hk hkj => by
          by_cases e : k < j
          · exact HJ.out k hk e
          · have : k = j := by omega
            subst this; rw [← ht]; exact hx
        clear HJ ht
        go_wp2
        exact ⟨⟨j + 1, by omega, by go_num, by trivial, HJ2.out⟩, by simp [RowKit.intOf]; omega⟩
    · have HA : Hid (idxI L z = -1) := idxI_none L z (fun k hk => HJ.out k hk (by omega))
      clear HJ
      go_wp2
      go_ret
      exact ⟨by rw [HA.out]; rfl, rfl⟩
set_option maxHeartbeats 1000000 in
theorem idxT_none (z : ByteArray) (ao : Option Addr) (co : Nat) (w : World) : Calls Tryz.prog 114 #[.slice ao 0 co, .string z] w fun e w' => e = .returned (.int .i64 (-1)) ∧ w' = w := by
  go_enter Tryz.func114, Tryz.ntmps114
  go_wp2_with fail
  go_loopw [8] (fun i wr => i = .int .i64 0 ∧ wr = w) (fun i _ => 0)
  case atStart => exact ⟨rfl, rfl⟩
  case round =>
    obtain ⟨rfl, rfl⟩ := hrel
    go_wp2
    go_ret
    exact ⟨rfl, rfl⟩
theorem idxT_any (v : Value) (base : Nat) (L : List ByteArray) (z : ByteArray) (w : World) (hl : L.length ≤ 1000) (h : w.ownsRow base 9 1 v L.length (cellsT L)) :
    Calls Tryz.prog 114 #[v, .string z] w fun e w' => e = .returned (.int .i64 (idxI L z)) ∧ w' = w := by
  cases L with
  | nil =>
    obtain ⟨ao, ca, rfl⟩ := own_form h
    exact idxT_none z ao ca w
  | cons t r =>
    obtain ⟨g1, c1, rfl, _, _⟩ := h.form (by simp)
    exact idxT_some (t :: r) z g1 c1 w hl (fun k hk => rowT_at h k hk)
end Go.Proofs.YtfdkklhigliciaaGreatDoor
/-
  The program's scopes: the parameters that are around a place; local and meaning: what a name is there.
-/
namespace Go.Proofs.YtfdkklhigliciaaGreatDoor
open Go.RowKit Go.Extern.Stop Go.Stop Go.Extern Num Go.Lib Go.Shelf

/-- Scopes in a chain: the names of each, those of the innermost lambda first. -/
def chS (w : World) (B : Nat) : Option Addr → Env → Prop
  | so, [] => so = none
  | so, N :: E => ∃ (s : Nat) (nv : Value) (so' : Option Addr) (fr : Nat × Nat), so = some ⟨s, 0, none⟩ ∧ B ≤ s ∧ w.heap[s]? = some (.cells #[nv, .pointer so'] 191 fr) ∧ w.ownsRow B 9 1 nv N.length (cellsT N) ∧ N.length ≤ 3 ∧ chS w B so' E
theorem chS.keep {w w' : World} {B m : Nat} (hm : m < B) (hk : Kx B m w w') : ∀ {E : Env} {so : Option Addr}, chS w B so E → chS w' B so E
  | [], _, h => h
  | N :: E, so, h => by
    obtain ⟨s, nv, so', fr, h1, h2, h3, h4, h5, h6⟩ := h
    exact ⟨s, nv, so', fr, h1, h2, hk.cells (by omega) typ_nc.2.2.2 h3, hk.own typ_nc.2.1 hm h4, h5, h6.keep hm hk⟩
theorem chS.below {w w' : World} {B : Nat} (hb : Below w.heap.size w w') : ∀ {E : Env} {so : Option Addr}, chS w B so E → chS w' B so E
  | [], _, h => h
  | N :: E, so, h => by
    obtain ⟨s, nv, so', fr, h1, h2, h3, h4, h5, h6⟩ := h
    exact ⟨s, nv, so', fr, h1, h2, by rw [hb.block s (Array.getElem?_eq_some_iff.1 h3).1]; exact h3, own_below h4 hb, h5, h6.below hb⟩
/-- What local answers. -/
def locV (E : Env) (z : ByteArray) : Value := match findE E z with
  | some (o, i) => .tuple #[.agg #[.int .i64 2, .int .i64 0, .int .i64 (o : Nat), .int .i64 (i : Nat), .string ⟨#[]⟩, .slice none 0 0], .bool true]
  | none => .tuple #[.agg #[.int .i64 0, .int .i64 0, .int .i64 0, .int .i64 0, .string ⟨#[]⟩, .slice none 0 0], .bool false]
set_option maxRecDepth 100000 in
set_option maxHeartbeats 400000 in
theorem local_any (w : World) (B : Nat) (so : Option Addr) (E : Env) (z : ByteArray) (h : chS w B so E) (hE : E.length ≤ 1000) :
    Calls Tryz.prog 82 #[.pointer so, .string z] w fun e w' => e = .returned (locV E z) ∧ Below w.heap.size w w' := by
  obtain ⟨ob, hob⟩ : ∃ ob, ob = Obj.cells #[.int .i64 0, .int .i64 0, .int .i64 0, .int .i64 0, .string ⟨#[]⟩, .slice none 0 0] 78 (0, 0) := ⟨_, rfl⟩
  have H0 : Hid (chS (w.alloc ob) B so E) := h.below ((Below.refl _ w).alloc (Nat.le_refl _) _)
  have HI : Hid (∀ (N : List ByteArray) (nv : Value), N.length ≤ 3 → (w.alloc ob).ownsRow B 9 1 nv N.length (cellsT N) → Calls Tryz.prog 114 #[nv, .string z] (w.alloc ob) fun e w' => e = .returned (.int .i64 (idxI N z)) ∧ w' = w.alloc ob) := fun N nv hN ho => idxT_any nv B N z (w.alloc ob) (by omega) ho
  have HBw : Hid (Below w.heap.size w (w.alloc ob)) := (Below.refl _ w).alloc (Nat.le_refl _) _
  have HOb : Hid (ob = Obj.cells #[.int .i64 0, .int .i64 0, .int .i64 0, .int .i64 0, .string ⟨#[]⟩, .slice none 0 0] 78 (0, 0)) := hob
  clear h hob
  go_enter Tryz.func82, Tryz.ntmps82
  go_wp2_with fail
  rw [show World.alloc w (.cells #[.int .i64 0, .int .i64 0, .int .i64 0, .int .i64 0, .string ⟨#[]⟩, .slice none 0 0] 78 (0, 0)) = w.alloc ob by rw [show ob = _ from HOb.out]]
  go_loopw [0, 6] (fun s lam wr => ∃ (k : Nat) (so' : Option Addr) (E' : Env), s = .pointer so' ∧ lam = .int .i64 (k : Int) ∧ k + E'.length = E.length ∧ wr = w.alloc ob ∧ Hid (findE E z = (findE E' z).map fun p => (p.1 + k, p.2)) ∧ Hid (chS (w.alloc ob) B so' E')) (fun _ lam _ => E.length - (RowKit.intOf lam).toNat)
  case atStart => exact ⟨0, so, E, rfl, rfl, by omega, rfl, (by show _ = _; simp), H0.out⟩
  case round =>
    obtain ⟨k, so', E', rfl, rfl, hk, rfl, HF, HCh⟩ := hrel
    cases E' with
    | nil =>
      have hs : so' = none := HCh.out
      subst hs
      have HR : Hid (locV E z = .tuple #[.agg #[.int .i64 0, .int .i64 0, .int .i64 0, .int .i64 0, .string ⟨#[]⟩, .slice none 0 0], .bool false]) := by
        have := HF.out
        simp only [findE, Option.map_none] at this
        show locV E z = _
        unfold locV
        rw [this]
      have hob := HOb.out
      clear HF HCh HI H0 HOb
      subst hob
      go_wp2
      refine bodyPost_ret (v := .tuple #[.agg #[.int .i64 0, .int .i64 0, .int .i64 0, .int .i64 0, .string ⟨#[]⟩, .slice none 0 0], .bool false]) (by simp [results, Tryz.results82, go_sem]) rfl ⟨by rw [HR.out], ?_⟩
      repeat (first | exact HBw.out | exact Below.refl _ _ | refine Below.setCell ?_ (by simp) _ | refine Below.alloc ?_ (by simp) _)
    | cons N E'' =>
      obtain ⟨s, nv, so2, fr, rfl, hs1, hs2, hs3, hs4, hs5⟩ := HCh.out
      have c0 : (w.alloc ob).cell? ⟨s, 0, none⟩ = some nv := by rw [cell_of_heap hs2]; rfl
      have c1 : (w.alloc ob).cell? ⟨s, 1, none⟩ = some (.pointer so2) := by rw [cell_of_heap hs2]; rfl
      have HCI : Hid (Calls Tryz.prog 114 #[nv, .string z] (w.alloc ob) fun e w' => e = .returned (.int .i64 (idxI N z)) ∧ w' = w.alloc ob) := HI.out N nv hs4 hs3
      have HCh2 : Hid (chS (w.alloc ob) B so2 E'') := hs5
      clear hs2 hs3 hs5 HCh
      cases hx : idxF N z with
      | some i =>
        have hi : idxI N z = (i : Int) := by unfold idxI; rw [hx]
        rw [hi] at HCI
        have HR : Hid (locV E z = .tuple #[.agg #[.int .i64 2, .int .i64 0, .int .i64 (k : Nat), .int .i64 (i : Nat), .string ⟨#[]⟩, .slice none 0 0], .bool true]) := by
          have := HF.out
          rw [findE_hit hx] at this
          simp only [Option.map_some, Nat.zero_add] at this
          show locV E z = _
          unfold locV
          rw [this]
        have hsl := lt_of_cell c0
        clear HF hx hi HI H0 hsl
        go_wp2_with (go_at_call 114; refine HCI.out.mono ?_; rintro e wi ⟨rfl, hwi⟩; replace hwi := hwi.symm; subst hwi; have hob := HOb.out; clear HCI HOb HCh2 c0 c1; subst hob)
        refine bodyPost_ret (v := .tuple #[.agg #[.int .i64 2, .int .i64 0, .int .i64 (k : Nat), .int .i64 (i : Nat), .string ⟨#[]⟩, .slice none 0 0], .bool true]) (by simp [results, Tryz.results82, go_sem]) rfl ⟨by rw [HR.out], ?_⟩
        repeat (first | exact HBw.out | exact Below.refl _ _ | refine Below.setCell ?_ (by simp) _ | refine Below.alloc ?_ (by simp) _)
      | none =>
        have hi : idxI N z = -1 := by unfold idxI; rw [hx]
        rw [hi] at HCI
        have HF2 : Hid (findE E z = (findE E'' z).map fun p => (p.1 + (k + 1), p.2)) := by
          have := HF.out
          rw [findE_on hx] at this
          show findE E z = _
          rw [this]
          cases findE E'' z with
          | none => rfl
          | some p => simp; omega
        clear HF hx hi
        simp only [List.length_cons] at hk
        go_wp2_with fail
        refine HCI.out.mono ?_
        rintro e wi ⟨rfl, hwi⟩; replace hwi := hwi.symm; subst hwi
        go_wp2
        exact ⟨⟨k + 1, so2, E'', rfl, by go_num, by omega, by trivial, HF2.out, HCh2.out⟩, by simp [RowKit.intOf]; omega⟩
end Go.Proofs.YtfdkklhigliciaaGreatDoor
