/-
  Parts of the proof laid into one text, one behind the other; each says at its head what is proved in it.
-/
import Derived.Test.YtebnonpdaddniaaGreatDoorHtF
import Derived.Test.YtebnonpdaddniaaGreatDoorHtH
/-
  The program's treeOf: the tree that data make, or what is wrong with them; nothing that was there is turned.
-/
namespace Go.Proofs.YtebnonpdaddniaaGreatDoor
open Go.RowKit Go.Extern.Stop Go.Stop Go.Extern Num Go.Lib Go.Shelf

/-- A datum as a node: its token. -/
def nodD (t : Dat) : Dat := ⟨tkD t.kind, t.parent, t.num, t.name⟩
def nodes (l : List Dat) : List Dat := l.map nodD
theorem nodes_len (l : List Dat) : (nodes l).length = l.length := by simp [nodes]
theorem nodes_at (l : List Dat) (k : Nat) (h : k < l.length) : (nodes l)[k]'(by rw [nodes_len]; exact h) = nodD l[k] := by simp [nodes]
theorem par_nodes (l : List Dat) (k : Nat) : par (nodes l) k = par l k := by
  unfold par nodes
  rw [List.getElem?_map]
  cases l[k]? <;> rfl
theorem par_take (l : List Dat) (m k : Nat) (h : k < m) : par (l.take m) k = par l k := by
  unfold par
  rw [List.getElem?_take, if_pos h]
/-- What is wrong with a datum's token. -/
def dkF (t : Dat) : Int := tokFault ⟨tkD t.kind, t.num, t.name⟩
theorem tk_lt (k : Int) : (1 ≤ tkD k ∧ tkD k ≤ 6) ↔ (1 ≤ k ∧ k ≤ 4) := by
  unfold tkD
  by_cases h1 : k = 1
  · subst h1; decide
  by_cases h2 : k = 2
  · subst h2; decide
  by_cases h3 : k = 3
  · subst h3; decide
  by_cases h4 : k = 4
  · subst h4; decide
  simp only [h1, h2, h3, h4, if_false]
  omega
theorem dk_eq (t : Dat) : dkF t = if bareB t = false then 1 else if rangeBad t = true then 3 else if symBad t = true then 5 else 0 := by
  obtain ⟨k, p, n, z⟩ := t
  by_cases hk : 1 ≤ k ∧ k ≤ 4
  · have : k = 1 ∨ k = 2 ∨ k = 3 ∨ k = 4 := by omega
    rcases this with rfl | rfl | rfl | rfl
    · cases hz : z.data.toList with
      | nil => by_cases hn : inB n = true <;> simp [dkF, tokFault, tkD, bareB, rangeBad, symBad, hz, hn]
      | cons a b => simp [dkF, tokFault, tkD, bareB, hz]
    · cases hz : z.data.toList with
      | nil => by_cases h0 : 0 ≤ n <;> by_cases h1 : n ≤ 1 <;> simp [dkF, tokFault, tkD, bareB, rangeBad, symBad, hz, h0, h1]
      | cons a b => simp [dkF, tokFault, tkD, bareB, hz]
    · by_cases hn : n = 0 <;> by_cases hs : symL z.data.toList = true <;> simp [dkF, tokFault, tkD, bareB, rangeBad, symBad, hn, hs]
    · cases hz : z.data.toList with
      | nil => by_cases hn : n = 0 <;> simp [dkF, tokFault, tkD, bareB, rangeBad, symBad, hz, hn]
      | cons a b => by_cases hn : n = 0 <;> simp [dkF, tokFault, tkD, bareB, hz, hn]
  · have h1 : ¬ (1 ≤ tkD k ∧ tkD k ≤ 6) := fun h => hk ((tk_lt k).1 h)
    have e : dkF ⟨k, p, n, z⟩ = 1 := by
      show tokFault ⟨tkD k, n, z⟩ = 1
      unfold tokFault
      exact if_pos h1
    have e2 : bareB ⟨k, p, n, z⟩ = false := by
      unfold bareB
      have : decide (1 ≤ k ∧ k ≤ 4) = false := decide_eq_false hk
      show (decide (1 ≤ k ∧ k ≤ 4) && _ && _) = false
      rw [this]; rfl
    rw [e, e2]; rfl
theorem tk_list (k : Int) : (tkD k = 1) ↔ k = 4 := by
  unfold tkD
  by_cases h1 : k = 1
  · subst h1; decide
  by_cases h2 : k = 2
  · subst h2; decide
  by_cases h3 : k = 3
  · subst h3; decide
  by_cases h4 : k = 4
  · subst h4; decide
  simp [h1, h2, h3, h4]
theorem pars_take {l : List Dat} {k : Nat} (hk : k ≤ l.length) (hok : okUpto l k) : Pars (nodes (l.take k)) := by
  intro j hj
  have hj' : j < k := by rw [nodes_len, List.length_take] at hj; omega
  rw [nodes_at _ j (by rw [List.length_take]; omega)]
  show ((l.take k)[j]'_).parent < _ ∧ _
  rw [List.getElem_take]
  exact chk_par (hok j (by omega) hj')
theorem upF_same {N M : List Dat} (m : Nat) (h : ∀ j, j < m → par N j = par M j) (hp : ∀ j, j < m → par N j < (j : Int)) : ∀ (f : Nat) (a : Int), a < m → upF N f a = upF M f a
  | 0, _, _ => rfl
  | f + 1, a, ha => by
    by_cases h0 : a < 0
    · rw [upF_neg _ _ _ h0, upF_neg _ _ _ h0]
    · have h1 := h a.toNat (by omega)
      have h2 := hp a.toNat (by omega)
      simp only [upF, if_neg h0]
      rw [upF_same m h hp f _ (by omega), h1]
theorem deepF_same {N M : List Dat} (m : Nat) (h : ∀ j, j < m → par N j = par M j) (hp : ∀ j, j < m → par N j < (j : Int)) : ∀ (f : Nat) (a : Int), a < m → deepF N f a = deepF M f a
  | 0, _, _ => rfl
  | f + 1, a, ha => by
    by_cases h0 : a < 0
    · rw [deepF_neg _ _ _ h0, deepF_neg _ _ _ h0]
    · have h1 := h a.toNat (by omega)
      have h2 := hp a.toNat (by omega)
      simp only [deepF, if_neg h0]
      rw [deepF_same m h hp f _ (by omega), h1]
theorem lineF_same {N M : List Dat} (p : Int) (m : Nat) (h : ∀ j, j < m → par N j = par M j) (hp : ∀ j, j < m → par N j < (j : Int)) (hk : ∀ j, j < m → ((N[j]?.map (·.kind)).getD 0 == 4) = ((M[j]?.map (·.kind)).getD 0 == 4)) : ∀ (f : Nat) (a : Int), a < m → lineF N p f a = lineF M p f a
  | 0, _, _ => rfl
  | f + 1, a, ha => by
    by_cases h0 : a < 0
    · rw [lineF_neg _ _ _ _ h0, lineF_neg _ _ _ _ h0]
    · have h1 := h a.toNat (by omega)
      have h2 := hp a.toNat (by omega)
      have h3 := hk a.toNat (by omega)
      simp only [lineF, if_neg h0]
      rw [lineF_same p m h hp hk f _ (by omega), h1, h3]
/-- What is wrong with a datum: with its token, then with its place. -/
theorem chk_split {l : List Dat} {k : Nat} (hk : k < l.length) (hok : okUpto l k) (hl : l.length ≤ 80) : chkD l k l[k] = if dkF l[k] ≠ 0 then dkF l[k] else pfD (nodes (l.take k)) l[k].parent := by
  have hP := pars_take (Nat.le_of_lt hk) hok
  have hlen : (nodes (l.take k)).length = k := by rw [nodes_len, List.length_take]; omega
  have hpar : ∀ j, j < k → par (nodes (l.take k)) j = par l j := fun j hj => by rw [par_nodes, par_take l k j hj]
  have hlt : ∀ j, j < k → par (nodes (l.take k)) j < (j : Int) := fun j hj => by rw [hpar j hj, par_at l j (by omega)]; exact (chk_par (hok j (by omega) hj)).1
  have e := dk_eq l[k]
  cases hb : bareB l[k] with
  | false => rw [hb] at e; rw [chk_bare hb, e]; rfl
  | true =>
    cases hr : rangeBad l[k] with
    | true => rw [hb, hr] at e; rw [chk_range hb hr, e]; rfl
    | false =>
      cases hs : symBad l[k] with
      | true => rw [hb, hr, hs] at e; rw [chk_sym hb hr hs, e]; rfl
      | false =>
        rw [hb, hr, hs] at e
        have e0 : dkF l[k] = 0 := e
        rw [if_neg (by rw [e0]; simp)]
        obtain ⟨p, hp⟩ : ∃ p, p = l[k].parent := ⟨_, rfl⟩
        cases hpb : parBad k l[k].parent with
        | true =>
          rw [chk_parent hb hr hs hpb, ← hp]
          rw [← hp] at hpb
          unfold pfD
          rw [hlen]
          unfold parBad at hpb
          by_cases hk0 : k = 0
          · subst hk0
            have : p ≠ -1 := by simpa using hpb
            rw [if_neg (fun h => this h.2), if_pos (by omega)]
          · have h1 : 0 < k := by omega
            rw [if_neg (fun h => hk0 h.1)]
            have : ¬ (0 ≤ p ∧ p ≤ (k : Int) - 1) := by
              intro h
              simp [hk0, h.1, h.2] at hpb
            rw [if_pos (by omega)]
        | false =>
          have hpl := parBad_lt hpb
          by_cases hk0 : k = 0
          · subst hk0
            have h1 : l[0].parent = -1 := by omega
            rw [chk_deep hb hr hs hpb (by simp), h1]
            have : deepF l 100 ((0 : Nat) : Int) = 1 := by rw [deepF_at l 99 0 hk, h1, deepF_neg l 99 _ (by decide)]
            rw [this]; rfl
          · have hq : 0 ≤ l[k].parent := by
              unfold parBad at hpb
              rw [← hp] at hpb ⊢
              have h1 : 0 < k := by omega
              simp [hk0, h1] at hpb
              omega
            obtain ⟨q, hq'⟩ : ∃ q : Nat, l[k].parent = (q : Int) := ⟨l[k].parent.toNat, by omega⟩
            have hqk : q < k := by omega
            have hkind : ∀ j, j < k → ((l[j]?.map (·.kind)).getD 0 == 4) = decide (((nodes (l.take k))[j]?.map (·.kind)).getD 0 = 1) := fun j hj => by
              have h1 : j < (nodes (l.take k)).length := by omega
              rw [List.getElem?_eq_getElem h1, nodes_at _ j (by rw [List.length_take]; omega), List.getElem_take, List.getElem?_eq_getElem (by omega)]
              show (l[j].kind == 4) = decide (tkD l[j].kind = 1)
              rw [decide_eq_decide.2 (tk_list l[j].kind)]; rfl
            have hP' : Pars (l.take k) := fun j hj => by
              have hj' : j < k := by rw [List.length_take] at hj; omega
              rw [List.getElem_take]
              exact chk_par (hok j (by omega) hj')
            have hlk : (l.take k).length = k := by rw [List.length_take]; omega
            have hup : ∀ a : Int, a < k → upL (nodes (l.take k)) a = upL (l.take k) a := fun a ha => upF_same k (fun j hj => by rw [par_nodes]) hlt _ a ha
            have hpt : ∀ j, j < k → par (l.take k) j = par l j := fun j hj => par_take l k j hj
            have hlt' : ∀ j, j < k → par (l.take k) j < (j : Int) := fun j hj => by rw [← par_nodes]; exact hlt j hj
            have hline : lineB l k = (decide ((q : Int) ∈ upL (nodes (l.take k)) ((k : Int) - 1)) && (l[q].kind == 4)) := by
              unfold lineB
              rw [par_at l k hk, hq', ← lineF_same (N := l.take k) (q : Int) k hpt hlt' (fun j hj => by rw [List.getElem?_take, if_pos hj]) k _ (by omega),
                line_up hP' q (by omega) k _ k (by omega) (by omega) (by omega) (by omega), hup _ (by omega), List.getElem_take]
            have hdeep : deepF l 100 (k : Int) = (upL (nodes (l.take k)) (q : Int)).length + 1 := by
              rw [deepF_at l 99 k hk, hq', ← deepF_same (N := l.take k) k hpt hlt' 99 _ (by omega), deep_up hP' k _ 99 (by omega) (by omega) (by omega) (by omega), hup _ (by omega)]
            have hkq := hkind q hqk
            rw [List.getElem?_eq_getElem (by omega)] at hkq
            have hpf : pfD (nodes (l.take k)) (q : Int) = if ¬ (((nodes (l.take k))[q]?.map (·.kind)).getD 0 = 1) ∨ ¬ (q : Int) ∈ upL (nodes (l.take k)) ((k : Int) - 1) then 1 else if 12 ≤ (upL (nodes (l.take k)) (q : Int)).length then 2 else 0 := by
              unfold pfD
              rw [hlen, if_neg (fun h => hk0 h.1), if_neg (by omega)]
              rfl
            rw [hq', hpf]
            have hkq' : (l[q].kind == 4) = decide (((nodes (l.take k))[q]?.map (·.kind)).getD 0 = 1) := hkq
            by_cases hA : ((nodes (l.take k))[q]?.map (·.kind)).getD 0 = 1
            · by_cases hO : (q : Int) ∈ upL (nodes (l.take k)) ((k : Int) - 1)
              · rw [if_neg (by simp [hA, hO])]
                have hL : lineB l k = true := by rw [hline, hkq']; simp [hA, hO]
                rw [chk_deep hb hr hs hpb (by simp [hL]), hdeep]
                by_cases hD : 12 ≤ (upL (nodes (l.take k)) (q : Int)).length
                · rw [if_pos hD, if_pos (by omega)]
                · rw [if_neg hD, if_neg (by omega)]
              · rw [if_pos (.inr hO)]
                have hL : lineB l k = false := by rw [hline]; simp [hO]
                rw [chk_line hb hr hs hpb (by simp [hL]; omega)]
            · rw [if_pos (.inl hA)]
              have hL : lineB l k = false := by rw [hline, hkq']; simp [hA]
              rw [chk_line hb hr hs hpb (by simp [hL]; omega)]
end Go.Proofs.YtebnonpdaddniaaGreatDoor
namespace Go.Proofs.YtebnonpdaddniaaGreatDoor
open Go.RowKit Go.Extern.Stop Go.Stop Go.Extern Num Go.Lib Go.Shelf

/-- A tree of one's own: its cell names a row that is owned. -/
def OwnT (B r : Nat) (N : List Dat) (w : World) : Prop := B ≤ r ∧ w.frozen? ⟨r, 0, none⟩ = false ∧ ∃ v, Fld w B r 0 210 4 v N.length (cellsN N)
theorem OwnT.below {B r : Nat} {N : List Dat} {w w' : World} (h : OwnT B r N w) (hb : Below w.heap.size w w') : OwnT B r N w' := by
  obtain ⟨h1, h2, v, hv⟩ := h
  exact ⟨h1, by rw [(bcell hb).2 r 0 hv.lt]; exact h2, v, hv.below hb⟩
theorem OwnT.tree {B r : Nat} {N : List Dat} {w : World} (h : OwnT B r N w) : IsTree w.heap.size w r N := by
  obtain ⟨h1, h2, v, hv⟩ := h
  obtain ⟨ao, cap, rfl⟩ := own_form hv.2.1
  cases N with
  | nil => exact ⟨ao, r, cap, hv.1, hv.lt, hv.lt, fun h => absurd rfl h, fun k hk => by simp at hk⟩
  | cons t N =>
    obtain ⟨g, c, e, _, _⟩ := hv.2.1.form (by simp)
    obtain ⟨rfl, rfl⟩ : ao = some ⟨g, 0, none⟩ ∧ cap = c := by simp at e; exact e
    exact ⟨_, g, cap, hv.1, hv.lt, (hv.own_lt g rfl), fun _ => rfl, RowN.of hv.2.1⟩
theorem OwnT.add {B r : Nat} {N M : List Dat} {v : Value} {w w' : World} (hr : B ≤ r) (hB : B ≤ w.heap.size) (fz : w.frozen? ⟨r, 0, none⟩ = false) (hv : Fld w B r 0 210 4 v N.length (cellsN N)) (h : AddR B r v M w w') : OwnT B r M w' ∧ Below B w w' := by
  obtain ⟨u, w1, g', c', hb, hg, ho, hat, rfl⟩ := h
  have hlt := hv.lt
  have hne : v.ownBlock ≠ some r := fun e => hv.2.2 r e rfl
  obtain ⟨k1, k2⟩ := aftGrow hb hv.1 fz hg hne
  have hsz := hb.size
  refine ⟨⟨hr, by rw [World.frozen?_setCell]; exact k2, _, (hv.below hb).put hg ho ?_⟩, ?_⟩
  · intro g e
    have : g = g' := by simp [Value.ownBlock] at e; omega
    subst this
    rcases hat with h | h
    · exact .inl h
    · right; omega
  · exact Below.setCell ((hb.mono hB).grown hg (by omega) (fun k hk => ((hv.2.1).lt k hk).1)) (by simpa using hr) _
/-- What treeOf answers. -/
def AnsTr (l : List Dat) (w : World) (e : Ending) (w' : World) : Prop :=
  (dataFault l ≠ 0 ∧ e = .returned (.tuple #[.pointer none, .int .i64 (dataFault l)]) ∧ Below w.heap.size w w') ∨
  (dataFault l = 0 ∧ e = .returned (.tuple #[.pointer (some ⟨w.heap.size, 0, none⟩), .int .i64 0]) ∧ OwnT w.heap.size w.heap.size (nodes l) w' ∧ Below w.heap.size w w')
theorem treeOf_none (ao : Option Addr) (n cap : Nat) (w : World) (h : (n : Int) < 1) :
    Calls Tryz.prog 63 #[.slice ao n cap] w fun e w' => e = .returned (.tuple #[.pointer none, .int .i64 2]) ∧ w' = w := by
  go_enter Tryz.func63, Tryz.ntmps63
  go_wp2
  exact bodyPost_ret (v := .tuple #[.pointer none, .int .i64 2]) (by simp [results, Tryz.results63, go_sem]) rfl ⟨rfl, rfl⟩
theorem treeOf_many (ao : Option Addr) (n cap : Nat) (w : World) (h1 : ¬ (n : Int) < 1) (h : 80 < (n : Int)) :
    Calls Tryz.prog 63 #[.slice ao n cap] w fun e w' => e = .returned (.tuple #[.pointer none, .int .i64 2]) ∧ w' = w := by
  go_enter Tryz.func63, Tryz.ntmps63
  go_wp2
  exact bodyPost_ret (v := .tuple #[.pointer none, .int .i64 2]) (by simp [results, Tryz.results63, go_sem]) rfl ⟨rfl, rfl⟩
set_option maxRecDepth 100000 in
set_option maxHeartbeats 4000000 in
theorem treeOf_few (g cap : Nat) (l : List Dat) (w : World) (hR : RowD w g l) (h1 : 1 ≤ (l.length : Int)) (h80 : (l.length : Int) ≤ 80) (hz : ∀ (k : Nat) (h : k < l.length), l[k].name.size ≤ 1048576) (hL : LT w) :
    Calls Tryz.prog 63 #[.slice (some ⟨g, 0, none⟩) l.length cap] w fun e w' => AnsTr l w e w' := by
  have HR : Hid (RowD w g l) := hR
  have HZ : Hid (∀ (k : Nat) (h : k < l.length), l[k].name.size ≤ 1048576) := hz
  have HL : Hid (LT w) := hL
  have HDF : Hid (dataFault l = faultFrom l 0 l) := by show dataFault l = _; unfold dataFault; rw [if_neg (by omega)]
  clear hR hz hL
  go_enter Tryz.func63, Tryz.ntmps63
  go_wp2_with fail
  go_loopw [22] (fun v wr => ∃ k : Nat, k ≤ l.length ∧ v = .int .i64 (k : Int) ∧ Hid (okUpto l k) ∧ Hid (Below w.heap.size w wr) ∧ Hid (OwnT w.heap.size w.heap.size (nodes (l.take k)) wr)) (fun v _ => l.length - (RowKit.intOf v).toNat)
  case atStart =>
    refine ⟨0, Nat.zero_le _, rfl, fun j _ hj => by omega, (Below.refl _ _).alloc (Nat.le_refl _) _, Nat.le_refl _, by simp, .slice none 0 0, by simp, ?_, fun g h => by simp [Value.ownBlock] at h⟩
    exact World.ownsRow_nil _ _ _ _
  case round =>
    obtain ⟨k, hk, rfl, HK, HB, HO⟩ := hrel
    by_cases hlt : k < l.length
    · obtain ⟨t, ht⟩ : ∃ t, t = l[k]'hlt := ⟨_, rfl⟩
      have HT : Hid (t = l[k]'hlt) := ht
      have hcs := HR.out k hlt
      rw [← ht] at hcs
      clear ht
      obtain ⟨c0, c1, c2, c3⟩ := hcs
      replace c0 := cell_keep HB.out c0
      replace c1 := cell_keep HB.out c1
      replace c2 := cell_keep HB.out c2
      replace c3 := cell_keep HB.out c3
      obtain ⟨c, hc⟩ : ∃ c, c = dkF t := ⟨_, rfl⟩
      obtain ⟨x, HTT⟩ : ∃ x, Hid (∀ u, LT u → Calls Tryz.prog 110 #[.agg #[.int .i64 (tkD t.kind), .int .i64 t.num, .string t.name]] u fun e w' => e = .returned (.agg #[.int .i64 c, .string x]) ∧ Below u.heap.size u w') :=
        ⟨if dkF t = 0 then tokText ⟨tkD t.kind, t.num, t.name⟩ else E0, fun u hu => by rw [hc]; exact implTT_any ⟨tkD t.kind, t.num, t.name⟩ u hu (by have := HZ.out k hlt; rw [← HT.out] at this; show t.name.size ≤ _; omega)⟩
      have HTo : Hid (∀ u, Calls Tryz.prog 109 #[.agg #[.int .i64 t.kind, .int .i64 t.parent, .int .i64 t.num, .string t.name]] u fun e w' => e = .returned (.agg #[.int .i64 (tkD t.kind), .int .i64 t.num, .string t.name]) ∧ Below u.heap.size u w') := fun u => tokenOf_any t u
      have HCk : Hid (chkD l k t = if c ≠ 0 then c else pfD (nodes (l.take k)) t.parent) := by
        have := chk_split hlt HK.out (by omega)
        rw [← HT.out] at this
        rw [hc]; exact this
      have HRet : Hid (chkD l k t ≠ 0 → dataFault l = chkD l k t) := fun h => by rw [HDF.out, fault_hit l k hlt HK.out (by rw [← HT.out]; exact h), ← HT.out]
      clear hc
      go_wp2_with fail
      refine (HTo.out _).mono ?_
      rintro e w1 ⟨rfl, b1⟩
      have B1 : Hid (Below wr.heap.size wr w1) := by
        show Below _ _ _
        refine Below.trans ?_ (b1.mono (by simp))
        repeat (first | exact Below.refl _ _ | refine Below.setCell ?_ (by simp) _ | refine Below.drew ?_ | refine Below.alloc ?_ (by first | omega | (simp <;> omega)) _)
      have d1 : w1.cell? ⟨wr.heap.size, 1, none⟩ = some (.int .i64 t.parent) := by rw [(bcell b1).1 _ _ (by simp)]; simp
      have s1 : wr.heap.size < w1.heap.size := by have := b1.size; simp at this; omega
      clear b1 c0 c1 c2 c3
      go_wp2_with fail
      refine (HTT.out _ ((HL.out.below (HB.out.trans (B1.out.mono HB.out.size))).alloc _)).mono ?_
      rintro e w2 ⟨rfl, b2⟩
      have B2 : Hid (Below wr.heap.size wr w2) := by
        show Below _ _ _
        refine Below.trans ?_ (b2.mono (by simp; omega))
        repeat (first | exact B1.out | refine Below.setCell ?_ (by simp) _ | refine Below.drew ?_ | refine Below.alloc ?_ (by first | omega | (simp <;> omega)) _)
      have d2 : w2.cell? ⟨wr.heap.size, 1, none⟩ = some (.int .i64 t.parent) := by rw [(bcell b2).1 _ _ (by simp; omega)]; exact cell_laid _ d1
      have e0 : w2.cell? ⟨w1.heap.size, 0, none⟩ = some (.int .i64 (tkD t.kind)) := by rw [(bcell b2).1 _ _ (by simp)]; simp
      have e1 : w2.cell? ⟨w1.heap.size, 1, none⟩ = some (.int .i64 t.num) := by rw [(bcell b2).1 _ _ (by simp)]; simp
      have e2 : w2.cell? ⟨w1.heap.size, 2, none⟩ = some (.string t.name) := by rw [(bcell b2).1 _ _ (by simp)]; simp
      have s2 : w1.heap.size < w2.heap.size := by have := b2.size; simp at this; omega
      have s3 : wr.heap.size < w2.heap.size := by omega
      clear b2 d1 B1
      by_cases hc0 : c = 0
      · subst hc0
        obtain ⟨pf, hpf⟩ : ∃ pf, pf = pfD (nodes (l.take k)) t.parent := ⟨_, rfl⟩
        have HP : Hid (∀ u, IsTree u.heap.size u w.heap.size (nodes (l.take k)) → Calls Tryz.prog 111 #[.pointer (some ⟨w.heap.size, 0, none⟩), .int .i64 t.parent] u fun e w' => e = .returned (.int .i64 pf) ∧ Below u.heap.size u w') :=
          fun u hu => by rw [hpf]; exact pf_any _ _ (pars_take hk HK.out) (by rw [nodes_len, List.length_take]; omega) _ u hu
        have HC2 : Hid (chkD l k t = pf) := by
          have := HCk.out
          rw [if_neg (by simp), ← hpf] at this
          exact this
        clear hpf HCk
        go_wp2_with fail
        refine (HP.out _ (((HO.out.below B2.out).below ((Below.refl _ _).alloc (Nat.le_refl _) _)).tree)).mono ?_
        rintro e w3 ⟨rfl, b3⟩
        have B3 : Hid (Below wr.heap.size wr w3) := by
          show Below _ _ _
          refine Below.trans ?_ (b3.mono (by simp; omega))
          repeat (first | exact B2.out | refine Below.setCell ?_ (by simp) _ | refine Below.drew ?_ | refine Below.alloc ?_ (by first | omega | (simp <;> omega)) _)
        have d3 : w3.cell? ⟨wr.heap.size, 1, none⟩ = some (.int .i64 t.parent) := by rw [(bcell b3).1 _ _ (by simp; omega)]; exact cell_laid _ d2
        have e3 : w3.cell? ⟨w1.heap.size, 0, none⟩ = some (.int .i64 (tkD t.kind)) := by rw [(bcell b3).1 _ _ (by simp; omega)]; exact cell_laid _ e0
        have e4 : w3.cell? ⟨w1.heap.size, 1, none⟩ = some (.int .i64 t.num) := by rw [(bcell b3).1 _ _ (by simp; omega)]; exact cell_laid _ e1
        have e5 : w3.cell? ⟨w1.heap.size, 2, none⟩ = some (.string t.name) := by rw [(bcell b3).1 _ _ (by simp; omega)]; exact cell_laid _ e2
        clear b3 d2 e0 e1 e2 B2
        by_cases hp0 : pf = 0
        · subst hp0
          have HO3 : Hid (OwnT w.heap.size w.heap.size (nodes (l.take k)) w3) := HO.out.below B3.out
          obtain ⟨v, HF⟩ : ∃ v, Hid (Fld w3 w.heap.size w.heap.size 0 210 4 v (nodes (l.take k)).length (cellsN (nodes (l.take k)))) := HO3.out.2.2
          have hsz : w.heap.size ≤ w3.heap.size := Nat.le_trans HB.out.size B3.out.size
          have HA : Hid (Calls Tryz.prog 112 #[.pointer (some ⟨w.heap.size, 0, none⟩), .int .i64 t.parent, .agg #[.int .i64 (tkD t.kind), .int .i64 t.num, .string t.name]] w3 fun e w' => e = .returned (.int .i64 ((nodes (l.take k)).length : Nat)) ∧ AddR w.heap.size w.heap.size v (nodes (l.take k) ++ [nodD t]) w3 w') :=
            add_any _ _ v _ t.parent (tkD t.kind) t.num t.name w3 hsz HO3.out.2.1 HF.out (by rw [nodes_len, List.length_take]; omega)
          go_wp2_with fail
          refine HA.out.mono ?_
          rintro e w4 ⟨rfl, R4⟩
          have H4 : Hid (OwnT w.heap.size w.heap.size (nodes (l.take (k + 1))) w4 ∧ Below w.heap.size w3 w4) := by
            have := OwnT.add (Nat.le_refl _) hsz HO3.out.2.1 HF.out R4
            have e : nodes (l.take (k + 1)) = nodes (l.take k) ++ [nodD t] := by rw [takeD l k hlt, HT.out]; unfold nodes; rw [List.map_append]; rfl
            rw [e]; exact this
          clear R4
          go_wp2_with fail
          exact ⟨⟨k + 1, by omega, by go_num, okUpto_next HK.out hlt (by rw [← HT.out]; exact HC2.out), HB.out.trans ((B3.out.mono HB.out.size).trans H4.out.2), H4.out.1⟩, by simp [RowKit.intOf]; omega⟩
        · have hne : (pf != 0) = true := by simpa using hp0
          have HV : Hid (dataFault l = pf) := by
            have := HRet.out (by rw [HC2.out]; exact hp0)
            rw [HC2.out] at this; exact this
          go_wp2_with fail
          refine bodyPost_ret (v := .tuple #[.pointer none, .int .i64 pf]) (by simp [results, Tryz.results63, go_sem]) rfl (.inl ⟨?_, ?_, HB.out.trans (B3.out.mono HB.out.size)⟩)
          · rw [HV.out]; exact hp0
          · rw [HV.out]
      · have hne : (c != 0) = true := by simpa using hc0
        have HV : Hid (dataFault l = c) := by
          have hk2 := HCk.out
          rw [if_pos hc0] at hk2
          have := HRet.out (by rw [hk2]; exact hc0)
          rw [hk2] at this; exact this
        go_wp2_with fail
        go_region
        all_goals
          go_wp2_with fail
          refine bodyPost_ret (v := .tuple #[.pointer none, .int .i64 c]) (by simp [results, Tryz.results63, go_sem]) rfl (.inl ⟨?_, ?_, ?_⟩)
          · rw [HV.out]; exact hc0
          · rw [HV.out]
          · refine HB.out.trans ((?_ : Below wr.heap.size wr _).mono HB.out.size)
            repeat (first | exact B2.out | refine Below.setCell ?_ (by simp) _ | refine Below.drew ?_ | refine Below.alloc ?_ (by first | omega | (simp <;> omega)) _)
    · obtain rfl : k = l.length := by omega
      go_wp2_with fail
      refine bodyPost_ret (v := .tuple #[.pointer (some ⟨w.heap.size, 0, none⟩), .int .i64 0]) (by simp [results, Tryz.results63, go_sem]) rfl (.inr ⟨?_, rfl, ?_, HB.out⟩)
      · rw [HDF.out]; exact fault_end l HK.out
      · have := HO.out; rw [List.take_length] at this; exact this
theorem treeOf_any (ao : Option Addr) (cap base : Nat) (l : List Dat) (w : World) (h : w.ownsRow base 100 4 (.slice ao l.length cap) l.length (cellsD l)) (hz : ∀ (k : Nat) (h : k < l.length), l[k].name.size ≤ 1048576) (hL : LT w) :
    Calls Tryz.prog 63 #[.slice ao l.length cap] w fun e w' => AnsTr l w e w' := by
  by_cases h1 : l.length < 1
  · refine (treeOf_none ao l.length cap w (by omega)).mono ?_
    rintro e w' ⟨rfl, rfl⟩
    have e : dataFault l = 2 := by unfold dataFault; rw [if_pos (by omega)]
    exact .inl ⟨by rw [e]; decide, by rw [e], Below.refl _ _⟩
  · by_cases h2 : 80 < l.length
    · refine (treeOf_many ao l.length cap w (by omega) (by omega)).mono ?_
      rintro e w' ⟨rfl, rfl⟩
      have e : dataFault l = 2 := by unfold dataFault; rw [if_pos (by omega)]
      exact .inl ⟨by rw [e]; decide, by rw [e], Below.refl _ _⟩
    · obtain ⟨g, c, e, _, _⟩ := h.form (by omega)
      obtain ⟨rfl, rfl⟩ : ao = some ⟨g, 0, none⟩ ∧ cap = c := by simp at e; exact e
      exact treeOf_few g cap l w (RowD.of h) (by omega) (by omega) hz hL
set_option maxHeartbeats 1000000 in
/-- The program's DataFault. -/
theorem implDF_any (ao : Option Addr) (cap base : Nat) (l : List Dat) (w : World) (h : w.ownsRow base 100 4 (.slice ao l.length cap) l.length (cellsD l)) (hz : ∀ (k : Nat) (h : k < l.length), l[k].name.size ≤ 1048576) (hL : LT w) :
    Calls Tryz.prog 182 #[.slice ao l.length cap] w fun e w' => e = .returned (.int .i64 (dataFault l)) ∧ Below w.heap.size w w' := by
  have HT : Hid (Calls Tryz.prog 63 #[.slice ao l.length cap] w fun e w' => ∃ p, e = .returned (.tuple #[.pointer p, .int .i64 (dataFault l)]) ∧ Below w.heap.size w w') :=
    (treeOf_any ao cap base l w h hz hL).mono fun e w' h => by
      rcases h with ⟨_, he, hb⟩ | ⟨h0, he, _, hb⟩
      · exact ⟨_, he, hb⟩
      · exact ⟨_, by rw [h0]; exact he, hb⟩
  clear h hz hL
  generalize dataFault l = df at HT ⊢
  go_enter Tryz.func182, Tryz.ntmps182
  go_wp2_with (go_at_call 63; refine HT.out.mono ?_; rintro e w' ⟨p, rfl, hb⟩)
  go_ret
  exact ⟨rfl, hb⟩
end Go.Proofs.YtebnonpdaddniaaGreatDoor
