/-
  Parts of the proof laid into one text, one behind the other; each says at its head what is proved in it.
-/
import Derived.Test.YtebnonpdaddniaaGreatDoorHtG
import Derived.Lib.Builder
import Derived.Lib.AppendStr
import Derived.Laws.Externs
import Derived.Shelf.RegionOpenPlain
/-
  The library's strings.Builder, written at its end: what else was there stays as it was. A builder's blocks: its own, and its row.
-/
namespace Go.Proofs.YtebnonpdaddniaaGreatDoor
open Go.RowKit Go.Extern.Stop Go.Stop Go.Extern Num Go.Lib Go.Shelf

theorem sizeB : (Tryz.prog.info? 137).map (·.size) = some 2 := by kernel_rfl
theorem liesB : liesAt Tryz.prog Tryz.prog.depth 137 (2 / Tryz.prog.cellsOf 137) 0 137 1 = true := by kernel_rfl
theorem infoByte : (Tryz.prog.info? 5).map (fun i => (i.zero, i.size, i.bytes)) = some (some (.int .u8 0), 1, 1) := by kernel_rfl
set_option maxRecDepth 100000 in
set_option maxHeartbeats 1000000 in
theorem cc_used (b : Nat) (w : World) (h0 : w.cell? ⟨b, 0, none⟩ = some (.pointer (some ⟨b, 0, none⟩))) :
    Calls Tryz.prog 129 #[.pointer (some ⟨b, 0, none⟩)] w fun e w' => e = .returned (.tuple #[]) ∧ w' = w := by
  obtain ⟨j, hj, _⟩ := Option.map_eq_some_iff.1 sizeB
  go_enter Tryz.func129, Tryz.ntmps129
  go_wp2
  rw [Lib.run_neq_ptr_same w _ Tryz.underlying135 hj]
  go_wp2
  exact bodyPost_end (v := .tuple #[]) (by simp [results, Tryz.results129]) rfl ⟨rfl, rfl⟩
set_option maxRecDepth 100000 in
set_option maxHeartbeats 1000000 in
theorem cc_fresh (b : Nat) (w : World) (h0 : w.cell? ⟨b, 0, none⟩ = some (.pointer none)) (hsh : w.shape? b = some (137, 2)) (hfz : w.frozen? ⟨b, 0, none⟩ = false) :
    Calls Tryz.prog 129 #[.pointer (some ⟨b, 0, none⟩)] w fun e w' => e = .returned (.tuple #[]) ∧ w' = w.setCell ⟨b, 0, none⟩ (.pointer (some ⟨b, 0, none⟩)) := by
  obtain ⟨j, hj, hjs⟩ := Option.map_eq_some_iff.1 sizeB
  go_enter Tryz.func129, Tryz.ntmps129
  go_wp2
  rw [Lib.run_to_unsafe w ⟨b, 0, none⟩ Tryz.underlying135 Tryz.underlying246 hj (by rw [hjs]; decide) hsh (Nat.zero_lt_succ 1)]
  simp only [Result.andThen]
  rw [Oper.upon_value]
  go_wp2
  rw [run_callFunc_extern Tryz.func173 (by kernel_rfl) (by kernel_rfl) (by kernel_rfl) (e := Extern.AbiNoEscape.same) (by kernel_rfl)]
  rw [Lib.run_noEscape]
  simp only [Result.andThen]
  rw [Oper.upon_value]
  go_wp2
  rw [Lib.run_from_unsafe w ⟨b, 0, none⟩ Tryz.underlying246 Tryz.underlying135 hj hsh liesB]
  simp only [Result.andThen]
  rw [Oper.upon_value]
  go_wp2
  exact bodyPost_end (v := .tuple #[]) (by simp [results, Tryz.results129]) rfl ⟨rfl, rfl⟩
/-- A string's bytes appended to a row: it is the row that it was, or a new one. -/
theorem append_str_at {P : Program} (w : World) (base : Nat) (t u ty e : TypeId) (i : TypeInfo) (ht : P.underlying t = some (.slice e)) (hu : P.underlying u = some .string) (hi : P.info? e = some i) (hz : i.zero = some (.int .u8 0))
    (hsize : i.size = 1) (hby : i.bytes = 1) (v : Value) (n : Nat) (xs : List Value) (hown : w.ownsRow base e 1 v n xs) (s : ByteArray) (h63 : n + s.size ≤ maxLen) (hbytes : n + s.size ≤ 140737488355328) {v' : Value} {w' : World}
    (hr : (Builtin.append_ #[t, u] ty #[v, .string s]).run P w = .ok v' w') : v'.ownBlock = v.ownBlock ∨ v'.ownBlock = some w.heap.size := by
  have hsmall : n + s.size ≤ 9223372036854775807 := by simp only [maxLen] at h63; omega
  have hxl : xs.length = n := by simpa using hown.1
  rcases hown.2 with ⟨rfl, rfl⟩ | ⟨g, cap, cur, rfl, hbg, hg, hnc, hcm, hcs, htake⟩
  · by_cases hm : s.size = 0
    · have hf := run_firstCells_string (P := P) w 1 s
      rw [hm] at hf
      have h2 : (Builtin.append_ #[t, u] ty #[.slice none 0 0, .string s]).run P w = .ok (.slice none 0 0) w := by simp [Builtin.append_, run_underlying ht, run_underlying hu, sizeOf, typeInfo, hi, hsize, Builtin.lenOf, hm, hf]
      rw [h2] at hr
      cases hr
      exact .inl rfl
    · have h2 := run_append_nil_string (P := P) w t u ty e i (.int .u8 0) ht hu hi hz s (by omega) (by omega) (by rw [hby]; omega)
      rw [h2] at hr
      cases hr
      exact .inr rfl
  · by_cases hroom : n + s.size ≤ cap
    · have hcs' : cur.size = cap := by simpa using hcs
      have h2 := run_append_room_string (P := P) w t u ty e i ht hu hi hsize g n cap cur hg s hroom (by omega)
      rw [h2] at hr
      cases hr
      exact .inl rfl
    · have holds : ∀ j u, xs[j]? = some u → w.cell? ((⟨g, 0, none⟩ : Addr).add j) = some u := hown.cells (g := g) rfl
      have h2 := run_append_grow_string (P := P) w t u ty e i (.int .u8 0) ht hu hi hz ⟨g, 0, none⟩ n cap xs (by rw [hsize]; simpa using hxl) holds s (by omega) (by omega) (by rw [hby]; exact growslice_fits (by omega) (by omega))
      rw [h2] at hr
      cases hr
      exact .inr rfl
theorem wpList_str_at {P : Program} {w : World} {ops : Array Oper} {rest : List Oper} {o : Oper} {a : Act} {Q : Exit → Act → World → Prop} (hgd : o.guard = none) (sl x : Operand) (t u : TypeId)
    (ho : o.op = .call { callee := .builtin .append, args := #[sl, x], argTypes := #[t, u] })
    (base : Nat) (e : TypeId) (i : TypeInfo) (ht : P.underlying t = some (.slice e)) (hu : P.underlying u = some .string) (hi : P.info? e = some i) (hz : i.zero = some (.int .u8 0)) (hsize : i.size = 1) (hby : i.bytes = 1)
    (v : Value) (n : Nat) (xs : List Value) (hs : a.eval sl = v) (hown : w.ownsRow base e 1 v n xs) (s : ByteArray) (hx : a.eval x = .string s) (h63 : n + s.size ≤ maxLen) (hbytes : n + s.size ≤ 140737488355328) (hbase : base ≤ w.heap.size)
    (h : ∀ v' w', w'.ownsRow base e 1 v' (n + s.size) (xs ++ strCells s) → w.grownBy w' v.ownBlock → (v'.ownBlock = v.ownBlock ∨ v'.ownBlock = some w.heap.size) → wpList P ops Q rest (a.put o.dst v') w') : wpList P ops Q (o :: rest) a w := by
  refine wpList_plain hgd fun K hK => ?_
  obtain ⟨v', w', hr, h2, h3, _⟩ := run_append_own_string (P := P) w base t u o.type e i ht hu hi hz hsize hby v n xs hown s h63 hbytes hbase
  have hat := append_str_at w base t u o.type e i ht hu hi hz hsize hby v n xs hown s h63 hbytes hr
  unfold Oper.wp execOp
  simp only [ho, resolve, invoke, builtin, Sem.run_bind, Sem.run_pure, Result.andThen_ok, List.map_toArray, List.map_cons, List.map_nil, hs, hx, hr]
  exact hK _ _ (h v' w' h2 h3 hat)
/-- A builder that holds bytes, and the value of its row. -/
def BldV (n₀ b : Nat) (v : Value) (bs : List Value) (w : World) : Prop :=
  n₀ ≤ b ∧ (∃ p, (p = Value.pointer none ∨ p = .pointer (some ⟨b, 0, none⟩)) ∧ w.heap[b]? = some (.cells #[p, v] 137 (0, 0))) ∧ w.ownsRow n₀ 5 1 v bs.length bs ∧ v.ownBlock ≠ some b
theorem BldV.is {n₀ b : Nat} {v : Value} {bs : List Value} {w : World} (h : BldV n₀ b v bs w) : IsBuilder 137 5 n₀ b bs w := by
  obtain ⟨h1, ⟨p, rfl | rfl, hp⟩, h3, h4⟩ := h
  · exact .inl ⟨h1, v, hp, h3, h4⟩
  · exact .inr ⟨h1, v, hp, h3, h4⟩
theorem BldV.lt {n₀ b : Nat} {v : Value} {bs : List Value} {w : World} (h : BldV n₀ b v bs w) : b < w.heap.size := by
  obtain ⟨_, ⟨p, _, hp⟩, _, _⟩ := h
  exact (Array.getElem?_eq_some_iff.1 hp).1
/-- Its blocks. -/
def Mb (b : Nat) (W : World) (k : Nat) : Prop := k = b ∨ ∃ p v fr, W.heap[b]? = some (.cells #[p, v] 137 fr) ∧ v.ownBlock = some k
theorem BldV.mb {n₀ b : Nat} {v : Value} {bs : List Value} {w : World} (h : BldV n₀ b v bs w) {k : Nat} : Mb b w k ↔ k = b ∨ v.ownBlock = some k := by
  obtain ⟨_, ⟨p, _, hp⟩, _, _⟩ := h
  constructor
  · rintro (h | ⟨p', v', fr, h1, h2⟩)
    · exact .inl h
    · rw [hp] at h1
      obtain ⟨h3, -⟩ : #[p, v] = #[p', v'] ∧ _ := by simpa using h1
      have : v = v' := by simp at h3; exact h3.2
      subst this
      exact .inr h2
  · rintro (h | h)
    · exact .inl h
    · exact .inr ⟨p, v, _, hp, h⟩
set_option maxRecDepth 100000 in
set_option maxHeartbeats 1000000 in
theorem ws_any (n₀ b : Nat) (v : Value) (bs : List Value) (s : ByteArray) (w : World) (h : BldV n₀ b v bs w) (hlen : bs.length + s.size ≤ 140737488355328) (hn : n₀ ≤ w.heap.size) :
    Calls Tryz.prog 86 #[.pointer (some ⟨b, 0, none⟩), .string s] w fun e w' => ∃ r v', e = .returned r ∧ BldV n₀ b v' (bs ++ strCells s) w' ∧ Kq n₀ (Mb b) w w' := by
  obtain ⟨i0, hi, hz0, hz1, hz2⟩ := info_parts infoByte
  have hcc : Calls Tryz.prog 129 #[.pointer (some ⟨b, 0, none⟩)] w fun e w' => e = .returned (.tuple #[]) ∧ w'.heap[b]? = some (.cells #[.pointer (some ⟨b, 0, none⟩), v] 137 (0, 0)) ∧ w.grownBy w' (some b) ∧ w'.heap.size = w.heap.size := by
    obtain ⟨h1, ⟨p, rfl | rfl, hp⟩, h3, h4⟩ := h
    · have hB : BuilderAt 137 5 n₀ b (.pointer none) bs w := ⟨h1, v, hp, h3, h4⟩
      refine (cc_fresh b w hB.cell0 hB.shape hB.frozen0).mono ?_
      rintro e w' ⟨rfl, rfl⟩
      exact ⟨rfl, by simp [World.setCell, Array.getElem?_modify, hp], ⟨rfl, rfl, rfl, by simp, fun k _ hk => Below.heap_setCell _ _ _ _ (fun e => hk (by simp [e]))⟩, by simp⟩
    · refine (cc_used b w (by rw [cell_of_heap hp]; rfl)).mono ?_
      rintro e w' ⟨rfl, rfl⟩
      exact ⟨rfl, hp, ⟨rfl, rfl, rfl, Nat.le_refl _, fun _ _ _ => rfl⟩, rfl⟩
  have HC : Hid (Calls Tryz.prog 129 #[.pointer (some ⟨b, 0, none⟩)] w fun e w' => e = .returned (.tuple #[]) ∧ w'.heap[b]? = some (.cells #[.pointer (some ⟨b, 0, none⟩), v] 137 (0, 0)) ∧ w.grownBy w' (some b) ∧ w'.heap.size = w.heap.size) := hcc
  clear hcc
  have hmb : ∀ {k : Nat}, Mb b w k ↔ k = b ∨ v.ownBlock = some k := h.mb
  have hlt := h.lt
  obtain ⟨hB, -, hown0, hne⟩ := h
  go_enter Tryz.func86, Tryz.ntmps86
  go_wp2_with (go_at_call 129; refine HC.out.mono ?_)
  rintro e w1 ⟨rfl, hbk, hg1, hs1⟩
  have hown : w1.ownsRow n₀ 5 1 v bs.length bs := hown0.kept hg1 (.inr hne)
  have c0 : w1.cell? ⟨b, 0, none⟩ = some (.pointer (some ⟨b, 0, none⟩)) := by rw [cell_of_heap hbk]; rfl
  have c1 : w1.cell? ⟨b, 1, none⟩ = some v := by rw [cell_of_heap hbk]; rfl
  go_wp2_with (at_builtin; refine wpList_str_at rfl _ _ 22 9 rfl n₀ 5 i0 Tryz.underlying22 Tryz.underlying9 hi hz0 hz1 hz2 _ _ _ rfl hown s rfl ?c3 ?c4 ?c5 ?_)
  case c3 => unfold maxLen; omega
  case c4 => omega
  case c5 => omega
  intro v' w2 hown' hgrow hat
  have hb2 : w2.heap[b]? = some (.cells #[.pointer (some ⟨b, 0, none⟩), v] 137 (0, 0)) := by
    rw [hgrow.block b (by omega) (fun e => hne e.symm)]
    exact hbk
  have d0 : w2.cell? ⟨b, 0, none⟩ = some (.pointer (some ⟨b, 0, none⟩)) := by rw [cell_of_heap hb2]; rfl
  have d1 : w2.cell? ⟨b, 1, none⟩ = some v := by rw [cell_of_heap hb2]; rfl
  have f1 : w2.frozen? ⟨b, 1, none⟩ = false := frozen_of_heap hb2 1
  obtain ⟨ao, n', cap, rfl⟩ : ∃ ao n' cap, v' = .slice ao n' cap := by
    rcases hown'.2 with ⟨hv, _⟩ | ⟨g, cap, cur, hv, _⟩
    · exact ⟨_, _, _, hv⟩
    · exact ⟨_, _, _, hv⟩
  go_wp2
  go_ret2
  have hput := BuilderAt.put (T := 137) (e := 5) hB hb2 (bs' := bs ++ strCells s) (by simpa [strCells_length] using hown') (by decide)
  have hb3 : (w2.setCell ⟨b, 1, none⟩ (.slice ao n' cap)).heap[b]? = some (.cells #[.pointer (some ⟨b, 0, none⟩), .slice ao n' cap] 137 (0, 0)) := by simp [World.setCell, Array.getElem?_modify, hb2]
  have hnew : BldV n₀ b (.slice ao n' cap) (bs ++ strCells s) (w2.setCell ⟨b, 1, none⟩ (.slice ao n' cap)) := by
    obtain ⟨q1, v2, q2, q3, q4⟩ := hput
    have : v2 = .slice ao n' cap := by rw [hb3] at q2; simp at q2; exact q2.symm
    subst this
    exact ⟨q1, ⟨_, .inr rfl, q2⟩, q3, q4⟩
  have hsz2 := hgrow.size
  have hown_lt : ∀ k, v.ownBlock = some k → n₀ ≤ k := fun k hk => (hown0.lt k hk).1
  refine ⟨_, _, rfl, hnew, ⟨?_, fun k hk hm => ?_, fun k hk hm => ?_⟩⟩
  · exact ((below_grown hg1 hn (fun r e => by cases e; exact hB)).trans (below_grown hgrow (by omega) (fun r e => hown_lt r e))).setCell (p := ⟨b, 1, none⟩) hB _
  · have h1 : k ≠ b := fun e => hm (hmb.2 (.inl e))
    have h2 : some k ≠ v.ownBlock := fun e => hm (hmb.2 (.inr e.symm))
    refine (Below.heap_setCell _ _ _ _ h1).trans ((hgrow.block k (by omega) h2).trans (hg1.block k hk (fun e => h1 (by simpa using e))))
  · rcases hnew.mb.1 hm with e | e
    · exact hmb.2 (.inl e)
    · rcases hat with e2 | e2
      · exact hmb.2 (.inr (e2.symm.trans e))
      · rw [e] at e2
        have : k = w.heap.size := Option.some.inj e2
        omega
end Go.Proofs.YtebnonpdaddniaaGreatDoor
