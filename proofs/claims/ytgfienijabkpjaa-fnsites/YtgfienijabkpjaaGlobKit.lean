/-
  Globals in memory: a block of a map and sixty rows of words; the program's size, symbolOf, isVersion and rowOf; nothing that was there is turned.
-/
import Derived.Test.YtgfienijabkpjaaMapKit
import Derived.Test.YtgfienijabkpjaaImplVF
import Derived.Deep.MidRow
namespace Go.Proofs.Ytgfienijabkpjaa
open Go.RowKit Go.Extern.Stop Go.Stop Go.Extern Num Go.Lib

/-- One global as words. -/
structure Rw where
  name : Wd
  value : Wd
  ver : Int
abbrev Rw.val (r : Rw) : Value := .agg #[.int .u8 r.name.tag, .int .u64 r.name.rest, .int .u8 r.value.tag, .int .u64 r.value.rest, .int .i64 r.ver]
def Rw.cells (r : Rw) : List Value := [.int .u8 r.name.tag, .int .u64 r.name.rest, .int .u8 r.value.tag, .int .u64 r.value.rest, .int .i64 r.ver]
def rwOf (t : Glb) : Rw := ⟨nW t.name, wdOf t.value, t.ver⟩
def rwZ : Rw := ⟨⟨0, 0⟩, ⟨0, 0⟩, 0⟩
/-- The cells of globals: a map's block, and rows. -/
structure GlC (C : List Value) (b : Nat) (rs : List Rw) : Prop where
  len : C.length = 301
  one : ∀ v ∈ C, v.oneCell' = true
  head : C[0]? = some (.map (some b))
  row : ∀ (k : Nat) (h : k < rs.length), C[1 + k * 5]? = some (.int .u8 rs[k].name.tag) ∧ C[1 + k * 5 + 1]? = some (.int .u64 rs[k].name.rest) ∧ C[1 + k * 5 + 2]? = some (.int .u8 rs[k].value.tag) ∧ C[1 + k * 5 + 3]? = some (.int .u64 rs[k].value.rest) ∧ C[1 + k * 5 + 4]? = some (.int .i64 rs[k].ver)
  max : rs.length ≤ 60
/-- Globals that lie in a block of their own. -/
structure GlAt (w : World) (h b : Nat) (rs : List Rw) : Prop where
  ne : h ≠ b
  map : MapW w b (rs.map Rw.name)
  dup : (rs.map Rw.name).Nodup
  free : ∀ j, w.frozen? ⟨h, j, none⟩ = false
  cells : ∃ C : List Value, w.rangeAt h 0 C ∧ GlC C b rs
theorem range_below {w w' : World} {h : Nat} {C : List Value} (H : w.rangeAt h 0 C) (hb : Below w.heap.size w w') : w'.rangeAt h 0 C := fun j v hv => cell_keep hb (H j v hv)
theorem range_lt {w : World} {h : Nat} {C : List Value} (H : w.rangeAt h 0 C) (hl : 0 < C.length) : h < w.heap.size := lt_of_cell (H 0 _ (List.getElem?_eq_getElem hl))
theorem GlAt.lt {w : World} {h b : Nat} {rs : List Rw} (H : GlAt w h b rs) : h < w.heap.size := by
  obtain ⟨C, h1, h2⟩ := H.cells
  exact range_lt h1 (by rw [h2.len]; omega)
theorem GlAt.below {w w' : World} {h b : Nat} {rs : List Rw} (H : GlAt w h b rs) (hb : Below w.heap.size w w') : GlAt w' h b rs := by
  have hlt := H.lt
  obtain ⟨C, h1, h2⟩ := H.cells
  exact ⟨H.ne, H.map.below hb, H.dup, fun j => by rw [(bcell hb).2 _ _ hlt]; exact H.free j, C, range_below h1 hb, h2⟩
theorem GlAt.hd {w : World} {h b : Nat} {rs : List Rw} (H : GlAt w h b rs) : w.cell? ⟨h, 0, none⟩ = some (.map (some b)) := by
  obtain ⟨C, h1, h2⟩ := H.cells
  exact h1 0 _ h2.head
theorem GlAt.row {w : World} {h b : Nat} {rs : List Rw} (H : GlAt w h b rs) (k : Nat) (hk : k < rs.length) : w.cell? ⟨h, 1 + k * 5, none⟩ = some (.int .u8 rs[k].name.tag) ∧ w.cell? ⟨h, 1 + k * 5 + 1, none⟩ = some (.int .u64 rs[k].name.rest) ∧ w.cell? ⟨h, 1 + k * 5 + 2, none⟩ = some (.int .u8 rs[k].value.tag) ∧ w.cell? ⟨h, 1 + k * 5 + 3, none⟩ = some (.int .u64 rs[k].value.rest) ∧ w.cell? ⟨h, 1 + k * 5 + 4, none⟩ = some (.int .i64 rs[k].ver) := by
  obtain ⟨C, h1, h2⟩ := H.cells
  have := h2.row k hk
  have g : ∀ j v, C[j]? = some v → w.cell? ⟨h, j, none⟩ = some v := fun j v hv => by have := h1 j v hv; rwa [Nat.zero_add] at this
  exact ⟨g _ _ this.1, g _ _ this.2.1, g _ _ this.2.2.1, g _ _ this.2.2.2.1, g _ _ this.2.2.2.2⟩
theorem GlAt.has {w : World} {h b : Nat} {rs : List Rw} (H : GlAt w h b rs) (j : Nat) (hj : j < 301) : ∃ u, w.cell? ⟨h, j, none⟩ = some u := by
  obtain ⟨C, h1, h2⟩ := H.cells
  have := h1 j _ (List.getElem?_eq_getElem (by rw [h2.len]; exact hj))
  rw [Nat.zero_add] at this
  exact ⟨_, this⟩
theorem range_set {w : World} {h o : Nat} {C : List Value} {v : Value} (H : w.rangeAt h 0 C) (ho : o < C.length) : (w.setCell ⟨h, o, none⟩ v).rangeAt h 0 (C.set o v) := fun j u hu => by
  rw [Nat.zero_add]
  by_cases e : o = j
  · subst e
    rw [List.getElem?_set_self ho] at hu
    have := H o _ (List.getElem?_eq_getElem ho)
    rw [Nat.zero_add] at this
    rw [World.cell?_setCell_same _ _ _ this, hu]
  · rw [List.getElem?_set_ne e] at hu
    have := H j u hu
    rw [Nat.zero_add] at this
    rw [World.cell?_setCell_other _ _ _ _ (by simp)]; exact this
/-- A row put into its place. -/
def putR (C : List Value) (k : Nat) (r : Rw) : List Value := ((((C.set (1 + k * 5) (.int .u8 r.name.tag)).set (1 + k * 5 + 1) (.int .u64 r.name.rest)).set (1 + k * 5 + 2) (.int .u8 r.value.tag)).set (1 + k * 5 + 3) (.int .u64 r.value.rest)).set (1 + k * 5 + 4) (.int .i64 r.ver)
theorem putR_len (C : List Value) (k : Nat) (r : Rw) : (putR C k r).length = C.length := by simp [putR]
theorem putR_other (C : List Value) (k : Nat) (r : Rw) (j : Nat) (hj : j < 1 + k * 5 ∨ 1 + k * 5 + 5 ≤ j) : (putR C k r)[j]? = C[j]? := by
  unfold putR
  rw [List.getElem?_set_ne (by omega), List.getElem?_set_ne (by omega), List.getElem?_set_ne (by omega), List.getElem?_set_ne (by omega), List.getElem?_set_ne (by omega)]
theorem putR_at (C : List Value) (k : Nat) (r : Rw) (hl : 1 + k * 5 + 5 ≤ C.length) : (putR C k r)[1 + k * 5]? = some (.int .u8 r.name.tag) ∧ (putR C k r)[1 + k * 5 + 1]? = some (.int .u64 r.name.rest) ∧ (putR C k r)[1 + k * 5 + 2]? = some (.int .u8 r.value.tag) ∧ (putR C k r)[1 + k * 5 + 3]? = some (.int .u64 r.value.rest) ∧ (putR C k r)[1 + k * 5 + 4]? = some (.int .i64 r.ver) := by
  unfold putR
  refine ⟨?_, ?_, ?_, ?_, ?_⟩
  · rw [List.getElem?_set_ne (by omega), List.getElem?_set_ne (by omega), List.getElem?_set_ne (by omega), List.getElem?_set_ne (by omega), List.getElem?_set_self (by omega)]
  · rw [List.getElem?_set_ne (by omega), List.getElem?_set_ne (by omega), List.getElem?_set_ne (by omega), List.getElem?_set_self (by simp; omega)]
  · rw [List.getElem?_set_ne (by omega), List.getElem?_set_ne (by omega), List.getElem?_set_self (by simp; omega)]
  · rw [List.getElem?_set_ne (by omega), List.getElem?_set_self (by simp; omega)]
  · rw [List.getElem?_set_self (by simp; omega)]
theorem putR_one {C : List Value} (k : Nat) (r : Rw) (h : ∀ v ∈ C, v.oneCell' = true) : ∀ v ∈ putR C k r, v.oneCell' = true := by
  intro v hv
  unfold putR at hv
  rcases List.mem_or_eq_of_mem_set hv with hv | rfl
  · rcases List.mem_or_eq_of_mem_set hv with hv | rfl
    · rcases List.mem_or_eq_of_mem_set hv with hv | rfl
      · rcases List.mem_or_eq_of_mem_set hv with hv | rfl
        · rcases List.mem_or_eq_of_mem_set hv with hv | rfl
          · exact h v hv
          · rfl
        · rfl
      · rfl
    · rfl
  · rfl
theorem range_putR {w : World} {h : Nat} {C : List Value} (H : w.rangeAt h 0 C) (k : Nat) (r : Rw) (hl : 1 + k * 5 + 5 ≤ C.length) :
    (((((w.setCell ⟨h, 1 + k * 5, none⟩ (.int .u8 r.name.tag)).setCell ⟨h, 1 + k * 5 + 1, none⟩ (.int .u64 r.name.rest)).setCell ⟨h, 1 + k * 5 + 2, none⟩ (.int .u8 r.value.tag)).setCell ⟨h, 1 + k * 5 + 3, none⟩ (.int .u64 r.value.rest)).setCell ⟨h, 1 + k * 5 + 4, none⟩ (.int .i64 r.ver)).rangeAt h 0 (putR C k r) :=
  range_set (range_set (range_set (range_set (range_set H (by omega)) (by simp; omega)) (by simp; omega)) (by simp; omega)) (by simp; omega)
/-- One more row. -/
theorem GlC.more {C : List Value} {b : Nat} {rs : List Rw} (H : GlC C b rs) (r : Rw) (hl : rs.length < 60) : GlC (putR C rs.length r) b (rs ++ [r]) := by
  have hL := H.len
  refine ⟨by rw [putR_len]; exact hL, putR_one _ _ H.one, by rw [putR_other _ _ _ _ (by omega)]; exact H.head, fun k hk => ?_, by simp; omega⟩
  by_cases e : k < rs.length
  · rw [List.getElem_append_left e, putR_other _ _ _ _ (by omega), putR_other _ _ _ _ (by omega), putR_other _ _ _ _ (by omega), putR_other _ _ _ _ (by omega), putR_other _ _ _ _ (by omega)]
    exact H.row k e
  · have : k = rs.length := by simp at hk; omega
    subst this
    rw [List.getElem_append_right (Nat.le_refl _)]
    simp only [Nat.sub_self, List.getElem_cons_zero]
    exact putR_at C rs.length r (by omega)
set_option maxHeartbeats 1000000 in
theorem size_g (h b : Nat) (rs : List Rw) (w : World) (H : GlAt w h b rs) :
    Calls Try.prog 66 #[.pointer (some ⟨h, 0, none⟩)] w fun e w' => e = .returned (.int .i64 (rs.length : Int)) ∧ w' = w := by
  have c0 := H.hd
  have hln := H.map.len
  rw [List.length_map] at hln
  clear H
  go_enter Try.func66, Try.ntmps66
  go_wp2
  go_ret
  exact ⟨rfl, rfl⟩
theorem isVer_any (p : Int) (w : World) : Calls Try.prog 91 #[.int .i64 p] w fun e w' => e = .returned (.bool (decide (1 ≤ p) && decide (p ≤ 99999))) ∧ w' = w := by
  by_cases h1 : 1 ≤ p
  · go_enter Try.func91, Try.ntmps91
    go_wp2
    go_ret
    exact ⟨by simp [h1], rfl⟩
  · go_enter Try.func91, Try.ntmps91
    go_wp2
    go_ret
    exact ⟨by simp; omega, rfl⟩
/-- The code of a name. -/
def symC (s : ByteArray) : Int := if symL s.data.toList = true then 0 else 5
set_option maxHeartbeats 1000000 in
theorem symOf_any (s : ByteArray) (w : World) (hs : s.size ≤ 9223372036854775807) :
    Calls Try.prog 74 #[.string s] w fun e w' => e = .returned (.tuple #[(nW s).val, .int .i64 (symC s)]) ∧ Below w.heap.size w w' := by
  obtain ⟨x, hx⟩ : ∃ x, x = nW s := ⟨_, rfl⟩
  obtain ⟨c, hc⟩ : ∃ c, c = symC s := ⟨_, rfl⟩
  have HC : Hid (∀ w, Calls Try.prog 64 #[.agg #[.int .i64 4, .int .i64 0, .string s]] w fun e w' => e = .returned (.tuple #[x.val, .int .i64 c]) ∧ Below w.heap.size w w') := fun w => by
    have h := wordOf_any ⟨4, 0, s⟩ w hs
    rw [vfault_sym] at h
    rw [hx, hc]; exact h
  rw [← hx, ← hc]
  clear hx hc hs
  go_enter Try.func74, Try.ntmps74
  go_wp2_with fail
  refine (HC.out _).mono ?_
  rintro e w1 ⟨rfl, hb1⟩
  obtain ⟨hc1, hf1⟩ := bcell hb1
  have z1 : w.heap.size < w1.heap.size := by have := hb1.size; simp at this; omega
  have B1 : Hid (Below w.heap.size w w1) := Below.trans ((Below.refl _ _).alloc (Nat.le_refl _) _) (hb1.mono (by simp))
  clear hb1
  go_wp2
  exact bodyPost_ret (v := .tuple #[x.val, .int .i64 c]) (by simp [results, Try.results74, go_sem, hc1]) rfl ⟨rfl, by repeat (first | refine Below.setCell ?_ (by simp <;> omega) _ | exact B1.out)⟩
end Go.Proofs.Ytgfienijabkpjaa
