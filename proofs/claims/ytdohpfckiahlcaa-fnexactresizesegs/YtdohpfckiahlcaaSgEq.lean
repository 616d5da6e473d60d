/-
  The laws' eq at stacks in pieces of which the same is read, wherever they lie: true; nothing that was there is turned.
-/
import Derived.Test.YtdohpfckiahlcaaSgTo
namespace Go.Proofs.Ytdohpfckiahlcaa
open Go.RowKit Go.Extern.Stop Go.Stop Go.Extern Num Go.Lib

set_option maxRecDepth 100000 in
set_option maxHeartbeats 1000000 in
theorem eqI_see (v u : Value) (l : List Int) (w : World) (hl : l.length ≤ 1048576) (h1 : SeeI w v l) (h2 : SeeI w u l) :
    Calls Try.prog 47 #[v, u] w fun e w' => e = .returned (.bool true) ∧ Below w.heap.size w w' := by
  obtain ⟨a1, c1, rfl, k1⟩ := h1
  obtain ⟨a2, c2, rfl, k2⟩ := h2
  have H1 : Hid (0 < l.length → ∃ b off, a1 = some ⟨b, off, none⟩ ∧ ∀ (k : Nat) (h : k < l.length), w.cell? ⟨b, off + k, none⟩ = some (.int .i64 l[k])) := k1
  have H2 : Hid (0 < l.length → ∃ b off, a2 = some ⟨b, off, none⟩ ∧ ∀ (k : Nat) (h : k < l.length), w.cell? ⟨b, off + k, none⟩ = some (.int .i64 l[k])) := k2
  clear k1 k2
  go_enter Try.func47, Try.ntmps47
  go_wp2_with fail
  go_loopw [5] (fun i wr => ∃ k : Nat, k ≤ l.length ∧ i = .int .i64 (k : Int) ∧ Below w.heap.size w wr) (fun i _ => l.length - (RowKit.intOf i).toNat)
  case atStart => exact ⟨0, Nat.zero_le _, rfl, Below.refl _ _⟩
  case round =>
    obtain ⟨k, hk, rfl, hb⟩ := hrel
    have HB : Hid (Below w.heap.size w wr) := hb
    clear hb
    by_cases hlt : k < l.length
    · obtain ⟨g1, o1, rfl, q1⟩ := H1.out (by omega)
      obtain ⟨g2, o2, rfl, q2⟩ := H2.out (by omega)
      have a0 : ∀ p : BW wr, p.x.cell? ⟨g1, o1 + k, none⟩ = some (.int .i64 (l[k]'hlt)) := fun p => p.cell (cell_keep HB.out (q1 k hlt))
      have d0 : ∀ p : BW wr, p.x.cell? ⟨g2, o2 + k, none⟩ = some (.int .i64 (l[k]'hlt)) := fun p => p.cell (cell_keep HB.out (q2 k hlt))
      have hne := bw_some wr
      clear q1 q2
      go_wp2_with fail
      refine wp_region_below (by kernel_rfl) (by kernel_rfl) ?_
      repeat (go_big_quiet_step (fail))
      refine wpQuiet_nil ?_
      intro wq hw'
      obtain ⟨⟨_, bq⟩, rfl⟩ := hw'
      have HB2 : Hid _ := HB.out.trans (bq.mono HB.out.size)
      clear bq a0 d0 hne
      go_wp2
      exact ⟨⟨k + 1, by omega, by go_num, HB2.out⟩, by simp [RowKit.intOf]; omega⟩
    · go_wp2
      go_ret
      exact ⟨rfl, HB.out⟩
theorem eqSp_see (v u : Value) (l : List Int) (w : World) (hl : l.length ≤ 1048576) (h1 : SeeI w v l) (h2 : SeeI w u l) :
    Calls Try.prog 34 #[.agg #[v], .agg #[u]] w fun e w' => e = .returned (.bool true) ∧ Below w.heap.size w w' := by
  have HS : Hid (∀ x, Below w.heap.size w x → Calls Try.prog 47 #[v, u] x fun e w' => e = .returned (.bool true) ∧ Below x.heap.size x w') := fun x hx => eqI_see v u l x hl (h1.below hx) (h2.below hx)
  obtain ⟨a1, c1, rfl, -⟩ := h1
  obtain ⟨a2, c2, rfl, -⟩ := h2
  go_enter Try.func34, Try.ntmps34
  go_wp2_with fail
  refine (HS.out _ (by repeat (first | exact Below.refl _ _ | refine Below.alloc ?_ (by simp <;> omega) _ | refine Below.drew ?_))).mono ?_
  rintro e w1 ⟨rfl, b1⟩
  have HB : Hid (Below w.heap.size w w1) := Below.trans (by repeat (first | exact Below.refl _ _ | refine Below.alloc ?_ (by simp <;> omega) _ | refine Below.drew ?_)) (b1.mono (by simp <;> omega))
  clear b1
  go_wp2
  go_ret
  exact ⟨rfl, HB.out⟩
set_option maxRecDepth 100000 in
set_option maxHeartbeats 2000000 in
theorem eqSps_see (v u : Value) (ps : List (List Int)) (w : World) (hs : SmallS ps) (h1 : SeeP w v ps) (h2 : SeeP w u ps) :
    Calls Try.prog 20 #[v, u] w fun e w' => e = .returned (.bool true) ∧ Below w.heap.size w w' := by
  have hl := hs.len
  have HZ : Hid (∀ (k : Nat) (h : k < ps.length), ps[k].length ≤ 1048576) := fun k h => hs.part k h
  have H1 : Hid (∀ x, Below w.heap.size w x → SeeP x v ps) := fun x hx => h1.below hx
  have H2 : Hid (∀ x, Below w.heap.size w x → SeeP x u ps) := fun x hx => h2.below hx
  obtain ⟨a1, c1, rfl, -⟩ := h1
  obtain ⟨a2, c2, rfl, -⟩ := h2
  clear hs
  go_enter Try.func20, Try.ntmps20
  go_wp2_with fail
  go_loopw [5] (fun i wr => ∃ k : Nat, k ≤ ps.length ∧ i = .int .i64 (k : Int) ∧ Below w.heap.size w wr) (fun i _ => ps.length - (RowKit.intOf i).toNat)
  case atStart => exact ⟨0, Nat.zero_le _, rfl, Below.refl _ _⟩
  case round =>
    obtain ⟨k, hk, rfl, hb⟩ := hrel
    have HB : Hid (Below w.heap.size w wr) := hb
    clear hb
    by_cases hlt : k < ps.length
    · obtain ⟨a', c', e', hc⟩ := H1.out wr HB.out
      obtain ⟨rfl, rfl⟩ : a1 = a' ∧ c1 = c' := by simp at e'; exact e'
      obtain ⟨g1, o1, rfl, q1⟩ := hc (by omega)
      obtain ⟨x, p0, hx⟩ := q1 k hlt
      clear hc q1 e'
      obtain ⟨a', c', e', hc⟩ := H2.out wr HB.out
      obtain ⟨rfl, rfl⟩ : a2 = a' ∧ c2 = c' := by simp at e'; exact e'
      obtain ⟨g2, o2, rfl, q2⟩ := hc (by omega)
      obtain ⟨y, p1, hy⟩ := q2 k hlt
      clear hc q2 e'
      have HT : Hid (∀ p : BW wr, Calls Try.prog 34 #[.agg #[x], .agg #[y]] p.x fun e w' => e = .returned (.bool true) ∧ Below p.x.heap.size p.x w') := fun p => eqSp_see x y _ p.x (HZ.out k hlt) (hx.below p.h) (hy.below p.h)
      have a0 : ∀ p : BW wr, p.x.cell? ⟨g1, o1 + k, none⟩ = some x := fun p => p.cell p0
      have d0 : ∀ p : BW wr, p.x.cell? ⟨g2, o2 + k, none⟩ = some y := fun p => p.cell p1
      obtain ⟨ax, cx, rfl, -⟩ := hx
      obtain ⟨ay, cy, rfl, -⟩ := hy
      have hne := bw_some wr
      clear p0 p1
      go_wp2_with fail
      refine wp_region_below (by kernel_rfl) (by kernel_rfl) ?_
      repeat (go_big_quiet_step ((go_at_call 34; exact calls_bw (HT.out _))))
      refine wpQuiet_nil ?_
      intro wq hw'
      obtain ⟨⟨_, bq⟩, rfl⟩ := hw'
      have HB2 : Hid _ := HB.out.trans (bq.mono HB.out.size)
      clear bq hne a0 d0
      go_wp2
      exact ⟨⟨k + 1, by omega, by go_num, HB2.out⟩, by simp [RowKit.intOf]; omega⟩
    · go_wp2
      go_ret
      exact ⟨rfl, HB.out⟩
theorem eqSegs_see (size : Int) (v u : Value) (ps : List (List Int)) (w : World) (hs : SmallS ps) (h1 : SeeP w v ps) (h2 : SeeP w u ps) :
    Calls Try.prog 9 #[segV size v, segV size u] w fun e w' => e = .returned (.bool true) ∧ Below w.heap.size w w' := by
  have HS : Hid (∀ x, Below w.heap.size w x → Calls Try.prog 20 #[v, u] x fun e w' => e = .returned (.bool true) ∧ Below x.heap.size x w') := fun x hx => eqSps_see v u ps x hs (h1.below hx) (h2.below hx)
  obtain ⟨a1, c1, rfl, -⟩ := h1
  obtain ⟨a2, c2, rfl, -⟩ := h2
  clear hs
  go_enter Try.func9, Try.ntmps9
  go_wp2_with fail
  refine (HS.out _ (by repeat (first | exact Below.refl _ _ | refine Below.alloc ?_ (by simp <;> omega) _ | refine Below.drew ?_))).mono ?_
  rintro e w1 ⟨rfl, b1⟩
  have HB : Hid (Below w.heap.size w w1) := Below.trans (by repeat (first | exact Below.refl _ _ | refine Below.alloc ?_ (by simp <;> omega) _ | refine Below.drew ?_)) (b1.mono (by simp <;> omega))
  clear b1
  go_wp2
  go_ret
  exact ⟨rfl, HB.out⟩
/-- An answer as a value. -/
abbrev srV (c n size : Int) (v : Value) : Value := .agg #[.int .i64 c, .int .i64 n, .int .i64 size, v]
theorem eqSr_see (c n size : Int) (v u : Value) (ps : List (List Int)) (w : World) (hs : SmallS ps) (h1 : SeeP w v ps) (h2 : SeeP w u ps) :
    Calls Try.prog 8 #[srV c n size v, srV c n size u] w fun e w' => e = .returned (.bool true) ∧ Below w.heap.size w w' := by
  have HS : Hid (∀ x, Below w.heap.size w x → Calls Try.prog 9 #[segV size v, segV size u] x fun e w' => e = .returned (.bool true) ∧ Below x.heap.size x w') := fun x hx => eqSegs_see size v u ps x hs (h1.below hx) (h2.below hx)
  obtain ⟨a1, c1, rfl, -⟩ := h1
  obtain ⟨a2, c2, rfl, -⟩ := h2
  clear hs
  go_enter Try.func8, Try.ntmps8
  go_wp2_with fail
  refine (HS.out _ (by repeat (first | exact Below.refl _ _ | refine Below.alloc ?_ (by simp <;> omega) _ | refine Below.drew ?_))).mono ?_
  rintro e w1 ⟨rfl, b1⟩
  have HB : Hid (Below w.heap.size w w1) := Below.trans (by repeat (first | exact Below.refl _ _ | refine Below.alloc ?_ (by simp <;> omega) _ | refine Below.drew ?_)) (b1.mono (by simp <;> omega))
  clear b1
  go_wp2
  go_ret
  exact ⟨rfl, HB.out⟩
end Go.Proofs.Ytdohpfckiahlcaa
