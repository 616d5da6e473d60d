/-
  Parts of the proof laid into one text, one behind the other: MapI, WalkKit, WalkG, HeldIn, ImplNw, ImplWkA, ImplWkB, ImplWkC, ImplHold, ImplHold2. Contracts of the program's and the model's functions, and what they are proved of, as their theorems say.
-/
import Derived.Test.YtoafolefecddmaaGreatDoorIntRowHv
import Derived.Maps.Keyed
import Derived.DeepKeys4
import Derived.Test.YtoafolefecddmaaGreatDoorOpNumHv
import Derived.Test.YtoafolefecddmaaGreatDoorHgA
import Derived.Test.YtoafolefecddmaaGreatDoorHgD
import Derived.OrdersIn
import Derived.OrdersHeld
import Derived.TacticsIn
import Derived.Test.YtoafolefecddmaaGreatDoorTjB
import Derived.Test.YtoafolefecddmaaGreatDoorHjB
import Derived.WalkMore
import Derived.Deep.LoopGhost
import Derived.Test.YtoafolefecddmaaGreatDoorCoB
namespace Go.Proofs.YtoafolefecddmaaGreatDoor
open Go.RowKit Go.Extern.Stop Go.Stop Go.Extern Num Go.Lib
open Go.ChangeMaps Go.MapKept
theorem keyedI : Maps.Keyed Tryz.prog 2 := Maps.int_keyed Tryz.underlying2
theorem keyI (x : Nat) (h : x < 1000000) : keyOf Tryz.prog 2 (.int .i64 (x : Int)) = some (.int .i64 (x : Int)) := by
  refine Maps.keyOf_int_mk Tryz.underlying2 ?_
  have h1 : IntKind.i64.min = -9223372036854775808 := by decide
  have h2 : IntKind.i64.max = 9223372036854775807 := by decide
  simp [Lit.wf, h1, h2]; omega
def entI (O : List (Nat × Int)) : List (Value × Value) := O.map (fun p => (.int .i64 (p.1 : Int), .int .i64 p.2))
def MapI (w : World) (b : Nat) (O : List (Nat × Int)) : Prop :=
  ∃ es clock, w.heap[b]? = some (.map es clock) ∧ es.toList.map (fun e => (e.key, e.val)) = entI O ∧ ∀ p ∈ O, p.1 < 1000000
theorem MapI.lt {w : World} {b : Nat} {O : List (Nat × Int)} (h : MapI w b O) : b < w.heap.size := by
  obtain ⟨es, clock, hb, _⟩ := h
  rcases Nat.lt_or_ge b w.heap.size with h | h
  · exact h
  · rw [Array.getElem?_eq_none (by simpa using h)] at hb; cases hb
theorem MapI.keep {w w' : World} {b : Nat} {O : List (Nat × Int)} (h : MapI w b O) (hb : w'.heap[b]? = w.heap[b]?) : MapI w' b O := by
  obtain ⟨es, clock, h1, h2⟩ := h
  exact ⟨es, clock, by rw [hb]; exact h1, h2⟩
theorem MapI.find {w : World} {b : Nat} {O : List (Nat × Int)} (h : MapI w b O) (x : Nat) (hx : x < 1000000) :
    ∃ es clock, w.heap[b]? = some (.map es clock) ∧ es.toList.map (fun e => (e.key, e.val)) = entI O ∧ (∀ p ∈ O, p.1 < 1000000) ∧
      (((∀ p ∈ O, p.1 ≠ x) ∧ (Instr.findKey 2 (.int .i64 (x : Int)) es.toList).run Tryz.prog w = .ok none w) ∨ ∃ (j : Nat) (g : Int) (e : MapEntry), O[j]? = some (x, g) ∧ es.toList[j]? = some e ∧ e.val = .int .i64 g ∧ (Instr.findKey 2 (.int .i64 (x : Int)) es.toList).run Tryz.prog w = .ok (some (j, .int .i64 g)) w) := by
  obtain ⟨es, clock, hb, he, hf⟩ := h
  refine ⟨es, clock, hb, he, hf, ?_⟩
  have at_j : ∀ (j : Nat) (e : MapEntry), es.toList[j]? = some e → ∃ p, O[j]? = some p ∧ e.key = .int .i64 (p.1 : Int) ∧ e.val = .int .i64 p.2 := fun j e hj => by
    have h1 : (es.toList.map (fun e => (e.key, e.val)))[j]? = some (e.key, e.val) := by rw [List.getElem?_map, hj]; rfl
    rw [he, entI, List.getElem?_map] at h1
    obtain ⟨p, hp, h2⟩ := Option.map_eq_some_iff.1 h1
    simp only [Prod.mk.injEq] at h2
    exact ⟨p, hp, h2.1.symm, h2.2.symm⟩
  have keys : ∀ e ∈ es.toList, ∃ l, keyOf Tryz.prog 2 e.key = some l := fun e hm => by
    obtain ⟨j, hj⟩ := List.mem_iff_getElem?.1 hm
    obtain ⟨p, hp, hk, _⟩ := at_j j e hj
    rw [hk]
    exact ⟨_, keyI p.1 (hf p (List.mem_of_getElem? hp))⟩
  rcases keyedI.find w (keyI x hx) es.toList keys with ⟨h1, h2⟩ | ⟨j, e, h1, h2, h3⟩
  · refine Or.inl ⟨fun p hm e => ?_, h1⟩
    obtain ⟨j, hj⟩ := List.mem_iff_getElem?.1 hm
    have h4 : (es.toList.map (fun e => (e.key, e.val)))[j]? = some (.int .i64 (p.1 : Int), .int .i64 p.2) := by rw [he, entI, List.getElem?_map, hj]; rfl
    rw [List.getElem?_map] at h4
    obtain ⟨e', he', h5⟩ := Option.map_eq_some_iff.1 h4
    simp only [Prod.mk.injEq] at h5
    exact h2 e' (List.mem_of_getElem? he') (by rw [h5.1, e])
  · obtain ⟨p, hp, hk, hv⟩ := at_j j e h2
    have : p.1 = x := by
      rw [hk] at h3
      have h6 : ((p.1 : Nat) : Int) = (x : Int) := by injection h3
      omega
    obtain ⟨p1, p2⟩ := p
    simp only at this hv
    subst this
    exact Or.inr ⟨j, p2, e, hp, h2, hv, by rw [h1, hv]⟩
theorem MapI.look {w : World} {b : Nat} {O : List (Nat × Int)} (h : MapI w b O) (x : Nat) (hx : x < 1000000) :
    ((∀ p ∈ O, p.1 ≠ x) ∧ (Instr.lookup 233 (.map (some b)) (.int .i64 (x : Int)) true).run Tryz.prog w = .ok (.tuple #[.int .i64 0, .bool false]) w) ∨ ∃ (j : Nat) (g : Int), O[j]? = some (x, g) ∧ (Instr.lookup 233 (.map (some b)) (.int .i64 (x : Int)) true).run Tryz.prog w = .ok (.tuple #[.int .i64 g, .bool true]) w := by
  obtain ⟨es, clock, hb, he, hf, hr⟩ := h.find x hx
  rcases hr with ⟨h0, h1⟩ | ⟨j, g, e, hj, he2, hv, h1⟩
  · refine Or.inl ⟨h0, ?_⟩
    simp [Instr.lookup, run_underlying Tryz.underlying233, MapKept.run_getObj_map hb, keyedI.check w _ (keyI x hx), h1, Result.andThen]
  · refine Or.inr ⟨j, g, hj, ?_⟩
    simp [Instr.lookup, run_underlying Tryz.underlying233, MapKept.run_getObj_map hb, keyedI.check w _ (keyI x hx), h1, Result.andThen]
theorem MapI.put {w : World} {b : Nat} {O : List (Nat × Int)} (h : MapI w b O) (x : Nat) (g : Int) (hx : x < 1000000) (hm : ∀ p ∈ O, p.1 ≠ x) :
    ∃ w', (Instr.mapUpdate 233 (.map (some b)) (.int .i64 (x : Int)) (.int .i64 g)).run Tryz.prog w = .ok () w' ∧ MapI w' b (O ++ [(x, g)]) ∧ w.grownBy w' (some b) ∧ w'.heap.size = w.heap.size := by
  obtain ⟨es, clock, hb, he, hf, hr⟩ := h.find x hx
  rcases hr with ⟨_, h1⟩ | ⟨j, g', e, hj, _⟩
  · refine ⟨setBlock w b (.map (es.push ⟨.int .i64 (x : Int), .int .i64 g, clock⟩) (clock + 1)), ?_, ⟨_, _, heap_setBlock_same hb _, ?_, ?_⟩, ⟨rfl, rfl, rfl, by simp [setBlock], fun i _ hi => heap_setBlock_other hb _ (fun e => hi (by rw [e]))⟩, by simp [setBlock]⟩
    · simp [Instr.mapUpdate, run_underlying Tryz.underlying233, MapKept.run_getObj_map hb, keyedI.check w false (keyI x hx), h1, MapKept.run_setObj_map _ hb, Result.andThen, setBlock]
    · rw [Array.toList_push, List.map_append, he]; simp [entI]
    · intro p hp
      rcases List.mem_append.1 hp with hp | hp
      · exact hf p hp
      · rw [List.mem_singleton] at hp; subst hp; exact hx
  · exact absurd rfl (hm _ (List.mem_of_getElem? hj))
theorem MapI.drop {w : World} {b : Nat} {O : List (Nat × Int)} (h : MapI w b O) (x : Nat) (g : Int) (hx : x < 1000000) (hn : (O.map Prod.fst).Nodup) (k : Nat) (hk : O[k]? = some (x, g)) :
    ∃ w', (∀ ty : TypeId, (Builtin.delete_ #[233, 2] ty #[.map (some b), .int .i64 (x : Int)]).run Tryz.prog w = .ok (.tuple #[]) w') ∧ MapI w' b (O.eraseIdx k) ∧ w.grownBy w' (some b) ∧ w'.heap.size = w.heap.size := by
  obtain ⟨es, clock, hb, he, hf, hr⟩ := h.find x hx
  rcases hr with ⟨h0, _⟩ | ⟨j, g', e, hj, he2, hv, h1⟩
  · exact absurd rfl (h0 _ (List.mem_of_getElem? hk))
  · have hjk : j = k := by
      have hjl : j < O.length := (List.getElem?_eq_some_iff.1 hj).1
      have hkl : k < O.length := (List.getElem?_eq_some_iff.1 hk).1
      have ej : O[j] = (x, g') := (List.getElem?_eq_some_iff.1 hj).2
      have ek : O[k] = (x, g) := (List.getElem?_eq_some_iff.1 hk).2
      have h1 : (O.map Prod.fst)[j]'(by simpa using hjl) = (O.map Prod.fst)[k]'(by simpa using hkl) := by simp [ej, ek]
      rcases Nat.lt_trichotomy j k with h | h | h
      · exact absurd h1 (List.pairwise_iff_getElem.1 hn j k (by simpa using hjl) (by simpa using hkl) h)
      · exact h
      · exact absurd h1.symm (List.pairwise_iff_getElem.1 hn k j (by simpa using hkl) (by simpa using hjl) h)
    subst hjk
    have hjs : j < es.size := by simpa using (List.getElem?_eq_some_iff.1 he2).1
    have hsub : (es.eraseIdxIfInBounds j).toList = es.toList.eraseIdx j := by
      unfold Array.eraseIdxIfInBounds
      rw [dif_pos hjs]
      simp
    refine ⟨setBlock w b (.map (es.eraseIdxIfInBounds j) clock), ?_, ⟨_, _, heap_setBlock_same hb _, ?_, ?_⟩, ⟨rfl, rfl, rfl, by simp [setBlock], fun i _ hi => heap_setBlock_other hb _ (fun e => hi (by rw [e]))⟩, by simp [setBlock]⟩
    · intro ty
      simp [Builtin.delete_, run_underlying Tryz.underlying233, MapKept.run_getObj_map hb, keyedI.check w _ (keyI x hx), h1, MapKept.run_setObj_map _ hb, Result.andThen, setBlock]
    · rw [hsub]
      unfold entI at he ⊢
      rw [map_eraseIdx, he, map_eraseIdx]
    · exact fun p hp => hf p ((List.eraseIdx_sublist _ _).subset hp)
theorem MapI.len {w : World} {b : Nat} {O : List (Nat × Int)} (h : MapI w b O) (ty : TypeId) : (Builtin.len_ #[233] ty #[.map (some b)]).run Tryz.prog w = .ok (.int .i64 (O.length : Int)) w := by
  obtain ⟨es, clock, hb, he, hf⟩ := h
  have h1 : es.size = O.length := by have := congrArg List.length he; simpa [entI] using this
  simp [Builtin.len_, run_underlying Tryz.underlying233, MapKept.run_getObj_map hb, h1, goInt, Result.andThen]
def numC (t : Opr) : List Value := [.int .i64 t.kind, .string t.name, .int .i64 t.a, .int .i64 t.b, .int .i64 t.c, .int .i64 t.d]
def cellsX : List Opr → List Value
  | [] => []
  | t :: r => numC t ++ cellsX r
theorem cellsX_append (a b : List Opr) : cellsX (a ++ b) = cellsX a ++ cellsX b := by
  induction a with
  | nil => rfl
  | cons t r ih => simp [cellsX, ih]
theorem cellsX_at (l : List Opr) (k : Nat) (h : k < l.length) (i : Nat) (hi : i < 6) : (cellsX l)[k * 6 + i]? = (numC l[k])[i]? := by
  induction l generalizing k with
  | nil => cases h
  | cons t r ih =>
    have h6 : (numC t).length = 6 := rfl
    cases k with
    | zero =>
      simp only [cellsX, Nat.zero_mul, Nat.zero_add]
      rw [List.getElem?_append_left (by omega)]
      rfl
    | succ k =>
      have hk : k < r.length := by simpa using h
      simp only [cellsX]
      rw [List.getElem?_append_right (by omega), show (k + 1) * 6 + i - (numC t).length = k * 6 + i by omega, ih k hk]
      rfl
theorem infoX : (Tryz.prog.info? 184).map (fun i => (i.zero, i.size, i.bytes)) = some (some (.agg #[.int .i64 0, .string ⟨#[]⟩, .int .i64 0, .int .i64 0, .int .i64 0, .int .i64 0]), 6, 56) := by kernel_rfl
theorem rowX_at {w : World} {base g cap n : Nat} {l : List Opr} (h : w.ownsRow base 184 6 (.slice (some ⟨g, 0, none⟩) n cap) n (cellsX l)) (k : Nat) (hk : k < l.length) :
    w.cell? ⟨g, k * 6, none⟩ = some (.int .i64 l[k].kind) ∧ w.cell? ⟨g, k * 6 + 1, none⟩ = some (.string l[k].name) ∧ w.cell? ⟨g, k * 6 + 2, none⟩ = some (.int .i64 l[k].a) ∧ w.cell? ⟨g, k * 6 + 3, none⟩ = some (.int .i64 l[k].b) ∧ w.cell? ⟨g, k * 6 + 4, none⟩ = some (.int .i64 l[k].c) ∧ w.cell? ⟨g, k * 6 + 5, none⟩ = some (.int .i64 l[k].d) := by
  have ha : ∀ j, (⟨g, 0, none⟩ : Addr).add j = ⟨g, j, none⟩ := fun j => by unfold Addr.add; split <;> simp_all
  have hc := h.cells (g := g) rfl
  have q := cellsX_at l k hk
  exact ⟨by rw [← ha]; exact hc _ _ (q 0 (by omega)), by rw [← ha]; exact hc _ _ (q 1 (by omega)), by rw [← ha]; exact hc _ _ (q 2 (by omega)), by rw [← ha]; exact hc _ _ (q 3 (by omega)), by rw [← ha]; exact hc _ _ (q 4 (by omega)), by rw [← ha]; exact hc _ _ (q 5 (by omega))⟩
structure WkAt (w : World) (B gw gm : Nat) (a0 a1 : Option Addr) (co ch : Nat) (l : List Opr) (H : List Int) (O : List (Nat × Int)) : Prop where
  c0 : w.cell? ⟨gw, 0, none⟩ = some (.slice a0 l.length co)
  c1 : w.cell? ⟨gw, 1, none⟩ = some (.slice a1 l.length ch)
  c2 : w.cell? ⟨gw, 2, none⟩ = some (.map (some gm))
  ops : w.ownsRow B 184 6 (.slice a0 l.length co) l.length (cellsX l)
  hs : w.ownsRow B 2 1 (.slice a1 l.length ch) l.length (cellsI H)
  mp : MapI w gm O
  lo1 : B ≤ gw
  lo2 : B ≤ gm
  ne : gw ≠ gm
  ap0 : ∀ g, (Value.slice a0 l.length co).ownBlock = some g → g ≠ gw ∧ g ≠ gm
  ap1 : ∀ g, (Value.slice a1 l.length ch).ownBlock = some g → g ≠ gw ∧ g ≠ gm ∧ (Value.slice a0 l.length co).ownBlock ≠ some g
theorem WkAt.below {w w' : World} {B gw gm : Nat} {a0 a1 : Option Addr} {co ch : Nat} {l : List Opr} {H : List Int} {O : List (Nat × Int)} (h : WkAt w B gw gm a0 a1 co ch l H O) (hb : Below w.heap.size w w') : WkAt w' B gw gm a0 a1 co ch l H O :=
  ⟨cell_keep hb h.c0, cell_keep hb h.c1, cell_keep hb h.c2, own_below h.ops hb, own_below h.hs hb, h.mp.keep (hb.block gm h.mp.lt), h.lo1, h.lo2, h.ne, h.ap0, h.ap1⟩
theorem WkAt.len {w : World} {B gw gm : Nat} {a0 a1 : Option Addr} {co ch : Nat} {l : List Opr} {H : List Int} {O : List (Nat × Int)} (h : WkAt w B gw gm a0 a1 co ch l H O) : H.length = l.length := by
  have := h.hs.1
  simpa [cellsI] using this
theorem WkAt.lt {w : World} {B gw gm : Nat} {a0 a1 : Option Addr} {co ch : Nat} {l : List Opr} {H : List Int} {O : List (Nat × Int)} (h : WkAt w B gw gm a0 a1 co ch l H O) : gw < w.heap.size := lt_of_cell h.c0
theorem WkAt.mapped {w w' : World} {B gw gm : Nat} {a0 a1 : Option Addr} {co ch : Nat} {l : List Opr} {H : List Int} {O O' : List (Nat × Int)} (h : WkAt w B gw gm a0 a1 co ch l H O) (hg : w.grownBy w' (some gm)) (hm : MapI w' gm O') : WkAt w' B gw gm a0 a1 co ch l H O' := by
  have hne : some gw ≠ some gm := fun e => h.ne (Option.some.inj e)
  exact ⟨hg.cell h.c0 hne, hg.cell h.c1 hne, hg.cell h.c2 hne, own_apart h.ops hg (fun g hgg e => (h.ap0 g hgg).2 (Option.some.inj e).symm), own_apart h.hs hg (fun g hgg e => (h.ap1 g hgg).2.1 (Option.some.inj e).symm), hm, h.lo1, h.lo2, h.ne, h.ap0, h.ap1⟩
theorem WkAt.put {w : World} {B gw gm gh : Nat} {a0 : Option Addr} {co ch : Nat} {l : List Opr} {H : List Int} {O : List (Nat × Int)} (h : WkAt w B gw gm a0 (some ⟨gh, 0, none⟩) co ch l H O) (i : Nat) (x : Int) : WkAt (w.setCell ⟨gh, i, none⟩ (.int .i64 x)) B gw gm a0 (some ⟨gh, 0, none⟩) co ch l (H.set i x) O := by
  have hap := h.ap1 gh rfl
  have hg : w.grownBy (w.setCell ⟨gh, i, none⟩ (.int .i64 x)) (some gh) := gb_set (gb_refl _ _) _
  have hne : some gw ≠ some gh := fun e => hap.1 (Option.some.inj e).symm
  refine ⟨hg.cell h.c0 hne, hg.cell h.c1 hne, hg.cell h.c2 hne, own_apart h.ops hg (fun g hgg e => hap.2.2 (by rw [hgg]; exact e.symm)), ?_, h.mp.keep (hg.block gm h.mp.lt (fun e => hap.2.1 (Option.some.inj e).symm)), h.lo1, h.lo2, h.ne, h.ap0, h.ap1⟩
  have := own_put h.hs i (.int .i64 x)
  rwa [show (cellsI H).set i (.int .i64 x) = cellsI (H.set i x) by simp [cellsI, List.map_set]] at this
theorem WkAt.some0 {w : World} {B gw gm : Nat} {a0 a1 : Option Addr} {co ch : Nat} {l : List Opr} {H : List Int} {O : List (Nat × Int)} (h : WkAt w B gw gm a0 a1 co ch l H O) (hl : 0 < l.length) : ∃ go gh, a0 = some ⟨go, 0, none⟩ ∧ a1 = some ⟨gh, 0, none⟩ := by
  obtain ⟨go, c, hv, _, _⟩ := h.ops.form hl
  obtain ⟨gh, c', hv', _, _⟩ := h.hs.form hl
  exact ⟨go, gh, by simp at hv; exact hv.1, by simp at hv'; exact hv'.1⟩
structure WkG (w : World) (B gw gm : Nat) (a0 a1 : Option Addr) (co ch : Nat) (l : List Opr) (H : List Int) (O : List (Nat × Int)) : Prop where
  c0 : w.cell? ⟨gw, 0, none⟩ = some (.slice a0 l.length co)
  c1 : w.cell? ⟨gw, 1, none⟩ = some (.slice a1 H.length ch)
  c2 : w.cell? ⟨gw, 2, none⟩ = some (.map (some gm))
  fz : ∀ k, w.frozen? ⟨gw, k, none⟩ = false
  ops : w.ownsRow B 184 6 (.slice a0 l.length co) l.length (cellsX l)
  hs : w.ownsRow B 2 1 (.slice a1 H.length ch) H.length (cellsI H)
  mp : MapI w gm O
  lo1 : B ≤ gw
  lo2 : B ≤ gm
  ne : gw ≠ gm
  ap0 : ∀ g, (Value.slice a0 l.length co).ownBlock = some g → g ≠ gw ∧ g ≠ gm
  ap1 : ∀ g, (Value.slice a1 H.length ch).ownBlock = some g → g ≠ gw ∧ g ≠ gm ∧ (Value.slice a0 l.length co).ownBlock ≠ some g
theorem WkG.at {w : World} {B gw gm : Nat} {a0 a1 : Option Addr} {co ch : Nat} {l : List Opr} {H : List Int} {O : List (Nat × Int)} (h : WkG w B gw gm a0 a1 co ch l H O) (hn : H.length = l.length) : WkAt w B gw gm a0 a1 co ch l H O :=
  ⟨h.c0, by rw [← hn]; exact h.c1, h.c2, h.ops, by rw [← hn]; exact h.hs, h.mp, h.lo1, h.lo2, h.ne, h.ap0, fun g hg => h.ap1 g (by rw [hn]; exact hg)⟩
theorem WkG.below {w w' : World} {B gw gm : Nat} {a0 a1 : Option Addr} {co ch : Nat} {l : List Opr} {H : List Int} {O : List (Nat × Int)} (h : WkG w B gw gm a0 a1 co ch l H O) (hb : Below w.heap.size w w') : WkG w' B gw gm a0 a1 co ch l H O :=
  ⟨cell_keep hb h.c0, cell_keep hb h.c1, cell_keep hb h.c2, fun k => by rw [(bcell hb).2 gw k (lt_of_cell h.c0)]; exact h.fz k, own_below h.ops hb, own_below h.hs hb, h.mp.keep (hb.block gm h.mp.lt), h.lo1, h.lo2, h.ne, h.ap0, h.ap1⟩
theorem fz_of {w w' : World} {g k : Nat} {r : Option Nat} (hg : w.grownBy w' r) (hlt : g < w.heap.size) (hne : some g ≠ r) (h : w.frozen? ⟨g, k, none⟩ = false) : w'.frozen? ⟨g, k, none⟩ = false := by
  rw [World.frozen?_of_block (a := ⟨g, k, none⟩) (hg.block g hlt hne)]; exact h
theorem WkG.more0 {w y z : World} {B gw gm : Nat} {a0 a1 : Option Addr} {co ch : Nat} {l : List Opr} {H : List Int} {O : List (Nat × Int)} {g' c' : Nat} {t : Opr} (h0 : WkG w B gw gm a0 a1 co ch l H O) (hb : Below w.heap.size w y) (hg : y.grownBy z (Value.slice a0 l.length co).ownBlock)
    (ho : z.ownsRow B 184 6 (.slice (some ⟨g', 0, none⟩) (l.length + 1) c') (l.length + 1) (cellsX l ++ numC t)) (hat : (Value.slice a0 l.length co).ownBlock = some g' ∨ g' = y.heap.size) :
    WkG (z.setCell ⟨gw, 0, none⟩ (.slice (some ⟨g', 0, none⟩) (l.length + 1) c')) B gw gm (some ⟨g', 0, none⟩) a1 c' ch (l ++ [t]) H O ∧ Below B w (z.setCell ⟨gw, 0, none⟩ (.slice (some ⟨g', 0, none⟩) (l.length + 1) c')) := by
  have h := h0.below hb
  have hlt : gw < y.heap.size := lt_of_cell h.c0
  have hgm : gm < y.heap.size := h.mp.lt
  have ne1 : some gw ≠ (Value.slice a0 l.length co).ownBlock := fun e => (h.ap0 gw e.symm).1 rfl
  have ne2 : some gm ≠ (Value.slice a0 l.length co).ownBlock := fun e => (h.ap0 gm e.symm).2 rfl
  have gne : g' ≠ gw ∧ g' ≠ gm := by
    rcases hat with e | e
    · exact h.ap0 g' e
    · omega
  have el : (l ++ [t]).length = l.length + 1 := by simp
  have e0 := hg.cell h.c0 ne1
  have e1 := hg.cell h.c1 ne1
  have e2 := hg.cell h.c2 ne1
  have hgs : z.grownBy (z.setCell ⟨gw, 0, none⟩ (.slice (some ⟨g', 0, none⟩) (l.length + 1) c')) (some gw) := gb_set (gb_refl _ _) _
  have hzm : gm < z.heap.size := Nat.lt_of_lt_of_le hgm hg.size
  refine ⟨⟨?_, ?_, ?_, fun k => ?_, ?_, ?_, ?_, h.lo1, h.lo2, h.ne, ?_, ?_⟩, ?_⟩
  · rw [el]; exact World.cell?_setCell_same' _ _ _ (by rw [e0]; rfl)
  · simp [go_sem, e1]
  · simp [go_sem, e2]
  · have := fz_of hg hlt ne1 (h.fz k)
    simp [go_sem, this]
  · have : cellsX (l ++ [t]) = cellsX l ++ numC t := by rw [cellsX_append]; simp [cellsX]
    rw [el, this]
    exact own_set' ho (p := ⟨gw, 0, none⟩) (fun g hgg => by have : g' = g := Option.some.inj hgg; subst this; exact gne.1) _
  · exact own_set' (own_apart h.hs hg (fun g hgg => (h.ap1 g hgg).2.2)) (p := ⟨gw, 0, none⟩) (fun g hgg => (h.ap1 g hgg).1) _
  · exact (h.mp.keep (hg.block gm hgm ne2)).keep (hgs.block gm hzm (fun e => h.ne (Option.some.inj e).symm))
  · intro g hgg
    have : g' = g := Option.some.inj hgg
    subst this; exact gne
  · intro g hgg
    obtain ⟨q1, q2, q3⟩ := h.ap1 g hgg
    refine ⟨q1, q2, fun e => ?_⟩
    have : g' = g := Option.some.inj e
    subst this
    rcases hat with e | e
    · exact q3 e
    · have := (h.hs.lt g' hgg).2; omega
  · have hB : B ≤ w.heap.size := by have h1 : gw < w.heap.size := lt_of_cell h0.c0; have := h0.lo1; omega
    refine (((Below.refl B w).trans (hb.mono hB)).grown hg (by have := hb.size; omega) (fun k hk => ?_)).setCell h.lo1 _
    exact (h.ops.lt k hk).1
theorem WkG.more1 {w y z : World} {B gw gm : Nat} {a0 a1 : Option Addr} {co ch : Nat} {l : List Opr} {H : List Int} {O : List (Nat × Int)} {g' c' : Nat} {x : Int} (h0 : WkG w B gw gm a0 a1 co ch l H O) (hb : Below w.heap.size w y) (hg : y.grownBy z (Value.slice a1 H.length ch).ownBlock)
    (ho : z.ownsRow B 2 1 (.slice (some ⟨g', 0, none⟩) (H.length + 1) c') (H.length + 1) (cellsI H ++ [.int .i64 x])) (hat : (Value.slice a1 H.length ch).ownBlock = some g' ∨ g' = y.heap.size) :
    WkG (z.setCell ⟨gw, 1, none⟩ (.slice (some ⟨g', 0, none⟩) (H.length + 1) c')) B gw gm a0 (some ⟨g', 0, none⟩) co c' l (H ++ [x]) O ∧ Below B w (z.setCell ⟨gw, 1, none⟩ (.slice (some ⟨g', 0, none⟩) (H.length + 1) c')) := by
  have h := h0.below hb
  have hlt : gw < y.heap.size := lt_of_cell h.c0
  have hgm : gm < y.heap.size := h.mp.lt
  have ne1 : some gw ≠ (Value.slice a1 H.length ch).ownBlock := fun e => (h.ap1 gw e.symm).1 rfl
  have ne2 : some gm ≠ (Value.slice a1 H.length ch).ownBlock := fun e => (h.ap1 gm e.symm).2.1 rfl
  have gne : g' ≠ gw ∧ g' ≠ gm ∧ (Value.slice a0 l.length co).ownBlock ≠ some g' := by
    rcases hat with e | e
    · exact h.ap1 g' e
    · exact ⟨by omega, by omega, fun e2 => by have := (h.ops.lt g' e2).2; omega⟩
  have el : (H ++ [x]).length = H.length + 1 := by simp
  have e0 := hg.cell h.c0 ne1
  have e1 := hg.cell h.c1 ne1
  have e2 := hg.cell h.c2 ne1
  have hgs : z.grownBy (z.setCell ⟨gw, 1, none⟩ (.slice (some ⟨g', 0, none⟩) (H.length + 1) c')) (some gw) := gb_set (gb_refl _ _) _
  have hzm : gm < z.heap.size := Nat.lt_of_lt_of_le hgm hg.size
  refine ⟨⟨?_, ?_, ?_, fun k => ?_, ?_, ?_, ?_, h.lo1, h.lo2, h.ne, h.ap0, ?_⟩, ?_⟩
  · simp [go_sem, e0]
  · rw [el]; exact World.cell?_setCell_same' _ _ _ (by rw [e1]; rfl)
  · simp [go_sem, e2]
  · have := fz_of hg hlt ne1 (h.fz k)
    simp [go_sem, this]
  · exact own_set' (own_apart h.ops hg (fun g hgg e => (h.ap1 g e).2.2 hgg)) (p := ⟨gw, 1, none⟩) (fun g hgg => (h.ap0 g hgg).1) _
  · have : cellsI (H ++ [x]) = cellsI H ++ [.int .i64 x] := by rw [cellsI_append]; rfl
    rw [el, this]
    exact own_set' ho (p := ⟨gw, 1, none⟩) (fun g hgg => by have : g' = g := Option.some.inj hgg; subst this; exact gne.1) _
  · exact (h.mp.keep (hg.block gm hgm ne2)).keep (hgs.block gm hzm (fun e => h.ne (Option.some.inj e).symm))
  · intro g hgg
    have : g' = g := Option.some.inj hgg
    subst this; exact gne
  · have hB : B ≤ w.heap.size := by have h1 : gw < w.heap.size := lt_of_cell h0.c0; have := h0.lo1; omega
    refine (((Below.refl B w).trans (hb.mono hB)).grown hg (by have := hb.size; omega) (fun k hk => ?_)).setCell h.lo1 _
    exact (h.hs.lt k hk).1
theorem nilOwnX (w : World) (B : Nat) : w.ownsRow B 184 6 (.slice none 0 0) 0 (cellsX []) := ⟨rfl, .inl ⟨rfl, rfl⟩⟩
theorem makeMapI (w : World) : (Instr.makeMap 233 none).run Tryz.prog w = .ok (.map (some w.heap.size)) (w.alloc (.map #[] 0)) := by
  simp [Instr.makeMap, Result.andThen]
end Go.Proofs.YtoafolefecddmaaGreatDoor
namespace Go.Proofs.YtoafolefecddmaaGreatDoor
open Go
section
variable {F : Fence} {n : Nat} {P : Program} {ops : Array Oper} {Q : Exit → Act → World → Prop} {md : Region.Mode} {S : World → Prop} {z : Nat}
def noDef (ops : Array Oper) : Bool := ops.all fun o => match o.op with | .defer _ => false | _ => true
theorem noDef_spec (h : noDef ops = true) {j : Nat} {o : Oper} (ho : ops[j]? = some o) : ∀ c, o.op ≠ .defer c := by
  intro c e
  have := Array.all_eq_true_iff_forall_mem.1 h o (Array.mem_of_getElem? ho)
  simp [e] at this
def waits (md : Region.Mode) (ops : Array Oper) (z i : Nat) : Bool := match ops[z]? with | some o => o.after.toList.any (fun e => Region.binds md e && e.on == i) | none => true
theorem waits_spec {z i : Nat} {o : Oper} (h : waits md ops z i = true) (ho : ops[z]? = some o) : ∃ e ∈ o.after, Region.binds md e = true ∧ e.on = i := by
  unfold waits at h
  rw [ho] at h
  obtain ⟨e, he, hb⟩ := List.any_eq_true.1 h
  simp at hb
  exact ⟨e, by simpa using he, hb.1, hb.2⟩
def anyH (F : Fence) (n : Nat) (P : Program) (md : Region.Mode) (ops : Array Oper) (Q : Exit → Act → World → Prop) (S : World → Prop) (z : Nat) : Nat → Array Bool → Act → World → Prop
  | 0, listed, a, w => Region.ready md ops listed = [] ∧ Q .normal a w
  | k + 1, listed, a, w => (Region.ready md ops listed = [] → Q .normal a w) ∧
      ∀ i ∈ Region.ready md ops listed, wpOpIn F n P ops Q i (fun a' w' => (i ≠ z → S w') ∧ anyH F n P md ops Q S z k (listed.setIfInBounds i true) a' w') a w
theorem any_of_anyH : ∀ (k : Nat) (listed : Array Bool) (a : Act) (w : World), anyH F n P md ops Q S z k listed a w → wpAnyIn F n P md ops Q k listed a w
  | 0, _, _, _, h => h
  | k + 1, _, _, _, h => ⟨h.1, fun i hi => wpOpIn_mono (fun a' w' h' => any_of_anyH k _ a' w' h'.2) (h.2 i hi)⟩
theorem op_of_yields (hF : ∀ f, F.fn f) {i : Nat} {o : Oper} {v : Value} {a : Act} (hi : ops[i]? = some o) (hnd : ∀ c, o.op ≠ .defer c) (hy : YieldsIf P ops S o v a) {K : Act → World → Prop} {w : World} (hS : S w) (h : K (a.put o.dst v) w) :
    wpOpIn F n P ops Q i K a w := by
  unfold wpOpIn
  simp only [hi]
  rcases hy with ⟨hw, hv⟩ | ⟨hw, rfl⟩
  · simp only [hw, if_true, Oper.wpIn, Oper.semAt_eq _ _ _ hnd, hv w hS, Oper.uponIn]
    exact ⟨fun f _ => hF f, h⟩
  · simp only [hw, Bool.false_eq_true, if_false]
    exact ⟨fun f _ => hF f, h⟩
theorem op_swap (hF : ∀ f, F.fn f) {j : Nat} {oi oj : Oper} {v : Value} (hj : ops[j]? = some oj) (hnd : ∀ c, oj.op ≠ .defer c) (hap : oi.apart ops oj = true) (hsi : ∀ cs b, oi.op ≠ .select cs b) (hsj : ∀ cs b, oj.op ≠ .select cs b)
    (hQ : ∀ c a w, Q (.panic c) (a.put oi.dst v) w → Q (.panic c) a w) {K : Act → World → Prop} {a : Act} {w : World} (hy : YieldsIf P ops S oi v a) (h : wpOpIn F n P ops Q j K (a.put oi.dst v) w) :
    wpOpIn F n P ops Q j (fun a' w' => YieldsIf P ops S oi v a' ∧ K (a'.put oi.dst v) w') a w := by
  obtain ⟨h1, h2, h3⟩ := Oper.apart_spec hap
  have keep : ∀ a' : Act, YieldsIf P ops S oi v a' → ∀ u, YieldsIf P ops S oi v (a'.put oj.dst u) := fun a' hy' u => hy'.of_same (execOp_put oi hsi a' oj.dst u h3) (wanted_put oi a' oj.dst u h3)
  have comm : ∀ (u : Value) (w' : World), K ((a.put oi.dst v).put oj.dst u) w' → YieldsIf P ops S oi v (a.put oj.dst u) ∧ K ((a.put oj.dst u).put oi.dst v) w' := fun u w' hk => ⟨keep a hy u, by rw [← Act.put_comm a v u h2]; exact hk⟩
  unfold wpOpIn at h ⊢
  simp only [hj] at h ⊢
  rw [wanted_put oj a oi.dst v h1] at h
  by_cases hw : Region.wanted oj (yielded ops a.tmps) = true
  · rw [if_pos hw] at h ⊢
    refine ⟨fun f _ => hF f, ?_⟩
    have hr := h.2
    rw [Oper.semAt_eq _ _ _ hnd, execOp_put oj hsj a oi.dst v h1] at hr
    rw [Oper.semAt_eq _ _ _ hnd]
    generalize (execOp a.eval oj).run P w = r at hr ⊢
    cases r with
    | ok x w' =>
      cases x with
      | value u => exact comm u w' hr
      | skip => exact comm undef w' hr
      | defer d =>
        simp only [Oper.uponIn] at hr ⊢
        have hyd : YieldsIf P ops S oi v { a with defers := d :: a.defers } := hy.of_same rfl rfl
        refine ⟨keep _ hyd _, ?_⟩
        rw [← Act.put_comm _ v undef h2, ← Act.put_defers]
        exact hr
      | enter f args =>
        simp only [Oper.uponIn] at hr ⊢
        refine ⟨hr.1, CallsIn.mono hr.2 fun e w'' he => ?_⟩
        cases e with
        | returned u => exact comm u w'' he
        | panicked c => exact hQ _ _ _ he
        | outgrown => exact he
      | row row args =>
        simp only [Oper.uponIn] at hr ⊢
        exact ⟨hr.1, RowsIn.mono hr.2 fun u w'' he => comm u w'' he⟩
      | round l f tmps assign body =>
        simp only [Oper.uponIn] at hr ⊢
        refine ⟨hr.1, RoundIn.mono hr.2 fun e w'' he => ?_⟩
        cases e with
        | returned u => exact comm u w'' he
        | panicked c => exact hQ _ _ _ he
        | outgrown => exact he
      | _ => exact hr.elim
    | halt x w' =>
      cases x with
      | panic u => exact hQ _ _ _ hr
      | _ => exact hr.elim
  · rw [if_neg hw] at h ⊢
    exact ⟨fun f _ => hF f, comm undef w h.2⟩
theorem anyH_first (hF : ∀ f, F.fn f) (hnd : noDef ops = true) {i : Nat} {oi : Oper} {v : Value} (hzi : waits md ops z i = true) (hi : ops[i]? = some oi) (hsel : ∀ (j : Nat) (o : Oper) cs b, ops[j]? = some o → o.op ≠ .select cs b) (hQ : ∀ c a w, Q (.panic c) (a.put oi.dst v) w → Q (.panic c) a w) :
    ∀ (k : Nat) (listed : Array Bool) (a : Act) (w : World), (∀ j oj, ops[j]? = some oj → j ≠ i → listed.getD j true = false → (∀ e ∈ oj.after, Region.binds md e = true → e.on ≠ i) → oi.apart ops oj = true) →
      i ∈ Region.ready md ops listed → YieldsIf P ops S oi v a → S w → anyH F n P md ops Q S z k (listed.setIfInBounds i true) (a.put oi.dst v) w → anyH F n P md ops Q S z (k + 1) listed a w := by
  intro k
  induction k with
  | zero =>
    intro listed a w _ hr hy hS H
    refine ⟨fun h => (by rw [h] at hr; cases hr), fun j hj => ?_⟩
    by_cases hji : j = i
    · subst hji; exact op_of_yields hF hi (noDef_spec hnd hi) hy hS ⟨fun _ => hS, H⟩
    · have := ready_mono hj hji
      rw [H.1] at this; cases this
  | succ k ih =>
    intro listed a w hfree hr hy hS H
    refine ⟨fun h => (by rw [h] at hr; cases hr), fun j hj => ?_⟩
    by_cases hji : j = i
    · subst hji; exact op_of_yields hF hi (noDef_spec hnd hi) hy hS ⟨fun _ => hS, H⟩
    · obtain ⟨hjun, oj, hoj, hall⟩ := mem_ready.1 hj
      have hnot : ∀ e ∈ oj.after, Region.binds md e = true → e.on ≠ i := fun e he hb heq => by
        have g1 := hall e he hb
        have g0 := (mem_ready.1 hr).1
        rw [heq] at g1
        rcases Nat.lt_or_ge i listed.size with g | g
        · simp [g] at g0 g1; rw [g0] at g1; cases g1
        · simp [Array.getElem?_eq_none g] at g1
      have hsw := op_swap hF hoj (noDef_spec hnd hoj) (hfree j oj hoj hji hjun hnot) (fun cs b => hsel i oi cs b hi) (fun cs b => hsel j oj cs b hoj) hQ hy (H.2 j (ready_mono hj hji))
      have hjz : j ≠ z := fun e => by
        subst e
        obtain ⟨e, he, hb, hon⟩ := waits_spec hzi hoj
        exact hnot e he hb hon
      refine wpOpIn_mono (fun a' w' h3 => ⟨h3.2.1, ih _ a' w' (fun k' ok hk hki hun hno => hfree k' ok hk hki ?_ hno) (ready_mono hr (Ne.symm hji)) h3.1 (h3.2.1 hjz) ?_⟩) hsw
      · by_cases hjk : j = k'
        · subst hjk; exact hjun
        · rw [getD_set_ne true hjk] at hun; exact hun
      · rw [Array.setIfInBounds_comm _ _ hji]; exact h3.2.2
theorem anyH_take (hF : ∀ f, F.fn f) (hnd : noDef ops = true) {i : Nat} {oi : Oper} {v : Value} {d : Option Tmp} {k : Nat} {listed : Array Bool} {a : Act} {w : World} (hzi : waits md ops z i = true) (hi : ops[i]? = some oi) (hd : oi.dst = d) (hs : Region.noSelect ops = true) (hf : Region.free md ops listed i = true) (hr : (Region.ready md ops listed).contains i = true)
    (hQ : ∀ c a w, Q (.panic c) (a.put d v) w → Q (.panic c) a w) (hS : S w) (hy : YieldsIf P ops S oi v a) (h : anyH F n P md ops Q S z k (listed.setIfInBounds i true) (a.put d v) w) : anyH F n P md ops Q S z (k + 1) listed a w := by
  subst hd
  exact anyH_first hF hnd hzi hi (Region.noSelect_spec hs) hQ k listed a w (Region.free_spec hi hf) (by simpa using hr) hy hS h
theorem op_step {i : Nat} {o : Oper} {K : Act → World → Prop} {a : Act} {w : World} (ho : ops[i]? = some o) (hw : Region.wanted o (yielded ops a.tmps) = true) (h : o.wpIn F n P a w K Q) : wpOpIn F n P ops Q i K a w := by
  unfold wpOpIn
  simp only [ho, hw, if_true]
  exact h
theorem anyH_one {i : Nat} {k : Nat} {listed : Array Bool} {a : Act} {w : World} (hr : Region.ready md ops listed = [i])
    (h : wpOpIn F n P ops Q i (fun a' w' => (i ≠ z → S w') ∧ anyH F n P md ops Q S z k (listed.setIfInBounds i true) a' w') a w) : anyH F n P md ops Q S z (k + 1) listed a w :=
  ⟨fun h0 => (by rw [hr] at h0; cases h0), fun j hj => (by rw [hr] at hj; obtain rfl := List.mem_singleton.1 hj; exact h)⟩
theorem anyH_two {i j : Nat} {k : Nat} {listed : Array Bool} {a : Act} {w : World} (hr : Region.ready md ops listed = [i, j])
    (h : wpOpIn F n P ops Q i (fun a' w' => (i ≠ z → S w') ∧ anyH F n P md ops Q S z k (listed.setIfInBounds i true) a' w') a w) (h' : wpOpIn F n P ops Q j (fun a' w' => (j ≠ z → S w') ∧ anyH F n P md ops Q S z k (listed.setIfInBounds j true) a' w') a w) : anyH F n P md ops Q S z (k + 1) listed a w :=
  ⟨fun h0 => (by rw [hr] at h0; cases h0), fun x hx => (by
    rw [hr] at hx
    rcases List.mem_cons.1 hx with rfl | hx
    · exact h
    · obtain rfl := List.mem_singleton.1 hx; exact h')⟩
theorem region_anyH {id : Nat} {a : Act} {w : World} (hm : P.follows .mixedOrders = true) (h : anyH F n P .any ops Q S z ops.size (Array.replicate ops.size false) a w.drew) : (Code.region id ops true).wpIn F n P Q a w :=
  wpIn_region_any hm (any_of_anyH _ _ _ _ h)
end
end Go.Proofs.YtoafolefecddmaaGreatDoor
namespace Go.Proofs.YtoafolefecddmaaGreatDoor
open Go.RowKit Go.Extern.Stop Go.Stop Go.Extern Num Go.Lib
theorem oper_plainW {P : Program} {Q : Exit → Act → World → Prop} {n : Nat} {o : Oper} {K : Act → World → Prop} {a : Act} {w : World} (hnd : ∀ c, o.op ≠ .defer c) (h : Oper.wp P o a w K Q) : o.wpIn Fence.wide n P a w K Q := by
  refine ⟨fun _ _ => trivial, ?_⟩
  rw [Oper.semAt_eq _ _ _ hnd]
  unfold Oper.wp at h
  generalize (execOp a.eval o).run P w = r at h ⊢
  cases r with
  | ok x w' =>
    cases x with
    | value u => exact h
    | skip => exact h
    | defer d => exact h
    | enter f args => exact ⟨fun h0 => (by cases h0), (callsIn_wide (n := n - 1)).2 h⟩
    | row row args => exact ⟨fun h0 => (by cases h0), fun c cs _ => (by obtain ⟨v, w'', r, s⟩ := h c cs; exact ⟨v, w'', r, (stepsIn_wide).2 s⟩)⟩
    | _ => exact (h : False).elim
  | halt x w' =>
    cases x with
    | panic u => exact h
    | _ => exact (h : False).elim
theorem op_plainW {P : Program} {ops : Array Oper} {Q : Exit → Act → World → Prop} {n i : Nat} {o : Oper} {K : Act → World → Prop} {a : Act} {w : World} (ho : ops[i]? = some o) (hw : Region.wanted o (yielded ops a.tmps) = true) (hnd : ∀ c, o.op ≠ .defer c) (h : Oper.wp P o a w K Q) :
    wpOpIn Fence.wide n P ops Q i K a w := op_step ho hw (oper_plainW hnd h)
structure SNw (u : World) (G X : Nat) (t : Opr) (v d : Value) : Prop where
  c : u.cell? ⟨G, 0, none⟩ = some v
  b0 : u.cell? ⟨X, 0, none⟩ = some (.int .i64 t.kind)
  b1 : u.cell? ⟨X, 1, none⟩ = some (.int .i64 t.a)
  b2 : u.cell? ⟨X, 2, none⟩ = some (.int .i64 t.b)
  b3 : u.cell? ⟨X, 3, none⟩ = some (.int .i64 t.c)
  b4 : u.cell? ⟨X, 4, none⟩ = some (.int .i64 t.d)
  b5 : u.cell? ⟨X, 5, none⟩ = some (.string t.name)
  b6 : u.cell? ⟨X, 6, none⟩ = some d
theorem SNw.below {u u' : World} {G X : Nat} {t : Opr} {v d : Value} (h : SNw u G X t v d) (hb : Below u.heap.size u u') : SNw u' G X t v d :=
  ⟨cell_keep hb h.c, cell_keep hb h.b0, cell_keep hb h.b1, cell_keep hb h.b2, cell_keep hb h.b3, cell_keep hb h.b4, cell_keep hb h.b5, cell_keep hb h.b6⟩
theorem SNw.grown {u u' : World} {G X : Nat} {t : Opr} {v d : Value} {r : Option Nat} (h : SNw u G X t v d) (hg : u.grownBy u' r) (h1 : some G ≠ r) (h2 : some X ≠ r) : SNw u' G X t v d :=
  ⟨hg.cell h.c h1, hg.cell h.b0 h2, hg.cell h.b1 h2, hg.cell h.b2 h2, hg.cell h.b3 h2, hg.cell h.b4 h2, hg.cell h.b5 h2, hg.cell h.b6 h2⟩
def AnsNw (l : List Opr) (w : World) (e : Ending) (w' : World) : Prop :=
  ∃ gw gm a0 a1 co ch, e = .returned (.pointer (some ⟨gw, 0, none⟩)) ∧ WkAt w' w.heap.size gw gm a0 a1 co ch l (List.replicate l.length (-1)) [] ∧ Below w.heap.size w w'
set_option maxRecDepth 100000 in
set_option maxHeartbeats 2000000 in
theorem newWalk_any (b : Blk) (gk B : Nat) (w : World) (hl : b.ops.length ≤ 200) (hO : RowOp w B gk b.ops) :
    Calls Tryz.prog 157 #[b.val (.slice (some ⟨gk, 0, none⟩) b.ops.length b.ops.length)] w fun e w' => AnsNw b.ops w e w' := by
  have hmk := makeMapI
  have hFr : ∀ f, Fence.wide.fn f := fun _ => trivial
  have HO : Hid (RowOp w B gk b.ops) := hO
  obtain ⟨i0, hi, hz0, hz1, hz2⟩ := info_parts infoX
  obtain ⟨j0, hJi, hy0, hy1, hy2⟩ := info_parts infoI
  clear hO
  go_enter Tryz.func157, Tryz.ntmps157
  go_wp2_with fail
  clear hmk
  go_loopw [12] (fun i wr => ∃ (j : Nat) (l' : List Opr) (H' : List Int) (a0 a1 : Option Addr) (co ch : Nat), j ≤ b.ops.length ∧ i = .int .i64 (j : Int) ∧ Hid (l' = b.ops.take j ∧ l'.length = j ∧ H' = List.replicate j (-1)) ∧ Hid (WkG wr w.heap.size (w.heap.size + 2) (w.heap.size + 1) a0 a1 co ch l' H' []) ∧ Hid (Below w.heap.size w wr)) (fun i _ => b.ops.length - (RowKit.intOf i).toNat)
  case atStart =>
    refine ⟨0, [], [], none, none, 0, 0, Nat.zero_le _, rfl, ⟨by simp, rfl, rfl⟩, ?_, ?_⟩
    · refine ⟨by simp [go_sem], by simp [go_sem], by simp [go_sem], fun k => by simp [go_sem], nilOwnX _ _, ⟨rfl, .inl ⟨rfl, rfl⟩⟩, ⟨#[], 0, ?_, rfl, fun p hp => by cases hp⟩, by omega, by omega, by omega, (fun g hg => by cases hg), fun g hg => by cases hg⟩
      rw [Below.heap_alloc _ _ _ (by simp)]
      exact heap_new' _ _ _ (by simp)
    · exact (((Below.refl _ _).alloc (Nat.le_refl _) _).alloc (by simp) _).alloc (by simp <;> omega) _
  case round =>
    obtain ⟨j, l', H', a0, a1, co, ch, hj, rfl, HL, HK, HBw⟩ := hrel
    by_cases hlt : j < b.ops.length
    · obtain ⟨gx, hox⟩ := (HO.out.below HBw.out).at j hlt
      obtain ⟨t, ht⟩ : ∃ t, t = b.ops[j]'hlt := ⟨_, rfl⟩
      rw [← ht] at hox
      have HT : Hid (b.ops.take (j + 1) = b.ops.take j ++ [t]) := by show _ = _; rw [ht, List.take_add_one, List.getElem?_eq_getElem hlt]; rfl
      have hlj : l'.length = j := HL.out.2.1
      have hlj2 : l'.length ≤ 200 := by omega
      have HLj : Hid (l'.length = j) := hlj
      have HOp : Hid (∀ x, Calls Tryz.prog 120 #[t.val (.slice (some ⟨gx, 0, none⟩) t.data.length t.data.length)] x fun e w' => e = .returned t.num ∧ Below x.heap.size x w') := fun x => operationOf_any t _ x
      obtain ⟨c0, c1, c2, c3, c4, c5, c6, _⟩ := hox
      obtain ⟨G, hG⟩ : ∃ G, G = w.heap.size + 2 := ⟨_, rfl⟩
      rw [← hG] at HK
      clear ht hlj
      obtain ⟨X, hX⟩ : ∃ X, X = wr.heap.size := ⟨_, rfl⟩
      have HXe : Hid (X = wr.heap.size) := hX
      obtain ⟨Y, hY⟩ : ∃ Y, Y = (wr.alloc (.cells #[.int .i64 t.kind, .int .i64 t.a, .int .i64 t.b, .int .i64 t.c, .int .i64 t.d, .string t.name, .slice (some ⟨gx, 0, none⟩) t.data.length t.data.length] 100)).drew := ⟨_, rfl⟩
      have HBY : Hid (Below wr.heap.size wr Y) := by rw [hY]; exact (bnew _ _).drew
      have HS0 : Hid (SNw Y G X t (.slice a0 l'.length co) (.slice (some ⟨gx, 0, none⟩) t.data.length t.data.length)) := ⟨cell_keep HBY.out HK.out.c0, by rw [hY, hX]; simp [go_sem], by rw [hY, hX]; simp [go_sem], by rw [hY, hX]; simp [go_sem], by rw [hY, hX]; simp [go_sem], by rw [hY, hX]; simp [go_sem], by rw [hY, hX]; simp [go_sem], by rw [hY, hX]; simp [go_sem]⟩
      go_upto_region 5 with fail
      refine (wpIn_wide (n := 0)).1 ?_
      refine region_anyH (z := 11) (S := fun u : World => SNw u G X t (.slice a0 l'.length co) (.slice (some ⟨gx, 0, none⟩) t.data.length t.data.length)) (by kernel_rfl) ?_
      rw [← hG, ← hX, ← hY]
      have HG : Hid (G = w.heap.size + 2) := hG
      clear c0 c1 c2 c3 c4 c5 c6 hX hY hG
      refine anyH_take hFr (by kernel_rfl) (i := 0) (v := ?_) (d := some 16) (by kernel_rfl) rfl rfl (by kernel_rfl) (by kernel_rfl) (by kernel_rfl) (fun _ _ _ h => h) HS0.out (Or.inl ⟨by rfl, fun w hSw => ?_⟩) ?_
      rotate_left
      · obtain ⟨s0, s1, s2, s3, s4, s5, s6, s7⟩ := hSw
        go_simp
        all_goals (try (first | with_reducible rfl | omega))
      try simp only [Act.put]
      try simp only [List.setIfInBounds_toArray]
      try simp only [List.set_cons_zero, List.set_cons_succ]
      refine anyH_take hFr (by kernel_rfl) (i := 1) (v := ?_) (d := some 17) (by kernel_rfl) rfl rfl (by kernel_rfl) (by kernel_rfl) (by kernel_rfl) (fun _ _ _ h => h) HS0.out (Or.inl ⟨by rfl, fun w hSw => ?_⟩) ?_
      rotate_left
      · obtain ⟨s0, s1, s2, s3, s4, s5, s6, s7⟩ := hSw
        go_simp
        all_goals (try (first | with_reducible rfl | omega))
      try simp only [Act.put]
      try simp only [List.setIfInBounds_toArray]
      try simp only [List.set_cons_zero, List.set_cons_succ]
      refine anyH_take hFr (by kernel_rfl) (i := 2) (v := ?_) (d := some 18) (by kernel_rfl) rfl rfl (by kernel_rfl) (by kernel_rfl) (by kernel_rfl) (fun _ _ _ h => h) HS0.out (Or.inl ⟨by rfl, fun w hSw => ?_⟩) ?_
      rotate_left
      · obtain ⟨s0, s1, s2, s3, s4, s5, s6, s7⟩ := hSw
        go_simp
        all_goals (try (first | with_reducible rfl | omega))
      try simp only [Act.put]
      try simp only [List.setIfInBounds_toArray]
      try simp only [List.set_cons_zero, List.set_cons_succ]
      refine anyH_take hFr (by kernel_rfl) (i := 3) (v := ?_) (d := some 19) (by kernel_rfl) rfl rfl (by kernel_rfl) (by kernel_rfl) (by kernel_rfl) (fun _ _ _ h => h) HS0.out (Or.inl ⟨by rfl, fun w hSw => ?_⟩) ?_
      rotate_left
      · obtain ⟨s0, s1, s2, s3, s4, s5, s6, s7⟩ := hSw
        go_simp
        all_goals (try (first | with_reducible rfl | omega))
      try simp only [Act.put]
      try simp only [List.setIfInBounds_toArray]
      try simp only [List.set_cons_zero, List.set_cons_succ]
      refine anyH_take hFr (by kernel_rfl) (i := 4) (v := ?_) (d := some 20) (by kernel_rfl) rfl rfl (by kernel_rfl) (by kernel_rfl) (by kernel_rfl) (fun _ _ _ h => h) HS0.out (Or.inl ⟨by rfl, fun w hSw => ?_⟩) ?_
      rotate_left
      · obtain ⟨s0, s1, s2, s3, s4, s5, s6, s7⟩ := hSw
        go_simp
        all_goals (try (first | with_reducible rfl | omega))
      try simp only [Act.put]
      try simp only [List.setIfInBounds_toArray]
      try simp only [List.set_cons_zero, List.set_cons_succ]
      refine anyH_take hFr (by kernel_rfl) (i := 5) (v := ?_) (d := some 21) (by kernel_rfl) rfl rfl (by kernel_rfl) (by kernel_rfl) (by kernel_rfl) (fun _ _ _ h => h) HS0.out (Or.inl ⟨by rfl, fun w hSw => ?_⟩) ?_
      rotate_left
      · obtain ⟨s0, s1, s2, s3, s4, s5, s6, s7⟩ := hSw
        go_simp
        all_goals (try (first | with_reducible rfl | omega))
      try simp only [Act.put]
      try simp only [List.setIfInBounds_toArray]
      try simp only [List.set_cons_zero, List.set_cons_succ]
      refine anyH_one (i := 6) (by kernel_rfl) (op_plainW rfl (by rfl) (by simp) ?_)
      go_simp
      refine (HOp.out _).mono ?_
      rintro e y6 ⟨rfl, b6⟩
      have HB6 : Hid (Below wr.heap.size wr y6) := HBY.out.trans (b6.mono HBY.out.size)
      have HS6 : Hid (SNw y6 G X t (.slice a0 l'.length co) (.slice (some ⟨gx, 0, none⟩) t.data.length t.data.length)) := HS0.out.below b6
      refine ⟨by first | exact HS6.out | exact fun _ => HS6.out, ?_⟩
      clear b6
      try simp only [Act.put]
      try simp only [List.setIfInBounds_toArray]
      try simp only [List.set_cons_zero, List.set_cons_succ]
      refine anyH_one (i := 7) (by kernel_rfl) (op_plainW rfl (by rfl) (by simp) ?_)
      go_simp
      obtain ⟨y7, hy7⟩ : ∃ y7, y7 = y6.alloc (.cells #[.int .i64 t.kind, .string t.name, .int .i64 t.a, .int .i64 t.b, .int .i64 t.c, .int .i64 t.d] 184) := ⟨_, rfl⟩
      have HB7 : Hid (Below wr.heap.size wr y7) := by rw [hy7]; exact HB6.out.alloc HB6.out.size _
      have HS7 : Hid (SNw y7 G X t (.slice a0 l'.length co) (.slice (some ⟨gx, 0, none⟩) t.data.length t.data.length)) := by rw [hy7]; exact HS6.out.below (bnew _ _)
      have HN7 : Hid (y7.heap[y6.heap.size]? = some (.cells #[.int .i64 t.kind, .string t.name, .int .i64 t.a, .int .i64 t.b, .int .i64 t.c, .int .i64 t.d] 184)) := by rw [hy7]; exact heap_alloc_new _ _
      rw [← hy7]
      clear hy7
      refine ⟨by first | exact HS7.out | exact fun _ => HS7.out, ?_⟩
      try simp only [Act.put]
      try simp only [List.setIfInBounds_toArray]
      try simp only [List.set_cons_zero, List.set_cons_succ]
      have HO7 : Hid (y7.ownsRow w.heap.size 184 6 (.slice a0 l'.length co) l'.length (cellsX l')) := own_below HK.out.ops HB7.out
      refine anyH_one (i := 8) (by kernel_rfl) (op_plainW rfl (by rfl) (by simp) ?_)
      refine wp_append_lies _ (.tmp 20) (.tmp 23) 174 rfl w.heap.size 184 i0 _ 6 56 Tryz.underlying174 hi hz0 hz1 hz2 rfl (by decide) _ l'.length (cellsX l') rfl HO7.out ⟨y6.heap.size, 0, none⟩ 1 1 (numC t) rfl rfl (World.news_of_block (cs := #[.int .i64 t.kind, .string t.name, .int .i64 t.a, .int .i64 t.b, .int .i64 t.c, .int .i64 t.d]) (t := 184) (fr := (0, 0)) HN7.out) (by simp [numC, Value.oneCell']) (by decide) (by unfold maxLen; omega) (by omega) (by have := HB7.out.size; have := HBw.out.size; omega) _ rfl ?_
      intro g' cap' w8 hown hgrow hat _
      have hne : ∀ g, g < wr.heap.size + 1 → (∀ q, (Value.slice a0 l'.length co).ownBlock = some q → q ≠ g) → some g ≠ (Value.slice a0 l'.length co).ownBlock := fun g _ hq e => hq g e.symm rfl
      have HS8 : Hid (SNw w8 G X t (.slice a0 l'.length co) (.slice (some ⟨gx, 0, none⟩) t.data.length t.data.length)) := HS7.out.grown hgrow (fun e => (HK.out.ap0 _ e.symm).1 rfl) (fun e => by have h1 := (HK.out.ops.lt _ e.symm).2; have h2 := HXe.out; omega)
      have HM := HK.out.more0 HB7.out hgrow hown hat
      have HK8 : Hid (WkG (w8.setCell ⟨G, 0, none⟩ (.slice (some ⟨g', 0, none⟩) (l'.length + 1) cap')) w.heap.size G (w.heap.size + 1) (some ⟨g', 0, none⟩) a1 cap' ch (l' ++ [t]) H' []) := HM.1
      have HB8 : Hid (Below w.heap.size w (w8.setCell ⟨G, 0, none⟩ (.slice (some ⟨g', 0, none⟩) (l'.length + 1) cap'))) := HBw.out.trans HM.2
      have k0 : w8.cell? ⟨G, 0, none⟩ = some (.slice a0 l'.length co) := HS8.out.c
      have kf : w8.frozen? ⟨G, 0, none⟩ = false := fz_of hgrow (Nat.lt_of_lt_of_le (show G < wr.heap.size from lt_of_cell HK.out.c0) HB7.out.size) (fun e => (HK.out.ap0 _ e.symm).1 rfl) ((HK.out.below HB7.out).fz 0)
      clear hown hgrow hat HM hne
      refine ⟨by first | exact HS8.out | exact fun _ => HS8.out, ?_⟩
      try simp only [Act.put]
      try simp only [List.setIfInBounds_toArray]
      try simp only [List.set_cons_zero, List.set_cons_succ]
      refine anyH_one (i := 9) (by kernel_rfl) (op_plainW rfl (by rfl) (by simp) ?_)
      go_simp
      refine ⟨by first | exact HS8.out | exact fun _ => HS8.out, ?_⟩
      try simp only [Act.put]
      try simp only [List.setIfInBounds_toArray]
      try simp only [List.set_cons_zero, List.set_cons_succ]
      refine anyH_one (i := 10) (by kernel_rfl) (op_plainW rfl (by rfl) (by simp) ?_)
      go_simp
      refine ⟨by first | exact HS8.out | exact fun _ => HS8.out, ?_⟩
      try simp only [Act.put]
      try simp only [List.setIfInBounds_toArray]
      try simp only [List.set_cons_zero, List.set_cons_succ]
      refine anyH_one (i := 11) (by kernel_rfl) (op_plainW rfl (by rfl) (by simp) ?_)
      go_simp
      refine ⟨by kernel_rfl, ?_⟩
      try simp only [Act.put]
      try simp only [List.setIfInBounds_toArray]
      try simp only [List.set_cons_zero, List.set_cons_succ]
      obtain ⟨Z, hZ⟩ : ∃ Z, Z = w8.setCell ⟨G, 0, none⟩ (.slice (some ⟨g', 0, none⟩) (l'.length + 1) cap') := ⟨_, rfl⟩
      rw [← hZ] at HK8 HB8
      rw [← hZ]
      have z1 := HK8.out.c1
      have zf := HK8.out.fz 1
      have HOz : Hid (Z.ownsRow w.heap.size 2 1 (.slice a1 H'.length ch) H'.length (cellsI H')) := HK8.out.hs
      have hH' : H'.length ≤ 200 := by rw [HL.out.2.2]; simp; omega
      clear hZ k0 kf HS8 HS7 HS6 HS0
      go_wp2_with (at_builtin; refine wpList_append_lies _ rfl (.tmp 31) (.tmp 32) 78 rfl w.heap.size 2 j0 _ 1 8 Tryz.underlying78 hJi hy0 hy1 hy2 rfl (by decide) _ H'.length (cellsI H') rfl (HOz.out.alloc _) ⟨_, 0, none⟩ 1 1 [.int .i64 (-1)] rfl rfl ?c1 ?c2 (by decide) ?c3 ?c4 ?c5 _ rfl ?_)
      case c1 => exact newsI (heap_new' _ _ _ (by simp))
      case c2 => intro u hu; simp at hu; subst hu; rfl
      case c3 => unfold maxLen; omega
      case c4 => omega
      case c5 => have := HB8.out.size; simp; omega
      intro g2 cap2 w9 hown hgrow hat _
      have HM := HK8.out.more1 (x := -1) (bnew Z _) hgrow hown (by simpa using hat)
      have HK9 : Hid (WkG (w9.setCell ⟨G, 1, none⟩ (.slice (some ⟨g2, 0, none⟩) (H'.length + 1) cap2)) w.heap.size G (w.heap.size + 1) (some ⟨g', 0, none⟩) (some ⟨g2, 0, none⟩) cap' cap2 (l' ++ [t]) (H' ++ [-1]) []) := HM.1
      have HB9 : Hid (Below w.heap.size w (w9.setCell ⟨G, 1, none⟩ (.slice (some ⟨g2, 0, none⟩) (H'.length + 1) cap2))) := HB8.out.trans HM.2
      have hgw : some G ≠ (Value.slice a1 H'.length ch).ownBlock := fun e => (HK8.out.ap1 _ e.symm).1 rfl
      have v1 : w9.cell? ⟨G, 1, none⟩ = some (.slice a1 H'.length ch) := hgrow.cell (cell_laid _ z1) hgw
      have vf : w9.frozen? ⟨G, 1, none⟩ = false := fz_of hgrow (by have h1 : G < Z.heap.size := lt_of_cell z1; simp; omega) hgw ((HK8.out.below (bnew Z _)).fz 1)
      have HL2 : Hid (l' ++ [t] = b.ops.take (j + 1) ∧ (l' ++ [t]).length = j + 1 ∧ H' ++ [-1] = List.replicate (j + 1) (-1)) := ⟨by rw [HT.out, HL.out.1], by simp [HLj.out], by rw [HL.out.2.2, List.replicate_succ']⟩
      clear hown hgrow hat HM hgw z1 zf
      have hG2 : G = w.heap.size + 2 := HG.out
      clear HG
      subst hG2
      go_wp2
      refine ⟨?qinv, ?qmeas⟩
      case qinv =>
        repeat apply Exists.intro
        refine ⟨?_, rfl⟩
        exact ⟨j + 1, l' ++ [t], H' ++ [-1], some ⟨g', 0, none⟩, some ⟨g2, 0, none⟩, cap', cap2, by omega, by go_num, HL2.out, HK9.out, HB9.out⟩
      case qmeas => simp [RowKit.intOf]; omega
    · have e : j = b.ops.length := by omega
      have HX : Hid (AnsNw b.ops w (.returned (.pointer (some ⟨w.heap.size + 2, 0, none⟩))) wr) := by
        obtain ⟨h1, h2, h3⟩ := HL.out
        rw [e, List.take_length] at h1
        rw [e] at h3
        refine ⟨w.heap.size + 2, w.heap.size + 1, a0, a1, co, ch, rfl, ?_, HBw.out⟩
        rw [← h1, ← show H' = List.replicate l'.length (-1) by rw [h3, h1]]
        exact HK.out.at (by rw [h3, h1]; simp)
      clear HL HK HO e
      go_wp2
      go_ret
      exact HX.out
set_option maxRecDepth 100000 in
set_option maxHeartbeats 1000000 in
theorem stackChange_any (t : Opr) (w : World) (hb : OpBnd t) : Calls Tryz.prog 238 #[t.num] w fun e w' => e = .returned (.tuple #[.int .i64 (takeO t), .int .i64 (putO t)]) ∧ Below w.heap.size w w' := by
  obtain ⟨R, hR⟩ : ∃ R, R = takeO t := ⟨_, rfl⟩
  obtain ⟨S, hS⟩ : ∃ S, S = putO t := ⟨_, rfl⟩
  rw [← hR, ← hS]
  have a1 := hb.a1
  have a2 := hb.a2
  rcases hb.kinds with k | k | k | k | k | k | k | k | k | k | k | k | k | k | k | k
  all_goals
    have HR : Hid (R = takeO t ∧ S = putO t) := ⟨hR, hS⟩
    have HK := k
    unfold takeO putO at HR
    unfold Opr.num
    rw [HK] at HR ⊢
    clear hR hS k HK hb
    go_enter Tryz.func238, Tryz.ntmps238
    go_wp2
    exact bodyPost_ret (v := .tuple #[.int .i64 R, .int .i64 S]) (by
      obtain ⟨h1, h2⟩ := HR.out
      rw [h1, h2]
      simp [results, Tryz.results238, go_sem]) rfl ⟨rfl, by repeat (first | exact Below.refl _ _ | refine Below.alloc ?_ (by simp <;> omega) _)⟩
set_option maxRecDepth 100000 in
set_option maxHeartbeats 1000000 in
theorem heightAtEnd_any (t : Opr) (w : World) (hb : OpBnd t) : Calls Tryz.prog 237 #[t.num] w fun e w' => e = .returned (.tuple #[.int .i64 (if leavesO t then atEndO t else 0), .bool (leavesO t)]) ∧ Below w.heap.size w w' := by
  obtain ⟨R, hR⟩ : ∃ R, R = (if leavesO t then atEndO t else 0) := ⟨_, rfl⟩
  obtain ⟨S, hS⟩ : ∃ S, S = leavesO t := ⟨_, rfl⟩
  rw [← hR, ← hS]
  have a1 := hb.a1
  have a2 := hb.a2
  rcases hb.kinds with k | k | k | k | k | k | k | k | k | k | k | k | k | k | k | k
  all_goals
    have HR : Hid (R = (if leavesO t then atEndO t else 0) ∧ S = leavesO t) := ⟨hR, hS⟩
    have HK := k
    unfold leavesO atEndO at HR
    unfold Opr.num
    rw [HK] at HR ⊢
    clear hR hS k HK hb
    go_enter Tryz.func237, Tryz.ntmps237
    go_wp2
    exact bodyPost_ret (v := .tuple #[.int .i64 R, .bool S]) (by
      obtain ⟨h1, h2⟩ := HR.out
      rw [h1, h2]
      simp [results, Tryz.results237, go_sem]) rfl ⟨rfl, by repeat (first | exact Below.refl _ _ | refine Below.alloc ?_ (by simp <;> omega) _)⟩
theorem hasPlace_any (gw n co : Nat) (a0 : Option Addr) (i : Int) (w : World) (h : w.cell? ⟨gw, 0, none⟩ = some (.slice a0 n co)) : Calls Tryz.prog 201 #[.pointer (some ⟨gw, 0, none⟩), .int .i64 i] w fun e w' => e = .returned (.bool (decide (i < (n : Int)))) ∧ w' = w := by
  obtain ⟨R, hR⟩ : ∃ R, R = decide (i < (n : Int)) := ⟨_, rfl⟩
  rw [← hR]
  have HR : Hid (R = decide (i < (n : Int))) := hR
  clear hR
  go_enter Tryz.func201, Tryz.ntmps201
  go_wp2
  go_ret
  exact ⟨by rw [HR.out]; rfl, rfl⟩
set_option maxRecDepth 100000 in
set_option maxHeartbeats 1000000 in
theorem comeTo_any (B gw gm : Nat) (a0 a1 : Option Addr) (co ch : Nat) (l : List Opr) (H : List Int) (O : List (Nat × Int)) (i : Nat) (h : Int) (w : World) (hi : i ≤ 1000) (hw : WkAt w B gw gm a0 a1 co ch l H O) :
    Calls Tryz.prog 202 #[.pointer (some ⟨gw, 0, none⟩), .int .i64 (i : Int), .int .i64 h] w fun e w' => ∃ ok O', e = .returned (.bool ok) ∧ ComeR H O i h ok O' ∧ WkAt w' B gw gm a0 a1 co ch l H O' ∧ w.grownBy w' (some gm) := by
  have HP : Hid (Calls Tryz.prog 201 #[.pointer (some ⟨gw, 0, none⟩), .int .i64 (i : Int)] w fun e w' => e = .returned (.bool (decide ((i : Int) < (l.length : Int)))) ∧ w' = w) := hasPlace_any gw l.length co a0 i w hw.c0
  have HW : Hid (WkAt w B gw gm a0 a1 co ch l H O) := hw
  have hlen := hw.len
  have HLen : Hid (H.length = l.length) := hlen
  by_cases hin : i < l.length
  · obtain ⟨go, gh, rfl, rfl⟩ := hw.some0 (by omega)
    have hiH : i < H.length := by omega
    have c1 := hw.c1
    have c2 := hw.c2
    have p0 : w.cell? ⟨gh, i, none⟩ = some (.int .i64 (H[i]'hiH)) := rowI_at (by rw [hlen]; exact hw.hs) i hiH
    obtain ⟨x, hx⟩ : ∃ x, x = H[i]'hiH := ⟨_, rfl⟩
    rw [← hx] at p0
    have HX : Hid (H[i]? = some x) := by show _ = _; rw [hx]; exact List.getElem?_eq_getElem hiH
    have hdec : decide ((i : Int) < (l.length : Int)) = true := by simp; omega
    rw [hdec] at HP
    clear hx hlen hdec hiH
    by_cases hm : x = -1
    · subst hm
      rcases hw.mp.look i (by omega) with ⟨hno, hr⟩ | ⟨j, g, hj, hr⟩
      · obtain ⟨w2, hrun, hmp, hgr, hsz⟩ := hw.mp.put i h (by omega) hno
        have HNo : Hid (∀ p ∈ O, p.1 ≠ i) := hno
        have HM : Hid (MapI w2 gm (O ++ [(i, h)])) := hmp
        have HG : Hid (w.grownBy w2 (some gm)) := hgr
        clear hno hmp hgr hw
        go_enter Tryz.func202, Tryz.ntmps202
        go_wp2_with (go_at_call 201; refine HP.out.mono ?_; rintro e w' ⟨rfl, hw'⟩; replace hw' := hw'.symm; subst hw')
        go_ret
        exact ⟨true, O ++ [(i, h)], rfl, .inr (.inr (.inr ⟨HX.out, HNo.out, rfl, rfl⟩)), HW.out.mapped HG.out HM.out, HG.out⟩
      · have HJ : Hid ((i, g) ∈ O) := List.mem_of_getElem? hj
        clear hw hj
        go_enter Tryz.func202, Tryz.ntmps202
        go_wp2_with (go_at_call 201; refine HP.out.mono ?_; rintro e w' ⟨rfl, hw'⟩; replace hw' := hw'.symm; subst hw')
        go_ret
        exact ⟨_, O, rfl, .inr (.inr (.inl ⟨HX.out, g, HJ.out, rfl, rfl⟩)), HW.out, gb_refl _ _⟩
    · have hxn : (x != -1) = true := by rw [bne_iff_ne]; exact hm
      have HM : Hid (x ≠ -1) := hm
      clear hw hm
      go_enter Tryz.func202, Tryz.ntmps202
      go_wp2_with (go_at_call 201; refine HP.out.mono ?_; rintro e w' ⟨rfl, hw'⟩; replace hw' := hw'.symm; subst hw')
      go_ret
      exact ⟨_, O, rfl, .inr (.inl ⟨x, HX.out, HM.out, rfl, rfl⟩), HW.out, gb_refl _ _⟩
  · have hdec : decide ((i : Int) < (l.length : Int)) = false := by simp; omega
    rw [hdec] at HP
    clear hw hdec hlen
    go_enter Tryz.func202, Tryz.ntmps202
    go_wp2_with (go_at_call 201; refine HP.out.mono ?_; rintro e w' ⟨rfl, hw'⟩; replace hw' := hw'.symm; subst hw')
    go_ret
    exact ⟨false, O, rfl, .inl ⟨by rw [HLen.out]; omega, rfl, rfl⟩, HW.out, gb_refl _ _⟩
theorem WkAt.gbelow {w w' : World} {B gw gm : Nat} {a0 a1 : Option Addr} {co ch : Nat} {l : List Opr} {H : List Int} {O : List (Nat × Int)} (h : WkAt w B gw gm a0 a1 co ch l H O) (hg : w.grownBy w' (some gm)) : Below B w w' :=
  below_of_grown hg (by have := h.lo1; have := h.lt; omega) (fun k hk => by have := Option.some.inj hk; have := h.lo2; omega)
set_option maxRecDepth 100000 in
set_option maxHeartbeats 2000000 in
theorem goThrough_any (B gw gm : Nat) (a0 a1 : Option Addr) (co ch : Nat) (l : List Opr) (H : List Int) (O : List (Nat × Int)) (i : Nat) (h : Int) (w : World) (t : Opr) (hl : l.length ≤ 200) (hi : i < l.length) (ht : l[i]? = some t) (hb : OpBnd t) (h0 : 0 ≤ h) (h1 : h ≤ 1000) (hw : WkAt w B gw gm a0 a1 co ch l H O) :
    Calls Tryz.prog 203 #[.pointer (some ⟨gw, 0, none⟩), .int .i64 (i : Int), .int .i64 h] w fun e w' => ∃ r O', e = .returned (.bool r) ∧ GoR t (H.set i h) O i h r O' ∧ WkAt w' B gw gm a0 a1 co ch l (H.set i h) O' ∧ Below B w w' := by
  obtain ⟨go, gh, rfl, rfl⟩ := hw.some0 (by omega)
  obtain ⟨W, hW⟩ : ∃ W, W = w.setCell ⟨gh, i, none⟩ (.int .i64 h) := ⟨_, rfl⟩
  have HWk : Hid (WkAt W B gw gm (some ⟨go, 0, none⟩) (some ⟨gh, 0, none⟩) co ch l (H.set i h) O) := by rw [hW]; exact hw.put i h
  have HBW : Hid (Below B w W) := by rw [hW]; exact (Below.refl _ _).setCell (hw.hs.lt gh rfl).1 _
  have hiH : i < H.length := by rw [hw.len]; exact hi
  have c1 := hw.c1
  have p0 : w.cell? ⟨gh, i, none⟩ = some (.int .i64 (H[i]'hiH)) := rowI_at (by rw [hw.len]; exact hw.hs) i hiH
  have pf : w.frozen? ⟨gh, i, none⟩ = false := own_frozen hw.hs i
  have hti : l[i]'hi = t := by rw [List.getElem?_eq_getElem hi] at ht; exact Option.some.inj ht
  have HTi : Hid (l[i]'hi = t) := hti
  clear hw hti ht
  go_enter Tryz.func203, Tryz.ntmps203
  go_upto_region 2 with fail
  rw [← hW]
  clear hW p0 pf c1
  have c0 := HWk.out.c0
  obtain ⟨q0, q1, q2, q3, q4, q5⟩ := rowX_at HWk.out.ops i hi
  rw [HTi.out] at q0 q1 q2 q3 q4 q5
  have HEn : Hid (∀ x, Calls Tryz.prog 237 #[t.num] x fun e w' => e = .returned (.tuple #[.int .i64 (if leavesO t then atEndO t else 0), .bool (leavesO t)]) ∧ Below x.heap.size x w') := fun x => heightAtEnd_any t x hb
  have HSt : Hid (∀ x, Calls Tryz.prog 238 #[t.num] x fun e w' => e = .returned (.tuple #[.int .i64 (takeO t), .int .i64 (putO t)]) ∧ Below x.heap.size x w') := fun x => stackChange_any t x hb
  have HTg : Hid (∀ x, Calls Tryz.prog 121 #[t.num] x fun e w' => e = .returned (.tuple #[.int .i64 (if hasT t then tgtO t else 0), .bool (hasT t)]) ∧ Below x.heap.size x w') := fun x => target_any t x
  obtain ⟨W2, hW2⟩ : ∃ W2, W2 = W.alloc (.cells #[.int .i64 t.kind, .string t.name, .int .i64 t.a, .int .i64 t.b, .int .i64 t.c, .int .i64 t.d] 184) := ⟨_, rfl⟩
  have hb2 : Below W.heap.size W W2 := by rw [hW2]; exact bnew _ _
  have x0 : W2.cell? ⟨W.heap.size, 0, none⟩ = some (.int .i64 t.kind) := by rw [hW2]; simp [go_sem]
  have x1 : W2.cell? ⟨W.heap.size, 1, none⟩ = some (.string t.name) := by rw [hW2]; simp [go_sem]
  have x2 : W2.cell? ⟨W.heap.size, 2, none⟩ = some (.int .i64 t.a) := by rw [hW2]; simp [go_sem]
  have x3 : W2.cell? ⟨W.heap.size, 3, none⟩ = some (.int .i64 t.b) := by rw [hW2]; simp [go_sem]
  have x4 : W2.cell? ⟨W.heap.size, 4, none⟩ = some (.int .i64 t.c) := by rw [hW2]; simp [go_sem]
  have x5 : W2.cell? ⟨W.heap.size, 5, none⟩ = some (.int .i64 t.d) := by rw [hW2]; simp [go_sem]
  have HBx : Hid (∀ u, Below W2.heap.size W2 u → u.cell? ⟨W.heap.size, 0, none⟩ = some (.int .i64 t.kind) ∧ u.cell? ⟨W.heap.size, 1, none⟩ = some (.string t.name) ∧ u.cell? ⟨W.heap.size, 2, none⟩ = some (.int .i64 t.a) ∧ u.cell? ⟨W.heap.size, 3, none⟩ = some (.int .i64 t.b) ∧ u.cell? ⟨W.heap.size, 4, none⟩ = some (.int .i64 t.c) ∧ u.cell? ⟨W.heap.size, 5, none⟩ = some (.int .i64 t.d)) := fun u hu => ⟨cell_keep hu x0, cell_keep hu x1, cell_keep hu x2, cell_keep hu x3, cell_keep hu x4, cell_keep hu x5⟩
  have HW2 : Hid (WkAt W2 B gw gm (some ⟨go, 0, none⟩) (some ⟨gh, 0, none⟩) co ch l (H.set i h) O) := HWk.out.below hb2
  have HBW2 : Hid (Below B w W2) := HBW.out.trans (hb2.mono (by have := HWk.out.lo1; have := HWk.out.lt; omega))
  have HLt : Hid (∀ u, Below W2.heap.size W2 u → B ≤ u.heap.size) := fun u hu => by have := HW2.out.lo1; have := HW2.out.lt; have := hu.size; omega
  have HBd : Hid (OpBnd t) := hb
  have HGm : Hid (W.heap.size ≠ gm) := by show _ ≠ _; have := HWk.out.mp.lt; omega
  obtain ⟨E, hE⟩ : ∃ E, E = (if leavesO t then atEndO t else 0) := ⟨_, rfl⟩
  obtain ⟨L, hL⟩ : ∃ L, L = leavesO t := ⟨_, rfl⟩
  obtain ⟨A, hA⟩ : ∃ A, A = takeO t := ⟨_, rfl⟩
  obtain ⟨P, hP⟩ : ∃ P, P = putO t := ⟨_, rfl⟩
  obtain ⟨T, hT⟩ : ∃ T, T = (if hasT t then tgtO t else 0) := ⟨_, rfl⟩
  obtain ⟨S, hS⟩ : ∃ S, S = hasT t := ⟨_, rfl⟩
  obtain ⟨t1, t2, t3, t4⟩ := hb.take
  rw [← hE, ← hL] at HEn
  rw [← hA, ← hP] at HSt
  rw [← hA] at t1 t2
  rw [← hP] at t3 t4
  rw [← hT, ← hS] at HTg
  have HE : Hid (E = (if leavesO t then atEndO t else 0)) := hE
  have HL : Hid (leavesO t = L) := hL.symm
  have HA : Hid (takeO t = A) := hA.symm
  have HPu : Hid (putO t = P) := hP.symm
  have HT : Hid (T = (if hasT t then tgtO t else 0)) := hT
  have HS : Hid (hasT t = S) := hS.symm
  clear hE hL hA hP hT hS hb2 x0 x1 x2 x3 x4 x5 hb HWk HBW
  go_wp2_with fail
  rw [← hW2]
  clear hW2 q0 q1 q2 q3 q4 q5 c0
  refine (HEn.out _).mono ?_
  rintro e w2 ⟨rfl, b2⟩
  have HB2 : Hid (Below W2.heap.size W2 w2) := b2
  clear b2 HEn
  cases L
  · obtain ⟨y0, y1, y2, y3, y4, y5⟩ := HBx.out w2 HB2.out
    go_wp2_with fail
    refine (HSt.out _).mono ?_
    rintro e w3 ⟨rfl, b3⟩
    have HB3 : Hid (Below W2.heap.size W2 w3) := HB2.out.trans (b3.mono HB2.out.size)
    clear b3 HB2 HSt y0 y1 y2 y3 y4 y5
    by_cases hlt : h < A
    · have HX : Hid (∃ r O', Ending.returned (.bool false) = .returned (.bool r) ∧ GoR t (H.set i h) O i h r O' ∧ WkAt w3 B gw gm (some ⟨go, 0, none⟩) (some ⟨gh, 0, none⟩) co ch l (H.set i h) O' ∧ Below B w w3) := ⟨false, O, rfl, .inr (.inl ⟨HL.out, by rw [HA.out]; exact hlt, rfl, rfl⟩), HW2.out.below HB3.out, HBW2.out.trans (HB3.out.mono (by have := HLt.out W2 (Below.refl _ _); omega))⟩
      go_wp2
      go_ret
      exact HX.out
    obtain ⟨y0, y1, y2, y3, y4, y5⟩ := HBx.out w3 HB3.out
    go_wp2_with fail
    refine (HTg.out _).mono ?_
    rintro e w4 ⟨rfl, b4⟩
    have HB4 : Hid (Below W2.heap.size W2 w4) := HB3.out.trans (b4.mono HB3.out.size)
    clear b4 HB3 HTg y0 y1 y2 y3 y4 y5
    have HN : Hid (nextO t h = h - A + P) := by show _ = _; unfold nextO; rw [HA.out, HPu.out]
    have HWk4 : Hid (WkAt w4 B gw gm (some ⟨go, 0, none⟩) (some ⟨gh, 0, none⟩) co ch l (H.set i h) O) := HW2.out.below HB4.out
    have HBw4 : Hid (Below B w w4) := HBW2.out.trans (HB4.out.mono (HLt.out W2 (Below.refl _ _)))
    cases S
    · obtain ⟨y0, y1, y2, y3, y4, y5⟩ := HBx.out w4 HB4.out
      cases k5 : (t.kind == 5)
      · have HC : Hid (Calls Tryz.prog 202 #[.pointer (some ⟨gw, 0, none⟩), .int .i64 ((i : Int) + 1), .int .i64 (h - A + P)] w4 fun e w' => ∃ ok O', e = .returned (.bool ok) ∧ ComeR (H.set i h) O (i + 1) (h - A + P) ok O' ∧ WkAt w' B gw gm (some ⟨go, 0, none⟩) (some ⟨gh, 0, none⟩) co ch l (H.set i h) O' ∧ w4.grownBy w' (some gm)) := comeTo_any B gw gm _ _ co ch l (H.set i h) O (i + 1) (h - A + P) w4 (by omega) HWk4.out
        have HK5 : Hid (t.kind ≠ 5) := by show _ ≠ _; intro e; rw [e] at k5; cases k5
        go_wp2_with fail
        refine HC.out.mono ?_
        rintro e w5 ⟨r, O', rfl, cr, k5', b5⟩
        have HX : Hid (∃ r', ∃ O'', Ending.returned (.bool r) = .returned (.bool r') ∧ GoR t (H.set i h) O i h r' O'' ∧ WkAt w5 B gw gm (some ⟨go, 0, none⟩) (some ⟨gh, 0, none⟩) co ch l (H.set i h) O'' ∧ Below B w w5) := ⟨r, O', rfl, .inr (.inr ⟨HL.out, by rw [HA.out]; omega, true, O, .inr ⟨HS.out, rfl, rfl⟩, .inr (.inr ⟨rfl, HK5.out, by rw [HN.out]; exact cr⟩)⟩), k5', HBw4.out.trans (HWk4.out.gbelow b5)⟩
        clear cr k5' b5 HC
        go_wp2
        go_ret
        exact HX.out
      · have HK5 : Hid (t.kind = 5) := by show _ = _; simpa using k5
        have HX : Hid (∃ r' O'', Ending.returned (.bool true) = .returned (.bool r') ∧ GoR t (H.set i h) O i h r' O'' ∧ WkAt w4 B gw gm (some ⟨go, 0, none⟩) (some ⟨gh, 0, none⟩) co ch l (H.set i h) O'' ∧ Below B w w4) := ⟨true, O, rfl, .inr (.inr ⟨HL.out, by rw [HA.out]; omega, true, O, .inr ⟨HS.out, rfl, rfl⟩, .inr (.inl ⟨rfl, HK5.out, rfl, rfl⟩)⟩), HWk4.out, HBw4.out⟩
        go_wp2
        go_ret
        exact HX.out
    · have hTe : T = tgtO t := by rw [HT.out, HS.out]; rfl
      have hTb := HBd.out.tgt HS.out
      rw [← hTe] at hTb
      obtain ⟨j, rfl⟩ : ∃ j : Nat, T = (j : Int) := ⟨T.toNat, by omega⟩
      have HTj : Hid ((tgtO t).toNat = j) := by show _ = _; rw [← hTe]; simp
      clear hTe HT
      have HC : Hid (Calls Tryz.prog 202 #[.pointer (some ⟨gw, 0, none⟩), .int .i64 (j : Int), .int .i64 (h - A + P)] w4 fun e w' => ∃ ok O', e = .returned (.bool ok) ∧ ComeR (H.set i h) O j (h - A + P) ok O' ∧ WkAt w' B gw gm (some ⟨go, 0, none⟩) (some ⟨gh, 0, none⟩) co ch l (H.set i h) O' ∧ w4.grownBy w' (some gm)) := comeTo_any B gw gm _ _ co ch l (H.set i h) O j (h - A + P) w4 (by omega) HWk4.out
      have HBx4 : Hid (w4.cell? ⟨W.heap.size, 0, none⟩ = some (.int .i64 t.kind)) := (HBx.out w4 HB4.out).1
      go_wp2_with fail
      refine HC.out.mono ?_
      rintro e w5 ⟨o1, O1, rfl, cr, kw5, b5⟩
      have HCR : Hid (ComeR (H.set i h) O j (h - A + P) o1 O1) := cr
      have HWk5 : Hid (WkAt w5 B gw gm (some ⟨go, 0, none⟩) (some ⟨gh, 0, none⟩) co ch l (H.set i h) O1) := kw5
      have HBw5 : Hid (Below B w w5) := HBw4.out.trans (HWk4.out.gbelow b5)
      have HB45 : Hid (w5.cell? ⟨W.heap.size, 0, none⟩ = some (.int .i64 t.kind)) := b5.cell HBx4.out (fun e => HGm.out (Option.some.inj e))
      clear cr kw5 b5 HC
      cases o1
      · have HX : Hid (∃ r' O'', Ending.returned (.bool false) = .returned (.bool r') ∧ GoR t (H.set i h) O i h r' O'' ∧ WkAt w5 B gw gm (some ⟨go, 0, none⟩) (some ⟨gh, 0, none⟩) co ch l (H.set i h) O'' ∧ Below B w w5) := ⟨false, O1, rfl, .inr (.inr ⟨HL.out, by rw [HA.out]; omega, false, O1, .inl ⟨HS.out, by rw [HTj.out, HN.out]; exact HCR.out⟩, .inl ⟨rfl, rfl, rfl⟩⟩), HWk5.out, HBw5.out⟩
        go_wp2
        go_ret
        exact HX.out
      · have y0 : w5.cell? ⟨W.heap.size, 0, none⟩ = some (.int .i64 t.kind) := HB45.out
        cases k5 : (t.kind == 5)
        · have HC : Hid (Calls Tryz.prog 202 #[.pointer (some ⟨gw, 0, none⟩), .int .i64 ((i : Int) + 1), .int .i64 (h - A + P)] w5 fun e w' => ∃ ok O', e = .returned (.bool ok) ∧ ComeR (H.set i h) O1 (i + 1) (h - A + P) ok O' ∧ WkAt w' B gw gm (some ⟨go, 0, none⟩) (some ⟨gh, 0, none⟩) co ch l (H.set i h) O' ∧ w5.grownBy w' (some gm)) := comeTo_any B gw gm _ _ co ch l (H.set i h) O1 (i + 1) (h - A + P) w5 (by omega) HWk5.out
          have HK5 : Hid (t.kind ≠ 5) := by show _ ≠ _; intro e; rw [e] at k5; cases k5
          go_wp2_with fail
          refine HC.out.mono ?_
          rintro e w6 ⟨r, O', rfl, cr, k5', b5⟩
          have HX : Hid (∃ r' O'', Ending.returned (.bool r) = .returned (.bool r') ∧ GoR t (H.set i h) O i h r' O'' ∧ WkAt w6 B gw gm (some ⟨go, 0, none⟩) (some ⟨gh, 0, none⟩) co ch l (H.set i h) O'' ∧ Below B w w6) := ⟨r, O', rfl, .inr (.inr ⟨HL.out, by rw [HA.out]; omega, true, O1, .inl ⟨HS.out, by rw [HTj.out, HN.out]; exact HCR.out⟩, .inr (.inr ⟨rfl, HK5.out, by rw [HN.out]; exact cr⟩)⟩), k5', HBw5.out.trans (HWk5.out.gbelow b5)⟩
          clear cr k5' b5 HC
          go_wp2
          go_ret
          exact HX.out
        · have HK5 : Hid (t.kind = 5) := by show _ = _; simpa using k5
          have HX : Hid (∃ r' O'', Ending.returned (.bool true) = .returned (.bool r') ∧ GoR t (H.set i h) O i h r' O'' ∧ WkAt w5 B gw gm (some ⟨go, 0, none⟩) (some ⟨gh, 0, none⟩) co ch l (H.set i h) O'' ∧ Below B w w5) := ⟨true, O1, rfl, .inr (.inr ⟨HL.out, by rw [HA.out]; omega, true, O1, .inl ⟨HS.out, by rw [HTj.out, HN.out]; exact HCR.out⟩, .inr (.inl ⟨rfl, HK5.out, rfl, rfl⟩)⟩), HWk5.out, HBw5.out⟩
          go_wp2
          go_ret
          exact HX.out
  · have HEe : Hid (E = atEndO t) := by show _ = _; rw [HE.out, HL.out]; rfl
    have HX : Hid (∃ r O', Ending.returned (.bool (h == E)) = .returned (.bool r) ∧ GoR t (H.set i h) O i h r O' ∧ WkAt w2 B gw gm (some ⟨go, 0, none⟩) (some ⟨gh, 0, none⟩) co ch l (H.set i h) O' ∧ Below B w w2) := ⟨h == E, O, rfl, .inl ⟨HL.out, by rw [HEe.out], rfl⟩, HW2.out.below HB2.out, HBW2.out.trans (HB2.out.mono (HLt.out W2 (Below.refl _ _)))⟩
    go_wp2
    go_ret
    exact HX.out
theorem come_first {l : List Opr} {ok : Bool} {O : List (Nat × Int)} (h : ComeR (List.replicate l.length (-1)) [] 0 0 ok O) : (ok = false ∧ NoH l) ∨ (ok = true ∧ 0 < l.length ∧ O = [(0, 0)]) := by
  rcases h with ⟨h1, rfl, rfl⟩ | ⟨g, h1, h2, _, _⟩ | ⟨_, g, h2, _⟩ | ⟨h1, _, rfl, rfl⟩
  · exact .inl ⟨rfl, noH_out (Rch.zero l) (by simpa using h1)⟩
  · rw [List.getElem?_replicate] at h1
    split at h1
    · exact absurd (Option.some.inj h1).symm h2
    · cases h1
  · cases h2
  · refine .inr ⟨rfl, ?_, rfl⟩
    rw [List.getElem?_replicate] at h1
    split at h1
    · assumption
    · cases h1
def AnsGA (B gw gm : Nat) (a0 a1 : Option Addr) (co ch : Nat) (l : List Opr) (w : World) (e : Ending) (w' : World) : Prop :=
  ∃ (r : Bool) (H : List Int) (O : List (Nat × Int)), e = .returned (.bool r) ∧ (r = false → NoH l) ∧ (r = true → IsHgt l H) ∧ WkAt w' B gw gm a0 a1 co ch l H O ∧ Below B w w'
set_option maxRecDepth 100000 in
set_option maxHeartbeats 2000000 in
theorem goThroughAll_any (B gw gm : Nat) (a0 a1 : Option Addr) (co ch : Nat) (l : List Opr) (w : World) (hl : l.length ≤ 200) (hf : ∀ t ∈ l, OpBnd t) (hw : WkAt w B gw gm a0 a1 co ch l (List.replicate l.length (-1)) []) :
    Calls Tryz.prog 159 #[.pointer (some ⟨gw, 0, none⟩)] w fun e w' => AnsGA B gw gm a0 a1 co ch l w e w' := by
  have HC : Hid (Calls Tryz.prog 202 #[.pointer (some ⟨gw, 0, none⟩), .int .i64 0, .int .i64 0] w fun e w' => ∃ ok O', e = .returned (.bool ok) ∧ ComeR (List.replicate l.length (-1)) [] 0 0 ok O' ∧ WkAt w' B gw gm a0 a1 co ch l (List.replicate l.length (-1)) O' ∧ w.grownBy w' (some gm)) := comeTo_any B gw gm a0 a1 co ch l (List.replicate l.length (-1)) [] 0 0 w (by omega) hw
  have HF : Hid (∀ t ∈ l, OpBnd t) := hf
  have HW0 : Hid (WkAt w B gw gm a0 a1 co ch l (List.replicate l.length (-1)) []) := hw
  clear hf hw
  go_enter Tryz.func159, Tryz.ntmps159
  go_wp2_with fail
  go_step3
  go_wp2_with fail
  refine HC.out.mono ?_
  rintro e w1 ⟨ok, O1, rfl, cr, kw, bg⟩
  have HBw : Hid (Below B w w1) := HW0.out.gbelow bg
  have HK1 : Hid (WkAt w1 B gw gm a0 a1 co ch l (List.replicate l.length (-1)) O1) := kw
  clear kw bg HC HW0
  rcases come_first cr with ⟨rfl, hno⟩ | ⟨rfl, hpos, rfl⟩
  · have HX : Hid (AnsGA B gw gm a0 a1 co ch l w (.returned (.bool false)) w1) := ⟨false, _, O1, rfl, fun _ => hno, (fun h => by cases h), HK1.out, HBw.out⟩
    clear cr hno
    go_wp2_with fail
    go_step3
    go_wp2_with fail
    go_loopw [2] (fun v wr => v = .bool false ∧ wr = w1) (fun _ _ => 0)
    case atStart => exact ⟨rfl, rfl⟩
    case round =>
      obtain ⟨rfl, hwr⟩ := hrel
      subst hwr
      go_wp2
      go_ret
      exact HX.out
  · obtain ⟨go, gh, rfl, rfl⟩ := HK1.out.some0 hpos
    have HJ1 : Hid (JP l (List.replicate l.length (-1)) [(0, 0)]) := JP.init hpos
    clear cr
    go_wp2_with fail
    go_step3
    go_wp2_with fail
    go_loopw [2] (fun v wr => v = .bool true ∧ ∃ (H : List Int) (O : List (Nat × Int)), Hid (JP l H O) ∧ Hid (WkAt wr B gw gm (some ⟨go, 0, none⟩) (some ⟨gh, 0, none⟩) co ch l H O) ∧ Hid (Below B w wr)) (fun _ wr => openN (hAt wr gh l.length))
    case atStart => exact ⟨rfl, _, _, HJ1.out, HK1.out, HBw.out⟩
    case round =>
      obtain ⟨rfl, H0, O0, HJ, HK, HB⟩ := hrel
      have HM : Hid (openN (hAt wr gh l.length) = openN H0) := by show _ = _; rw [hAt_own HK.out.len HK.out.hs]
      have c2 := HK.out.c2
      have c0 := HK.out.c0
      have hlen := HK.out.mp.len
      obtain ⟨m, hm⟩ : ∃ m, m = O0.length := ⟨_, rfl⟩
      rw [← hm] at hlen
      by_cases hz : m = 0
      · have hO : O0 = [] := List.length_eq_zero_iff.1 (by omega)
        have HX : Hid (AnsGA B gw gm (some ⟨go, 0, none⟩) (some ⟨gh, 0, none⟩) co ch l w (.returned (.bool true)) wr) := ⟨true, H0, O0, rfl, (fun h => by cases h), fun _ => by have := HJ.out; rw [hO] at this; exact this.done, HK.out, HB.out⟩
        subst hz
        clear hm hO
        go_wp2
        go_ret
        exact HX.out
      · have hmp : (0 : Int) < (m : Int) := by omega
        have HO : Hid (O0 ≠ []) := fun e => by rw [e] at hm; exact hz hm
        clear hm
        obtain ⟨q, rfl⟩ : ∃ q, m = q + 1 := ⟨m - 1, by omega⟩
        clear hz
        go_wp2_with fail
        clear c2 c0 hlen
        go_loopw [2, 22] (fun v k wx => v = .bool true ∧ ∃ (j : Nat) (H : List Int) (O : List (Nat × Int)), j ≤ l.length ∧ k = .int .i64 (j : Int) ∧ Hid (JP l H O) ∧ Hid (WkAt wx B gw gm (some ⟨go, 0, none⟩) (some ⟨gh, 0, none⟩) co ch l H O) ∧ Hid (Below B w wx) ∧ Hid (openN H < openN H0 ∨ (H = H0 ∧ O = O0 ∧ ∀ p ∈ O, j ≤ p.1))) (fun _ k _ => l.length - (RowKit.intOf k).toNat)
        case atStart => exact ⟨rfl, 0, H0, O0, Nat.zero_le _, rfl, HJ.out, HK.out, HB.out, .inr ⟨rfl, rfl, fun p _ => Nat.zero_le _⟩⟩
        case round =>
          obtain ⟨rfl, j, H, O, hj, rfl, HJ2, HK2, HB2, HD⟩ := hrel
          have c2 := HK2.out.c2
          by_cases hlt : j < l.length
          · rcases HK2.out.mp.look j (by omega) with ⟨hno, hr⟩ | ⟨k, g, hk, hr⟩
            · have HD2 : Hid (openN H < openN H0 ∨ (H = H0 ∧ O = O0 ∧ ∀ p ∈ O, j + 1 ≤ p.1)) := by
                rcases HD.out with h | ⟨h1, h2, h3⟩
                · exact .inl h
                · exact .inr ⟨h1, h2, fun p hp => by have := h3 p hp; have := hno p hp; omega⟩
              clear hno HD
              go_wp2
              exact ⟨⟨rfl, j + 1, H, O, by omega, by go_num, HJ2.out, HK2.out, HB2.out, HD2.out⟩, by simp [RowKit.intOf]; omega⟩
            · obtain ⟨w3, hdel, hmp, hgr, -⟩ := HK2.out.mp.drop j g (by omega) HJ2.out.pinv.keys k hk
              have HK3 : Hid (WkAt w3 B gw gm (some ⟨go, 0, none⟩) (some ⟨gh, 0, none⟩) co ch l H (O.eraseIdx k)) := HK2.out.mapped hgr hmp
              have HB3 : Hid (Below B w w3) := HB2.out.trans (HK2.out.gbelow hgr)
              obtain ⟨t, ht⟩ : ∃ t, t = l[j]'hlt := ⟨_, rfl⟩
              have HT : Hid (l[j]? = some t) := by show _ = _; rw [ht]; exact List.getElem?_eq_getElem hlt
              have HBd : Hid (OpBnd t) := HF.out t (by rw [ht]; exact List.getElem_mem hlt)
              have hop := HJ2.out.pinv.opens _ (List.mem_of_getElem? hk)
              have hg0 : 0 ≤ g := hop.2.1
              have hg1 : g ≤ 1000 := by have h5 : g ≤ 2 * ((l.length : Int) - (openN H : Int)) := hop.2.2.2.2; omega
              have HKk : Hid (O[k]? = some (j, g)) := hk
              have HGo : Hid (Calls Tryz.prog 203 #[.pointer (some ⟨gw, 0, none⟩), .int .i64 (j : Int), .int .i64 g] w3 fun e w' => ∃ r O', e = .returned (.bool r) ∧ GoR t (H.set j g) (O.eraseIdx k) j g r O' ∧ WkAt w' B gw gm (some ⟨go, 0, none⟩) (some ⟨gh, 0, none⟩) co ch l (H.set j g) O' ∧ Below B w3 w') := goThrough_any B gw gm _ _ co ch l H (O.eraseIdx k) j g w3 t hl hlt HT.out HBd.out hg0 hg1 HK3.out
              clear hgr hmp ht hop hk
              go_wp2_with fail
              refine HGo.out.mono ?_
              rintro e w4 ⟨r, O', rfl, gr, k4, b4⟩
              have HST : Hid ((r = false → NoH l) ∧ (r = true → JP l (H.set j g) O' ∧ openN (H.set j g) + 1 = openN H)) := go_step HJ2.out HKk.out HT.out (fun hh => (HBd.out.tgt hh).1) HBd.out.take.1 gr
              have HK4 : Hid (WkAt w4 B gw gm (some ⟨go, 0, none⟩) (some ⟨gh, 0, none⟩) co ch l (H.set j g) O') := k4
              have HB4 : Hid (Below B w w4) := HB3.out.trans b4
              clear gr k4 b4 HGo hdel hr c2
              cases r
              · have HX : Hid (AnsGA B gw gm (some ⟨go, 0, none⟩) (some ⟨gh, 0, none⟩) co ch l w (.returned (.bool false)) w4) := ⟨false, _, O', rfl, fun _ => HST.out.1 rfl, (fun h => by cases h), HK4.out, HB4.out⟩
                clear HST
                go_wp2
                go_ret
                exact HX.out
              · have HJ4 : Hid (JP l (H.set j g) O') := (HST.out.2 rfl).1
                have HD2 : Hid (openN (H.set j g) < openN H0 ∨ (H.set j g = H0 ∧ O' = O0 ∧ ∀ p ∈ O', j + 1 ≤ p.1)) := by
                  have h1 := (HST.out.2 rfl).2
                  left
                  rcases HD.out with h | ⟨h2, _, _⟩
                  · omega
                  · rw [h2] at h1 ⊢; omega
                clear HST HD
                go_wp2
                exact ⟨⟨rfl, j + 1, H.set j g, O', by omega, by go_num, HJ4.out, HK4.out, HB4.out, HD2.out⟩, by simp [RowKit.intOf]; omega⟩
          · have HLess : Hid (openN H < openN H0) := by
              rcases HD.out with h | ⟨_, h2, h3⟩
              · exact h
              · exfalso
                cases hO : O with
                | nil => exact HO.out (by rw [← h2, hO])
                | cons p r =>
                  have h4 := h3 p (by rw [hO]; simp)
                  have h5 := (HJ2.out.room p (by rw [hO]; simp)).1
                  omega
            go_wp2
            exact ⟨⟨rfl, H, O, HJ2.out, HK2.out, HB2.out⟩, by rw [HM.out, hAt_own HK2.out.len HK2.out.hs]; exact HLess.out⟩
set_option maxRecDepth 100000 in
set_option maxHeartbeats 1000000 in
theorem leadsOut1_any (t : Opr) (bw gw n co : Nat) (a0 : Option Addr) (w : World) (hb : w.cell? ⟨bw, 0, none⟩ = some (.pointer (some ⟨gw, 0, none⟩))) (hc : w.cell? ⟨gw, 0, none⟩ = some (.slice a0 n co)) :
    Calls Tryz.prog 200 #[t.num, .pointer (some ⟨bw, 0, none⟩)] w fun e w' => e = .returned (.bool (outO1 n t)) ∧ Below w.heap.size w w' := by
  obtain ⟨R, hR⟩ : ∃ R, R = outO1 n t := ⟨_, rfl⟩
  rw [← hR]
  obtain ⟨T, hT⟩ : ∃ T, T = (if hasT t then tgtO t else 0) := ⟨_, rfl⟩
  obtain ⟨S, hS⟩ : ∃ S, S = hasT t := ⟨_, rfl⟩
  have HTg : Hid (∀ x, Calls Tryz.prog 121 #[t.num] x fun e w' => e = .returned (.tuple #[.int .i64 T, .bool S]) ∧ Below x.heap.size x w') := fun x => by rw [hT, hS]; exact target_any t x
  have HPl : Hid (∀ x, Below w.heap.size w x → x.cell? ⟨bw, 0, none⟩ = some (.pointer (some ⟨gw, 0, none⟩)) ∧ Calls Tryz.prog 201 #[.pointer (some ⟨gw, 0, none⟩), .int .i64 T] x fun e w' => e = .returned (.bool (decide (T < (n : Int)))) ∧ w' = x) := fun x hx => ⟨cell_keep hx hb, hasPlace_any gw n co a0 T x (cell_keep hx hc)⟩
  have HR : Hid (R = (S && !(decide (T < (n : Int))))) := by
    show _ = _
    rw [hR, hT, hS]
    unfold outO1
    cases hasT t
    · rfl
    · simp only [Bool.true_and, if_true]
      by_cases h : (n : Int) ≤ tgtO t
      · simp [h]
      · simp [h]; omega
  clear hR hT hS hb hc
  have HB0 : Hid (Below w.heap.size w (w.alloc (.cells #[.int .i64 t.kind, .string t.name, .int .i64 t.a, .int .i64 t.b, .int .i64 t.c, .int .i64 t.d] 184))) := bnew _ _
  go_enter Tryz.func200, Tryz.ntmps200
  go_wp2_with fail
  refine (HTg.out _).mono ?_
  rintro e w1 ⟨rfl, b1⟩
  have HB1 : Hid (Below w.heap.size w w1) := HB0.out.trans (b1.mono (by simp))
  clear b1 HTg HB0
  cases S
  · go_wp2
    go_ret
    exact ⟨by rw [HR.out]; rfl, HB1.out⟩
  · obtain ⟨q0, q1⟩ := HPl.out w1 HB1.out
    have HP2 : Hid (Calls Tryz.prog 201 #[.pointer (some ⟨gw, 0, none⟩), .int .i64 T] w1 fun e w' => e = .returned (.bool (decide (T < (n : Int)))) ∧ w' = w1) := q1
    clear q1 HPl
    obtain ⟨D, hD⟩ : ∃ D, D = decide (T < (n : Int)) := ⟨_, rfl⟩
    rw [← hD] at HP2 HR
    clear hD
    go_wp2_with (go_at_call 201; refine HP2.out.mono ?_; rintro e w' ⟨rfl, hw'⟩; replace hw' := hw'.symm; subst hw')
    go_ret
    exact ⟨by rw [HR.out]; rfl, HB1.out⟩
theorem anyX_hit {α : Type} {p : α → Bool} {l : List α} (k : Nat) (h : k < l.length) (hp : p l[k] = true) : l.any p = true := List.any_eq_true.2 ⟨l[k], List.getElem_mem h, hp⟩
theorem anyX_none {α : Type} {p : α → Bool} {l : List α} (h : ∀ (k : Nat) (hk : k < l.length), k < l.length → p l[k] = false) : l.any p = false := by
  rw [List.any_eq_false]
  intro t ht
  obtain ⟨k, hk, rfl⟩ := List.getElem_of_mem ht
  rw [h k hk hk]; decide
set_option maxRecDepth 100000 in
set_option maxHeartbeats 1000000 in
theorem indexX_any (l : List Opr) (p : Opr → Bool) (a0 : Option Addr) (co B bw : Nat) (w : World) (hl : l.length ≤ 200) (hO : w.ownsRow B 184 6 (.slice a0 l.length co) l.length (cellsX l))
    (hf : ∀ (u : World) (t : Opr), Below w.heap.size w u → Calls Tryz.prog 200 #[t.num, .pointer (some ⟨bw, 0, none⟩)] u fun e w' => e = .returned (.bool (p t)) ∧ Below u.heap.size u w') :
    Calls Tryz.prog 236 #[.slice a0 l.length co, .func (.func 200) #[] #[.pointer (some ⟨bw, 0, none⟩)]] w fun e w' => (∃ k : Int, e = .returned (.int .i64 k) ∧ decide (0 ≤ k) = l.any p) ∧ Below w.heap.size w w' := by
  have HO : Hid (w.ownsRow B 184 6 (.slice a0 l.length co) l.length (cellsX l)) := hO
  have HF : Hid (∀ (u : World) (t : Opr), Below w.heap.size w u → Calls Tryz.prog 200 #[t.num, .pointer (some ⟨bw, 0, none⟩)] u fun e w' => e = .returned (.bool (p t)) ∧ Below u.heap.size u w') := hf
  clear hO hf
  go_enter Tryz.func236, Tryz.ntmps236
  go_wp2_with fail
  go_loopw [8] (fun i wr => ∃ j : Nat, j ≤ l.length ∧ i = .int .i64 (j : Int) ∧ Hid (∀ (k : Nat) (hk : k < l.length), k < j → p l[k] = false) ∧ Hid (Below w.heap.size w wr)) (fun i _ => l.length - (RowKit.intOf i).toNat)
  case atStart => exact ⟨0, Nat.zero_le _, rfl, fun k _ hk => by omega, Below.refl _ _⟩
  case round =>
    obtain ⟨j, hj, rfl, HJ, HB⟩ := hrel
    by_cases hlt : j < l.length
    · obtain ⟨g, c', hv, _, _⟩ := HO.out.form (by omega)
      obtain ⟨rfl, rfl⟩ : a0 = some ⟨g, 0, none⟩ ∧ co = c' := by simp at hv; exact hv
      obtain ⟨q0, q1, q2, q3, q4, q5⟩ := rowX_at (own_below HO.out HB.out) j hlt
      obtain ⟨t, ht⟩ : ∃ t, t = l[j]'hlt := ⟨_, rfl⟩
      rw [← ht] at q0 q1 q2 q3 q4 q5
      have HX : Hid (Calls Tryz.prog 200 #[t.num, .pointer (some ⟨bw, 0, none⟩)] wr fun e w' => e = .returned (.bool (p t)) ∧ Below wr.heap.size wr w') := HF.out wr t HB.out
      obtain ⟨D, hD⟩ : ∃ D, D = p t := ⟨_, rfl⟩
      rw [← hD] at HX
      have HD : Hid (p (l[j]'hlt) = D) := by show _ = _; rw [← ht, hD]
      clear ht hD hv
      cases D
      · have HJ2 : Hid (∀ (k : Nat) (hk : k < l.length), k < j + 1 → p l[k] = false) := fun k hk hkj => by
          by_cases e : k < j
          · exact HJ.out k hk e
          · have : k = j := by omega
            subst this; exact HD.out
        clear HJ
        go_wp2_with fail
        refine HX.out.mono ?_
        rintro e w1 ⟨rfl, b1⟩
        have HB1 : Hid (Below w.heap.size w w1) := HB.out.trans (b1.mono HB.out.size)
        clear b1 HX q0 q1 q2 q3 q4 q5
        go_wp2
        exact ⟨⟨j + 1, by omega, by go_num, HJ2.out, HB1.out⟩, by simp [RowKit.intOf]; omega⟩
      · have HA : Hid (l.any p = true) := anyX_hit j hlt HD.out
        go_wp2_with fail
        refine HX.out.mono ?_
        rintro e w1 ⟨rfl, b1⟩
        have HB1 : Hid (Below w.heap.size w w1) := HB.out.trans (b1.mono HB.out.size)
        clear b1 HX q0 q1 q2 q3 q4 q5
        go_wp2
        go_ret
        exact ⟨⟨(j : Int), rfl, by rw [HA.out]; simp⟩, HB1.out⟩
    · have HA : Hid (l.any p = false) := anyX_none (fun k hk _ => HJ.out k hk (by omega))
      clear HJ
      go_wp2
      go_ret
      exact ⟨⟨-1, rfl, by rw [HA.out]; rfl⟩, HB.out⟩
set_option maxHeartbeats 1000000 in
theorem containsX_any (l : List Opr) (p : Opr → Bool) (a0 : Option Addr) (co B bw : Nat) (w : World) (hl : l.length ≤ 200) (hO : w.ownsRow B 184 6 (.slice a0 l.length co) l.length (cellsX l))
    (hf : ∀ (u : World) (t : Opr), Below w.heap.size w u → Calls Tryz.prog 200 #[t.num, .pointer (some ⟨bw, 0, none⟩)] u fun e w' => e = .returned (.bool (p t)) ∧ Below u.heap.size u w') :
    Calls Tryz.prog 199 #[.slice a0 l.length co, .func (.func 200) #[] #[.pointer (some ⟨bw, 0, none⟩)]] w fun e w' => e = .returned (.bool (l.any p)) ∧ Below w.heap.size w w' := by
  have HI := indexX_any l p a0 co B bw w hl hO hf
  have HI2 : Hid (Calls Tryz.prog 236 #[.slice a0 l.length co, .func (.func 200) #[] #[.pointer (some ⟨bw, 0, none⟩)]] w fun e w' => (∃ k : Int, e = .returned (.int .i64 k) ∧ decide (0 ≤ k) = l.any p) ∧ Below w.heap.size w w') := HI
  clear HI hf hO
  go_enter Tryz.func199, Tryz.ntmps199
  go_wp2_with fail
  refine HI2.out.mono ?_
  rintro e w1 ⟨⟨k, rfl, hk⟩, b1⟩
  have HK : Hid (decide (0 ≤ k) = l.any p) := hk
  have HB : Hid (Below w.heap.size w w1) := b1
  clear hk b1 HI2
  go_wp2
  go_ret
  exact ⟨by rw [← HK.out]; rfl, HB.out⟩
set_option maxRecDepth 100000 in
set_option maxHeartbeats 1000000 in
theorem leadsOut_any (B gw gm : Nat) (a0 a1 : Option Addr) (co ch : Nat) (l : List Opr) (H : List Int) (O : List (Nat × Int)) (w : World) (hl : l.length ≤ 200) (hw : WkAt w B gw gm a0 a1 co ch l H O) :
    Calls Tryz.prog 158 #[.pointer (some ⟨gw, 0, none⟩)] w fun e w' => e = .returned (.bool (leadsOut l)) ∧ Below w.heap.size w w' := by
  obtain ⟨W, hW⟩ : ∃ W, W = w.alloc (.cells #[.pointer (some ⟨gw, 0, none⟩)] 230) := ⟨_, rfl⟩
  have HBW : Hid (Below w.heap.size w W) := by rw [hW]; exact bnew _ _
  have x0 : W.cell? ⟨w.heap.size, 0, none⟩ = some (.pointer (some ⟨gw, 0, none⟩)) := by rw [hW]; simp [go_sem]
  have c0 : W.cell? ⟨gw, 0, none⟩ = some (.slice a0 l.length co) := cell_keep HBW.out hw.c0
  have HC : Hid (Calls Tryz.prog 199 #[.slice a0 l.length co, .func (.func 200) #[] #[.pointer (some ⟨w.heap.size, 0, none⟩)]] W fun e w' => e = .returned (.bool (leadsOut l)) ∧ Below W.heap.size W w') := containsX_any l (outO1 l.length) a0 co B w.heap.size W hl (own_below hw.ops HBW.out) (fun u t hu => leadsOut1_any t w.heap.size gw l.length co a0 u (cell_keep hu x0) (cell_keep hu c0))
  clear hw
  have HW : Hid (W = w.alloc (.cells #[.pointer (some ⟨gw, 0, none⟩)] 230)) := hW
  rw [hW] at x0 c0
  clear hW
  go_enter Tryz.func158, Tryz.ntmps158
  go_wp2_with fail
  rw [← HW.out]
  refine HC.out.mono ?_
  rintro e w1 ⟨rfl, b1⟩
  have HB1 : Hid (Below w.heap.size w w1) := HBW.out.trans (b1.mono HBW.out.size)
  clear b1 HC
  go_wp2
  go_ret
  exact ⟨rfl, HB1.out⟩
structure HeldR (w : World) (B : Nat) (a0 a1 : Option Addr) (co ch : Nat) (l : List Opr) (H : List Int) : Prop where
  ops : w.ownsRow B 184 6 (.slice a0 l.length co) l.length (cellsX l)
  hs : w.ownsRow B 2 1 (.slice a1 l.length ch) l.length (cellsI H)
theorem HeldR.below {w w' : World} {B : Nat} {a0 a1 : Option Addr} {co ch : Nat} {l : List Opr} {H : List Int} (h : HeldR w B a0 a1 co ch l H) (hb : Below w.heap.size w w') : HeldR w' B a0 a1 co ch l H := ⟨own_below h.ops hb, own_below h.hs hb⟩
theorem HeldR.base {w : World} {B B' : Nat} {a0 a1 : Option Addr} {co ch : Nat} {l : List Opr} {H : List Int} (h : HeldR w B a0 a1 co ch l H) (hb : B' ≤ B) : HeldR w B' a0 a1 co ch l H := ⟨own_base h.ops hb, own_base h.hs hb⟩
theorem HeldR.set {w : World} {B : Nat} {a0 a1 : Option Addr} {co ch : Nat} {l : List Opr} {H : List Int} (h : HeldR w B a0 a1 co ch l H) {g j : Nat} (hg : g < B) (u : Value) : HeldR (w.setCell ⟨g, j, none⟩ u) B a0 a1 co ch l H := ⟨own_set_low h.ops hg u, own_set_low h.hs hg u⟩
abbrev heldV (args : Int) (v0 v1 : Value) (ar : Int) : Value := .agg #[.int .i64 args, v0, v1, .int .i64 ar]
def AnsHB (b : Blk) (c : Int) (H : List Int) (w : World) (e : Ending) (w' : World) : Prop :=
  ((c = 1 ∧ e = .returned (.tuple #[heldV 0 (.slice none 0 0) (.slice none 0 0) 0, .int .i64 1])) ∨ (c = 0 ∧ ∃ a0 a1 co ch, e = .returned (.tuple #[heldV b.args (.slice a0 b.ops.length co) (.slice a1 b.ops.length ch) (-1), .int .i64 0]) ∧ HeldR w' w.heap.size a0 a1 co ch b.ops H)) ∧ Below w.heap.size w w'
set_option maxRecDepth 100000 in
set_option maxHeartbeats 2000000 in
theorem holdBlock_any (b : Blk) (c : Int) (H : List Int) (gk B : Nat) (w : World) (h0 : blkFault b = 0) (hO : RowOp w B gk b.ops) (hr : HRel b c H) :
    Calls Tryz.prog 117 #[b.val (.slice (some ⟨gk, 0, none⟩) b.ops.length b.ops.length)] w fun e w' => AnsHB b c H w e w' := by
  obtain ⟨W, hW⟩ : ∃ W, W = (w.alloc (.cells #[.int .i64 b.args, .slice (some ⟨gk, 0, none⟩) b.ops.length b.ops.length] 85)).alloc (.cells #[.int .i64 0, .slice none 0 0, .slice none 0 0, .int .i64 0] 176) := ⟨_, rfl⟩
  have HW : Hid (W = (w.alloc (.cells #[.int .i64 b.args, .slice (some ⟨gk, 0, none⟩) b.ops.length b.ops.length] 85)).alloc (.cells #[.int .i64 0, .slice none 0 0, .slice none 0 0, .int .i64 0] 176)) := hW
  have hb0 : Below w.heap.size w W := by rw [hW]; exact ((Below.refl _ _).alloc (Nat.le_refl _) _).alloc (by simp) _
  have a0 : W.cell? ⟨w.heap.size, 0, none⟩ = some (.int .i64 b.args) := by rw [hW]; simp [go_sem]
  have a1 : W.cell? ⟨w.heap.size, 1, none⟩ = some (.slice (some ⟨gk, 0, none⟩) b.ops.length b.ops.length) := by rw [hW]; simp [go_sem]
  have r0 : W.cell? ⟨w.heap.size + 1, 0, none⟩ = some (.int .i64 0) := by rw [hW]; simp [go_sem]
  have r1 : W.cell? ⟨w.heap.size + 1, 1, none⟩ = some (.slice none 0 0) := by rw [hW]; simp [go_sem]
  have r2 : W.cell? ⟨w.heap.size + 1, 2, none⟩ = some (.slice none 0 0) := by rw [hW]; simp [go_sem]
  have r3 : W.cell? ⟨w.heap.size + 1, 3, none⟩ = some (.int .i64 0) := by rw [hW]; simp [go_sem]
  have rf : ∀ j, W.frozen? ⟨w.heap.size + 1, j, none⟩ = false := fun j => by rw [hW]; simp [go_sem]
  have rl : W.heap.size = w.heap.size + 1 + 1 := by rw [hW]; simp
  have HQ : Hid (∀ u, Below W.heap.size W u → u.cell? ⟨w.heap.size, 0, none⟩ = some (.int .i64 b.args) ∧ u.cell? ⟨w.heap.size + 1, 0, none⟩ = some (.int .i64 0) ∧ u.cell? ⟨w.heap.size + 1, 1, none⟩ = some (.slice none 0 0) ∧ u.cell? ⟨w.heap.size + 1, 2, none⟩ = some (.slice none 0 0) ∧ u.cell? ⟨w.heap.size + 1, 3, none⟩ = some (.int .i64 0) ∧ (∀ j, u.frozen? ⟨w.heap.size + 1, j, none⟩ = false) ∧ w.heap.size + 1 < u.heap.size) := fun u hu => ⟨cell_keep hu a0, cell_keep hu r0, cell_keep hu r1, cell_keep hu r2, cell_keep hu r3, fun j => by rw [(bcell hu).2 _ _ (by omega)]; exact rf j, by have := hu.size; omega⟩
  have HRL : Hid (W.heap.size = w.heap.size + 1 + 1) := rl
  have HB0 : Hid (Below w.heap.size w W) := hb0
  have hbo := blk_ops h0
  have hlen := hbo.1
  have HBd : Hid (∀ t ∈ b.ops, OpBnd t) := fun t ht => opBnd (hbo.2.1 t ht)
  have HNw : Hid (Calls Tryz.prog 157 #[b.val (.slice (some ⟨gk, 0, none⟩) b.ops.length b.ops.length)] W fun e w' => AnsNw b.ops W e w') := newWalk_any b gk B W hlen (hO.below hb0)
  have HNo : Hid ((leadsOut b.ops = true ∨ NoH b.ops) → c = 1) := fun h => (hr.no h0 h).1
  have HYes : Hid (∀ H', leadsOut b.ops = false → IsHgt b.ops H' → c = 0 ∧ H = H') := fun H' h1 h2 => hr.yes h0 h1 h2
  clear hW hO hb0 r0 r1 r2 r3 rf rl hbo hr h0
  go_enter Tryz.func117, Tryz.ntmps117
  go_wp2_with fail
  rw [← HW.out]
  clear HW a0 a1
  refine HNw.out.mono ?_
  rintro e w1 ⟨gw, gm, v0, v1, co, ch, rfl, wk, b1⟩
  have HK1 : Hid (WkAt w1 W.heap.size gw gm v0 v1 co ch b.ops (List.replicate b.ops.length (-1)) []) := wk
  have HB1 : Hid (Below W.heap.size W w1) := b1
  clear b1 HNw wk
  have HLo : Hid (Calls Tryz.prog 158 #[.pointer (some ⟨gw, 0, none⟩)] w1 fun e w' => e = .returned (.bool (leadsOut b.ops)) ∧ Below w1.heap.size w1 w') := leadsOut_any W.heap.size gw gm v0 v1 co ch b.ops _ [] w1 hlen HK1.out
  obtain ⟨L, hL⟩ : ∃ L, L = leadsOut b.ops := ⟨_, rfl⟩
  rw [← hL] at HLo
  have HL : Hid (leadsOut b.ops = L) := hL.symm
  clear hL
  go_wp2_with fail
  refine HLo.out.mono ?_
  rintro e w2 ⟨rfl, b2⟩
  have HK2 : Hid (WkAt w2 W.heap.size gw gm v0 v1 co ch b.ops (List.replicate b.ops.length (-1)) []) := HK1.out.below b2
  have HB2 : Hid (Below W.heap.size W w2) := HB1.out.trans (b2.mono HB1.out.size)
  clear b2 HLo HK1 HB1
  cases L
  · have HGa : Hid (Calls Tryz.prog 159 #[.pointer (some ⟨gw, 0, none⟩)] w2 fun e w' => AnsGA W.heap.size gw gm v0 v1 co ch b.ops w2 e w') := goThroughAll_any W.heap.size gw gm v0 v1 co ch b.ops w2 hlen HBd.out HK2.out
    go_wp2_with fail
    refine HGa.out.mono ?_
    rintro e w3 ⟨r, H3, O3, rfl, n3, y3, k3, b3⟩
    have HN3 : Hid (r = false → NoH b.ops) := n3
    have HY3 : Hid (r = true → IsHgt b.ops H3) := y3
    have HK3 : Hid (WkAt w3 W.heap.size gw gm v0 v1 co ch b.ops H3 O3) := k3
    have HB3 : Hid (Below W.heap.size W w3) := HB2.out.trans b3
    have HBw : Hid (Below w.heap.size w w3) := HB0.out.trans (HB3.out.mono HB0.out.size)
    clear n3 y3 k3 b3 HGa HK2 HB2
    obtain ⟨x0, q0, q1, q2, q3, qf, ql⟩ := HQ.out w3 HB3.out
    cases r
    · have HC : Hid (c = 1) := HNo.out (.inr (HN3.out rfl))
      clear HN3 HY3 HYes HNo HQ
      go_wp2
      exact bodyPost_ret (v := .tuple #[heldV 0 (.slice none 0 0) (.slice none 0 0) 0, .int .i64 1]) (by simp [results, Tryz.results117, go_sem, q0, q1, q2, q3]) rfl ⟨.inl ⟨HC.out, rfl⟩, by repeat (first | refine Below.setCell ?_ (by simp) _ | exact HBw.out)⟩
    · have HC : Hid (c = 0 ∧ H = H3) := HYes.out H3 HL.out (HY3.out rfl)
      have d0 := HK3.out.c0
      have d1 := HK3.out.c1
      have hg1 : w.heap.size + 1 ≠ gw := by have := HK3.out.lo1; have := HRL.out; omega
      have hg2 : gw ≠ w.heap.size + 1 := fun e => hg1 e.symm
      have hg3 : w.heap.size ≠ w.heap.size + 1 := by omega
      have hg4 : w.heap.size + 1 ≠ w.heap.size := by omega
      clear HN3 HY3 HYes HNo HQ
      go_wp2_with fail
      go_region_held3 (fun u => u.cell? ⟨w.heap.size, 0, none⟩ = some (.int .i64 b.args) ∧ u.cell? ⟨gw, 0, none⟩ = some (.slice v0 b.ops.length co) ∧ u.cell? ⟨gw, 1, none⟩ = some (.slice v1 b.ops.length ch)) (go_keep) (fail)
      all_goals
        go_wp2
        refine bodyPost_ret (v := .tuple #[heldV b.args (.slice v0 b.ops.length co) (.slice v1 b.ops.length ch) (-1), .int .i64 0]) (by simp [results, Tryz.results117, go_sem, q0, q1, q2, q3]) rfl ⟨.inr ⟨HC.out.1, v0, v1, co, ch, rfl, ?_⟩, ?_⟩
        · rw [HC.out.2]
          have hh : HeldR w3 W.heap.size v0 v1 co ch b.ops H3 := ⟨HK3.out.ops, HK3.out.hs⟩
          have hlo : w.heap.size + 1 < W.heap.size := by rw [HRL.out]; omega
          exact (((((hh.below (Below.drew (Below.refl _ _))).set hlo _).set hlo _).set hlo _).set hlo _).base (by omega)
        · repeat (first | refine Below.setCell ?_ (by simp) _ | refine Below.drew ?_ | exact HBw.out)
  · have HC : Hid (c = 1) := HNo.out (.inl HL.out)
    have HBw : Hid (Below w.heap.size w w2) := HB0.out.trans (HB2.out.mono HB0.out.size)
    obtain ⟨x0, q0, q1, q2, q3, qf, ql⟩ := HQ.out w2 HB2.out
    clear HNo HYes HQ
    go_wp2
    exact bodyPost_ret (v := .tuple #[heldV 0 (.slice none 0 0) (.slice none 0 0) 0, .int .i64 1]) (by simp [results, Tryz.results117, go_sem, q0, q1, q2, q3]) rfl ⟨.inl ⟨HC.out, rfl⟩, by repeat (first | refine Below.setCell ?_ (by simp) _ | exact HBw.out)⟩
end Go.Proofs.YtoafolefecddmaaGreatDoor
