/-
  Parts of the proof laid into one text, one behind the other; each says at its head what is proved in it.
-/
import Derived.Test.YtoljpgpkeploiaaDoorReadKit
import Derived.Deep.RegionLaw
import Derived.Deep.DrawnRows
import Derived.Deep.CutRange
import Derived.Test.YtoljpgpkeploiaaDoorTok
import Derived.Deep.RegionHeld3
/-
  The model's l3Put, l3Begin, l3Whole, l3Token and l3Read: data that are read of tokens; nothing that was there is turned but the reader.
-/
namespace Go.Proofs.YtoljpgpkeploiaaDoor
open Go.RowKit Go.Extern.Stop Go.Stop Go.Extern Num Go.Lib

attribute [local go_sem ↓] Go.wp_at_zero Go.wp_at_succ
/-- Whose part the next datum is. -/
def topP (O : List Int) : Int := O.getLast?.getD (-1)
theorem topP_nil : topP [] = -1 := rfl
theorem topP_in (P : List Int) (q : Int) : topP (P ++ [q]) = q := by simp [topP]
theorem putRes {w U w1 : World} {B r g' c' H : Nat} {vD vO vQ : Value} {D : List Dat} {O : List Int} {Q : List Bool} {t : Dat} (h : RdAt w B r vD vO vQ D O Q) (hB : B ≤ w.heap.size) (hb : Below w.heap.size w U) (hg : U.grownBy w1 vD.ownBlock)
    (hown : w1.ownsRow B 51 4 (.slice (some ⟨g', 0, none⟩) (D.length + 1) c') (D.length + 1) (cellsD D ++ [.int .i64 t.kind, .int .i64 t.parent, .int .i64 t.num, .string t.name])) (hat : vD.ownBlock = some g' ∨ g' = H) (hH : U.heap.size = H) :
    Rd (w1.setCell ⟨r, 0, none⟩ (.slice (some ⟨g', 0, none⟩) (D.length + 1) c')) B r (D ++ [t]) O Q ∧ Below B w (w1.setCell ⟨r, 0, none⟩ (.slice (some ⟨g', 0, none⟩) (D.length + 1) c')) := by
  have hr := h.hr
  have hsz := hb.size
  refine ⟨⟨_, vO, vQ, (h.keep hb).data (D' := D ++ [t]) hg ?_ ?_⟩, ?_⟩
  · rw [cellsD_append, List.length_append]; exact hown
  · intro g hgg
    have : g = g' := by simp [Value.ownBlock] at hgg; omega
    subst this
    rcases hat with h1 | h1
    · exact Or.inl h1
    · right; omega
  · exact Below.setCell ((hb.mono hB).grown hg (by omega) (fun k hk => (h.fD.2.1.lt k hk).1)) (by simpa using hr) _
theorem put_many (B r : Nat) (D : List Dat) (O : List Int) (Q : List Bool) (k p n : Int) (z : ByteArray) (w : World) (h : Rd w B r D O Q) (hf : 80 ≤ D.length) :
    Calls Tryd.prog 91 #[.pointer (some ⟨r, 0, none⟩), .agg #[.int .i64 k, .int .i64 p, .int .i64 n, .string z]] w fun e w' => e = .returned (.int .i64 2) ∧ Below w.heap.size w w' := by
  obtain ⟨vD, vO, vQ, h⟩ := h
  obtain ⟨aD, cD, rfl⟩ := own_form h.fD.2.1
  obtain ⟨aO, cO, rfl⟩ := own_form h.fO.2.1
  have c0 := h.fD.1
  have c1 := h.fO.1
  have hlt := h.fD.lt
  have hb : (80 : Int) ≤ (D.length : Int) := by omega
  clear h
  go_enter Tryd.func91, Tryd.ntmps91
  go_wp2
  go_ret
  exact ⟨rfl, by repeat (first | exact Below.refl _ _ | refine Below.setCell ?_ (by simp) _ | refine Below.alloc ?_ (by simp <;> omega) _)⟩
theorem put_deep (B r : Nat) (D : List Dat) (O : List Int) (Q : List Bool) (k p n : Int) (z : ByteArray) (w : World) (h : Rd w B r D O Q) (hd : D.length < 80) (hf : 12 ≤ O.length) :
    Calls Tryd.prog 91 #[.pointer (some ⟨r, 0, none⟩), .agg #[.int .i64 k, .int .i64 p, .int .i64 n, .string z]] w fun e w' => e = .returned (.int .i64 2) ∧ Below w.heap.size w w' := by
  obtain ⟨vD, vO, vQ, h⟩ := h
  obtain ⟨aD, cD, rfl⟩ := own_form h.fD.2.1
  obtain ⟨aO, cO, rfl⟩ := own_form h.fO.2.1
  have c0 := h.fD.1
  have c1 := h.fO.1
  have hlt := h.fD.lt
  have hb0 : ¬ (80 : Int) ≤ (D.length : Int) := by omega
  have hb : (12 : Int) ≤ (O.length : Int) := by omega
  clear h
  go_enter Tryd.func91, Tryd.ntmps91
  go_wp2
  go_ret
  exact ⟨rfl, by repeat (first | exact Below.refl _ _ | refine Below.setCell ?_ (by simp) _ | refine Below.alloc ?_ (by simp <;> omega) _)⟩
set_option maxRecDepth 100000 in
set_option maxHeartbeats 2000000 in
theorem put_top (B r : Nat) (D : List Dat) (Q : List Bool) (k p n : Int) (z : ByteArray) (w : World) (h : Rd w B r D [] Q) (hB : B ≤ w.heap.size) (hd : D.length < 80) :
    Calls Tryd.prog 91 #[.pointer (some ⟨r, 0, none⟩), .agg #[.int .i64 k, .int .i64 p, .int .i64 n, .string z]] w fun e w' => e = .returned (.int .i64 0) ∧ Rd w' B r (D ++ [⟨k, -1, n, z⟩]) [] Q ∧ Below B w w' := by
  obtain ⟨vD, vO, vQ, h⟩ := h
  obtain ⟨aD, cD, rfl⟩ := own_form h.fD.2.1
  obtain ⟨aO, cO, rfl⟩ := own_form h.fO.2.1
  have c0 := h.fD.1
  have c1 := h.fO.1
  have fz := h.fz
  have hlt := h.fD.lt
  have hb0 : ¬ (80 : Int) ≤ (D.length : Int) := by omega
  have HH : Hid _ := h
  obtain ⟨i0, hi, hz0, hz1, hz2⟩ := info_parts infoD
  simp only [List.length_nil] at c1
  clear h
  go_enter Tryd.func91, Tryd.ntmps91
  go_wp2_with fail
  have ag : (Value.slice aD D.length cD).ownBlock ≠ some r := fun e => HH.out.fD.2.2 r e rfl
  have HO : Hid (w.ownsRow B 51 4 (.slice aD D.length cD) D.length (cellsD D)) := HH.out.fD.2.1
  go_region_law
    ((refine step_append_lies _ (by rfl) _ _ _ (by rfl) B 51 i0 _ 4 40 Tryd.underlying25 hi hz0 hz1 hz2 rfl (by decide) (.slice aD D.length cD) D.length (cellsD D) (by rfl) (by repeat (first | exact HO.out | refine World.ownsRow.alloc ?_ _ | refine World.ownsRow.drew ?_))
        ⟨w.heap.size + 1, 0, none⟩ 1 1 [.int .i64 k, .int .i64 (-1), .int .i64 n, .string z] (by rfl) (by rfl) (World.news_of_block (cs := #[.int .i64 k, .int .i64 (-1), .int .i64 n, .string z]) (t := 51) (fr := (0, 0)) (heap_new' _ _ _ (by simp))) (by simp [Value.oneCell'])
        (by decide) (by unfold maxLen; omega) (by omega) (by simp; omega) (w.heap.size + 2) (by simp) ?_; intro g' cap' w1 hown1 hgrow hat hlt'; obtain ⟨k1, k2⟩ := afterGrow (w := w) (by repeat (first | exact Below.refl _ _ | refine Below.drew ?_ | refine Below.alloc ?_ (by simp <;> omega) _)) c0 (fz 0) hgrow ag))
  all_goals
    have R : Hid _ := putRes (t := ⟨k, -1, n, z⟩) HH.out hB (by repeat (first | exact Below.refl _ _ | refine Below.drew ?_ | refine Below.alloc ?_ (by simp <;> omega) _)) hgrow hown1 hat (by simp)
    clear hgrow hown1 hat k1 k2
    go_wp2
    go_ret
    exact ⟨rfl, R.out.1, R.out.2⟩
set_option maxRecDepth 100000 in
set_option maxHeartbeats 2000000 in
theorem put_in (B r : Nat) (D : List Dat) (P : List Int) (q : Int) (Q : List Bool) (k p n : Int) (z : ByteArray) (w : World) (h : Rd w B r D (P ++ [q]) Q) (hB : B ≤ w.heap.size) (hd : D.length < 80) (hO : P.length < 11) :
    Calls Tryd.prog 91 #[.pointer (some ⟨r, 0, none⟩), .agg #[.int .i64 k, .int .i64 p, .int .i64 n, .string z]] w fun e w' => e = .returned (.int .i64 0) ∧ Rd w' B r (D ++ [⟨k, q, n, z⟩]) (P ++ [q]) Q ∧ Below B w w' := by
  obtain ⟨vD, vO, vQ, h⟩ := h
  obtain ⟨aD, cD, rfl⟩ := own_form h.fD.2.1
  obtain ⟨aO, cO, rfl⟩ := own_form h.fO.2.1
  have c0 := h.fD.1
  have c1 := h.fO.1
  have fz := h.fz
  have hlt := h.fD.lt
  have hb0 : ¬ (80 : Int) ≤ (D.length : Int) := by omega
  have HH : Hid _ := h
  obtain ⟨i0, hi, hz0, hz1, hz2⟩ := info_parts infoD
  have hlen : (P ++ [q]).length = P.length + 1 := by simp
  obtain ⟨gO, cO', hv, _, _⟩ := h.fO.2.1.form (by omega)
  obtain ⟨rfl, rfl⟩ : aO = some ⟨gO, 0, none⟩ ∧ cO = cO' := by simp at hv; exact hv
  have cq : w.cell? ⟨gO, P.length, none⟩ = some (.int .i64 q) := by
    have := rowI_at h.fO.2.1 P.length (by omega)
    simpa using this
  have gq := lt_of_cell cq
  rw [hlen] at c1
  have hb1 : ¬ (12 : Int) ≤ ((P.length + 1 : Nat) : Int) := by omega
  have hb2 : (0 : Int) < ((P.length + 1 : Nat) : Int) := by omega
  have hb3 : ((P.length + 1 : Nat) : Int) - 1 = (P.length : Int) := by omega
  clear hv
  clear h
  go_enter Tryd.func91, Tryd.ntmps91
  go_wp2_with fail
  have ag : (Value.slice aD D.length cD).ownBlock ≠ some r := fun e => HH.out.fD.2.2 r e rfl
  have HO : Hid (w.ownsRow B 51 4 (.slice aD D.length cD) D.length (cellsD D)) := HH.out.fD.2.1
  go_region_law
    ((refine step_append_lies _ (by rfl) _ _ _ (by rfl) B 51 i0 _ 4 40 Tryd.underlying25 hi hz0 hz1 hz2 rfl (by decide) (.slice aD D.length cD) D.length (cellsD D) (by rfl) (by repeat (first | exact HO.out | refine World.ownsRow.alloc ?_ _ | refine World.ownsRow.drew ?_))
        ⟨w.heap.size + 1, 0, none⟩ 1 1 [.int .i64 k, .int .i64 q, .int .i64 n, .string z] (by rfl) (by rfl) (World.news_of_block (cs := #[.int .i64 k, .int .i64 q, .int .i64 n, .string z]) (t := 51) (fr := (0, 0)) (heap_new' _ _ _ (by simp))) (by simp [Value.oneCell'])
        (by decide) (by unfold maxLen; omega) (by omega) (by simp; omega) (w.heap.size + 2) (by simp) ?_; intro g' cap' w1 hown1 hgrow hat hlt'; obtain ⟨k1, k2⟩ := afterGrow (w := w) (by repeat (first | exact Below.refl _ _ | refine Below.drew ?_ | refine Below.alloc ?_ (by simp <;> omega) _)) c0 (fz 0) hgrow ag))
  all_goals
    have R : Hid _ := putRes (t := ⟨k, q, n, z⟩) HH.out hB (by repeat (first | exact Below.refl _ _ | refine Below.drew ?_ | refine Below.alloc ?_ (by simp <;> omega) _)) hgrow hown1 hat (by simp)
    clear hgrow hown1 hat k1 k2
    go_wp2
    go_ret
    exact ⟨rfl, R.out.1, R.out.2⟩
end Go.Proofs.YtoljpgpkeploiaaDoor
/-
  The model's l3Put at once, and l3Begin: a list begins.
-/
namespace Go.Proofs.YtoljpgpkeploiaaDoor
open Go.RowKit Go.Extern.Stop Go.Stop Go.Extern Num Go.Lib

attribute [local go_sem ↓] Go.wp_at_zero Go.wp_at_succ
theorem Rd.keep {w w1 : World} {B r : Nat} {D : List Dat} {O : List Int} {Q : List Bool} (h : Rd w B r D O Q) (hb : Below w.heap.size w w1) : Rd w1 B r D O Q := by
  obtain ⟨a, b, c, h⟩ := h
  exact ⟨a, b, c, h.keep hb⟩
/-- Whether no datum more goes in. -/
def fullB (D : List Dat) (O : List Int) : Bool := decide (80 ≤ D.length) || decide (12 ≤ O.length)
theorem full_no {D : List Dat} {O : List Int} (h : fullB D O = false) : D.length < 80 ∧ O.length < 12 := by
  simp [fullB] at h; omega
theorem l3Put_no (B r : Nat) (D : List Dat) (O : List Int) (Q : List Bool) (k p n : Int) (z : ByteArray) (w : World) (h : Rd w B r D O Q) (hf : fullB D O = true) :
    Calls Tryd.prog 91 #[.pointer (some ⟨r, 0, none⟩), .agg #[.int .i64 k, .int .i64 p, .int .i64 n, .string z]] w fun e w' => e = .returned (.int .i64 2) ∧ Below w.heap.size w w' := by
  by_cases h80 : 80 ≤ D.length
  · exact put_many B r D O Q k p n z w h h80
  · refine put_deep B r D O Q k p n z w h (by omega) ?_
    simp [fullB] at hf; omega
theorem l3Put_ok (B r : Nat) (D : List Dat) (O : List Int) (Q : List Bool) (k p n : Int) (z : ByteArray) (w : World) (h : Rd w B r D O Q) (hB : B ≤ w.heap.size) (hf : fullB D O = false) :
    Calls Tryd.prog 91 #[.pointer (some ⟨r, 0, none⟩), .agg #[.int .i64 k, .int .i64 p, .int .i64 n, .string z]] w fun e w' => e = .returned (.int .i64 0) ∧ Rd w' B r (D ++ [⟨k, topP O, n, z⟩]) O Q ∧ Below B w w' := by
  obtain ⟨h1, h2⟩ := full_no hf
  rcases List.eq_nil_or_concat O with rfl | ⟨P, q, rfl⟩
  · rw [topP_nil]; exact put_top B r D Q k p n z w h hB h1
  · rw [List.concat_eq_append] at h h2 ⊢
    rw [topP_in]; exact put_in B r D P q Q k p n z w h hB h1 (by simp at h2; omega)
theorem opnRes {w U w1 : World} {B r g' c' H : Nat} {vD vO vQ : Value} {D : List Dat} {O : List Int} {Q : List Bool} {x : Int} (h : RdAt w B r vD vO vQ D O Q) (hB : B ≤ w.heap.size) (hb : Below w.heap.size w U) (hg : U.grownBy w1 vO.ownBlock)
    (hown : w1.ownsRow B 2 1 (.slice (some ⟨g', 0, none⟩) (O.length + 1) c') (O.length + 1) (cellsI O ++ [.int .i64 x])) (hat : vO.ownBlock = some g' ∨ g' = H) (hH : U.heap.size = H) :
    Rd (w1.setCell ⟨r, 1, none⟩ (.slice (some ⟨g', 0, none⟩) (O.length + 1) c')) B r D (O ++ [x]) Q ∧ Below B w (w1.setCell ⟨r, 1, none⟩ (.slice (some ⟨g', 0, none⟩) (O.length + 1) c')) := by
  have hr := h.hr
  have hsz := hb.size
  refine ⟨⟨vD, _, vQ, (h.keep hb).opn (O' := O ++ [x]) hg ?_ ?_⟩, ?_⟩
  · rw [cellsI_append, List.length_append]; exact hown
  · intro g hgg
    have : g = g' := by simp [Value.ownBlock] at hgg; omega
    subst this
    rcases hat with h1 | h1
    · exact Or.inl h1
    · right; omega
  · exact Below.setCell ((hb.mono hB).grown hg (by omega) (fun k hk => (h.fO.2.1.lt k hk).1)) (by simpa using hr) _
theorem quoRes {w U w1 : World} {B r g' c' H : Nat} {vD vO vQ : Value} {D : List Dat} {O : List Int} {Q : List Bool} {x : Bool} (h : RdAt w B r vD vO vQ D O Q) (hB : B ≤ w.heap.size) (hb : Below w.heap.size w U) (hg : U.grownBy w1 vQ.ownBlock)
    (hown : w1.ownsRow B 4 1 (.slice (some ⟨g', 0, none⟩) (Q.length + 1) c') (Q.length + 1) (cellsB Q ++ [.bool x])) (hat : vQ.ownBlock = some g' ∨ g' = H) (hH : U.heap.size = H) :
    Rd (w1.setCell ⟨r, 2, none⟩ (.slice (some ⟨g', 0, none⟩) (Q.length + 1) c')) B r D O (Q ++ [x]) ∧ Below B w (w1.setCell ⟨r, 2, none⟩ (.slice (some ⟨g', 0, none⟩) (Q.length + 1) c')) := by
  have hr := h.hr
  have hsz := hb.size
  refine ⟨⟨vD, vO, _, (h.keep hb).quo (Q' := Q ++ [x]) hg ?_ ?_⟩, ?_⟩
  · rw [cellsB_append, List.length_append]; exact hown
  · intro g hgg
    have : g = g' := by simp [Value.ownBlock] at hgg; omega
    subst this
    rcases hat with h1 | h1
    · exact Or.inl h1
    · right; omega
  · exact Below.setCell ((hb.mono hB).grown hg (by omega) (fun k hk => (h.fQ.2.1.lt k hk).1)) (by simpa using hr) _
theorem wrapLen (n : Nat) (h : n < 1000) : IntKind.i64.wrap (n : Int) = (n : Int) := by
  rw [IntKind.wrap_i64]
  omega
theorem begin_no (B r : Nat) (D : List Dat) (O : List Int) (Q : List Bool) (b : Bool) (w : World) (h : Rd w B r D O Q) (hf : fullB D O = true) :
    Calls Tryd.prog 89 #[.pointer (some ⟨r, 0, none⟩), .bool b] w fun e w' => e = .returned (.int .i64 2) ∧ Below w.heap.size w w' := by
  have HP : Hid (∀ k p n z u, Below w.heap.size w u → Calls Tryd.prog 91 #[.pointer (some ⟨r, 0, none⟩), .agg #[.int .i64 k, .int .i64 p, .int .i64 n, .string z]] u fun e w' => e = .returned (.int .i64 2) ∧ Below u.heap.size u w') := fun k p n z u hu => l3Put_no B r D O Q k p n z u (h.keep hu) hf
  clear h hf
  go_enter Tryd.func89, Tryd.ntmps89
  go_wp2_with fail
  refine (HP.out _ _ _ _ _ (Below.refl _ _)).mono ?_
  rintro e w' ⟨rfl, hb⟩
  go_wp2
  go_ret
  exact ⟨rfl, hb⟩
set_option maxRecDepth 100000 in
set_option maxHeartbeats 4000000 in
/-- A list that begins, up to where a quote's name goes in. -/
theorem begin_ok (B r : Nat) (D : List Dat) (O : List Int) (Q : List Bool) (b : Bool) (w : World) (h : Rd w B r D O Q) (hB : B ≤ w.heap.size) (hf : fullB D O = false) (hQ : Q.length = O.length) (c : Int) (X : World → World → Prop)
    (hX0 : b = false → ∀ u, B ≤ u.heap.size → Rd u B r (D ++ [⟨4, topP O, 0, ⟨#[]⟩⟩]) (O ++ [(D.length : Int)]) (Q ++ [b]) → c = 0 ∧ X u u)
    (hX : b = true → ∀ u, B ≤ u.heap.size → Rd u B r (D ++ [⟨4, topP O, 0, ⟨#[]⟩⟩]) (O ++ [(D.length : Int)]) (Q ++ [b]) → Calls Tryd.prog 91 #[.pointer (some ⟨r, 0, none⟩), .agg #[.int .i64 3, .int .i64 0, .int .i64 0, .string ⟨#[113, 117, 111, 116, 101]⟩]] u (fun e w' => e = .returned (.int .i64 c) ∧ X u w' ∧ Below B u w')) :
    Calls Tryd.prog 89 #[.pointer (some ⟨r, 0, none⟩), .bool b] w fun e w' => e = .returned (.int .i64 c) ∧ (∃ u, X u w') ∧ Below B w w' := by
  obtain ⟨hd, hO⟩ := full_no hf
  have hql : Q.length < 12 := by omega
  clear hQ
  have HP : Hid (Calls Tryd.prog 91 #[.pointer (some ⟨r, 0, none⟩), .agg #[.int .i64 4, .int .i64 0, .int .i64 0, .string ⟨#[]⟩]] w fun e w' => e = .returned (.int .i64 0) ∧ Rd w' B r (D ++ [⟨4, topP O, 0, ⟨#[]⟩⟩]) O Q ∧ Below B w w') := l3Put_ok B r D O Q 4 0 0 ⟨#[]⟩ w h hB hf
  have HX : Hid (b = true → ∀ u, B ≤ u.heap.size → Rd u B r (D ++ [⟨4, topP O, 0, ⟨#[]⟩⟩]) (O ++ [(D.length : Int)]) (Q ++ [b]) → Calls Tryd.prog 91 #[.pointer (some ⟨r, 0, none⟩), .agg #[.int .i64 3, .int .i64 0, .int .i64 0, .string ⟨#[113, 117, 111, 116, 101]⟩]] u (fun e w' => e = .returned (.int .i64 c) ∧ X u w' ∧ Below B u w')) := hX
  have HX0 : Hid _ := hX0
  obtain ⟨D1, hD1⟩ : ∃ D1, D1 = D ++ [(⟨4, topP O, 0, ⟨#[]⟩⟩ : Dat)] := ⟨_, rfl⟩
  rw [← hD1] at HP HX HX0
  have HWr : Hid (IntKind.i64.wrap (D.length : Int) = (D.length : Int)) := wrapLen D.length (by omega)
  have hl1 : D1.length = D.length + 1 := by rw [hD1]; simp
  clear h hf hX hX0 hD1
  go_enter Tryd.func89, Tryd.ntmps89
  go_wp2_with fail
  refine HP.out.mono ?_
  rintro e w1 ⟨rfl, h1, b1⟩
  have HR1 : Hid _ := h1
  have HB1 : Hid (Below B w w1) := b1
  have hz1 : B ≤ w1.heap.size := Nat.le_trans hB b1.size
  clear h1 b1 HP
  go_wp2_with fail
  go_cut [] from 7 to 300 (fun wx => Hid (Rd wx B r D1 (O ++ [(D.length : Int)]) Q) ∧ Hid (Below B w wx))
  case first =>
    obtain ⟨vD, vO, vQ, h⟩ := HR1.out
    have HH : Hid _ := h
    obtain ⟨aD, cD, rfl⟩ := own_form h.fD.2.1
    obtain ⟨aO, cO, rfl⟩ := own_form h.fO.2.1
    have c0 := h.fD.1
    have c1 := h.fO.1
    have fz := h.fz
    have hlt := h.fD.lt
    have ag : (Value.slice aO O.length cO).ownBlock ≠ some r := fun e => h.fO.2.2 r e rfl
    have HO : Hid (w1.ownsRow B 2 1 (.slice aO O.length cO) O.length (cellsI O)) := h.fO.2.1
    obtain ⟨i0, hi, hz0, hz1', hz2⟩ := info_parts infoI
    rw [hl1] at c0
    clear h
    go_region_law
      ((refine step_append_lies _ (by rfl) _ _ _ (by rfl) B 2 i0 _ 1 8 Tryd.underlying39 hi hz0 hz1' hz2 rfl (by decide) (.slice aO O.length cO) O.length (cellsI O) (by rfl) (by repeat (first | exact HO.out | refine World.ownsRow.alloc ?_ _ | refine World.ownsRow.drew ?_))
              ⟨w1.heap.size, 0, none⟩ 1 1 [.int .i64 (IntKind.i64.wrap (D.length : Int))] (by rfl) (by rfl) (World.news_of_block (cs := #[.int .i64 (IntKind.i64.wrap (D.length : Int))]) (t := 2) (fr := (0, 0)) (heap_new' _ _ _ (by simp))) (by simp [Value.oneCell'])
              (by decide) (by unfold maxLen; omega) (by omega) (by simp; omega) (w1.heap.size + 1) (by simp) ?_; intro g' cap' w2 hown1 hgrow hat hlt'; obtain ⟨k1, k2⟩ := afterGrow (w := w1) (by repeat (first | exact Below.refl _ _ | refine Below.drew ?_ | refine Below.alloc ?_ (by simp <;> omega) _)) c1 (fz 1) hgrow ag))
    all_goals
      have R0 := opnRes (x := IntKind.i64.wrap (D.length : Int)) HH.out hz1 (by repeat (first | exact Below.refl _ _ | refine Below.drew ?_ | refine Below.alloc ?_ (by simp <;> omega) _)) hgrow hown1 hat (by simp)
      rw [HWr.out] at R0
      have R : Hid _ := R0
      clear hgrow hown1 hat k1 k2 R0
      go_wp2_with fail
      go_meet
      exact ⟨R.out.1, HB1.out.trans R.out.2⟩
  case rest =>
    obtain ⟨HR2, HB2⟩ := hcut
    have hz2 : B ≤ wc.heap.size := Nat.le_trans hB HB2.out.size
    clear HR1 HB1 hz1
    obtain ⟨vD, vO, vQ, h⟩ := HR2.out
    have HH : Hid _ := h
    obtain ⟨aQ, cQ, rfl⟩ := own_form h.fQ.2.1
    have c1 := h.fQ.1
    have fz := h.fz
    have hlt := h.fD.lt
    have ag : (Value.slice aQ Q.length cQ).ownBlock ≠ some r := fun e => h.fQ.2.2 r e rfl
    have HO : Hid (wc.ownsRow B 4 1 (.slice aQ Q.length cQ) Q.length (cellsB Q)) := h.fQ.2.1
    obtain ⟨i0, hi, hz0, hz1', hz2'⟩ := info_parts infoB
    clear h
    go_wp2_with (at_builtin; refine wpList_append_lies _ rfl (.tmp 31) (.tmp 33) 94 rfl B 4 i0 _ 1 1 Tryd.underlying94 hi hz0 hz1' hz2' rfl (by decide) _ Q.length (cellsB Q) rfl (HO.out.alloc _) ⟨_, 0, none⟩ 1 1 [.bool b] rfl rfl ?c1 ?c2 (by decide) ?c3 ?c4 ?c5 _ rfl ?_)
    case c1 => exact newsI (heap_new' _ _ _ (by simp))
    case c2 => intro u hu; simp at hu; subst hu; rfl
    case c3 => unfold maxLen; omega
    case c4 => omega
    case c5 => simp; omega
    intro g' cap' w2 hown1 hgrow hat _
    obtain ⟨k1, k2⟩ := afterGrow (w := wc) ((Below.refl _ _).alloc (Nat.le_refl _) _) c1 (fz 2) hgrow ag
    have R : Hid _ := quoRes (x := b) HH.out hz2 ((Below.refl _ _).alloc (Nat.le_refl _) _) hgrow hown1 hat (by simp)
    clear hgrow hown1 hat
    have hz3 : B ≤ (w2.setCell ⟨r, 2, none⟩ (.slice (some ⟨g', 0, none⟩) (Q.length + 1) cap')).heap.size := Nat.le_trans hz2 R.out.2.size
    have HB3 : Hid _ := HB2.out.trans R.out.2
    cases b with
    | false =>
      have HX2 : Hid _ := HX0.out rfl _ hz3 R.out.1
      clear hz3 R HX HX0
      go_wp2
      go_ret
      exact ⟨by rw [HX2.out.1]; rfl, ⟨_, HX2.out.2⟩, HB3.out⟩
    | true =>
      clear HX0
      have HX3 : Hid (Calls Tryd.prog 91 #[.pointer (some ⟨r, 0, none⟩), .agg #[.int .i64 3, .int .i64 0, .int .i64 0, .string ⟨#[113, 117, 111, 116, 101]⟩]] (w2.setCell ⟨r, 2, none⟩ (.slice (some ⟨g', 0, none⟩) (Q.length + 1) cap')) (fun e w' => e = .returned (.int .i64 c) ∧ X (w2.setCell ⟨r, 2, none⟩ (.slice (some ⟨g', 0, none⟩) (Q.length + 1) cap')) w' ∧ Below B (w2.setCell ⟨r, 2, none⟩ (.slice (some ⟨g', 0, none⟩) (Q.length + 1) cap')) w')) := HX.out rfl _ hz3 R.out.1
      clear hz3 R HX
      go_wp2_with fail
      refine HX3.out.mono ?_
      rintro e w3 ⟨rfl, hx, hb⟩
      go_wp2
      go_ret
      exact ⟨rfl, ⟨_, hx⟩, HB3.out.trans hb⟩
end Go.Proofs.YtoljpgpkeploiaaDoor
/-
  The model's l3Whole: lists that end behind a datum that is whole.
-/
namespace Go.Proofs.YtoljpgpkeploiaaDoor
open Go.RowKit Go.Extern.Stop Go.Stop Go.Extern Num Go.Lib

attribute [local go_sem ↓] Go.wp_at_zero Go.wp_at_succ
def wholeF : Nat → List Int → List Bool → List Int × List Bool
  | 0, O, Q => (O, Q)
  | f + 1, O, Q => if Q.getLast? = some true then wholeF f O.dropLast Q.dropLast else (O, Q)
def whole (O : List Int) (Q : List Bool) : List Int × List Bool := wholeF O.length O Q
theorem whole_nil (Q : List Bool) : whole [] Q = ([], Q) := rfl
theorem whole_on (O : List Int) (Q : List Bool) (x : Int) : whole (O ++ [x]) (Q ++ [true]) = whole O Q := by
  simp [whole, wholeF]
theorem whole_off (O : List Int) (Q : List Bool) (x : Int) : whole (O ++ [x]) (Q ++ [false]) = (O ++ [x], Q ++ [false]) := by
  simp [whole, wholeF]
theorem own_cap {w : World} {base g cap : Nat} {e : TypeId} {size n : Nat} {xs : List Value} (h : w.ownsRow base e size (.slice (some ⟨g, 0, none⟩) n cap) n xs) : n ≤ cap := by
  rcases h.2 with ⟨hv, _⟩ | ⟨g', cap', cur, hv, _, _, hn, _⟩
  · cases hv
  · cases hv; exact hn
theorem popO {w : World} {B r gO cO : Nat} {vD vQ : Value} {D : List Dat} {O : List Int} {x : Int} {Q : List Bool} (h : RdAt w B r vD (.slice (some ⟨gO, 0, none⟩) (O.length + 1) cO) vQ D (O ++ [x]) Q) :
    RdAt (w.setCell ⟨r, 1, none⟩ (.slice (some ⟨gO, 0, none⟩) O.length cO)) B r vD (.slice (some ⟨gO, 0, none⟩) O.length cO) vQ D O Q := by
  refine h.opn (gb_refl _ _) ?_ (fun g hg => Or.inl hg)
  have h1 := h.fO.2.1
  rw [cellsI_append, List.length_append] at h1
  exact ownsRow_pop (by simp [cellsI]) h1
theorem popQ {w : World} {B r gQ cQ : Nat} {vD vO : Value} {D : List Dat} {O : List Int} {x : Bool} {Q : List Bool} (h : RdAt w B r vD vO (.slice (some ⟨gQ, 0, none⟩) (Q.length + 1) cQ) D O (Q ++ [x])) :
    RdAt (w.setCell ⟨r, 2, none⟩ (.slice (some ⟨gQ, 0, none⟩) Q.length cQ)) B r vD vO (.slice (some ⟨gQ, 0, none⟩) Q.length cQ) D O Q := by
  refine h.quo (gb_refl _ _) ?_ (fun g hg => Or.inl hg)
  have h1 := h.fQ.2.1
  rw [cellsB_append, List.length_append] at h1
  exact ownsRow_pop (by simp [cellsB]) h1
/-- The two rows behind their last, laid open. -/
theorem RdAt.open2 {w : World} {B r : Nat} {D : List Dat} {O : List Int} {x : Int} {Q : List Bool} {y : Bool} (h : Rd w B r D (O ++ [x]) (Q ++ [y])) :
    ∃ vD gO cO gQ cQ, RdAt w B r vD (.slice (some ⟨gO, 0, none⟩) (O.length + 1) cO) (.slice (some ⟨gQ, 0, none⟩) (Q.length + 1) cQ) D (O ++ [x]) (Q ++ [y]) ∧ O.length + 1 ≤ cO ∧ Q.length + 1 ≤ cQ ∧ w.cell? ⟨gQ, Q.length, none⟩ = some (.bool y) := by
  obtain ⟨vD, vO, vQ, h⟩ := h
  obtain ⟨gO, cO, hvO, _, _⟩ := h.fO.2.1.form (by simp)
  obtain ⟨gQ, cQ, hvQ, _, _⟩ := h.fQ.2.1.form (by simp)
  have e1 : (O ++ [x]).length = O.length + 1 := by simp
  have e2 : (Q ++ [y]).length = Q.length + 1 := by simp
  rw [e1] at hvO
  rw [e2] at hvQ
  subst hvO hvQ
  have hcO : O.length + 1 ≤ cO := own_cap (e1 ▸ h.fO.2.1)
  have hcQ : Q.length + 1 ≤ cQ := own_cap (e2 ▸ h.fQ.2.1)
  refine ⟨vD, gO, cO, gQ, cQ, h, by omega, by omega, ?_⟩
  have h1 := h.fQ.2.1
  have := rowB_at (l := Q ++ [y]) (by rw [e2]; rw [e2] at h1; exact h1) Q.length (by simp)
  simpa using this
def lenAt (r : Nat) (w : World) : Nat := match w.cell? ⟨r, 1, none⟩ with
  | some (.slice _ n _) => n
  | _ => 0
theorem lenAt_of {w : World} {B r : Nat} {D : List Dat} {O : List Int} {Q : List Bool} (h : Rd w B r D O Q) : lenAt r w = O.length := by
  obtain ⟨vD, vO, vQ, h⟩ := h
  obtain ⟨a, c, hv⟩ := own_form h.fO.2.1
  have := h.fO.1
  rw [hv] at this
  simp [lenAt, this]
set_option maxRecDepth 100000 in
set_option maxHeartbeats 2000000 in
theorem l3Whole_any (B r : Nat) (D : List Dat) (O : List Int) (Q : List Bool) (w : World) (h : Rd w B r D O Q) (hQ : Q.length = O.length) (hO : O.length ≤ 12) :
    Calls Tryd.prog 90 #[.pointer (some ⟨r, 0, none⟩)] w fun e w' => e = .returned (.tuple #[]) ∧ Rd w' B r D (whole O Q).1 (whole O Q).2 ∧ Below B w w' := by
  obtain ⟨RW, hR⟩ : ∃ RW, RW = whole O Q := ⟨_, rfl⟩
  rw [← hR]
  have HS : Hid (Rd w B r D O Q) := h
  have HQ : Hid (Q.length = O.length) := hQ
  have HR : Hid (RW = whole O Q) := hR
  clear h hQ hR
  go_enter Tryd.func90, Tryd.ntmps90
  go_wp2_with fail
  go_loopw [] (fun wr => ∃ (O' : List Int) (Q' : List Bool), O'.length ≤ 12 ∧ Hid (Rd wr B r D O' Q') ∧ Hid (Q'.length = O'.length) ∧ Hid (whole O' Q' = RW) ∧ Hid (Below B w wr)) (fun wr => lenAt r wr)
  case atStart => exact ⟨O, Q, hO, HS.out, HQ.out, HR.out.symm, Below.refl _ _⟩
  case round =>
    obtain ⟨O', Q', hO', HS', HQ', HR', HB⟩ := hrel
    have hrB : B ≤ r := by obtain ⟨_, _, _, h⟩ := HS'.out; exact h.hr
    rcases List.eq_nil_or_concat O' with rfl | ⟨P, x, rfl⟩
    · obtain ⟨vD, vO, vQ, h⟩ := HS'.out
      obtain ⟨aO, cO, rfl⟩ := own_form h.fO.2.1
      have a1 : ∀ p : BW wr, p.x.cell? ⟨r, 1, none⟩ = some (.slice aO 0 cO) := fun p => p.cell h.fO.1
      have hne := bw_some wr
      clear h
      go_wp2_with fail
      refine wp_region_below (by kernel_rfl) (by kernel_rfl) ?_
      repeat (go_big_quiet_step (fail))
      refine wpQuiet_nil ?_
      intro wq hw'
      obtain ⟨⟨_, bq⟩, rfl⟩ := hw'
      have HB2 : Hid _ := HB.out.trans ((bq.mono (Nat.le_of_lt (by obtain ⟨_, _, _, h⟩ := HS'.out; have := h.fD.lt; omega))))
      have HS2 : Hid _ := HS'.out.keep bq
      clear bq a1 hne
      go_wp2
      have e := HR'.out
      rw [whole_nil] at e
      rw [← e]
      exact bodyPost_end (v := .tuple #[]) (by simp [results, Tryd.results90]) rfl ⟨rfl, HS2.out, HB2.out⟩
    · rw [List.concat_eq_append] at HS' HQ' HR' hO'
      obtain ⟨P2, y, rfl⟩ : ∃ P2 y, Q' = P2 ++ [y] := by
        rcases List.eq_nil_or_concat Q' with rfl | ⟨P2, y, rfl⟩
        · have := HQ'.out; simp at this
        · exact ⟨P2, y, List.concat_eq_append⟩
      have hP : P.length < 12 := by simp at hO'; omega
      have hlen : P2.length = P.length := by have := HQ'.out; simp at this; omega
      have hP2 : P2.length < 12 := by omega
      have HLen : Hid (P2.length = P.length) := hlen
      obtain ⟨vD, gO, cO, gQ, cQ, h, hcO, hcQ, cy⟩ := RdAt.open2 HS'.out
      have a1 : ∀ p : BW wr, p.x.cell? ⟨r, 1, none⟩ = some (.slice (some ⟨gO, 0, none⟩) (P.length + 1) cO) := fun p => p.cell h.fO.1
      have a2 : ∀ p : BW wr, p.x.cell? ⟨r, 2, none⟩ = some (.slice (some ⟨gQ, 0, none⟩) (P2.length + 1) cQ) := fun p => p.cell h.fQ.1
      have a3 : ∀ p : BW wr, p.x.cell? ⟨gQ, P2.length, none⟩ = some (.bool y) := fun p => p.cell cy
      have hne := bw_some wr
      have HSz : Hid (lenAt r wr = P.length + 1) := by have e := lenAt_of HS'.out; rw [List.length_append] at e; exact e
      have HH0 : Hid (RdAt wr B r vD (.slice (some ⟨gO, 0, none⟩) (P.length + 1) cO) (.slice (some ⟨gQ, 0, none⟩) (P2.length + 1) cQ) D (P ++ [x]) (P2 ++ [y])) := h
      clear h hlen cy
      go_wp2_with fail
      refine wp_region_below (by kernel_rfl) (by kernel_rfl) ?_
      repeat (go_big_quiet_step (fail))
      refine wpQuiet_nil ?_
      intro wq hw'
      obtain ⟨⟨_, bq⟩, rfl⟩ := hw'
      have HB2 : Hid _ := HB.out.trans ((bq.mono (Nat.le_of_lt (by have := HH0.out.fD.lt; omega))))
      have HH : Hid _ := HH0.out.keep bq
      have c1 := HH.out.fO.1
      have c2 := HH.out.fQ.1
      have fz := HH.out.fz
      have hlt := HH.out.fD.lt
      clear bq a1 a2 a3 hne HH0
      cases y with
      | false =>
        go_wp2
        have e := HR'.out
        rw [whole_off] at e
        rw [← e]
        exact bodyPost_end (v := .tuple #[]) (by simp [results, Tryd.results90]) rfl ⟨rfl, ⟨_, _, _, HH.out⟩, HB2.out⟩
      | true =>
        go_wp2
        go_cut [] from 22 to 49 (fun wx => Hid (RdAt wx B r vD (.slice (some ⟨gO, 0, none⟩) P.length cO) (.slice (some ⟨gQ, 0, none⟩) (P2.length + 1) cQ) D P (P2 ++ [true])) ∧ Hid (Below B w wx))
        case first =>
          have hwO := wrapLen P.length (by omega)
          have hn1 : (0 : Int) ≤ (P.length : Int) := by omega
          have hn2 : (P.length : Int) ≤ (cO : Int) := by omega
          have hn3 : (P.length : Int) ≤ ((P.length + 1 : Nat) : Int) := by omega
          go_region_law (fail)
          all_goals
            have R : Hid _ := popO (HH.out.keep (Below.drew (Below.refl _ _)))
            have RB : Hid (Below B w (wq.drew.setCell ⟨r, 1, none⟩ (.slice (some ⟨gO, 0, none⟩) P.length cO))) := Below.setCell HB2.out.drew (by simpa using hrB) _
            go_wp2_with fail
            go_meet
            exact ⟨R.out, RB.out⟩
        case rest =>
          obtain ⟨HH3, HB3⟩ := hcut
          clear HH HB2 c1 c2 fz hlt
          have c2 := HH3.out.fQ.1
          have fz := HH3.out.fz
          have hlt := HH3.out.fD.lt
          go_wp2_with fail
          have hwO := wrapLen P2.length (by omega)
          have hn1 : (0 : Int) ≤ (P2.length : Int) := by omega
          have hn2 : (P2.length : Int) ≤ (cQ : Int) := by omega
          have hn3 : (P2.length : Int) ≤ ((P2.length + 1 : Nat) : Int) := by omega
          go_region_law (fail)
          all_goals
            have R : Hid _ := (popQ HH3.out).keep (Below.drew (Below.refl _ _))
            have RB : Hid (Below B w (wc.setCell ⟨r, 2, none⟩ (.slice (some ⟨gQ, 0, none⟩) P2.length cQ)).drew) := (Below.setCell HB3.out (by simpa using hrB) _).drew
            have HW2 : Hid (whole P P2 = RW) := by have := HR'.out; rw [whole_on] at this; exact this
            have HL2 : Hid (lenAt r (wc.setCell ⟨r, 2, none⟩ (.slice (some ⟨gQ, 0, none⟩) P2.length cQ)).drew = P.length) := lenAt_of ⟨_, _, _, R.out⟩
            go_wp2_with fail
            exact ⟨⟨P, P2, by omega, ⟨_, _, _, R.out⟩, HLen.out, HW2.out, RB.out⟩, by rw [HL2.out, HSz.out]; omega⟩
end Go.Proofs.YtoljpgpkeploiaaDoor
/-
  The model's l3Begin at once, and l3Token: a token read.
-/
namespace Go.Proofs.YtoljpgpkeploiaaDoor
open Go.RowKit Go.Extern.Stop Go.Stop Go.Extern Num Go.Lib

attribute [local go_sem ↓] Go.wp_at_zero Go.wp_at_succ
/-- The reader's state. -/
structure RS where
  D : List Dat
  O : List Int
  Q : List Bool
def quoteZ : ByteArray := ⟨#[113, 117, 111, 116, 101]⟩
def lstS (s : RS) (b : Bool) : RS := ⟨s.D ++ [⟨4, topP s.O, 0, ⟨#[]⟩⟩], s.O ++ [(s.D.length : Int)], s.Q ++ [b]⟩
def putS (s : RS) (k n : Int) (z : ByteArray) : Option RS := if fullB s.D s.O = true then none else some ⟨s.D ++ [⟨k, topP s.O, n, z⟩], s.O, s.Q⟩
def beginS (s : RS) (b : Bool) : Option RS := if fullB s.D s.O = true then none else if b = true then putS (lstS s true) 3 0 quoteZ else some (lstS s false)
def wholeS (s : RS) : RS := ⟨s.D, (whole s.O s.Q).1, (whole s.O s.Q).2⟩
def RdS (w : World) (B r : Nat) (s : RS) : Prop := Rd w B r s.D s.O s.Q
/-- What a step of the reader answers. -/
def Step (c : Int) (o : Option RS) (w : World) (B r : Nat) (e : Ending) (w' : World) : Prop :=
  Below B w w' ∧ match o with
  | none => e = .returned (.int .i64 c)
  | some s => e = .returned (.int .i64 0) ∧ RdS w' B r s
theorem l3Put_any (B r : Nat) (s : RS) (k p n : Int) (z : ByteArray) (w : World) (h : RdS w B r s) (hB : B ≤ w.heap.size) :
    Calls Tryd.prog 91 #[.pointer (some ⟨r, 0, none⟩), .agg #[.int .i64 k, .int .i64 p, .int .i64 n, .string z]] w fun e w' => Step 2 (putS s k n z) w B r e w' := by
  unfold putS
  cases hf : fullB s.D s.O with
  | true =>
    refine (l3Put_no B r s.D s.O s.Q k p n z w h hf).mono ?_
    rintro e w' ⟨rfl, hb⟩
    exact ⟨hb.mono hB, rfl⟩
  | false =>
    refine (l3Put_ok B r s.D s.O s.Q k p n z w h hB hf).mono ?_
    rintro e w' ⟨rfl, h1, hb⟩
    exact ⟨hb, rfl, h1⟩
theorem l3Begin_any (B r : Nat) (s : RS) (b : Bool) (w : World) (h : RdS w B r s) (hB : B ≤ w.heap.size) (hQ : s.Q.length = s.O.length) :
    Calls Tryd.prog 89 #[.pointer (some ⟨r, 0, none⟩), .bool b] w fun e w' => Step 2 (beginS s b) w B r e w' := by
  unfold beginS
  cases hf : fullB s.D s.O with
  | true =>
    refine (begin_no B r s.D s.O s.Q b w h hf).mono ?_
    rintro e w' ⟨rfl, hb⟩
    exact ⟨hb.mono hB, rfl⟩
  | false =>
    cases b with
    | false =>
      refine (begin_ok B r s.D s.O s.Q false w h hB hf hQ 0 (fun _ w' => RdS w' B r (lstS s false)) (fun _ u _ hu => ⟨rfl, hu⟩) (fun hb => by cases hb)).mono ?_
      rintro e w' ⟨rfl, ⟨_, hx⟩, hb⟩
      exact ⟨hb, rfl, hx⟩
    | true =>
      cases hp : putS (lstS s true) 3 0 quoteZ with
      | none =>
        refine (begin_ok B r s.D s.O s.Q true w h hB hf hQ 2 (fun _ _ => True) (fun hb => by cases hb) (fun _ u hu hr => ?_)).mono ?_
        · refine (l3Put_any B r (lstS s true) 3 0 0 quoteZ u hr hu).mono ?_
          rw [hp]
          rintro e w' ⟨hb, rfl⟩
          exact ⟨rfl, trivial, hb⟩
        · rintro e w' ⟨rfl, _, hb⟩
          simp only [Bool.false_eq_true, if_false, if_true]
          exact ⟨hb, rfl⟩
      | some s' =>
        refine (begin_ok B r s.D s.O s.Q true w h hB hf hQ 0 (fun _ w' => RdS w' B r s') (fun hb => by cases hb) (fun _ u hu hr => ?_)).mono ?_
        · refine (l3Put_any B r (lstS s true) 3 0 0 quoteZ u hr hu).mono ?_
          rw [hp]
          rintro e w' ⟨hb, rfl, hs⟩
          exact ⟨rfl, hs, hb⟩
        · rintro e w' ⟨rfl, ⟨_, hx⟩, hb⟩
          simp only [Bool.false_eq_true, if_false, if_true]
          exact ⟨hb, rfl, hx⟩
/-- A reader that stands well. -/
def RS.ok (s : RS) : Prop := s.Q.length = s.O.length ∧ s.O.length ≤ 12
theorem putS_ok {s s' : RS} {k n : Int} {z : ByteArray} (h : s.ok) (hp : putS s k n z = some s') : s'.ok := by
  unfold putS at hp
  split at hp
  · cases hp
  · cases hp; exact h
theorem lstS_ok {s : RS} {b : Bool} (h : s.ok) (hf : ¬ fullB s.D s.O = true) : (lstS s b).ok := by
  have := full_no (by simpa using hf)
  obtain ⟨h1, h2⟩ := h
  refine ⟨?_, ?_⟩ <;> simp [lstS] <;> omega
theorem beginS_ok {s s' : RS} {b : Bool} (h : s.ok) (hp : beginS s b = some s') : s'.ok := by
  unfold beginS at hp
  split at hp
  · cases hp
  · rename_i hf
    split at hp
    · exact putS_ok (lstS_ok h hf) hp
    · cases hp; exact lstS_ok h hf
theorem wholeF_ok : ∀ (f : Nat) (O : List Int) (Q : List Bool), Q.length = O.length → O.length ≤ 12 → (wholeF f O Q).2.length = (wholeF f O Q).1.length ∧ (wholeF f O Q).1.length ≤ 12 := by
  intro f
  induction f with
  | zero => intro O Q h1 h2; exact ⟨h1, h2⟩
  | succ f ih =>
    intro O Q h1 h2
    unfold wholeF
    split
    · exact ih _ _ (by simp; omega) (by simp; omega)
    · exact ⟨h1, h2⟩
theorem wholeS_ok {s : RS} (h : s.ok) : (wholeS s).ok := wholeF_ok _ _ _ h.1 h.2
end Go.Proofs.YtoljpgpkeploiaaDoor
/-
  The model's l3Token: a token read.
-/
namespace Go.Proofs.YtoljpgpkeploiaaDoor
open Go.RowKit Go.Extern.Stop Go.Stop Go.Extern Num Go.Lib

attribute [local go_sem ↓] Go.wp_at_zero Go.wp_at_succ
/-- A token read: the code if it does not go in, and the reader behind it. -/
def tokS (s : RS) (t : Tok) : Int × Option RS :=
  if t.kind = 1 then (2, beginS s false) else if t.kind = 3 then (2, beginS s true)
  else if t.kind = 2 then (1, if s.O = [] ∨ s.Q.getLast? = some true then none else some (wholeS ⟨s.D, s.O.dropLast, s.Q.dropLast⟩))
  else (2, (putS s (t.kind - 3) t.num t.name).map wholeS)
def TokCell (w : World) (b o : Nat) (t : Tok) : Prop := w.cell? ⟨b, o, none⟩ = some (.int .i64 t.kind) ∧ w.cell? ⟨b, o + 1, none⟩ = some (.int .i64 t.num) ∧ w.cell? ⟨b, o + 2, none⟩ = some (.string t.name)
theorem tok_begin (B r b o : Nat) (s : RS) (t : Tok) (w : World) (h : RdS w B r s) (hs : s.ok) (hB : B ≤ w.heap.size) (ht : TokCell w b o t) (q : Bool) (hk : t.kind = if q = true then 3 else 1) :
    Calls Tryd.prog 63 #[.pointer (some ⟨r, 0, none⟩), .pointer (some ⟨b, o, none⟩)] w fun e w' => Step 2 (beginS s q) w B r e w' := by
  have HP : Hid (Calls Tryd.prog 89 #[.pointer (some ⟨r, 0, none⟩), .bool q] w fun e w' => Step 2 (beginS s q) w B r e w') := l3Begin_any B r s q w h hB hs.1
  obtain ⟨c0, c1, c2⟩ := ht
  obtain ⟨o', ho⟩ : ∃ o', o' = beginS s q := ⟨_, rfl⟩
  rw [← ho] at HP ⊢
  clear h hs ho
  cases q with
  | false =>
    rw [hk] at c0
    simp only [Bool.false_eq_true, if_false] at c0
    clear hk
    go_enter Tryd.func63, Tryd.ntmps63
    go_wp2_with fail
    refine HP.out.mono ?_
    rintro e w' ⟨hb, hx⟩
    cases o' with
    | none =>
      obtain rfl := hx
      go_wp2
      go_ret
      exact ⟨hb, rfl⟩
    | some s' =>
      obtain ⟨rfl, hx⟩ := hx
      have HX : Hid (RdS w' B r s') := hx
      clear hx
      go_wp2
      go_ret
      exact ⟨hb, rfl, HX.out⟩
  | true =>
    rw [hk] at c0
    simp only [if_true] at c0
    clear hk
    go_enter Tryd.func63, Tryd.ntmps63
    go_wp2_with fail
    refine HP.out.mono ?_
    rintro e w' ⟨hb, hx⟩
    cases o' with
    | none =>
      obtain rfl := hx
      go_wp2
      go_ret
      exact ⟨hb, rfl⟩
    | some s' =>
      obtain ⟨rfl, hx⟩ := hx
      have HX : Hid (RdS w' B r s') := hx
      clear hx
      go_wp2
      go_ret
      exact ⟨hb, rfl, HX.out⟩
set_option maxRecDepth 100000 in
set_option maxHeartbeats 4000000 in
theorem tok_leaf (B r b o : Nat) (s : RS) (t : Tok) (w : World) (h : RdS w B r s) (hs : s.ok) (hB : B ≤ w.heap.size) (ht : TokCell w b o t) (h4 : 4 ≤ t.kind) (h6 : t.kind ≤ 6) :
    Calls Tryd.prog 63 #[.pointer (some ⟨r, 0, none⟩), .pointer (some ⟨b, o, none⟩)] w fun e w' => Step 2 ((putS s (t.kind - 3) t.num t.name).map wholeS) w B r e w' := by
  obtain ⟨k, n, z⟩ := t
  obtain ⟨c0, c1, c2⟩ := ht
  simp only at c0 c1 c2 h4 h6 ⊢
  have HP : Hid (∀ u, Below w.heap.size w u → Calls Tryd.prog 91 #[.pointer (some ⟨r, 0, none⟩), .agg #[.int .i64 (k - 3), .int .i64 0, .int .i64 n, .string z]] u fun e w' => Step 2 (putS s (k - 3) n z) u B r e w') := fun u hu => l3Put_any B r s (k - 3) 0 n z u (h.keep hu) (Nat.le_trans hB hu.size)
  obtain ⟨o', ho⟩ : ∃ o', o' = putS s (k - 3) n z := ⟨_, rfl⟩
  have HO : Hid (∀ s', o' = some s' → s'.ok) := fun s' e => putS_ok hs (ho.symm.trans e)
  rw [← ho] at HP ⊢
  have hk1 : (k == 1) = false := by rw [beq_eq_false_iff_ne]; omega
  have hk2 : (k == 2) = false := by rw [beq_eq_false_iff_ne]; omega
  have hk3 : (k == 3) = false := by rw [beq_eq_false_iff_ne]; omega
  clear h hs ho
  have hlb : b < w.heap.size := lt_of_cell c0
  have hwr : IntKind.i64.wrap (k - 3) = k - 3 := by rw [IntKind.wrap_i64]; omega
  have hW : Hid (∀ (s' : RS) (u : World), o' = some s' → RdS u B r s' → Calls Tryd.prog 90 #[.pointer (some ⟨r, 0, none⟩)] u fun e w' => e = .returned (.tuple #[]) ∧ RdS w' B r (wholeS s') ∧ Below B u w') := fun s' u e hu => l3Whole_any B r s'.D s'.O s'.Q u hu (HO.out s' e).1 (HO.out s' e).2
  clear HO
  go_enter Tryd.func63, Tryd.ntmps63
  go_wp2_with fail
  go_cut [6] from 8 to 90 (fun v wx => ∃ H, v = .pointer (some ⟨H, 0, none⟩) ∧ wx.cell? ⟨H, 0, none⟩ = some (.int .i64 (k - 3)) ∧ wx.cell? ⟨H, 1, none⟩ = some (.int .i64 0) ∧ wx.cell? ⟨H, 2, none⟩ = some (.int .i64 n) ∧ wx.cell? ⟨H, 3, none⟩ = some (.string z) ∧ Hid (Below w.heap.size w wx))
  case first =>
    have n0 := World.new_ne w _ c0
    have n1 := World.new_ne w _ c1
    have n2 := World.new_ne w _ c2
    go_region_held3 (fun x => x.cell? ⟨b, o, none⟩ = some (.int .i64 k) ∧ x.cell? ⟨b, o + 1, none⟩ = some (.int .i64 n) ∧ x.cell? ⟨b, o + 2, none⟩ = some (.string z)) (go_keep) (fail)
    all_goals
      go_wp2_with fail
      go_meet
      exact ⟨w.heap.size, rfl, by simp, by simp, by simp, by simp, ((Below.refl _ _).alloc (Nat.le_refl _) _).drew⟩
  case rest =>
    obtain ⟨H, rfl, d0, d1, d2, d3, HB⟩ := hcut
    go_wp2_with fail
    refine (HP.out _ HB.out).mono ?_
    rintro e w' ⟨hb, hx⟩
    have HB2 : Hid (Below B w w') := (HB.out.mono hB).trans hb
    clear hb
    cases o' with
    | none =>
      obtain rfl := hx
      go_wp2
      go_ret
      exact ⟨HB2.out, rfl⟩
    | some s' =>
      obtain ⟨rfl, hx⟩ := hx
      have HX : Hid (RdS w' B r s') := hx
      clear hx
      go_wp2_with fail
      refine (hW.out s' _ rfl HX.out).mono ?_
      rintro e w2 ⟨rfl, hy, hb⟩
      have HY : Hid (RdS w2 B r (wholeS s')) := hy
      have HB3 : Hid (Below B w w2) := HB2.out.trans hb
      clear hy hb
      go_wp2
      go_ret
      exact ⟨HB3.out, rfl, HY.out⟩
end Go.Proofs.YtoljpgpkeploiaaDoor
/-
  The model's l3Token at a token that ends a list, and at every token.
-/
namespace Go.Proofs.YtoljpgpkeploiaaDoor
open Go.RowKit Go.Extern.Stop Go.Stop Go.Extern Num Go.Lib

attribute [local go_sem ↓] Go.wp_at_zero Go.wp_at_succ
set_option maxRecDepth 100000 in
set_option maxHeartbeats 4000000 in
theorem close_none (B r b o : Nat) (D : List Dat) (Q : List Bool) (n : Int) (z : ByteArray) (w : World) (h : Rd w B r D [] Q) (ht : TokCell w b o ⟨2, n, z⟩) :
    Calls Tryd.prog 63 #[.pointer (some ⟨r, 0, none⟩), .pointer (some ⟨b, o, none⟩)] w fun e w' => e = .returned (.int .i64 1) ∧ Below B w w' := by
  obtain ⟨c0, c1, c2⟩ := ht
  simp only at c0 c1 c2
  obtain ⟨vD, vO, vQ, h⟩ := h
  obtain ⟨aO, cO, rfl⟩ := own_form h.fO.2.1
  have d1 := h.fO.1
  simp only [List.length_nil] at d1
  clear h
  have hlb : b < w.heap.size := lt_of_cell c0
  have hlr : r < w.heap.size := lt_of_cell d1
  go_enter Tryd.func63, Tryd.ntmps63
  go_wp2
  go_ret
  exact ⟨rfl, by repeat (first | exact Below.refl _ _ | refine Below.drew ?_ | refine Below.alloc ?_ (by simp <;> omega) _)⟩
set_option maxRecDepth 100000 in
set_option maxHeartbeats 4000000 in
theorem close_quote (B r b o : Nat) (D : List Dat) (P : List Int) (x : Int) (P2 : List Bool) (n : Int) (z : ByteArray) (w : World) (h : Rd w B r D (P ++ [x]) (P2 ++ [true])) (hl : P2.length = P.length) (hP : P.length < 12) (ht : TokCell w b o ⟨2, n, z⟩) :
    Calls Tryd.prog 63 #[.pointer (some ⟨r, 0, none⟩), .pointer (some ⟨b, o, none⟩)] w fun e w' => e = .returned (.int .i64 1) ∧ Below B w w' := by
  obtain ⟨c0, c1, c2⟩ := ht
  simp only at c0 c1 c2
  obtain ⟨vD, gO, cO, gQ, cQ, h, hcO, hcQ, cy⟩ := RdAt.open2 h
  have d1 := h.fO.1
  have d2 := h.fQ.1
  rw [hl] at d2 cy
  clear h hl
  have hlb : b < w.heap.size := lt_of_cell c0
  have hlr : r < w.heap.size := lt_of_cell d1
  have hlq : gQ < w.heap.size := lt_of_cell cy
  go_enter Tryd.func63, Tryd.ntmps63
  go_wp2
  go_ret
  exact ⟨rfl, by repeat (first | exact Below.refl _ _ | refine Below.drew ?_ | refine Below.alloc ?_ (by simp <;> omega) _)⟩
set_option maxRecDepth 100000 in
set_option maxHeartbeats 4000000 in
theorem close_ok (B r b o : Nat) (D : List Dat) (P : List Int) (x : Int) (P2 : List Bool) (n : Int) (z : ByteArray) (w : World) (h : Rd w B r D (P ++ [x]) (P2 ++ [false])) (hl : P2.length = P.length) (hP : P.length < 12) (ht : TokCell w b o ⟨2, n, z⟩) :
    Calls Tryd.prog 63 #[.pointer (some ⟨r, 0, none⟩), .pointer (some ⟨b, o, none⟩)] w fun e w' => e = .returned (.int .i64 0) ∧ RdS w' B r (wholeS ⟨D, P, P2⟩) ∧ Below B w w' := by
  obtain ⟨c0, c1, c2⟩ := ht
  simp only at c0 c1 c2
  obtain ⟨vD, gO, cO, gQ, cQ, h, hcO, hcQ, cy⟩ := RdAt.open2 h
  have HH : Hid (RdAt w B r vD (.slice (some ⟨gO, 0, none⟩) (P.length + 1) cO) (.slice (some ⟨gQ, 0, none⟩) (P2.length + 1) cQ) D (P ++ [x]) (P2 ++ [false])) := h
  have HL : Hid (P2.length = P.length) := hl
  have d1 := h.fO.1
  have d2 := h.fQ.1
  have fz := h.fz
  have hrB := h.hr
  rw [hl] at d2 cy hcQ
  have HW : Hid (∀ u, Rd u B r D P P2 → Calls Tryd.prog 90 #[.pointer (some ⟨r, 0, none⟩)] u fun e w' => e = .returned (.tuple #[]) ∧ RdS w' B r (wholeS ⟨D, P, P2⟩) ∧ Below B u w') := fun u hu => l3Whole_any B r D P P2 u hu hl (by omega)
  clear h hl
  have hlb : b < w.heap.size := lt_of_cell c0
  have hlr : r < w.heap.size := lt_of_cell d1
  have hlq : gQ < w.heap.size := lt_of_cell cy
  have hn1 : (0 : Int) ≤ (P.length : Int) := by omega
  have hn2 : (P.length : Int) ≤ (cO : Int) := by omega
  have hn3 : (P.length : Int) ≤ (cQ : Int) := by omega
  go_enter Tryd.func63, Tryd.ntmps63
  have HR : Hid (Rd ((w.setCell ⟨r, 1, none⟩ (.slice (some ⟨gO, 0, none⟩) P.length cO)).setCell ⟨r, 2, none⟩ (.slice (some ⟨gQ, 0, none⟩) P.length cQ)) B r D P P2) := by
    have := popQ (popO HH.out)
    rw [HL.out] at this
    exact ⟨_, _, _, this⟩
  go_wp2_with fail
  refine (HW.out _ HR.out).mono ?_
  rintro e w2 ⟨rfl, hy, hb⟩
  have HY : Hid (RdS w2 B r (wholeS ⟨D, P, P2⟩)) := hy
  have HB3 : Hid (Below B w w2) := (Below.setCell (Below.setCell (Below.refl _ _) (by simpa using hrB) _) (by simpa using hrB) _).trans hb
  clear hy hb
  go_wp2
  go_ret
  exact ⟨rfl, HY.out, HB3.out⟩
/-- A token read, whatever it is. -/
theorem l3Token_any (B r b o : Nat) (s : RS) (t : Tok) (w : World) (h : RdS w B r s) (hs : s.ok) (hB : B ≤ w.heap.size) (ht : TokCell w b o t) (h1 : 1 ≤ t.kind) (h6 : t.kind ≤ 6) :
    Calls Tryd.prog 63 #[.pointer (some ⟨r, 0, none⟩), .pointer (some ⟨b, o, none⟩)] w fun e w' => Step (tokS s t).1 (tokS s t).2 w B r e w' := by
  by_cases k1 : t.kind = 1
  · have e : tokS s t = (2, beginS s false) := by simp [tokS, k1]
    rw [e]; exact tok_begin B r b o s t w h hs hB ht false (by simpa using k1)
  by_cases k3 : t.kind = 3
  · have e : tokS s t = (2, beginS s true) := by simp [tokS, k3]
    rw [e]; exact tok_begin B r b o s t w h hs hB ht true (by simpa using k3)
  by_cases k2 : t.kind = 2
  · have e : tokS s t = (1, if s.O = [] ∨ s.Q.getLast? = some true then none else some (wholeS ⟨s.D, s.O.dropLast, s.Q.dropLast⟩)) := by simp [tokS, k2]
    rw [e]
    obtain ⟨D, O, Q⟩ := s
    obtain ⟨k, n, z⟩ := t
    simp only at k2
    subst k2
    obtain ⟨hq, hl⟩ := hs
    simp only at hq hl ⊢
    rcases List.eq_nil_or_concat O with rfl | ⟨P, x, rfl⟩
    · refine (close_none B r b o D Q n z w h ht).mono ?_
      rintro e w' ⟨rfl, hb⟩
      simp only [true_or, if_true]
      exact ⟨hb, rfl⟩
    · rw [List.concat_eq_append] at h hq hl ⊢
      obtain ⟨P2, y, rfl⟩ : ∃ P2 y, Q = P2 ++ [y] := by
        rcases List.eq_nil_or_concat Q with rfl | ⟨P2, y, rfl⟩
        · simp at hq
        · exact ⟨P2, y, List.concat_eq_append⟩
      have hP : P.length < 12 := by simp at hl; omega
      have hl2 : P2.length = P.length := by simp at hq; omega
      cases y with
      | true =>
        refine (close_quote B r b o D P x P2 n z w h hl2 hP ht).mono ?_
        rintro e w' ⟨rfl, hb⟩
        have hc : (P ++ [x] = [] ∨ (P2 ++ [true]).getLast? = some true) := by simp
        rw [if_pos hc]
        exact ⟨hb, rfl⟩
      | false =>
        refine (close_ok B r b o D P x P2 n z w h hl2 hP ht).mono ?_
        rintro e w' ⟨rfl, hr, hb⟩
        have hc : ¬ (P ++ [x] = [] ∨ (P2 ++ [false]).getLast? = some true) := by simp
        rw [if_neg hc]
        have e1 : (P ++ [x]).dropLast = P := by simp
        have e2 : (P2 ++ [false]).dropLast = P2 := by simp
        rw [e1, e2]
        exact ⟨hb, rfl, hr⟩
  · have e : tokS s t = (2, (putS s (t.kind - 3) t.num t.name).map wholeS) := by simp [tokS, k1, k2, k3]
    rw [e]; exact tok_leaf B r b o s t w h hs hB ht (by omega) h6
theorem tokS_ok {s s' : RS} {t : Tok} (h : s.ok) (e : (tokS s t).2 = some s') : s'.ok := by
  unfold tokS at e
  split at e
  · exact beginS_ok h e
  · split at e
    · exact beginS_ok h e
    · split at e
      · simp only at e
        split at e
        · cases e
        · cases e
          refine wholeS_ok ⟨?_, ?_⟩
          · have := h.1; simp; omega
          · have := h.2; simp; omega
      · simp only [Option.map_eq_some_iff] at e
        obtain ⟨a, ha, rfl⟩ := e
        exact wholeS_ok (putS_ok h ha)
end Go.Proofs.YtoljpgpkeploiaaDoor
/-
  The model's l3Read: data that are read of tokens; nothing that was there is turned.
-/
namespace Go.Proofs.YtoljpgpkeploiaaDoor
open Go.RowKit Go.Extern.Stop Go.Stop Go.Extern Num Go.Lib

/-- What is read from a place on: data, a code, where. -/
def readFrom (i : Nat) (s : RS) : List Tok → List Dat × Int × Int
  | [] => if s.D = [] ∨ s.O ≠ [] then ([], 1, (i : Int)) else (s.D, 0, 0)
  | t :: r => if 0 < i ∧ s.O = [] then ([], 1, (i : Int)) else (tokS s t).2.elim ([], (tokS s t).1, (i : Int)) (fun s' => readFrom (i + 1) s' r)
def readD (l : List Tok) : List Dat × Int × Int := readFrom 0 ⟨[], [], []⟩ l
theorem tokS_code (s : RS) (t : Tok) : (tokS s t).1 = 1 ∨ (tokS s t).1 = 2 := by
  unfold tokS
  split
  · exact Or.inr rfl
  · split
    · exact Or.inr rfl
    · split
      · exact Or.inl rfl
      · exact Or.inr rfl
theorem read_drop {l : List Tok} {k : Nat} (h : k < l.length) : l.drop k = l[k] :: l.drop (k + 1) := List.drop_eq_getElem_cons h
/-- An answer of l3Read. -/
def AnsR (R : List Dat × Int × Int) (w : World) (e : Ending) (w' : World) : Prop :=
  ∃ ao cp, e = .returned (.tuple #[.slice ao R.1.length cp, .int .i64 R.2.1, .int .i64 R.2.2]) ∧ w'.ownsRow w.heap.size 51 4 (.slice ao R.1.length cp) R.1.length (cellsD R.1) ∧ Below w.heap.size w w'
theorem rd_new (w : World) : RdS (w.alloc (.cells #[.slice none 0 0, .slice none 0 0, .slice none 0 0] 96)) w.heap.size w.heap.size ⟨[], [], []⟩ := by
  refine ⟨.slice none 0 0, .slice none 0 0, .slice none 0 0, Nat.le_refl _, fun o => ?_, ⟨by simp, World.ownsRow_nil _ _ _ _, fun g h => by simp [Value.ownBlock] at h⟩, ⟨by simp, World.ownsRow_nil _ _ _ _, fun g h => by simp [Value.ownBlock] at h⟩, ⟨by simp, World.ownsRow_nil _ _ _ _, fun g h => by simp [Value.ownBlock] at h⟩, fun g h => by simp [Value.ownBlock] at h, fun g h => by simp [Value.ownBlock] at h, fun g h => by simp [Value.ownBlock] at h⟩
  simp only [World.frozen?]; rw [heap_alloc_new]; simp
set_option maxRecDepth 100000 in
set_option maxHeartbeats 4000000 in
theorem l3Read_any (a : Option Addr) (cap : Nat) (l : List Tok) (w : World) (hl : l.length ≤ 1048576)
    (ht : ∀ (k : Nat) (h : k < l.length), ∃ g, a = some ⟨g, 0, none⟩ ∧ TokCell w g (k * 3) l[k] ∧ 1 ≤ l[k].kind ∧ l[k].kind ≤ 6) :
    Calls Tryd.prog 35 #[.slice a l.length cap] w fun e w' => AnsR (readD l) w e w' := by
  obtain ⟨R, hR⟩ : ∃ R, R = readD l := ⟨_, rfl⟩
  rw [← hR]
  have HR : Hid (R = readD l) := hR
  have HT : Hid (∀ (k : Nat) (h : k < l.length), ∃ g, a = some ⟨g, 0, none⟩ ∧ TokCell w g (k * 3) l[k] ∧ 1 ≤ l[k].kind ∧ l[k].kind ≤ 6) := ht
  clear hR ht
  go_enter Tryd.func35, Tryd.ntmps35
  go_wp2_with fail
  go_loopw [6] (fun i wr => ∃ (k : Nat) (s : RS), k ≤ l.length ∧ i = .int .i64 (k : Int) ∧ Hid (RdS wr w.heap.size w.heap.size s) ∧ Hid s.ok ∧ Hid (readFrom k s (l.drop k) = R) ∧ Hid (Below w.heap.size w wr)) (fun i _ => l.length - (RowKit.intOf i).toNat)
  case atStart => exact ⟨0, ⟨[], [], []⟩, Nat.zero_le _, rfl, rd_new w, ⟨rfl, by simp⟩, by show _ = _; rw [HR.out]; rfl, (Below.refl _ _).alloc (Nat.le_refl _) _⟩
  case round =>
    obtain ⟨k, s, hk, rfl, HS, HK, HF, HB⟩ := hrel
    obtain ⟨vD, vO, vQ, h⟩ := HS.out
    obtain ⟨aD, cD, rfl⟩ := own_form h.fD.2.1
    obtain ⟨aO, cO, rfl⟩ := own_form h.fO.2.1
    have d0 := h.fD.1
    have d1 := h.fO.1
    have hlr := h.fD.lt
    have HD : Hid (wr.ownsRow w.heap.size 51 4 (.slice aD s.D.length cD) s.D.length (cellsD s.D)) := h.fD.2.1
    have hO12 := HK.out.2
    clear h
    by_cases hlt : k < l.length
    · obtain ⟨g, rfl, tc, t1, t6⟩ := HT.out k hlt
      have HC : Hid (TokCell wr g (k * 3) (l[k]'hlt)) := ⟨cell_keep HB.out tc.1, cell_keep HB.out tc.2.1, cell_keep HB.out tc.2.2⟩
      have HQ : Hid (Calls Tryd.prog 63 #[.pointer (some ⟨w.heap.size, 0, none⟩), .pointer (some ⟨g, k * 3, none⟩)] wr fun e w' => Step (tokS s (l[k]'hlt)).1 (tokS s (l[k]'hlt)).2 wr w.heap.size w.heap.size e w') := l3Token_any w.heap.size w.heap.size g (k * 3) s (l[k]'hlt) wr HS.out HK.out HB.out.size HC.out t1 t6
      have hcode := tokS_code s (l[k]'hlt)
      have HF2 : Hid (readFrom k s ((l[k]'hlt) :: l.drop (k + 1)) = R) := by rw [← read_drop hlt]; exact HF.out
      have HKn : Hid (∀ s', (tokS s (l[k]'hlt)).2 = some s' → s'.ok) := fun s' e => tokS_ok HK.out e
      clear tc t1 t6 HC HF
      by_cases hstop : 0 < k ∧ s.O = []
      · have hk0 : (0 : Int) < (k : Int) := by omega
        have hz : s.O.length = 0 := by rw [hstop.2]; rfl
        rw [hz] at d1
        have HE : Hid (R = ([], 1, (k : Int))) := by show _ = _; rw [← HF2.out, readFrom, if_pos hstop]
        clear hstop hz HQ hcode
        go_wp2
        refine bodyPost_ret (v := .tuple #[.slice none 0 0, .int .i64 1, .int .i64 (k : Int)]) (by simp [results, Tryd.results35, go_sem]) rfl ?_
        rw [HE.out]
        exact ⟨none, 0, rfl, World.ownsRow_nil _ _ _ _, HB.out⟩
      · obtain ⟨c, hc⟩ : ∃ c, c = (tokS s (l[k]'hlt)).1 := ⟨_, rfl⟩
        obtain ⟨o', ho⟩ : ∃ o', o' = (tokS s (l[k]'hlt)).2 := ⟨_, rfl⟩
        rw [← hc, ← ho] at HQ
        rw [← hc] at hcode
        rw [← ho] at HKn
        have HE : Hid (R = o'.elim ([], c, (k : Int)) (fun s' => readFrom (k + 1) s' (l.drop (k + 1)))) := by
          show _ = _
          rw [← HF2.out, readFrom, if_neg hstop, ← hc, ← ho]
        have hg : k = 0 ∨ (0 < (k : Int) ∧ ∃ m : Nat, s.O.length = m + 1) := by
          by_cases h0 : 0 < k
          · right
            refine ⟨by omega, s.O.length - 1, ?_⟩
            have : s.O.length ≠ 0 := fun e => hstop ⟨h0, List.eq_nil_of_length_eq_zero e⟩
            omega
          · left; omega
        clear hc ho hstop HF2
        rcases hg with rfl | ⟨hk0, m, hm⟩
        · have hk0 : ¬ 0 < (((0 : Nat) : Int)) := by omega
          go_wp2_with fail
          refine HQ.out.mono ?_
          rintro e w' ⟨hb, hx⟩
          have HB2 : Hid (Below w.heap.size w w') := HB.out.trans hb
          clear hb
          cases o' with
          | none =>
            obtain rfl := hx
            have hcz : (c != 0) = true := by rcases hcode with rfl | rfl <;> rfl
            have HE2 : Hid (R = ([], c, ((0 : Nat) : Int))) := HE.out
            go_wp2
            refine bodyPost_ret (v := .tuple #[.slice none 0 0, .int .i64 c, .int .i64 ((0 : Nat) : Int)]) (by simp [results, Tryd.results35, go_sem]) rfl ?_
            rw [HE2.out]
            exact ⟨none, 0, rfl, World.ownsRow_nil _ _ _ _, HB2.out⟩
          | some s' =>
            obtain ⟨rfl, hx⟩ := hx
            have HX : Hid (RdS w' w.heap.size w.heap.size s') := hx
            have HE2 : Hid (readFrom (0 + 1) s' (l.drop (0 + 1)) = R) := HE.out.symm
            have HK2 : Hid s'.ok := HKn.out s' rfl
            clear hx
            go_wp2
            exact ⟨⟨0 + 1, s', by omega, by first | rfl | go_num, HX.out, HK2.out, HE2.out, HB2.out⟩, by simp [RowKit.intOf]; omega⟩
        · rw [hm] at d1
          go_wp2_with fail
          refine HQ.out.mono ?_
          rintro e w' ⟨hb, hx⟩
          have HB2 : Hid (Below w.heap.size w w') := HB.out.trans hb
          clear hb
          cases o' with
          | none =>
            obtain rfl := hx
            have hcz : (c != 0) = true := by rcases hcode with rfl | rfl <;> rfl
            have HE2 : Hid (R = ([], c, (k : Int))) := HE.out
            go_wp2
            refine bodyPost_ret (v := .tuple #[.slice none 0 0, .int .i64 c, .int .i64 (k : Int)]) (by simp [results, Tryd.results35, go_sem]) rfl ?_
            rw [HE2.out]
            exact ⟨none, 0, rfl, World.ownsRow_nil _ _ _ _, HB2.out⟩
          | some s' =>
            obtain ⟨rfl, hx⟩ := hx
            have HX : Hid (RdS w' w.heap.size w.heap.size s') := hx
            have HE2 : Hid (readFrom (k + 1) s' (l.drop (k + 1)) = R) := HE.out.symm
            have HK2 : Hid s'.ok := HKn.out s' rfl
            clear hx
            go_wp2
            exact ⟨⟨k + 1, s', by omega, by first | rfl | go_num, HX.out, HK2.out, HE2.out, HB2.out⟩, by simp [RowKit.intOf]; omega⟩
    · have hkl : k = l.length := by omega
      have HF2 : Hid (readFrom k s [] = R) := by have := HF.out; rwa [List.drop_eq_nil_of_le (by omega)] at this
      clear HF
      by_cases hbad : s.D = [] ∨ s.O ≠ []
      · have HE : Hid (R = ([], 1, (l.length : Int))) := by show _ = _; rw [← HF2.out, readFrom, if_pos hbad, hkl]
        have hg : ((s.D.length : Int) == 0) = true ∨ (((s.D.length : Int) == 0) = false ∧ 0 < (s.O.length : Int)) := by
          by_cases h0 : s.D.length = 0
          · left; simp [h0]
          · right
            refine ⟨by rw [beq_eq_false_iff_ne]; omega, ?_⟩
            rcases hbad with h | h
            · rw [h] at h0; exact absurd rfl h0
            · have := List.length_pos_iff.2 h; omega
        clear hbad hkl
        rcases hg with hz | ⟨hz, hz2⟩
        all_goals
          go_wp2
          refine bodyPost_ret (v := .tuple #[.slice none 0 0, .int .i64 1, .int .i64 (l.length : Int)]) (by simp [results, Tryd.results35, go_sem]) rfl ?_
          rw [HE.out]
          exact ⟨none, 0, rfl, World.ownsRow_nil _ _ _ _, HB.out⟩
      · have HE : Hid (R = (s.D, 0, 0)) := by show _ = _; rw [← HF2.out, readFrom, if_neg hbad]
        have hz : ((s.D.length : Int) == 0) = false := by
          rw [beq_eq_false_iff_ne]; intro e
          exact hbad (Or.inl (List.eq_nil_of_length_eq_zero (by omega)))
        have hz2 : ¬ 0 < (s.O.length : Int) := by
          intro e
          exact hbad (Or.inr (fun h => by rw [h] at e; simp at e))
        clear hbad hkl
        go_wp2
        refine bodyPost_ret (v := .tuple #[.slice aD s.D.length cD, .int .i64 0, .int .i64 0]) (by simp [results, Tryd.results35, go_sem]) rfl ?_
        rw [HE.out]
        exact ⟨aD, cD, rfl, HD.out, HB.out⟩
end Go.Proofs.YtoljpgpkeploiaaDoor
