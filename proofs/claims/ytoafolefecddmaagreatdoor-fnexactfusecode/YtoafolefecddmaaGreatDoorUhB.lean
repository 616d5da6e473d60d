/-
  Parts of the proof laid into one text, one behind the other: ImplJn, ImplJf, ImplCo, ImplOr. Contracts of the program's and the model's functions, and what they are proved of, as their theorems say.
-/
import Derived.Test.YtoafolefecddmaaGreatDoorUfC
import Derived.Test.YtoafolefecddmaaGreatDoorUhD
import Derived.Test.YtoafolefecddmaaGreatDoorImplFoHv
import Derived.Test.YtoafolefecddmaaGreatDoorUfA
import Derived.Test.YtoafolefecddmaaGreatDoorTjB
namespace Go.Proofs.YtoafolefecddmaaGreatDoor
open Go.RowKit Go.Extern.Stop Go.Stop Go.Extern Num Go.Lib
abbrev Z4 : Obj := .cells #[.int .i64 0, .int .i64 0, .int .i64 0, .int .i64 0] 182
abbrev T4 (t : Opr) : Obj := .cells #[.int .i64 t.a, .int .i64 t.b, .int .i64 t.c, .int .i64 t.d] 182
theorem put4_at {V : World} {b : Nat} {T : TypeId} {x0 x1 x2 x3 y0 y1 y2 y3 : Value} (h : V.heap[b]? = some (.cells #[x0, x1, x2, x3] T)) : ((((V.setCell ⟨b, 0, none⟩ y0).setCell ⟨b, 1, none⟩ y1).setCell ⟨b, 2, none⟩ y2).setCell ⟨b, 3, none⟩ y3).heap[b]? = some (.cells #[y0, y1, y2, y3] T) := by
  have h0 := (heap_setCell_same V b 0 _ T y0 h)
  have h1 := (heap_setCell_same _ b 1 _ T y1 h0)
  have h2 := (heap_setCell_same _ b 2 _ T y2 h1)
  have h3 := (heap_setCell_same _ b 3 _ T y3 h2)
  rw [h3]; rfl
theorem put2_at {V : World} {b : Nat} {T : TypeId} {x0 x1 x2 x3 y2 y3 : Value} (h : V.heap[b]? = some (.cells #[x0, x1, x2, x3] T)) : ((V.setCell ⟨b, 2, none⟩ y2).setCell ⟨b, 3, none⟩ y3).heap[b]? = some (.cells #[x0, x1, y2, y3] T) := by
  have h2 := (heap_setCell_same _ b 2 _ T y2 h)
  have h3 := (heap_setCell_same _ b 3 _ T y3 h2)
  rw [h3]; rfl
theorem put4_below {B b : Nat} {a V : World} {y0 y1 y2 y3 : Value} (h : Below B a V) (hb : B ≤ b) : Below B a ((((V.setCell ⟨b, 0, none⟩ y0).setCell ⟨b, 1, none⟩ y1).setCell ⟨b, 2, none⟩ y2).setCell ⟨b, 3, none⟩ y3) :=
  (((h.setCell hb _).setCell hb _).setCell hb _).setCell hb _
theorem put2_below {B b : Nat} {a V : World} {y2 y3 : Value} (h : Below B a V) (hb : B ≤ b) : Below B a ((V.setCell ⟨b, 2, none⟩ y2).setCell ⟨b, 3, none⟩ y3) := (h.setCell hb _).setCell hb _
theorem put4_other {V : World} {b g : Nat} {o : Obj} {y0 y1 y2 y3 : Value} (h : V.heap[g]? = some o) (hn : g ≠ b) : ((((V.setCell ⟨b, 0, none⟩ y0).setCell ⟨b, 1, none⟩ y1).setCell ⟨b, 2, none⟩ y2).setCell ⟨b, 3, none⟩ y3).heap[g]? = some o := by
  rw [Below.heap_setCell _ _ _ _ hn, Below.heap_setCell _ _ _ _ hn, Below.heap_setCell _ _ _ _ hn, Below.heap_setCell _ _ _ _ hn]; exact h
theorem blk_keep {y y' : World} {g : Nat} {o : Obj} (h : y.heap[g]? = some o) (b : Below y.heap.size y y') : y'.heap[g]? = some o := by
  rw [b.block _ (Array.getElem?_eq_some_iff.1 h).1]; exact h
theorem row4_cells {V : World} {b : Nat} {T : TypeId} {x0 x1 x2 x3 : Value} (h : V.heap[b]? = some (.cells #[x0, x1, x2, x3] T)) : V.cell? ⟨b, 0, none⟩ = some x0 ∧ V.cell? ⟨b, 1, none⟩ = some x1 ∧ V.cell? ⟨b, 2, none⟩ = some x2 ∧ V.cell? ⟨b, 3, none⟩ = some x3 ∧ (∀ j, V.frozen? ⟨b, j, none⟩ = false) ∧ b < V.heap.size :=
  ⟨by rw [cell_of_row V _ 0 _ _ _ h]; rfl, by rw [cell_of_row V _ 1 _ _ _ h]; rfl, by rw [cell_of_row V _ 2 _ _ _ h]; rfl, by rw [cell_of_row V _ 3 _ _ _ h]; rfl, fun j => by simp [World.frozen?, h], (Array.getElem?_eq_some_iff.1 h).1⟩
theorem btrJ {a b c : World} (h : Hid (Below a.heap.size a b)) (k : Below b.heap.size b c) : Hid (Below a.heap.size a c) := h.out.trans (k.mono h.out.size)
theorem leJ {B x y : Nat} {a b : World} (h : x ≠ y) (k : Hid (Below B a b)) (h1 : b.heap.size ≤ x) (h2 : b.heap.size ≤ y) : x ≠ y ∧ a.heap.size ≤ x ∧ a.heap.size ≤ y := ⟨h, Nat.le_trans k.out.size h1, Nat.le_trans k.out.size h2⟩
theorem at4J {U V : World} {b : Nat} {T : TypeId} {x0 x1 x2 x3 y0 y1 y2 y3 : Value} (e : U = ((((V.setCell ⟨b, 0, none⟩ y0).setCell ⟨b, 1, none⟩ y1).setCell ⟨b, 2, none⟩ y2).setCell ⟨b, 3, none⟩ y3)) (h : V.heap[b]? = some (.cells #[x0, x1, x2, x3] T)) : Hid (U.heap[b]? = some (.cells #[y0, y1, y2, y3] T)) := by
  rw [e]; exact put4_at h
def BelY (y u : World) : Prop := Below y.heap.size y u
section
variable {F : Fence} {n : Nat} {P : Program} {md : Region.Mode} {ops : Array Oper} {Q : Exit → Act → World → Prop} {S : World → Prop} {z : Nat}
theorem anyH_three {i j l : Nat} {k : Nat} {listed : Array Bool} {a : Act} {w : World} (hr : Region.ready md ops listed = [i, j, l])
    (h : wpOpIn F n P ops Q i (fun a' w' => (i ≠ z → S w') ∧ anyH F n P md ops Q S z k (listed.setIfInBounds i true) a' w') a w) (h' : wpOpIn F n P ops Q j (fun a' w' => (j ≠ z → S w') ∧ anyH F n P md ops Q S z k (listed.setIfInBounds j true) a' w') a w) (h2 : wpOpIn F n P ops Q l (fun a' w' => (l ≠ z → S w') ∧ anyH F n P md ops Q S z k (listed.setIfInBounds l true) a' w') a w) : anyH F n P md ops Q S z (k + 1) listed a w :=
  ⟨fun h0 => (by rw [hr] at h0; cases h0), fun x hx => (by
    rw [hr] at hx
    rcases List.mem_cons.1 hx with rfl | hx
    · exact h
    · rcases List.mem_cons.1 hx with rfl | hx
      · exact h'
      · obtain rfl := List.mem_singleton.1 hx; exact h2)⟩
end
set_option maxRecDepth 100000 in
set_option maxHeartbeats 1500000 in
theorem join_1 (bit s both : Int) (t t2 : Opr) (ao ao2 : Option Addr) (cap n2 cap2 B : Nat) (w : World) (ht : t.small) (ho : w.ownsRow B 196 4 (.slice ao t.data.length cap) t.data.length (cellsD t.data)) :
    Calls Tryz.prog 88 #[.agg #[.int .i64 bit, .int .i64 1, .int .i64 s, .int .i64 both], t.val (.slice ao t.data.length cap), t2.val (.slice ao2 n2 cap2)] w fun e w' => ∃ v, e = .returned ((opK both t2.a t2.b t2.c t2.d t.data).val v) ∧ w'.ownsRow (w.heap.size + 4) 196 4 v t.data.length (cellsD t.data) ∧ Below w.heap.size w w' := by
  have HOa : Hid (∀ u, Calls Tryz.prog 120 #[t.val (.slice ao t.data.length cap)] u fun e w' => e = .returned t.num ∧ Below u.heap.size u w') := fun u => operationOf_any t _ u
  have HOb : Hid (∀ u, Calls Tryz.prog 120 #[t2.val (.slice ao2 n2 cap2)] u fun e w' => e = .returned t2.num ∧ Below u.heap.size u w') := fun u => operationOf_any t2 _ u
  have HA : Hid (∀ u, Calls Tryz.prog 125 #[.agg #[.int .i64 bit, .int .i64 1, .int .i64 s, .int .i64 both]] u fun e w' => e = .returned (.int .i64 0) ∧ Below u.heap.size u w') := fun u => ahead_1 bit s both u
  have HW1 : Hid (∀ u, Below w.heap.size w u → Calls Tryz.prog 126 #[.int .i64 both, .agg #[.int .i64 t2.a, .int .i64 t2.b, .int .i64 t2.c, .int .i64 t2.d], .slice ao t.data.length cap] u fun e w' => ∃ v, e = .returned ((opK both t2.a t2.b t2.c t2.d t.data).val v) ∧ w'.ownsRow (u.heap.size + 2) 196 4 v t.data.length (cellsD t.data) ∧ Below u.heap.size u w') := fun u hu => opWith_any both t2.a t2.b t2.c t2.d ao cap B t.data u ht.len ht.names (own_below ho hu)
  obtain ⟨W, hW⟩ : ∃ W, W = ((((w.alloc (.cells #[.int .i64 bit, .int .i64 1, .int .i64 s, .int .i64 both] 102)).alloc (.cells #[.int .i64 t.kind, .int .i64 t.a, .int .i64 t.b, .int .i64 t.c, .int .i64 t.d, .string t.name, .slice ao t.data.length cap] 100)).alloc (.cells #[.int .i64 t2.kind, .int .i64 t2.a, .int .i64 t2.b, .int .i64 t2.c, .int .i64 t2.d, .string t2.name, .slice ao2 n2 cap2] 100)).alloc (.cells #[.int .i64 0, .int .i64 0, .int .i64 0, .int .i64 0, .int .i64 0, .string ⟨#[]⟩, .slice none 0 0] 100)) := ⟨_, rfl⟩
  have HW : Hid (W = ((((w.alloc (.cells #[.int .i64 bit, .int .i64 1, .int .i64 s, .int .i64 both] 102)).alloc (.cells #[.int .i64 t.kind, .int .i64 t.a, .int .i64 t.b, .int .i64 t.c, .int .i64 t.d, .string t.name, .slice ao t.data.length cap] 100)).alloc (.cells #[.int .i64 t2.kind, .int .i64 t2.a, .int .i64 t2.b, .int .i64 t2.c, .int .i64 t2.d, .string t2.name, .slice ao2 n2 cap2] 100)).alloc (.cells #[.int .i64 0, .int .i64 0, .int .i64 0, .int .i64 0, .int .i64 0, .string ⟨#[]⟩, .slice none 0 0] 100))) := hW
  have HBW : Hid (Below w.heap.size w W) := by rw [hW]; exact ((((Below.refl _ _).alloc (Nat.le_refl _) _).alloc (by simp) _).alloc (by simp; omega) _).alloc (by simp; omega) _
  have HWs : Hid (W.heap.size = w.heap.size + 4) := by show _ = _; rw [hW]; simp
  have p0 : W.cell? ⟨w.heap.size, 0, none⟩ = some (.int .i64 bit) := by rw [hW]; simp [go_sem]
  have p1 : W.cell? ⟨w.heap.size, 1, none⟩ = some (.int .i64 1) := by rw [hW]; simp [go_sem]
  have p2 : W.cell? ⟨w.heap.size, 2, none⟩ = some (.int .i64 s) := by rw [hW]; simp [go_sem]
  have p3 : W.cell? ⟨w.heap.size, 3, none⟩ = some (.int .i64 both) := by rw [hW]; simp [go_sem]
  have o0 : W.cell? ⟨w.heap.size + 1, 0, none⟩ = some (.int .i64 t.kind) := by rw [hW]; simp [go_sem]
  have o1 : W.cell? ⟨w.heap.size + 1, 1, none⟩ = some (.int .i64 t.a) := by rw [hW]; simp [go_sem]
  have o2 : W.cell? ⟨w.heap.size + 1, 2, none⟩ = some (.int .i64 t.b) := by rw [hW]; simp [go_sem]
  have o3 : W.cell? ⟨w.heap.size + 1, 3, none⟩ = some (.int .i64 t.c) := by rw [hW]; simp [go_sem]
  have o4 : W.cell? ⟨w.heap.size + 1, 4, none⟩ = some (.int .i64 t.d) := by rw [hW]; simp [go_sem]
  have o5 : W.cell? ⟨w.heap.size + 1, 5, none⟩ = some (.string t.name) := by rw [hW]; simp [go_sem]
  have o6 : W.cell? ⟨w.heap.size + 1, 6, none⟩ = some (.slice ao t.data.length cap) := by rw [hW]; simp [go_sem]
  have q0 : W.cell? ⟨w.heap.size + 2, 0, none⟩ = some (.int .i64 t2.kind) := by rw [hW]; simp [go_sem]
  have q1 : W.cell? ⟨w.heap.size + 2, 1, none⟩ = some (.int .i64 t2.a) := by rw [hW]; simp [go_sem]
  have q2 : W.cell? ⟨w.heap.size + 2, 2, none⟩ = some (.int .i64 t2.b) := by rw [hW]; simp [go_sem]
  have q3 : W.cell? ⟨w.heap.size + 2, 3, none⟩ = some (.int .i64 t2.c) := by rw [hW]; simp [go_sem]
  have q4 : W.cell? ⟨w.heap.size + 2, 4, none⟩ = some (.int .i64 t2.d) := by rw [hW]; simp [go_sem]
  have q5 : W.cell? ⟨w.heap.size + 2, 5, none⟩ = some (.string t2.name) := by rw [hW]; simp [go_sem]
  have q6 : W.cell? ⟨w.heap.size + 2, 6, none⟩ = some (.slice ao2 n2 cap2) := by rw [hW]; simp [go_sem]
  have HZa : Hid (ZBx W (w.heap.size + 3)) := by
    rw [hW]; exact ⟨by simp [go_sem], by simp [go_sem], by simp [go_sem], by simp [go_sem], by simp [go_sem], by simp [go_sem], by simp [go_sem], fun j => by simp [go_sem], by simp⟩
  have HPf : Hid (∀ u, Below W.heap.size W u → u.cell? ⟨w.heap.size, 0, none⟩ = some (.int .i64 bit) ∧ u.cell? ⟨w.heap.size, 1, none⟩ = some (.int .i64 1) ∧ u.cell? ⟨w.heap.size, 2, none⟩ = some (.int .i64 s) ∧ u.cell? ⟨w.heap.size, 3, none⟩ = some (.int .i64 both)) := fun u hu => ⟨cell_keep hu p0, cell_keep hu p1, cell_keep hu p2, cell_keep hu p3⟩
  have HPo : Hid (∀ u, Below W.heap.size W u → u.cell? ⟨w.heap.size + 1, 0, none⟩ = some (.int .i64 t.kind) ∧ u.cell? ⟨w.heap.size + 1, 1, none⟩ = some (.int .i64 t.a) ∧ u.cell? ⟨w.heap.size + 1, 2, none⟩ = some (.int .i64 t.b) ∧ u.cell? ⟨w.heap.size + 1, 3, none⟩ = some (.int .i64 t.c) ∧ u.cell? ⟨w.heap.size + 1, 4, none⟩ = some (.int .i64 t.d) ∧ u.cell? ⟨w.heap.size + 1, 5, none⟩ = some (.string t.name) ∧ u.cell? ⟨w.heap.size + 1, 6, none⟩ = some (.slice ao t.data.length cap)) := fun u hu => ⟨cell_keep hu o0, cell_keep hu o1, cell_keep hu o2, cell_keep hu o3, cell_keep hu o4, cell_keep hu o5, cell_keep hu o6⟩
  have HPq : Hid (∀ u, Below W.heap.size W u → u.cell? ⟨w.heap.size + 2, 0, none⟩ = some (.int .i64 t2.kind) ∧ u.cell? ⟨w.heap.size + 2, 1, none⟩ = some (.int .i64 t2.a) ∧ u.cell? ⟨w.heap.size + 2, 2, none⟩ = some (.int .i64 t2.b) ∧ u.cell? ⟨w.heap.size + 2, 3, none⟩ = some (.int .i64 t2.c) ∧ u.cell? ⟨w.heap.size + 2, 4, none⟩ = some (.int .i64 t2.d) ∧ u.cell? ⟨w.heap.size + 2, 5, none⟩ = some (.string t2.name) ∧ u.cell? ⟨w.heap.size + 2, 6, none⟩ = some (.slice ao2 n2 cap2)) := fun u hu => ⟨cell_keep hu q0, cell_keep hu q1, cell_keep hu q2, cell_keep hu q3, cell_keep hu q4, cell_keep hu q5, cell_keep hu q6⟩
  have hFr : ∀ f, Fence.wide.fn f := fun _ => trivial
  clear hW ho ht p0 p1 p2 p3 o0 o1 o2 o3 o4 o5 o6 q0 q1 q2 q3 q4 q5 q6
  go_enter Tryz.func88, Tryz.ntmps88
  go_upto_region 1 with fail
  rw [← HW.out]
  go_cut [7, 8] from 9 to 25 (fun v7 v8 wx => ∃ (gb gh : Nat), v7 = .pointer (some ⟨gb, 0, none⟩) ∧ v8 = .pointer (some ⟨gh, 0, none⟩) ∧ Hid (gb ≠ gh ∧ W.heap.size ≤ gb ∧ W.heap.size ≤ gh) ∧ Hid (wx.heap[gb]? = some (T4 t)) ∧ Hid (wx.heap[gh]? = some (T4 t2)) ∧ Hid (Below W.heap.size W wx))
  case first =>
    clear HA HW1 HW HZa HPf
    refine (wpIn_wide (n := 0)).1 ?_
    obtain ⟨y0, hy0⟩ : ∃ Y, Y = W.drew := ⟨_, rfl⟩
    have HBY : Hid (Below W.heap.size W y0) := by rw [hy0]; exact (Below.refl _ _).drew
    refine region_anyH (z := 9) (S := fun u : World => BelY y0 u) (by kernel_rfl) ?_
    rw [← hy0]
    clear hy0
    have HB0 : Hid (Below y0.heap.size y0 y0) := Below.refl _ _
    refine anyH_take hFr (by kernel_rfl) (i := 0) (v := ?_) (d := some 9) (by kernel_rfl) rfl rfl (by kernel_rfl) (by kernel_rfl) (by kernel_rfl) (fun _ _ _ h => h) HB0.out (Or.inl ⟨by rfl, fun w hSw => ?_⟩) ?_
    rotate_left
    · obtain ⟨c0, c1, c2, c3, c4, c5, c6⟩ := HPo.out w (HBY.out.trans ((show Below y0.heap.size y0 w from hSw).mono HBY.out.size))
      go_simp
      all_goals (try (first | with_reducible rfl | omega))
    try simp only [Act.put]
    try simp only [List.setIfInBounds_toArray]
    try simp only [List.set_cons_zero, List.set_cons_succ]
    refine anyH_take hFr (by kernel_rfl) (i := 3) (v := ?_) (d := some 12) (by kernel_rfl) rfl rfl (by kernel_rfl) (by kernel_rfl) (by kernel_rfl) (fun _ _ _ h => h) HB0.out (Or.inl ⟨by rfl, fun w hSw => ?_⟩) ?_
    rotate_left
    · obtain ⟨c0, c1, c2, c3, c4, c5, c6⟩ := HPq.out w (HBY.out.trans ((show Below y0.heap.size y0 w from hSw).mono HBY.out.size))
      go_simp
      all_goals (try (first | with_reducible rfl | omega))
    try simp only [Act.put]
    try simp only [List.setIfInBounds_toArray]
    try simp only [List.set_cons_zero, List.set_cons_succ]
    have HO1 := HOa
    have HO4 := HOb
    clear HPo HPq HOa HOb
    refine anyH_three (i := 1) (j := 6) (l := 7) (by kernel_rfl) (op_plainW rfl (by rfl) (by simp) ?_) (op_plainW rfl (by rfl) (by simp) ?_) (op_plainW rfl (by rfl) (by simp) ?_)
    ·
      go_simp
      refine (HO1.out _).mono ?_
      rintro e y1 ⟨rfl, bs⟩
      have HB1 := btrJ HB0 bs
      clear bs
      (first | refine ⟨fun _ => HB1.out, ?_⟩ | refine ⟨HB1.out, ?_⟩)
      try simp only [Act.put]
      try simp only [List.setIfInBounds_toArray]
      try simp only [List.set_cons_zero, List.set_cons_succ]
      refine anyH_take hFr (by kernel_rfl) (i := 2) (v := ?_) (d := some 11) (by kernel_rfl) rfl rfl (by kernel_rfl) (by kernel_rfl) (by kernel_rfl) (fun _ _ _ h => h) HB1.out (Or.inl ⟨by rfl, fun w hSw => ?_⟩) ?_
      rotate_left
      · have hfN := fieldN
        go_simp
        all_goals (try (first | with_reducible rfl | omega))
      try simp only [Act.put]
      try simp only [List.setIfInBounds_toArray]
      try simp only [List.set_cons_zero, List.set_cons_succ]
      refine anyH_three (i := 4) (j := 6) (l := 7) (by kernel_rfl) (op_plainW rfl (by rfl) (by simp) ?_) (op_plainW rfl (by rfl) (by simp) ?_) (op_plainW rfl (by rfl) (by simp) ?_)
      ·
        go_simp
        refine (HO4.out _).mono ?_
        rintro e y2 ⟨rfl, bs⟩
        have HB2 := btrJ HB1 bs
        clear bs
        (first | refine ⟨fun _ => HB2.out, ?_⟩ | refine ⟨HB2.out, ?_⟩)
        try simp only [Act.put]
        try simp only [List.setIfInBounds_toArray]
        try simp only [List.set_cons_zero, List.set_cons_succ]
        refine anyH_take hFr (by kernel_rfl) (i := 5) (v := ?_) (d := some 14) (by kernel_rfl) rfl rfl (by kernel_rfl) (by kernel_rfl) (by kernel_rfl) (fun _ _ _ h => h) HB2.out (Or.inl ⟨by rfl, fun w hSw => ?_⟩) ?_
        rotate_left
        · have hfN := fieldN
          go_simp
          all_goals (try (first | with_reducible rfl | omega))
        try simp only [Act.put]
        try simp only [List.setIfInBounds_toArray]
        try simp only [List.set_cons_zero, List.set_cons_succ]
        refine anyH_two (i := 6) (j := 7) (by kernel_rfl) (op_plainW rfl (by rfl) (by simp) ?_) (op_plainW rfl (by rfl) (by simp) ?_)
        ·
          go_simp
          obtain ⟨y3, hy⟩ : ∃ x, x = y2.alloc (.cells #[.int .i64 0, .int .i64 0, .int .i64 0, .int .i64 0] 182) := ⟨_, rfl⟩
          have bs : Below y2.heap.size y2 y3 := by rw [hy]; exact bnewK _ _
          have HB3 := btrJ HB2 bs
          have HM3 : Hid (y3.heap[y2.heap.size]? = some Z4) := by show _ = _; rw [hy]; exact heap_alloc_new _ _
          rw [← hy]
          clear bs hy
          (first | refine ⟨fun _ => HB3.out, ?_⟩ | refine ⟨HB3.out, ?_⟩)
          try simp only [Act.put]
          try simp only [List.setIfInBounds_toArray]
          try simp only [List.set_cons_zero, List.set_cons_succ]
          refine anyH_one (i := 7) (by kernel_rfl) (op_plainW rfl (by rfl) (by simp) ?_)
          go_simp
          obtain ⟨y4, hy⟩ : ∃ x, x = y3.alloc (.cells #[.int .i64 0, .int .i64 0, .int .i64 0, .int .i64 0] 182) := ⟨_, rfl⟩
          have bs : Below y3.heap.size y3 y4 := by rw [hy]; exact bnewK _ _
          have HB4 := btrJ HB3 bs
          have HM4 : Hid (y4.heap[y2.heap.size]? = some Z4) := blk_keep HM3.out bs
          have HN4 : Hid (y4.heap[y3.heap.size]? = some Z4) := by show _ = _; rw [hy]; exact heap_alloc_new _ _
          have hlt := (Array.getElem?_eq_some_iff.1 HM3.out).1
          have HNe : Hid (y2.heap.size ≠ y3.heap.size) := fun e => by omega
          rw [← hy]
          clear bs hy hlt
          (first | refine ⟨fun _ => HB4.out, ?_⟩ | refine ⟨HB4.out, ?_⟩)
          try simp only [Act.put]
          try simp only [List.setIfInBounds_toArray]
          try simp only [List.set_cons_zero, List.set_cons_succ]
          obtain ⟨gb, hgb⟩ : ∃ g, g = y2.heap.size := ⟨_, rfl⟩
          obtain ⟨gh, hgh⟩ : ∃ g, g = y3.heap.size := ⟨_, rfl⟩
          have hne : gb ≠ gh := by rw [hgb, hgh]; exact HNe.out
          have hm : y4.heap[gb]? = some Z4 := by rw [hgb]; exact HM4.out
          have hn : y4.heap[gh]? = some Z4 := by rw [hgh]; exact HN4.out
          have hgb0 : y0.heap.size ≤ gb := by rw [hgb]; first | exact Nat.le_refl _ | exact HB2.out.size
          have hgh0 : y0.heap.size ≤ gh := by rw [hgh]; first | exact Nat.le_refl _ | exact HB3.out.size
          rw [← hgb, ← hgh]
          have hB := HB4.out
          obtain ⟨y, hy⟩ : ∃ y, y = y4 := ⟨_, rfl⟩
          rw [← hy] at hm hn hB ⊢
          clear hgb hgh HNe hy HB4 HM4 HN4
          obtain ⟨z0, z1, z2, z3, zf, zl⟩ := row4_cells hm
          refine anyH_one (i := 8) (by kernel_rfl) (op_plainW rfl (by rfl) (by simp) ?_)
          go_simp
          obtain ⟨U, hU⟩ : ∃ U, U = ((((y.setCell ⟨gb, 0, none⟩ (.int .i64 t.a)).setCell ⟨gb, 1, none⟩ (.int .i64 t.b)).setCell ⟨gb, 2, none⟩ (.int .i64 t.c)).setCell ⟨gb, 3, none⟩ (.int .i64 t.d)) := ⟨_, rfl⟩
          have HU1 : Hid (U.heap[gb]? = some (T4 t)) := at4J hU hm
          have hn2 : U.heap[gh]? = some Z4 := by rw [hU]; exact put4_other hn (Ne.symm hne)
          have HBU : Hid (Below y0.heap.size y0 U) := by rw [hU]; exact put4_below hB hgb0
          rw [← hU]
          clear hU z0 z1 z2 z3 zf zl hm hn hB
          (first | refine ⟨fun _ => HBU.out, ?_⟩ | refine ⟨HBU.out, ?_⟩)
          try simp only [Act.put]
          try simp only [List.setIfInBounds_toArray]
          try simp only [List.set_cons_zero, List.set_cons_succ]
          obtain ⟨z0, z1, z2, z3, zf, zl⟩ := row4_cells hn2
          refine anyH_one (i := 9) (by kernel_rfl) (op_plainW rfl (by rfl) (by simp) ?_)
          go_simp
          (first | refine ⟨by kernel_rfl, ?_⟩ | skip)
          obtain ⟨V, hV⟩ : ∃ V, V = ((((U.setCell ⟨gh, 0, none⟩ (.int .i64 t2.a)).setCell ⟨gh, 1, none⟩ (.int .i64 t2.b)).setCell ⟨gh, 2, none⟩ (.int .i64 t2.c)).setCell ⟨gh, 3, none⟩ (.int .i64 t2.d)) := ⟨_, rfl⟩
          have HV2 : Hid (V.heap[gh]? = some (T4 t2)) := at4J hV hn2
          have HV1 : Hid (V.heap[gb]? = some (T4 t)) := by show _ = _; rw [hV]; exact put4_other HU1.out hne
          have HBV : Hid (Below y0.heap.size y0 V) := by rw [hV]; exact put4_below HBU.out hgh0
          rw [← hV]
          clear hV z0 z1 z2 z3 zf zl hn2
          try simp only [Act.put]
          try simp only [List.setIfInBounds_toArray]
          try simp only [List.set_cons_zero, List.set_cons_succ]
          (first | refine anyH_done (by kernel_rfl) ?_ _ | skip)
          rename_i hKm
          refine hKm _ _ ?_
          clear hKm
          go_meet
          exact ⟨gb, gh, rfl, rfl, leJ hne HBY hgb0 hgh0, HV1.out, HV2.out, (btrJ HBY HBV.out).out⟩
        ·
          go_simp
          obtain ⟨y3, hy⟩ : ∃ x, x = y2.alloc (.cells #[.int .i64 0, .int .i64 0, .int .i64 0, .int .i64 0] 182) := ⟨_, rfl⟩
          have bs : Below y2.heap.size y2 y3 := by rw [hy]; exact bnewK _ _
          have HB3 := btrJ HB2 bs
          have HN3 : Hid (y3.heap[y2.heap.size]? = some Z4) := by show _ = _; rw [hy]; exact heap_alloc_new _ _
          rw [← hy]
          clear bs hy
          (first | refine ⟨fun _ => HB3.out, ?_⟩ | refine ⟨HB3.out, ?_⟩)
          try simp only [Act.put]
          try simp only [List.setIfInBounds_toArray]
          try simp only [List.set_cons_zero, List.set_cons_succ]
          refine anyH_one (i := 6) (by kernel_rfl) (op_plainW rfl (by rfl) (by simp) ?_)
          go_simp
          obtain ⟨y4, hy⟩ : ∃ x, x = y3.alloc (.cells #[.int .i64 0, .int .i64 0, .int .i64 0, .int .i64 0] 182) := ⟨_, rfl⟩
          have bs : Below y3.heap.size y3 y4 := by rw [hy]; exact bnewK _ _
          have HB4 := btrJ HB3 bs
          have HN4 : Hid (y4.heap[y2.heap.size]? = some Z4) := blk_keep HN3.out bs
          have HM4 : Hid (y4.heap[y3.heap.size]? = some Z4) := by show _ = _; rw [hy]; exact heap_alloc_new _ _
          have hlt := (Array.getElem?_eq_some_iff.1 HN3.out).1
          have HNe : Hid (y3.heap.size ≠ y2.heap.size) := fun e => by omega
          rw [← hy]
          clear bs hy hlt
          (first | refine ⟨fun _ => HB4.out, ?_⟩ | refine ⟨HB4.out, ?_⟩)
          try simp only [Act.put]
          try simp only [List.setIfInBounds_toArray]
          try simp only [List.set_cons_zero, List.set_cons_succ]
          obtain ⟨gb, hgb⟩ : ∃ g, g = y3.heap.size := ⟨_, rfl⟩
          obtain ⟨gh, hgh⟩ : ∃ g, g = y2.heap.size := ⟨_, rfl⟩
          have hne : gb ≠ gh := by rw [hgb, hgh]; exact HNe.out
          have hm : y4.heap[gb]? = some Z4 := by rw [hgb]; exact HM4.out
          have hn : y4.heap[gh]? = some Z4 := by rw [hgh]; exact HN4.out
          have hgb0 : y0.heap.size ≤ gb := by rw [hgb]; first | exact Nat.le_refl _ | exact HB3.out.size
          have hgh0 : y0.heap.size ≤ gh := by rw [hgh]; first | exact Nat.le_refl _ | exact HB2.out.size
          rw [← hgb, ← hgh]
          have hB := HB4.out
          obtain ⟨y, hy⟩ : ∃ y, y = y4 := ⟨_, rfl⟩
          rw [← hy] at hm hn hB ⊢
          clear hgb hgh HNe hy HB4 HM4 HN4
          obtain ⟨z0, z1, z2, z3, zf, zl⟩ := row4_cells hm
          refine anyH_one (i := 8) (by kernel_rfl) (op_plainW rfl (by rfl) (by simp) ?_)
          go_simp
          obtain ⟨U, hU⟩ : ∃ U, U = ((((y.setCell ⟨gb, 0, none⟩ (.int .i64 t.a)).setCell ⟨gb, 1, none⟩ (.int .i64 t.b)).setCell ⟨gb, 2, none⟩ (.int .i64 t.c)).setCell ⟨gb, 3, none⟩ (.int .i64 t.d)) := ⟨_, rfl⟩
          have HU1 : Hid (U.heap[gb]? = some (T4 t)) := at4J hU hm
          have hn2 : U.heap[gh]? = some Z4 := by rw [hU]; exact put4_other hn (Ne.symm hne)
          have HBU : Hid (Below y0.heap.size y0 U) := by rw [hU]; exact put4_below hB hgb0
          rw [← hU]
          clear hU z0 z1 z2 z3 zf zl hm hn hB
          (first | refine ⟨fun _ => HBU.out, ?_⟩ | refine ⟨HBU.out, ?_⟩)
          try simp only [Act.put]
          try simp only [List.setIfInBounds_toArray]
          try simp only [List.set_cons_zero, List.set_cons_succ]
          obtain ⟨z0, z1, z2, z3, zf, zl⟩ := row4_cells hn2
          refine anyH_one (i := 9) (by kernel_rfl) (op_plainW rfl (by rfl) (by simp) ?_)
          go_simp
          (first | refine ⟨by kernel_rfl, ?_⟩ | skip)
          obtain ⟨V, hV⟩ : ∃ V, V = ((((U.setCell ⟨gh, 0, none⟩ (.int .i64 t2.a)).setCell ⟨gh, 1, none⟩ (.int .i64 t2.b)).setCell ⟨gh, 2, none⟩ (.int .i64 t2.c)).setCell ⟨gh, 3, none⟩ (.int .i64 t2.d)) := ⟨_, rfl⟩
          have HV2 : Hid (V.heap[gh]? = some (T4 t2)) := at4J hV hn2
          have HV1 : Hid (V.heap[gb]? = some (T4 t)) := by show _ = _; rw [hV]; exact put4_other HU1.out hne
          have HBV : Hid (Below y0.heap.size y0 V) := by rw [hV]; exact put4_below HBU.out hgh0
          rw [← hV]
          clear hV z0 z1 z2 z3 zf zl hn2
          try simp only [Act.put]
          try simp only [List.setIfInBounds_toArray]
          try simp only [List.set_cons_zero, List.set_cons_succ]
          (first | refine anyH_done (by kernel_rfl) ?_ _ | skip)
          rename_i hKm
          refine hKm _ _ ?_
          clear hKm
          go_meet
          exact ⟨gb, gh, rfl, rfl, leJ hne HBY hgb0 hgh0, HV1.out, HV2.out, (btrJ HBY HBV.out).out⟩
      ·
        go_simp
        obtain ⟨y2, hy⟩ : ∃ x, x = y1.alloc (.cells #[.int .i64 0, .int .i64 0, .int .i64 0, .int .i64 0] 182) := ⟨_, rfl⟩
        have bs : Below y1.heap.size y1 y2 := by rw [hy]; exact bnewK _ _
        have HB2 := btrJ HB1 bs
        have HM2 : Hid (y2.heap[y1.heap.size]? = some Z4) := by show _ = _; rw [hy]; exact heap_alloc_new _ _
        rw [← hy]
        clear bs hy
        (first | refine ⟨fun _ => HB2.out, ?_⟩ | refine ⟨HB2.out, ?_⟩)
        try simp only [Act.put]
        try simp only [List.setIfInBounds_toArray]
        try simp only [List.set_cons_zero, List.set_cons_succ]
        refine anyH_two (i := 4) (j := 7) (by kernel_rfl) (op_plainW rfl (by rfl) (by simp) ?_) (op_plainW rfl (by rfl) (by simp) ?_)
        ·
          go_simp
          refine (HO4.out _).mono ?_
          rintro e y3 ⟨rfl, bs⟩
          have HB3 := btrJ HB2 bs
          have HM3 : Hid (y3.heap[y1.heap.size]? = some Z4) := blk_keep HM2.out bs
          clear bs
          (first | refine ⟨fun _ => HB3.out, ?_⟩ | refine ⟨HB3.out, ?_⟩)
          try simp only [Act.put]
          try simp only [List.setIfInBounds_toArray]
          try simp only [List.set_cons_zero, List.set_cons_succ]
          refine anyH_take hFr (by kernel_rfl) (i := 5) (v := ?_) (d := some 14) (by kernel_rfl) rfl rfl (by kernel_rfl) (by kernel_rfl) (by kernel_rfl) (fun _ _ _ h => h) HB3.out (Or.inl ⟨by rfl, fun w hSw => ?_⟩) ?_
          rotate_left
          · have hfN := fieldN
            go_simp
            all_goals (try (first | with_reducible rfl | omega))
          try simp only [Act.put]
          try simp only [List.setIfInBounds_toArray]
          try simp only [List.set_cons_zero, List.set_cons_succ]
          refine anyH_one (i := 7) (by kernel_rfl) (op_plainW rfl (by rfl) (by simp) ?_)
          go_simp
          obtain ⟨y4, hy⟩ : ∃ x, x = y3.alloc (.cells #[.int .i64 0, .int .i64 0, .int .i64 0, .int .i64 0] 182) := ⟨_, rfl⟩
          have bs : Below y3.heap.size y3 y4 := by rw [hy]; exact bnewK _ _
          have HB4 := btrJ HB3 bs
          have HM4 : Hid (y4.heap[y1.heap.size]? = some Z4) := blk_keep HM3.out bs
          have HN4 : Hid (y4.heap[y3.heap.size]? = some Z4) := by show _ = _; rw [hy]; exact heap_alloc_new _ _
          have hlt := (Array.getElem?_eq_some_iff.1 HM3.out).1
          have HNe : Hid (y1.heap.size ≠ y3.heap.size) := fun e => by omega
          rw [← hy]
          clear bs hy hlt
          (first | refine ⟨fun _ => HB4.out, ?_⟩ | refine ⟨HB4.out, ?_⟩)
          try simp only [Act.put]
          try simp only [List.setIfInBounds_toArray]
          try simp only [List.set_cons_zero, List.set_cons_succ]
          obtain ⟨gb, hgb⟩ : ∃ g, g = y1.heap.size := ⟨_, rfl⟩
          obtain ⟨gh, hgh⟩ : ∃ g, g = y3.heap.size := ⟨_, rfl⟩
          have hne : gb ≠ gh := by rw [hgb, hgh]; exact HNe.out
          have hm : y4.heap[gb]? = some Z4 := by rw [hgb]; exact HM4.out
          have hn : y4.heap[gh]? = some Z4 := by rw [hgh]; exact HN4.out
          have hgb0 : y0.heap.size ≤ gb := by rw [hgb]; first | exact Nat.le_refl _ | exact HB1.out.size
          have hgh0 : y0.heap.size ≤ gh := by rw [hgh]; first | exact Nat.le_refl _ | exact HB3.out.size
          rw [← hgb, ← hgh]
          have hB := HB4.out
          obtain ⟨y, hy⟩ : ∃ y, y = y4 := ⟨_, rfl⟩
          rw [← hy] at hm hn hB ⊢
          clear hgb hgh HNe hy HB4 HM4 HN4
          obtain ⟨z0, z1, z2, z3, zf, zl⟩ := row4_cells hm
          refine anyH_one (i := 8) (by kernel_rfl) (op_plainW rfl (by rfl) (by simp) ?_)
          go_simp
          obtain ⟨U, hU⟩ : ∃ U, U = ((((y.setCell ⟨gb, 0, none⟩ (.int .i64 t.a)).setCell ⟨gb, 1, none⟩ (.int .i64 t.b)).setCell ⟨gb, 2, none⟩ (.int .i64 t.c)).setCell ⟨gb, 3, none⟩ (.int .i64 t.d)) := ⟨_, rfl⟩
          have HU1 : Hid (U.heap[gb]? = some (T4 t)) := at4J hU hm
          have hn2 : U.heap[gh]? = some Z4 := by rw [hU]; exact put4_other hn (Ne.symm hne)
          have HBU : Hid (Below y0.heap.size y0 U) := by rw [hU]; exact put4_below hB hgb0
          rw [← hU]
          clear hU z0 z1 z2 z3 zf zl hm hn hB
          (first | refine ⟨fun _ => HBU.out, ?_⟩ | refine ⟨HBU.out, ?_⟩)
          try simp only [Act.put]
          try simp only [List.setIfInBounds_toArray]
          try simp only [List.set_cons_zero, List.set_cons_succ]
          obtain ⟨z0, z1, z2, z3, zf, zl⟩ := row4_cells hn2
          refine anyH_one (i := 9) (by kernel_rfl) (op_plainW rfl (by rfl) (by simp) ?_)
          go_simp
          (first | refine ⟨by kernel_rfl, ?_⟩ | skip)
          obtain ⟨V, hV⟩ : ∃ V, V = ((((U.setCell ⟨gh, 0, none⟩ (.int .i64 t2.a)).setCell ⟨gh, 1, none⟩ (.int .i64 t2.b)).setCell ⟨gh, 2, none⟩ (.int .i64 t2.c)).setCell ⟨gh, 3, none⟩ (.int .i64 t2.d)) := ⟨_, rfl⟩
          have HV2 : Hid (V.heap[gh]? = some (T4 t2)) := at4J hV hn2
          have HV1 : Hid (V.heap[gb]? = some (T4 t)) := by show _ = _; rw [hV]; exact put4_other HU1.out hne
          have HBV : Hid (Below y0.heap.size y0 V) := by rw [hV]; exact put4_below HBU.out hgh0
          rw [← hV]
          clear hV z0 z1 z2 z3 zf zl hn2
          try simp only [Act.put]
          try simp only [List.setIfInBounds_toArray]
          try simp only [List.set_cons_zero, List.set_cons_succ]
          (first | refine anyH_done (by kernel_rfl) ?_ _ | skip)
          rename_i hKm
          refine hKm _ _ ?_
          clear hKm
          go_meet
          exact ⟨gb, gh, rfl, rfl, leJ hne HBY hgb0 hgh0, HV1.out, HV2.out, (btrJ HBY HBV.out).out⟩
        ·
          go_simp
          obtain ⟨y3, hy⟩ : ∃ x, x = y2.alloc (.cells #[.int .i64 0, .int .i64 0, .int .i64 0, .int .i64 0] 182) := ⟨_, rfl⟩
          have bs : Below y2.heap.size y2 y3 := by rw [hy]; exact bnewK _ _
          have HB3 := btrJ HB2 bs
          have HM3 : Hid (y3.heap[y1.heap.size]? = some Z4) := blk_keep HM2.out bs
          have HN3 : Hid (y3.heap[y2.heap.size]? = some Z4) := by show _ = _; rw [hy]; exact heap_alloc_new _ _
          have hlt := (Array.getElem?_eq_some_iff.1 HM2.out).1
          have HNe : Hid (y1.heap.size ≠ y2.heap.size) := fun e => by omega
          rw [← hy]
          clear bs hy hlt
          (first | refine ⟨fun _ => HB3.out, ?_⟩ | refine ⟨HB3.out, ?_⟩)
          try simp only [Act.put]
          try simp only [List.setIfInBounds_toArray]
          try simp only [List.set_cons_zero, List.set_cons_succ]
          refine anyH_one (i := 4) (by kernel_rfl) (op_plainW rfl (by rfl) (by simp) ?_)
          go_simp
          refine (HO4.out _).mono ?_
          rintro e y4 ⟨rfl, bs⟩
          have HB4 := btrJ HB3 bs
          have HM4 : Hid (y4.heap[y1.heap.size]? = some Z4) := blk_keep HM3.out bs
          have HN4 : Hid (y4.heap[y2.heap.size]? = some Z4) := blk_keep HN3.out bs
          clear bs
          (first | refine ⟨fun _ => HB4.out, ?_⟩ | refine ⟨HB4.out, ?_⟩)
          try simp only [Act.put]
          try simp only [List.setIfInBounds_toArray]
          try simp only [List.set_cons_zero, List.set_cons_succ]
          refine anyH_take hFr (by kernel_rfl) (i := 5) (v := ?_) (d := some 14) (by kernel_rfl) rfl rfl (by kernel_rfl) (by kernel_rfl) (by kernel_rfl) (fun _ _ _ h => h) HB4.out (Or.inl ⟨by rfl, fun w hSw => ?_⟩) ?_
          rotate_left
          · have hfN := fieldN
            go_simp
            all_goals (try (first | with_reducible rfl | omega))
          try simp only [Act.put]
          try simp only [List.setIfInBounds_toArray]
          try simp only [List.set_cons_zero, List.set_cons_succ]
          obtain ⟨gb, hgb⟩ : ∃ g, g = y1.heap.size := ⟨_, rfl⟩
          obtain ⟨gh, hgh⟩ : ∃ g, g = y2.heap.size := ⟨_, rfl⟩
          have hne : gb ≠ gh := by rw [hgb, hgh]; exact HNe.out
          have hm : y4.heap[gb]? = some Z4 := by rw [hgb]; exact HM4.out
          have hn : y4.heap[gh]? = some Z4 := by rw [hgh]; exact HN4.out
          have hgb0 : y0.heap.size ≤ gb := by rw [hgb]; first | exact Nat.le_refl _ | exact HB1.out.size
          have hgh0 : y0.heap.size ≤ gh := by rw [hgh]; first | exact Nat.le_refl _ | exact HB2.out.size
          rw [← hgb, ← hgh]
          have hB := HB4.out
          obtain ⟨y, hy⟩ : ∃ y, y = y4 := ⟨_, rfl⟩
          rw [← hy] at hm hn hB ⊢
          clear hgb hgh HNe hy HB4 HM4 HN4
          obtain ⟨z0, z1, z2, z3, zf, zl⟩ := row4_cells hm
          refine anyH_one (i := 8) (by kernel_rfl) (op_plainW rfl (by rfl) (by simp) ?_)
          go_simp
          obtain ⟨U, hU⟩ : ∃ U, U = ((((y.setCell ⟨gb, 0, none⟩ (.int .i64 t.a)).setCell ⟨gb, 1, none⟩ (.int .i64 t.b)).setCell ⟨gb, 2, none⟩ (.int .i64 t.c)).setCell ⟨gb, 3, none⟩ (.int .i64 t.d)) := ⟨_, rfl⟩
          have HU1 : Hid (U.heap[gb]? = some (T4 t)) := at4J hU hm
          have hn2 : U.heap[gh]? = some Z4 := by rw [hU]; exact put4_other hn (Ne.symm hne)
          have HBU : Hid (Below y0.heap.size y0 U) := by rw [hU]; exact put4_below hB hgb0
          rw [← hU]
          clear hU z0 z1 z2 z3 zf zl hm hn hB
          (first | refine ⟨fun _ => HBU.out, ?_⟩ | refine ⟨HBU.out, ?_⟩)
          try simp only [Act.put]
          try simp only [List.setIfInBounds_toArray]
          try simp only [List.set_cons_zero, List.set_cons_succ]
          obtain ⟨z0, z1, z2, z3, zf, zl⟩ := row4_cells hn2
          refine anyH_one (i := 9) (by kernel_rfl) (op_plainW rfl (by rfl) (by simp) ?_)
          go_simp
          (first | refine ⟨by kernel_rfl, ?_⟩ | skip)
          obtain ⟨V, hV⟩ : ∃ V, V = ((((U.setCell ⟨gh, 0, none⟩ (.int .i64 t2.a)).setCell ⟨gh, 1, none⟩ (.int .i64 t2.b)).setCell ⟨gh, 2, none⟩ (.int .i64 t2.c)).setCell ⟨gh, 3, none⟩ (.int .i64 t2.d)) := ⟨_, rfl⟩
          have HV2 : Hid (V.heap[gh]? = some (T4 t2)) := at4J hV hn2
          have HV1 : Hid (V.heap[gb]? = some (T4 t)) := by show _ = _; rw [hV]; exact put4_other HU1.out hne
          have HBV : Hid (Below y0.heap.size y0 V) := by rw [hV]; exact put4_below HBU.out hgh0
          rw [← hV]
          clear hV z0 z1 z2 z3 zf zl hn2
          try simp only [Act.put]
          try simp only [List.setIfInBounds_toArray]
          try simp only [List.set_cons_zero, List.set_cons_succ]
          (first | refine anyH_done (by kernel_rfl) ?_ _ | skip)
          rename_i hKm
          refine hKm _ _ ?_
          clear hKm
          go_meet
          exact ⟨gb, gh, rfl, rfl, leJ hne HBY hgb0 hgh0, HV1.out, HV2.out, (btrJ HBY HBV.out).out⟩
      ·
        go_simp
        obtain ⟨y2, hy⟩ : ∃ x, x = y1.alloc (.cells #[.int .i64 0, .int .i64 0, .int .i64 0, .int .i64 0] 182) := ⟨_, rfl⟩
        have bs : Below y1.heap.size y1 y2 := by rw [hy]; exact bnewK _ _
        have HB2 := btrJ HB1 bs
        have HN2 : Hid (y2.heap[y1.heap.size]? = some Z4) := by show _ = _; rw [hy]; exact heap_alloc_new _ _
        rw [← hy]
        clear bs hy
        (first | refine ⟨fun _ => HB2.out, ?_⟩ | refine ⟨HB2.out, ?_⟩)
        try simp only [Act.put]
        try simp only [List.setIfInBounds_toArray]
        try simp only [List.set_cons_zero, List.set_cons_succ]
        refine anyH_two (i := 4) (j := 6) (by kernel_rfl) (op_plainW rfl (by rfl) (by simp) ?_) (op_plainW rfl (by rfl) (by simp) ?_)
        ·
          go_simp
          refine (HO4.out _).mono ?_
          rintro e y3 ⟨rfl, bs⟩
          have HB3 := btrJ HB2 bs
          have HN3 : Hid (y3.heap[y1.heap.size]? = some Z4) := blk_keep HN2.out bs
          clear bs
          (first | refine ⟨fun _ => HB3.out, ?_⟩ | refine ⟨HB3.out, ?_⟩)
          try simp only [Act.put]
          try simp only [List.setIfInBounds_toArray]
          try simp only [List.set_cons_zero, List.set_cons_succ]
          refine anyH_take hFr (by kernel_rfl) (i := 5) (v := ?_) (d := some 14) (by kernel_rfl) rfl rfl (by kernel_rfl) (by kernel_rfl) (by kernel_rfl) (fun _ _ _ h => h) HB3.out (Or.inl ⟨by rfl, fun w hSw => ?_⟩) ?_
          rotate_left
          · have hfN := fieldN
            go_simp
            all_goals (try (first | with_reducible rfl | omega))
          try simp only [Act.put]
          try simp only [List.setIfInBounds_toArray]
          try simp only [List.set_cons_zero, List.set_cons_succ]
          refine anyH_one (i := 6) (by kernel_rfl) (op_plainW rfl (by rfl) (by simp) ?_)
          go_simp
          obtain ⟨y4, hy⟩ : ∃ x, x = y3.alloc (.cells #[.int .i64 0, .int .i64 0, .int .i64 0, .int .i64 0] 182) := ⟨_, rfl⟩
          have bs : Below y3.heap.size y3 y4 := by rw [hy]; exact bnewK _ _
          have HB4 := btrJ HB3 bs
          have HN4 : Hid (y4.heap[y1.heap.size]? = some Z4) := blk_keep HN3.out bs
          have HM4 : Hid (y4.heap[y3.heap.size]? = some Z4) := by show _ = _; rw [hy]; exact heap_alloc_new _ _
          have hlt := (Array.getElem?_eq_some_iff.1 HN3.out).1
          have HNe : Hid (y3.heap.size ≠ y1.heap.size) := fun e => by omega
          rw [← hy]
          clear bs hy hlt
          (first | refine ⟨fun _ => HB4.out, ?_⟩ | refine ⟨HB4.out, ?_⟩)
          try simp only [Act.put]
          try simp only [List.setIfInBounds_toArray]
          try simp only [List.set_cons_zero, List.set_cons_succ]
          obtain ⟨gb, hgb⟩ : ∃ g, g = y3.heap.size := ⟨_, rfl⟩
          obtain ⟨gh, hgh⟩ : ∃ g, g = y1.heap.size := ⟨_, rfl⟩
          have hne : gb ≠ gh := by rw [hgb, hgh]; exact HNe.out
          have hm : y4.heap[gb]? = some Z4 := by rw [hgb]; exact HM4.out
          have hn : y4.heap[gh]? = some Z4 := by rw [hgh]; exact HN4.out
          have hgb0 : y0.heap.size ≤ gb := by rw [hgb]; first | exact Nat.le_refl _ | exact HB3.out.size
          have hgh0 : y0.heap.size ≤ gh := by rw [hgh]; first | exact Nat.le_refl _ | exact HB1.out.size
          rw [← hgb, ← hgh]
          have hB := HB4.out
          obtain ⟨y, hy⟩ : ∃ y, y = y4 := ⟨_, rfl⟩
          rw [← hy] at hm hn hB ⊢
          clear hgb hgh HNe hy HB4 HM4 HN4
          obtain ⟨z0, z1, z2, z3, zf, zl⟩ := row4_cells hm
          refine anyH_one (i := 8) (by kernel_rfl) (op_plainW rfl (by rfl) (by simp) ?_)
          go_simp
          obtain ⟨U, hU⟩ : ∃ U, U = ((((y.setCell ⟨gb, 0, none⟩ (.int .i64 t.a)).setCell ⟨gb, 1, none⟩ (.int .i64 t.b)).setCell ⟨gb, 2, none⟩ (.int .i64 t.c)).setCell ⟨gb, 3, none⟩ (.int .i64 t.d)) := ⟨_, rfl⟩
          have HU1 : Hid (U.heap[gb]? = some (T4 t)) := at4J hU hm
          have hn2 : U.heap[gh]? = some Z4 := by rw [hU]; exact put4_other hn (Ne.symm hne)
          have HBU : Hid (Below y0.heap.size y0 U) := by rw [hU]; exact put4_below hB hgb0
          rw [← hU]
          clear hU z0 z1 z2 z3 zf zl hm hn hB
          (first | refine ⟨fun _ => HBU.out, ?_⟩ | refine ⟨HBU.out, ?_⟩)
          try simp only [Act.put]
          try simp only [List.setIfInBounds_toArray]
          try simp only [List.set_cons_zero, List.set_cons_succ]
          obtain ⟨z0, z1, z2, z3, zf, zl⟩ := row4_cells hn2
          refine anyH_one (i := 9) (by kernel_rfl) (op_plainW rfl (by rfl) (by simp) ?_)
          go_simp
          (first | refine ⟨by kernel_rfl, ?_⟩ | skip)
          obtain ⟨V, hV⟩ : ∃ V, V = ((((U.setCell ⟨gh, 0, none⟩ (.int .i64 t2.a)).setCell ⟨gh, 1, none⟩ (.int .i64 t2.b)).setCell ⟨gh, 2, none⟩ (.int .i64 t2.c)).setCell ⟨gh, 3, none⟩ (.int .i64 t2.d)) := ⟨_, rfl⟩
          have HV2 : Hid (V.heap[gh]? = some (T4 t2)) := at4J hV hn2
          have HV1 : Hid (V.heap[gb]? = some (T4 t)) := by show _ = _; rw [hV]; exact put4_other HU1.out hne
          have HBV : Hid (Below y0.heap.size y0 V) := by rw [hV]; exact put4_below HBU.out hgh0
          rw [← hV]
          clear hV z0 z1 z2 z3 zf zl hn2
          try simp only [Act.put]
          try simp only [List.setIfInBounds_toArray]
          try simp only [List.set_cons_zero, List.set_cons_succ]
          (first | refine anyH_done (by kernel_rfl) ?_ _ | skip)
          rename_i hKm
          refine hKm _ _ ?_
          clear hKm
          go_meet
          exact ⟨gb, gh, rfl, rfl, leJ hne HBY hgb0 hgh0, HV1.out, HV2.out, (btrJ HBY HBV.out).out⟩
        ·
          go_simp
          obtain ⟨y3, hy⟩ : ∃ x, x = y2.alloc (.cells #[.int .i64 0, .int .i64 0, .int .i64 0, .int .i64 0] 182) := ⟨_, rfl⟩
          have bs : Below y2.heap.size y2 y3 := by rw [hy]; exact bnewK _ _
          have HB3 := btrJ HB2 bs
          have HN3 : Hid (y3.heap[y1.heap.size]? = some Z4) := blk_keep HN2.out bs
          have HM3 : Hid (y3.heap[y2.heap.size]? = some Z4) := by show _ = _; rw [hy]; exact heap_alloc_new _ _
          have hlt := (Array.getElem?_eq_some_iff.1 HN2.out).1
          have HNe : Hid (y2.heap.size ≠ y1.heap.size) := fun e => by omega
          rw [← hy]
          clear bs hy hlt
          (first | refine ⟨fun _ => HB3.out, ?_⟩ | refine ⟨HB3.out, ?_⟩)
          try simp only [Act.put]
          try simp only [List.setIfInBounds_toArray]
          try simp only [List.set_cons_zero, List.set_cons_succ]
          refine anyH_one (i := 4) (by kernel_rfl) (op_plainW rfl (by rfl) (by simp) ?_)
          go_simp
          refine (HO4.out _).mono ?_
          rintro e y4 ⟨rfl, bs⟩
          have HB4 := btrJ HB3 bs
          have HM4 : Hid (y4.heap[y2.heap.size]? = some Z4) := blk_keep HM3.out bs
          have HN4 : Hid (y4.heap[y1.heap.size]? = some Z4) := blk_keep HN3.out bs
          clear bs
          (first | refine ⟨fun _ => HB4.out, ?_⟩ | refine ⟨HB4.out, ?_⟩)
          try simp only [Act.put]
          try simp only [List.setIfInBounds_toArray]
          try simp only [List.set_cons_zero, List.set_cons_succ]
          refine anyH_take hFr (by kernel_rfl) (i := 5) (v := ?_) (d := some 14) (by kernel_rfl) rfl rfl (by kernel_rfl) (by kernel_rfl) (by kernel_rfl) (fun _ _ _ h => h) HB4.out (Or.inl ⟨by rfl, fun w hSw => ?_⟩) ?_
          rotate_left
          · have hfN := fieldN
            go_simp
            all_goals (try (first | with_reducible rfl | omega))
          try simp only [Act.put]
          try simp only [List.setIfInBounds_toArray]
          try simp only [List.set_cons_zero, List.set_cons_succ]
          obtain ⟨gb, hgb⟩ : ∃ g, g = y2.heap.size := ⟨_, rfl⟩
          obtain ⟨gh, hgh⟩ : ∃ g, g = y1.heap.size := ⟨_, rfl⟩
          have hne : gb ≠ gh := by rw [hgb, hgh]; exact HNe.out
          have hm : y4.heap[gb]? = some Z4 := by rw [hgb]; exact HM4.out
          have hn : y4.heap[gh]? = some Z4 := by rw [hgh]; exact HN4.out
          have hgb0 : y0.heap.size ≤ gb := by rw [hgb]; first | exact Nat.le_refl _ | exact HB2.out.size
          have hgh0 : y0.heap.size ≤ gh := by rw [hgh]; first | exact Nat.le_refl _ | exact HB1.out.size
          rw [← hgb, ← hgh]
          have hB := HB4.out
          obtain ⟨y, hy⟩ : ∃ y, y = y4 := ⟨_, rfl⟩
          rw [← hy] at hm hn hB ⊢
          clear hgb hgh HNe hy HB4 HM4 HN4
          obtain ⟨z0, z1, z2, z3, zf, zl⟩ := row4_cells hm
          refine anyH_one (i := 8) (by kernel_rfl) (op_plainW rfl (by rfl) (by simp) ?_)
          go_simp
          obtain ⟨U, hU⟩ : ∃ U, U = ((((y.setCell ⟨gb, 0, none⟩ (.int .i64 t.a)).setCell ⟨gb, 1, none⟩ (.int .i64 t.b)).setCell ⟨gb, 2, none⟩ (.int .i64 t.c)).setCell ⟨gb, 3, none⟩ (.int .i64 t.d)) := ⟨_, rfl⟩
          have HU1 : Hid (U.heap[gb]? = some (T4 t)) := at4J hU hm
          have hn2 : U.heap[gh]? = some Z4 := by rw [hU]; exact put4_other hn (Ne.symm hne)
          have HBU : Hid (Below y0.heap.size y0 U) := by rw [hU]; exact put4_below hB hgb0
          rw [← hU]
          clear hU z0 z1 z2 z3 zf zl hm hn hB
          (first | refine ⟨fun _ => HBU.out, ?_⟩ | refine ⟨HBU.out, ?_⟩)
          try simp only [Act.put]
          try simp only [List.setIfInBounds_toArray]
          try simp only [List.set_cons_zero, List.set_cons_succ]
          obtain ⟨z0, z1, z2, z3, zf, zl⟩ := row4_cells hn2
          refine anyH_one (i := 9) (by kernel_rfl) (op_plainW rfl (by rfl) (by simp) ?_)
          go_simp
          (first | refine ⟨by kernel_rfl, ?_⟩ | skip)
          obtain ⟨V, hV⟩ : ∃ V, V = ((((U.setCell ⟨gh, 0, none⟩ (.int .i64 t2.a)).setCell ⟨gh, 1, none⟩ (.int .i64 t2.b)).setCell ⟨gh, 2, none⟩ (.int .i64 t2.c)).setCell ⟨gh, 3, none⟩ (.int .i64 t2.d)) := ⟨_, rfl⟩
          have HV2 : Hid (V.heap[gh]? = some (T4 t2)) := at4J hV hn2
          have HV1 : Hid (V.heap[gb]? = some (T4 t)) := by show _ = _; rw [hV]; exact put4_other HU1.out hne
          have HBV : Hid (Below y0.heap.size y0 V) := by rw [hV]; exact put4_below HBU.out hgh0
          rw [← hV]
          clear hV z0 z1 z2 z3 zf zl hn2
          try simp only [Act.put]
          try simp only [List.setIfInBounds_toArray]
          try simp only [List.set_cons_zero, List.set_cons_succ]
          (first | refine anyH_done (by kernel_rfl) ?_ _ | skip)
          rename_i hKm
          refine hKm _ _ ?_
          clear hKm
          go_meet
          exact ⟨gb, gh, rfl, rfl, leJ hne HBY hgb0 hgh0, HV1.out, HV2.out, (btrJ HBY HBV.out).out⟩
    ·
      go_simp
      obtain ⟨y1, hy⟩ : ∃ x, x = y0.alloc (.cells #[.int .i64 0, .int .i64 0, .int .i64 0, .int .i64 0] 182) := ⟨_, rfl⟩
      have bs : Below y0.heap.size y0 y1 := by rw [hy]; exact bnewK _ _
      have HB1 := btrJ HB0 bs
      have HM1 : Hid (y1.heap[y0.heap.size]? = some Z4) := by show _ = _; rw [hy]; exact heap_alloc_new _ _
      rw [← hy]
      clear bs hy
      (first | refine ⟨fun _ => HB1.out, ?_⟩ | refine ⟨HB1.out, ?_⟩)
      try simp only [Act.put]
      try simp only [List.setIfInBounds_toArray]
      try simp only [List.set_cons_zero, List.set_cons_succ]
      refine anyH_two (i := 1) (j := 7) (by kernel_rfl) (op_plainW rfl (by rfl) (by simp) ?_) (op_plainW rfl (by rfl) (by simp) ?_)
      ·
        go_simp
        refine (HO1.out _).mono ?_
        rintro e y2 ⟨rfl, bs⟩
        have HB2 := btrJ HB1 bs
        have HM2 : Hid (y2.heap[y0.heap.size]? = some Z4) := blk_keep HM1.out bs
        clear bs
        (first | refine ⟨fun _ => HB2.out, ?_⟩ | refine ⟨HB2.out, ?_⟩)
        try simp only [Act.put]
        try simp only [List.setIfInBounds_toArray]
        try simp only [List.set_cons_zero, List.set_cons_succ]
        refine anyH_take hFr (by kernel_rfl) (i := 2) (v := ?_) (d := some 11) (by kernel_rfl) rfl rfl (by kernel_rfl) (by kernel_rfl) (by kernel_rfl) (fun _ _ _ h => h) HB2.out (Or.inl ⟨by rfl, fun w hSw => ?_⟩) ?_
        rotate_left
        · have hfN := fieldN
          go_simp
          all_goals (try (first | with_reducible rfl | omega))
        try simp only [Act.put]
        try simp only [List.setIfInBounds_toArray]
        try simp only [List.set_cons_zero, List.set_cons_succ]
        refine anyH_two (i := 4) (j := 7) (by kernel_rfl) (op_plainW rfl (by rfl) (by simp) ?_) (op_plainW rfl (by rfl) (by simp) ?_)
        ·
          go_simp
          refine (HO4.out _).mono ?_
          rintro e y3 ⟨rfl, bs⟩
          have HB3 := btrJ HB2 bs
          have HM3 : Hid (y3.heap[y0.heap.size]? = some Z4) := blk_keep HM2.out bs
          clear bs
          (first | refine ⟨fun _ => HB3.out, ?_⟩ | refine ⟨HB3.out, ?_⟩)
          try simp only [Act.put]
          try simp only [List.setIfInBounds_toArray]
          try simp only [List.set_cons_zero, List.set_cons_succ]
          refine anyH_take hFr (by kernel_rfl) (i := 5) (v := ?_) (d := some 14) (by kernel_rfl) rfl rfl (by kernel_rfl) (by kernel_rfl) (by kernel_rfl) (fun _ _ _ h => h) HB3.out (Or.inl ⟨by rfl, fun w hSw => ?_⟩) ?_
          rotate_left
          · have hfN := fieldN
            go_simp
            all_goals (try (first | with_reducible rfl | omega))
          try simp only [Act.put]
          try simp only [List.setIfInBounds_toArray]
          try simp only [List.set_cons_zero, List.set_cons_succ]
          refine anyH_one (i := 7) (by kernel_rfl) (op_plainW rfl (by rfl) (by simp) ?_)
          go_simp
          obtain ⟨y4, hy⟩ : ∃ x, x = y3.alloc (.cells #[.int .i64 0, .int .i64 0, .int .i64 0, .int .i64 0] 182) := ⟨_, rfl⟩
          have bs : Below y3.heap.size y3 y4 := by rw [hy]; exact bnewK _ _
          have HB4 := btrJ HB3 bs
          have HM4 : Hid (y4.heap[y0.heap.size]? = some Z4) := blk_keep HM3.out bs
          have HN4 : Hid (y4.heap[y3.heap.size]? = some Z4) := by show _ = _; rw [hy]; exact heap_alloc_new _ _
          have hlt := (Array.getElem?_eq_some_iff.1 HM3.out).1
          have HNe : Hid (y0.heap.size ≠ y3.heap.size) := fun e => by omega
          rw [← hy]
          clear bs hy hlt
          (first | refine ⟨fun _ => HB4.out, ?_⟩ | refine ⟨HB4.out, ?_⟩)
          try simp only [Act.put]
          try simp only [List.setIfInBounds_toArray]
          try simp only [List.set_cons_zero, List.set_cons_succ]
          obtain ⟨gb, hgb⟩ : ∃ g, g = y0.heap.size := ⟨_, rfl⟩
          obtain ⟨gh, hgh⟩ : ∃ g, g = y3.heap.size := ⟨_, rfl⟩
          have hne : gb ≠ gh := by rw [hgb, hgh]; exact HNe.out
          have hm : y4.heap[gb]? = some Z4 := by rw [hgb]; exact HM4.out
          have hn : y4.heap[gh]? = some Z4 := by rw [hgh]; exact HN4.out
          have hgb0 : y0.heap.size ≤ gb := by rw [hgb]; first | exact Nat.le_refl _ | exact HB0.out.size
          have hgh0 : y0.heap.size ≤ gh := by rw [hgh]; first | exact Nat.le_refl _ | exact HB3.out.size
          rw [← hgb, ← hgh]
          have hB := HB4.out
          obtain ⟨y, hy⟩ : ∃ y, y = y4 := ⟨_, rfl⟩
          rw [← hy] at hm hn hB ⊢
          clear hgb hgh HNe hy HB4 HM4 HN4
          obtain ⟨z0, z1, z2, z3, zf, zl⟩ := row4_cells hm
          refine anyH_one (i := 8) (by kernel_rfl) (op_plainW rfl (by rfl) (by simp) ?_)
          go_simp
          obtain ⟨U, hU⟩ : ∃ U, U = ((((y.setCell ⟨gb, 0, none⟩ (.int .i64 t.a)).setCell ⟨gb, 1, none⟩ (.int .i64 t.b)).setCell ⟨gb, 2, none⟩ (.int .i64 t.c)).setCell ⟨gb, 3, none⟩ (.int .i64 t.d)) := ⟨_, rfl⟩
          have HU1 : Hid (U.heap[gb]? = some (T4 t)) := at4J hU hm
          have hn2 : U.heap[gh]? = some Z4 := by rw [hU]; exact put4_other hn (Ne.symm hne)
          have HBU : Hid (Below y0.heap.size y0 U) := by rw [hU]; exact put4_below hB hgb0
          rw [← hU]
          clear hU z0 z1 z2 z3 zf zl hm hn hB
          (first | refine ⟨fun _ => HBU.out, ?_⟩ | refine ⟨HBU.out, ?_⟩)
          try simp only [Act.put]
          try simp only [List.setIfInBounds_toArray]
          try simp only [List.set_cons_zero, List.set_cons_succ]
          obtain ⟨z0, z1, z2, z3, zf, zl⟩ := row4_cells hn2
          refine anyH_one (i := 9) (by kernel_rfl) (op_plainW rfl (by rfl) (by simp) ?_)
          go_simp
          (first | refine ⟨by kernel_rfl, ?_⟩ | skip)
          obtain ⟨V, hV⟩ : ∃ V, V = ((((U.setCell ⟨gh, 0, none⟩ (.int .i64 t2.a)).setCell ⟨gh, 1, none⟩ (.int .i64 t2.b)).setCell ⟨gh, 2, none⟩ (.int .i64 t2.c)).setCell ⟨gh, 3, none⟩ (.int .i64 t2.d)) := ⟨_, rfl⟩
          have HV2 : Hid (V.heap[gh]? = some (T4 t2)) := at4J hV hn2
          have HV1 : Hid (V.heap[gb]? = some (T4 t)) := by show _ = _; rw [hV]; exact put4_other HU1.out hne
          have HBV : Hid (Below y0.heap.size y0 V) := by rw [hV]; exact put4_below HBU.out hgh0
          rw [← hV]
          clear hV z0 z1 z2 z3 zf zl hn2
          try simp only [Act.put]
          try simp only [List.setIfInBounds_toArray]
          try simp only [List.set_cons_zero, List.set_cons_succ]
          (first | refine anyH_done (by kernel_rfl) ?_ _ | skip)
          rename_i hKm
          refine hKm _ _ ?_
          clear hKm
          go_meet
          exact ⟨gb, gh, rfl, rfl, leJ hne HBY hgb0 hgh0, HV1.out, HV2.out, (btrJ HBY HBV.out).out⟩
        ·
          go_simp
          obtain ⟨y3, hy⟩ : ∃ x, x = y2.alloc (.cells #[.int .i64 0, .int .i64 0, .int .i64 0, .int .i64 0] 182) := ⟨_, rfl⟩
          have bs : Below y2.heap.size y2 y3 := by rw [hy]; exact bnewK _ _
          have HB3 := btrJ HB2 bs
          have HM3 : Hid (y3.heap[y0.heap.size]? = some Z4) := blk_keep HM2.out bs
          have HN3 : Hid (y3.heap[y2.heap.size]? = some Z4) := by show _ = _; rw [hy]; exact heap_alloc_new _ _
          have hlt := (Array.getElem?_eq_some_iff.1 HM2.out).1
          have HNe : Hid (y0.heap.size ≠ y2.heap.size) := fun e => by omega
          rw [← hy]
          clear bs hy hlt
          (first | refine ⟨fun _ => HB3.out, ?_⟩ | refine ⟨HB3.out, ?_⟩)
          try simp only [Act.put]
          try simp only [List.setIfInBounds_toArray]
          try simp only [List.set_cons_zero, List.set_cons_succ]
          refine anyH_one (i := 4) (by kernel_rfl) (op_plainW rfl (by rfl) (by simp) ?_)
          go_simp
          refine (HO4.out _).mono ?_
          rintro e y4 ⟨rfl, bs⟩
          have HB4 := btrJ HB3 bs
          have HM4 : Hid (y4.heap[y0.heap.size]? = some Z4) := blk_keep HM3.out bs
          have HN4 : Hid (y4.heap[y2.heap.size]? = some Z4) := blk_keep HN3.out bs
          clear bs
          (first | refine ⟨fun _ => HB4.out, ?_⟩ | refine ⟨HB4.out, ?_⟩)
          try simp only [Act.put]
          try simp only [List.setIfInBounds_toArray]
          try simp only [List.set_cons_zero, List.set_cons_succ]
          refine anyH_take hFr (by kernel_rfl) (i := 5) (v := ?_) (d := some 14) (by kernel_rfl) rfl rfl (by kernel_rfl) (by kernel_rfl) (by kernel_rfl) (fun _ _ _ h => h) HB4.out (Or.inl ⟨by rfl, fun w hSw => ?_⟩) ?_
          rotate_left
          · have hfN := fieldN
            go_simp
            all_goals (try (first | with_reducible rfl | omega))
          try simp only [Act.put]
          try simp only [List.setIfInBounds_toArray]
          try simp only [List.set_cons_zero, List.set_cons_succ]
          obtain ⟨gb, hgb⟩ : ∃ g, g = y0.heap.size := ⟨_, rfl⟩
          obtain ⟨gh, hgh⟩ : ∃ g, g = y2.heap.size := ⟨_, rfl⟩
          have hne : gb ≠ gh := by rw [hgb, hgh]; exact HNe.out
          have hm : y4.heap[gb]? = some Z4 := by rw [hgb]; exact HM4.out
          have hn : y4.heap[gh]? = some Z4 := by rw [hgh]; exact HN4.out
          have hgb0 : y0.heap.size ≤ gb := by rw [hgb]; first | exact Nat.le_refl _ | exact HB0.out.size
          have hgh0 : y0.heap.size ≤ gh := by rw [hgh]; first | exact Nat.le_refl _ | exact HB2.out.size
          rw [← hgb, ← hgh]
          have hB := HB4.out
          obtain ⟨y, hy⟩ : ∃ y, y = y4 := ⟨_, rfl⟩
          rw [← hy] at hm hn hB ⊢
          clear hgb hgh HNe hy HB4 HM4 HN4
          obtain ⟨z0, z1, z2, z3, zf, zl⟩ := row4_cells hm
          refine anyH_one (i := 8) (by kernel_rfl) (op_plainW rfl (by rfl) (by simp) ?_)
          go_simp
          obtain ⟨U, hU⟩ : ∃ U, U = ((((y.setCell ⟨gb, 0, none⟩ (.int .i64 t.a)).setCell ⟨gb, 1, none⟩ (.int .i64 t.b)).setCell ⟨gb, 2, none⟩ (.int .i64 t.c)).setCell ⟨gb, 3, none⟩ (.int .i64 t.d)) := ⟨_, rfl⟩
          have HU1 : Hid (U.heap[gb]? = some (T4 t)) := at4J hU hm
          have hn2 : U.heap[gh]? = some Z4 := by rw [hU]; exact put4_other hn (Ne.symm hne)
          have HBU : Hid (Below y0.heap.size y0 U) := by rw [hU]; exact put4_below hB hgb0
          rw [← hU]
          clear hU z0 z1 z2 z3 zf zl hm hn hB
          (first | refine ⟨fun _ => HBU.out, ?_⟩ | refine ⟨HBU.out, ?_⟩)
          try simp only [Act.put]
          try simp only [List.setIfInBounds_toArray]
          try simp only [List.set_cons_zero, List.set_cons_succ]
          obtain ⟨z0, z1, z2, z3, zf, zl⟩ := row4_cells hn2
          refine anyH_one (i := 9) (by kernel_rfl) (op_plainW rfl (by rfl) (by simp) ?_)
          go_simp
          (first | refine ⟨by kernel_rfl, ?_⟩ | skip)
          obtain ⟨V, hV⟩ : ∃ V, V = ((((U.setCell ⟨gh, 0, none⟩ (.int .i64 t2.a)).setCell ⟨gh, 1, none⟩ (.int .i64 t2.b)).setCell ⟨gh, 2, none⟩ (.int .i64 t2.c)).setCell ⟨gh, 3, none⟩ (.int .i64 t2.d)) := ⟨_, rfl⟩
          have HV2 : Hid (V.heap[gh]? = some (T4 t2)) := at4J hV hn2
          have HV1 : Hid (V.heap[gb]? = some (T4 t)) := by show _ = _; rw [hV]; exact put4_other HU1.out hne
          have HBV : Hid (Below y0.heap.size y0 V) := by rw [hV]; exact put4_below HBU.out hgh0
          rw [← hV]
          clear hV z0 z1 z2 z3 zf zl hn2
          try simp only [Act.put]
          try simp only [List.setIfInBounds_toArray]
          try simp only [List.set_cons_zero, List.set_cons_succ]
          (first | refine anyH_done (by kernel_rfl) ?_ _ | skip)
          rename_i hKm
          refine hKm _ _ ?_
          clear hKm
          go_meet
          exact ⟨gb, gh, rfl, rfl, leJ hne HBY hgb0 hgh0, HV1.out, HV2.out, (btrJ HBY HBV.out).out⟩
      ·
        go_simp
        obtain ⟨y2, hy⟩ : ∃ x, x = y1.alloc (.cells #[.int .i64 0, .int .i64 0, .int .i64 0, .int .i64 0] 182) := ⟨_, rfl⟩
        have bs : Below y1.heap.size y1 y2 := by rw [hy]; exact bnewK _ _
        have HB2 := btrJ HB1 bs
        have HM2 : Hid (y2.heap[y0.heap.size]? = some Z4) := blk_keep HM1.out bs
        have HN2 : Hid (y2.heap[y1.heap.size]? = some Z4) := by show _ = _; rw [hy]; exact heap_alloc_new _ _
        have hlt := (Array.getElem?_eq_some_iff.1 HM1.out).1
        have HNe : Hid (y0.heap.size ≠ y1.heap.size) := fun e => by omega
        rw [← hy]
        clear bs hy hlt
        (first | refine ⟨fun _ => HB2.out, ?_⟩ | refine ⟨HB2.out, ?_⟩)
        try simp only [Act.put]
        try simp only [List.setIfInBounds_toArray]
        try simp only [List.set_cons_zero, List.set_cons_succ]
        refine anyH_one (i := 1) (by kernel_rfl) (op_plainW rfl (by rfl) (by simp) ?_)
        go_simp
        refine (HO1.out _).mono ?_
        rintro e y3 ⟨rfl, bs⟩
        have HB3 := btrJ HB2 bs
        have HM3 : Hid (y3.heap[y0.heap.size]? = some Z4) := blk_keep HM2.out bs
        have HN3 : Hid (y3.heap[y1.heap.size]? = some Z4) := blk_keep HN2.out bs
        clear bs
        (first | refine ⟨fun _ => HB3.out, ?_⟩ | refine ⟨HB3.out, ?_⟩)
        try simp only [Act.put]
        try simp only [List.setIfInBounds_toArray]
        try simp only [List.set_cons_zero, List.set_cons_succ]
        refine anyH_take hFr (by kernel_rfl) (i := 2) (v := ?_) (d := some 11) (by kernel_rfl) rfl rfl (by kernel_rfl) (by kernel_rfl) (by kernel_rfl) (fun _ _ _ h => h) HB3.out (Or.inl ⟨by rfl, fun w hSw => ?_⟩) ?_
        rotate_left
        · have hfN := fieldN
          go_simp
          all_goals (try (first | with_reducible rfl | omega))
        try simp only [Act.put]
        try simp only [List.setIfInBounds_toArray]
        try simp only [List.set_cons_zero, List.set_cons_succ]
        refine anyH_one (i := 4) (by kernel_rfl) (op_plainW rfl (by rfl) (by simp) ?_)
        go_simp
        refine (HO4.out _).mono ?_
        rintro e y4 ⟨rfl, bs⟩
        have HB4 := btrJ HB3 bs
        have HM4 : Hid (y4.heap[y0.heap.size]? = some Z4) := blk_keep HM3.out bs
        have HN4 : Hid (y4.heap[y1.heap.size]? = some Z4) := blk_keep HN3.out bs
        clear bs
        (first | refine ⟨fun _ => HB4.out, ?_⟩ | refine ⟨HB4.out, ?_⟩)
        try simp only [Act.put]
        try simp only [List.setIfInBounds_toArray]
        try simp only [List.set_cons_zero, List.set_cons_succ]
        refine anyH_take hFr (by kernel_rfl) (i := 5) (v := ?_) (d := some 14) (by kernel_rfl) rfl rfl (by kernel_rfl) (by kernel_rfl) (by kernel_rfl) (fun _ _ _ h => h) HB4.out (Or.inl ⟨by rfl, fun w hSw => ?_⟩) ?_
        rotate_left
        · have hfN := fieldN
          go_simp
          all_goals (try (first | with_reducible rfl | omega))
        try simp only [Act.put]
        try simp only [List.setIfInBounds_toArray]
        try simp only [List.set_cons_zero, List.set_cons_succ]
        obtain ⟨gb, hgb⟩ : ∃ g, g = y0.heap.size := ⟨_, rfl⟩
        obtain ⟨gh, hgh⟩ : ∃ g, g = y1.heap.size := ⟨_, rfl⟩
        have hne : gb ≠ gh := by rw [hgb, hgh]; exact HNe.out
        have hm : y4.heap[gb]? = some Z4 := by rw [hgb]; exact HM4.out
        have hn : y4.heap[gh]? = some Z4 := by rw [hgh]; exact HN4.out
        have hgb0 : y0.heap.size ≤ gb := by rw [hgb]; first | exact Nat.le_refl _ | exact HB0.out.size
        have hgh0 : y0.heap.size ≤ gh := by rw [hgh]; first | exact Nat.le_refl _ | exact HB1.out.size
        rw [← hgb, ← hgh]
        have hB := HB4.out
        obtain ⟨y, hy⟩ : ∃ y, y = y4 := ⟨_, rfl⟩
        rw [← hy] at hm hn hB ⊢
        clear hgb hgh HNe hy HB4 HM4 HN4
        obtain ⟨z0, z1, z2, z3, zf, zl⟩ := row4_cells hm
        refine anyH_one (i := 8) (by kernel_rfl) (op_plainW rfl (by rfl) (by simp) ?_)
        go_simp
        obtain ⟨U, hU⟩ : ∃ U, U = ((((y.setCell ⟨gb, 0, none⟩ (.int .i64 t.a)).setCell ⟨gb, 1, none⟩ (.int .i64 t.b)).setCell ⟨gb, 2, none⟩ (.int .i64 t.c)).setCell ⟨gb, 3, none⟩ (.int .i64 t.d)) := ⟨_, rfl⟩
        have HU1 : Hid (U.heap[gb]? = some (T4 t)) := at4J hU hm
        have hn2 : U.heap[gh]? = some Z4 := by rw [hU]; exact put4_other hn (Ne.symm hne)
        have HBU : Hid (Below y0.heap.size y0 U) := by rw [hU]; exact put4_below hB hgb0
        rw [← hU]
        clear hU z0 z1 z2 z3 zf zl hm hn hB
        (first | refine ⟨fun _ => HBU.out, ?_⟩ | refine ⟨HBU.out, ?_⟩)
        try simp only [Act.put]
        try simp only [List.setIfInBounds_toArray]
        try simp only [List.set_cons_zero, List.set_cons_succ]
        obtain ⟨z0, z1, z2, z3, zf, zl⟩ := row4_cells hn2
        refine anyH_one (i := 9) (by kernel_rfl) (op_plainW rfl (by rfl) (by simp) ?_)
        go_simp
        (first | refine ⟨by kernel_rfl, ?_⟩ | skip)
        obtain ⟨V, hV⟩ : ∃ V, V = ((((U.setCell ⟨gh, 0, none⟩ (.int .i64 t2.a)).setCell ⟨gh, 1, none⟩ (.int .i64 t2.b)).setCell ⟨gh, 2, none⟩ (.int .i64 t2.c)).setCell ⟨gh, 3, none⟩ (.int .i64 t2.d)) := ⟨_, rfl⟩
        have HV2 : Hid (V.heap[gh]? = some (T4 t2)) := at4J hV hn2
        have HV1 : Hid (V.heap[gb]? = some (T4 t)) := by show _ = _; rw [hV]; exact put4_other HU1.out hne
        have HBV : Hid (Below y0.heap.size y0 V) := by rw [hV]; exact put4_below HBU.out hgh0
        rw [← hV]
        clear hV z0 z1 z2 z3 zf zl hn2
        try simp only [Act.put]
        try simp only [List.setIfInBounds_toArray]
        try simp only [List.set_cons_zero, List.set_cons_succ]
        (first | refine anyH_done (by kernel_rfl) ?_ _ | skip)
        rename_i hKm
        refine hKm _ _ ?_
        clear hKm
        go_meet
        exact ⟨gb, gh, rfl, rfl, leJ hne HBY hgb0 hgh0, HV1.out, HV2.out, (btrJ HBY HBV.out).out⟩
    ·
      go_simp
      obtain ⟨y1, hy⟩ : ∃ x, x = y0.alloc (.cells #[.int .i64 0, .int .i64 0, .int .i64 0, .int .i64 0] 182) := ⟨_, rfl⟩
      have bs : Below y0.heap.size y0 y1 := by rw [hy]; exact bnewK _ _
      have HB1 := btrJ HB0 bs
      have HN1 : Hid (y1.heap[y0.heap.size]? = some Z4) := by show _ = _; rw [hy]; exact heap_alloc_new _ _
      rw [← hy]
      clear bs hy
      (first | refine ⟨fun _ => HB1.out, ?_⟩ | refine ⟨HB1.out, ?_⟩)
      try simp only [Act.put]
      try simp only [List.setIfInBounds_toArray]
      try simp only [List.set_cons_zero, List.set_cons_succ]
      refine anyH_two (i := 1) (j := 6) (by kernel_rfl) (op_plainW rfl (by rfl) (by simp) ?_) (op_plainW rfl (by rfl) (by simp) ?_)
      ·
        go_simp
        refine (HO1.out _).mono ?_
        rintro e y2 ⟨rfl, bs⟩
        have HB2 := btrJ HB1 bs
        have HN2 : Hid (y2.heap[y0.heap.size]? = some Z4) := blk_keep HN1.out bs
        clear bs
        (first | refine ⟨fun _ => HB2.out, ?_⟩ | refine ⟨HB2.out, ?_⟩)
        try simp only [Act.put]
        try simp only [List.setIfInBounds_toArray]
        try simp only [List.set_cons_zero, List.set_cons_succ]
        refine anyH_take hFr (by kernel_rfl) (i := 2) (v := ?_) (d := some 11) (by kernel_rfl) rfl rfl (by kernel_rfl) (by kernel_rfl) (by kernel_rfl) (fun _ _ _ h => h) HB2.out (Or.inl ⟨by rfl, fun w hSw => ?_⟩) ?_
        rotate_left
        · have hfN := fieldN
          go_simp
          all_goals (try (first | with_reducible rfl | omega))
        try simp only [Act.put]
        try simp only [List.setIfInBounds_toArray]
        try simp only [List.set_cons_zero, List.set_cons_succ]
        refine anyH_two (i := 4) (j := 6) (by kernel_rfl) (op_plainW rfl (by rfl) (by simp) ?_) (op_plainW rfl (by rfl) (by simp) ?_)
        ·
          go_simp
          refine (HO4.out _).mono ?_
          rintro e y3 ⟨rfl, bs⟩
          have HB3 := btrJ HB2 bs
          have HN3 : Hid (y3.heap[y0.heap.size]? = some Z4) := blk_keep HN2.out bs
          clear bs
          (first | refine ⟨fun _ => HB3.out, ?_⟩ | refine ⟨HB3.out, ?_⟩)
          try simp only [Act.put]
          try simp only [List.setIfInBounds_toArray]
          try simp only [List.set_cons_zero, List.set_cons_succ]
          refine anyH_take hFr (by kernel_rfl) (i := 5) (v := ?_) (d := some 14) (by kernel_rfl) rfl rfl (by kernel_rfl) (by kernel_rfl) (by kernel_rfl) (fun _ _ _ h => h) HB3.out (Or.inl ⟨by rfl, fun w hSw => ?_⟩) ?_
          rotate_left
          · have hfN := fieldN
            go_simp
            all_goals (try (first | with_reducible rfl | omega))
          try simp only [Act.put]
          try simp only [List.setIfInBounds_toArray]
          try simp only [List.set_cons_zero, List.set_cons_succ]
          refine anyH_one (i := 6) (by kernel_rfl) (op_plainW rfl (by rfl) (by simp) ?_)
          go_simp
          obtain ⟨y4, hy⟩ : ∃ x, x = y3.alloc (.cells #[.int .i64 0, .int .i64 0, .int .i64 0, .int .i64 0] 182) := ⟨_, rfl⟩
          have bs : Below y3.heap.size y3 y4 := by rw [hy]; exact bnewK _ _
          have HB4 := btrJ HB3 bs
          have HN4 : Hid (y4.heap[y0.heap.size]? = some Z4) := blk_keep HN3.out bs
          have HM4 : Hid (y4.heap[y3.heap.size]? = some Z4) := by show _ = _; rw [hy]; exact heap_alloc_new _ _
          have hlt := (Array.getElem?_eq_some_iff.1 HN3.out).1
          have HNe : Hid (y3.heap.size ≠ y0.heap.size) := fun e => by omega
          rw [← hy]
          clear bs hy hlt
          (first | refine ⟨fun _ => HB4.out, ?_⟩ | refine ⟨HB4.out, ?_⟩)
          try simp only [Act.put]
          try simp only [List.setIfInBounds_toArray]
          try simp only [List.set_cons_zero, List.set_cons_succ]
          obtain ⟨gb, hgb⟩ : ∃ g, g = y3.heap.size := ⟨_, rfl⟩
          obtain ⟨gh, hgh⟩ : ∃ g, g = y0.heap.size := ⟨_, rfl⟩
          have hne : gb ≠ gh := by rw [hgb, hgh]; exact HNe.out
          have hm : y4.heap[gb]? = some Z4 := by rw [hgb]; exact HM4.out
          have hn : y4.heap[gh]? = some Z4 := by rw [hgh]; exact HN4.out
          have hgb0 : y0.heap.size ≤ gb := by rw [hgb]; first | exact Nat.le_refl _ | exact HB3.out.size
          have hgh0 : y0.heap.size ≤ gh := by rw [hgh]; first | exact Nat.le_refl _ | exact HB0.out.size
          rw [← hgb, ← hgh]
          have hB := HB4.out
          obtain ⟨y, hy⟩ : ∃ y, y = y4 := ⟨_, rfl⟩
          rw [← hy] at hm hn hB ⊢
          clear hgb hgh HNe hy HB4 HM4 HN4
          obtain ⟨z0, z1, z2, z3, zf, zl⟩ := row4_cells hm
          refine anyH_one (i := 8) (by kernel_rfl) (op_plainW rfl (by rfl) (by simp) ?_)
          go_simp
          obtain ⟨U, hU⟩ : ∃ U, U = ((((y.setCell ⟨gb, 0, none⟩ (.int .i64 t.a)).setCell ⟨gb, 1, none⟩ (.int .i64 t.b)).setCell ⟨gb, 2, none⟩ (.int .i64 t.c)).setCell ⟨gb, 3, none⟩ (.int .i64 t.d)) := ⟨_, rfl⟩
          have HU1 : Hid (U.heap[gb]? = some (T4 t)) := at4J hU hm
          have hn2 : U.heap[gh]? = some Z4 := by rw [hU]; exact put4_other hn (Ne.symm hne)
          have HBU : Hid (Below y0.heap.size y0 U) := by rw [hU]; exact put4_below hB hgb0
          rw [← hU]
          clear hU z0 z1 z2 z3 zf zl hm hn hB
          (first | refine ⟨fun _ => HBU.out, ?_⟩ | refine ⟨HBU.out, ?_⟩)
          try simp only [Act.put]
          try simp only [List.setIfInBounds_toArray]
          try simp only [List.set_cons_zero, List.set_cons_succ]
          obtain ⟨z0, z1, z2, z3, zf, zl⟩ := row4_cells hn2
          refine anyH_one (i := 9) (by kernel_rfl) (op_plainW rfl (by rfl) (by simp) ?_)
          go_simp
          (first | refine ⟨by kernel_rfl, ?_⟩ | skip)
          obtain ⟨V, hV⟩ : ∃ V, V = ((((U.setCell ⟨gh, 0, none⟩ (.int .i64 t2.a)).setCell ⟨gh, 1, none⟩ (.int .i64 t2.b)).setCell ⟨gh, 2, none⟩ (.int .i64 t2.c)).setCell ⟨gh, 3, none⟩ (.int .i64 t2.d)) := ⟨_, rfl⟩
          have HV2 : Hid (V.heap[gh]? = some (T4 t2)) := at4J hV hn2
          have HV1 : Hid (V.heap[gb]? = some (T4 t)) := by show _ = _; rw [hV]; exact put4_other HU1.out hne
          have HBV : Hid (Below y0.heap.size y0 V) := by rw [hV]; exact put4_below HBU.out hgh0
          rw [← hV]
          clear hV z0 z1 z2 z3 zf zl hn2
          try simp only [Act.put]
          try simp only [List.setIfInBounds_toArray]
          try simp only [List.set_cons_zero, List.set_cons_succ]
          (first | refine anyH_done (by kernel_rfl) ?_ _ | skip)
          rename_i hKm
          refine hKm _ _ ?_
          clear hKm
          go_meet
          exact ⟨gb, gh, rfl, rfl, leJ hne HBY hgb0 hgh0, HV1.out, HV2.out, (btrJ HBY HBV.out).out⟩
        ·
          go_simp
          obtain ⟨y3, hy⟩ : ∃ x, x = y2.alloc (.cells #[.int .i64 0, .int .i64 0, .int .i64 0, .int .i64 0] 182) := ⟨_, rfl⟩
          have bs : Below y2.heap.size y2 y3 := by rw [hy]; exact bnewK _ _
          have HB3 := btrJ HB2 bs
          have HN3 : Hid (y3.heap[y0.heap.size]? = some Z4) := blk_keep HN2.out bs
          have HM3 : Hid (y3.heap[y2.heap.size]? = some Z4) := by show _ = _; rw [hy]; exact heap_alloc_new _ _
          have hlt := (Array.getElem?_eq_some_iff.1 HN2.out).1
          have HNe : Hid (y2.heap.size ≠ y0.heap.size) := fun e => by omega
          rw [← hy]
          clear bs hy hlt
          (first | refine ⟨fun _ => HB3.out, ?_⟩ | refine ⟨HB3.out, ?_⟩)
          try simp only [Act.put]
          try simp only [List.setIfInBounds_toArray]
          try simp only [List.set_cons_zero, List.set_cons_succ]
          refine anyH_one (i := 4) (by kernel_rfl) (op_plainW rfl (by rfl) (by simp) ?_)
          go_simp
          refine (HO4.out _).mono ?_
          rintro e y4 ⟨rfl, bs⟩
          have HB4 := btrJ HB3 bs
          have HM4 : Hid (y4.heap[y2.heap.size]? = some Z4) := blk_keep HM3.out bs
          have HN4 : Hid (y4.heap[y0.heap.size]? = some Z4) := blk_keep HN3.out bs
          clear bs
          (first | refine ⟨fun _ => HB4.out, ?_⟩ | refine ⟨HB4.out, ?_⟩)
          try simp only [Act.put]
          try simp only [List.setIfInBounds_toArray]
          try simp only [List.set_cons_zero, List.set_cons_succ]
          refine anyH_take hFr (by kernel_rfl) (i := 5) (v := ?_) (d := some 14) (by kernel_rfl) rfl rfl (by kernel_rfl) (by kernel_rfl) (by kernel_rfl) (fun _ _ _ h => h) HB4.out (Or.inl ⟨by rfl, fun w hSw => ?_⟩) ?_
          rotate_left
          · have hfN := fieldN
            go_simp
            all_goals (try (first | with_reducible rfl | omega))
          try simp only [Act.put]
          try simp only [List.setIfInBounds_toArray]
          try simp only [List.set_cons_zero, List.set_cons_succ]
          obtain ⟨gb, hgb⟩ : ∃ g, g = y2.heap.size := ⟨_, rfl⟩
          obtain ⟨gh, hgh⟩ : ∃ g, g = y0.heap.size := ⟨_, rfl⟩
          have hne : gb ≠ gh := by rw [hgb, hgh]; exact HNe.out
          have hm : y4.heap[gb]? = some Z4 := by rw [hgb]; exact HM4.out
          have hn : y4.heap[gh]? = some Z4 := by rw [hgh]; exact HN4.out
          have hgb0 : y0.heap.size ≤ gb := by rw [hgb]; first | exact Nat.le_refl _ | exact HB2.out.size
          have hgh0 : y0.heap.size ≤ gh := by rw [hgh]; first | exact Nat.le_refl _ | exact HB0.out.size
          rw [← hgb, ← hgh]
          have hB := HB4.out
          obtain ⟨y, hy⟩ : ∃ y, y = y4 := ⟨_, rfl⟩
          rw [← hy] at hm hn hB ⊢
          clear hgb hgh HNe hy HB4 HM4 HN4
          obtain ⟨z0, z1, z2, z3, zf, zl⟩ := row4_cells hm
          refine anyH_one (i := 8) (by kernel_rfl) (op_plainW rfl (by rfl) (by simp) ?_)
          go_simp
          obtain ⟨U, hU⟩ : ∃ U, U = ((((y.setCell ⟨gb, 0, none⟩ (.int .i64 t.a)).setCell ⟨gb, 1, none⟩ (.int .i64 t.b)).setCell ⟨gb, 2, none⟩ (.int .i64 t.c)).setCell ⟨gb, 3, none⟩ (.int .i64 t.d)) := ⟨_, rfl⟩
          have HU1 : Hid (U.heap[gb]? = some (T4 t)) := at4J hU hm
          have hn2 : U.heap[gh]? = some Z4 := by rw [hU]; exact put4_other hn (Ne.symm hne)
          have HBU : Hid (Below y0.heap.size y0 U) := by rw [hU]; exact put4_below hB hgb0
          rw [← hU]
          clear hU z0 z1 z2 z3 zf zl hm hn hB
          (first | refine ⟨fun _ => HBU.out, ?_⟩ | refine ⟨HBU.out, ?_⟩)
          try simp only [Act.put]
          try simp only [List.setIfInBounds_toArray]
          try simp only [List.set_cons_zero, List.set_cons_succ]
          obtain ⟨z0, z1, z2, z3, zf, zl⟩ := row4_cells hn2
          refine anyH_one (i := 9) (by kernel_rfl) (op_plainW rfl (by rfl) (by simp) ?_)
          go_simp
          (first | refine ⟨by kernel_rfl, ?_⟩ | skip)
          obtain ⟨V, hV⟩ : ∃ V, V = ((((U.setCell ⟨gh, 0, none⟩ (.int .i64 t2.a)).setCell ⟨gh, 1, none⟩ (.int .i64 t2.b)).setCell ⟨gh, 2, none⟩ (.int .i64 t2.c)).setCell ⟨gh, 3, none⟩ (.int .i64 t2.d)) := ⟨_, rfl⟩
          have HV2 : Hid (V.heap[gh]? = some (T4 t2)) := at4J hV hn2
          have HV1 : Hid (V.heap[gb]? = some (T4 t)) := by show _ = _; rw [hV]; exact put4_other HU1.out hne
          have HBV : Hid (Below y0.heap.size y0 V) := by rw [hV]; exact put4_below HBU.out hgh0
          rw [← hV]
          clear hV z0 z1 z2 z3 zf zl hn2
          try simp only [Act.put]
          try simp only [List.setIfInBounds_toArray]
          try simp only [List.set_cons_zero, List.set_cons_succ]
          (first | refine anyH_done (by kernel_rfl) ?_ _ | skip)
          rename_i hKm
          refine hKm _ _ ?_
          clear hKm
          go_meet
          exact ⟨gb, gh, rfl, rfl, leJ hne HBY hgb0 hgh0, HV1.out, HV2.out, (btrJ HBY HBV.out).out⟩
      ·
        go_simp
        obtain ⟨y2, hy⟩ : ∃ x, x = y1.alloc (.cells #[.int .i64 0, .int .i64 0, .int .i64 0, .int .i64 0] 182) := ⟨_, rfl⟩
        have bs : Below y1.heap.size y1 y2 := by rw [hy]; exact bnewK _ _
        have HB2 := btrJ HB1 bs
        have HN2 : Hid (y2.heap[y0.heap.size]? = some Z4) := blk_keep HN1.out bs
        have HM2 : Hid (y2.heap[y1.heap.size]? = some Z4) := by show _ = _; rw [hy]; exact heap_alloc_new _ _
        have hlt := (Array.getElem?_eq_some_iff.1 HN1.out).1
        have HNe : Hid (y1.heap.size ≠ y0.heap.size) := fun e => by omega
        rw [← hy]
        clear bs hy hlt
        (first | refine ⟨fun _ => HB2.out, ?_⟩ | refine ⟨HB2.out, ?_⟩)
        try simp only [Act.put]
        try simp only [List.setIfInBounds_toArray]
        try simp only [List.set_cons_zero, List.set_cons_succ]
        refine anyH_one (i := 1) (by kernel_rfl) (op_plainW rfl (by rfl) (by simp) ?_)
        go_simp
        refine (HO1.out _).mono ?_
        rintro e y3 ⟨rfl, bs⟩
        have HB3 := btrJ HB2 bs
        have HM3 : Hid (y3.heap[y1.heap.size]? = some Z4) := blk_keep HM2.out bs
        have HN3 : Hid (y3.heap[y0.heap.size]? = some Z4) := blk_keep HN2.out bs
        clear bs
        (first | refine ⟨fun _ => HB3.out, ?_⟩ | refine ⟨HB3.out, ?_⟩)
        try simp only [Act.put]
        try simp only [List.setIfInBounds_toArray]
        try simp only [List.set_cons_zero, List.set_cons_succ]
        refine anyH_take hFr (by kernel_rfl) (i := 2) (v := ?_) (d := some 11) (by kernel_rfl) rfl rfl (by kernel_rfl) (by kernel_rfl) (by kernel_rfl) (fun _ _ _ h => h) HB3.out (Or.inl ⟨by rfl, fun w hSw => ?_⟩) ?_
        rotate_left
        · have hfN := fieldN
          go_simp
          all_goals (try (first | with_reducible rfl | omega))
        try simp only [Act.put]
        try simp only [List.setIfInBounds_toArray]
        try simp only [List.set_cons_zero, List.set_cons_succ]
        refine anyH_one (i := 4) (by kernel_rfl) (op_plainW rfl (by rfl) (by simp) ?_)
        go_simp
        refine (HO4.out _).mono ?_
        rintro e y4 ⟨rfl, bs⟩
        have HB4 := btrJ HB3 bs
        have HM4 : Hid (y4.heap[y1.heap.size]? = some Z4) := blk_keep HM3.out bs
        have HN4 : Hid (y4.heap[y0.heap.size]? = some Z4) := blk_keep HN3.out bs
        clear bs
        (first | refine ⟨fun _ => HB4.out, ?_⟩ | refine ⟨HB4.out, ?_⟩)
        try simp only [Act.put]
        try simp only [List.setIfInBounds_toArray]
        try simp only [List.set_cons_zero, List.set_cons_succ]
        refine anyH_take hFr (by kernel_rfl) (i := 5) (v := ?_) (d := some 14) (by kernel_rfl) rfl rfl (by kernel_rfl) (by kernel_rfl) (by kernel_rfl) (fun _ _ _ h => h) HB4.out (Or.inl ⟨by rfl, fun w hSw => ?_⟩) ?_
        rotate_left
        · have hfN := fieldN
          go_simp
          all_goals (try (first | with_reducible rfl | omega))
        try simp only [Act.put]
        try simp only [List.setIfInBounds_toArray]
        try simp only [List.set_cons_zero, List.set_cons_succ]
        obtain ⟨gb, hgb⟩ : ∃ g, g = y1.heap.size := ⟨_, rfl⟩
        obtain ⟨gh, hgh⟩ : ∃ g, g = y0.heap.size := ⟨_, rfl⟩
        have hne : gb ≠ gh := by rw [hgb, hgh]; exact HNe.out
        have hm : y4.heap[gb]? = some Z4 := by rw [hgb]; exact HM4.out
        have hn : y4.heap[gh]? = some Z4 := by rw [hgh]; exact HN4.out
        have hgb0 : y0.heap.size ≤ gb := by rw [hgb]; first | exact Nat.le_refl _ | exact HB1.out.size
        have hgh0 : y0.heap.size ≤ gh := by rw [hgh]; first | exact Nat.le_refl _ | exact HB0.out.size
        rw [← hgb, ← hgh]
        have hB := HB4.out
        obtain ⟨y, hy⟩ : ∃ y, y = y4 := ⟨_, rfl⟩
        rw [← hy] at hm hn hB ⊢
        clear hgb hgh HNe hy HB4 HM4 HN4
        obtain ⟨z0, z1, z2, z3, zf, zl⟩ := row4_cells hm
        refine anyH_one (i := 8) (by kernel_rfl) (op_plainW rfl (by rfl) (by simp) ?_)
        go_simp
        obtain ⟨U, hU⟩ : ∃ U, U = ((((y.setCell ⟨gb, 0, none⟩ (.int .i64 t.a)).setCell ⟨gb, 1, none⟩ (.int .i64 t.b)).setCell ⟨gb, 2, none⟩ (.int .i64 t.c)).setCell ⟨gb, 3, none⟩ (.int .i64 t.d)) := ⟨_, rfl⟩
        have HU1 : Hid (U.heap[gb]? = some (T4 t)) := at4J hU hm
        have hn2 : U.heap[gh]? = some Z4 := by rw [hU]; exact put4_other hn (Ne.symm hne)
        have HBU : Hid (Below y0.heap.size y0 U) := by rw [hU]; exact put4_below hB hgb0
        rw [← hU]
        clear hU z0 z1 z2 z3 zf zl hm hn hB
        (first | refine ⟨fun _ => HBU.out, ?_⟩ | refine ⟨HBU.out, ?_⟩)
        try simp only [Act.put]
        try simp only [List.setIfInBounds_toArray]
        try simp only [List.set_cons_zero, List.set_cons_succ]
        obtain ⟨z0, z1, z2, z3, zf, zl⟩ := row4_cells hn2
        refine anyH_one (i := 9) (by kernel_rfl) (op_plainW rfl (by rfl) (by simp) ?_)
        go_simp
        (first | refine ⟨by kernel_rfl, ?_⟩ | skip)
        obtain ⟨V, hV⟩ : ∃ V, V = ((((U.setCell ⟨gh, 0, none⟩ (.int .i64 t2.a)).setCell ⟨gh, 1, none⟩ (.int .i64 t2.b)).setCell ⟨gh, 2, none⟩ (.int .i64 t2.c)).setCell ⟨gh, 3, none⟩ (.int .i64 t2.d)) := ⟨_, rfl⟩
        have HV2 : Hid (V.heap[gh]? = some (T4 t2)) := at4J hV hn2
        have HV1 : Hid (V.heap[gb]? = some (T4 t)) := by show _ = _; rw [hV]; exact put4_other HU1.out hne
        have HBV : Hid (Below y0.heap.size y0 V) := by rw [hV]; exact put4_below HBU.out hgh0
        rw [← hV]
        clear hV z0 z1 z2 z3 zf zl hn2
        try simp only [Act.put]
        try simp only [List.setIfInBounds_toArray]
        try simp only [List.set_cons_zero, List.set_cons_succ]
        (first | refine anyH_done (by kernel_rfl) ?_ _ | skip)
        rename_i hKm
        refine hKm _ _ ?_
        clear hKm
        go_meet
        exact ⟨gb, gh, rfl, rfl, leJ hne HBY hgb0 hgh0, HV1.out, HV2.out, (btrJ HBY HBV.out).out⟩
  case rest =>
    obtain ⟨gb, gh, rfl, rfl, HG, HRb, HRh, HB2⟩ := hcut
    clear HOa HOb HPq HW hFr
    obtain ⟨hne, hgb0, hgh0⟩ := HG.out
    have hws := HWs.out
    go_upto_region 2 with fail
    refine wp_region_facts (by kernel_rfl) 4 (fun v => Below wc.heap.size wc v) (fun u v => Below u.heap.size u v) (fun i v u => match i with | 0 => (fun v _ => v = .agg #[.int .i64 bit, .int .i64 1, .int .i64 s, .int .i64 both]) v u | 1 => (fun v _ => v = .int .i64 0) v u | 2 => (fun v _ => v = .slice (some ⟨gb, 0, none⟩) 4 4) v u | 3 => (fun v _ => v = .slice (some ⟨gh, 0, none⟩) 4 4) v u | _ => True) (by kernel_rfl) [0, 1, 2, 3] (by kernel_rfl) ?b0 ?bk ?fk ⟨?s0, ?s1, ?s2, ?s3, trivial⟩ _ rfl [(0, some 15), (1, some 16), (2, some 17), (3, some 18)] (by kernel_rfl) ?last
    case b0 => exact Below.drew (Below.refl _ _)
    case bk => exact fun u v h hb => h.trans (hb.mono h.size)
    case fk => intro i v u u' h hb; match i, h with | 0, h => exact h | 1, h => exact h | 2, h => exact h | 3, h => exact h | _ + 4, _ => exact trivial
    case s0 =>
      refine StepF.of rfl [] (by kernel_rfl) ?_
      intro vs u hB hf K hK
      clear hf
      simp only [putsA, List.foldl_nil, Act.put, List.setIfInBounds_toArray] at hK ⊢
      rw [if_pos (by rfl)]
      obtain ⟨p0, p1, p2, p3⟩ := HPf.out u (HB2.out.trans (hB.mono HB2.out.size))
      go_simp
      exact hK.out _ _ (Below.refl _ _) rfl
    case s1 =>
      refine StepF.of rfl [(0, some 15)] (by kernel_rfl) ?_
      intro vs u hB hf K hK
      have f0 : (fun v _ => v = .agg #[.int .i64 bit, .int .i64 1, .int .i64 s, .int .i64 both]) (vs 0) u := hf.1
      clear hf
      simp only [putsA, List.foldl_cons, List.foldl_nil, Act.put, List.setIfInBounds_toArray, List.set_cons_zero, List.set_cons_succ] at hK ⊢
      generalize vs 0 = v0 at f0 hK ⊢
      subst f0
      rw [if_pos (by rfl)]
      go_simp
      refine (HA.out _).mono ?_
      rintro e w4 ⟨rfl, b4⟩
      exact hK.out _ _ b4 rfl
    case s2 =>
      refine StepF.of rfl [(1, some 16)] (by kernel_rfl) ?_
      intro vs u hB hf K hK
      have f1 : (fun v _ => v = .int .i64 0) (vs 1) u := hf.1
      clear hf
      simp only [putsA, List.foldl_cons, List.foldl_nil, Act.put, List.setIfInBounds_toArray, List.set_cons_zero, List.set_cons_succ] at hK ⊢
      generalize vs 1 = v1 at f1 hK ⊢
      subst f1
      rw [if_pos (by rfl)]
      go_simp
      exact hK.out _ _ (Below.refl _ _) rfl
    case s3 =>
      refine StepF.of rfl [] (by kernel_rfl) ?_
      intro vs u hB hf K hK
      clear hf
      simp only [putsA, List.foldl_nil, Act.put, List.setIfInBounds_toArray] at hK ⊢
      rw [if_pos (by rfl)]
      go_simp
      exact hK.out _ _ (Below.refl _ _) rfl
    case last =>
      intro vs u hB hf K hK
      have f2 : (fun v _ => v = .slice (some ⟨gb, 0, none⟩) 4 4) (vs 2) u := hf.2.2.1
      have f3 : (fun v _ => v = .slice (some ⟨gh, 0, none⟩) 4 4) (vs 3) u := hf.2.2.2.1
      have f0 : (fun v _ => v = .agg #[.int .i64 bit, .int .i64 1, .int .i64 s, .int .i64 both]) (vs 0) u := hf.1
      have f1 : (fun v _ => v = .int .i64 0) (vs 1) u := hf.2.1
      clear hf
      simp only [putsA, List.foldl_cons, List.foldl_nil, Act.put, List.setIfInBounds_toArray, List.set_cons_zero, List.set_cons_succ]
      generalize vs 0 = v0 at f0 ⊢
      generalize vs 1 = v1 at f1 ⊢
      generalize vs 2 = v2 at f2 ⊢
      generalize vs 3 = v3 at f3 ⊢
      subst f0 f1 f2 f3
      rw [if_pos (by rfl)]
      have hrb := blk_keep HRb.out hB
      have hrh := blk_keep HRh.out hB
      obtain ⟨b0, b1, b2, b3, bf, bl⟩ := row4_cells hrb
      obtain ⟨h0, h1, h2, h3, hfz, hl⟩ := row4_cells hrh
      have hcp : ∀ ty, (Builtin.copy_ #[78, 78] ty #[.slice (some ⟨gb, 0, none⟩) 4 4, .slice (some ⟨gh, 0, none⟩) 4 4]).run Tryz.prog u = .ok (goInt 4) ((((u.setCell ⟨gb, 0, none⟩ (.int .i64 t2.a)).setCell ⟨gb, 1, none⟩ (.int .i64 t2.b)).setCell ⟨gb, 2, none⟩ (.int .i64 t2.c)).setCell ⟨gb, 3, none⟩ (.int .i64 t2.d)) := fun ty => by
        refine run_copy_cells (P := Tryz.prog) u 78 78 ty 2 gb 0 4 4 ⟨gh, 0, none⟩ 4 4 [.int .i64 t2.a, .int .i64 t2.b, .int .i64 t2.c, .int .i64 t2.d] Tryz.underlying78 (by kernel_rfl) rfl (fun j v hj => ?_) (fun j hj => ?_) (fun j _ => bf _) (fun v hv => by simp at hv; rcases hv with rfl | rfl | rfl | rfl <;> rfl)
        · match j, hj with
          | 0, hj => rw [← Option.some.inj hj]; exact h0
          | 1, hj => rw [← Option.some.inj hj]; exact h1
          | 2, hj => rw [← Option.some.inj hj]; exact h2
          | 3, hj => rw [← Option.some.inj hj]; exact h3
          | _ + 4, hj => exact absurd hj (by simp)
        · match j, hj with
          | 0, _ => simp [b0]
          | 1, _ => simp [b1]
          | 2, _ => simp [b2]
          | 3, _ => simp [b3]
          | _ + 4, hj => exact absurd hj (by simp)
      obtain ⟨Z, hZ⟩ : ∃ Z, Z = ((((u.setCell ⟨gb, 0, none⟩ (.int .i64 t2.a)).setCell ⟨gb, 1, none⟩ (.int .i64 t2.b)).setCell ⟨gb, 2, none⟩ (.int .i64 t2.c)).setCell ⟨gb, 3, none⟩ (.int .i64 t2.d)) := ⟨_, rfl⟩
      have HZr : Hid (Z.heap[gb]? = some (T4 t2)) := by show _ = _; rw [hZ]; exact put4_at hrb
      have HZb : Hid (Below W.heap.size W Z) := by rw [hZ]; exact put4_below (HB2.out.trans (hB.mono HB2.out.size)) hgb0
      clear hrb hrh b0 b1 b2 b3 bf bl h0 h1 h2 h3 hfz hl
      go_simp
      refine hK.out _ _ ?_
      rw [← hZ]
      clear hK hcp hZ hB HRb HRh HB2 HG
      obtain ⟨p0, p1, p2, p3⟩ := HPf.out Z HZb.out
      obtain ⟨o0, o1, o2, o3, o4, o5, o6⟩ := HPo.out Z HZb.out
      obtain ⟨b0, b1, b2, b3, bf, bl⟩ := row4_cells HZr.out
      clear p0 p1 p2 o0 o1 o2 o3 o4 o5 HPf HPo
      go_wp2_with fail
      refine (HW1.out _ (HBW.out.trans (HZb.out.mono HBW.out.size))).mono ?_
      rintro e y3 ⟨v3, rfl, ow, b3'⟩
      obtain ⟨a3, c3, rfl⟩ := own_form ow
      have hzz := HZb.out.size
      have HOw : Hid (y3.ownsRow (w.heap.size + 4) 196 4 (.slice a3 t.data.length c3) t.data.length (cellsD t.data)) := own_base ow (by omega)
      have HB3 : Hid (Below w.heap.size w y3) := (HBW.out.trans (HZb.out.mono HBW.out.size)).trans (b3'.mono (by omega))
      have hz := (HZa.out.below HZb.out).below b3'
      obtain ⟨u0, u1, u2, u3, u4, u5, u6, uf, ul⟩ := hz
      clear b0 b1 b2 b3 bf bl p3 o6 ow b3' HZr HZb HW1 HA HZa
      go_wp2
      refine bodyPost_ret (v := (opK both t2.a t2.b t2.c t2.d t.data).val (.slice a3 t.data.length c3)) (by simp [results, Tryz.results88, go_sem, opK, Opr.val, u0, u1, u2, u3, u4, u5, u6]) rfl ⟨.slice a3 t.data.length c3, rfl, ?_, ?_⟩
      · iterate 7 (refine own_set_low ?_ (by omega) _)
        exact HOw.out
      · exact put7_below HB3.out (by omega)
set_option maxRecDepth 100000 in
set_option maxHeartbeats 1500000 in
theorem join_2 (bit s both : Int) (t t2 : Opr) (ao ao2 : Option Addr) (cap n2 cap2 B : Nat) (w : World) (ht : t.small) (ho : w.ownsRow B 196 4 (.slice ao t.data.length cap) t.data.length (cellsD t.data)) :
    Calls Tryz.prog 88 #[.agg #[.int .i64 bit, .int .i64 2, .int .i64 s, .int .i64 both], t.val (.slice ao t.data.length cap), t2.val (.slice ao2 n2 cap2)] w fun e w' => ∃ v, e = .returned ((opK both t.a t.b t2.a t2.b t.data).val v) ∧ w'.ownsRow (w.heap.size + 4) 196 4 v t.data.length (cellsD t.data) ∧ Below w.heap.size w w' := by
  have HOa : Hid (∀ u, Calls Tryz.prog 120 #[t.val (.slice ao t.data.length cap)] u fun e w' => e = .returned t.num ∧ Below u.heap.size u w') := fun u => operationOf_any t _ u
  have HOb : Hid (∀ u, Calls Tryz.prog 120 #[t2.val (.slice ao2 n2 cap2)] u fun e w' => e = .returned t2.num ∧ Below u.heap.size u w') := fun u => operationOf_any t2 _ u
  have HA : Hid (∀ u, Calls Tryz.prog 125 #[.agg #[.int .i64 bit, .int .i64 2, .int .i64 s, .int .i64 both]] u fun e w' => e = .returned (.int .i64 2) ∧ Below u.heap.size u w') := fun u => ahead_2 bit s both u
  have HW1 : Hid (∀ u, Below w.heap.size w u → Calls Tryz.prog 126 #[.int .i64 both, .agg #[.int .i64 t.a, .int .i64 t.b, .int .i64 t2.a, .int .i64 t2.b], .slice ao t.data.length cap] u fun e w' => ∃ v, e = .returned ((opK both t.a t.b t2.a t2.b t.data).val v) ∧ w'.ownsRow (u.heap.size + 2) 196 4 v t.data.length (cellsD t.data) ∧ Below u.heap.size u w') := fun u hu => opWith_any both t.a t.b t2.a t2.b ao cap B t.data u ht.len ht.names (own_below ho hu)
  obtain ⟨W, hW⟩ : ∃ W, W = ((((w.alloc (.cells #[.int .i64 bit, .int .i64 2, .int .i64 s, .int .i64 both] 102)).alloc (.cells #[.int .i64 t.kind, .int .i64 t.a, .int .i64 t.b, .int .i64 t.c, .int .i64 t.d, .string t.name, .slice ao t.data.length cap] 100)).alloc (.cells #[.int .i64 t2.kind, .int .i64 t2.a, .int .i64 t2.b, .int .i64 t2.c, .int .i64 t2.d, .string t2.name, .slice ao2 n2 cap2] 100)).alloc (.cells #[.int .i64 0, .int .i64 0, .int .i64 0, .int .i64 0, .int .i64 0, .string ⟨#[]⟩, .slice none 0 0] 100)) := ⟨_, rfl⟩
  have HW : Hid (W = ((((w.alloc (.cells #[.int .i64 bit, .int .i64 2, .int .i64 s, .int .i64 both] 102)).alloc (.cells #[.int .i64 t.kind, .int .i64 t.a, .int .i64 t.b, .int .i64 t.c, .int .i64 t.d, .string t.name, .slice ao t.data.length cap] 100)).alloc (.cells #[.int .i64 t2.kind, .int .i64 t2.a, .int .i64 t2.b, .int .i64 t2.c, .int .i64 t2.d, .string t2.name, .slice ao2 n2 cap2] 100)).alloc (.cells #[.int .i64 0, .int .i64 0, .int .i64 0, .int .i64 0, .int .i64 0, .string ⟨#[]⟩, .slice none 0 0] 100))) := hW
  have HBW : Hid (Below w.heap.size w W) := by rw [hW]; exact ((((Below.refl _ _).alloc (Nat.le_refl _) _).alloc (by simp) _).alloc (by simp; omega) _).alloc (by simp; omega) _
  have HWs : Hid (W.heap.size = w.heap.size + 4) := by show _ = _; rw [hW]; simp
  have p0 : W.cell? ⟨w.heap.size, 0, none⟩ = some (.int .i64 bit) := by rw [hW]; simp [go_sem]
  have p1 : W.cell? ⟨w.heap.size, 1, none⟩ = some (.int .i64 2) := by rw [hW]; simp [go_sem]
  have p2 : W.cell? ⟨w.heap.size, 2, none⟩ = some (.int .i64 s) := by rw [hW]; simp [go_sem]
  have p3 : W.cell? ⟨w.heap.size, 3, none⟩ = some (.int .i64 both) := by rw [hW]; simp [go_sem]
  have o0 : W.cell? ⟨w.heap.size + 1, 0, none⟩ = some (.int .i64 t.kind) := by rw [hW]; simp [go_sem]
  have o1 : W.cell? ⟨w.heap.size + 1, 1, none⟩ = some (.int .i64 t.a) := by rw [hW]; simp [go_sem]
  have o2 : W.cell? ⟨w.heap.size + 1, 2, none⟩ = some (.int .i64 t.b) := by rw [hW]; simp [go_sem]
  have o3 : W.cell? ⟨w.heap.size + 1, 3, none⟩ = some (.int .i64 t.c) := by rw [hW]; simp [go_sem]
  have o4 : W.cell? ⟨w.heap.size + 1, 4, none⟩ = some (.int .i64 t.d) := by rw [hW]; simp [go_sem]
  have o5 : W.cell? ⟨w.heap.size + 1, 5, none⟩ = some (.string t.name) := by rw [hW]; simp [go_sem]
  have o6 : W.cell? ⟨w.heap.size + 1, 6, none⟩ = some (.slice ao t.data.length cap) := by rw [hW]; simp [go_sem]
  have q0 : W.cell? ⟨w.heap.size + 2, 0, none⟩ = some (.int .i64 t2.kind) := by rw [hW]; simp [go_sem]
  have q1 : W.cell? ⟨w.heap.size + 2, 1, none⟩ = some (.int .i64 t2.a) := by rw [hW]; simp [go_sem]
  have q2 : W.cell? ⟨w.heap.size + 2, 2, none⟩ = some (.int .i64 t2.b) := by rw [hW]; simp [go_sem]
  have q3 : W.cell? ⟨w.heap.size + 2, 3, none⟩ = some (.int .i64 t2.c) := by rw [hW]; simp [go_sem]
  have q4 : W.cell? ⟨w.heap.size + 2, 4, none⟩ = some (.int .i64 t2.d) := by rw [hW]; simp [go_sem]
  have q5 : W.cell? ⟨w.heap.size + 2, 5, none⟩ = some (.string t2.name) := by rw [hW]; simp [go_sem]
  have q6 : W.cell? ⟨w.heap.size + 2, 6, none⟩ = some (.slice ao2 n2 cap2) := by rw [hW]; simp [go_sem]
  have HZa : Hid (ZBx W (w.heap.size + 3)) := by
    rw [hW]; exact ⟨by simp [go_sem], by simp [go_sem], by simp [go_sem], by simp [go_sem], by simp [go_sem], by simp [go_sem], by simp [go_sem], fun j => by simp [go_sem], by simp⟩
  have HPf : Hid (∀ u, Below W.heap.size W u → u.cell? ⟨w.heap.size, 0, none⟩ = some (.int .i64 bit) ∧ u.cell? ⟨w.heap.size, 1, none⟩ = some (.int .i64 2) ∧ u.cell? ⟨w.heap.size, 2, none⟩ = some (.int .i64 s) ∧ u.cell? ⟨w.heap.size, 3, none⟩ = some (.int .i64 both)) := fun u hu => ⟨cell_keep hu p0, cell_keep hu p1, cell_keep hu p2, cell_keep hu p3⟩
  have HPo : Hid (∀ u, Below W.heap.size W u → u.cell? ⟨w.heap.size + 1, 0, none⟩ = some (.int .i64 t.kind) ∧ u.cell? ⟨w.heap.size + 1, 1, none⟩ = some (.int .i64 t.a) ∧ u.cell? ⟨w.heap.size + 1, 2, none⟩ = some (.int .i64 t.b) ∧ u.cell? ⟨w.heap.size + 1, 3, none⟩ = some (.int .i64 t.c) ∧ u.cell? ⟨w.heap.size + 1, 4, none⟩ = some (.int .i64 t.d) ∧ u.cell? ⟨w.heap.size + 1, 5, none⟩ = some (.string t.name) ∧ u.cell? ⟨w.heap.size + 1, 6, none⟩ = some (.slice ao t.data.length cap)) := fun u hu => ⟨cell_keep hu o0, cell_keep hu o1, cell_keep hu o2, cell_keep hu o3, cell_keep hu o4, cell_keep hu o5, cell_keep hu o6⟩
  have HPq : Hid (∀ u, Below W.heap.size W u → u.cell? ⟨w.heap.size + 2, 0, none⟩ = some (.int .i64 t2.kind) ∧ u.cell? ⟨w.heap.size + 2, 1, none⟩ = some (.int .i64 t2.a) ∧ u.cell? ⟨w.heap.size + 2, 2, none⟩ = some (.int .i64 t2.b) ∧ u.cell? ⟨w.heap.size + 2, 3, none⟩ = some (.int .i64 t2.c) ∧ u.cell? ⟨w.heap.size + 2, 4, none⟩ = some (.int .i64 t2.d) ∧ u.cell? ⟨w.heap.size + 2, 5, none⟩ = some (.string t2.name) ∧ u.cell? ⟨w.heap.size + 2, 6, none⟩ = some (.slice ao2 n2 cap2)) := fun u hu => ⟨cell_keep hu q0, cell_keep hu q1, cell_keep hu q2, cell_keep hu q3, cell_keep hu q4, cell_keep hu q5, cell_keep hu q6⟩
  have hFr : ∀ f, Fence.wide.fn f := fun _ => trivial
  clear hW ho ht p0 p1 p2 p3 o0 o1 o2 o3 o4 o5 o6 q0 q1 q2 q3 q4 q5 q6
  go_enter Tryz.func88, Tryz.ntmps88
  go_upto_region 1 with fail
  rw [← HW.out]
  go_cut [7, 8] from 9 to 25 (fun v7 v8 wx => ∃ (gb gh : Nat), v7 = .pointer (some ⟨gb, 0, none⟩) ∧ v8 = .pointer (some ⟨gh, 0, none⟩) ∧ Hid (gb ≠ gh ∧ W.heap.size ≤ gb ∧ W.heap.size ≤ gh) ∧ Hid (wx.heap[gb]? = some (T4 t)) ∧ Hid (wx.heap[gh]? = some (T4 t2)) ∧ Hid (Below W.heap.size W wx))
  case first =>
    clear HA HW1 HW HZa HPf
    refine (wpIn_wide (n := 0)).1 ?_
    obtain ⟨y0, hy0⟩ : ∃ Y, Y = W.drew := ⟨_, rfl⟩
    have HBY : Hid (Below W.heap.size W y0) := by rw [hy0]; exact (Below.refl _ _).drew
    refine region_anyH (z := 9) (S := fun u : World => BelY y0 u) (by kernel_rfl) ?_
    rw [← hy0]
    clear hy0
    have HB0 : Hid (Below y0.heap.size y0 y0) := Below.refl _ _
    refine anyH_take hFr (by kernel_rfl) (i := 0) (v := ?_) (d := some 9) (by kernel_rfl) rfl rfl (by kernel_rfl) (by kernel_rfl) (by kernel_rfl) (fun _ _ _ h => h) HB0.out (Or.inl ⟨by rfl, fun w hSw => ?_⟩) ?_
    rotate_left
    · obtain ⟨c0, c1, c2, c3, c4, c5, c6⟩ := HPo.out w (HBY.out.trans ((show Below y0.heap.size y0 w from hSw).mono HBY.out.size))
      go_simp
      all_goals (try (first | with_reducible rfl | omega))
    try simp only [Act.put]
    try simp only [List.setIfInBounds_toArray]
    try simp only [List.set_cons_zero, List.set_cons_succ]
    refine anyH_take hFr (by kernel_rfl) (i := 3) (v := ?_) (d := some 12) (by kernel_rfl) rfl rfl (by kernel_rfl) (by kernel_rfl) (by kernel_rfl) (fun _ _ _ h => h) HB0.out (Or.inl ⟨by rfl, fun w hSw => ?_⟩) ?_
    rotate_left
    · obtain ⟨c0, c1, c2, c3, c4, c5, c6⟩ := HPq.out w (HBY.out.trans ((show Below y0.heap.size y0 w from hSw).mono HBY.out.size))
      go_simp
      all_goals (try (first | with_reducible rfl | omega))
    try simp only [Act.put]
    try simp only [List.setIfInBounds_toArray]
    try simp only [List.set_cons_zero, List.set_cons_succ]
    have HO1 := HOa
    have HO4 := HOb
    clear HPo HPq HOa HOb
    refine anyH_three (i := 1) (j := 6) (l := 7) (by kernel_rfl) (op_plainW rfl (by rfl) (by simp) ?_) (op_plainW rfl (by rfl) (by simp) ?_) (op_plainW rfl (by rfl) (by simp) ?_)
    ·
      go_simp
      refine (HO1.out _).mono ?_
      rintro e y1 ⟨rfl, bs⟩
      have HB1 := btrJ HB0 bs
      clear bs
      (first | refine ⟨fun _ => HB1.out, ?_⟩ | refine ⟨HB1.out, ?_⟩)
      try simp only [Act.put]
      try simp only [List.setIfInBounds_toArray]
      try simp only [List.set_cons_zero, List.set_cons_succ]
      refine anyH_take hFr (by kernel_rfl) (i := 2) (v := ?_) (d := some 11) (by kernel_rfl) rfl rfl (by kernel_rfl) (by kernel_rfl) (by kernel_rfl) (fun _ _ _ h => h) HB1.out (Or.inl ⟨by rfl, fun w hSw => ?_⟩) ?_
      rotate_left
      · have hfN := fieldN
        go_simp
        all_goals (try (first | with_reducible rfl | omega))
      try simp only [Act.put]
      try simp only [List.setIfInBounds_toArray]
      try simp only [List.set_cons_zero, List.set_cons_succ]
      refine anyH_three (i := 4) (j := 6) (l := 7) (by kernel_rfl) (op_plainW rfl (by rfl) (by simp) ?_) (op_plainW rfl (by rfl) (by simp) ?_) (op_plainW rfl (by rfl) (by simp) ?_)
      ·
        go_simp
        refine (HO4.out _).mono ?_
        rintro e y2 ⟨rfl, bs⟩
        have HB2 := btrJ HB1 bs
        clear bs
        (first | refine ⟨fun _ => HB2.out, ?_⟩ | refine ⟨HB2.out, ?_⟩)
        try simp only [Act.put]
        try simp only [List.setIfInBounds_toArray]
        try simp only [List.set_cons_zero, List.set_cons_succ]
        refine anyH_take hFr (by kernel_rfl) (i := 5) (v := ?_) (d := some 14) (by kernel_rfl) rfl rfl (by kernel_rfl) (by kernel_rfl) (by kernel_rfl) (fun _ _ _ h => h) HB2.out (Or.inl ⟨by rfl, fun w hSw => ?_⟩) ?_
        rotate_left
        · have hfN := fieldN
          go_simp
          all_goals (try (first | with_reducible rfl | omega))
        try simp only [Act.put]
        try simp only [List.setIfInBounds_toArray]
        try simp only [List.set_cons_zero, List.set_cons_succ]
        refine anyH_two (i := 6) (j := 7) (by kernel_rfl) (op_plainW rfl (by rfl) (by simp) ?_) (op_plainW rfl (by rfl) (by simp) ?_)
        ·
          go_simp
          obtain ⟨y3, hy⟩ : ∃ x, x = y2.alloc (.cells #[.int .i64 0, .int .i64 0, .int .i64 0, .int .i64 0] 182) := ⟨_, rfl⟩
          have bs : Below y2.heap.size y2 y3 := by rw [hy]; exact bnewK _ _
          have HB3 := btrJ HB2 bs
          have HM3 : Hid (y3.heap[y2.heap.size]? = some Z4) := by show _ = _; rw [hy]; exact heap_alloc_new _ _
          rw [← hy]
          clear bs hy
          (first | refine ⟨fun _ => HB3.out, ?_⟩ | refine ⟨HB3.out, ?_⟩)
          try simp only [Act.put]
          try simp only [List.setIfInBounds_toArray]
          try simp only [List.set_cons_zero, List.set_cons_succ]
          refine anyH_one (i := 7) (by kernel_rfl) (op_plainW rfl (by rfl) (by simp) ?_)
          go_simp
          obtain ⟨y4, hy⟩ : ∃ x, x = y3.alloc (.cells #[.int .i64 0, .int .i64 0, .int .i64 0, .int .i64 0] 182) := ⟨_, rfl⟩
          have bs : Below y3.heap.size y3 y4 := by rw [hy]; exact bnewK _ _
          have HB4 := btrJ HB3 bs
          have HM4 : Hid (y4.heap[y2.heap.size]? = some Z4) := blk_keep HM3.out bs
          have HN4 : Hid (y4.heap[y3.heap.size]? = some Z4) := by show _ = _; rw [hy]; exact heap_alloc_new _ _
          have hlt := (Array.getElem?_eq_some_iff.1 HM3.out).1
          have HNe : Hid (y2.heap.size ≠ y3.heap.size) := fun e => by omega
          rw [← hy]
          clear bs hy hlt
          (first | refine ⟨fun _ => HB4.out, ?_⟩ | refine ⟨HB4.out, ?_⟩)
          try simp only [Act.put]
          try simp only [List.setIfInBounds_toArray]
          try simp only [List.set_cons_zero, List.set_cons_succ]
          obtain ⟨gb, hgb⟩ : ∃ g, g = y2.heap.size := ⟨_, rfl⟩
          obtain ⟨gh, hgh⟩ : ∃ g, g = y3.heap.size := ⟨_, rfl⟩
          have hne : gb ≠ gh := by rw [hgb, hgh]; exact HNe.out
          have hm : y4.heap[gb]? = some Z4 := by rw [hgb]; exact HM4.out
          have hn : y4.heap[gh]? = some Z4 := by rw [hgh]; exact HN4.out
          have hgb0 : y0.heap.size ≤ gb := by rw [hgb]; first | exact Nat.le_refl _ | exact HB2.out.size
          have hgh0 : y0.heap.size ≤ gh := by rw [hgh]; first | exact Nat.le_refl _ | exact HB3.out.size
          rw [← hgb, ← hgh]
          have hB := HB4.out
          obtain ⟨y, hy⟩ : ∃ y, y = y4 := ⟨_, rfl⟩
          rw [← hy] at hm hn hB ⊢
          clear hgb hgh HNe hy HB4 HM4 HN4
          obtain ⟨z0, z1, z2, z3, zf, zl⟩ := row4_cells hm
          refine anyH_one (i := 8) (by kernel_rfl) (op_plainW rfl (by rfl) (by simp) ?_)
          go_simp
          obtain ⟨U, hU⟩ : ∃ U, U = ((((y.setCell ⟨gb, 0, none⟩ (.int .i64 t.a)).setCell ⟨gb, 1, none⟩ (.int .i64 t.b)).setCell ⟨gb, 2, none⟩ (.int .i64 t.c)).setCell ⟨gb, 3, none⟩ (.int .i64 t.d)) := ⟨_, rfl⟩
          have HU1 : Hid (U.heap[gb]? = some (T4 t)) := at4J hU hm
          have hn2 : U.heap[gh]? = some Z4 := by rw [hU]; exact put4_other hn (Ne.symm hne)
          have HBU : Hid (Below y0.heap.size y0 U) := by rw [hU]; exact put4_below hB hgb0
          rw [← hU]
          clear hU z0 z1 z2 z3 zf zl hm hn hB
          (first | refine ⟨fun _ => HBU.out, ?_⟩ | refine ⟨HBU.out, ?_⟩)
          try simp only [Act.put]
          try simp only [List.setIfInBounds_toArray]
          try simp only [List.set_cons_zero, List.set_cons_succ]
          obtain ⟨z0, z1, z2, z3, zf, zl⟩ := row4_cells hn2
          refine anyH_one (i := 9) (by kernel_rfl) (op_plainW rfl (by rfl) (by simp) ?_)
          go_simp
          (first | refine ⟨by kernel_rfl, ?_⟩ | skip)
          obtain ⟨V, hV⟩ : ∃ V, V = ((((U.setCell ⟨gh, 0, none⟩ (.int .i64 t2.a)).setCell ⟨gh, 1, none⟩ (.int .i64 t2.b)).setCell ⟨gh, 2, none⟩ (.int .i64 t2.c)).setCell ⟨gh, 3, none⟩ (.int .i64 t2.d)) := ⟨_, rfl⟩
          have HV2 : Hid (V.heap[gh]? = some (T4 t2)) := at4J hV hn2
          have HV1 : Hid (V.heap[gb]? = some (T4 t)) := by show _ = _; rw [hV]; exact put4_other HU1.out hne
          have HBV : Hid (Below y0.heap.size y0 V) := by rw [hV]; exact put4_below HBU.out hgh0
          rw [← hV]
          clear hV z0 z1 z2 z3 zf zl hn2
          try simp only [Act.put]
          try simp only [List.setIfInBounds_toArray]
          try simp only [List.set_cons_zero, List.set_cons_succ]
          (first | refine anyH_done (by kernel_rfl) ?_ _ | skip)
          rename_i hKm
          refine hKm _ _ ?_
          clear hKm
          go_meet
          exact ⟨gb, gh, rfl, rfl, leJ hne HBY hgb0 hgh0, HV1.out, HV2.out, (btrJ HBY HBV.out).out⟩
        ·
          go_simp
          obtain ⟨y3, hy⟩ : ∃ x, x = y2.alloc (.cells #[.int .i64 0, .int .i64 0, .int .i64 0, .int .i64 0] 182) := ⟨_, rfl⟩
          have bs : Below y2.heap.size y2 y3 := by rw [hy]; exact bnewK _ _
          have HB3 := btrJ HB2 bs
          have HN3 : Hid (y3.heap[y2.heap.size]? = some Z4) := by show _ = _; rw [hy]; exact heap_alloc_new _ _
          rw [← hy]
          clear bs hy
          (first | refine ⟨fun _ => HB3.out, ?_⟩ | refine ⟨HB3.out, ?_⟩)
          try simp only [Act.put]
          try simp only [List.setIfInBounds_toArray]
          try simp only [List.set_cons_zero, List.set_cons_succ]
          refine anyH_one (i := 6) (by kernel_rfl) (op_plainW rfl (by rfl) (by simp) ?_)
          go_simp
          obtain ⟨y4, hy⟩ : ∃ x, x = y3.alloc (.cells #[.int .i64 0, .int .i64 0, .int .i64 0, .int .i64 0] 182) := ⟨_, rfl⟩
          have bs : Below y3.heap.size y3 y4 := by rw [hy]; exact bnewK _ _
          have HB4 := btrJ HB3 bs
          have HN4 : Hid (y4.heap[y2.heap.size]? = some Z4) := blk_keep HN3.out bs
          have HM4 : Hid (y4.heap[y3.heap.size]? = some Z4) := by show _ = _; rw [hy]; exact heap_alloc_new _ _
          have hlt := (Array.getElem?_eq_some_iff.1 HN3.out).1
          have HNe : Hid (y3.heap.size ≠ y2.heap.size) := fun e => by omega
          rw [← hy]
          clear bs hy hlt
          (first | refine ⟨fun _ => HB4.out, ?_⟩ | refine ⟨HB4.out, ?_⟩)
          try simp only [Act.put]
          try simp only [List.setIfInBounds_toArray]
          try simp only [List.set_cons_zero, List.set_cons_succ]
          obtain ⟨gb, hgb⟩ : ∃ g, g = y3.heap.size := ⟨_, rfl⟩
          obtain ⟨gh, hgh⟩ : ∃ g, g = y2.heap.size := ⟨_, rfl⟩
          have hne : gb ≠ gh := by rw [hgb, hgh]; exact HNe.out
          have hm : y4.heap[gb]? = some Z4 := by rw [hgb]; exact HM4.out
          have hn : y4.heap[gh]? = some Z4 := by rw [hgh]; exact HN4.out
          have hgb0 : y0.heap.size ≤ gb := by rw [hgb]; first | exact Nat.le_refl _ | exact HB3.out.size
          have hgh0 : y0.heap.size ≤ gh := by rw [hgh]; first | exact Nat.le_refl _ | exact HB2.out.size
          rw [← hgb, ← hgh]
          have hB := HB4.out
          obtain ⟨y, hy⟩ : ∃ y, y = y4 := ⟨_, rfl⟩
          rw [← hy] at hm hn hB ⊢
          clear hgb hgh HNe hy HB4 HM4 HN4
          obtain ⟨z0, z1, z2, z3, zf, zl⟩ := row4_cells hm
          refine anyH_one (i := 8) (by kernel_rfl) (op_plainW rfl (by rfl) (by simp) ?_)
          go_simp
          obtain ⟨U, hU⟩ : ∃ U, U = ((((y.setCell ⟨gb, 0, none⟩ (.int .i64 t.a)).setCell ⟨gb, 1, none⟩ (.int .i64 t.b)).setCell ⟨gb, 2, none⟩ (.int .i64 t.c)).setCell ⟨gb, 3, none⟩ (.int .i64 t.d)) := ⟨_, rfl⟩
          have HU1 : Hid (U.heap[gb]? = some (T4 t)) := at4J hU hm
          have hn2 : U.heap[gh]? = some Z4 := by rw [hU]; exact put4_other hn (Ne.symm hne)
          have HBU : Hid (Below y0.heap.size y0 U) := by rw [hU]; exact put4_below hB hgb0
          rw [← hU]
          clear hU z0 z1 z2 z3 zf zl hm hn hB
          (first | refine ⟨fun _ => HBU.out, ?_⟩ | refine ⟨HBU.out, ?_⟩)
          try simp only [Act.put]
          try simp only [List.setIfInBounds_toArray]
          try simp only [List.set_cons_zero, List.set_cons_succ]
          obtain ⟨z0, z1, z2, z3, zf, zl⟩ := row4_cells hn2
          refine anyH_one (i := 9) (by kernel_rfl) (op_plainW rfl (by rfl) (by simp) ?_)
          go_simp
          (first | refine ⟨by kernel_rfl, ?_⟩ | skip)
          obtain ⟨V, hV⟩ : ∃ V, V = ((((U.setCell ⟨gh, 0, none⟩ (.int .i64 t2.a)).setCell ⟨gh, 1, none⟩ (.int .i64 t2.b)).setCell ⟨gh, 2, none⟩ (.int .i64 t2.c)).setCell ⟨gh, 3, none⟩ (.int .i64 t2.d)) := ⟨_, rfl⟩
          have HV2 : Hid (V.heap[gh]? = some (T4 t2)) := at4J hV hn2
          have HV1 : Hid (V.heap[gb]? = some (T4 t)) := by show _ = _; rw [hV]; exact put4_other HU1.out hne
          have HBV : Hid (Below y0.heap.size y0 V) := by rw [hV]; exact put4_below HBU.out hgh0
          rw [← hV]
          clear hV z0 z1 z2 z3 zf zl hn2
          try simp only [Act.put]
          try simp only [List.setIfInBounds_toArray]
          try simp only [List.set_cons_zero, List.set_cons_succ]
          (first | refine anyH_done (by kernel_rfl) ?_ _ | skip)
          rename_i hKm
          refine hKm _ _ ?_
          clear hKm
          go_meet
          exact ⟨gb, gh, rfl, rfl, leJ hne HBY hgb0 hgh0, HV1.out, HV2.out, (btrJ HBY HBV.out).out⟩
      ·
        go_simp
        obtain ⟨y2, hy⟩ : ∃ x, x = y1.alloc (.cells #[.int .i64 0, .int .i64 0, .int .i64 0, .int .i64 0] 182) := ⟨_, rfl⟩
        have bs : Below y1.heap.size y1 y2 := by rw [hy]; exact bnewK _ _
        have HB2 := btrJ HB1 bs
        have HM2 : Hid (y2.heap[y1.heap.size]? = some Z4) := by show _ = _; rw [hy]; exact heap_alloc_new _ _
        rw [← hy]
        clear bs hy
        (first | refine ⟨fun _ => HB2.out, ?_⟩ | refine ⟨HB2.out, ?_⟩)
        try simp only [Act.put]
        try simp only [List.setIfInBounds_toArray]
        try simp only [List.set_cons_zero, List.set_cons_succ]
        refine anyH_two (i := 4) (j := 7) (by kernel_rfl) (op_plainW rfl (by rfl) (by simp) ?_) (op_plainW rfl (by rfl) (by simp) ?_)
        ·
          go_simp
          refine (HO4.out _).mono ?_
          rintro e y3 ⟨rfl, bs⟩
          have HB3 := btrJ HB2 bs
          have HM3 : Hid (y3.heap[y1.heap.size]? = some Z4) := blk_keep HM2.out bs
          clear bs
          (first | refine ⟨fun _ => HB3.out, ?_⟩ | refine ⟨HB3.out, ?_⟩)
          try simp only [Act.put]
          try simp only [List.setIfInBounds_toArray]
          try simp only [List.set_cons_zero, List.set_cons_succ]
          refine anyH_take hFr (by kernel_rfl) (i := 5) (v := ?_) (d := some 14) (by kernel_rfl) rfl rfl (by kernel_rfl) (by kernel_rfl) (by kernel_rfl) (fun _ _ _ h => h) HB3.out (Or.inl ⟨by rfl, fun w hSw => ?_⟩) ?_
          rotate_left
          · have hfN := fieldN
            go_simp
            all_goals (try (first | with_reducible rfl | omega))
          try simp only [Act.put]
          try simp only [List.setIfInBounds_toArray]
          try simp only [List.set_cons_zero, List.set_cons_succ]
          refine anyH_one (i := 7) (by kernel_rfl) (op_plainW rfl (by rfl) (by simp) ?_)
          go_simp
          obtain ⟨y4, hy⟩ : ∃ x, x = y3.alloc (.cells #[.int .i64 0, .int .i64 0, .int .i64 0, .int .i64 0] 182) := ⟨_, rfl⟩
          have bs : Below y3.heap.size y3 y4 := by rw [hy]; exact bnewK _ _
          have HB4 := btrJ HB3 bs
          have HM4 : Hid (y4.heap[y1.heap.size]? = some Z4) := blk_keep HM3.out bs
          have HN4 : Hid (y4.heap[y3.heap.size]? = some Z4) := by show _ = _; rw [hy]; exact heap_alloc_new _ _
          have hlt := (Array.getElem?_eq_some_iff.1 HM3.out).1
          have HNe : Hid (y1.heap.size ≠ y3.heap.size) := fun e => by omega
          rw [← hy]
          clear bs hy hlt
          (first | refine ⟨fun _ => HB4.out, ?_⟩ | refine ⟨HB4.out, ?_⟩)
          try simp only [Act.put]
          try simp only [List.setIfInBounds_toArray]
          try simp only [List.set_cons_zero, List.set_cons_succ]
          obtain ⟨gb, hgb⟩ : ∃ g, g = y1.heap.size := ⟨_, rfl⟩
          obtain ⟨gh, hgh⟩ : ∃ g, g = y3.heap.size := ⟨_, rfl⟩
          have hne : gb ≠ gh := by rw [hgb, hgh]; exact HNe.out
          have hm : y4.heap[gb]? = some Z4 := by rw [hgb]; exact HM4.out
          have hn : y4.heap[gh]? = some Z4 := by rw [hgh]; exact HN4.out
          have hgb0 : y0.heap.size ≤ gb := by rw [hgb]; first | exact Nat.le_refl _ | exact HB1.out.size
          have hgh0 : y0.heap.size ≤ gh := by rw [hgh]; first | exact Nat.le_refl _ | exact HB3.out.size
          rw [← hgb, ← hgh]
          have hB := HB4.out
          obtain ⟨y, hy⟩ : ∃ y, y = y4 := ⟨_, rfl⟩
          rw [← hy] at hm hn hB ⊢
          clear hgb hgh HNe hy HB4 HM4 HN4
          obtain ⟨z0, z1, z2, z3, zf, zl⟩ := row4_cells hm
          refine anyH_one (i := 8) (by kernel_rfl) (op_plainW rfl (by rfl) (by simp) ?_)
          go_simp
          obtain ⟨U, hU⟩ : ∃ U, U = ((((y.setCell ⟨gb, 0, none⟩ (.int .i64 t.a)).setCell ⟨gb, 1, none⟩ (.int .i64 t.b)).setCell ⟨gb, 2, none⟩ (.int .i64 t.c)).setCell ⟨gb, 3, none⟩ (.int .i64 t.d)) := ⟨_, rfl⟩
          have HU1 : Hid (U.heap[gb]? = some (T4 t)) := at4J hU hm
          have hn2 : U.heap[gh]? = some Z4 := by rw [hU]; exact put4_other hn (Ne.symm hne)
          have HBU : Hid (Below y0.heap.size y0 U) := by rw [hU]; exact put4_below hB hgb0
          rw [← hU]
          clear hU z0 z1 z2 z3 zf zl hm hn hB
          (first | refine ⟨fun _ => HBU.out, ?_⟩ | refine ⟨HBU.out, ?_⟩)
          try simp only [Act.put]
          try simp only [List.setIfInBounds_toArray]
          try simp only [List.set_cons_zero, List.set_cons_succ]
          obtain ⟨z0, z1, z2, z3, zf, zl⟩ := row4_cells hn2
          refine anyH_one (i := 9) (by kernel_rfl) (op_plainW rfl (by rfl) (by simp) ?_)
          go_simp
          (first | refine ⟨by kernel_rfl, ?_⟩ | skip)
          obtain ⟨V, hV⟩ : ∃ V, V = ((((U.setCell ⟨gh, 0, none⟩ (.int .i64 t2.a)).setCell ⟨gh, 1, none⟩ (.int .i64 t2.b)).setCell ⟨gh, 2, none⟩ (.int .i64 t2.c)).setCell ⟨gh, 3, none⟩ (.int .i64 t2.d)) := ⟨_, rfl⟩
          have HV2 : Hid (V.heap[gh]? = some (T4 t2)) := at4J hV hn2
          have HV1 : Hid (V.heap[gb]? = some (T4 t)) := by show _ = _; rw [hV]; exact put4_other HU1.out hne
          have HBV : Hid (Below y0.heap.size y0 V) := by rw [hV]; exact put4_below HBU.out hgh0
          rw [← hV]
          clear hV z0 z1 z2 z3 zf zl hn2
          try simp only [Act.put]
          try simp only [List.setIfInBounds_toArray]
          try simp only [List.set_cons_zero, List.set_cons_succ]
          (first | refine anyH_done (by kernel_rfl) ?_ _ | skip)
          rename_i hKm
          refine hKm _ _ ?_
          clear hKm
          go_meet
          exact ⟨gb, gh, rfl, rfl, leJ hne HBY hgb0 hgh0, HV1.out, HV2.out, (btrJ HBY HBV.out).out⟩
        ·
          go_simp
          obtain ⟨y3, hy⟩ : ∃ x, x = y2.alloc (.cells #[.int .i64 0, .int .i64 0, .int .i64 0, .int .i64 0] 182) := ⟨_, rfl⟩
          have bs : Below y2.heap.size y2 y3 := by rw [hy]; exact bnewK _ _
          have HB3 := btrJ HB2 bs
          have HM3 : Hid (y3.heap[y1.heap.size]? = some Z4) := blk_keep HM2.out bs
          have HN3 : Hid (y3.heap[y2.heap.size]? = some Z4) := by show _ = _; rw [hy]; exact heap_alloc_new _ _
          have hlt := (Array.getElem?_eq_some_iff.1 HM2.out).1
          have HNe : Hid (y1.heap.size ≠ y2.heap.size) := fun e => by omega
          rw [← hy]
          clear bs hy hlt
          (first | refine ⟨fun _ => HB3.out, ?_⟩ | refine ⟨HB3.out, ?_⟩)
          try simp only [Act.put]
          try simp only [List.setIfInBounds_toArray]
          try simp only [List.set_cons_zero, List.set_cons_succ]
          refine anyH_one (i := 4) (by kernel_rfl) (op_plainW rfl (by rfl) (by simp) ?_)
          go_simp
          refine (HO4.out _).mono ?_
          rintro e y4 ⟨rfl, bs⟩
          have HB4 := btrJ HB3 bs
          have HM4 : Hid (y4.heap[y1.heap.size]? = some Z4) := blk_keep HM3.out bs
          have HN4 : Hid (y4.heap[y2.heap.size]? = some Z4) := blk_keep HN3.out bs
          clear bs
          (first | refine ⟨fun _ => HB4.out, ?_⟩ | refine ⟨HB4.out, ?_⟩)
          try simp only [Act.put]
          try simp only [List.setIfInBounds_toArray]
          try simp only [List.set_cons_zero, List.set_cons_succ]
          refine anyH_take hFr (by kernel_rfl) (i := 5) (v := ?_) (d := some 14) (by kernel_rfl) rfl rfl (by kernel_rfl) (by kernel_rfl) (by kernel_rfl) (fun _ _ _ h => h) HB4.out (Or.inl ⟨by rfl, fun w hSw => ?_⟩) ?_
          rotate_left
          · have hfN := fieldN
            go_simp
            all_goals (try (first | with_reducible rfl | omega))
          try simp only [Act.put]
          try simp only [List.setIfInBounds_toArray]
          try simp only [List.set_cons_zero, List.set_cons_succ]
          obtain ⟨gb, hgb⟩ : ∃ g, g = y1.heap.size := ⟨_, rfl⟩
          obtain ⟨gh, hgh⟩ : ∃ g, g = y2.heap.size := ⟨_, rfl⟩
          have hne : gb ≠ gh := by rw [hgb, hgh]; exact HNe.out
          have hm : y4.heap[gb]? = some Z4 := by rw [hgb]; exact HM4.out
          have hn : y4.heap[gh]? = some Z4 := by rw [hgh]; exact HN4.out
          have hgb0 : y0.heap.size ≤ gb := by rw [hgb]; first | exact Nat.le_refl _ | exact HB1.out.size
          have hgh0 : y0.heap.size ≤ gh := by rw [hgh]; first | exact Nat.le_refl _ | exact HB2.out.size
          rw [← hgb, ← hgh]
          have hB := HB4.out
          obtain ⟨y, hy⟩ : ∃ y, y = y4 := ⟨_, rfl⟩
          rw [← hy] at hm hn hB ⊢
          clear hgb hgh HNe hy HB4 HM4 HN4
          obtain ⟨z0, z1, z2, z3, zf, zl⟩ := row4_cells hm
          refine anyH_one (i := 8) (by kernel_rfl) (op_plainW rfl (by rfl) (by simp) ?_)
          go_simp
          obtain ⟨U, hU⟩ : ∃ U, U = ((((y.setCell ⟨gb, 0, none⟩ (.int .i64 t.a)).setCell ⟨gb, 1, none⟩ (.int .i64 t.b)).setCell ⟨gb, 2, none⟩ (.int .i64 t.c)).setCell ⟨gb, 3, none⟩ (.int .i64 t.d)) := ⟨_, rfl⟩
          have HU1 : Hid (U.heap[gb]? = some (T4 t)) := at4J hU hm
          have hn2 : U.heap[gh]? = some Z4 := by rw [hU]; exact put4_other hn (Ne.symm hne)
          have HBU : Hid (Below y0.heap.size y0 U) := by rw [hU]; exact put4_below hB hgb0
          rw [← hU]
          clear hU z0 z1 z2 z3 zf zl hm hn hB
          (first | refine ⟨fun _ => HBU.out, ?_⟩ | refine ⟨HBU.out, ?_⟩)
          try simp only [Act.put]
          try simp only [List.setIfInBounds_toArray]
          try simp only [List.set_cons_zero, List.set_cons_succ]
          obtain ⟨z0, z1, z2, z3, zf, zl⟩ := row4_cells hn2
          refine anyH_one (i := 9) (by kernel_rfl) (op_plainW rfl (by rfl) (by simp) ?_)
          go_simp
          (first | refine ⟨by kernel_rfl, ?_⟩ | skip)
          obtain ⟨V, hV⟩ : ∃ V, V = ((((U.setCell ⟨gh, 0, none⟩ (.int .i64 t2.a)).setCell ⟨gh, 1, none⟩ (.int .i64 t2.b)).setCell ⟨gh, 2, none⟩ (.int .i64 t2.c)).setCell ⟨gh, 3, none⟩ (.int .i64 t2.d)) := ⟨_, rfl⟩
          have HV2 : Hid (V.heap[gh]? = some (T4 t2)) := at4J hV hn2
          have HV1 : Hid (V.heap[gb]? = some (T4 t)) := by show _ = _; rw [hV]; exact put4_other HU1.out hne
          have HBV : Hid (Below y0.heap.size y0 V) := by rw [hV]; exact put4_below HBU.out hgh0
          rw [← hV]
          clear hV z0 z1 z2 z3 zf zl hn2
          try simp only [Act.put]
          try simp only [List.setIfInBounds_toArray]
          try simp only [List.set_cons_zero, List.set_cons_succ]
          (first | refine anyH_done (by kernel_rfl) ?_ _ | skip)
          rename_i hKm
          refine hKm _ _ ?_
          clear hKm
          go_meet
          exact ⟨gb, gh, rfl, rfl, leJ hne HBY hgb0 hgh0, HV1.out, HV2.out, (btrJ HBY HBV.out).out⟩
      ·
        go_simp
        obtain ⟨y2, hy⟩ : ∃ x, x = y1.alloc (.cells #[.int .i64 0, .int .i64 0, .int .i64 0, .int .i64 0] 182) := ⟨_, rfl⟩
        have bs : Below y1.heap.size y1 y2 := by rw [hy]; exact bnewK _ _
        have HB2 := btrJ HB1 bs
        have HN2 : Hid (y2.heap[y1.heap.size]? = some Z4) := by show _ = _; rw [hy]; exact heap_alloc_new _ _
        rw [← hy]
        clear bs hy
        (first | refine ⟨fun _ => HB2.out, ?_⟩ | refine ⟨HB2.out, ?_⟩)
        try simp only [Act.put]
        try simp only [List.setIfInBounds_toArray]
        try simp only [List.set_cons_zero, List.set_cons_succ]
        refine anyH_two (i := 4) (j := 6) (by kernel_rfl) (op_plainW rfl (by rfl) (by simp) ?_) (op_plainW rfl (by rfl) (by simp) ?_)
        ·
          go_simp
          refine (HO4.out _).mono ?_
          rintro e y3 ⟨rfl, bs⟩
          have HB3 := btrJ HB2 bs
          have HN3 : Hid (y3.heap[y1.heap.size]? = some Z4) := blk_keep HN2.out bs
          clear bs
          (first | refine ⟨fun _ => HB3.out, ?_⟩ | refine ⟨HB3.out, ?_⟩)
          try simp only [Act.put]
          try simp only [List.setIfInBounds_toArray]
          try simp only [List.set_cons_zero, List.set_cons_succ]
          refine anyH_take hFr (by kernel_rfl) (i := 5) (v := ?_) (d := some 14) (by kernel_rfl) rfl rfl (by kernel_rfl) (by kernel_rfl) (by kernel_rfl) (fun _ _ _ h => h) HB3.out (Or.inl ⟨by rfl, fun w hSw => ?_⟩) ?_
          rotate_left
          · have hfN := fieldN
            go_simp
            all_goals (try (first | with_reducible rfl | omega))
          try simp only [Act.put]
          try simp only [List.setIfInBounds_toArray]
          try simp only [List.set_cons_zero, List.set_cons_succ]
          refine anyH_one (i := 6) (by kernel_rfl) (op_plainW rfl (by rfl) (by simp) ?_)
          go_simp
          obtain ⟨y4, hy⟩ : ∃ x, x = y3.alloc (.cells #[.int .i64 0, .int .i64 0, .int .i64 0, .int .i64 0] 182) := ⟨_, rfl⟩
          have bs : Below y3.heap.size y3 y4 := by rw [hy]; exact bnewK _ _
          have HB4 := btrJ HB3 bs
          have HN4 : Hid (y4.heap[y1.heap.size]? = some Z4) := blk_keep HN3.out bs
          have HM4 : Hid (y4.heap[y3.heap.size]? = some Z4) := by show _ = _; rw [hy]; exact heap_alloc_new _ _
          have hlt := (Array.getElem?_eq_some_iff.1 HN3.out).1
          have HNe : Hid (y3.heap.size ≠ y1.heap.size) := fun e => by omega
          rw [← hy]
          clear bs hy hlt
          (first | refine ⟨fun _ => HB4.out, ?_⟩ | refine ⟨HB4.out, ?_⟩)
          try simp only [Act.put]
          try simp only [List.setIfInBounds_toArray]
          try simp only [List.set_cons_zero, List.set_cons_succ]
          obtain ⟨gb, hgb⟩ : ∃ g, g = y3.heap.size := ⟨_, rfl⟩
          obtain ⟨gh, hgh⟩ : ∃ g, g = y1.heap.size := ⟨_, rfl⟩
          have hne : gb ≠ gh := by rw [hgb, hgh]; exact HNe.out
          have hm : y4.heap[gb]? = some Z4 := by rw [hgb]; exact HM4.out
          have hn : y4.heap[gh]? = some Z4 := by rw [hgh]; exact HN4.out
          have hgb0 : y0.heap.size ≤ gb := by rw [hgb]; first | exact Nat.le_refl _ | exact HB3.out.size
          have hgh0 : y0.heap.size ≤ gh := by rw [hgh]; first | exact Nat.le_refl _ | exact HB1.out.size
          rw [← hgb, ← hgh]
          have hB := HB4.out
          obtain ⟨y, hy⟩ : ∃ y, y = y4 := ⟨_, rfl⟩
          rw [← hy] at hm hn hB ⊢
          clear hgb hgh HNe hy HB4 HM4 HN4
          obtain ⟨z0, z1, z2, z3, zf, zl⟩ := row4_cells hm
          refine anyH_one (i := 8) (by kernel_rfl) (op_plainW rfl (by rfl) (by simp) ?_)
          go_simp
          obtain ⟨U, hU⟩ : ∃ U, U = ((((y.setCell ⟨gb, 0, none⟩ (.int .i64 t.a)).setCell ⟨gb, 1, none⟩ (.int .i64 t.b)).setCell ⟨gb, 2, none⟩ (.int .i64 t.c)).setCell ⟨gb, 3, none⟩ (.int .i64 t.d)) := ⟨_, rfl⟩
          have HU1 : Hid (U.heap[gb]? = some (T4 t)) := at4J hU hm
          have hn2 : U.heap[gh]? = some Z4 := by rw [hU]; exact put4_other hn (Ne.symm hne)
          have HBU : Hid (Below y0.heap.size y0 U) := by rw [hU]; exact put4_below hB hgb0
          rw [← hU]
          clear hU z0 z1 z2 z3 zf zl hm hn hB
          (first | refine ⟨fun _ => HBU.out, ?_⟩ | refine ⟨HBU.out, ?_⟩)
          try simp only [Act.put]
          try simp only [List.setIfInBounds_toArray]
          try simp only [List.set_cons_zero, List.set_cons_succ]
          obtain ⟨z0, z1, z2, z3, zf, zl⟩ := row4_cells hn2
          refine anyH_one (i := 9) (by kernel_rfl) (op_plainW rfl (by rfl) (by simp) ?_)
          go_simp
          (first | refine ⟨by kernel_rfl, ?_⟩ | skip)
          obtain ⟨V, hV⟩ : ∃ V, V = ((((U.setCell ⟨gh, 0, none⟩ (.int .i64 t2.a)).setCell ⟨gh, 1, none⟩ (.int .i64 t2.b)).setCell ⟨gh, 2, none⟩ (.int .i64 t2.c)).setCell ⟨gh, 3, none⟩ (.int .i64 t2.d)) := ⟨_, rfl⟩
          have HV2 : Hid (V.heap[gh]? = some (T4 t2)) := at4J hV hn2
          have HV1 : Hid (V.heap[gb]? = some (T4 t)) := by show _ = _; rw [hV]; exact put4_other HU1.out hne
          have HBV : Hid (Below y0.heap.size y0 V) := by rw [hV]; exact put4_below HBU.out hgh0
          rw [← hV]
          clear hV z0 z1 z2 z3 zf zl hn2
          try simp only [Act.put]
          try simp only [List.setIfInBounds_toArray]
          try simp only [List.set_cons_zero, List.set_cons_succ]
          (first | refine anyH_done (by kernel_rfl) ?_ _ | skip)
          rename_i hKm
          refine hKm _ _ ?_
          clear hKm
          go_meet
          exact ⟨gb, gh, rfl, rfl, leJ hne HBY hgb0 hgh0, HV1.out, HV2.out, (btrJ HBY HBV.out).out⟩
        ·
          go_simp
          obtain ⟨y3, hy⟩ : ∃ x, x = y2.alloc (.cells #[.int .i64 0, .int .i64 0, .int .i64 0, .int .i64 0] 182) := ⟨_, rfl⟩
          have bs : Below y2.heap.size y2 y3 := by rw [hy]; exact bnewK _ _
          have HB3 := btrJ HB2 bs
          have HN3 : Hid (y3.heap[y1.heap.size]? = some Z4) := blk_keep HN2.out bs
          have HM3 : Hid (y3.heap[y2.heap.size]? = some Z4) := by show _ = _; rw [hy]; exact heap_alloc_new _ _
          have hlt := (Array.getElem?_eq_some_iff.1 HN2.out).1
          have HNe : Hid (y2.heap.size ≠ y1.heap.size) := fun e => by omega
          rw [← hy]
          clear bs hy hlt
          (first | refine ⟨fun _ => HB3.out, ?_⟩ | refine ⟨HB3.out, ?_⟩)
          try simp only [Act.put]
          try simp only [List.setIfInBounds_toArray]
          try simp only [List.set_cons_zero, List.set_cons_succ]
          refine anyH_one (i := 4) (by kernel_rfl) (op_plainW rfl (by rfl) (by simp) ?_)
          go_simp
          refine (HO4.out _).mono ?_
          rintro e y4 ⟨rfl, bs⟩
          have HB4 := btrJ HB3 bs
          have HM4 : Hid (y4.heap[y2.heap.size]? = some Z4) := blk_keep HM3.out bs
          have HN4 : Hid (y4.heap[y1.heap.size]? = some Z4) := blk_keep HN3.out bs
          clear bs
          (first | refine ⟨fun _ => HB4.out, ?_⟩ | refine ⟨HB4.out, ?_⟩)
          try simp only [Act.put]
          try simp only [List.setIfInBounds_toArray]
          try simp only [List.set_cons_zero, List.set_cons_succ]
          refine anyH_take hFr (by kernel_rfl) (i := 5) (v := ?_) (d := some 14) (by kernel_rfl) rfl rfl (by kernel_rfl) (by kernel_rfl) (by kernel_rfl) (fun _ _ _ h => h) HB4.out (Or.inl ⟨by rfl, fun w hSw => ?_⟩) ?_
          rotate_left
          · have hfN := fieldN
            go_simp
            all_goals (try (first | with_reducible rfl | omega))
          try simp only [Act.put]
          try simp only [List.setIfInBounds_toArray]
          try simp only [List.set_cons_zero, List.set_cons_succ]
          obtain ⟨gb, hgb⟩ : ∃ g, g = y2.heap.size := ⟨_, rfl⟩
          obtain ⟨gh, hgh⟩ : ∃ g, g = y1.heap.size := ⟨_, rfl⟩
          have hne : gb ≠ gh := by rw [hgb, hgh]; exact HNe.out
          have hm : y4.heap[gb]? = some Z4 := by rw [hgb]; exact HM4.out
          have hn : y4.heap[gh]? = some Z4 := by rw [hgh]; exact HN4.out
          have hgb0 : y0.heap.size ≤ gb := by rw [hgb]; first | exact Nat.le_refl _ | exact HB2.out.size
          have hgh0 : y0.heap.size ≤ gh := by rw [hgh]; first | exact Nat.le_refl _ | exact HB1.out.size
          rw [← hgb, ← hgh]
          have hB := HB4.out
          obtain ⟨y, hy⟩ : ∃ y, y = y4 := ⟨_, rfl⟩
          rw [← hy] at hm hn hB ⊢
          clear hgb hgh HNe hy HB4 HM4 HN4
          obtain ⟨z0, z1, z2, z3, zf, zl⟩ := row4_cells hm
          refine anyH_one (i := 8) (by kernel_rfl) (op_plainW rfl (by rfl) (by simp) ?_)
          go_simp
          obtain ⟨U, hU⟩ : ∃ U, U = ((((y.setCell ⟨gb, 0, none⟩ (.int .i64 t.a)).setCell ⟨gb, 1, none⟩ (.int .i64 t.b)).setCell ⟨gb, 2, none⟩ (.int .i64 t.c)).setCell ⟨gb, 3, none⟩ (.int .i64 t.d)) := ⟨_, rfl⟩
          have HU1 : Hid (U.heap[gb]? = some (T4 t)) := at4J hU hm
          have hn2 : U.heap[gh]? = some Z4 := by rw [hU]; exact put4_other hn (Ne.symm hne)
          have HBU : Hid (Below y0.heap.size y0 U) := by rw [hU]; exact put4_below hB hgb0
          rw [← hU]
          clear hU z0 z1 z2 z3 zf zl hm hn hB
          (first | refine ⟨fun _ => HBU.out, ?_⟩ | refine ⟨HBU.out, ?_⟩)
          try simp only [Act.put]
          try simp only [List.setIfInBounds_toArray]
          try simp only [List.set_cons_zero, List.set_cons_succ]
          obtain ⟨z0, z1, z2, z3, zf, zl⟩ := row4_cells hn2
          refine anyH_one (i := 9) (by kernel_rfl) (op_plainW rfl (by rfl) (by simp) ?_)
          go_simp
          (first | refine ⟨by kernel_rfl, ?_⟩ | skip)
          obtain ⟨V, hV⟩ : ∃ V, V = ((((U.setCell ⟨gh, 0, none⟩ (.int .i64 t2.a)).setCell ⟨gh, 1, none⟩ (.int .i64 t2.b)).setCell ⟨gh, 2, none⟩ (.int .i64 t2.c)).setCell ⟨gh, 3, none⟩ (.int .i64 t2.d)) := ⟨_, rfl⟩
          have HV2 : Hid (V.heap[gh]? = some (T4 t2)) := at4J hV hn2
          have HV1 : Hid (V.heap[gb]? = some (T4 t)) := by show _ = _; rw [hV]; exact put4_other HU1.out hne
          have HBV : Hid (Below y0.heap.size y0 V) := by rw [hV]; exact put4_below HBU.out hgh0
          rw [← hV]
          clear hV z0 z1 z2 z3 zf zl hn2
          try simp only [Act.put]
          try simp only [List.setIfInBounds_toArray]
          try simp only [List.set_cons_zero, List.set_cons_succ]
          (first | refine anyH_done (by kernel_rfl) ?_ _ | skip)
          rename_i hKm
          refine hKm _ _ ?_
          clear hKm
          go_meet
          exact ⟨gb, gh, rfl, rfl, leJ hne HBY hgb0 hgh0, HV1.out, HV2.out, (btrJ HBY HBV.out).out⟩
    ·
      go_simp
      obtain ⟨y1, hy⟩ : ∃ x, x = y0.alloc (.cells #[.int .i64 0, .int .i64 0, .int .i64 0, .int .i64 0] 182) := ⟨_, rfl⟩
      have bs : Below y0.heap.size y0 y1 := by rw [hy]; exact bnewK _ _
      have HB1 := btrJ HB0 bs
      have HM1 : Hid (y1.heap[y0.heap.size]? = some Z4) := by show _ = _; rw [hy]; exact heap_alloc_new _ _
      rw [← hy]
      clear bs hy
      (first | refine ⟨fun _ => HB1.out, ?_⟩ | refine ⟨HB1.out, ?_⟩)
      try simp only [Act.put]
      try simp only [List.setIfInBounds_toArray]
      try simp only [List.set_cons_zero, List.set_cons_succ]
      refine anyH_two (i := 1) (j := 7) (by kernel_rfl) (op_plainW rfl (by rfl) (by simp) ?_) (op_plainW rfl (by rfl) (by simp) ?_)
      ·
        go_simp
        refine (HO1.out _).mono ?_
        rintro e y2 ⟨rfl, bs⟩
        have HB2 := btrJ HB1 bs
        have HM2 : Hid (y2.heap[y0.heap.size]? = some Z4) := blk_keep HM1.out bs
        clear bs
        (first | refine ⟨fun _ => HB2.out, ?_⟩ | refine ⟨HB2.out, ?_⟩)
        try simp only [Act.put]
        try simp only [List.setIfInBounds_toArray]
        try simp only [List.set_cons_zero, List.set_cons_succ]
        refine anyH_take hFr (by kernel_rfl) (i := 2) (v := ?_) (d := some 11) (by kernel_rfl) rfl rfl (by kernel_rfl) (by kernel_rfl) (by kernel_rfl) (fun _ _ _ h => h) HB2.out (Or.inl ⟨by rfl, fun w hSw => ?_⟩) ?_
        rotate_left
        · have hfN := fieldN
          go_simp
          all_goals (try (first | with_reducible rfl | omega))
        try simp only [Act.put]
        try simp only [List.setIfInBounds_toArray]
        try simp only [List.set_cons_zero, List.set_cons_succ]
        refine anyH_two (i := 4) (j := 7) (by kernel_rfl) (op_plainW rfl (by rfl) (by simp) ?_) (op_plainW rfl (by rfl) (by simp) ?_)
        ·
          go_simp
          refine (HO4.out _).mono ?_
          rintro e y3 ⟨rfl, bs⟩
          have HB3 := btrJ HB2 bs
          have HM3 : Hid (y3.heap[y0.heap.size]? = some Z4) := blk_keep HM2.out bs
          clear bs
          (first | refine ⟨fun _ => HB3.out, ?_⟩ | refine ⟨HB3.out, ?_⟩)
          try simp only [Act.put]
          try simp only [List.setIfInBounds_toArray]
          try simp only [List.set_cons_zero, List.set_cons_succ]
          refine anyH_take hFr (by kernel_rfl) (i := 5) (v := ?_) (d := some 14) (by kernel_rfl) rfl rfl (by kernel_rfl) (by kernel_rfl) (by kernel_rfl) (fun _ _ _ h => h) HB3.out (Or.inl ⟨by rfl, fun w hSw => ?_⟩) ?_
          rotate_left
          · have hfN := fieldN
            go_simp
            all_goals (try (first | with_reducible rfl | omega))
          try simp only [Act.put]
          try simp only [List.setIfInBounds_toArray]
          try simp only [List.set_cons_zero, List.set_cons_succ]
          refine anyH_one (i := 7) (by kernel_rfl) (op_plainW rfl (by rfl) (by simp) ?_)
          go_simp
          obtain ⟨y4, hy⟩ : ∃ x, x = y3.alloc (.cells #[.int .i64 0, .int .i64 0, .int .i64 0, .int .i64 0] 182) := ⟨_, rfl⟩
          have bs : Below y3.heap.size y3 y4 := by rw [hy]; exact bnewK _ _
          have HB4 := btrJ HB3 bs
          have HM4 : Hid (y4.heap[y0.heap.size]? = some Z4) := blk_keep HM3.out bs
          have HN4 : Hid (y4.heap[y3.heap.size]? = some Z4) := by show _ = _; rw [hy]; exact heap_alloc_new _ _
          have hlt := (Array.getElem?_eq_some_iff.1 HM3.out).1
          have HNe : Hid (y0.heap.size ≠ y3.heap.size) := fun e => by omega
          rw [← hy]
          clear bs hy hlt
          (first | refine ⟨fun _ => HB4.out, ?_⟩ | refine ⟨HB4.out, ?_⟩)
          try simp only [Act.put]
          try simp only [List.setIfInBounds_toArray]
          try simp only [List.set_cons_zero, List.set_cons_succ]
          obtain ⟨gb, hgb⟩ : ∃ g, g = y0.heap.size := ⟨_, rfl⟩
          obtain ⟨gh, hgh⟩ : ∃ g, g = y3.heap.size := ⟨_, rfl⟩
          have hne : gb ≠ gh := by rw [hgb, hgh]; exact HNe.out
          have hm : y4.heap[gb]? = some Z4 := by rw [hgb]; exact HM4.out
          have hn : y4.heap[gh]? = some Z4 := by rw [hgh]; exact HN4.out
          have hgb0 : y0.heap.size ≤ gb := by rw [hgb]; first | exact Nat.le_refl _ | exact HB0.out.size
          have hgh0 : y0.heap.size ≤ gh := by rw [hgh]; first | exact Nat.le_refl _ | exact HB3.out.size
          rw [← hgb, ← hgh]
          have hB := HB4.out
          obtain ⟨y, hy⟩ : ∃ y, y = y4 := ⟨_, rfl⟩
          rw [← hy] at hm hn hB ⊢
          clear hgb hgh HNe hy HB4 HM4 HN4
          obtain ⟨z0, z1, z2, z3, zf, zl⟩ := row4_cells hm
          refine anyH_one (i := 8) (by kernel_rfl) (op_plainW rfl (by rfl) (by simp) ?_)
          go_simp
          obtain ⟨U, hU⟩ : ∃ U, U = ((((y.setCell ⟨gb, 0, none⟩ (.int .i64 t.a)).setCell ⟨gb, 1, none⟩ (.int .i64 t.b)).setCell ⟨gb, 2, none⟩ (.int .i64 t.c)).setCell ⟨gb, 3, none⟩ (.int .i64 t.d)) := ⟨_, rfl⟩
          have HU1 : Hid (U.heap[gb]? = some (T4 t)) := at4J hU hm
          have hn2 : U.heap[gh]? = some Z4 := by rw [hU]; exact put4_other hn (Ne.symm hne)
          have HBU : Hid (Below y0.heap.size y0 U) := by rw [hU]; exact put4_below hB hgb0
          rw [← hU]
          clear hU z0 z1 z2 z3 zf zl hm hn hB
          (first | refine ⟨fun _ => HBU.out, ?_⟩ | refine ⟨HBU.out, ?_⟩)
          try simp only [Act.put]
          try simp only [List.setIfInBounds_toArray]
          try simp only [List.set_cons_zero, List.set_cons_succ]
          obtain ⟨z0, z1, z2, z3, zf, zl⟩ := row4_cells hn2
          refine anyH_one (i := 9) (by kernel_rfl) (op_plainW rfl (by rfl) (by simp) ?_)
          go_simp
          (first | refine ⟨by kernel_rfl, ?_⟩ | skip)
          obtain ⟨V, hV⟩ : ∃ V, V = ((((U.setCell ⟨gh, 0, none⟩ (.int .i64 t2.a)).setCell ⟨gh, 1, none⟩ (.int .i64 t2.b)).setCell ⟨gh, 2, none⟩ (.int .i64 t2.c)).setCell ⟨gh, 3, none⟩ (.int .i64 t2.d)) := ⟨_, rfl⟩
          have HV2 : Hid (V.heap[gh]? = some (T4 t2)) := at4J hV hn2
          have HV1 : Hid (V.heap[gb]? = some (T4 t)) := by show _ = _; rw [hV]; exact put4_other HU1.out hne
          have HBV : Hid (Below y0.heap.size y0 V) := by rw [hV]; exact put4_below HBU.out hgh0
          rw [← hV]
          clear hV z0 z1 z2 z3 zf zl hn2
          try simp only [Act.put]
          try simp only [List.setIfInBounds_toArray]
          try simp only [List.set_cons_zero, List.set_cons_succ]
          (first | refine anyH_done (by kernel_rfl) ?_ _ | skip)
          rename_i hKm
          refine hKm _ _ ?_
          clear hKm
          go_meet
          exact ⟨gb, gh, rfl, rfl, leJ hne HBY hgb0 hgh0, HV1.out, HV2.out, (btrJ HBY HBV.out).out⟩
        ·
          go_simp
          obtain ⟨y3, hy⟩ : ∃ x, x = y2.alloc (.cells #[.int .i64 0, .int .i64 0, .int .i64 0, .int .i64 0] 182) := ⟨_, rfl⟩
          have bs : Below y2.heap.size y2 y3 := by rw [hy]; exact bnewK _ _
          have HB3 := btrJ HB2 bs
          have HM3 : Hid (y3.heap[y0.heap.size]? = some Z4) := blk_keep HM2.out bs
          have HN3 : Hid (y3.heap[y2.heap.size]? = some Z4) := by show _ = _; rw [hy]; exact heap_alloc_new _ _
          have hlt := (Array.getElem?_eq_some_iff.1 HM2.out).1
          have HNe : Hid (y0.heap.size ≠ y2.heap.size) := fun e => by omega
          rw [← hy]
          clear bs hy hlt
          (first | refine ⟨fun _ => HB3.out, ?_⟩ | refine ⟨HB3.out, ?_⟩)
          try simp only [Act.put]
          try simp only [List.setIfInBounds_toArray]
          try simp only [List.set_cons_zero, List.set_cons_succ]
          refine anyH_one (i := 4) (by kernel_rfl) (op_plainW rfl (by rfl) (by simp) ?_)
          go_simp
          refine (HO4.out _).mono ?_
          rintro e y4 ⟨rfl, bs⟩
          have HB4 := btrJ HB3 bs
          have HM4 : Hid (y4.heap[y0.heap.size]? = some Z4) := blk_keep HM3.out bs
          have HN4 : Hid (y4.heap[y2.heap.size]? = some Z4) := blk_keep HN3.out bs
          clear bs
          (first | refine ⟨fun _ => HB4.out, ?_⟩ | refine ⟨HB4.out, ?_⟩)
          try simp only [Act.put]
          try simp only [List.setIfInBounds_toArray]
          try simp only [List.set_cons_zero, List.set_cons_succ]
          refine anyH_take hFr (by kernel_rfl) (i := 5) (v := ?_) (d := some 14) (by kernel_rfl) rfl rfl (by kernel_rfl) (by kernel_rfl) (by kernel_rfl) (fun _ _ _ h => h) HB4.out (Or.inl ⟨by rfl, fun w hSw => ?_⟩) ?_
          rotate_left
          · have hfN := fieldN
            go_simp
            all_goals (try (first | with_reducible rfl | omega))
          try simp only [Act.put]
          try simp only [List.setIfInBounds_toArray]
          try simp only [List.set_cons_zero, List.set_cons_succ]
          obtain ⟨gb, hgb⟩ : ∃ g, g = y0.heap.size := ⟨_, rfl⟩
          obtain ⟨gh, hgh⟩ : ∃ g, g = y2.heap.size := ⟨_, rfl⟩
          have hne : gb ≠ gh := by rw [hgb, hgh]; exact HNe.out
          have hm : y4.heap[gb]? = some Z4 := by rw [hgb]; exact HM4.out
          have hn : y4.heap[gh]? = some Z4 := by rw [hgh]; exact HN4.out
          have hgb0 : y0.heap.size ≤ gb := by rw [hgb]; first | exact Nat.le_refl _ | exact HB0.out.size
          have hgh0 : y0.heap.size ≤ gh := by rw [hgh]; first | exact Nat.le_refl _ | exact HB2.out.size
          rw [← hgb, ← hgh]
          have hB := HB4.out
          obtain ⟨y, hy⟩ : ∃ y, y = y4 := ⟨_, rfl⟩
          rw [← hy] at hm hn hB ⊢
          clear hgb hgh HNe hy HB4 HM4 HN4
          obtain ⟨z0, z1, z2, z3, zf, zl⟩ := row4_cells hm
          refine anyH_one (i := 8) (by kernel_rfl) (op_plainW rfl (by rfl) (by simp) ?_)
          go_simp
          obtain ⟨U, hU⟩ : ∃ U, U = ((((y.setCell ⟨gb, 0, none⟩ (.int .i64 t.a)).setCell ⟨gb, 1, none⟩ (.int .i64 t.b)).setCell ⟨gb, 2, none⟩ (.int .i64 t.c)).setCell ⟨gb, 3, none⟩ (.int .i64 t.d)) := ⟨_, rfl⟩
          have HU1 : Hid (U.heap[gb]? = some (T4 t)) := at4J hU hm
          have hn2 : U.heap[gh]? = some Z4 := by rw [hU]; exact put4_other hn (Ne.symm hne)
          have HBU : Hid (Below y0.heap.size y0 U) := by rw [hU]; exact put4_below hB hgb0
          rw [← hU]
          clear hU z0 z1 z2 z3 zf zl hm hn hB
          (first | refine ⟨fun _ => HBU.out, ?_⟩ | refine ⟨HBU.out, ?_⟩)
          try simp only [Act.put]
          try simp only [List.setIfInBounds_toArray]
          try simp only [List.set_cons_zero, List.set_cons_succ]
          obtain ⟨z0, z1, z2, z3, zf, zl⟩ := row4_cells hn2
          refine anyH_one (i := 9) (by kernel_rfl) (op_plainW rfl (by rfl) (by simp) ?_)
          go_simp
          (first | refine ⟨by kernel_rfl, ?_⟩ | skip)
          obtain ⟨V, hV⟩ : ∃ V, V = ((((U.setCell ⟨gh, 0, none⟩ (.int .i64 t2.a)).setCell ⟨gh, 1, none⟩ (.int .i64 t2.b)).setCell ⟨gh, 2, none⟩ (.int .i64 t2.c)).setCell ⟨gh, 3, none⟩ (.int .i64 t2.d)) := ⟨_, rfl⟩
          have HV2 : Hid (V.heap[gh]? = some (T4 t2)) := at4J hV hn2
          have HV1 : Hid (V.heap[gb]? = some (T4 t)) := by show _ = _; rw [hV]; exact put4_other HU1.out hne
          have HBV : Hid (Below y0.heap.size y0 V) := by rw [hV]; exact put4_below HBU.out hgh0
          rw [← hV]
          clear hV z0 z1 z2 z3 zf zl hn2
          try simp only [Act.put]
          try simp only [List.setIfInBounds_toArray]
          try simp only [List.set_cons_zero, List.set_cons_succ]
          (first | refine anyH_done (by kernel_rfl) ?_ _ | skip)
          rename_i hKm
          refine hKm _ _ ?_
          clear hKm
          go_meet
          exact ⟨gb, gh, rfl, rfl, leJ hne HBY hgb0 hgh0, HV1.out, HV2.out, (btrJ HBY HBV.out).out⟩
      ·
        go_simp
        obtain ⟨y2, hy⟩ : ∃ x, x = y1.alloc (.cells #[.int .i64 0, .int .i64 0, .int .i64 0, .int .i64 0] 182) := ⟨_, rfl⟩
        have bs : Below y1.heap.size y1 y2 := by rw [hy]; exact bnewK _ _
        have HB2 := btrJ HB1 bs
        have HM2 : Hid (y2.heap[y0.heap.size]? = some Z4) := blk_keep HM1.out bs
        have HN2 : Hid (y2.heap[y1.heap.size]? = some Z4) := by show _ = _; rw [hy]; exact heap_alloc_new _ _
        have hlt := (Array.getElem?_eq_some_iff.1 HM1.out).1
        have HNe : Hid (y0.heap.size ≠ y1.heap.size) := fun e => by omega
        rw [← hy]
        clear bs hy hlt
        (first | refine ⟨fun _ => HB2.out, ?_⟩ | refine ⟨HB2.out, ?_⟩)
        try simp only [Act.put]
        try simp only [List.setIfInBounds_toArray]
        try simp only [List.set_cons_zero, List.set_cons_succ]
        refine anyH_one (i := 1) (by kernel_rfl) (op_plainW rfl (by rfl) (by simp) ?_)
        go_simp
        refine (HO1.out _).mono ?_
        rintro e y3 ⟨rfl, bs⟩
        have HB3 := btrJ HB2 bs
        have HM3 : Hid (y3.heap[y0.heap.size]? = some Z4) := blk_keep HM2.out bs
        have HN3 : Hid (y3.heap[y1.heap.size]? = some Z4) := blk_keep HN2.out bs
        clear bs
        (first | refine ⟨fun _ => HB3.out, ?_⟩ | refine ⟨HB3.out, ?_⟩)
        try simp only [Act.put]
        try simp only [List.setIfInBounds_toArray]
        try simp only [List.set_cons_zero, List.set_cons_succ]
        refine anyH_take hFr (by kernel_rfl) (i := 2) (v := ?_) (d := some 11) (by kernel_rfl) rfl rfl (by kernel_rfl) (by kernel_rfl) (by kernel_rfl) (fun _ _ _ h => h) HB3.out (Or.inl ⟨by rfl, fun w hSw => ?_⟩) ?_
        rotate_left
        · have hfN := fieldN
          go_simp
          all_goals (try (first | with_reducible rfl | omega))
        try simp only [Act.put]
        try simp only [List.setIfInBounds_toArray]
        try simp only [List.set_cons_zero, List.set_cons_succ]
        refine anyH_one (i := 4) (by kernel_rfl) (op_plainW rfl (by rfl) (by simp) ?_)
        go_simp
        refine (HO4.out _).mono ?_
        rintro e y4 ⟨rfl, bs⟩
        have HB4 := btrJ HB3 bs
        have HM4 : Hid (y4.heap[y0.heap.size]? = some Z4) := blk_keep HM3.out bs
        have HN4 : Hid (y4.heap[y1.heap.size]? = some Z4) := blk_keep HN3.out bs
        clear bs
        (first | refine ⟨fun _ => HB4.out, ?_⟩ | refine ⟨HB4.out, ?_⟩)
        try simp only [Act.put]
        try simp only [List.setIfInBounds_toArray]
        try simp only [List.set_cons_zero, List.set_cons_succ]
        refine anyH_take hFr (by kernel_rfl) (i := 5) (v := ?_) (d := some 14) (by kernel_rfl) rfl rfl (by kernel_rfl) (by kernel_rfl) (by kernel_rfl) (fun _ _ _ h => h) HB4.out (Or.inl ⟨by rfl, fun w hSw => ?_⟩) ?_
        rotate_left
        · have hfN := fieldN
          go_simp
          all_goals (try (first | with_reducible rfl | omega))
        try simp only [Act.put]
        try simp only [List.setIfInBounds_toArray]
        try simp only [List.set_cons_zero, List.set_cons_succ]
        obtain ⟨gb, hgb⟩ : ∃ g, g = y0.heap.size := ⟨_, rfl⟩
        obtain ⟨gh, hgh⟩ : ∃ g, g = y1.heap.size := ⟨_, rfl⟩
        have hne : gb ≠ gh := by rw [hgb, hgh]; exact HNe.out
        have hm : y4.heap[gb]? = some Z4 := by rw [hgb]; exact HM4.out
        have hn : y4.heap[gh]? = some Z4 := by rw [hgh]; exact HN4.out
        have hgb0 : y0.heap.size ≤ gb := by rw [hgb]; first | exact Nat.le_refl _ | exact HB0.out.size
        have hgh0 : y0.heap.size ≤ gh := by rw [hgh]; first | exact Nat.le_refl _ | exact HB1.out.size
        rw [← hgb, ← hgh]
        have hB := HB4.out
        obtain ⟨y, hy⟩ : ∃ y, y = y4 := ⟨_, rfl⟩
        rw [← hy] at hm hn hB ⊢
        clear hgb hgh HNe hy HB4 HM4 HN4
        obtain ⟨z0, z1, z2, z3, zf, zl⟩ := row4_cells hm
        refine anyH_one (i := 8) (by kernel_rfl) (op_plainW rfl (by rfl) (by simp) ?_)
        go_simp
        obtain ⟨U, hU⟩ : ∃ U, U = ((((y.setCell ⟨gb, 0, none⟩ (.int .i64 t.a)).setCell ⟨gb, 1, none⟩ (.int .i64 t.b)).setCell ⟨gb, 2, none⟩ (.int .i64 t.c)).setCell ⟨gb, 3, none⟩ (.int .i64 t.d)) := ⟨_, rfl⟩
        have HU1 : Hid (U.heap[gb]? = some (T4 t)) := at4J hU hm
        have hn2 : U.heap[gh]? = some Z4 := by rw [hU]; exact put4_other hn (Ne.symm hne)
        have HBU : Hid (Below y0.heap.size y0 U) := by rw [hU]; exact put4_below hB hgb0
        rw [← hU]
        clear hU z0 z1 z2 z3 zf zl hm hn hB
        (first | refine ⟨fun _ => HBU.out, ?_⟩ | refine ⟨HBU.out, ?_⟩)
        try simp only [Act.put]
        try simp only [List.setIfInBounds_toArray]
        try simp only [List.set_cons_zero, List.set_cons_succ]
        obtain ⟨z0, z1, z2, z3, zf, zl⟩ := row4_cells hn2
        refine anyH_one (i := 9) (by kernel_rfl) (op_plainW rfl (by rfl) (by simp) ?_)
        go_simp
        (first | refine ⟨by kernel_rfl, ?_⟩ | skip)
        obtain ⟨V, hV⟩ : ∃ V, V = ((((U.setCell ⟨gh, 0, none⟩ (.int .i64 t2.a)).setCell ⟨gh, 1, none⟩ (.int .i64 t2.b)).setCell ⟨gh, 2, none⟩ (.int .i64 t2.c)).setCell ⟨gh, 3, none⟩ (.int .i64 t2.d)) := ⟨_, rfl⟩
        have HV2 : Hid (V.heap[gh]? = some (T4 t2)) := at4J hV hn2
        have HV1 : Hid (V.heap[gb]? = some (T4 t)) := by show _ = _; rw [hV]; exact put4_other HU1.out hne
        have HBV : Hid (Below y0.heap.size y0 V) := by rw [hV]; exact put4_below HBU.out hgh0
        rw [← hV]
        clear hV z0 z1 z2 z3 zf zl hn2
        try simp only [Act.put]
        try simp only [List.setIfInBounds_toArray]
        try simp only [List.set_cons_zero, List.set_cons_succ]
        (first | refine anyH_done (by kernel_rfl) ?_ _ | skip)
        rename_i hKm
        refine hKm _ _ ?_
        clear hKm
        go_meet
        exact ⟨gb, gh, rfl, rfl, leJ hne HBY hgb0 hgh0, HV1.out, HV2.out, (btrJ HBY HBV.out).out⟩
    ·
      go_simp
      obtain ⟨y1, hy⟩ : ∃ x, x = y0.alloc (.cells #[.int .i64 0, .int .i64 0, .int .i64 0, .int .i64 0] 182) := ⟨_, rfl⟩
      have bs : Below y0.heap.size y0 y1 := by rw [hy]; exact bnewK _ _
      have HB1 := btrJ HB0 bs
      have HN1 : Hid (y1.heap[y0.heap.size]? = some Z4) := by show _ = _; rw [hy]; exact heap_alloc_new _ _
      rw [← hy]
      clear bs hy
      (first | refine ⟨fun _ => HB1.out, ?_⟩ | refine ⟨HB1.out, ?_⟩)
      try simp only [Act.put]
      try simp only [List.setIfInBounds_toArray]
      try simp only [List.set_cons_zero, List.set_cons_succ]
      refine anyH_two (i := 1) (j := 6) (by kernel_rfl) (op_plainW rfl (by rfl) (by simp) ?_) (op_plainW rfl (by rfl) (by simp) ?_)
      ·
        go_simp
        refine (HO1.out _).mono ?_
        rintro e y2 ⟨rfl, bs⟩
        have HB2 := btrJ HB1 bs
        have HN2 : Hid (y2.heap[y0.heap.size]? = some Z4) := blk_keep HN1.out bs
        clear bs
        (first | refine ⟨fun _ => HB2.out, ?_⟩ | refine ⟨HB2.out, ?_⟩)
        try simp only [Act.put]
        try simp only [List.setIfInBounds_toArray]
        try simp only [List.set_cons_zero, List.set_cons_succ]
        refine anyH_take hFr (by kernel_rfl) (i := 2) (v := ?_) (d := some 11) (by kernel_rfl) rfl rfl (by kernel_rfl) (by kernel_rfl) (by kernel_rfl) (fun _ _ _ h => h) HB2.out (Or.inl ⟨by rfl, fun w hSw => ?_⟩) ?_
        rotate_left
        · have hfN := fieldN
          go_simp
          all_goals (try (first | with_reducible rfl | omega))
        try simp only [Act.put]
        try simp only [List.setIfInBounds_toArray]
        try simp only [List.set_cons_zero, List.set_cons_succ]
        refine anyH_two (i := 4) (j := 6) (by kernel_rfl) (op_plainW rfl (by rfl) (by simp) ?_) (op_plainW rfl (by rfl) (by simp) ?_)
        ·
          go_simp
          refine (HO4.out _).mono ?_
          rintro e y3 ⟨rfl, bs⟩
          have HB3 := btrJ HB2 bs
          have HN3 : Hid (y3.heap[y0.heap.size]? = some Z4) := blk_keep HN2.out bs
          clear bs
          (first | refine ⟨fun _ => HB3.out, ?_⟩ | refine ⟨HB3.out, ?_⟩)
          try simp only [Act.put]
          try simp only [List.setIfInBounds_toArray]
          try simp only [List.set_cons_zero, List.set_cons_succ]
          refine anyH_take hFr (by kernel_rfl) (i := 5) (v := ?_) (d := some 14) (by kernel_rfl) rfl rfl (by kernel_rfl) (by kernel_rfl) (by kernel_rfl) (fun _ _ _ h => h) HB3.out (Or.inl ⟨by rfl, fun w hSw => ?_⟩) ?_
          rotate_left
          · have hfN := fieldN
            go_simp
            all_goals (try (first | with_reducible rfl | omega))
          try simp only [Act.put]
          try simp only [List.setIfInBounds_toArray]
          try simp only [List.set_cons_zero, List.set_cons_succ]
          refine anyH_one (i := 6) (by kernel_rfl) (op_plainW rfl (by rfl) (by simp) ?_)
          go_simp
          obtain ⟨y4, hy⟩ : ∃ x, x = y3.alloc (.cells #[.int .i64 0, .int .i64 0, .int .i64 0, .int .i64 0] 182) := ⟨_, rfl⟩
          have bs : Below y3.heap.size y3 y4 := by rw [hy]; exact bnewK _ _
          have HB4 := btrJ HB3 bs
          have HN4 : Hid (y4.heap[y0.heap.size]? = some Z4) := blk_keep HN3.out bs
          have HM4 : Hid (y4.heap[y3.heap.size]? = some Z4) := by show _ = _; rw [hy]; exact heap_alloc_new _ _
          have hlt := (Array.getElem?_eq_some_iff.1 HN3.out).1
          have HNe : Hid (y3.heap.size ≠ y0.heap.size) := fun e => by omega
          rw [← hy]
          clear bs hy hlt
          (first | refine ⟨fun _ => HB4.out, ?_⟩ | refine ⟨HB4.out, ?_⟩)
          try simp only [Act.put]
          try simp only [List.setIfInBounds_toArray]
          try simp only [List.set_cons_zero, List.set_cons_succ]
          obtain ⟨gb, hgb⟩ : ∃ g, g = y3.heap.size := ⟨_, rfl⟩
          obtain ⟨gh, hgh⟩ : ∃ g, g = y0.heap.size := ⟨_, rfl⟩
          have hne : gb ≠ gh := by rw [hgb, hgh]; exact HNe.out
          have hm : y4.heap[gb]? = some Z4 := by rw [hgb]; exact HM4.out
          have hn : y4.heap[gh]? = some Z4 := by rw [hgh]; exact HN4.out
          have hgb0 : y0.heap.size ≤ gb := by rw [hgb]; first | exact Nat.le_refl _ | exact HB3.out.size
          have hgh0 : y0.heap.size ≤ gh := by rw [hgh]; first | exact Nat.le_refl _ | exact HB0.out.size
          rw [← hgb, ← hgh]
          have hB := HB4.out
          obtain ⟨y, hy⟩ : ∃ y, y = y4 := ⟨_, rfl⟩
          rw [← hy] at hm hn hB ⊢
          clear hgb hgh HNe hy HB4 HM4 HN4
          obtain ⟨z0, z1, z2, z3, zf, zl⟩ := row4_cells hm
          refine anyH_one (i := 8) (by kernel_rfl) (op_plainW rfl (by rfl) (by simp) ?_)
          go_simp
          obtain ⟨U, hU⟩ : ∃ U, U = ((((y.setCell ⟨gb, 0, none⟩ (.int .i64 t.a)).setCell ⟨gb, 1, none⟩ (.int .i64 t.b)).setCell ⟨gb, 2, none⟩ (.int .i64 t.c)).setCell ⟨gb, 3, none⟩ (.int .i64 t.d)) := ⟨_, rfl⟩
          have HU1 : Hid (U.heap[gb]? = some (T4 t)) := at4J hU hm
          have hn2 : U.heap[gh]? = some Z4 := by rw [hU]; exact put4_other hn (Ne.symm hne)
          have HBU : Hid (Below y0.heap.size y0 U) := by rw [hU]; exact put4_below hB hgb0
          rw [← hU]
          clear hU z0 z1 z2 z3 zf zl hm hn hB
          (first | refine ⟨fun _ => HBU.out, ?_⟩ | refine ⟨HBU.out, ?_⟩)
          try simp only [Act.put]
          try simp only [List.setIfInBounds_toArray]
          try simp only [List.set_cons_zero, List.set_cons_succ]
          obtain ⟨z0, z1, z2, z3, zf, zl⟩ := row4_cells hn2
          refine anyH_one (i := 9) (by kernel_rfl) (op_plainW rfl (by rfl) (by simp) ?_)
          go_simp
          (first | refine ⟨by kernel_rfl, ?_⟩ | skip)
          obtain ⟨V, hV⟩ : ∃ V, V = ((((U.setCell ⟨gh, 0, none⟩ (.int .i64 t2.a)).setCell ⟨gh, 1, none⟩ (.int .i64 t2.b)).setCell ⟨gh, 2, none⟩ (.int .i64 t2.c)).setCell ⟨gh, 3, none⟩ (.int .i64 t2.d)) := ⟨_, rfl⟩
          have HV2 : Hid (V.heap[gh]? = some (T4 t2)) := at4J hV hn2
          have HV1 : Hid (V.heap[gb]? = some (T4 t)) := by show _ = _; rw [hV]; exact put4_other HU1.out hne
          have HBV : Hid (Below y0.heap.size y0 V) := by rw [hV]; exact put4_below HBU.out hgh0
          rw [← hV]
          clear hV z0 z1 z2 z3 zf zl hn2
          try simp only [Act.put]
          try simp only [List.setIfInBounds_toArray]
          try simp only [List.set_cons_zero, List.set_cons_succ]
          (first | refine anyH_done (by kernel_rfl) ?_ _ | skip)
          rename_i hKm
          refine hKm _ _ ?_
          clear hKm
          go_meet
          exact ⟨gb, gh, rfl, rfl, leJ hne HBY hgb0 hgh0, HV1.out, HV2.out, (btrJ HBY HBV.out).out⟩
        ·
          go_simp
          obtain ⟨y3, hy⟩ : ∃ x, x = y2.alloc (.cells #[.int .i64 0, .int .i64 0, .int .i64 0, .int .i64 0] 182) := ⟨_, rfl⟩
          have bs : Below y2.heap.size y2 y3 := by rw [hy]; exact bnewK _ _
          have HB3 := btrJ HB2 bs
          have HN3 : Hid (y3.heap[y0.heap.size]? = some Z4) := blk_keep HN2.out bs
          have HM3 : Hid (y3.heap[y2.heap.size]? = some Z4) := by show _ = _; rw [hy]; exact heap_alloc_new _ _
          have hlt := (Array.getElem?_eq_some_iff.1 HN2.out).1
          have HNe : Hid (y2.heap.size ≠ y0.heap.size) := fun e => by omega
          rw [← hy]
          clear bs hy hlt
          (first | refine ⟨fun _ => HB3.out, ?_⟩ | refine ⟨HB3.out, ?_⟩)
          try simp only [Act.put]
          try simp only [List.setIfInBounds_toArray]
          try simp only [List.set_cons_zero, List.set_cons_succ]
          refine anyH_one (i := 4) (by kernel_rfl) (op_plainW rfl (by rfl) (by simp) ?_)
          go_simp
          refine (HO4.out _).mono ?_
          rintro e y4 ⟨rfl, bs⟩
          have HB4 := btrJ HB3 bs
          have HM4 : Hid (y4.heap[y2.heap.size]? = some Z4) := blk_keep HM3.out bs
          have HN4 : Hid (y4.heap[y0.heap.size]? = some Z4) := blk_keep HN3.out bs
          clear bs
          (first | refine ⟨fun _ => HB4.out, ?_⟩ | refine ⟨HB4.out, ?_⟩)
          try simp only [Act.put]
          try simp only [List.setIfInBounds_toArray]
          try simp only [List.set_cons_zero, List.set_cons_succ]
          refine anyH_take hFr (by kernel_rfl) (i := 5) (v := ?_) (d := some 14) (by kernel_rfl) rfl rfl (by kernel_rfl) (by kernel_rfl) (by kernel_rfl) (fun _ _ _ h => h) HB4.out (Or.inl ⟨by rfl, fun w hSw => ?_⟩) ?_
          rotate_left
          · have hfN := fieldN
            go_simp
            all_goals (try (first | with_reducible rfl | omega))
          try simp only [Act.put]
          try simp only [List.setIfInBounds_toArray]
          try simp only [List.set_cons_zero, List.set_cons_succ]
          obtain ⟨gb, hgb⟩ : ∃ g, g = y2.heap.size := ⟨_, rfl⟩
          obtain ⟨gh, hgh⟩ : ∃ g, g = y0.heap.size := ⟨_, rfl⟩
          have hne : gb ≠ gh := by rw [hgb, hgh]; exact HNe.out
          have hm : y4.heap[gb]? = some Z4 := by rw [hgb]; exact HM4.out
          have hn : y4.heap[gh]? = some Z4 := by rw [hgh]; exact HN4.out
          have hgb0 : y0.heap.size ≤ gb := by rw [hgb]; first | exact Nat.le_refl _ | exact HB2.out.size
          have hgh0 : y0.heap.size ≤ gh := by rw [hgh]; first | exact Nat.le_refl _ | exact HB0.out.size
          rw [← hgb, ← hgh]
          have hB := HB4.out
          obtain ⟨y, hy⟩ : ∃ y, y = y4 := ⟨_, rfl⟩
          rw [← hy] at hm hn hB ⊢
          clear hgb hgh HNe hy HB4 HM4 HN4
          obtain ⟨z0, z1, z2, z3, zf, zl⟩ := row4_cells hm
          refine anyH_one (i := 8) (by kernel_rfl) (op_plainW rfl (by rfl) (by simp) ?_)
          go_simp
          obtain ⟨U, hU⟩ : ∃ U, U = ((((y.setCell ⟨gb, 0, none⟩ (.int .i64 t.a)).setCell ⟨gb, 1, none⟩ (.int .i64 t.b)).setCell ⟨gb, 2, none⟩ (.int .i64 t.c)).setCell ⟨gb, 3, none⟩ (.int .i64 t.d)) := ⟨_, rfl⟩
          have HU1 : Hid (U.heap[gb]? = some (T4 t)) := at4J hU hm
          have hn2 : U.heap[gh]? = some Z4 := by rw [hU]; exact put4_other hn (Ne.symm hne)
          have HBU : Hid (Below y0.heap.size y0 U) := by rw [hU]; exact put4_below hB hgb0
          rw [← hU]
          clear hU z0 z1 z2 z3 zf zl hm hn hB
          (first | refine ⟨fun _ => HBU.out, ?_⟩ | refine ⟨HBU.out, ?_⟩)
          try simp only [Act.put]
          try simp only [List.setIfInBounds_toArray]
          try simp only [List.set_cons_zero, List.set_cons_succ]
          obtain ⟨z0, z1, z2, z3, zf, zl⟩ := row4_cells hn2
          refine anyH_one (i := 9) (by kernel_rfl) (op_plainW rfl (by rfl) (by simp) ?_)
          go_simp
          (first | refine ⟨by kernel_rfl, ?_⟩ | skip)
          obtain ⟨V, hV⟩ : ∃ V, V = ((((U.setCell ⟨gh, 0, none⟩ (.int .i64 t2.a)).setCell ⟨gh, 1, none⟩ (.int .i64 t2.b)).setCell ⟨gh, 2, none⟩ (.int .i64 t2.c)).setCell ⟨gh, 3, none⟩ (.int .i64 t2.d)) := ⟨_, rfl⟩
          have HV2 : Hid (V.heap[gh]? = some (T4 t2)) := at4J hV hn2
          have HV1 : Hid (V.heap[gb]? = some (T4 t)) := by show _ = _; rw [hV]; exact put4_other HU1.out hne
          have HBV : Hid (Below y0.heap.size y0 V) := by rw [hV]; exact put4_below HBU.out hgh0
          rw [← hV]
          clear hV z0 z1 z2 z3 zf zl hn2
          try simp only [Act.put]
          try simp only [List.setIfInBounds_toArray]
          try simp only [List.set_cons_zero, List.set_cons_succ]
          (first | refine anyH_done (by kernel_rfl) ?_ _ | skip)
          rename_i hKm
          refine hKm _ _ ?_
          clear hKm
          go_meet
          exact ⟨gb, gh, rfl, rfl, leJ hne HBY hgb0 hgh0, HV1.out, HV2.out, (btrJ HBY HBV.out).out⟩
      ·
        go_simp
        obtain ⟨y2, hy⟩ : ∃ x, x = y1.alloc (.cells #[.int .i64 0, .int .i64 0, .int .i64 0, .int .i64 0] 182) := ⟨_, rfl⟩
        have bs : Below y1.heap.size y1 y2 := by rw [hy]; exact bnewK _ _
        have HB2 := btrJ HB1 bs
        have HN2 : Hid (y2.heap[y0.heap.size]? = some Z4) := blk_keep HN1.out bs
        have HM2 : Hid (y2.heap[y1.heap.size]? = some Z4) := by show _ = _; rw [hy]; exact heap_alloc_new _ _
        have hlt := (Array.getElem?_eq_some_iff.1 HN1.out).1
        have HNe : Hid (y1.heap.size ≠ y0.heap.size) := fun e => by omega
        rw [← hy]
        clear bs hy hlt
        (first | refine ⟨fun _ => HB2.out, ?_⟩ | refine ⟨HB2.out, ?_⟩)
        try simp only [Act.put]
        try simp only [List.setIfInBounds_toArray]
        try simp only [List.set_cons_zero, List.set_cons_succ]
        refine anyH_one (i := 1) (by kernel_rfl) (op_plainW rfl (by rfl) (by simp) ?_)
        go_simp
        refine (HO1.out _).mono ?_
        rintro e y3 ⟨rfl, bs⟩
        have HB3 := btrJ HB2 bs
        have HM3 : Hid (y3.heap[y1.heap.size]? = some Z4) := blk_keep HM2.out bs
        have HN3 : Hid (y3.heap[y0.heap.size]? = some Z4) := blk_keep HN2.out bs
        clear bs
        (first | refine ⟨fun _ => HB3.out, ?_⟩ | refine ⟨HB3.out, ?_⟩)
        try simp only [Act.put]
        try simp only [List.setIfInBounds_toArray]
        try simp only [List.set_cons_zero, List.set_cons_succ]
        refine anyH_take hFr (by kernel_rfl) (i := 2) (v := ?_) (d := some 11) (by kernel_rfl) rfl rfl (by kernel_rfl) (by kernel_rfl) (by kernel_rfl) (fun _ _ _ h => h) HB3.out (Or.inl ⟨by rfl, fun w hSw => ?_⟩) ?_
        rotate_left
        · have hfN := fieldN
          go_simp
          all_goals (try (first | with_reducible rfl | omega))
        try simp only [Act.put]
        try simp only [List.setIfInBounds_toArray]
        try simp only [List.set_cons_zero, List.set_cons_succ]
        refine anyH_one (i := 4) (by kernel_rfl) (op_plainW rfl (by rfl) (by simp) ?_)
        go_simp
        refine (HO4.out _).mono ?_
        rintro e y4 ⟨rfl, bs⟩
        have HB4 := btrJ HB3 bs
        have HM4 : Hid (y4.heap[y1.heap.size]? = some Z4) := blk_keep HM3.out bs
        have HN4 : Hid (y4.heap[y0.heap.size]? = some Z4) := blk_keep HN3.out bs
        clear bs
        (first | refine ⟨fun _ => HB4.out, ?_⟩ | refine ⟨HB4.out, ?_⟩)
        try simp only [Act.put]
        try simp only [List.setIfInBounds_toArray]
        try simp only [List.set_cons_zero, List.set_cons_succ]
        refine anyH_take hFr (by kernel_rfl) (i := 5) (v := ?_) (d := some 14) (by kernel_rfl) rfl rfl (by kernel_rfl) (by kernel_rfl) (by kernel_rfl) (fun _ _ _ h => h) HB4.out (Or.inl ⟨by rfl, fun w hSw => ?_⟩) ?_
        rotate_left
        · have hfN := fieldN
          go_simp
          all_goals (try (first | with_reducible rfl | omega))
        try simp only [Act.put]
        try simp only [List.setIfInBounds_toArray]
        try simp only [List.set_cons_zero, List.set_cons_succ]
        obtain ⟨gb, hgb⟩ : ∃ g, g = y1.heap.size := ⟨_, rfl⟩
        obtain ⟨gh, hgh⟩ : ∃ g, g = y0.heap.size := ⟨_, rfl⟩
        have hne : gb ≠ gh := by rw [hgb, hgh]; exact HNe.out
        have hm : y4.heap[gb]? = some Z4 := by rw [hgb]; exact HM4.out
        have hn : y4.heap[gh]? = some Z4 := by rw [hgh]; exact HN4.out
        have hgb0 : y0.heap.size ≤ gb := by rw [hgb]; first | exact Nat.le_refl _ | exact HB1.out.size
        have hgh0 : y0.heap.size ≤ gh := by rw [hgh]; first | exact Nat.le_refl _ | exact HB0.out.size
        rw [← hgb, ← hgh]
        have hB := HB4.out
        obtain ⟨y, hy⟩ : ∃ y, y = y4 := ⟨_, rfl⟩
        rw [← hy] at hm hn hB ⊢
        clear hgb hgh HNe hy HB4 HM4 HN4
        obtain ⟨z0, z1, z2, z3, zf, zl⟩ := row4_cells hm
        refine anyH_one (i := 8) (by kernel_rfl) (op_plainW rfl (by rfl) (by simp) ?_)
        go_simp
        obtain ⟨U, hU⟩ : ∃ U, U = ((((y.setCell ⟨gb, 0, none⟩ (.int .i64 t.a)).setCell ⟨gb, 1, none⟩ (.int .i64 t.b)).setCell ⟨gb, 2, none⟩ (.int .i64 t.c)).setCell ⟨gb, 3, none⟩ (.int .i64 t.d)) := ⟨_, rfl⟩
        have HU1 : Hid (U.heap[gb]? = some (T4 t)) := at4J hU hm
        have hn2 : U.heap[gh]? = some Z4 := by rw [hU]; exact put4_other hn (Ne.symm hne)
        have HBU : Hid (Below y0.heap.size y0 U) := by rw [hU]; exact put4_below hB hgb0
        rw [← hU]
        clear hU z0 z1 z2 z3 zf zl hm hn hB
        (first | refine ⟨fun _ => HBU.out, ?_⟩ | refine ⟨HBU.out, ?_⟩)
        try simp only [Act.put]
        try simp only [List.setIfInBounds_toArray]
        try simp only [List.set_cons_zero, List.set_cons_succ]
        obtain ⟨z0, z1, z2, z3, zf, zl⟩ := row4_cells hn2
        refine anyH_one (i := 9) (by kernel_rfl) (op_plainW rfl (by rfl) (by simp) ?_)
        go_simp
        (first | refine ⟨by kernel_rfl, ?_⟩ | skip)
        obtain ⟨V, hV⟩ : ∃ V, V = ((((U.setCell ⟨gh, 0, none⟩ (.int .i64 t2.a)).setCell ⟨gh, 1, none⟩ (.int .i64 t2.b)).setCell ⟨gh, 2, none⟩ (.int .i64 t2.c)).setCell ⟨gh, 3, none⟩ (.int .i64 t2.d)) := ⟨_, rfl⟩
        have HV2 : Hid (V.heap[gh]? = some (T4 t2)) := at4J hV hn2
        have HV1 : Hid (V.heap[gb]? = some (T4 t)) := by show _ = _; rw [hV]; exact put4_other HU1.out hne
        have HBV : Hid (Below y0.heap.size y0 V) := by rw [hV]; exact put4_below HBU.out hgh0
        rw [← hV]
        clear hV z0 z1 z2 z3 zf zl hn2
        try simp only [Act.put]
        try simp only [List.setIfInBounds_toArray]
        try simp only [List.set_cons_zero, List.set_cons_succ]
        (first | refine anyH_done (by kernel_rfl) ?_ _ | skip)
        rename_i hKm
        refine hKm _ _ ?_
        clear hKm
        go_meet
        exact ⟨gb, gh, rfl, rfl, leJ hne HBY hgb0 hgh0, HV1.out, HV2.out, (btrJ HBY HBV.out).out⟩
  case rest =>
    obtain ⟨gb, gh, rfl, rfl, HG, HRb, HRh, HB2⟩ := hcut
    clear HOa HOb HPq HW hFr
    obtain ⟨hne, hgb0, hgh0⟩ := HG.out
    have hws := HWs.out
    go_upto_region 2 with fail
    refine wp_region_facts (by kernel_rfl) 4 (fun v => Below wc.heap.size wc v) (fun u v => Below u.heap.size u v) (fun i v u => match i with | 0 => (fun v _ => v = .agg #[.int .i64 bit, .int .i64 2, .int .i64 s, .int .i64 both]) v u | 1 => (fun v _ => v = .int .i64 2) v u | 2 => (fun v _ => v = .slice (some ⟨gb, 2, none⟩) 2 2) v u | 3 => (fun v _ => v = .slice (some ⟨gh, 0, none⟩) 4 4) v u | _ => True) (by kernel_rfl) [0, 1, 2, 3] (by kernel_rfl) ?b0 ?bk ?fk ⟨?s0, ?s1, ?s2, ?s3, trivial⟩ _ rfl [(0, some 15), (1, some 16), (2, some 17), (3, some 18)] (by kernel_rfl) ?last
    case b0 => exact Below.drew (Below.refl _ _)
    case bk => exact fun u v h hb => h.trans (hb.mono h.size)
    case fk => intro i v u u' h hb; match i, h with | 0, h => exact h | 1, h => exact h | 2, h => exact h | 3, h => exact h | _ + 4, _ => exact trivial
    case s0 =>
      refine StepF.of rfl [] (by kernel_rfl) ?_
      intro vs u hB hf K hK
      clear hf
      simp only [putsA, List.foldl_nil, Act.put, List.setIfInBounds_toArray] at hK ⊢
      rw [if_pos (by rfl)]
      obtain ⟨p0, p1, p2, p3⟩ := HPf.out u (HB2.out.trans (hB.mono HB2.out.size))
      go_simp
      exact hK.out _ _ (Below.refl _ _) rfl
    case s1 =>
      refine StepF.of rfl [(0, some 15)] (by kernel_rfl) ?_
      intro vs u hB hf K hK
      have f0 : (fun v _ => v = .agg #[.int .i64 bit, .int .i64 2, .int .i64 s, .int .i64 both]) (vs 0) u := hf.1
      clear hf
      simp only [putsA, List.foldl_cons, List.foldl_nil, Act.put, List.setIfInBounds_toArray, List.set_cons_zero, List.set_cons_succ] at hK ⊢
      generalize vs 0 = v0 at f0 hK ⊢
      subst f0
      rw [if_pos (by rfl)]
      go_simp
      refine (HA.out _).mono ?_
      rintro e w4 ⟨rfl, b4⟩
      exact hK.out _ _ b4 rfl
    case s2 =>
      refine StepF.of rfl [(1, some 16)] (by kernel_rfl) ?_
      intro vs u hB hf K hK
      have f1 : (fun v _ => v = .int .i64 2) (vs 1) u := hf.1
      clear hf
      simp only [putsA, List.foldl_cons, List.foldl_nil, Act.put, List.setIfInBounds_toArray, List.set_cons_zero, List.set_cons_succ] at hK ⊢
      generalize vs 1 = v1 at f1 hK ⊢
      subst f1
      rw [if_pos (by rfl)]
      go_simp
      exact hK.out _ _ (Below.refl _ _) rfl
    case s3 =>
      refine StepF.of rfl [] (by kernel_rfl) ?_
      intro vs u hB hf K hK
      clear hf
      simp only [putsA, List.foldl_nil, Act.put, List.setIfInBounds_toArray] at hK ⊢
      rw [if_pos (by rfl)]
      go_simp
      exact hK.out _ _ (Below.refl _ _) rfl
    case last =>
      intro vs u hB hf K hK
      have f2 : (fun v _ => v = .slice (some ⟨gb, 2, none⟩) 2 2) (vs 2) u := hf.2.2.1
      have f3 : (fun v _ => v = .slice (some ⟨gh, 0, none⟩) 4 4) (vs 3) u := hf.2.2.2.1
      have f0 : (fun v _ => v = .agg #[.int .i64 bit, .int .i64 2, .int .i64 s, .int .i64 both]) (vs 0) u := hf.1
      have f1 : (fun v _ => v = .int .i64 2) (vs 1) u := hf.2.1
      clear hf
      simp only [putsA, List.foldl_cons, List.foldl_nil, Act.put, List.setIfInBounds_toArray, List.set_cons_zero, List.set_cons_succ]
      generalize vs 0 = v0 at f0 ⊢
      generalize vs 1 = v1 at f1 ⊢
      generalize vs 2 = v2 at f2 ⊢
      generalize vs 3 = v3 at f3 ⊢
      subst f0 f1 f2 f3
      rw [if_pos (by rfl)]
      have hrb := blk_keep HRb.out hB
      have hrh := blk_keep HRh.out hB
      obtain ⟨b0, b1, b2, b3, bf, bl⟩ := row4_cells hrb
      obtain ⟨h0, h1, h2, h3, hfz, hl⟩ := row4_cells hrh
      have hcp : ∀ ty, (Builtin.copy_ #[78, 78] ty #[.slice (some ⟨gb, 2, none⟩) 2 2, .slice (some ⟨gh, 0, none⟩) 4 4]).run Tryz.prog u = .ok (goInt 2) ((u.setCell ⟨gb, 2, none⟩ (.int .i64 t2.a)).setCell ⟨gb, 3, none⟩ (.int .i64 t2.b)) := fun ty => by
        refine run_copy_cells (P := Tryz.prog) u 78 78 ty 2 gb 2 2 2 ⟨gh, 0, none⟩ 4 4 [.int .i64 t2.a, .int .i64 t2.b] Tryz.underlying78 (by kernel_rfl) rfl (fun j v hj => ?_) (fun j hj => ?_) (fun j _ => bf _) (fun v hv => by simp at hv; rcases hv with rfl | rfl <;> rfl)
        · match j, hj with
          | 0, hj => rw [← Option.some.inj hj]; exact h0
          | 1, hj => rw [← Option.some.inj hj]; exact h1
          | _ + 2, hj => exact absurd hj (by simp)
        · match j, hj with
          | 0, _ => simp [b2]
          | 1, _ => simp [b3]
          | _ + 2, hj => exact absurd hj (by simp)
      obtain ⟨Z, hZ⟩ : ∃ Z, Z = ((u.setCell ⟨gb, 2, none⟩ (.int .i64 t2.a)).setCell ⟨gb, 3, none⟩ (.int .i64 t2.b)) := ⟨_, rfl⟩
      have HZr : Hid (Z.heap[gb]? = some (.cells #[.int .i64 t.a, .int .i64 t.b, .int .i64 t2.a, .int .i64 t2.b] 182)) := by show _ = _; rw [hZ]; exact put2_at hrb
      have HZb : Hid (Below W.heap.size W Z) := by rw [hZ]; exact put2_below (HB2.out.trans (hB.mono HB2.out.size)) hgb0
      clear hrb hrh b0 b1 b2 b3 bf bl h0 h1 h2 h3 hfz hl
      go_simp
      refine hK.out _ _ ?_
      rw [← hZ]
      clear hK hcp hZ hB HRb HRh HB2 HG
      obtain ⟨p0, p1, p2, p3⟩ := HPf.out Z HZb.out
      obtain ⟨o0, o1, o2, o3, o4, o5, o6⟩ := HPo.out Z HZb.out
      obtain ⟨b0, b1, b2, b3, bf, bl⟩ := row4_cells HZr.out
      clear p0 p1 p2 o0 o1 o2 o3 o4 o5 HPf HPo
      go_wp2_with fail
      refine (HW1.out _ (HBW.out.trans (HZb.out.mono HBW.out.size))).mono ?_
      rintro e y3 ⟨v3, rfl, ow, b3'⟩
      obtain ⟨a3, c3, rfl⟩ := own_form ow
      have hzz := HZb.out.size
      have HOw : Hid (y3.ownsRow (w.heap.size + 4) 196 4 (.slice a3 t.data.length c3) t.data.length (cellsD t.data)) := own_base ow (by omega)
      have HB3 : Hid (Below w.heap.size w y3) := (HBW.out.trans (HZb.out.mono HBW.out.size)).trans (b3'.mono (by omega))
      have hz := (HZa.out.below HZb.out).below b3'
      obtain ⟨u0, u1, u2, u3, u4, u5, u6, uf, ul⟩ := hz
      clear b0 b1 b2 b3 bf bl p3 o6 ow b3' HZr HZb HW1 HA HZa
      go_wp2
      refine bodyPost_ret (v := (opK both t.a t.b t2.a t2.b t.data).val (.slice a3 t.data.length c3)) (by simp [results, Tryz.results88, go_sem, opK, Opr.val, u0, u1, u2, u3, u4, u5, u6]) rfl ⟨.slice a3 t.data.length c3, rfl, ?_, ?_⟩
      · iterate 7 (refine own_set_low ?_ (by omega) _)
        exact HOw.out
      · exact put7_below HB3.out (by omega)
end Go.Proofs.YtoafolefecddmaaGreatDoor
namespace Go.Proofs.YtoafolefecddmaaGreatDoor
open Go.RowKit Go.Extern.Stop Go.Stop Go.Extern Num Go.Lib
theorem join_fine {n m : Nat} (tb : Int) (t t2 : Opr) (hf : fine1 n t) (hf2 : fine1 m t2) (hq : twoK tb t.kind t2.kind ≠ 0) (ao ao2 : Option Addr) (cap n2 cap2 B : Nat) (w : World) (ho : w.ownsRow B 196 4 (.slice ao t.data.length cap) t.data.length (cellsD t.data)) :
    Calls Tryz.prog 88 #[fusV (fusK (twoK tb t.kind t2.kind)), t.val (.slice ao t.data.length cap), t2.val (.slice ao2 n2 cap2)] w fun e w' => ∃ v, e = .returned ((joinO t t2 (twoK tb t.kind t2.kind)).val v) ∧ w'.ownsRow (w.heap.size + 4) 196 4 v (joinO t t2 (twoK tb t.kind t2.kind)).data.length (cellsD (joinO t t2 (twoK tb t.kind t2.kind)).data) ∧ Below w.heap.size w w' := by
  have hs := hf.2.2
  obtain ⟨-, hT, -⟩ := fault_parts hf.1
  obtain ⟨he, -, -⟩ := fault_parts hf2.1
  rcases twoK_cases hq with ⟨e, k, k2⟩ | ⟨e, k, k2⟩ | ⟨e, k, k2⟩ | ⟨e, k, k2⟩ <;> rw [e]
  · have hn := nums_of he 0 (by rw [k2]; rfl)
    simp [numsL] at hn
    obtain ⟨z1, z2, z3, z4⟩ := hn
    have h := join_1 1 12 13 t t2 ao ao2 cap n2 cap2 B w hs ho
    rw [z1, z2, z3, z4] at h
    exact h
  all_goals
    have hd : t.data = [] := by
      unfold extraT at hT
      rw [k] at hT
      simp [namedO, constO] at hT
      exact hT.2
  · have hn := nums_of he 0 (by rw [k2]; rfl)
    simp [numsL] at hn
    obtain ⟨z1, z2, z3, z4⟩ := hn
    have h := join_2 2 12 14 t t2 ao ao2 cap n2 cap2 B w hs ho
    rw [z1, z2] at h
    have e2 : joinO t t2 14 = opK 14 t.a t.b 0 0 t.data := by rw [hd]; rfl
    rw [e2]
    exact h
  · have h := join_2 4 2 15 t t2 ao ao2 cap n2 cap2 B w hs ho
    have e2 : joinO t t2 15 = opK 15 t.a t.b t2.a t2.b t.data := by rw [hd]; rfl
    rw [e2]
    exact h
  · have hn := nums_of he 1 (by rw [k2]; rfl)
    simp [numsL] at hn
    obtain ⟨z2, -, -⟩ := hn
    have h := join_2 8 6 16 t t2 ao ao2 cap n2 cap2 B w hs ho
    rw [z2] at h
    have e2 : joinO t t2 16 = opK 16 t.a t.b t2.a 0 t.data := by rw [hd]; rfl
    rw [e2]
    exact h
theorem implTf_any (x : Int) (w : World) : Calls Tryz.prog 53 #[.int .i64 x] w fun e w' => e = .returned (.int .i64 (tabF x)) ∧ w' = w := by
  by_cases h1 : x < 0
  · have HE : Hid (tabF x = 3) := by show _ = _; unfold tabF; rw [if_neg (by omega)]
    go_enter Tryz.func53, Tryz.ntmps53
    go_wp2
    go_ret
    exact ⟨by rw [HE.out]; rfl, rfl⟩
  by_cases h2 : 15 < x
  · have HE : Hid (tabF x = 3) := by show _ = _; unfold tabF; rw [if_neg (by omega)]
    go_enter Tryz.func53, Tryz.ntmps53
    go_wp2
    go_ret
    exact ⟨by rw [HE.out]; rfl, rfl⟩
  · have HE : Hid (tabF x = 0) := by show _ = _; unfold tabF; rw [if_pos (by omega)]
    go_enter Tryz.func53, Tryz.ntmps53
    go_wp2
    go_ret
    exact ⟨by rw [HE.out]; rfl, rfl⟩
theorem tgtTo_mem (l : List Opr) (n : Nat) (x : Int) (h0 : 0 ≤ x) (h1 : x < n) : (tgtTo l n).any (fun y => x == y) = isT l x := by
  cases e : isT l x with
  | true =>
    refine List.any_eq_true.2 ⟨x, List.mem_map.2 ⟨x.toNat, List.mem_filter.2 ⟨List.mem_range.2 (by omega), ?_⟩, by omega⟩, by simp⟩
    have : ((x.toNat : Nat) : Int) = x := by omega
    rw [this]; exact e
  | false =>
    rw [List.any_eq_false]
    intro y hy hxy
    obtain ⟨k, hk, rfl⟩ := List.mem_map.1 hy
    have h2 := (List.mem_filter.1 hk).2
    have h3 : x = (k : Int) := by simpa using hxy
    rw [← h3, e] at h2
    cases h2
theorem outT_mem {b : Blk} (hb : blkFault b = 0) (x : Int) (h0 : 0 ≤ x) (h1 : x < 1000) : (outT b).any (fun y => x == y) = isT b.ops x := by
  unfold outT
  rw [if_pos hb]
  exact tgtTo_mem b.ops 1000 x h0 (by omega)
theorem anyI_hit {x : Int} {l : List Int} (k : Nat) (h : k < l.length) (hp : (x == l[k]) = true) : l.any (fun y => x == y) = true := List.any_eq_true.2 ⟨l[k], List.getElem_mem h, hp⟩
theorem anyI_none {x : Int} {l : List Int} (h : ∀ (k : Nat) (hk : k < l.length), (x == l[k]) = false) : l.any (fun y => x == y) = false := by
  rw [List.any_eq_false]
  intro t ht
  obtain ⟨k, hk, rfl⟩ := List.getElem_of_mem ht
  rw [h k hk]; decide
set_option maxRecDepth 100000 in
set_option maxHeartbeats 1000000 in
theorem indexI_any (l : List Int) (x : Int) (g co : Nat) (w : World) (hl : l.length ≤ 1000) (hc : ∀ (k : Nat) (h : k < l.length), w.cell? ⟨g, k, none⟩ = some (.int .i64 l[k])) :
    Calls Tryz.prog 124 #[.slice (some ⟨g, 0, none⟩) l.length co, .int .i64 x] w fun e w' => (∃ k : Int, e = .returned (.int .i64 k) ∧ decide (0 ≤ k) = l.any (fun y => x == y)) ∧ w' = w := by
  have HC : Hid (∀ (k : Nat) (h : k < l.length), w.cell? ⟨g, k, none⟩ = some (.int .i64 l[k])) := hc
  clear hc
  go_enter Tryz.func124, Tryz.ntmps124
  go_wp2_with fail
  go_loopw [8] (fun i wr => ∃ j : Nat, j ≤ l.length ∧ i = .int .i64 (j : Int) ∧ wr = w ∧ Hid (∀ (k : Nat) (hk : k < l.length), k < j → (x == l[k]) = false)) (fun i _ => l.length - (RowKit.intOf i).toNat)
  case atStart => exact ⟨0, Nat.zero_le _, rfl, by trivial, fun k _ hk => by omega⟩
  case round =>
    obtain ⟨j, hj, rfl, rfl, HJ⟩ := hrel
    by_cases hlt : j < l.length
    · have q0 := HC.out j hlt
      obtain ⟨t, ht⟩ : ∃ t, t = l[j]'hlt := ⟨_, rfl⟩
      rw [← ht] at q0
      by_cases hx : x = t
      · have HA : Hid (l.any (fun y => x == y) = true) := anyI_hit j hlt (by rw [← ht, hx]; simp)
        clear ht
        go_wp2
        go_ret
        exact ⟨⟨(j : Int), rfl, by rw [HA.out]; simp⟩, rfl⟩
      · have HJ2 : Hid (∀ (k : Nat) (hk : k < l.length), k < j + 1 → (x == l[k]) = false) := fun k hk hkj => by
          by_cases e : k < j
          · exact HJ.out k hk e
          · have : k = j := by omega
            subst this; rw [← ht]; simp [hx]
        clear HJ ht
        go_wp2
        exact ⟨⟨j + 1, by omega, by go_num, by trivial, HJ2.out⟩, by simp [RowKit.intOf]; omega⟩
    · have HA : Hid (l.any (fun y => x == y) = false) := anyI_none (fun k hk => HJ.out k hk (by omega))
      clear HJ
      go_wp2
      go_ret
      exact ⟨⟨-1, rfl, by rw [HA.out]; rfl⟩, rfl⟩
set_option maxHeartbeats 1000000 in
theorem indexI_none (x : Int) (co : Nat) (w : World) : Calls Tryz.prog 124 #[.slice none 0 co, .int .i64 x] w fun e w' => (∃ k : Int, e = .returned (.int .i64 k) ∧ decide (0 ≤ k) = ([] : List Int).any (fun y => x == y)) ∧ w' = w := by
  go_enter Tryz.func124, Tryz.ntmps124
  go_wp2_with fail
  go_loopw [8] (fun i wr => i = .int .i64 0 ∧ wr = w) (fun i _ => 0)
  case atStart => exact ⟨rfl, rfl⟩
  case round =>
    obtain ⟨rfl, rfl⟩ := hrel
    go_wp2
    go_ret
    exact ⟨⟨-1, rfl, rfl⟩, rfl⟩
set_option maxHeartbeats 1000000 in
theorem containsI_of (v : Value) (x : Int) (D : Bool) (w : World) (h : Calls Tryz.prog 124 #[v, .int .i64 x] w fun e w' => (∃ k : Int, e = .returned (.int .i64 k) ∧ decide (0 ≤ k) = D) ∧ w' = w) :
    Calls Tryz.prog 86 #[v, .int .i64 x] w fun e w' => e = .returned (.bool D) ∧ w' = w := by
  have H : Hid (Calls Tryz.prog 124 #[v, .int .i64 x] w fun e w' => (∃ k : Int, e = .returned (.int .i64 k) ∧ decide (0 ≤ k) = D) ∧ w' = w) := h
  clear h
  go_enter Tryz.func86, Tryz.ntmps86
  go_wp2_with fail
  refine H.out.mono ?_
  rintro e w' ⟨⟨k, rfl, hk⟩, e1⟩
  replace e1 := e1.symm
  subst e1
  have HK : Hid (decide (0 ≤ k) = D) := hk
  clear hk H
  go_wp2
  go_ret
  exact ⟨by rw [← HK.out]; rfl, rfl⟩
def SeeI (w : World) (v : Value) (l : List Int) : Prop :=
  ∃ a c, v = .slice a l.length c ∧ (0 < l.length → ∃ b off, a = some ⟨b, off, none⟩ ∧ ∀ (k : Nat) (h : k < l.length), w.cell? ⟨b, off + k, none⟩ = some (.int .i64 l[k]))
theorem SeeI.below {w w' : World} {v : Value} {l : List Int} (h : SeeI w v l) (hb : Below w.heap.size w w') : SeeI w' v l := by
  obtain ⟨a, c, e, hc⟩ := h
  refine ⟨a, c, e, fun hl => ?_⟩
  obtain ⟨b, off, e2, h2⟩ := hc hl
  exact ⟨b, off, e2, fun k hk => cell_keep hb (h2 k hk)⟩
def orL : List Int → Int
  | [] => 0
  | x :: r => if x = 0 then orL r else x
theorem orL_drop (l : List Int) : ∀ k, k ≤ l.length → (∀ (j : Nat) (hj : j < l.length), j < k → l[j] = 0) → orL l = orL (l.drop k) := by
  induction l with
  | nil => intro k _ _; simp
  | cons x r ih =>
    intro k hk h
    cases k with
    | zero => rfl
    | succ k =>
      have h0 : x = 0 := h 0 (by simp) (by omega)
      rw [List.drop_succ_cons]
      rw [show orL (x :: r) = orL r by simp [orL, h0]]
      exact ih k (by simpa using hk) (fun j hj hjk => h (j + 1) (by simpa using hj) (by omega))
theorem orI_any (v : Value) (l : List Int) (w : World) (hl : l.length ≤ 1048576) (h : SeeI w v l) :
    Calls Tryz.prog 51 #[v] w fun e w' => e = .returned (.int .i64 (orL l)) ∧ w' = w := by
  obtain ⟨a, c, rfl, hc⟩ := h
  have HC : Hid (0 < l.length → ∃ b off, a = some ⟨b, off, none⟩ ∧ ∀ (k : Nat) (h : k < l.length), w.cell? ⟨b, off + k, none⟩ = some (.int .i64 l[k])) := hc
  obtain ⟨R, hR⟩ : ∃ R, R = orL l := ⟨_, rfl⟩
  have HR : Hid (R = orL l) := hR
  rw [← hR]
  clear hc hR
  go_enter Tryz.func51, Tryz.ntmps51
  go_wp2_with fail
  go_loopw [8] (fun i wr => ∃ k : Nat, k ≤ l.length ∧ i = .int .i64 (k : Int) ∧ Hid (∀ (j : Nat) (hj : j < l.length), j < k → l[j] = 0) ∧ wr = w) (fun i _ => l.length - (RowKit.intOf i).toNat)
  case atStart => exact ⟨0, Nat.zero_le _, rfl, fun j _ hj => absurd hj (Nat.not_lt_zero j), rfl⟩
  case round =>
    obtain ⟨k, hk, rfl, HJ, hw⟩ := hrel
    subst hw
    by_cases hlt : k < l.length
    · obtain ⟨g, off, rfl, h2⟩ := HC.out (by omega)
      have cz := h2 k hlt
      have HRk : Hid (R = if (l[k]'hlt) = 0 then orL (l.drop (k + 1)) else (l[k]'hlt)) := by
        show R = _
        rw [HR.out, orL_drop l k hk HJ.out, List.drop_eq_getElem_cons hlt]; rfl
      have HN : Hid ((l[k]'hlt) = 0 → ∀ (j : Nat) (hj : j < l.length), j < k + 1 → l[j] = 0) := fun h j hj hjk => by
        by_cases e : j < k
        · exact HJ.out j hj e
        · have : j = k := by omega
          subst this; exact h
      obtain ⟨m, hm⟩ : ∃ m, m = (l[k]'hlt) := ⟨_, rfl⟩
      rw [← hm] at cz HRk HN
      clear h2 HJ HR hm
      cases h4 : (m != 0) with
      | true =>
        have HE : Hid (R = m) := by
          have h5 : m ≠ 0 := by simpa using h4
          show R = m; rw [HRk.out, if_neg h5]
        clear HN HRk
        go_wp2
        go_ret
        exact ⟨by rw [HE.out]; rfl, rfl⟩
      | false =>
        have HE : Hid (∀ (j : Nat) (hj : j < l.length), j < k + 1 → l[j] = 0) := HN.out (by simpa using h4)
        clear HN HRk
        go_wp2
        exact ⟨⟨k + 1, by omega, by go_num, HE.out, by trivial⟩, by simp [RowKit.intOf]; omega⟩
    · have HE : Hid (R = 0) := by
        show R = 0
        rw [HR.out, orL_drop l k hk HJ.out, List.drop_eq_nil_of_le (by omega)]; rfl
      clear HR
      go_wp2
      go_ret
      exact ⟨by rw [HE.out]; rfl, rfl⟩
theorem orL_two (x y : Int) : orL [x, y] = if x = 0 then y else x := by
  unfold orL
  by_cases h : x = 0
  · rw [if_pos h, if_pos h]
    unfold orL
    by_cases h2 : y = 0
    · rw [if_pos h2, h2]; rfl
    · rw [if_neg h2]
  · rw [if_neg h, if_neg h]
theorem codeFu_or (ok : Bool) (tb : Int) (l : List Blk) : orL [codeF ok l, tabF tb] = codeFu ok tb l := by
  rw [orL_two]
  unfold codeFu
  by_cases h : codeF ok l = 0
  · rw [if_pos h, if_neg (by simp [h])]
  · rw [if_neg h, if_pos h]
end Go.Proofs.YtoafolefecddmaaGreatDoor
