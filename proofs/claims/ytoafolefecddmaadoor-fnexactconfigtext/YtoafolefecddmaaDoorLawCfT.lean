/-
  The exact law of ConfigText answers true at every setting; nothing that was there is turned.
-/
import Derived.Test.YtoafolefecddmaaDoorConfT
import Derived.Test.YtoafolefecddmaaDoorEqText
namespace Go.Proofs.YtoafolefecddmaaDoor
open Go.RowKit Go.Extern.Stop Go.Stop Go.Extern Num Go.Lib

set_option maxHeartbeats 1500000 in
theorem lawCfT_any (w : World) (s t : Int) (p c : Bool) (hL : TB w) :
    Calls Tryd.prog 3 #[cfV s t p c] w fun e w' => e = .returned (.bool true) ∧ Below w.heap.size w w' := by
  have HT : Hid (∀ u, Calls Tryd.prog 5 #[cfV s t p c] u fun e w' => e = .returned (cfV s t p c) ∧ Below u.heap.size u w') := fun u => toCf_any s t p c u
  obtain ⟨x, hx⟩ : ∃ x : ByteArray, x = ⟨(cfL s t p c).toArray⟩ := ⟨_, rfl⟩
  have HS : Hid (∀ u, Calls Tryd.prog 4 #[cfV s t p c] u fun e w' => e = .returned (.agg #[.int .i64 (cfF s t), .string x]) ∧ Below u.heap.size u w') := fun u => by rw [hx]; exact specCfT_any s t p c u
  have HI : Hid (∀ u, Below w.heap.size w u → Calls Tryd.prog 6 #[cfV s t p c] u fun e w' => e = .returned (.agg #[.int .i64 (cfF s t), .string x]) ∧ Below u.heap.size u w') := fun u hu => by rw [hx]; exact implCfT_any s t p c u (hL.below hu)
  have HE : Hid (∀ u, Calls Tryd.prog 7 #[.agg #[.int .i64 (cfF s t), .string x], .agg #[.int .i64 (cfF s t), .string x]] u fun e w' => e = .returned (.bool true) ∧ Below u.heap.size u w') := fun u => eqText_same _ _ u
  generalize cfF s t = F at HS HI HE
  obtain ⟨W, hW⟩ : ∃ W, W = w.alloc (.cells #[.int .i64 s, .int .i64 t, .bool p, .bool c] 23) := ⟨_, rfl⟩
  have HW : Hid (W = w.alloc (.cells #[.int .i64 s, .int .i64 t, .bool p, .bool c] 23)) := hW
  have hb : Below w.heap.size w W := by rw [hW]; exact bnewC _ _
  have hz : w.heap.size < W.heap.size := by rw [hW]; simp
  have HB : Hid (∀ u, Below W.heap.size W u → Below w.heap.size w u) := fun u hu => hb.trans (hu.mono (Nat.le_of_lt hz))
  have HC : Hid (∀ u, Below W.heap.size W u → u.cell? ⟨w.heap.size, 0, none⟩ = some (.int .i64 s) ∧ u.cell? ⟨w.heap.size, 1, none⟩ = some (.int .i64 t) ∧ u.cell? ⟨w.heap.size, 2, none⟩ = some (.bool p) ∧ u.cell? ⟨w.heap.size, 3, none⟩ = some (.bool c)) := fun u hu => by
    refine ⟨cell_keep hu ?_, cell_keep hu ?_, cell_keep hu ?_, cell_keep hu ?_⟩ <;> (rw [hW, World.cell?_alloc_at _ _ _ _ rfl]; rfl)
  clear hW hx hb hL
  go_enter Tryd.func3, Tryd.ntmps3
  obtain ⟨c0, c1, c2, c3⟩ := HC.out W (Below.refl _ _)
  go_wp2_with fail
  rw [← HW.out]
  clear HW
  refine (HT.out _).mono ?_
  rintro e w2 ⟨rfl, b2⟩
  have HB2 : Hid (Below W.heap.size W w2) := b2
  clear b2
  go_wp2_with fail
  refine (HS.out _).mono ?_
  rintro e w3 ⟨rfl, b3⟩
  have HB3 : Hid (Below W.heap.size W w3) := HB2.out.trans (b3.mono HB2.out.size)
  obtain ⟨u3, hu3⟩ : ∃ u, u = w3.alloc (.cells #[.int .i64 F, .string x] 25) := ⟨_, rfl⟩
  have HU3 : Hid (u3 = w3.alloc (.cells #[.int .i64 F, .string x] 25)) := hu3
  have HBu3 : Hid (Below W.heap.size W u3) := by show Below _ _ _; rw [hu3]; exact HB3.out.alloc HB3.out.size _
  have HX3 : Hid (∀ u, Below u3.heap.size u3 u → u.cell? ⟨w3.heap.size, 0, none⟩ = some (.int .i64 F) ∧ u.cell? ⟨w3.heap.size, 1, none⟩ = some (.string x)) := fun u hu => by
    refine ⟨cell_keep hu ?_, cell_keep hu ?_⟩ <;> (rw [hu3, World.cell?_alloc_at _ _ _ _ rfl]; rfl)
  clear b3 HB2 c0 c1 c2 c3
  obtain ⟨c0, c1, c2, c3⟩ := HC.out u3 HBu3.out
  rw [hu3] at c0 c1 c2 c3
  clear hu3
  go_wp2_with fail
  rw [← HU3.out]
  clear c0 c1 c2 c3
  refine (HT.out _).mono ?_
  rintro e w4 ⟨rfl, b4⟩
  have HB4 : Hid (Below u3.heap.size u3 w4) := b4
  clear b4
  go_wp2_with fail
  refine (HI.out _ (HB.out _ (HBu3.out.trans (HB4.out.mono HBu3.out.size)))).mono ?_
  rintro e w5 ⟨rfl, b5⟩
  have HB5 : Hid (Below u3.heap.size u3 w5) := HB4.out.trans (b5.mono HB4.out.size)
  obtain ⟨q0, q1⟩ := HX3.out _ (HB5.out.alloc HB5.out.size (.cells #[.int .i64 F, .string x] 25))
  have hs5 : w3.heap.size < w5.heap.size := by have h1 := HB5.out.size; have h2 : u3.heap.size = w3.heap.size + 1 := by rw [HU3.out]; simp
                                               omega
  have HBz : Hid (Below w.heap.size w (w5.alloc (.cells #[.int .i64 F, .string x] 25))) := HB.out _ (HBu3.out.trans ((HB5.out.alloc HB5.out.size _).mono HBu3.out.size))
  clear b5 HB4 HU3
  go_wp2_with fail
  refine (HE.out _).mono ?_
  rintro e w6 ⟨rfl, b6⟩
  have HBf : Hid (Below w.heap.size w w6) := HBz.out.trans (b6.mono HBz.out.size)
  clear b6 q0 q1
  go_wp2
  go_ret
  exact ⟨rfl, HBf.out⟩
end Go.Proofs.YtoafolefecddmaaDoor
