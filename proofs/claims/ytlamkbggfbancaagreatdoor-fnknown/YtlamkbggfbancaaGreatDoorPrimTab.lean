/-
  The program's table of primitives: sixteen rows, each a name, the least and the most number of arguments, and a function value with what it has caught; nothing that was there is turned.
-/
import Derived.Test.YtlamkbggfbancaaGreatDoorRows
import Derived.WalkKit
import Derived.ProofKit
import Derived.Below
import Derived.Laws.EntriesVeiled
import Derived.Test.YtlamkbggfbancaaGreatDoorRowKit0
namespace Go.Proofs.YtlamkbggfbancaaGreatDoor
open Go.RowKit Go.Extern.Stop Go.Stop Go.Extern Num Go.Lib

/-- A function by itself. -/
def FunAt (f : Nat) (v : Value) (_ : World) : Prop := v = .func (.func f) #[] #[]
def NilAt (v : Value) (_ : World) : Prop := v = .nilFunc
/-- What reckons makes of a function: what it has caught lies in no block below B. -/
def RecAt (B f : Nat) (v : Value) (w : World) : Prop := ∃ b, v = .func (.func 46) #[] #[.pointer (some ⟨b, 0, none⟩)] ∧ B ≤ b ∧ w.cell? ⟨b, 0, none⟩ = some (.func (.func f) #[] #[])
/-- What asks makes of a function. -/
def AskAt (B f : Nat) (v : Value) (w : World) : Prop := ∃ b, v = .func (.func 55) #[] #[.pointer (some ⟨b, 0, none⟩)] ∧ B ≤ b ∧ w.cell? ⟨b, 0, none⟩ = some (.func (.func f) #[] #[])
/-- What typed makes of a kind and a function value. -/
def TypAt (B : Nat) (k : Int) (p : Value → World → Prop) (v : Value) (w : World) : Prop := ∃ b c u, v = .func (.func 45) #[] #[.pointer (some ⟨b, 0, none⟩), .pointer (some ⟨c, 0, none⟩)] ∧ B ≤ b ∧ B ≤ c ∧ w.cell? ⟨b, 0, none⟩ = some (.int .u8 k) ∧ w.cell? ⟨c, 0, none⟩ = some u ∧ p u w
/-- The blocks from B on are as they were. -/
def OverB (B : Nat) (w w' : World) : Prop := ∀ k, B ≤ k → k < w.heap.size → w'.heap[k]? = w.heap[k]?
theorem over_below {B : Nat} {w w' : World} (h : Below w.heap.size w w') : OverB B w w' := fun k _ hk => h.block k hk
theorem over_set {B r o : Nat} (w : World) (x : Value) (h : r < B) : OverB B w (w.setCell ⟨r, o, none⟩ x) := fun k hk _ => Below.heap_setCell _ _ _ _ (by show k ≠ r; omega)
theorem over_cell {B b o : Nat} {w w' : World} {x : Value} (h : OverB B w w') (hb : B ≤ b) (hc : w.cell? ⟨b, o, none⟩ = some x) : w'.cell? ⟨b, o, none⟩ = some x := by rw [World.cell?_of_block (a := ⟨b, o, none⟩) (h b hb (lt_of_cell hc))]; exact hc
def KeptB (B : Nat) (p : Value → World → Prop) : Prop := ∀ v w w', p v w → OverB B w w' → p v w'
theorem funAt_kept (B f : Nat) : KeptB B (FunAt f) := fun _ _ _ h _ => h
theorem nilAt_kept (B : Nat) : KeptB B NilAt := fun _ _ _ h _ => h
theorem recAt_kept (B f : Nat) : KeptB B (RecAt B f) := fun _ _ _ ⟨b, e, hB, h⟩ hb => ⟨b, e, hB, over_cell hb hB h⟩
theorem askAt_kept (B f : Nat) : KeptB B (AskAt B f) := fun _ _ _ ⟨b, e, hB, h⟩ hb => ⟨b, e, hB, over_cell hb hB h⟩
theorem typAt_kept (B : Nat) (k : Int) {p : Value → World → Prop} (hp : KeptB B p) : KeptB B (TypAt B k p) := fun _ _ _ ⟨b, c, u, e, hb1, hc1, h1, h2, h3⟩ hb => ⟨b, c, u, e, hb1, hc1, over_cell hb hb1 h1, over_cell hb hc1 h2, hp _ _ _ h3 hb⟩
theorem reckons_any (B f : Nat) (w : World) (hB : B ≤ w.heap.size) :
    Calls Tryz.prog 23 #[.func (.func f) #[] #[]] w fun e w' => ∃ v, e = .returned v ∧ RecAt B f v w' ∧ Below w.heap.size w w' := by
  go_enter Tryz.func23, Tryz.ntmps23
  go_wp2
  go_ret
  exact ⟨_, rfl, ⟨w.heap.size, rfl, hB, by rw [World.cell?_alloc_at _ _ _ _ rfl]; rfl⟩, (Below.refl _ _).alloc (Nat.le_refl _) _⟩
theorem asks_any (B f : Nat) (w : World) (hB : B ≤ w.heap.size) :
    Calls Tryz.prog 29 #[.func (.func f) #[] #[]] w fun e w' => ∃ v, e = .returned v ∧ AskAt B f v w' ∧ Below w.heap.size w w' := by
  go_enter Tryz.func29, Tryz.ntmps29
  go_wp2
  go_ret
  exact ⟨_, rfl, ⟨w.heap.size, rfl, hB, by rw [World.cell?_alloc_at _ _ _ _ rfl]; rfl⟩, (Below.refl _ _).alloc (Nat.le_refl _) _⟩
theorem typed_any (B : Nat) (k : Int) (f : Fn) (a b : Array Value) (p : Value → World → Prop) (hp : KeptB B p) (w : World) (hB : B ≤ w.heap.size) (h : p (.func f a b) w) :
    Calls Tryz.prog 22 #[.int .u8 k, .func f a b] w fun e w' => ∃ v, e = .returned v ∧ TypAt B k p v w' ∧ Below w.heap.size w w' := by
  have H : Hid (p (.func f a b) w) := h
  clear h
  go_enter Tryz.func22, Tryz.ntmps22
  go_wp2
  go_ret
  refine ⟨_, rfl, ⟨w.heap.size, w.heap.size + 1, .func f a b, rfl, hB, by omega, ?_, ?_, hp _ _ _ H.out (over_below ?_)⟩, ?_⟩
  · rw [World.cell?_alloc_past _ _ _ (by simp), World.cell?_alloc_at _ _ _ _ rfl]; rfl
  · rw [World.cell?_alloc_at _ _ _ _ (by simp)]; rfl
  · exact ((Below.refl _ _).alloc (Nat.le_refl _) _).alloc (by simp) _
  · exact ((Below.refl _ _).alloc (Nat.le_refl _) _).alloc (by simp) _
/-- The names, and how many arguments. -/
def primN : List (ByteArray × Int × Int) := [(⟨#[43]⟩, 2, 2), (⟨#[45]⟩, 2, 2), (⟨#[42]⟩, 2, 2), (⟨#[113, 117, 111]⟩, 2, 2), (⟨#[114, 101, 109]⟩, 2, 2), (⟨#[60]⟩, 2, 2), (⟨#[61]⟩, 2, 2), (⟨#[99, 111, 110, 115]⟩, 2, 2), (⟨#[99, 97, 114]⟩, 1, 1), (⟨#[99, 100, 114]⟩, 1, 1), (⟨#[110, 117, 108, 108, 63]⟩, 1, 1), (⟨#[112, 97, 105, 114, 63]⟩, 1, 1), (⟨#[101, 113, 63]⟩, 2, 2), (⟨#[110, 111, 116]⟩, 1, 1), (⟨#[108, 105, 115, 116]⟩, 0, 3), (⟨#[99, 97, 108, 108, 47, 99, 99]⟩, 1, 1)]
/-- The function values, as they lie. -/
def WorksAt (B : Nat) (ws : List Value) (w : World) : Prop := match ws with | [v0, v1, v2, v3, v4, v5, v6, v7, v8, v9, v10, v11, v12, v13, v14, v15] => TypAt B 1 (RecAt B 24) v0 w ∧ TypAt B 1 (RecAt B 25) v1 w ∧ TypAt B 1 (RecAt B 26) v2 w ∧ TypAt B 1 (RecAt B 27) v3 w ∧ TypAt B 1 (RecAt B 28) v4 w ∧ TypAt B 1 (AskAt B 30) v5 w ∧ TypAt B 1 (AskAt B 31) v6 w ∧ FunAt 32 v7 w ∧ TypAt B 5 (FunAt 33) v8 w ∧ TypAt B 5 (FunAt 34) v9 w ∧ AskAt B 35 v10 w ∧ AskAt B 36 v11 w ∧ AskAt B 31 v12 w ∧ AskAt B 37 v13 w ∧ FunAt 38 v14 w ∧ NilAt v15 w | _ => False
def primCells (ws : List Value) : Array Value := match ws with | [v0, v1, v2, v3, v4, v5, v6, v7, v8, v9, v10, v11, v12, v13, v14, v15] => #[.string ⟨#[43]⟩, .int .i64 2, .int .i64 2, v0, .string ⟨#[45]⟩, .int .i64 2, .int .i64 2, v1, .string ⟨#[42]⟩, .int .i64 2, .int .i64 2, v2, .string ⟨#[113, 117, 111]⟩, .int .i64 2, .int .i64 2, v3, .string ⟨#[114, 101, 109]⟩, .int .i64 2, .int .i64 2, v4, .string ⟨#[60]⟩, .int .i64 2, .int .i64 2, v5, .string ⟨#[61]⟩, .int .i64 2, .int .i64 2, v6, .string ⟨#[99, 111, 110, 115]⟩, .int .i64 2, .int .i64 2, v7, .string ⟨#[99, 97, 114]⟩, .int .i64 1, .int .i64 1, v8, .string ⟨#[99, 100, 114]⟩, .int .i64 1, .int .i64 1, v9, .string ⟨#[110, 117, 108, 108, 63]⟩, .int .i64 1, .int .i64 1, v10, .string ⟨#[112, 97, 105, 114, 63]⟩, .int .i64 1, .int .i64 1, v11, .string ⟨#[101, 113, 63]⟩, .int .i64 2, .int .i64 2, v12, .string ⟨#[110, 111, 116]⟩, .int .i64 1, .int .i64 1, v13, .string ⟨#[108, 105, 115, 116]⟩, .int .i64 0, .int .i64 3, v14, .string ⟨#[99, 97, 108, 108, 47, 99, 99]⟩, .int .i64 1, .int .i64 1, v15] | _ => #[]
set_option maxRecDepth 100000 in
set_option maxHeartbeats 4000000 in
theorem prims_any (B : Nat) (w : World) (hB : B ≤ w.heap.size) : Calls Tryz.prog 14 #[] w fun e w' => ∃ g ws, e = .returned (.slice (some ⟨g, 0, none⟩) 16 16) ∧ w'.heap[g]? = some (.cells (primCells ws) 49 (0, 0)) ∧ WorksAt B ws w' ∧ Below w.heap.size w w' := by
  go_enter Tryz.func14, Tryz.ntmps14
  go_wp2_with fail
  refine (reckons_any B 24 _ hB).mono ?_
  rintro e w1 ⟨x1, rfl, hx1, b1⟩
  have HX1 : Hid (RecAt B 24 x1 w1) := hx1
  have HB1 : Hid (Below w.heap.size w w1) := b1
  replace hB := Nat.le_trans hB b1.size
  clear hx1 b1
  obtain ⟨y1, hy1, hz1⟩ := HX1.out
  subst hy1
  clear hz1
  go_wp2_with fail
  refine (typed_any B 1 _ _ _ (RecAt B 24) (recAt_kept _ _) _ hB HX1.out).mono ?_
  rintro e w2 ⟨x2, rfl, hx2, b2⟩
  have HX2 : Hid (TypAt B 1 (RecAt B 24) x2 w2) := hx2
  have HB2 : Hid (Below w1.heap.size w1 w2) := b2
  replace hB := Nat.le_trans hB b2.size
  clear hx2 b2
  obtain ⟨y2, z2, u2, hy2, hz2⟩ := HX2.out
  subst hy2
  clear hz2
  go_wp2_with fail
  refine (reckons_any B 25 _ hB).mono ?_
  rintro e w3 ⟨x3, rfl, hx3, b3⟩
  have HX3 : Hid (RecAt B 25 x3 w3) := hx3
  have HB3 : Hid (Below w2.heap.size w2 w3) := b3
  replace hB := Nat.le_trans hB b3.size
  clear hx3 b3
  obtain ⟨y3, hy3, hz3⟩ := HX3.out
  subst hy3
  clear hz3
  go_wp2_with fail
  refine (typed_any B 1 _ _ _ (RecAt B 25) (recAt_kept _ _) _ hB HX3.out).mono ?_
  rintro e w4 ⟨x4, rfl, hx4, b4⟩
  have HX4 : Hid (TypAt B 1 (RecAt B 25) x4 w4) := hx4
  have HB4 : Hid (Below w3.heap.size w3 w4) := b4
  replace hB := Nat.le_trans hB b4.size
  clear hx4 b4
  obtain ⟨y4, z4, u4, hy4, hz4⟩ := HX4.out
  subst hy4
  clear hz4
  go_wp2_with fail
  refine (reckons_any B 26 _ hB).mono ?_
  rintro e w5 ⟨x5, rfl, hx5, b5⟩
  have HX5 : Hid (RecAt B 26 x5 w5) := hx5
  have HB5 : Hid (Below w4.heap.size w4 w5) := b5
  replace hB := Nat.le_trans hB b5.size
  clear hx5 b5
  obtain ⟨y5, hy5, hz5⟩ := HX5.out
  subst hy5
  clear hz5
  go_wp2_with fail
  refine (typed_any B 1 _ _ _ (RecAt B 26) (recAt_kept _ _) _ hB HX5.out).mono ?_
  rintro e w6 ⟨x6, rfl, hx6, b6⟩
  have HX6 : Hid (TypAt B 1 (RecAt B 26) x6 w6) := hx6
  have HB6 : Hid (Below w5.heap.size w5 w6) := b6
  replace hB := Nat.le_trans hB b6.size
  clear hx6 b6
  obtain ⟨y6, z6, u6, hy6, hz6⟩ := HX6.out
  subst hy6
  clear hz6
  go_wp2_with fail
  refine (reckons_any B 27 _ hB).mono ?_
  rintro e w7 ⟨x7, rfl, hx7, b7⟩
  have HX7 : Hid (RecAt B 27 x7 w7) := hx7
  have HB7 : Hid (Below w6.heap.size w6 w7) := b7
  replace hB := Nat.le_trans hB b7.size
  clear hx7 b7
  obtain ⟨y7, hy7, hz7⟩ := HX7.out
  subst hy7
  clear hz7
  go_wp2_with fail
  refine (typed_any B 1 _ _ _ (RecAt B 27) (recAt_kept _ _) _ hB HX7.out).mono ?_
  rintro e w8 ⟨x8, rfl, hx8, b8⟩
  have HX8 : Hid (TypAt B 1 (RecAt B 27) x8 w8) := hx8
  have HB8 : Hid (Below w7.heap.size w7 w8) := b8
  replace hB := Nat.le_trans hB b8.size
  clear hx8 b8
  obtain ⟨y8, z8, u8, hy8, hz8⟩ := HX8.out
  subst hy8
  clear hz8
  go_wp2_with fail
  refine (reckons_any B 28 _ hB).mono ?_
  rintro e w9 ⟨x9, rfl, hx9, b9⟩
  have HX9 : Hid (RecAt B 28 x9 w9) := hx9
  have HB9 : Hid (Below w8.heap.size w8 w9) := b9
  replace hB := Nat.le_trans hB b9.size
  clear hx9 b9
  obtain ⟨y9, hy9, hz9⟩ := HX9.out
  subst hy9
  clear hz9
  go_wp2_with fail
  refine (typed_any B 1 _ _ _ (RecAt B 28) (recAt_kept _ _) _ hB HX9.out).mono ?_
  rintro e w10 ⟨x10, rfl, hx10, b10⟩
  have HX10 : Hid (TypAt B 1 (RecAt B 28) x10 w10) := hx10
  have HB10 : Hid (Below w9.heap.size w9 w10) := b10
  replace hB := Nat.le_trans hB b10.size
  clear hx10 b10
  obtain ⟨y10, z10, u10, hy10, hz10⟩ := HX10.out
  subst hy10
  clear hz10
  go_wp2_with fail
  refine (asks_any B 30 _ hB).mono ?_
  rintro e w11 ⟨x11, rfl, hx11, b11⟩
  have HX11 : Hid (AskAt B 30 x11 w11) := hx11
  have HB11 : Hid (Below w10.heap.size w10 w11) := b11
  replace hB := Nat.le_trans hB b11.size
  clear hx11 b11
  obtain ⟨y11, hy11, hz11⟩ := HX11.out
  subst hy11
  clear hz11
  go_wp2_with fail
  refine (typed_any B 1 _ _ _ (AskAt B 30) (askAt_kept _ _) _ hB HX11.out).mono ?_
  rintro e w12 ⟨x12, rfl, hx12, b12⟩
  have HX12 : Hid (TypAt B 1 (AskAt B 30) x12 w12) := hx12
  have HB12 : Hid (Below w11.heap.size w11 w12) := b12
  replace hB := Nat.le_trans hB b12.size
  clear hx12 b12
  obtain ⟨y12, z12, u12, hy12, hz12⟩ := HX12.out
  subst hy12
  clear hz12
  go_wp2_with fail
  refine (asks_any B 31 _ hB).mono ?_
  rintro e w13 ⟨x13, rfl, hx13, b13⟩
  have HX13 : Hid (AskAt B 31 x13 w13) := hx13
  have HB13 : Hid (Below w12.heap.size w12 w13) := b13
  replace hB := Nat.le_trans hB b13.size
  clear hx13 b13
  obtain ⟨y13, hy13, hz13⟩ := HX13.out
  subst hy13
  clear hz13
  go_wp2_with fail
  refine (typed_any B 1 _ _ _ (AskAt B 31) (askAt_kept _ _) _ hB HX13.out).mono ?_
  rintro e w14 ⟨x14, rfl, hx14, b14⟩
  have HX14 : Hid (TypAt B 1 (AskAt B 31) x14 w14) := hx14
  have HB14 : Hid (Below w13.heap.size w13 w14) := b14
  replace hB := Nat.le_trans hB b14.size
  clear hx14 b14
  obtain ⟨y14, z14, u14, hy14, hz14⟩ := HX14.out
  subst hy14
  clear hz14
  go_wp2_with fail
  refine (typed_any B 5 (.func 33) #[] #[] (FunAt 33) (funAt_kept _ _) _ hB rfl).mono ?_
  rintro e w15 ⟨x15, rfl, hx15, b15⟩
  have HX15 : Hid (TypAt B 5 (FunAt 33) x15 w15) := hx15
  have HB15 : Hid (Below w14.heap.size w14 w15) := b15
  replace hB := Nat.le_trans hB b15.size
  clear hx15 b15
  obtain ⟨y15, z15, u15, hy15, hz15⟩ := HX15.out
  subst hy15
  clear hz15
  go_wp2_with fail
  refine (typed_any B 5 (.func 34) #[] #[] (FunAt 34) (funAt_kept _ _) _ hB rfl).mono ?_
  rintro e w16 ⟨x16, rfl, hx16, b16⟩
  have HX16 : Hid (TypAt B 5 (FunAt 34) x16 w16) := hx16
  have HB16 : Hid (Below w15.heap.size w15 w16) := b16
  replace hB := Nat.le_trans hB b16.size
  clear hx16 b16
  obtain ⟨y16, z16, u16, hy16, hz16⟩ := HX16.out
  subst hy16
  clear hz16
  go_wp2_with fail
  refine (asks_any B 35 _ hB).mono ?_
  rintro e w17 ⟨x17, rfl, hx17, b17⟩
  have HX17 : Hid (AskAt B 35 x17 w17) := hx17
  have HB17 : Hid (Below w16.heap.size w16 w17) := b17
  replace hB := Nat.le_trans hB b17.size
  clear hx17 b17
  obtain ⟨y17, hy17, hz17⟩ := HX17.out
  subst hy17
  clear hz17
  go_wp2_with fail
  refine (asks_any B 36 _ hB).mono ?_
  rintro e w18 ⟨x18, rfl, hx18, b18⟩
  have HX18 : Hid (AskAt B 36 x18 w18) := hx18
  have HB18 : Hid (Below w17.heap.size w17 w18) := b18
  replace hB := Nat.le_trans hB b18.size
  clear hx18 b18
  obtain ⟨y18, hy18, hz18⟩ := HX18.out
  subst hy18
  clear hz18
  go_wp2_with fail
  refine (asks_any B 31 _ hB).mono ?_
  rintro e w19 ⟨x19, rfl, hx19, b19⟩
  have HX19 : Hid (AskAt B 31 x19 w19) := hx19
  have HB19 : Hid (Below w18.heap.size w18 w19) := b19
  replace hB := Nat.le_trans hB b19.size
  clear hx19 b19
  obtain ⟨y19, hy19, hz19⟩ := HX19.out
  subst hy19
  clear hz19
  go_wp2_with fail
  refine (asks_any B 37 _ hB).mono ?_
  rintro e w20 ⟨x20, rfl, hx20, b20⟩
  have HX20 : Hid (AskAt B 37 x20 w20) := hx20
  have HB20 : Hid (Below w19.heap.size w19 w20) := b20
  replace hB := Nat.le_trans hB b20.size
  clear hx20 b20
  obtain ⟨y20, hy20, hz20⟩ := HX20.out
  subst hy20
  clear hz20
  go_wp2
  go_ret
  have t20 : ∀ o, Below w20.heap.size w20 (w20.alloc o) := fun o => (Below.refl _ w20).alloc (Nat.le_refl _) o
  have t19 : ∀ o, Below w19.heap.size w19 (w20.alloc o) := fun o => HB20.out.trans ((t20 o).mono HB20.out.size)
  have t18 : ∀ o, Below w18.heap.size w18 (w20.alloc o) := fun o => HB19.out.trans ((t19 o).mono HB19.out.size)
  have t17 : ∀ o, Below w17.heap.size w17 (w20.alloc o) := fun o => HB18.out.trans ((t18 o).mono HB18.out.size)
  have t16 : ∀ o, Below w16.heap.size w16 (w20.alloc o) := fun o => HB17.out.trans ((t17 o).mono HB17.out.size)
  have t15 : ∀ o, Below w15.heap.size w15 (w20.alloc o) := fun o => HB16.out.trans ((t16 o).mono HB16.out.size)
  have t14 : ∀ o, Below w14.heap.size w14 (w20.alloc o) := fun o => HB15.out.trans ((t15 o).mono HB15.out.size)
  have t13 : ∀ o, Below w13.heap.size w13 (w20.alloc o) := fun o => HB14.out.trans ((t14 o).mono HB14.out.size)
  have t12 : ∀ o, Below w12.heap.size w12 (w20.alloc o) := fun o => HB13.out.trans ((t13 o).mono HB13.out.size)
  have t11 : ∀ o, Below w11.heap.size w11 (w20.alloc o) := fun o => HB12.out.trans ((t12 o).mono HB12.out.size)
  have t10 : ∀ o, Below w10.heap.size w10 (w20.alloc o) := fun o => HB11.out.trans ((t11 o).mono HB11.out.size)
  have t9 : ∀ o, Below w9.heap.size w9 (w20.alloc o) := fun o => HB10.out.trans ((t10 o).mono HB10.out.size)
  have t8 : ∀ o, Below w8.heap.size w8 (w20.alloc o) := fun o => HB9.out.trans ((t9 o).mono HB9.out.size)
  have t7 : ∀ o, Below w7.heap.size w7 (w20.alloc o) := fun o => HB8.out.trans ((t8 o).mono HB8.out.size)
  have t6 : ∀ o, Below w6.heap.size w6 (w20.alloc o) := fun o => HB7.out.trans ((t7 o).mono HB7.out.size)
  have t5 : ∀ o, Below w5.heap.size w5 (w20.alloc o) := fun o => HB6.out.trans ((t6 o).mono HB6.out.size)
  have t4 : ∀ o, Below w4.heap.size w4 (w20.alloc o) := fun o => HB5.out.trans ((t5 o).mono HB5.out.size)
  have t3 : ∀ o, Below w3.heap.size w3 (w20.alloc o) := fun o => HB4.out.trans ((t4 o).mono HB4.out.size)
  have t2 : ∀ o, Below w2.heap.size w2 (w20.alloc o) := fun o => HB3.out.trans ((t3 o).mono HB3.out.size)
  have t1 : ∀ o, Below w1.heap.size w1 (w20.alloc o) := fun o => HB2.out.trans ((t2 o).mono HB2.out.size)
  have t0 : ∀ o, Below w.heap.size w (w20.alloc o) := fun o => HB1.out.trans ((t1 o).mono HB1.out.size)
  exact ⟨w20.heap.size, [_, _, _, _, _, _, _, .func (.func 32) #[] #[], _, _, _, _, _, _, .func (.func 38) #[] #[], .nilFunc], rfl, heap_alloc_new _ _, ⟨(typAt_kept _ _ (recAt_kept _ _)) _ _ _ HX2.out (over_below (t2 _)), (typAt_kept _ _ (recAt_kept _ _)) _ _ _ HX4.out (over_below (t4 _)), (typAt_kept _ _ (recAt_kept _ _)) _ _ _ HX6.out (over_below (t6 _)), (typAt_kept _ _ (recAt_kept _ _)) _ _ _ HX8.out (over_below (t8 _)), (typAt_kept _ _ (recAt_kept _ _)) _ _ _ HX10.out (over_below (t10 _)), (typAt_kept _ _ (askAt_kept _ _)) _ _ _ HX12.out (over_below (t12 _)), (typAt_kept _ _ (askAt_kept _ _)) _ _ _ HX14.out (over_below (t14 _)), rfl, (typAt_kept _ _ (funAt_kept _ _)) _ _ _ HX15.out (over_below (t15 _)), (typAt_kept _ _ (funAt_kept _ _)) _ _ _ HX16.out (over_below (t16 _)), (askAt_kept _ _) _ _ _ HX17.out (over_below (t17 _)), (askAt_kept _ _) _ _ _ HX18.out (over_below (t18 _)), (askAt_kept _ _) _ _ _ HX19.out (over_below (t19 _)), (askAt_kept _ _) _ _ _ HX20.out (over_below (t20 _)), rfl, rfl⟩, t0 _⟩
end Go.Proofs.YtlamkbggfbancaaGreatDoor
