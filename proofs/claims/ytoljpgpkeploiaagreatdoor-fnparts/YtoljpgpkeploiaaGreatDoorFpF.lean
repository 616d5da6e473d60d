/-
  Parts of the proof laid into one text, one behind the other; each says at its head what is proved in it.
-/
import Derived.Test.YtoljpgpkeploiaaGreatDoorFpC
import Derived.Test.YtoljpgpkeploiaaGreatDoorFpE
import Derived.Test.YtoljpgpkeploiaaGreatDoorRegion
import Derived.Test.YtoljpgpkeploiaaGreatDoorStDatum
import Derived.Test.YtoljpgpkeploiaaGreatDoorDraw3
import Derived.Laws.MakeOwn
import Derived.Laws.Concat
import Derived.Laws.BytesArg
/-
  The model's draws of chapter 2: l1Chance, l2Name, l2Draw, l2Bent: each answers, counts on, and turns nothing that was there but the count.
-/
namespace Go.Proofs.YtoljpgpkeploiaaGreatDoor
open Go.RowKit Go.Extern.Stop Go.Stop Go.Extern Num Go.Lib

theorem strs_at (w : World) (L : List ByteArray) (t : TypeId) (B : Nat) (hB : ∀ x ∈ L, x.size ≤ B) (j : Nat) (hj : j < L.length) :
    ∃ s : ByteArray, (w.alloc (.cells (L.map Value.string).toArray t)).cell? ⟨w.heap.size, j, none⟩ = some (.string s) ∧ s.size ≤ B := by
  refine ⟨L[j], ?_, hB _ (List.getElem_mem hj)⟩
  rw [cell_of_row _ w.heap.size j _ t (0, 0) (heap_alloc_new w _)]
  simp [hj]
/-- Where the bytes of the code lie. -/
theorem SrcAt.code {w : World} {b : Nat} {ca : Option Addr} {len cap : Nat} {k : Int} (h : SrcAt w b ca len cap k) : ∀ cb co, ca = some ⟨cb, co, none⟩ → 0 < len → cb < w.heap.size := by
  intro cb co e hl
  obtain ⟨cb', co', e', _, hx⟩ := h.bytes hl
  obtain ⟨x, hx, _⟩ := hx 0 hl
  rw [e] at e'
  obtain ⟨rfl, -⟩ : cb = cb' ∧ co = co' := by simpa using e'
  exact lt_of_cell hx
/-- A world in which nothing has turned but one block g that is neither the source's nor the code's. -/
theorem SrcAt.keep {w w' : World} {b : Nat} {ca : Option Addr} {len cap : Nat} {k : Int} (h : SrcAt w b ca len cap k) (g : Nat) (hk : ∀ i, i < w.heap.size → i ≠ g → w'.heap[i]? = w.heap[i]?) (hb : b ≠ g) (hc : ∀ cb co, ca = some ⟨cb, co, none⟩ → 0 < len → cb ≠ g) : SrcAt w' b ca len cap k := by
  refine ⟨?_, ?_, ?_, fun hl => ?_⟩
  · rw [World.cell?_of_block (w := w) (hk b h.lt hb)]; exact h.c0
  · rw [World.cell?_of_block (w := w) (hk b h.lt hb)]; exact h.c1
  · rw [World.frozen?_of_block (w := w) (hk b h.lt hb)]; exact h.f1
  · obtain ⟨cb, co, e, hne, hx⟩ := h.bytes hl
    refine ⟨cb, co, e, hne, fun j hj => ?_⟩
    obtain ⟨x, hx, x0, x1⟩ := hx j hj
    exact ⟨x, by rw [World.cell?_of_block (w := w) (hk cb (lt_of_cell hx) (hc cb co e hl))]; exact hx, x0, x1⟩
theorem SrcAt.put {w : World} {b : Nat} {ca : Option Addr} {len cap : Nat} {k : Int} (h : SrcAt w b ca len cap k) (g o : Nat) (u : Value) (hb : b ≠ g) (hc : ∀ cb co, ca = some ⟨cb, co, none⟩ → 0 < len → cb ≠ g) : SrcAt (w.setCell ⟨g, o, none⟩ u) b ca len cap k :=
  h.keep g (fun _ _ hi => Below.heap_setCell _ _ _ _ hi) hb hc
theorem Only.put {b g o : Nat} {u w : World} (h : Only b u w) (hg : u.heap.size ≤ g) (x : Value) : Only b u (w.setCell ⟨g, o, none⟩ x) :=
  ⟨h.os, h.tape, h.output, by simpa using h.size, fun k hk hb => (Below.heap_setCell _ _ _ _ (by show k ≠ g; omega)).trans (h.block k hk hb)⟩
theorem only_next (w : World) (b : Nat) (k : Int) (q : Nat) : Only b w ((w.setCell ⟨b, 1, none⟩ (.int .i64 (k + 1))).drewN q) := ((Only.refl b w).setCell _).drewN q

theorem chance_any (w : World) (b : Nat) (ca : Option Addr) (len cap : Nat) (k n : Int) (h : SrcAt w b ca len cap k) (hmax : (len : Int) ≤ 9223372036854775807) (k0 : 0 ≤ k) (k1 : k ≤ 1000000000000) :
    Calls Tryz.prog 40 #[.pointer (some ⟨b, 0, none⟩), .int .i64 n] w fun e w' => ∃ t : Bool, e = .returned (.bool t) ∧ SrcAt w' b ca len cap (k + 1) ∧ Only b w w' := by
  go_enter Tryz.func40, Tryz.ntmps40
  go_wp2_with fail
  refine (next_any _ b ca len cap k n h hmax k0 k1).mono ?_
  rintro e w1 ⟨r, q, rfl, r0, r1, hw1⟩
  have h1 : SrcAt w1 b ca len cap (k + 1) := by rw [hw1]; exact h.next q
  have o1 : Only b w w1 := by rw [hw1]; exact only_next w b k q
  clear hw1 h
  go_wp2
  go_ret
  exact ⟨_, rfl, h1, o1⟩
/-- What a draw of a text comes to. -/
def StrRes (w : World) (b : Nat) (ca : Option Addr) (len cap : Nat) (k : Int) (K : Nat) (e : Ending) (w' : World) : Prop :=
  ∃ (s : ByteArray) (k' : Int), e = .returned (.string s) ∧ s.size ≤ 20 ∧ k ≤ k' ∧ k' ≤ k + K ∧ SrcAt w' b ca len cap k' ∧ Only b w w'
set_option maxRecDepth 100000 in
theorem name_any (w : World) (b : Nat) (ca : Option Addr) (len cap : Nat) (k : Int) (h : SrcAt w b ca len cap k) (hmax : (len : Int) ≤ 9223372036854775807) (k0 : 0 ≤ k) (k1 : k ≤ 1000000000000) :
    Calls Tryz.prog 67 #[.pointer (some ⟨b, 0, none⟩)] w fun e w' => StrRes w b ca len cap k 1 e w' := by
  go_enter Tryz.func67, Tryz.ntmps67
  go_wp2_with fail
  refine (next_any _ b ca len cap k _ (h.alloc _) hmax k0 k1).mono ?_
  rintro e w1 ⟨r, q, rfl, r0, r1, hw1⟩
  rw [if_neg (by omega)] at r1
  obtain ⟨s, hs, hz⟩ : ∃ s : ByteArray, (w.alloc (.cells #[.string ⟨#[120]⟩, .string ⟨#[121]⟩, .string ⟨#[102]⟩, .string ⟨#[43]⟩, .string ⟨#[99, 97, 114]⟩, .string ⟨#[105, 102]⟩, .string ⟨#[110, 117, 108, 108, 63]⟩, .string ⟨#[97]⟩] 9)).cell? ⟨w.heap.size, r.toNat, none⟩ = some (.string s) ∧ s.size ≤ 20 :=
    strs_at w [⟨#[120]⟩, ⟨#[121]⟩, ⟨#[102]⟩, ⟨#[43]⟩, ⟨#[99, 97, 114]⟩, ⟨#[105, 102]⟩, ⟨#[110, 117, 108, 108, 63]⟩, ⟨#[97]⟩] 9 20 (by decide) r.toNat (by simp; omega)
  have h1 : SrcAt w1 b ca len cap (k + 1) := by rw [hw1]; exact (h.alloc _).next q
  have o1 : Only b w w1 := by rw [hw1]; exact ((Only.refl b w).alloc _).trans (only_next _ b k q)
  have hc : w1.cell? ⟨w.heap.size, r.toNat, none⟩ = some (.string s) := by
    rw [hw1]
    exact (World.cell?_of_block (Below.heap_setCell _ ⟨b, 1, none⟩ _ w.heap.size (Nat.ne_of_gt h.lt))).trans hs
  have r2 : r < 8 := by omega
  clear hw1 hs r1 h
  go_wp2
  go_ret
  exact ⟨s, k + 1, rfl, hz, by omega, by omega, h1, o1⟩
/-- What a draw of a token comes to. -/
def TokRes (w : World) (b : Nat) (ca : Option Addr) (len cap : Nat) (k : Int) (K : Nat) (e : Ending) (w' : World) : Prop :=
  ∃ (t : Tok) (k' : Int), e = .returned t.val ∧ t.name.size ≤ 20 ∧ k ≤ k' ∧ k' ≤ k + K ∧ SrcAt w' b ca len cap k' ∧ Only b w w'
theorem cells3 (w : World) (x0 x1 x2 : Int) (t : TypeId) : ∀ j, j < 3 → ∃ v : Int, (w.alloc (.cells #[.int .i64 x0, .int .i64 x1, .int .i64 x2] t)).cell? ⟨w.heap.size, j, none⟩ = some (.int .i64 v) ∧ AnyI v := by
  intro j hj
  rcases j with _ | _ | _ | j
  · exact ⟨x0, by simp, trivial⟩
  · exact ⟨x1, by simp, trivial⟩
  · exact ⟨x2, by simp, trivial⟩
  · omega
theorem cells4 (w : World) (x0 x1 x2 x3 : Int) (t : TypeId) : ∀ j, j < 4 → ∃ v : Int, (w.alloc (.cells #[.int .i64 x0, .int .i64 x1, .int .i64 x2, .int .i64 x3] t)).cell? ⟨w.heap.size, j, none⟩ = some (.int .i64 v) ∧ AnyI v := by
  intro j hj
  rcases j with _ | _ | _ | _ | j
  · exact ⟨x0, by simp, trivial⟩
  · exact ⟨x1, by simp, trivial⟩
  · exact ⟨x2, by simp, trivial⟩
  · exact ⟨x3, by simp, trivial⟩
  · omega
/-- Two blocks of one's own: the answer's, as it was laid, and a token's. -/
structure Two (w : World) (B T : Nat) (t : Tok) : Prop where
  lb : B < w.heap.size
  lt : T < w.heap.size
  p0 : w.cell? ⟨B, 0, none⟩ = some (.int .i64 0)
  p1 : w.cell? ⟨B, 1, none⟩ = some (.int .i64 0)
  p2 : w.cell? ⟨B, 2, none⟩ = some (.string ⟨#[]⟩)
  pf : ∀ o, w.frozen? ⟨B, o, none⟩ = false
  t0 : w.cell? ⟨T, 0, none⟩ = some (.int .i64 t.kind)
  t1 : w.cell? ⟨T, 1, none⟩ = some (.int .i64 t.num)
  t2 : w.cell? ⟨T, 2, none⟩ = some (.string t.name)
  tf : ∀ o, w.frozen? ⟨T, o, none⟩ = false
theorem Two.only {w w' : World} {B T b : Nat} {t : Tok} (h : Two w B T t) (o : Only b w w') (hB : B ≠ b) (hT : T ≠ b) : Two w' B T t := by
  have cB : ∀ j, w'.cell? ⟨B, j, none⟩ = w.cell? ⟨B, j, none⟩ := fun j => o.cell (p := ⟨B, j, none⟩) h.lb hB
  have cT : ∀ j, w'.cell? ⟨T, j, none⟩ = w.cell? ⟨T, j, none⟩ := fun j => o.cell (p := ⟨T, j, none⟩) h.lt hT
  have fB : ∀ j, w'.frozen? ⟨B, j, none⟩ = w.frozen? ⟨B, j, none⟩ := fun j => o.frozen (p := ⟨B, j, none⟩) h.lb hB
  have fT : ∀ j, w'.frozen? ⟨T, j, none⟩ = w.frozen? ⟨T, j, none⟩ := fun j => o.frozen (p := ⟨T, j, none⟩) h.lt hT
  exact ⟨Nat.lt_of_lt_of_le h.lb o.size, Nat.lt_of_lt_of_le h.lt o.size, (cB 0).trans h.p0, (cB 1).trans h.p1, (cB 2).trans h.p2, fun j => (fB j).trans (h.pf j), (cT 0).trans h.t0, (cT 1).trans h.t1, (cT 2).trans h.t2, fun j => (fT j).trans (h.tf j)⟩
theorem Two.alloc {w : World} {B T : Nat} {t : Tok} (h : Two w B T t) (o : Obj) : Two (w.alloc o) B T t :=
  h.only (b := w.heap.size) ((Only.refl _ w).alloc o) (Nat.ne_of_lt h.lb) (Nat.ne_of_lt h.lt)
end Go.Proofs.YtoljpgpkeploiaaGreatDoor
/-
  The model's draws of chapter 3: l3Leaf: it answers a datum, counts on, and turns nothing that was there but the count.
-/
namespace Go.Proofs.YtoljpgpkeploiaaGreatDoor
open Go.RowKit Go.Extern.Stop Go.Stop Go.Extern Num Go.Lib

/-- What a draw of a datum comes to. -/
def DatRes (w : World) (b : Nat) (ca : Option Addr) (len cap : Nat) (k : Int) (K : Nat) (e : Ending) (w' : World) : Prop :=
  ∃ (t : Dat) (k' : Int), e = .returned t.val ∧ t.name.size ≤ 20 ∧ k ≤ k' ∧ k' ≤ k + K ∧ SrcAt w' b ca len cap k' ∧ Only b w w'
set_option maxRecDepth 100000 in
set_option maxHeartbeats 2000000 in
theorem leaf_any (w : World) (b : Nat) (ca : Option Addr) (len cap : Nat) (k pa : Int) (h : SrcAt w b ca len cap k) (hmax : (len : Int) ≤ 9223372036854775807) (k0 : 0 ≤ k) (k1 : k ≤ 999999999900) :
    Calls Tryz.prog 41 #[.pointer (some ⟨b, 0, none⟩), .int .i64 pa] w fun e w' => DatRes w b ca len cap k 4 e w' := by
  have hcode := h.code
  have hlt := h.lt
  go_enter Tryz.func41, Tryz.ntmps41
  go_wp2_with fail
  refine (next_any _ b ca len cap k _ (h.alloc _) hmax k0 (by omega)).mono ?_
  rintro e w1 ⟨r, q, rfl, r0, r1, hw1⟩
  rw [if_neg (by omega)] at r1
  have h1 : SrcAt w1 b ca len cap (k + 1) := by rw [hw1]; exact (h.alloc _).next q
  have o1 : Only b w w1 := by rw [hw1]; exact ((Only.refl b w).alloc _).trans (only_next _ b k q)
  have hs1 : w.heap.size < w1.heap.size := by rw [hw1]; simp [World.drewN]
  have hold : ∀ o, w1.cell? ⟨w.heap.size, o, none⟩ = (w.alloc (.cells #[.int .i64 0, .int .i64 0, .int .i64 0, .string ⟨#[]⟩] 61)).cell? ⟨w.heap.size, o, none⟩ := fun o => by
    rw [hw1]; exact World.cell?_of_block (Below.heap_setCell _ ⟨b, 1, none⟩ _ w.heap.size (Nat.ne_of_gt hlt))
  have hfz : ∀ o, w1.frozen? ⟨w.heap.size, o, none⟩ = (w.alloc (.cells #[.int .i64 0, .int .i64 0, .int .i64 0, .string ⟨#[]⟩] 61)).frozen? ⟨w.heap.size, o, none⟩ := fun o => by
    rw [hw1]; exact World.frozen?_of_block (Below.heap_setCell _ ⟨b, 1, none⟩ _ w.heap.size (Nat.ne_of_gt hlt))
  clear hw1
  have bne : b ≠ w.heap.size := Nat.ne_of_lt hlt
  have cne : ∀ cb co, ca = some ⟨cb, co, none⟩ → 0 < len → cb ≠ w.heap.size := fun cb co e hl => Nat.ne_of_lt (hcode cb co e hl)
  have HC : Hid (∀ cb co, ca = some ⟨cb, co, none⟩ → 0 < len → cb ≠ w.heap.size) := cne
  clear cne hcode h
  by_cases c0 : r = 0
  · subst c0
    go_wp2_with fail
    refine (next_any _ b ca len cap (k + 1) _ h1 hmax (by omega) (by omega)).mono ?_
    rintro e w2 ⟨v, q2, rfl, -, -, hw2⟩
    have h2 : SrcAt w2 b ca len cap (k + 1 + 1) := by rw [hw2]; exact h1.next q2
    have o2 : Only b w1 w2 := by rw [hw2]; exact only_next w1 b (k + 1) q2
    clear hw2
    have hold2 : ∀ o, w2.cell? ⟨w.heap.size, o, none⟩ = (w.alloc (.cells #[.int .i64 0, .int .i64 0, .int .i64 0, .string ⟨#[]⟩] 61)).cell? ⟨w.heap.size, o, none⟩ := fun o => by
      rw [o2.cell (p := ⟨w.heap.size, o, none⟩) hs1 (Ne.symm bne)]; exact hold o
    have hfz2 : ∀ o, w2.frozen? ⟨w.heap.size, o, none⟩ = (w.alloc (.cells #[.int .i64 0, .int .i64 0, .int .i64 0, .string ⟨#[]⟩] 61)).frozen? ⟨w.heap.size, o, none⟩ := fun o => by
      rw [o2.frozen (p := ⟨w.heap.size, o, none⟩) hs1 (Ne.symm bne)]; exact hfz o
    have o12 : Only b w w2 := o1.trans o2
    clear o1 o2 h1 hold hfz
    go_wp2
    refine bodyPost_ret (v := (⟨1, pa, v, ⟨#[]⟩⟩ : Dat).val) (by simp [results, Tryz.results41, go_sem, hold2]) rfl ⟨⟨1, pa, v, ⟨#[]⟩⟩, k + 1 + 1, rfl, Nat.zero_le _, by omega, by omega, ?_, ?_⟩
    · repeat (first | exact h2 | refine SrcAt.put ?_ _ _ _ bne HC.out)
    · repeat (first | exact o12 | refine Only.put ?_ (Nat.le_refl _) _)
  have d0 : (r == 0) = false := by simpa using c0
  by_cases c1 : r = 1
  · subst c1
    go_wp2_with fail
    refine (next_any _ b ca len cap (k + 1) _ h1 hmax (by omega) (by omega)).mono ?_
    rintro e w2 ⟨v, q2, rfl, -, -, hw2⟩
    have h2 : SrcAt w2 b ca len cap (k + 1 + 1) := by rw [hw2]; exact h1.next q2
    have o2 : Only b w1 w2 := by rw [hw2]; exact only_next w1 b (k + 1) q2
    clear hw2
    have hold2 : ∀ o, w2.cell? ⟨w.heap.size, o, none⟩ = (w.alloc (.cells #[.int .i64 0, .int .i64 0, .int .i64 0, .string ⟨#[]⟩] 61)).cell? ⟨w.heap.size, o, none⟩ := fun o => by
      rw [o2.cell (p := ⟨w.heap.size, o, none⟩) hs1 (Ne.symm bne)]; exact hold o
    have hfz2 : ∀ o, w2.frozen? ⟨w.heap.size, o, none⟩ = (w.alloc (.cells #[.int .i64 0, .int .i64 0, .int .i64 0, .string ⟨#[]⟩] 61)).frozen? ⟨w.heap.size, o, none⟩ := fun o => by
      rw [o2.frozen (p := ⟨w.heap.size, o, none⟩) hs1 (Ne.symm bne)]; exact hfz o
    have o12 : Only b w w2 := o1.trans o2
    clear o1 o2 h1 hold hfz
    go_wp2
    refine bodyPost_ret (v := (⟨2, pa, v, ⟨#[]⟩⟩ : Dat).val) (by simp [results, Tryz.results41, go_sem, hold2]) rfl ⟨⟨2, pa, v, ⟨#[]⟩⟩, k + 1 + 1, rfl, Nat.zero_le _, by omega, by omega, ?_, ?_⟩
    · repeat (first | exact h2 | refine SrcAt.put ?_ _ _ _ bne HC.out)
    · repeat (first | exact o12 | refine Only.put ?_ (Nat.le_refl _) _)
  have d1 : (r == 1) = false := by simpa using c1
  go_wp2_with fail
  refine (name_any _ b ca len cap (k + 1) h1 hmax (by omega) (by omega)).mono ?_
  rintro e w2 ⟨s, k2, rfl, hz, k21, k22, h2, o2⟩
  have hold2 : ∀ o, w2.cell? ⟨w.heap.size, o, none⟩ = (w.alloc (.cells #[.int .i64 0, .int .i64 0, .int .i64 0, .string ⟨#[]⟩] 61)).cell? ⟨w.heap.size, o, none⟩ := fun o => by
    rw [o2.cell (p := ⟨w.heap.size, o, none⟩) hs1 (Ne.symm bne)]; exact hold o
  have hfz2 : ∀ o, w2.frozen? ⟨w.heap.size, o, none⟩ = (w.alloc (.cells #[.int .i64 0, .int .i64 0, .int .i64 0, .string ⟨#[]⟩] 61)).frozen? ⟨w.heap.size, o, none⟩ := fun o => by
    rw [o2.frozen (p := ⟨w.heap.size, o, none⟩) hs1 (Ne.symm bne)]; exact hfz o
  have o12 : Only b w w2 := o1.trans o2
  clear o1 o2 h1 hold hfz
  go_wp2
  refine bodyPost_ret (v := (⟨3, pa, 0, s⟩ : Dat).val) (by simp [results, Tryz.results41, go_sem, hold2]) rfl ⟨⟨3, pa, 0, s⟩, k2, rfl, hz, by omega, by omega, ?_, ?_⟩
  · repeat (first | exact h2 | refine SrcAt.put ?_ _ _ _ bne HC.out)
  · repeat (first | exact o12 | refine Only.put ?_ (Nat.le_refl _) _)
end Go.Proofs.YtoljpgpkeploiaaGreatDoor
/-
  The model's draws of lists of tokens and of texts (DrawTokensText, DrawTokensOf): each answers, in new memory, and turns nothing that was there.
-/
namespace Go.Proofs.YtoljpgpkeploiaaGreatDoor
open Go.RowKit Go.Extern.Stop Go.Stop Go.Extern Num Go.Lib

theorem own_only {w w' : World} {base b : Nat} {e : TypeId} {size n : Nat} {v : Value} {xs : List Value} (h : w.ownsRow base e size v n xs) (o : Only b w w') (hb : b < base) : w'.ownsRow base e size v n xs := by
  refine ⟨h.1, ?_⟩
  rcases h.2 with hn | ⟨g, cap, cur, rfl, hbg, hgg, rest⟩
  · exact .inl hn
  · refine .inr ⟨g, cap, cur, rfl, hbg, ?_, rest⟩
    rw [o.block g (Array.getElem?_eq_some_iff.1 hgg).1 (by omega)]; exact hgg
theorem own_low {w : World} {base base' : Nat} {e : TypeId} {size n : Nat} {v : Value} {xs : List Value} (h : w.ownsRow base e size v n xs) (hb : base' ≤ base) : w.ownsRow base' e size v n xs := by
  refine ⟨h.1, ?_⟩
  rcases h.2 with hn | ⟨g, cap, cur, rfl, hbg, rest⟩
  · exact .inl hn
  · exact .inr ⟨g, cap, cur, rfl, by omega, rest⟩
theorem made3 (a b c : Value) (t : Tok) (h : t.cells = [a, b, c]) : ∀ n, ((List.range (n * 3)).map fun i => (#[a, b, c] : Array Value)[i % 3]!) = cellsOf (List.replicate n t)
  | 0 => rfl
  | n + 1 => by
    have e0 : n * 3 % 3 = 0 := by omega
    have e1 : (n * 3 + 1) % 3 = 1 := by omega
    have e2 : (n * 3 + 1 + 1) % 3 = 2 := by omega
    rw [show (n + 1) * 3 = n * 3 + 1 + 1 + 1 by omega, List.range_succ, List.range_succ, List.range_succ, List.replicate_succ', cellsOf_append, ← made3 a b c t h n]
    simp [e0, e1, e2, cellsOf, h]
theorem make121 (w : World) : (Instr.makeSlice 48 (.int .i64 121) (.int .i64 121)).run Tryz.prog w = .ok (.slice (some ⟨w.heap.size, 0, none⟩) 121 121) (w.alloc (.cells (madeCells #[.int .i64 0, .int .i64 0, .string ⟨#[]⟩] 363) 71)) := by
  obtain ⟨i0, hi, hz0, hz1, hz2⟩ := info_parts tokInfo
  have := run_make (P := Tryz.prog) w 48 71 i0 _ Tryz.underlying48 hi hz0 .i64 .i64 121 121 (by omega) (by omega) (by rw [hz2]; omega) (by omega)
  rw [this, hz1]
  simp [Value.cells]
theorem own121 (w : World) : (w.alloc (.cells (madeCells #[.int .i64 0, .int .i64 0, .string ⟨#[]⟩] 363) 71)).ownsRow w.heap.size 71 3 (.slice (some ⟨w.heap.size, 0, none⟩) 121 121) 121 (cellsOf (List.replicate 121 ⟨0, 0, ⟨#[]⟩⟩)) := by
  have e : (madeCells #[.int .i64 0, .int .i64 0, .string ⟨#[]⟩] 363).toList = cellsOf (List.replicate 121 ⟨0, 0, ⟨#[]⟩⟩) := by
    have := made3 (.int .i64 0) (.int .i64 0) (.string ⟨#[]⟩) ⟨0, 0, ⟨#[]⟩⟩ rfl 121
    rw [← this]
    simp [madeCells]
  refine ⟨by rw [cellsOf_length]; simp, .inr ⟨w.heap.size, 121, _, rfl, Nat.le_refl _, heap_alloc_new w _, Nat.le_refl _, by unfold maxLen; omega, by simp [madeCells], ?_⟩⟩
  rw [e, List.take_of_length_le]
  rw [cellsOf_length]; simp
/-- What a draw of a list of tokens comes to. -/
def ListRes (w : World) (e : Ending) (w' : World) : Prop :=
  ∃ (g c : Nat) (l : List Tok), e = .returned (.slice (some ⟨g, 0, none⟩) l.length c) ∧ w'.ownsRow w.heap.size 71 3 (.slice (some ⟨g, 0, none⟩) l.length c) l.length (cellsOf l) ∧ l.length ≤ 121 ∧ (∀ (k : Nat) (h : k < l.length), l[k].name.size ≤ 1048576) ∧ Below w.heap.size w w'
theorem list121 (w w3 : World) (hb : Below w.heap.size w w3) : ListRes w (.returned (.slice (some ⟨w3.heap.size, 0, none⟩) 121 121)) (w3.alloc (.cells (madeCells #[.int .i64 0, .int .i64 0, .string ⟨#[]⟩] 363) 71)) := by
  have hl : (List.replicate 121 (⟨0, 0, ⟨#[]⟩⟩ : Tok)).length = 121 := List.length_replicate
  refine ⟨w3.heap.size, 121, List.replicate 121 ⟨0, 0, ⟨#[]⟩⟩, by rw [hl], ?_, by rw [hl]; exact Nat.le_refl _, fun k hk => ?_, hb.alloc hb.size _⟩
  · rw [hl]; exact own_low (own121 w3) hb.size
  · rw [List.getElem_replicate]; exact Nat.zero_le _
def Names (l : List Tok) : Prop := ∀ t ∈ l, t.name.size ≤ 20
theorem Names.at {l : List Tok} (h : Names l) : ∀ (k : Nat) (hk : k < l.length), l[k].name.size ≤ 1048576 := fun k hk => Nat.le_trans (h _ (List.getElem_mem hk)) (by omega)
theorem Names.next {l : List Tok} (h : Names l) {t : Tok} (ht : t.name.size ≤ 20) : Names (l ++ [t]) := by
  intro x hx
  rcases List.mem_append.1 hx with hx | hx
  · exact h x hx
  · rw [List.mem_singleton.1 hx]; exact ht
/-- Behind an append of a drawn token. -/
theorem draw_next {w W w1 : World} {B b g c g' c' len cap : Nat} {ca : Option Addr} {cnt : Int} {l : List Tok} {t : Tok}
    (hown : W.ownsRow B 71 3 (.slice (some ⟨g, 0, none⟩) l.length c) l.length (cellsOf l)) (hs : SrcAt W b ca len cap cnt) (hb : Below w.heap.size w W) (hB : w.heap.size ≤ B) (hbB : b < B) (hC : ∀ cb co, ca = some ⟨cb, co, none⟩ → 0 < len → cb < B)
    (hown' : w1.ownsRow B 71 3 (.slice (some ⟨g', 0, none⟩) (l.length + 1) c') (l.length + 1) (cellsOf l ++ [.int .i64 t.kind, .int .i64 t.num, .string t.name])) (hgrow : W.grownBy w1 (Value.slice (some ⟨g, 0, none⟩) l.length c).ownBlock) :
    w1.ownsRow B 71 3 (.slice (some ⟨g', 0, none⟩) (l ++ [t]).length c') (l ++ [t]).length (cellsOf (l ++ [t])) ∧ SrcAt w1 b ca len cap cnt ∧ Below w.heap.size w w1 := by
  have hg := (hown.lt g rfl).1
  refine ⟨?_, hs.keep g (fun i hi hn => hgrow.block i hi (by intro e; apply hn; have := Option.some.inj e; simp at this; omega)) (by omega) (fun cb co e hl => by have := hC cb co e hl; omega), hb.grown hgrow hb.size (fun j hj => by have := (hown.lt j hj).1; omega)⟩
  rw [cellsOf_append, List.length_append]
  exact hown'
theorem byteInfo : (Tryz.prog.info? 5).map (fun i => (i.zero, i.size, i.bytes)) = some (some (.int .u8 0), 1, 1) := by kernel_rfl
theorem make401 (w : World) : (Instr.makeSlice 22 (.int .i64 401) (.int .i64 401)).run Tryz.prog w = .ok (.slice (some ⟨w.heap.size, 0, none⟩) 401 401) (w.alloc (.cells (madeCells #[.int .u8 0] 401) 5)) := by
  obtain ⟨i0, hi, hz0, hz1, hz2⟩ := info_parts byteInfo
  have := run_make (P := Tryz.prog) w 22 5 i0 _ Tryz.underlying22 hi hz0 .i64 .i64 401 401 (by omega) (by omega) (by rw [hz2]; omega) (by omega)
  rw [this, hz1]
  simp [Value.cells]
theorem made1 (z : Value) (n i : Nat) (hi : i < n) : (madeCells #[z] n)[i]? = some z := by simp [madeCells, hi, Nat.mod_one]
theorem rep_getD (n i : Nat) : (List.replicate n (0 : Int)).getD i 0 = 0 := by
  by_cases h : i < n
  · simp [List.getD, h]
  · simp [List.getD, h]
theorem conv401 (w : World) : (convert 22 9 (.slice (some ⟨w.heap.size, 0, none⟩) 401 401)).run Tryz.prog (w.alloc (.cells (madeCells #[.int .u8 0] 401) 5)) = .ok (.string (strOfNums (List.replicate 401 0))) (w.alloc (.cells (madeCells #[.int .u8 0] 401) 5)) := by
  refine run_convert_bytes_arg _ 22 5 Tryz.underlying22 Tryz.underlying5 w.heap.size 0 401 401 (List.replicate 401 0) List.length_replicate (fun i hi => ?_) 9 Tryz.underlying9
  rw [Nat.zero_add, cell_of_row _ w.heap.size i _ 5 (0, 0) (heap_alloc_new w _), made1 _ _ _ hi, rep_getD]
theorem nums_size (l : List Int) : (strOfNums l).size = l.length := by simp [strOfNums, ByteArray.size]
theorem ints_in (w : World) (L : List Int) (t : TypeId) (Pr : Int → Prop) (hP : ∀ x ∈ L, Pr x) (j : Nat) (hj : j < L.length) :
    ∃ v : Int, (w.alloc (.cells (L.map (Value.int .i64)).toArray t)).cell? ⟨w.heap.size, j, none⟩ = some (.int .i64 v) ∧ Pr v := by
  refine ⟨L[j], ?_, hP _ (List.getElem_mem hj)⟩
  rw [cell_of_row _ w.heap.size j _ t (0, 0) (heap_alloc_new w _)]
  simp [hj]
def In16 (v : Int) : Prop := 0 ≤ v ∧ v < 16
/-- What a draw of a longer text comes to. -/
def LongRes (w : World) (e : Ending) (w' : World) : Prop := ∃ s : ByteArray, e = .returned (.string s) ∧ s.size ≤ 1000 ∧ Below w.heap.size w w'
end Go.Proofs.YtoljpgpkeploiaaGreatDoor
/-
  The model's l3Make: data drawn behind others in a row of one's own; it counts on, and turns nothing that was there ahead of the source.
-/
namespace Go.Proofs.YtoljpgpkeploiaaGreatDoor
open Go.RowKit Go.Extern.Stop Go.Stop Go.Extern Num Go.Lib

def NamesD (l : List Dat) : Prop := ∀ t ∈ l, t.name.size ≤ 20
theorem NamesD.at {l : List Dat} (h : NamesD l) : ∀ (k : Nat) (hk : k < l.length), l[k].name.size ≤ 1048576 := fun k hk => Nat.le_trans (h _ (List.getElem_mem hk)) (by omega)
theorem NamesD.next {l : List Dat} (h : NamesD l) {t : Dat} (ht : t.name.size ≤ 20) : NamesD (l ++ [t]) := by
  intro x hx
  rcases List.mem_append.1 hx with hx | hx
  · exact h x hx
  · rw [List.mem_singleton.1 hx]; exact ht
/-- How many data, and how many draws, at so many levels. -/
def mkA : Nat → Nat
  | 0 => 1
  | d + 1 => 1 + 3 * mkA d
def mkK : Nat → Nat
  | 0 => 10
  | d + 1 => 10 + 3 * mkK d
theorem mkA_pos (d : Nat) : 1 ≤ mkA d := by cases d <;> simp [mkA]
theorem mkK_ten (d : Nat) : 10 ≤ mkK d := by cases d <;> simp [mkK]
theorem below_grownD {n₀ : Nat} {W W' : World} {row : Option Nat} (hg : W.grownBy W' row) (hn : n₀ ≤ W.heap.size) (hr : ∀ r, row = some r → n₀ ≤ r) : Below n₀ W W' :=
  ⟨hg.os, hg.tape, hg.output, hg.size, fun i hi => hg.block i (by omega) (fun e => by have := hr i e.symm; omega)⟩
/-- What lies in a row of one's own behind an append. -/
theorem dat_next {W w1 : World} {B b g' c' len cap : Nat} {ca : Option Addr} {cnt : Int} {v : Value} {l : List Dat} {t : Dat}
    (hown : W.ownsRow B 61 4 v l.length (cellsD l)) (hs : SrcAt W b ca len cap cnt) (hbB : b < B) (hC : ∀ cb co, ca = some ⟨cb, co, none⟩ → 0 < len → cb < B)
    (hown' : w1.ownsRow B 61 4 (.slice (some ⟨g', 0, none⟩) (l.length + 1) c') (l.length + 1) (cellsD l ++ [.int .i64 t.kind, .int .i64 t.parent, .int .i64 t.num, .string t.name])) (hgrow : W.grownBy w1 v.ownBlock) :
    w1.ownsRow B 61 4 (.slice (some ⟨g', 0, none⟩) (l ++ [t]).length c') (l ++ [t]).length (cellsD (l ++ [t])) ∧ SrcAt w1 b ca len cap cnt ∧ Below b W w1 := by
  have hbl := hs.lt
  refine ⟨?_, ?_, (below_grownD hgrow (by omega) (fun r e => by have := (hown.lt r e).1; omega))⟩
  · rw [cellsD_append, List.length_append]
    exact hown'
  · cases hv : v.ownBlock with
    | none => exact hs.keep W.heap.size (fun i hi _ => hgrow.block i hi (by rw [hv]; simp)) (by omega) (fun cb co e hl => Nat.ne_of_lt (hs.code cb co e hl))
    | some g =>
      have hg := (hown.lt g hv).1
      exact hs.keep g (fun i hi hn => hgrow.block i hi (by rw [hv]; intro e; exact hn (Option.some.inj e))) (by omega) (fun cb co e hl => by have := hC cb co e hl; omega)
/-- What a draw of data comes to. -/
def MakeRes (w : World) (B b : Nat) (ca : Option Addr) (len cap : Nat) (k : Int) (n0 A K : Nat) (e : Ending) (w' : World) : Prop :=
  ∃ (ao : Option Addr) (c : Nat) (l : List Dat) (k' : Int), e = .returned (.slice ao l.length c) ∧ w'.ownsRow B 61 4 (.slice ao l.length c) l.length (cellsD l) ∧ NamesD l ∧ 1 ≤ l.length ∧ l.length ≤ n0 + A ∧ k ≤ k' ∧ k' ≤ k + K ∧ SrcAt w' b ca len cap k' ∧ Below b w w'
set_option maxRecDepth 100000 in
set_option maxHeartbeats 4000000 in
theorem make_any (B b : Nat) (ca : Option Addr) (len cap : Nat) (hbB : b < B) (hC : ∀ cb co, ca = some ⟨cb, co, none⟩ → 0 < len → cb < B) (hmax : (len : Int) ≤ 9223372036854775807) :
    ∀ (d : Nat) (w : World) (k pa : Int) (ao : Option Addr) (c : Nat) (l : List Dat), w.ownsRow B 61 4 (.slice ao l.length c) l.length (cellsD l) → NamesD l → l.length + mkA d ≤ 1000 → SrcAt w b ca len cap k → 0 ≤ k → k + mkK d ≤ 999999990000 → d ≤ 100 → B ≤ w.heap.size →
      Calls Tryz.prog 20 #[.pointer (some ⟨b, 0, none⟩), .slice ao l.length c, .int .i64 pa, .int .i64 (d : Int)] w fun e w' => MakeRes w B b ca len cap k l.length (mkA d) (mkK d) e w' := by
  obtain ⟨i0, hi, hz0, hz1, hz2⟩ := info_parts infoD
  have HC : Hid (∀ cb co, ca = some ⟨cb, co, none⟩ → 0 < len → cb < B) := hC
  clear hC
  intro d
  induction d with
  | zero =>
    intro w k pa ao c l hown hN hl hs k0 kK _ hBw
    have HO : Hid (w.ownsRow B 61 4 (.slice ao l.length c) l.length (cellsD l)) := hown
    have HN : Hid (NamesD l) := hN
    have HS : Hid (SrcAt w b ca len cap k) := hs
    have HB : Hid (Below b w w) := Below.refl _ _
    simp only [mkA, mkK] at hl kK
    clear hown hN hs
    go_enter Tryz.func20, Tryz.ntmps20
    go_wp2_with fail
    refine (leaf_any _ b ca len cap k pa HS.out hmax (by omega) (by omega)).mono ?_
    rintro e w3 ⟨t, k3, rfl, hz, k31, k32, h3, o3⟩
    have HS3 : Hid (SrcAt w3 b ca len cap k3) := h3
    have HO3 : Hid (w3.ownsRow B 61 4 (.slice ao l.length c) l.length (cellsD l)) := own_only HO.out o3 hbB
    have HB3 : Hid (Below b w w3) := HB.out.trans (o3.below (Nat.le_refl _) (Nat.le_of_lt HS.out.lt))
    have HT : Hid (t.name.size ≤ 20) := hz
    have hz3 : B ≤ w3.heap.size := Nat.le_trans hBw o3.size
    clear h3 o3 hz
    go_wp2_with (at_builtin; refine wpList_append_lies _ rfl (.tmp 22) (.tmp 26) 25 rfl B 61 i0 _ 4 40 Tryz.underlying25 hi hz0 hz1 hz2 rfl (by decide) _ l.length (cellsD l) rfl (HO3.out.alloc _) ⟨_, 0, none⟩ 1 1 [.int .i64 t.kind, .int .i64 t.parent, .int .i64 t.num, .string t.name] rfl rfl ?c1 ?c2 (by decide) ?c3 ?c4 ?c5 _ rfl ?_)
    case c1 => exact World.news_of_block (cs := #[.int .i64 t.kind, .int .i64 t.parent, .int .i64 t.num, .string t.name]) (t := 61) (fr := (0, 0)) (heap_new' _ _ _ (by simp))
    case c2 => intro u hu; simp at hu; rcases hu with rfl | rfl | rfl | rfl <;> rfl
    case c3 => unfold maxLen; omega
    case c4 => omega
    case c5 => simp; omega
    intro g' cap' w4 hown4 hgrow4 _ _
    obtain ⟨R1, R2, R3⟩ := dat_next (t := t) (HO3.out.alloc _) (HS3.out.alloc _) hbB HC.out hown4 hgrow4
    have HR1 : Hid (w4.ownsRow B 61 4 (.slice (some ⟨g', 0, none⟩) (l ++ [t]).length cap') (l ++ [t]).length (cellsD (l ++ [t]))) := R1
    have HR2 : Hid (SrcAt w4 b ca len cap k3) := R2
    have HR3 : Hid (Below b w w4) := (HB3.out.alloc (Nat.le_of_lt HS3.out.lt) _).trans R3
    clear hown4 hgrow4 R1 R2 R3
    go_wp2
    go_ret
    exact ⟨some ⟨g', 0, none⟩, cap', l ++ [t], k3, by simp, HR1.out, HN.out.next HT.out, by simp, by simp [mkA] <;> omega, by omega, by simp only [mkK]; omega, HR2.out, HR3.out⟩
  | succ d ih =>
    intro w k pa ao c l hown hN hl hs k0 kK hd hBw
    have HO : Hid (w.ownsRow B 61 4 (.slice ao l.length c) l.length (cellsD l)) := hown
    have HN : Hid (NamesD l) := hN
    have HS : Hid (SrcAt w b ca len cap k) := hs
    have HB : Hid (Below b w w) := Below.refl _ _
    have hbw := hs.lt
    have hA := mkA_pos d
    have hK := mkK_ten d
    simp only [mkA, mkK] at hl kK
    have IH : Hid (∀ (w : World) (k pa : Int) (ao : Option Addr) (c : Nat) (l : List Dat), w.ownsRow B 61 4 (.slice ao l.length c) l.length (cellsD l) → NamesD l → l.length + mkA d ≤ 1000 → SrcAt w b ca len cap k → 0 ≤ k → k + mkK d ≤ 999999990000 → d ≤ 100 → B ≤ w.heap.size →
      Calls Tryz.prog 20 #[.pointer (some ⟨b, 0, none⟩), .slice ao l.length c, .int .i64 pa, .int .i64 (d : Int)] w fun e w' => MakeRes w B b ca len cap k l.length (mkA d) (mkK d) e w') := ih
    clear hown hN hs ih
    have d0 : (((d + 1 : Nat) : Int) == 0) = false := beq_false_of_ne (by omega)
    by_cases h30 : (30 : Int) < (l.length : Int)
    · go_enter Tryz.func20, Tryz.ntmps20
      go_wp2_with fail
      refine (leaf_any _ b ca len cap k pa HS.out hmax (by omega) (by omega)).mono ?_
      rintro e w3 ⟨t, k3, rfl, hz, k31, k32, h3, o3⟩
      have HS3 : Hid (SrcAt w3 b ca len cap k3) := h3
      have HO3 : Hid (w3.ownsRow B 61 4 (.slice ao l.length c) l.length (cellsD l)) := own_only HO.out o3 hbB
      have HB3 : Hid (Below b w w3) := HB.out.trans (o3.below (Nat.le_refl _) (Nat.le_of_lt HS.out.lt))
      have HT : Hid (t.name.size ≤ 20) := hz
      have hz3 : B ≤ w3.heap.size := Nat.le_trans hBw o3.size
      clear h3 o3 hz
      go_wp2_with (at_builtin; refine wpList_append_lies _ rfl (.tmp 22) (.tmp 26) 25 rfl B 61 i0 _ 4 40 Tryz.underlying25 hi hz0 hz1 hz2 rfl (by decide) _ l.length (cellsD l) rfl (HO3.out.alloc _) ⟨_, 0, none⟩ 1 1 [.int .i64 t.kind, .int .i64 t.parent, .int .i64 t.num, .string t.name] rfl rfl ?c1 ?c2 (by decide) ?c3 ?c4 ?c5 _ rfl ?_)
      case c1 => exact World.news_of_block (cs := #[.int .i64 t.kind, .int .i64 t.parent, .int .i64 t.num, .string t.name]) (t := 61) (fr := (0, 0)) (heap_new' _ _ _ (by simp))
      case c2 => intro u hu; simp at hu; rcases hu with rfl | rfl | rfl | rfl <;> rfl
      case c3 => unfold maxLen; omega
      case c4 => omega
      case c5 => simp; omega
      intro g' cap' w4 hown4 hgrow4 _ _
      obtain ⟨R1, R2, R3⟩ := dat_next (t := t) (HO3.out.alloc _) (HS3.out.alloc _) hbB HC.out hown4 hgrow4
      have HR1 : Hid (w4.ownsRow B 61 4 (.slice (some ⟨g', 0, none⟩) (l ++ [t]).length cap') (l ++ [t]).length (cellsD (l ++ [t]))) := R1
      have HR2 : Hid (SrcAt w4 b ca len cap k3) := R2
      have HR3 : Hid (Below b w w4) := (HB3.out.alloc (Nat.le_of_lt HS3.out.lt) _).trans R3
      clear hown4 hgrow4 R1 R2 R3
      go_wp2
      go_ret
      exact ⟨some ⟨g', 0, none⟩, cap', l ++ [t], k3, by simp, HR1.out, HN.out.next HT.out, by simp, by simp [mkA] <;> omega, by omega, by simp only [mkK]; omega, HR2.out, HR3.out⟩
    · have h30' : (l.length : Int) ≤ 30 := by omega
      go_enter Tryz.func20, Tryz.ntmps20
      go_wp2_with fail
      refine (chance_any _ b ca len cap k _ HS.out hmax k0 (by omega)).mono ?_
      rintro e w1 ⟨ch, rfl, h1, o1⟩
      have HS1 : Hid (SrcAt w1 b ca len cap (k + 1)) := h1
      have HO1 : Hid (w1.ownsRow B 61 4 (.slice ao l.length c) l.length (cellsD l)) := own_only HO.out o1 hbB
      have HB1 : Hid (Below b w w1) := o1.below (Nat.le_refl _) (by omega)
      have hBw1 : B ≤ w1.heap.size := Nat.le_trans hBw o1.size
      clear h1 o1 HS HO HB
      cases ch with
      | true =>
        go_wp2_with fail
        refine (leaf_any _ b ca len cap (k + 1) pa HS1.out hmax (by omega) (by omega)).mono ?_
        rintro e w3 ⟨t, k3, rfl, hz, k31, k32, h3, o3⟩
        have HS3 : Hid (SrcAt w3 b ca len cap k3) := h3
        have HO3 : Hid (w3.ownsRow B 61 4 (.slice ao l.length c) l.length (cellsD l)) := own_only HO1.out o3 hbB
        have HB3 : Hid (Below b w w3) := HB1.out.trans (o3.below (Nat.le_refl _) (Nat.le_of_lt HS1.out.lt))
        have HT : Hid (t.name.size ≤ 20) := hz
        have hz3 : B ≤ w3.heap.size := Nat.le_trans hBw1 o3.size
        clear h3 o3 hz
        go_wp2_with (at_builtin; refine wpList_append_lies _ rfl (.tmp 22) (.tmp 26) 25 rfl B 61 i0 _ 4 40 Tryz.underlying25 hi hz0 hz1 hz2 rfl (by decide) _ l.length (cellsD l) rfl (HO3.out.alloc _) ⟨_, 0, none⟩ 1 1 [.int .i64 t.kind, .int .i64 t.parent, .int .i64 t.num, .string t.name] rfl rfl ?c1 ?c2 (by decide) ?c3 ?c4 ?c5 _ rfl ?_)
        case c1 => exact World.news_of_block (cs := #[.int .i64 t.kind, .int .i64 t.parent, .int .i64 t.num, .string t.name]) (t := 61) (fr := (0, 0)) (heap_new' _ _ _ (by simp))
        case c2 => intro u hu; simp at hu; rcases hu with rfl | rfl | rfl | rfl <;> rfl
        case c3 => unfold maxLen; omega
        case c4 => omega
        case c5 => simp; omega
        intro g' cap' w4 hown4 hgrow4 _ _
        obtain ⟨R1, R2, R3⟩ := dat_next (t := t) (HO3.out.alloc _) (HS3.out.alloc _) hbB HC.out hown4 hgrow4
        have HR1 : Hid (w4.ownsRow B 61 4 (.slice (some ⟨g', 0, none⟩) (l ++ [t]).length cap') (l ++ [t]).length (cellsD (l ++ [t]))) := R1
        have HR2 : Hid (SrcAt w4 b ca len cap k3) := R2
        have HR3 : Hid (Below b w w4) := (HB3.out.alloc (Nat.le_of_lt HS3.out.lt) _).trans R3
        clear hown4 hgrow4 R1 R2 R3
        go_wp2
        go_ret
        exact ⟨some ⟨g', 0, none⟩, cap', l ++ [t], k3, by simp, HR1.out, HN.out.next HT.out, by simp, by simp [mkA] <;> omega, by omega, by simp only [mkK]; omega, HR2.out, HR3.out⟩
      | false =>
        go_wp2_with (at_builtin; refine wpList_append_lies _ rfl (.tmp 30) (.tmp 33) 25 rfl B 61 i0 _ 4 40 Tryz.underlying25 hi hz0 hz1 hz2 rfl (by decide) _ l.length (cellsD l) rfl (HO1.out.alloc _) ⟨_, 0, none⟩ 1 1 [.int .i64 4, .int .i64 pa, .int .i64 0, .string ⟨#[]⟩] rfl rfl ?c1 ?c2 (by decide) ?c3 ?c4 ?c5 _ rfl ?_)
        case c1 => exact World.news_of_block (cs := #[.int .i64 4, .int .i64 pa, .int .i64 0, .string ⟨#[]⟩]) (t := 61) (fr := (0, 0)) (heap_new' _ _ _ (by simp))
        case c2 => intro u hu; simp at hu; rcases hu with rfl | rfl | rfl | rfl <;> rfl
        case c3 => unfold maxLen; omega
        case c4 => omega
        case c5 => simp; omega
        intro g' cap' w4 hown4 hgrow4 _ _
        obtain ⟨R1, R2, R3⟩ := dat_next (t := ⟨4, pa, 0, ⟨#[]⟩⟩) (HO1.out.alloc _) (HS1.out.alloc _) hbB HC.out hown4 hgrow4
        have HR1 : Hid (w4.ownsRow B 61 4 (.slice (some ⟨g', 0, none⟩) (l ++ [(⟨4, pa, 0, ⟨#[]⟩⟩ : Dat)]).length cap') (l ++ [(⟨4, pa, 0, ⟨#[]⟩⟩ : Dat)]).length (cellsD (l ++ [(⟨4, pa, 0, ⟨#[]⟩⟩ : Dat)]))) := R1
        have HR2 : Hid (SrcAt w4 b ca len cap (k + 1)) := R2
        have HR3 : Hid (Below b w w4) := (HB1.out.alloc (Nat.le_of_lt HS1.out.lt) _).trans R3
        have hBw4 : B ≤ w4.heap.size := by have := hgrow4.size; simp at this; omega
        clear hown4 hgrow4 R1 R2 R3
        go_wp2_with fail
        refine (next_any _ b ca len cap (k + 1) _ HR2.out hmax (by omega) (by omega)).mono ?_
        rintro e w5 ⟨r, q, rfl, r0, r1, hw5⟩
        rw [if_neg (by omega)] at r1
        have HS5 : Hid (SrcAt w5 b ca len cap (k + 1 + 1)) := by rw [hw5]; exact HR2.out.next q
        have o5 : Only b w4 w5 := by rw [hw5]; exact only_next _ b (k + 1) q
        have HO5 : Hid (w5.ownsRow B 61 4 (.slice (some ⟨g', 0, none⟩) (l ++ [(⟨4, pa, 0, ⟨#[]⟩⟩ : Dat)]).length cap') (l ++ [(⟨4, pa, 0, ⟨#[]⟩⟩ : Dat)]).length (cellsD (l ++ [(⟨4, pa, 0, ⟨#[]⟩⟩ : Dat)]))) := own_only HR1.out o5 hbB
        have HB5 : Hid (Below b w w5) := HR3.out.trans (o5.below (Nat.le_refl _) (Nat.le_of_lt HR2.out.lt))
        have hBw5 : B ≤ w5.heap.size := Nat.le_trans hBw4 o5.size
        clear hw5 o5 HR1 HR2 HR3 HS1 HO1 HB1
        obtain ⟨j0, rfl⟩ : ∃ j0 : Nat, r = (j0 : Int) := ⟨r.toNat, by omega⟩
        have hj0 : j0 ≤ 3 := by omega
        clear r0 r1
        have hlen1 : (l ++ [(⟨4, pa, 0, ⟨#[]⟩⟩ : Dat)]).length = l.length + 1 := by simp
        have HLn : Hid ((l ++ [(⟨4, pa, 0, ⟨#[]⟩⟩ : Dat)]).length = l.length + 1) := hlen1
        clear hlen1
        have HN1 : Hid (NamesD (l ++ [(⟨4, pa, 0, ⟨#[]⟩⟩ : Dat)])) := HN.out.next (Nat.zero_le _)
        have hm0 : j0 * mkA d ≤ 3 * mkA d := Nat.mul_le_mul_right _ hj0
        have hm1 : j0 * mkK d ≤ 3 * mkK d := Nat.mul_le_mul_right _ hj0
        go_wp2_with fail
        go_loopw [1, 10] (fun v i wr => ∃ (l' : List Dat) (ao' : Option Addr) (c' j : Nat) (kc : Int), j ≤ 3 ∧ i = .int .i64 (j : Int) ∧ v = .slice ao' l'.length c' ∧ Hid (wr.ownsRow B 61 4 (.slice ao' l'.length c') l'.length (cellsD l')) ∧ Hid (NamesD l') ∧ 1 ≤ l'.length ∧ l'.length + j * mkA d ≤ l.length + 1 + 3 * mkA d ∧ k ≤ kc ∧ kc + j * mkK d ≤ k + 10 + 3 * mkK d ∧ Hid (SrcAt wr b ca len cap kc) ∧ Hid (Below b w wr) ∧ B ≤ wr.heap.size) (fun _ i _ => (RowKit.intOf i).toNat)
        case atStart => exact ⟨l ++ [(⟨4, pa, 0, ⟨#[]⟩⟩ : Dat)], some ⟨g', 0, none⟩, cap', j0, k + 1 + 1, hj0, rfl, by simp, HO5.out, HN1.out, by simp, by rw [HLn.out]; omega, by omega, by omega, HS5.out, HB5.out, hBw5⟩
        case round =>
          obtain ⟨l', ao', c', j, kc, hj, rfl, rfl, HOr, HNr, hl1, hl2, hk1, hk2, HSr, HBr, hBr⟩ := hrel
          clear HS5 HO5 HB5 HN1 HLn hBw5
          cases j with
          | zero =>
            go_wp2
            go_ret
            exact ⟨ao', c', l', kc, rfl, HOr.out, HNr.out, hl1, by simp only [mkA]; omega, hk1, by simp only [mkK]; omega, HSr.out, HBr.out⟩
          | succ j =>
            have e1 : (j + 1) * mkA d = j * mkA d + mkA d := Nat.succ_mul _ _
            have e2 : (j + 1) * mkK d = j * mkK d + mkK d := Nat.succ_mul _ _
            have hpos : (0 : Int) < ((j + 1 : Nat) : Int) := by omega
            have e3 : (((j + 1) * mkK d : Nat) : Int) = ((j * mkK d : Nat) : Int) + (mkK d : Int) := by rw [e2]; omega
            have HX : Hid (∀ pa' : Int, Calls Tryz.prog 20 #[.pointer (some ⟨b, 0, none⟩), .slice ao' l'.length c', .int .i64 pa', .int .i64 (d : Int)] wr fun e w' => MakeRes wr B b ca len cap kc l'.length (mkA d) (mkK d) e w') := fun pa' => IH.out wr kc pa' ao' c' l' HOr.out HNr.out (by omega) HSr.out (by omega) (by simp only [Int.natCast_mul] at *; omega) (by omega) hBr
            go_wp2_with fail
            refine (HX.out _).mono ?_
            rintro e w6 ⟨ao6, c6, l6, k6, rfl, o6, n6, hl61, hl62, k61, k62, s6, b6⟩
            have HO6 : Hid (w6.ownsRow B 61 4 (.slice ao6 l6.length c6) l6.length (cellsD l6)) := o6
            have HS6 : Hid (SrcAt w6 b ca len cap k6) := s6
            have HB6 : Hid (Below b w w6) := HBr.out.trans b6
            have hB6 : B ≤ w6.heap.size := Nat.le_trans hBr b6.size
            clear o6 s6 b6
            go_wp2
            exact ⟨⟨l6, ao6, c6, j, k6, by omega, by go_num, rfl, HO6.out, n6, hl61, by omega, by omega, by omega, HS6.out, HB6.out, hB6⟩, by simp [RowKit.intOf]⟩
end Go.Proofs.YtoljpgpkeploiaaGreatDoor
/-
  The model's l3Bent, DrawPartsOf and DrawSubData: data in a row of one's own, and a number; nothing that was there is turned.
-/
namespace Go.Proofs.YtoljpgpkeploiaaGreatDoor
open Go.RowKit Go.Extern.Stop Go.Stop Go.Extern Num Go.Lib

theorem cellsD_kind (v : Int) : ∀ (l : List Dat) (i : Nat) (h : i < l.length), cellsD (l.set i { l[i] with kind := v }) = (cellsD l).set (i * 4 + 0) (.int .i64 v)
  | [], _, h => by cases h
  | t :: r, 0, _ => rfl
  | t :: r, i + 1, h => by
    have hr : i < r.length := by simpa using h
    have ih := cellsD_kind v r i hr
    show t.cells ++ cellsD (r.set i { r[i] with kind := v }) = (t.cells ++ cellsD r).set ((i + 1) * 4 + 0) (.int .i64 v)
    rw [ih, List.set_append_right _ _ (by simp [Dat.cells]; omega)]
    congr 2
    simp [Dat.cells]
    omega
theorem cellsD_parent (v : Int) : ∀ (l : List Dat) (i : Nat) (h : i < l.length), cellsD (l.set i { l[i] with parent := v }) = (cellsD l).set (i * 4 + 1) (.int .i64 v)
  | [], _, h => by cases h
  | t :: r, 0, _ => rfl
  | t :: r, i + 1, h => by
    have hr : i < r.length := by simpa using h
    have ih := cellsD_parent v r i hr
    show t.cells ++ cellsD (r.set i { r[i] with parent := v }) = (t.cells ++ cellsD r).set ((i + 1) * 4 + 1) (.int .i64 v)
    rw [ih, List.set_append_right _ _ (by simp [Dat.cells]; omega)]
    congr 2
    simp [Dat.cells]
    omega
theorem cellsD_num (v : Int) : ∀ (l : List Dat) (i : Nat) (h : i < l.length), cellsD (l.set i { l[i] with num := v }) = (cellsD l).set (i * 4 + 2) (.int .i64 v)
  | [], _, h => by cases h
  | t :: r, 0, _ => rfl
  | t :: r, i + 1, h => by
    have hr : i < r.length := by simpa using h
    have ih := cellsD_num v r i hr
    show t.cells ++ cellsD (r.set i { r[i] with num := v }) = (t.cells ++ cellsD r).set ((i + 1) * 4 + 2) (.int .i64 v)
    rw [ih, List.set_append_right _ _ (by simp [Dat.cells]; omega)]
    congr 2
    simp [Dat.cells]
    omega
theorem cellsD_name (v : ByteArray) : ∀ (l : List Dat) (i : Nat) (h : i < l.length), cellsD (l.set i { l[i] with name := v }) = (cellsD l).set (i * 4 + 3) (.string v)
  | [], _, h => by cases h
  | t :: r, 0, _ => rfl
  | t :: r, i + 1, h => by
    have hr : i < r.length := by simpa using h
    have ih := cellsD_name v r i hr
    show t.cells ++ cellsD (r.set i { r[i] with name := v }) = (t.cells ++ cellsD r).set ((i + 1) * 4 + 3) (.string v)
    rw [ih, List.set_append_right _ _ (by simp [Dat.cells]; omega)]
    congr 2
    simp [Dat.cells]
    omega
theorem made4 (a b c e : Value) (t : Dat) (h : t.cells = [a, b, c, e]) : ∀ n, ((List.range (n * 4)).map fun i => (#[a, b, c, e] : Array Value)[i % 4]!) = cellsD (List.replicate n t)
  | 0 => rfl
  | n + 1 => by
    have e0 : n * 4 % 4 = 0 := by omega
    have e1 : (n * 4 + 1) % 4 = 1 := by omega
    have e2 : (n * 4 + 1 + 1) % 4 = 2 := by omega
    have e3 : (n * 4 + 1 + 1 + 1) % 4 = 3 := by omega
    rw [show (n + 1) * 4 = n * 4 + 1 + 1 + 1 + 1 by omega, List.range_succ, List.range_succ, List.range_succ, List.range_succ, List.replicate_succ', cellsD_append, ← made4 a b c e t h n]
    simp [e0, e1, e2, e3, cellsD, h]
theorem own81 (w : World) : (w.alloc (.cells (madeCells #[.int .i64 0, .int .i64 0, .int .i64 0, .string ⟨#[]⟩] (81 * 4)) 61)).ownsRow w.heap.size 61 4 (.slice (some ⟨w.heap.size, 0, none⟩) (List.replicate 81 (⟨0, 0, 0, ⟨#[]⟩⟩ : Dat)).length 81) (List.replicate 81 (⟨0, 0, 0, ⟨#[]⟩⟩ : Dat)).length (cellsD (List.replicate 81 (⟨0, 0, 0, ⟨#[]⟩⟩ : Dat))) := by
  have e : (madeCells #[.int .i64 0, .int .i64 0, .int .i64 0, .string ⟨#[]⟩] (81 * 4)).toList = cellsD (List.replicate 81 (⟨0, 0, 0, ⟨#[]⟩⟩ : Dat)) := by
    rw [← made4 (.int .i64 0) (.int .i64 0) (.int .i64 0) (.string ⟨#[]⟩) ⟨0, 0, 0, ⟨#[]⟩⟩ rfl 81]
    simp [madeCells]
  have := madeD 81 (by omega) w
  rw [e] at this
  rw [List.length_replicate]
  exact this
theorem NamesD.set {l : List Dat} (h : NamesD l) (i : Nat) (t : Dat) (ht : t.name.size ≤ 20) : NamesD (l.set i t) := fun x hx => by
  rcases List.mem_or_eq_of_mem_set hx with hx | rfl
  · exact h x hx
  · exact ht
theorem cells2 (w : World) (x0 x1 : Int) (t : TypeId) : ∀ j, j < 2 → ∃ v : Int, (w.alloc (.cells #[.int .i64 x0, .int .i64 x1] t)).cell? ⟨w.heap.size, j, none⟩ = some (.int .i64 v) ∧ AnyI v := by
  intro j hj
  rcases j with _ | _ | j
  · exact ⟨x0, by simp, trivial⟩
  · exact ⟨x1, by simp, trivial⟩
  · omega
/-- Behind a store into one's own row. -/
theorem dat_put {W : World} {B b g c len cap : Nat} {ca : Option Addr} {cnt : Int} {l : List Dat} (hown : W.ownsRow B 61 4 (.slice (some ⟨g, 0, none⟩) l.length c) l.length (cellsD l)) (hs : SrcAt W b ca len cap cnt) (hbB : b < B) (hC : ∀ cb co, ca = some ⟨cb, co, none⟩ → 0 < len → cb < B) (j : Nat) (u : Value) (l' : List Dat) (hl : l'.length = l.length) (hc : cellsD l' = (cellsD l).set j u) :
    (W.setCell ⟨g, j, none⟩ u).ownsRow B 61 4 (.slice (some ⟨g, 0, none⟩) l'.length c) l'.length (cellsD l') ∧ SrcAt (W.setCell ⟨g, j, none⟩ u) b ca len cap cnt ∧ Below b W (W.setCell ⟨g, j, none⟩ u) := by
  have hg := (hown.lt g rfl).1
  refine ⟨?_, hs.put g j u (by omega) (fun cb co e hl => by have := hC cb co e hl; omega), (Below.refl _ _).setCell (p := ⟨g, j, none⟩) (by show b ≤ g; omega) _⟩
  rw [hl, hc]
  exact own_put hown j u
set_option maxRecDepth 100000 in
set_option maxHeartbeats 4000000 in
theorem bentD_any (w : World) (B b : Nat) (ca : Option Addr) (len cap : Nat) (hbB : b < B) (hC : ∀ cb co, ca = some ⟨cb, co, none⟩ → 0 < len → cb < B) (hmax : (len : Int) ≤ 9223372036854775807) (k : Int) (hs : SrcAt w b ca len cap k) (k0 : 0 ≤ k) (k1 : k ≤ 999999900000) (hBw : B ≤ w.heap.size) :
    Calls Tryz.prog 27 #[.pointer (some ⟨b, 0, none⟩)] w fun e w' => MakeRes w B b ca len cap k 0 200 2000 e w' := by
  have HC : Hid (∀ cb co, ca = some ⟨cb, co, none⟩ → 0 < len → cb < B) := hC
  have HM : Hid (Calls Tryz.prog 20 #[.pointer (some ⟨b, 0, none⟩), .slice none 0 0, .int .i64 (-1), .int .i64 4] w fun e w' => MakeRes w B b ca len cap k 0 (mkA 4) (mkK 4) e w') := make_any B b ca len cap hbB hC hmax 4 w k (-1) none 0 [] (World.ownsRow_nil _ _ _ _) (fun t ht => by cases ht) (by decide) hs k0 (by have : mkK 4 = 1210 := rfl; omega) (by omega) hBw
  clear hC hs
  have hA4 : mkA 4 = 121 := rfl
  have hK4 : mkK 4 = 1210 := rfl
  have hmk := makeD 81 (by omega)
  simp only [Int.cast_ofNat_Int] at hmk
  go_enter Tryz.func27, Tryz.ntmps27
  go_wp2_with fail
  refine HM.out.mono ?_
  rintro e w1 ⟨ao, c, l, k1', rfl, ho, hn, hl1, hl2, kk1, kk2, hs1, hb1⟩
  rw [hA4] at hl2
  rw [hK4] at kk2
  obtain ⟨g, rfl⟩ : ∃ g, ao = some ⟨g, 0, none⟩ := by
    obtain ⟨g, c', hv, _⟩ := ho.form (by omega)
    exact ⟨g, by simp at hv; exact hv.1⟩
  have HN : Hid (NamesD l) := hn
  have hBw1 : B ≤ w1.heap.size := Nat.le_trans hBw hb1.size
  go_wp2_with fail
  refine (next_any _ b ca len cap k1' _ hs1 hmax (by omega) (by omega)).mono ?_
  rintro e w2 ⟨i, q2, rfl, i0, i1, hw2⟩
  rw [if_neg (by omega)] at i1
  have hs2 : SrcAt w2 b ca len cap (k1' + 1) := by rw [hw2]; exact hs1.next q2
  have o2 : Only b w1 w2 := by rw [hw2]; exact only_next w1 b k1' q2
  have ho2 := own_only ho o2 hbB
  have hb2 : Below b w w2 := hb1.trans (o2.below (Nat.le_refl _) (Nat.le_of_lt hs1.lt))
  have hBw2 : B ≤ w2.heap.size := Nat.le_trans hBw1 o2.size
  clear hw2 o2 ho hb1 hs1 hn
  obtain ⟨n, rfl⟩ : ∃ n : Nat, i = (n : Int) := ⟨i.toNat, by omega⟩
  have hnl : n < l.length := by omega
  go_wp2_with fail
  refine (next_any _ b ca len cap (k1' + 1) _ hs2 hmax (by omega) (by omega)).mono ?_
  rintro e w3 ⟨r, q3, rfl, r0, r1, hw3⟩
  rw [if_neg (by omega)] at r1
  have HS : Hid (SrcAt w3 b ca len cap (k1' + 1 + 1)) := by rw [hw3]; exact hs2.next q3
  have o3 : Only b w2 w3 := by rw [hw3]; exact only_next w2 b (k1' + 1) q3
  have HO : Hid (w3.ownsRow B 61 4 (.slice (some ⟨g, 0, none⟩) l.length c) l.length (cellsD l)) := own_only ho2 o3 hbB
  have HB : Hid (Below b w w3) := hb2.trans (o3.below (Nat.le_refl _) (Nat.le_of_lt hs2.lt))
  have hBw3 : B ≤ w3.heap.size := Nat.le_trans hBw2 o3.size
  clear hw3 o3 ho2 hb2 hs2
  have hbw3 : b < w3.heap.size := HS.out.lt
  have hgl := (HO.out.lt g rfl)
  by_cases c0 : r = 0
  · subst c0
    go_wp2_with fail
    refine (pick_any _ b w3.heap.size 4 ca len cap (k1' + 1 + 1) (HS.out.alloc _) hmax (by omega) (by omega) (Nat.ne_of_gt hbw3) (by omega) (by omega) AnyI (cells4 w3 _ _ _ _ _)).mono ?_
    rintro e w4 ⟨v, k4, rfl, -, k41, k42, h4, o4⟩
    have ho4 : w4.ownsRow B 61 4 (.slice (some ⟨g, 0, none⟩) l.length c) l.length (cellsD l) := own_only (HO.out.alloc _) o4 hbB
    have HB4 : Hid (Below b w w4) := (HB.out.alloc (Nat.le_of_lt hbw3) _).trans (o4.below (Nat.le_refl _) (by simp; omega))
    obtain ⟨x, hx⟩ := own_cell ho4 (n * 4) (by rw [cellsD_length]; omega)
    have ff := own_frozen ho4
    obtain ⟨R1, R2, R3⟩ := dat_put ho4 h4 hbB HC.out (n * 4) (.int .i64 v) (l.set n { l[n] with kind := v }) (by simp) (cellsD_kind v l n hnl)
    have HR1 : Hid _ := R1
    have HR2 : Hid _ := R2
    have HR3 : Hid (Below b w (w4.setCell ⟨g, n * 4, none⟩ (.int .i64 v))) := HB4.out.trans R3
    clear R1 R2 R3 o4 ho4 h4
    go_wp2
    go_ret
    exact ⟨some ⟨g, 0, none⟩, c, l.set n { l[n] with kind := v }, k4, by simp, HR1.out, HN.out.set _ _ (show l[n].name.size ≤ 20 from HN.out l[n] (List.getElem_mem hnl)), by simp; omega, by simp; omega, by omega, by omega, HR2.out, HR3.out⟩
  have d0 : (r == 0) = false := by simpa using c0
  by_cases c1 : r = 1
  · subst c1
    go_wp2_with fail
    refine (pick_any _ b w3.heap.size 4 ca len cap (k1' + 1 + 1) (HS.out.alloc _) hmax (by omega) (by omega) (Nat.ne_of_gt hbw3) (by omega) (by omega) AnyI (cells4 w3 _ _ _ _ _)).mono ?_
    rintro e w4 ⟨v, k4, rfl, -, k41, k42, h4, o4⟩
    have ho4 : w4.ownsRow B 61 4 (.slice (some ⟨g, 0, none⟩) l.length c) l.length (cellsD l) := own_only (HO.out.alloc _) o4 hbB
    have HB4 : Hid (Below b w w4) := (HB.out.alloc (Nat.le_of_lt hbw3) _).trans (o4.below (Nat.le_refl _) (by simp; omega))
    obtain ⟨x, hx⟩ := own_cell ho4 (n * 4 + 1) (by rw [cellsD_length]; omega)
    have ff := own_frozen ho4
    obtain ⟨R1, R2, R3⟩ := dat_put ho4 h4 hbB HC.out (n * 4 + 1) (.int .i64 v) (l.set n { l[n] with parent := v }) (by simp) (cellsD_parent v l n hnl)
    have HR1 : Hid _ := R1
    have HR2 : Hid _ := R2
    have HR3 : Hid (Below b w (w4.setCell ⟨g, n * 4 + 1, none⟩ (.int .i64 v))) := HB4.out.trans R3
    clear R1 R2 R3 o4 ho4 h4
    go_wp2
    go_ret
    exact ⟨some ⟨g, 0, none⟩, c, l.set n { l[n] with parent := v }, k4, by simp, HR1.out, HN.out.set _ _ (show l[n].name.size ≤ 20 from HN.out l[n] (List.getElem_mem hnl)), by simp; omega, by simp; omega, by omega, by omega, HR2.out, HR3.out⟩
  have d1 : (r == 1) = false := by simpa using c1
  by_cases c2 : r = 2
  · subst c2
    go_wp2_with fail
    refine (pick_any _ b w3.heap.size 2 ca len cap (k1' + 1 + 1) (HS.out.alloc _) hmax (by omega) (by omega) (Nat.ne_of_gt hbw3) (by omega) (by omega) AnyI (cells2 w3 _ _ _)).mono ?_
    rintro e w4 ⟨v, k4, rfl, -, k41, k42, h4, o4⟩
    have ho4 : w4.ownsRow B 61 4 (.slice (some ⟨g, 0, none⟩) l.length c) l.length (cellsD l) := own_only (HO.out.alloc _) o4 hbB
    have HB4 : Hid (Below b w w4) := (HB.out.alloc (Nat.le_of_lt hbw3) _).trans (o4.below (Nat.le_refl _) (by simp; omega))
    obtain ⟨x, hx⟩ := own_cell ho4 (n * 4 + 2) (by rw [cellsD_length]; omega)
    have ff := own_frozen ho4
    obtain ⟨R1, R2, R3⟩ := dat_put ho4 h4 hbB HC.out (n * 4 + 2) (.int .i64 v) (l.set n { l[n] with num := v }) (by simp) (cellsD_num v l n hnl)
    have HR1 : Hid _ := R1
    have HR2 : Hid _ := R2
    have HR3 : Hid (Below b w (w4.setCell ⟨g, n * 4 + 2, none⟩ (.int .i64 v))) := HB4.out.trans R3
    clear R1 R2 R3 o4 ho4 h4
    go_wp2
    go_ret
    exact ⟨some ⟨g, 0, none⟩, c, l.set n { l[n] with num := v }, k4, by simp, HR1.out, HN.out.set _ _ (show l[n].name.size ≤ 20 from HN.out l[n] (List.getElem_mem hnl)), by simp; omega, by simp; omega, by omega, by omega, HR2.out, HR3.out⟩
  have d2 : (r == 2) = false := by simpa using c2
  by_cases c3 : r = 3
  · subst c3
    go_wp2_with fail
    refine (next_any _ b ca len cap (k1' + 1 + 1) _ (HS.out.alloc _) hmax (by omega) (by omega)).mono ?_
    rintro e w4 ⟨r4, q4, rfl, r40, r41, hw4⟩
    rw [if_neg (by omega)] at r41
    obtain ⟨s, hss, hsz⟩ : ∃ s : ByteArray, (w3.alloc (.cells #[.string ⟨#[]⟩, .string ⟨#[65]⟩, .string ⟨#[120]⟩] 9)).cell? ⟨w3.heap.size, r4.toNat, none⟩ = some (.string s) ∧ s.size ≤ 20 :=
      strs_at w3 [⟨#[]⟩, ⟨#[65]⟩, ⟨#[120]⟩] 9 20 (by decide) r4.toNat (by simp; omega)
    have h4 : SrcAt w4 b ca len cap (k1' + 1 + 1 + 1) := by rw [hw4]; exact (HS.out.alloc _).next q4
    have o4 : Only b (w3.alloc (.cells #[.string ⟨#[]⟩, .string ⟨#[65]⟩, .string ⟨#[120]⟩] 9)) w4 := by rw [hw4]; exact only_next _ b (k1' + 1 + 1) q4
    have hc4 : w4.cell? ⟨w3.heap.size, r4.toNat, none⟩ = some (.string s) := by
      rw [o4.cell (p := ⟨w3.heap.size, r4.toNat, none⟩) (by simp) (Nat.ne_of_gt hbw3)]; exact hss
    have r42 : r4 < 3 := by omega
    have ho4 : w4.ownsRow B 61 4 (.slice (some ⟨g, 0, none⟩) l.length c) l.length (cellsD l) := own_only (HO.out.alloc _) o4 hbB
    have HB4 : Hid (Below b w w4) := (HB.out.alloc (Nat.le_of_lt hbw3) _).trans (o4.below (Nat.le_refl _) (by simp; omega))
    obtain ⟨x, hx⟩ := own_cell ho4 (n * 4 + 3) (by rw [cellsD_length]; omega)
    have ff := own_frozen ho4
    obtain ⟨R1, R2, R3⟩ := dat_put ho4 h4 hbB HC.out (n * 4 + 3) (.string s) (l.set n { l[n] with name := s }) (by simp) (cellsD_name s l n hnl)
    have HR1 : Hid _ := R1
    have HR2 : Hid _ := R2
    have HR3 : Hid (Below b w (w4.setCell ⟨g, n * 4 + 3, none⟩ (.string s))) := HB4.out.trans R3
    clear R1 R2 R3 o4 ho4 h4 hw4 hss r41
    go_wp2
    go_ret
    exact ⟨some ⟨g, 0, none⟩, c, l.set n { l[n] with name := s }, k1' + 1 + 1 + 1, by simp, HR1.out, HN.out.set _ _ hsz, by simp; omega, by simp; omega, by omega, by omega, HR2.out, HR3.out⟩
  have d3 : (r == 3) = false := by simpa using c3
  by_cases c4 : r = 4
  · subst c4
    go_wp2
    go_ret
    exact ⟨some ⟨w3.heap.size, 0, none⟩, 81, List.replicate 81 ⟨0, 0, 0, ⟨#[]⟩⟩, k1' + 1 + 1, by simp, own_low (own81 w3) hBw3, fun t ht => by rw [(List.mem_replicate.1 ht).2]; exact Nat.zero_le _, by simp, by simp, by omega, by omega, HS.out.alloc _, HB.out.alloc (Nat.le_of_lt hbw3) _⟩
  have d4 : (r == 4) = false := by simpa using c4
  go_wp2
  go_ret
  exact ⟨some ⟨g, 0, none⟩, c, l, k1' + 1 + 1, rfl, HO.out, HN.out, hl1, by omega, by omega, by omega, HS.out, HB.out⟩
/-- What the draw of data and a place comes to. -/
def PartRes (w : World) (e : Ending) (w' : World) : Prop :=
  ∃ (ao : Option Addr) (c : Nat) (l : List Dat) (z : Int), e = .returned (.tuple #[.slice ao l.length c, .int .i64 z]) ∧ w'.ownsRow w.heap.size 61 4 (.slice ao l.length c) l.length (cellsD l) ∧ (∀ (k : Nat) (h : k < l.length), l[k].name.size ≤ 1048576) ∧ l.length ≤ 200 ∧ Below w.heap.size w w'
theorem drawParts_any (w : World) (ca : Option Addr) (len cap : Nat) (h : Bytes w ca len) (hmax : (len : Int) ≤ 9223372036854775807) :
    Calls Tryz.prog 31 #[.slice ca len cap] w fun e w' => PartRes w e w' := by
  go_enter Tryz.func31, Tryz.ntmps31
  go_wp2_with fail
  refine (source_any _ ca len cap h).mono ?_
  rintro e w1 ⟨rfl, h1, b1⟩
  have hlt := h1.lt
  have hcode := h1.code
  go_wp2_with fail
  refine (bentD_any w1 w1.heap.size w.heap.size ca len cap hlt hcode hmax 0 h1 (by omega) (by omega) (Nat.le_refl _)).mono ?_
  rintro e w2 ⟨ao, c, l, k2, rfl, ho, hn, hl1, hl2, kk1, kk2, hs2, hb2⟩
  have HO : Hid (w2.ownsRow w1.heap.size 61 4 (.slice ao l.length c) l.length (cellsD l)) := ho
  have HN : Hid (NamesD l) := hn
  have HS : Hid (SrcAt w2 w.heap.size ca len cap k2) := hs2
  have HB : Hid (Below w.heap.size w w2) := b1.trans hb2
  have hl3 : l.length ≤ 200 := by omega
  clear ho hn hs2 hb2 b1 h1 h hcode
  go_wp2_with fail
  refine (next_any _ _ ca len cap k2 _ HS.out hmax (by omega) (by omega)).mono ?_
  rintro e w3 ⟨r, q, rfl, r0, r1, hw3⟩
  rw [if_neg (by omega)] at r1
  have o3 : Only w.heap.size w2 w3 := by rw [hw3]; exact only_next w2 _ k2 q
  have HO3 : Hid (w3.ownsRow w1.heap.size 61 4 (.slice ao l.length c) l.length (cellsD l)) := own_only HO.out o3 hlt
  have HB3 : Hid (Below w.heap.size w w3) := HB.out.trans (o3.below (Nat.le_refl _) HB.out.size)
  clear hw3 o3
  go_wp2
  exact bodyPost_ret (v := .tuple #[.slice ao l.length c, .int .i64 (r - 1)]) (by simp [results, Tryz.results31, go_sem]) rfl ⟨ao, c, l, r - 1, rfl, own_low HO3.out (Nat.le_of_lt hlt), HN.out.at, hl3, HB3.out⟩
theorem drawSub_any (w : World) (ca : Option Addr) (len cap : Nat) (h : Bytes w ca len) (hmax : (len : Int) ≤ 9223372036854775807) :
    Calls Tryz.prog 14 #[.slice ca len cap] w fun e w' => PartRes w e w' := by
  have HP : Hid (Calls Tryz.prog 31 #[.slice ca len cap] w fun e w' => PartRes w e w') := drawParts_any w ca len cap h hmax
  clear h
  go_enter Tryz.func14, Tryz.ntmps14
  go_wp2_with fail
  refine HP.out.mono ?_
  rintro e w1 ⟨ao, c, l, z, rfl, h1, h2, h3, h4⟩
  have H : Hid (w1.ownsRow w.heap.size 61 4 (.slice ao l.length c) l.length (cellsD l) ∧ (∀ (k : Nat) (h : k < l.length), l[k].name.size ≤ 1048576) ∧ l.length ≤ 200 ∧ Below w.heap.size w w1) := ⟨h1, h2, h3, h4⟩
  clear h1 h2 h3 h4
  go_wp2
  exact bodyPost_ret (v := .tuple #[.slice ao l.length c, .int .i64 z]) (by simp [results, Tryz.results14, go_sem]) rfl ⟨ao, c, l, z, rfl, H.out.1, H.out.2.1, H.out.2.2.1, H.out.2.2.2⟩
end Go.Proofs.YtoljpgpkeploiaaGreatDoor
