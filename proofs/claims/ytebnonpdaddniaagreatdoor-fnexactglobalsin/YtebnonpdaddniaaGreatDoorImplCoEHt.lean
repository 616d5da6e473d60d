/-
  Parts of the proof laid into one text, one behind the other; each says at its head what is proved in it.
-/
import Derived.Test.YtebnonpdaddniaaGreatDoorImplCoDHt
/-
  The program's coreTree and CoreFault: the tree that cores make, and what is wrong with them; nothing that was there is turned.
-/
namespace Go.Proofs.YtebnonpdaddniaaGreatDoor
open Go.RowKit Go.Extern.Stop Go.Stop Go.Extern Num Go.Lib Go.Shelf

theorem OwnTC.base {B B0 r : Nat} {N : List (Cor × Value)} {w : World} (h : OwnTC B r N w) (hb : B0 ≤ B) : OwnTC B0 r N w := by
  obtain ⟨h1, h2, v, c, o, a⟩ := h
  exact ⟨by omega, h2, v, c, own_base o hb, a⟩
theorem OwnTC.low {B r : Nat} {N : List (Cor × Value)} {w : World} (h : OwnTC B r N w) (p : Addr) (hp : p.block < B) (x : Value) : OwnTC B r N (w.setCell p x) := by
  obtain ⟨h1, h2, v, c, o, a⟩ := h
  obtain ⟨pb, po, pm⟩ := p
  have hpb : pb < B := hp
  refine ⟨h1, by rw [World.frozen?_setCell]; exact h2, v, ?_, own_set' o (fun g hg => by have := (o.lt g hg).1; show g ≠ pb; omega) _, a⟩
  rw [World.cell?_setCell_far _ _ _ _ (by show pb ≠ r; omega)]
  exact c
/-- The closure that grows the tree. -/
theorem coreTree1_any (B g cap s : Nat) (P : List (Cor × Value)) (l : List Cor) (hP : P.map Prod.fst = l) (w : World) (hs : s + 1 < w.heap.size) (h0 : w.cell? ⟨s, 0, none⟩ = some (.slice (some ⟨g, 0, none⟩) l.length cap)) (h1 : ∃ v, w.cell? ⟨s + 1, 0, none⟩ = some v) (hf : w.frozen? ⟨s + 1, 0, none⟩ = false) (hrow : w.ownsRow B 85 6 (.slice (some ⟨g, 0, none⟩) l.length cap) l.length (cellsC P)) (hN : NestC w B g P) (hz : ∀ (k : Nat) (h : k < l.length), l[k].small) (hL : LT w) :
    Calls Tryz.prog 94 #[.pointer (some ⟨s, 0, none⟩), .pointer (some ⟨s + 1, 0, none⟩)] w fun e w' =>
      (coreF l ≠ 0 ∧ e = .panicked (pan (coreF l)) ∧ Below w.heap.size w w') ∨ (coreF l = 0 ∧ e = .returned (.tuple #[]) ∧ ∃ u, w' = u.setCell ⟨s + 1, 0, none⟩ (.pointer (some ⟨w.heap.size, 0, none⟩)) ∧ OwnTC w.heap.size w.heap.size P u ∧ Below w.heap.size w u) := by
  have hG := growCores_any B g cap P l hP w hrow hN hz hL
  obtain ⟨v1, h1⟩ := h1
  clear hrow hN hz hL hP
  by_cases hc : coreF l = 0
  · have HG : Hid (Calls Tryz.prog 95 #[.slice (some ⟨g, 0, none⟩) l.length cap] w fun e w' => e = .returned (.pointer (some ⟨w.heap.size, 0, none⟩)) ∧ OwnTC w.heap.size w.heap.size P w' ∧ Below w.heap.size w w') := hG.mono fun e w' h => by
      obtain ⟨⟨h1, -⟩ | ⟨-, h2, h3⟩, hb⟩ := h
      · exact absurd hc h1
      · exact ⟨h2, h3, hb⟩
    have HC : Hid (coreF l = 0) := hc
    clear hG hc
    go_enter Tryz.func94, Tryz.ntmps94
    go_wp2_with fail
    refine HG.out.mono ?_
    rintro e w1 ⟨rfl, ho, hb⟩
    have HO : Hid (OwnTC w.heap.size w.heap.size P w1) := ho
    have HB : Hid (Below w.heap.size w w1) := hb
    have k1 := cell_keep hb h1
    have k2 : w1.frozen? ⟨s + 1, 0, none⟩ = false := by rw [(bcell hb).2 _ _ hs]; exact hf
    clear ho hb h0 h1 hf
    go_wp2
    go_end0
    exact .inr ⟨HC.out, rfl, w1, rfl, HO.out, HB.out⟩
  · have HG : Hid (Calls Tryz.prog 95 #[.slice (some ⟨g, 0, none⟩) l.length cap] w fun e w' => e = .panicked (pan (coreF l)) ∧ Below w.heap.size w w') := hG.mono fun e w' h => by
      obtain ⟨⟨-, h2⟩ | ⟨h1, -⟩, hb⟩ := h
      · exact ⟨h2, hb⟩
      · exact absurd h1 hc
    have HC : Hid (coreF l ≠ 0) := hc
    clear hG hc
    generalize coreF l = c at HG HC ⊢
    go_enter Tryz.func94, Tryz.ntmps94
    go_wp2_with fail
    refine HG.out.mono ?_
    rintro e w1 ⟨rfl, hb⟩
    exact ⟨rfl, .inl ⟨HC.out, rfl, hb⟩⟩
/-- What coreTree answers. -/
def AnsCt (P : List (Cor × Value)) (l : List Cor) (w : World) (e : Ending) (w' : World) : Prop :=
  (coreF l ≠ 0 ∧ e = .returned (.tuple #[.pointer none, .int .i64 (coreF l)]) ∧ Below w.heap.size w w') ∨
  (coreF l = 0 ∧ ∃ r, e = .returned (.tuple #[.pointer (some ⟨r, 0, none⟩), .int .i64 0]) ∧ OwnTC w.heap.size r P w' ∧ Below w.heap.size w w')
theorem coreTree_any (B g cap : Nat) (P : List (Cor × Value)) (l : List Cor) (hP : P.map Prod.fst = l) (w : World) (hrow : w.ownsRow B 85 6 (.slice (some ⟨g, 0, none⟩) l.length cap) l.length (cellsC P)) (hN : NestC w B g P) (hz : ∀ (k : Nat) (h : k < l.length), l[k].small) (hL : LT w) :
    Calls Tryz.prog 57 #[.slice (some ⟨g, 0, none⟩) l.length cap] w fun e w' => AnsCt P l w e w' := by
  obtain ⟨W, hW⟩ : ∃ W, W = (w.alloc (.cells #[.slice (some ⟨g, 0, none⟩) l.length cap] 38)).alloc (.cells #[.pointer none] 87) := ⟨_, rfl⟩
  have hsz : W.heap.size = w.heap.size + 2 := by rw [hW]; simp
  have hbW : Below w.heap.size w W := by rw [hW]; exact ((Below.refl _ w).alloc (Nat.le_refl _) _).alloc (by simp) _
  have q0 : W.cell? ⟨w.heap.size, 0, none⟩ = some (.slice (some ⟨g, 0, none⟩) l.length cap) := by rw [hW]; simp [go_sem]
  have q1 : W.cell? ⟨w.heap.size + 1, 0, none⟩ = some (.pointer none) := by rw [hW]; simp [go_sem]
  have qf : W.frozen? ⟨w.heap.size + 1, 0, none⟩ = false := by rw [hW]; simp [go_sem]
  have bW := (Below.refl W.heap.size W).alloc (Nat.le_refl _) (.cells #[.int .i64 0] 2)
  have h1 := coreTree1_any B g cap w.heap.size P l hP (W.alloc (.cells #[.int .i64 0] 2)) (by simp; omega) (cell_keep bW q0) ⟨_, cell_keep bW q1⟩ (by rw [(bcell bW).2 _ _ (by omega)]; exact qf) (own_below (own_below hrow hbW) bW) ((hN.below hbW).below bW) hz ((hL.below hbW).below bW)
  have HB : Hid (Below w.heap.size w W) := hbW
  have HS : Hid (W.heap.size = w.heap.size + 2) := hsz
  have hcf : ∀ args w, (callFunc 94 args).run Tryz.prog w = .ok (.enter 94 args) w := enters_of Tryz.func94 (by kernel_rfl) rfl
  have cD : ∀ u, Below (W.alloc (.cells #[.int .i64 0] 2)).heap.size (W.alloc (.cells #[.int .i64 0] 2)) u → u.cell? ⟨W.heap.size, 0, none⟩ = some (.int .i64 0) ∧ u.frozen? ⟨W.heap.size, 0, none⟩ = false := fun u hu =>
    ⟨cell_keep hu (by rw [World.cell?_alloc_at _ _ _ _ rfl]; rfl), by rw [(bcell hu).2 _ _ (by simp)]; simp [go_sem]⟩
  clear hrow hN hz hL hbW
  by_cases hc : coreF l = 0
  · have HC : Hid (Calls Tryz.prog 64 #[.func (.func 94) #[] #[.pointer (some ⟨w.heap.size, 0, none⟩), .pointer (some ⟨w.heap.size + 1, 0, none⟩)]] W fun e w' => ∃ u, e = .returned (.int .i64 0) ∧ (∃ x, u = x.setCell ⟨w.heap.size + 1, 0, none⟩ (.pointer (some ⟨W.heap.size + 1, 0, none⟩)) ∧ OwnTC (W.heap.size + 1) (W.heap.size + 1) P x ∧ Below (W.heap.size + 1) (W.alloc (.cells #[.int .i64 0] 2)) x) ∧ w' = u.setCell ⟨W.heap.size, 0, none⟩ (.int .i64 0)) :=
      codeOf_ret _ _ W _ hcf (h1.mono fun e w' h => by
        rcases h with ⟨h, -⟩ | ⟨-, he, x, hx, ho, hb⟩
        · exact absurd hc h
        · obtain ⟨c1, c2⟩ := cD x hb
          simp only [World.size_alloc] at hx ho hb
          refine ⟨he, ⟨?_, ?_⟩, x, hx, ho, hb⟩
          · rw [hx, World.cell?_setCell_far _ _ _ _ (by show w.heap.size + 1 ≠ W.heap.size; omega)]; exact c1
          · rw [hx, World.frozen?_setCell]; exact c2)
    have HZ : Hid (coreF l = 0) := hc
    have hsz2 := hsz
    clear h1 hc cD hsz
    go_enter Tryz.func57, Tryz.ntmps57
    go_wp2_with fail
    rw [← hW]
    refine HC.out.mono ?_
    rintro e w2 ⟨u, rfl, ⟨x, rfl, ho, hb⟩, rfl⟩
    have x1 : x.cell? ⟨w.heap.size + 1, 0, none⟩ = some (.pointer none) := (hb.cell (p := ⟨w.heap.size + 1, 0, none⟩) (by show w.heap.size + 1 < W.heap.size + 1; omega)).trans (cell_keep bW q1)
    have xf : x.frozen? ⟨w.heap.size + 1, 0, none⟩ = false := by
      rw [(bcell (W := W.alloc (.cells #[.int .i64 0] 2)) (by simpa using hb)).2 _ _ (by simp; omega), (bcell bW).2 _ _ (by omega)]
      exact qf
    obtain ⟨Y, hY⟩ : ∃ Y, Y = (x.setCell ⟨w.heap.size + 1, 0, none⟩ (.pointer (some ⟨W.heap.size + 1, 0, none⟩))).setCell ⟨W.heap.size, 0, none⟩ (.int .i64 0) := ⟨_, rfl⟩
    have y1 : Y.cell? ⟨w.heap.size + 1, 0, none⟩ = some (.pointer (some ⟨W.heap.size + 1, 0, none⟩)) := by
      rw [hY, World.cell?_setCell_far _ _ _ _ (by show W.heap.size ≠ w.heap.size + 1; omega)]
      exact World.cell?_setCell_same' _ _ _ (by rw [x1]; rfl)
    have yf : Y.frozen? ⟨w.heap.size + 1, 0, none⟩ = false := by rw [hY, World.frozen?_setCell, World.frozen?_setCell]; exact xf
    have HOY : Hid (OwnTC (W.heap.size + 1) (W.heap.size + 1) P Y) := by
      rw [hY]
      exact (ho.low ⟨w.heap.size + 1, 0, none⟩ (by show w.heap.size + 1 < W.heap.size + 1; omega) _).low ⟨W.heap.size, 0, none⟩ (by show W.heap.size < W.heap.size + 1; omega) _
    have HBY : Hid (Below w.heap.size w Y) := by
      rw [hY]
      exact Below.setCell (Below.setCell ((HB.out.trans (bW.mono (by omega))).trans (hb.mono (by omega))) (by show w.heap.size ≤ w.heap.size + 1; omega) _) (by show w.heap.size ≤ W.heap.size; omega) _
    have HS2 : Hid (W.heap.size = w.heap.size + 2) := hsz2
    rw [← hY]
    clear hY x1 xf ho hb hW q0 q1 qf bW hsz2
    go_wp2
    have y3 : (Y.setCell ⟨w.heap.size + 1, 0, none⟩ (.pointer (some ⟨W.heap.size + 1, 0, none⟩))).cell? ⟨w.heap.size + 1, 0, none⟩ = some (.pointer (some ⟨W.heap.size + 1, 0, none⟩)) := World.cell?_setCell_same' _ _ _ (by rw [y1]; rfl)
    refine bodyPost_ret (v := .tuple #[.pointer (some ⟨W.heap.size + 1, 0, none⟩), .int .i64 0]) (by simp [results, Tryz.results57, go_sem, y3]) rfl (.inr ⟨HZ.out, _, rfl, (HOY.out.low ⟨w.heap.size + 1, 0, none⟩ (by have := HS2.out; show w.heap.size + 1 < W.heap.size + 1; omega) _).base (by have := HS2.out; omega), Below.setCell HBY.out (by show w.heap.size ≤ w.heap.size + 1; omega) _⟩)
  · obtain ⟨c, hcc⟩ : ∃ c, c = coreF l := ⟨_, rfl⟩
    have HC : Hid (Calls Tryz.prog 64 #[.func (.func 94) #[] #[.pointer (some ⟨w.heap.size, 0, none⟩), .pointer (some ⟨w.heap.size + 1, 0, none⟩)]] W fun e w' => ∃ u, e = .returned (.int .i64 c) ∧ Below (W.heap.size + 1) (W.alloc (.cells #[.int .i64 0] 2)) u ∧ w' = u.setCell ⟨W.heap.size, 0, none⟩ (.int .i64 c)) :=
      codeOf_pan _ _ c W _ hcf (h1.mono fun e w' h => by
        rcases h with ⟨-, he, hb⟩ | ⟨h, -⟩
        · obtain ⟨c1, c2⟩ := cD w' hb
          simp only [World.size_alloc] at hb
          exact ⟨by rw [he, hcc], ⟨c1, c2⟩, hb⟩
        · exact absurd h hc)
    have HZ : Hid (coreF l ≠ 0) := hc
    have HCc : Hid (c = coreF l) := hcc
    have hsz2 := hsz
    clear h1 hc cD hsz hcc
    go_enter Tryz.func57, Tryz.ntmps57
    go_wp2_with fail
    rw [← hW]
    refine HC.out.mono ?_
    rintro e w2 ⟨x, rfl, hb, rfl⟩
    have x1 : x.cell? ⟨w.heap.size + 1, 0, none⟩ = some (.pointer none) := (hb.cell (p := ⟨w.heap.size + 1, 0, none⟩) (by show w.heap.size + 1 < W.heap.size + 1; omega)).trans (cell_keep bW q1)
    have xf : x.frozen? ⟨w.heap.size + 1, 0, none⟩ = false := by
      rw [(bcell (W := W.alloc (.cells #[.int .i64 0] 2)) (by simpa using hb)).2 _ _ (by simp; omega), (bcell bW).2 _ _ (by omega)]
      exact qf
    obtain ⟨Y, hY⟩ : ∃ Y, Y = x.setCell ⟨W.heap.size, 0, none⟩ (.int .i64 c) := ⟨_, rfl⟩
    have y1 : Y.cell? ⟨w.heap.size + 1, 0, none⟩ = some (.pointer none) := by
      rw [hY, World.cell?_setCell_far _ _ _ _ (by show W.heap.size ≠ w.heap.size + 1; omega)]
      exact x1
    have yf : Y.frozen? ⟨w.heap.size + 1, 0, none⟩ = false := by rw [hY, World.frozen?_setCell]; exact xf
    have HBY : Hid (Below w.heap.size w Y) := by
      rw [hY]
      exact Below.setCell ((HB.out.trans (bW.mono (by omega))).trans (hb.mono (by omega))) (by show w.heap.size ≤ W.heap.size; omega) _
    rw [← hY]
    clear hY x1 xf hb hW q0 q1 qf bW hsz2
    go_wp2
    have y3 : (Y.setCell ⟨w.heap.size + 1, 0, none⟩ (.pointer none)).cell? ⟨w.heap.size + 1, 0, none⟩ = some (.pointer none) := World.cell?_setCell_same' _ _ _ (by rw [y1]; rfl)
    refine bodyPost_ret (v := .tuple #[.pointer none, .int .i64 c]) (by simp [results, Tryz.results57, go_sem, y3]) rfl (.inl ⟨HZ.out, by rw [HCc.out], Below.setCell HBY.out (by show w.heap.size ≤ w.heap.size + 1; omega) _⟩)
/-- The program's CoreFault. -/
theorem implCoF_any (B g cap : Nat) (l : List Cor) (w : World) (h : IsC w B g cap l) (hz : ∀ (k : Nat) (h : k < l.length), l[k].small) (hL : LT w) :
    Calls Tryz.prog 19 #[.slice (some ⟨g, 0, none⟩) l.length cap] w fun e w' => e = .returned (.int .i64 (coreF l)) ∧ Below w.heap.size w w' := by
  obtain ⟨P, hP, hrow, hN⟩ := h
  have HT : Hid (Calls Tryz.prog 57 #[.slice (some ⟨g, 0, none⟩) l.length cap] w fun e w' => ∃ p, e = .returned (.tuple #[.pointer p, .int .i64 (coreF l)]) ∧ Below w.heap.size w w') := (coreTree_any B g cap P l hP w hrow hN hz hL).mono fun e w' h => by
    rcases h with ⟨-, h1, h2⟩ | ⟨h0, r, h1, -, h2⟩
    · exact ⟨_, h1, h2⟩
    · exact ⟨_, by rw [h1, h0], h2⟩
  clear hP hrow hN hz hL
  generalize coreF l = c at HT ⊢
  go_enter Tryz.func19, Tryz.ntmps19
  go_wp2_with fail
  refine HT.out.mono ?_
  rintro e w1 ⟨p, rfl, b1⟩
  have HB : Hid (Below w.heap.size w w1) := b1
  clear b1
  go_wp2
  go_ret
  exact ⟨rfl, HB.out⟩
end Go.Proofs.YtebnonpdaddniaaGreatDoor
