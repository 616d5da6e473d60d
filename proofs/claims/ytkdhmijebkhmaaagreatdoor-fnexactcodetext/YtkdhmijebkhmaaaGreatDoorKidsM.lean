/-
  The program's iterator kids, which ranges over below: the places of the parts of a place; nothing that was there is turned.
-/
import Derived.Test.YtkdhmijebkhmaaaGreatDoorBelowF
import Derived.Test.YtkdhmijebkhmaaaGreatDoorCtC
namespace Go.Proofs.YtkdhmijebkhmaaaGreatDoor
open Go.RowKit Go.Extern.Stop Go.Stop Go.Extern Num Go.Lib Go.Shelf
attribute [local go_sem] Oper.semAt_some

/-- The places of what is told that hang on a place itself. -/
def kidsT (a : Int) (P : List (Int × Dat)) : List Int := (P.filter fun x => x.2.parent == a).map (·.1)
theorem kidsT_hit (a : Int) (P : List (Int × Dat)) (x : Int × Dat) (h : (x.2.parent == a) = true) : kidsT a (P ++ [x]) = kidsT a P ++ [x.1] := by simp [kidsT, h]
theorem kidsT_miss (a : Int) (P : List (Int × Dat)) (x : Int × Dat) (h : (x.2.parent == a) = false) : kidsT a (P ++ [x]) = kidsT a P := by simp [kidsT, h]
theorem kidsT_len (a : Int) (P : List (Int × Dat)) : (kidsT a P).length ≤ P.length := by
  unfold kidsT; rw [List.length_map]; exact List.length_filter_le _ _
theorem kidsT_pre {a : Int} {P R : List (Int × Dat)} (h : P <+: R) : kidsT a P <+: kidsT a R := by
  obtain ⟨t, rfl⟩ := h
  unfold kidsT
  rw [List.filter_append, List.map_append]
  exact List.prefix_append _ _
/-- What a round of kids keeps: as Kpx, and the m blocks from B on. -/
def Kpk (n₀ lo hi B m : Nat) (W W' : World) : Prop := Kpx n₀ lo hi W W' ∧ ∀ b, B ≤ b → b < B + m → W'.heap[b]? = W.heap[b]?
theorem OwnFrom.mono' {β : Type} {B B' : Nat} {J : β → World → Prop} (h : OwnFrom B J) (hB : B ≤ B') : OwnFrom B' J := fun s W W' row hs hg hr => h s W W' row hs hg (fun r e => ⟨Nat.le_trans hB (hr r e).1, (hr r e).2⟩)
theorem kids_in (F : Fence) (n : Nat) (hF : ∀ f, F.fn f) (hro : F.round = none) (p : Option Addr) (a : Int) (w : World) :
    CallsIn F n Tryz.prog 150 #[.pointer p, .int .i64 a] w fun e w' => e = .returned (.func (.func 156) #[] #[.pointer (some ⟨w.heap.size, 0, none⟩), .pointer (some ⟨w.heap.size + 1, 0, none⟩)]) ∧
      w' = (w.alloc (.cells #[.pointer p] 148)).alloc (.cells #[.int .i64 a] 2) := by
  refine callsIn_of_wp Tryz.func150 rfl (hF _) ?_ hro
  simp only [Tryz.ntmps150, List.size_toArray, List.length_cons, List.length_nil, Nat.reduceAdd, Nat.reduceSub, Array.replicate_succ, Array.replicate_zero, List.push_toArray, List.append_toArray, List.nil_append, List.cons_append]
  gi_wp2
  go_ret
  exact ⟨rfl, rfl⟩
theorem roundIn_any {P : Program} {n m l l' : Nat} {f : FuncId} {tmps : Array Value} {assign body : Code} {w : World} {R : Ending → World → Prop} (h : RoundIn Fence.wide n P l f tmps assign body w R) : RoundIn (Fence.wide.inRound l') m P l f tmps assign body w R :=
  ⟨trivial, fun c cs _ => h.2 c cs (room_wide _)⟩
/-- The temporaries of a round of kids. -/
abbrev actK (bt ba A tb Bx l : Nat) (a : Int) (x : Int × Dat) : Act := { tmps := #[.func (.yield l) #[] #[], .pointer (some ⟨bt, 0, none⟩), .pointer (some ⟨ba, 0, none⟩), .pointer (some ⟨A, 0, none⟩), .int .i64 x.1, .pointer (some ⟨Bx, 0, none⟩), .pointer (some ⟨tb, 0, none⟩), .int .i64 a, .func (.func 162) #[] #[.pointer (some ⟨A + 1 + 1, 0, none⟩), .pointer (some ⟨A + 1, 0, none⟩)], .int .i64 x.1, .agg #[.int .i64 x.2.parent, .int .i64 x.2.kind, .int .i64 x.2.num, .string x.2.name], undef, undef, undef, undef, undef, undef, undef, undef, undef, undef], defers := [] }
set_option maxRecDepth 100000 in
set_option maxHeartbeats 4000000 in
theorem kids_seq (n : Nat) (hn : 5 ≤ n) (ba bt n₀ lo hi tb B : Nat) (N : List Dat) (a e : Nat) (hE : EndAt N a e) (hN : N.length ≤ 1000) (hPd : ∀ (k : Nat) (h : k < N.length), PdN ((k : Int), N[k])) (w : World) (hn₀ : n₀ ≤ w.heap.size)
    (hBa : w.cell? ⟨ba, 0, none⟩ = some (.int .i64 (a : Int))) (hBt : w.cell? ⟨bt, 0, none⟩ = some (.pointer (some ⟨tb, 0, none⟩))) (hhi : bt < hi) (hlo2 : lo ≤ ba) (hhi2 : ba < hi) (hhi3 : hi ≤ w.heap.size) (hT : IsTree n₀ w tb N) :
    SeqO Fence.wide n Tryz.prog 156 #[.pointer (some ⟨bt, 0, none⟩), .pointer (some ⟨ba, 0, none⟩)] (fun x : Int => #[Value.int .i64 x]) B 5 (Kpk n₀ lo hi B 5) (fun ys => ys = kidsT a (tellN N a (e - a))) (fun pre => pre <+: kidsT a (tellN N a (e - a))) (fun pre x => pre ++ [x] <+: kidsT a (tellN N a (e - a))) w := fun l J Jx W hWB hW hJ hJx hY h0 => by
  have h1 : 1 ≤ n := by omega
  have hF : ∀ f, Fence.wide.fn f := fun _ => trivial
  subst hWB
  have hws := hW.size
  have hlb : bt < W.heap.size := by omega
  have hla : ba < W.heap.size := by omega
  have ca : W.cell? ⟨ba, 0, none⟩ = some (.int .i64 (a : Int)) := (hW.cell (p := ⟨ba, 0, none⟩) (by show ba < _; omega)).trans hBa
  have ct : W.cell? ⟨bt, 0, none⟩ = some (.pointer (some ⟨tb, 0, none⟩)) := (hW.cell (p := ⟨bt, 0, none⟩) (by show bt < _; omega)).trans hBt
  have hTW := hT.below (hW.mono hn₀)
  show CallsIn Fence.wide n Tryz.prog _ #[.func (.yield l) #[] #[], .pointer (some ⟨bt, 0, none⟩), .pointer (some ⟨ba, 0, none⟩)] W _
  refine callsIn_of_wp_marks Tryz.func156 rfl (hF _) ?_ rfl
  simp only [Tryz.ntmps156, List.size_toArray, List.length_cons, List.length_nil, Nat.reduceAdd, Nat.reduceSub, Array.replicate_succ, Array.replicate_zero, List.push_toArray, List.append_toArray, List.nil_append, List.cons_append]
  gi_wp2_with (gi_at_call 157; refine (below_in Fence.wide (n - 1) hF rfl _ _ _).mono ?_; rintro e w' ⟨rfl, rfl⟩)
  have c0 := Boxed.new W 82 (.func (.yield l) #[] #[])
  have c1 := Boxed.new (W.alloc (.cells #[.func (.yield l) #[] #[]] 82)) 148 (.pointer (some ⟨tb, 0, none⟩))
  have c2 := Boxed.new ((W.alloc (.cells #[.func (.yield l) #[] #[]] 82)).alloc (.cells #[.pointer (some ⟨tb, 0, none⟩)] 148)) 2 (.int .i64 (a : Int))
  simp only [World.size_alloc] at c1 c2
  have hB0 : Below W.heap.size W (((W.alloc (.cells #[.func (.yield l) #[] #[]] 82)).alloc (.cells #[.pointer (some ⟨tb, 0, none⟩)] 148)).alloc (.cells #[.int .i64 (a : Int)] 2)) := (((Below.refl _ W).alloc (Nat.le_refl _) _).alloc (by simp) _).alloc (by simp; omega) _
  have hsz3 : (((W.alloc (.cells #[.func (.yield l) #[] #[]] 82)).alloc (.cells #[.pointer (some ⟨tb, 0, none⟩)] 148)).alloc (.cells #[.int .i64 (a : Int)] 2)).heap.size = W.heap.size + 3 := by simp
  refine range_own rfl h1 (gf := 162) (lb := #[.pointer (some ⟨W.heap.size + 1 + 1, 0, none⟩), .pointer (some ⟨W.heap.size + 1, 0, none⟩)]) rfl (hF _) (enters_of Tryz.func162 (by kernel_rfl) rfl)
    (below_seq Fence.wide (n - 1) hF rfl (by omega) (W.heap.size + 1 + 1) (W.heap.size + 1) n₀ (W.heap.size + 1) (W.heap.size + 1 + 1 + 1) tb _ N a e hE hN hPd _ (by simp; omega) c2.cell (c1.alloc _).cell (Nat.le_refl _) (by omega) (by omega) (by omega) (by simp) (hTW.below (hB0.mono (by omega)))) kpx_t
    (fun X o o' g1 g2 g3 => kpx_b (w := (((W.alloc (.cells #[.func (.yield l) #[] #[]] 82)).alloc (.cells #[.pointer (some ⟨tb, 0, none⟩)] 148)).alloc (.cells #[.int .i64 (a : Int)] 2))) (by simp; omega) (by simp) X _ o o' (by omega) g1 g2 g3) (Below.refl _ _) (fun _ => rfl)
    (fun P X => J (kidsT a (P.map Subtype.val)) X ∧ X.cell? ⟨ba, 0, none⟩ = some (.int .i64 (a : Int)) ∧ Boxed X W.heap.size 82 (.func (.yield l) #[] #[]) ∧ Boxed X (W.heap.size + 1 + 1) 2 (.int .i64 (a : Int)))
    (fun c P X => c = .ret ∧ Jx (kidsT a (P.map Subtype.val)) X)
    (OwnFrom.and (fun s A B row hs hg hr => OwnFrom.mono' hJ (by simp; omega) _ A B row hs hg hr) (OwnFrom.and (Own.from (fun s A B row hs hg hr => cell_kept hs hg hr) _) (OwnFrom.and (Own.from (boxed_own _ _ _) _) (Own.from (boxed_own _ _ _) _))))
    (fun c s A B row hs hg hr => ⟨hs.1, OwnFrom.mono' hJx (by simp; omega) _ A B row hs.2 hg hr⟩)
    ⟨hJ.alloc _ (hJ.alloc _ (hJ.alloc _ h0)), cell_laid _ (cell_laid _ (cell_laid _ ca)), (c0.alloc _).alloc _, c2⟩
    (fun x a' X => ∃ Bx, X.heap[Bx]? = some (.cells #[.int .i64 x.1.2.parent, .int .i64 x.1.2.kind, .int .i64 x.1.2.num, .string x.1.2.name] 186 (0, 0)) ∧ a' = actK bt ba W.heap.size tb Bx l (a : Int) x.1)
    (fun x a' s X X' row hs hg hr => by obtain ⟨Bx, h2, h3⟩ := hs; exact ⟨Bx, ownFrom_block _ Bx _ rfl s X X' row h2 hg hr, h3⟩) ?assign ?body ?done ?stop
  case assign =>
    rintro l' pre ⟨⟨z, t⟩, hx⟩ X K ⟨hJ1, hca, hb, hb2⟩ hK
    have hlt := hb2.lt
    gi_wp2
    exact hK _ _ ((KeepsOthers.alloc _ _).from _) (kpx_below ((Below.refl _ _).alloc (Nat.le_refl _) _) (by omega) (by omega)) ⟨hJ.alloc _ hJ1, cell_laid _ hca, hb.alloc _, hb2.alloc _⟩ ⟨X.heap.size, World.alloc_heap_new _ _, rfl⟩
  case body =>
    rintro l' pre ⟨⟨z, t⟩, hx⟩ a' X ⟨hJ1, hca, hb, hb2⟩ ⟨Bx, hn0, rfl⟩ hpx hmm
    have hmm' : W.heap.size + 5 ≤ X.heap.size := by simp at hmm; omega
    have d0 : X.cell? ⟨Bx, 0, none⟩ = some (.int .i64 t.parent) := (cell_of_row X Bx 0 _ _ _ hn0).trans rfl
    have hcy := hb.cell
    have h3 : 1 ≤ n - 1 - 1 := by omega
    have em : (pre ++ [(⟨(z, t), hx⟩ : Told)]).map Subtype.val = pre.map Subtype.val ++ [(z, t)] := by simp
    cases hpa : (t.parent == (a : Int)) with
    | true =>
      have ek : kidsT a ((pre ++ [(⟨(z, t), hx⟩ : Told)]).map Subtype.val) = kidsT a (pre.map Subtype.val) ++ [z] := by rw [em, kidsT_hit _ _ _ hpa]
      have hlen : kidsT a (pre.map Subtype.val) ++ [z] <+: kidsT a (tellN N a (e - a)) := by rw [← ek]; exact kidsT_pre hpx
      obtain ⟨fn, tmps, assign, body, hy, hR⟩ := hY _ z X hJ1 hlen hmm'
      have hR' := (roundIn_any (m := n - 1 - 1 - 1) (l' := l') hR).mono (R' := fun r X' => ∃ b, r = .returned (.bool b) ∧ (((b = true ∧ J (kidsT a (pre.map Subtype.val) ++ [z]) X') ∨ (b = false ∧ Jx (kidsT a (pre.map Subtype.val) ++ [z]) X')) ∧ Kpk n₀ lo hi W.heap.size 5 X X' ∧ KeepsFrom W.heap.size X X'))
        (fun r X' h => by
          obtain ⟨⟨g1, g2⟩ | ⟨g1, g2⟩, g3, g4⟩ := h
          · exact ⟨true, g1, .inl ⟨rfl, g2⟩, g3, g4⟩
          · exact ⟨false, g1, .inr ⟨rfl, g2⟩, g3, g4⟩)
      have HE : Hid (kidsT a ((pre ++ [(⟨(z, t), hx⟩ : Told)]).map Subtype.val) = kidsT a (pre.map Subtype.val) ++ [z]) := ek
      clear hR ek em hY
      gi_wp2_with (refine hR'.mono ?_; rintro r X' ⟨b, rfl, hpost, hk, hf⟩; cases b)
      · have hJx1 := hpost.elim (fun h => absurd h.1 (by simp)) (fun h => h.2)
        exact ⟨keepsFrom_mono hf (by simp; omega), ⟨hk.1.1, fun b l1 l2 => hk.2 b (by omega) (by omega)⟩, rfl, by rw [HE.out]; exact hJx1⟩
      · have hJ3 := hpost.elim (fun h => h.2) (fun h => absurd h.1 (by simp))
        exact ⟨keepsFrom_mono hf (by simp; omega), ⟨hk.1.1, fun b l1 l2 => hk.2 b (by omega) (by omega)⟩, by rw [HE.out]; exact hJ3, (hk.1.cell hlo2 hhi2).trans hca, (hk.2 _ (Nat.le_refl _) (by omega)).trans hb, (hk.2 _ (by omega) (by omega)).trans hb2⟩
    | false =>
      have ek : kidsT a ((pre ++ [(⟨(z, t), hx⟩ : Told)]).map Subtype.val) = kidsT a (pre.map Subtype.val) := by rw [em, kidsT_miss _ _ _ hpa]
      have HE : Hid (kidsT a ((pre ++ [(⟨(z, t), hx⟩ : Told)]).map Subtype.val) = kidsT a (pre.map Subtype.val)) := ek
      clear ek em hY
      gi_wp2
      exact ⟨KeepsFrom.refl _ _, kpx_refl _ _ _ _, by rw [HE.out]; exact hJ1, hca, hb, hb2⟩
  case done =>
    rintro D P X hD hP ⟨hJ1, -⟩ hK
    gi_wp2
    refine ⟨by simp, .inl ⟨_, _, rfl, run_takeDeferred hK, ?_⟩⟩
    refine ⟨_, results_none rfl _ _ _, ⟨_, rfl⟩, .inl ⟨_, rfl, ?_⟩⟩
    rw [← hP]
    exact hJ.putObj _ hJ1 (by simp at hD; omega) hK rfl
  case stop =>
    rintro D c P X hD hP ⟨rfl, hJ1⟩ hK
    gi_wp2
    refine ⟨by simp, .inl ⟨_, _, rfl, run_takeDeferred hK, ?_⟩⟩
    exact ⟨_, results_none rfl _ _ _, ⟨_, rfl⟩, .inr ⟨_, kidsT_pre hP, hJx.putObj _ hJ1 (by simp at hD; omega) hK rfl⟩⟩
end Go.Proofs.YtkdhmijebkhmaaaGreatDoor
namespace Go.Proofs.YtkdhmijebkhmaaaGreatDoor
open Go.RowKit Go.Extern.Stop Go.Stop Go.Extern Num Go.Lib Go.Shelf
attribute [local go_sem] Oper.semAt_some

abbrev actA (A bt ba : Nat) (x : Int) : Act := { tmps := #[.slice none 0 0, .func (.func 156) #[] #[.pointer (some ⟨bt, 0, none⟩), .pointer (some ⟨ba, 0, none⟩)], .pointer (some ⟨A, 0, none⟩), undef, .slice none 0 0, .int .i64 x, .func (.func 156) #[] #[.pointer (some ⟨bt, 0, none⟩), .pointer (some ⟨ba, 0, none⟩)], .int .i64 x, undef, undef, undef, undef, undef], defers := [] }
end Go.Proofs.YtkdhmijebkhmaaaGreatDoor
