/-
  Parts of the proof laid into one text, one behind the other; each says at its head what is proved in it.
-/
import Derived.Test.YtebnonpdaddniaaGreatDoorTellMHt
import Derived.Test.YtebnonpdaddniaaGreatDoorBuildMHt
import Derived.Test.YtebnonpdaddniaaGreatDoorShelfMore
/-
  The program's told and writeTree: the text of data without fault, written along what is told of them; nothing that was there is turned.
-/
namespace Go.Proofs.YtebnonpdaddniaaGreatDoor
open Go.RowKit Go.Extern.Stop Go.Stop Go.Extern Num Go.Lib Go.Shelf
attribute [local go_sem] Oper.semAt_some

theorem told_in (F : Fence) (n : Nat) (hF : ∀ f, F.fn f) (hro : F.round = none) (p : Option Addr) (a : Int) (w : World) :
    CallsIn F n Tryz.prog 219 #[.pointer p, .int .i64 a] w fun e w' => e = .returned (.func (.func 237) #[] #[.pointer (some ⟨w.heap.size, 0, none⟩), .pointer (some ⟨w.heap.size + 1, 0, none⟩)]) ∧
      w' = (w.alloc (.cells #[.pointer p] 102)).alloc (.cells #[.int .i64 a] 2) := by
  refine callsIn_of_wp Tryz.func219 rfl (hF _) ?_ hro
  simp only [Tryz.ntmps219, List.size_toArray, List.length_cons, List.length_nil, Nat.reduceAdd, Nat.reduceSub, Array.replicate_succ, Array.replicate_zero, List.push_toArray, List.append_toArray, List.nil_append, List.cons_append]
  gi_wp2
  go_ret
  exact ⟨rfl, rfl⟩
theorem told_seq {d : List Dat} (Fi : Fine d) (hPd : ∀ (k : Nat) (h : k < (nodes d).length), PdN ((k : Int), (nodes d)[k])) (hd : 0 < d.length) (n₀ tb bt ba : Nat) (w : World) (hn₀ : n₀ ≤ w.heap.size)
    (hBt : w.cell? ⟨bt, 0, none⟩ = some (.pointer (some ⟨tb, 0, none⟩))) (hBa : w.cell? ⟨ba, 0, none⟩ = some (.int .i64 0)) (hbt : bt < w.heap.size) (hba : ba < w.heap.size) (hT : IsTree n₀ w tb (nodes d)) :
    SeqM Tryz.prog 237 #[.pointer (some ⟨bt, 0, none⟩), .pointer (some ⟨ba, 0, none⟩)] (fun x : Int × Bool => #[.int .i64 x.1, .bool x.2]) n₀ (evF d d.length 0) w := fun y M J W hW hn hO hY h0 => by
  have c0 : W.cell? ⟨bt, 0, none⟩ = some (.pointer (some ⟨tb, 0, none⟩)) := (hW.cell (p := ⟨bt, 0, none⟩) hbt).trans hBt
  have c1 : W.cell? ⟨ba, 0, none⟩ = some (.int .i64 0) := (hW.cell (p := ⟨ba, 0, none⟩) hba).trans hBa
  have HC : Hid (Calls Tryz.prog 238 #[.pointer (some ⟨tb, 0, none⟩), .int .i64 0, .func (.yield y) #[] #[]] W fun e W' => e = .returned (.bool true) ∧ J ([] ++ evF d d.length 0) W' ∧ Kq n₀ M W W') :=
    tell_any Fi hPd n₀ W.heap.size tb y M J hO hn (evF d d.length 0) hY d.length 0 [] W hd (by omega) (List.prefix_refl _) h0 (Nat.le_refl _) (hT.below (hW.mono hn₀))
  show Calls Tryz.prog _ #[.func (.yield y) #[] #[], .pointer (some ⟨bt, 0, none⟩), .pointer (some ⟨ba, 0, none⟩)] W _
  clear hY h0 hO hT hPd Fi
  go_enter Tryz.func237, Tryz.ntmps237
  go_wp2_with (go_at_call 238; refine HC.out.mono ?_; rintro e W' ⟨rfl, j, k⟩)
  exact bodyPost_end (v := .tuple #[]) (by simp [results, Tryz.results237]) rfl ⟨⟨_, rfl⟩, j, k.size⟩
theorem Mb.read {b : Nat} {W W' : World} (h : W'.heap[b]? = W.heap[b]?) {k : Nat} (hm : Mb b W' k) : Mb b W k := by
  rcases hm with hm | ⟨p, v, fr, h1, h2⟩
  · exact .inl hm
  · exact .inr ⟨p, v, fr, by rw [← h]; exact h1, h2⟩
theorem BldV.keep {n₀ b : Nat} {v : Value} {bs : List Value} {W W' : World} (h : BldV n₀ b v bs W) (hs : ∀ k, Mb b W k → W'.heap[k]? = W.heap[k]?) : BldV n₀ b v bs W' := by
  obtain ⟨h1, ⟨p, hp, hb⟩, h3, h4⟩ := h
  refine ⟨h1, ⟨p, hp, (hs b (.inl rfl)).trans hb⟩, ?_, h4⟩
  obtain ⟨hl, ⟨e1, e2⟩ | ⟨g, cap, cur, rfl, q1, q2, q3⟩⟩ := h3
  · exact ⟨hl, .inl ⟨e1, e2⟩⟩
  · exact ⟨hl, .inr ⟨g, cap, cur, rfl, q1, (hs g (.inr ⟨p, _, _, hb, rfl⟩)).trans q2, q3⟩⟩
theorem BldV.cells {n₀ b : Nat} {v : Value} {bs : List Value} {W : World} (h : BldV n₀ b v bs W) {k : Nat} (hm : Mb b W k) : ∃ o : Obj, W.heap[k]? = some o ∧ o.isCells = true := by
  have hm' := h.mb.1 hm
  obtain ⟨h1, ⟨p, hp, hb⟩, h3, h4⟩ := h
  rcases hm' with rfl | hm'
  · exact ⟨_, hb, rfl⟩
  · obtain ⟨hl, ⟨e1, e2⟩ | ⟨g, cap, cur, rfl, q1, q2, q3⟩⟩ := h3
    · subst e1; simp [Value.ownBlock] at hm'
    · have : g = k := by simpa [Value.ownBlock] using hm'
      subst this
      exact ⟨_, q2, rfl⟩
theorem kq_mb {n₀ b : Nat} {W W' : World} (hb : Below W.heap.size W W') (hn : n₀ ≤ W.heap.size) (hlt : b < W.heap.size) : Kq n₀ (Mb b) W W' := ⟨hb.mono hn, fun k hk _ => hb.block k hk, fun _ _ hm => Mb.read (hb.block b hlt) hm⟩
theorem BldV.below {n₀ b : Nat} {v : Value} {bs : List Value} {W W' : World} (h : BldV n₀ b v bs W) (hb : Below W.heap.size W W') : BldV n₀ b v bs W' := h.keep fun k hm => by
  obtain ⟨o, ho, _⟩ := h.cells hm
  exact hb.block k (Array.getElem?_eq_some_iff.1 ho).1
theorem cells_str (l : List UInt8) (s : ByteArray) : byteCells l ++ strCells s = byteCells (l ++ s.data.toList) := by simp [byteCells, strCells]
theorem byteCells_len (l : List UInt8) : (byteCells l).length = l.length := by simp [byteCells]
theorem ev_mem {d : List Dat} : ∀ (f a : Nat) (x : Int × Bool), a < d.length → x ∈ evF d f a → ∃ j : Nat, x.1 = (j : Int) ∧ j < d.length
  | 0, _, _, _, h => by simp [evF] at h
  | f + 1, a, x, ha, h => by
    simp only [evF, List.mem_append, List.mem_singleton, List.mem_flatMap] at h
    rcases h with (rfl | ⟨p, hp, hx⟩) | rfl
    · exact ⟨a, rfl, ha⟩
    · obtain ⟨j, rfl, hj, _⟩ := (parts_mem d _ _).1 hp
      exact ev_mem f _ x hj hx
    · exact ⟨a, rfl, ha⟩
/-- A text in the builder; the tree's place; all else as it was. -/
def JL (w : World) (tb : Nat) (l : List UInt8) (X : World) : Prop := (∃ v, BldV w.heap.size (w.heap.size + 1) v (byteCells l) X) ∧ Boxed X w.heap.size 102 (.pointer (some ⟨tb, 0, none⟩)) ∧ Below w.heap.size w X
theorem jl_own (d : List Dat) (w : World) (tb B : Nat) (hB : w.heap.size + 2 ≤ B) : OwnM w.heap.size B (Mb (w.heap.size + 1)) (fun pre => JL w tb (evT d pre)) where
  keep := fun s W W' h hb hl hm => by
    obtain ⟨⟨v, hv⟩, hx, hw⟩ := h
    exact ⟨⟨v, hv.keep hm⟩, (hl _ (by omega)).trans hx, hw.trans hb⟩
  read := fun s W W' h hm b hb => Mb.read (hm _ (.inl rfl)) hb
  cells := fun s W b h hb => by
    obtain ⟨⟨v, hv⟩, -⟩ := h
    exact hv.cells hb
theorem JL.below {w : World} {tb : Nat} {l : List UInt8} {X X' : World} (h : JL w tb l X) (hb : Below X.heap.size X X') : JL w tb l X' := by
  obtain ⟨⟨v, hv⟩, hx, hw⟩ := h
  exact ⟨⟨v, hv.below hb⟩, (hb.block _ hx.lt).trans hx, hw.trans (hb.mono hw.size)⟩
theorem JL.kq {w : World} {tb : Nat} {l : List UInt8} {X X' : World} (h : JL w tb l X) (hb : Below X.heap.size X X') : Kq w.heap.size (Mb (w.heap.size + 1)) X X' := by
  obtain ⟨⟨v, hv⟩, hx, hw⟩ := h
  exact kq_mb hb hw.size hv.lt
theorem JL.not_new {w : World} {tb : Nat} {l : List UInt8} {X : World} (h : JL w tb l X) (o : Obj) : ¬ Mb (w.heap.size + 1) (X.alloc o) X.heap.size := fun hm => by
  obtain ⟨⟨v, hv⟩, hx, hw⟩ := h
  obtain ⟨o', ho, _⟩ := hv.cells (Mb.read (Below.heap_alloc X o _ hv.lt) hm)
  have := (Array.getElem?_eq_some_iff.1 ho).1
  omega
/-- A text written behind the text so far. -/
theorem JL.write {w : World} {tb : Nat} {l : List UInt8} (s : ByteArray) {X : World} (h : JL w tb l X) (hlen : l.length + s.size ≤ 100000) :
    Calls Tryz.prog 86 #[.pointer (some ⟨w.heap.size + 1, 0, none⟩), .string s] X fun e X' => ∃ r, e = .returned r ∧ JL w tb (l ++ s.data.toList) X' ∧ Kq w.heap.size (Mb (w.heap.size + 1)) X X' := by
  obtain ⟨⟨v, hv⟩, hx, hw⟩ := h
  refine (ws_any w.heap.size (w.heap.size + 1) v (byteCells l) s X hv (by rw [byteCells_len]; omega) hw.size).mono ?_
  rintro e X' ⟨r, v', rfl, hv', hk⟩
  rw [cells_str] at hv'
  have hnm : ¬ Mb (w.heap.size + 1) X w.heap.size := fun hm => by
    rcases hv.mb.1 hm with e | e
    · omega
    · exact (hx.not_row (e := 5) (by decide) hv.2.2.1) e.symm
  exact ⟨r, rfl, ⟨⟨v', hv'⟩, (hk.2.1 _ hx.lt hnm).trans hx, hw.trans hk.1⟩, hk⟩
theorem fine_tok {d : List Dat} (Fi : Fine d) (j : Nat) (hj : j < d.length) : dkF d[j] = 0 := by
  obtain ⟨h1, h2, h3, _⟩ := chk_all (Fi.ok j hj hj)
  rw [dk_eq, h1, h2, h3]
  simp
theorem fine_text {d : List Dat} (Fi : Fine d) (j : Nat) (hj : j < d.length) : stepT d ((j : Int), true) = spT d j ++ (tokText ⟨tkD d[j].kind, d[j].num, d[j].name⟩).data.toList := by
  have e : (d[j]?.map (·.kind)).getD 0 = d[j].kind := by simp [hj]
  have e2 : ((d[j]?).map leafT).getD [] = leafT d[j] := by simp [hj]
  simp only [stepT, Int.toNat_natCast, if_true, e, e2]
  congr 1
  rcases Fi.kinds j hj with ⟨h1, _⟩ | ⟨h1, h2, _⟩ | ⟨h1, _⟩ | ⟨h1, _⟩
  · simp [tokText, tkD, h1, leafT]
  · rcases h2 with h2 | h2 <;> simp [tokText, tkD, h1, h2, leafT]
  · simp [tokText, tkD, h1, leafT]
  · simp [tokText, tkD, h1]
theorem fine_end {d : List Dat} (Fi : Fine d) (j : Nat) (hj : j < d.length) : stepT d ((j : Int), false) = if tkD d[j].kind = 1 then [41] else [] := by
  have e : (d[j]?.map (·.kind)).getD 0 = d[j].kind := by simp [hj]
  simp only [stepT, Int.toNat_natCast, e]
  rcases Fi.kinds j hj with ⟨h1, _⟩ | ⟨h1, _⟩ | ⟨h1, _⟩ | ⟨h1, _⟩ <;> simp [tkD, h1]
theorem ev_len {d : List Dat} (Fi : Fine d) (hd : 0 < d.length) {pre : List (Int × Bool)} {x : Int × Bool} (h : pre ++ [x] <+: evF d d.length 0) : (evT d pre).length + (stepT d x).length ≤ 1600 := by
  obtain ⟨t, ht⟩ := h
  have h1 := evT_whole Fi hd
  rw [← ht, evT_append, evT_append, evT_one] at h1
  have h2 := write_small Fi d.length 0 hd
  rw [← h1] at h2
  simp at h2
  omega
abbrev actW (A tb : Nat) (z : Int) (b : Bool) : Act := { tmps := #[.pointer (some ⟨tb, 0, none⟩), .pointer (some ⟨A, 0, none⟩), .string ⟨#[]⟩, .pointer (some ⟨A + 1, 0, none⟩), .int .i64 z, .bool b, undef, .pointer (some ⟨tb, 0, none⟩), .func (.func 237) #[] #[.pointer (some ⟨A + 1 + 1, 0, none⟩), .pointer (some ⟨A + 1 + 1 + 1, 0, none⟩)], .int .i64 z, .bool b, undef, undef, undef, undef, undef, undef, undef, undef, undef, undef, undef, undef, undef, undef, undef, undef, undef, undef, undef, undef, undef, undef, undef, undef, undef, undef], defers := [] }
set_option maxRecDepth 100000 in
set_option maxHeartbeats 4000000 in
theorem wt_any {d : List Dat} (Fi : Fine d) (hPd : ∀ (k : Nat) (h : k < (nodes d).length), PdN ((k : Int), (nodes d)[k])) (hd : 0 < d.length) (hz : ∀ (k : Nat) (h : k < d.length), d[k].name.size ≤ 1048576) (tb : Nat) (w : World) (hL : LT w) (hT : IsTree w.heap.size w tb (nodes d)) :
    Calls Tryz.prog 198 #[.pointer (some ⟨tb, 0, none⟩)] w fun e W' => e = .returned (.string ⟨(writeF d d.length 0).toArray⟩) ∧ Below w.heap.size w W' := by
  have hF : ∀ f, Fence.wide.fn f := fun _ => trivial
  obtain ⟨T, hTe⟩ : ∃ T, T = writeF d d.length 0 := ⟨_, rfl⟩
  rw [← hTe]
  have HTe : Hid (T = writeF d d.length 0) := hTe
  clear hTe
  refine (callsIn_wide (n := 10)).1 ?_
  refine callsIn_of_wp_marks Tryz.func198 rfl trivial ?_ rfl
  simp only [Tryz.ntmps198, List.size_toArray, List.length_cons, List.length_nil, Nat.reduceAdd, Nat.reduceSub, Array.replicate_succ, Array.replicate_zero, List.push_toArray, List.append_toArray, List.nil_append, List.cons_append]
  gi_wp2_with (gi_at_call 219; refine (told_in Fence.wide (10 - 1) hF rfl _ _ _).mono ?_; rintro e w' ⟨rfl, rfl⟩)
  obtain ⟨w4, hw4⟩ : ∃ w4, w4 = ((((w.alloc (.cells #[.pointer (some ⟨tb, 0, none⟩)] 102)).alloc (.cells #[.pointer none, .slice none 0 0] 137)).alloc (.cells #[.pointer (some ⟨tb, 0, none⟩)] 102)).alloc (.cells #[.int .i64 0] 2)) := ⟨_, rfl⟩
  have hs4 : w4.heap.size = w.heap.size + 4 := by rw [hw4]; simp
  have b4 : Below w.heap.size w w4 := by rw [hw4]; exact ((((Below.refl _ w).alloc (Nat.le_refl _) _).alloc (by simp) _).alloc (by simp; omega) _).alloc (by simp; omega) _
  have x0 : Boxed w4 w.heap.size 102 (.pointer (some ⟨tb, 0, none⟩)) := by rw [hw4]; exact (((Boxed.new w _ _).alloc _).alloc _).alloc _
  have x1 : w4.heap[w.heap.size + 1]? = some (.cells #[.pointer none, .slice none 0 0] 137 (0, 0)) := by
    have h := World.alloc_heap_new (w.alloc (.cells #[.pointer (some ⟨tb, 0, none⟩)] 102)) (.cells #[.pointer none, .slice none 0 0] 137)
    rw [World.size_alloc] at h
    rw [hw4]
    exact (Below.heap_alloc _ _ _ (by simp)).trans ((Below.heap_alloc _ _ _ (by simp)).trans h)
  have x2 : Boxed w4 (w.heap.size + 1 + 1) 102 (.pointer (some ⟨tb, 0, none⟩)) := by
    have := Boxed.new ((w.alloc (.cells #[.pointer (some ⟨tb, 0, none⟩)] 102)).alloc (.cells #[.pointer none, .slice none 0 0] 137)) 102 (.pointer (some ⟨tb, 0, none⟩))
    rw [World.size_alloc, World.size_alloc] at this
    rw [hw4]; exact this.alloc _
  have x3 : Boxed w4 (w.heap.size + 1 + 1 + 1) 2 (.int .i64 0) := by
    have := Boxed.new (((w.alloc (.cells #[.pointer (some ⟨tb, 0, none⟩)] 102)).alloc (.cells #[.pointer none, .slice none 0 0] 137)).alloc (.cells #[.pointer (some ⟨tb, 0, none⟩)] 102)) 2 (.int .i64 0)
    rw [World.size_alloc, World.size_alloc, World.size_alloc] at this
    rw [hw4]; exact this
  have j0 : JL w tb (evT d []) w4 := ⟨⟨.slice none 0 0, by omega, ⟨_, .inl rfl, x1⟩, World.ownsRow_nil _ _ _ _, by simp [Value.ownBlock]⟩, x0, b4⟩
  rw [← hw4]
  refine range_M (by omega : 1 ≤ 10) (gf := 237) (lb := #[.pointer (some ⟨w.heap.size + 1 + 1, 0, none⟩), .pointer (some ⟨w.heap.size + 1 + 1 + 1, 0, none⟩)]) rfl (enters_of Tryz.func237 (by kernel_rfl) rfl)
    (told_seq Fi hPd hd w.heap.size tb (w.heap.size + 1 + 1) (w.heap.size + 1 + 1 + 1) w4 (by omega) x2.cell x3.cell (by omega) (by omega) (hT.below b4)) (Below.refl _ _) (by omega) (fun _ => rfl)
    (Mb (w.heap.size + 1)) (fun pre => JL w tb (evT d pre)) (jl_own d w tb _ (by omega)) j0
    (fun x a' _ => a' = actW w.heap.size tb x.1 x.2) (fun _ _ _ _ _ _ h _ _ _ => h) ?assign ?body ?done
  case assign =>
    rintro l' pre x X K hI _ _ hK
    gi_wp2
    exact hK _ _ (Kq.refl _ _ _) hI rfl
  case body =>
    rintro l' pre ⟨z, b⟩ a' X hJ rfl hpx hs
    obtain ⟨j, hj1, hj⟩ := ev_mem d.length 0 (z, b) hd (hpx.subset (by simp))
    obtain rfl : z = (j : Int) := hj1
    have hlen := ev_len Fi hd hpx
    have hFr : ∀ f, (Fence.wide.inRound l').fn f := fun _ => trivial
    have hjn : j < (nodes d).length := by rw [nodes_len]; exact hj
    obtain ⟨ao, g, cap, hc, htb, hg, hao, hrow⟩ := hT.below hJ.2.2
    obtain rfl := hao (by intro h; rw [h] at hjn; simp at hjn)
    obtain ⟨c0, c1, c2, c3⟩ := hrow j hjn
    rw [nodes_at d j hj] at c0 c1 c2 c3
    have d0 := hJ.2.1.cell
    have hjl : (j : Int) < ((nodes d).length : Int) := by omega
    have hj0 : (0 : Int) ≤ (j : Int) := by omega
    have hj3 : j < 1000 := by have := Fi.len; omega
    have hst : evT d (pre ++ [((j : Int), b)]) = evT d pre ++ stepT d ((j : Int), b) := by rw [evT_append, evT_one]
    have HJ : Hid (JL w tb (evT d pre) X) := hJ
    have HT : Hid (∀ u, LT u → Calls Tryz.prog 110 #[.agg #[.int .i64 (tkD d[j].kind), .int .i64 d[j].num, .string d[j].name]] u fun e w' => e = .returned (.agg #[.int .i64 0, .string (tokText ⟨tkD d[j].kind, d[j].num, d[j].name⟩)]) ∧ Below u.heap.size u w') := fun u hu => by
      have h := implTT_any ⟨tkD d[j].kind, d[j].num, d[j].name⟩ u hu (by have := hz j hj; show d[j].name.size ≤ _; omega)
      have e : TT ⟨tkD d[j].kind, d[j].num, d[j].name⟩ = .agg #[.int .i64 0, .string (tokText ⟨tkD d[j].kind, d[j].num, d[j].name⟩)] := by
        have h0 : tokFault ⟨tkD d[j].kind, d[j].num, d[j].name⟩ = 0 := fine_tok Fi j hj
        simp [TT, h0]
      rw [e] at h
      exact h
    have hEnd := fine_end Fi j hj
    have hTxt := fine_text Fi j hj
    have hpar := par_at d j hj
    obtain ⟨t, ht⟩ : ∃ t, t = d[j] := ⟨_, rfl⟩
    rw [← ht] at HT c0 c1 c2 c3 hEnd hTxt hpar
    obtain ⟨kd, hkd⟩ : ∃ kd, kd = tkD t.kind := ⟨_, rfl⟩
    have c1' : X.cell? ⟨g, j * 4 + 1, none⟩ = some (.int .i64 kd) := by rw [hkd]; exact c1
    have c0' : X.cell? ⟨g, j * 4, none⟩ = some (.int .i64 t.parent) := c0
    have c2' : X.cell? ⟨g, j * 4 + 2, none⟩ = some (.int .i64 t.num) := c2
    have c3' : X.cell? ⟨g, j * 4 + 3, none⟩ = some (.string t.name) := c3
    rw [← hkd] at HT hEnd hTxt
    have jY : JL w tb (evT d pre) (X.alloc (.cells #[.int .i64 t.parent, .int .i64 kd, .int .i64 t.num, .string t.name] 210)) := HJ.out.below ((Below.refl _ X).alloc (Nat.le_refl _) (.cells #[.int .i64 t.parent, .int .i64 kd, .int .i64 t.num, .string t.name] 210))
    have kY : Kq w.heap.size (Mb (w.heap.size + 1)) X (X.alloc (.cells #[.int .i64 t.parent, .int .i64 kd, .int .i64 t.num, .string t.name] 210)) := HJ.out.kq ((Below.refl _ X).alloc (Nat.le_refl _) (.cells #[.int .i64 t.parent, .int .i64 kd, .int .i64 t.num, .string t.name] 210))
    have nY : ¬ Mb (w.heap.size + 1) (X.alloc (.cells #[.int .i64 t.parent, .int .i64 kd, .int .i64 t.num, .string t.name] 210)) X.heap.size := HJ.out.not_new _
    have JY : Hid (JL w tb (evT d pre) (X.alloc (.cells #[.int .i64 t.parent, .int .i64 kd, .int .i64 t.num, .string t.name] 210))) := jY
    have KY : Hid (Kq w.heap.size (Mb (w.heap.size + 1)) X (X.alloc (.cells #[.int .i64 t.parent, .int .i64 kd, .int .i64 t.num, .string t.name] 210))) := kY
    have NY : Hid (¬ Mb (w.heap.size + 1) (X.alloc (.cells #[.int .i64 t.parent, .int .i64 kd, .int .i64 t.num, .string t.name] 210)) X.heap.size) := nY
    clear c0 c1 c2 c3 ht hkd hrow hao hJ jY kY nY
    cases b with
    | false =>
      rw [hEnd] at hst hlen
      by_cases hk : kd = 1
      · rw [if_pos hk] at hst hlen
        subst hk
        have HST : Hid (evT d (pre ++ [((j : Int), false)]) = evT d pre ++ [41]) := hst
        have HW : Hid (∀ Y, JL w tb (evT d pre) Y → Calls Tryz.prog 86 #[.pointer (some ⟨w.heap.size + 1, 0, none⟩), .string ⟨#[41]⟩] Y fun e X' => ∃ r, e = .returned r ∧ JL w tb (evT d pre ++ [41]) X' ∧ Kq w.heap.size (Mb (w.heap.size + 1)) Y X') := fun Y hY => hY.write ⟨#[41]⟩ (by have : (⟨#[41]⟩ : ByteArray).size = 1 := rfl; omega)
        clear hst hlen hEnd hTxt hpar HT hpx
        gi_wp2_with (gi_at_call 86; refine (((callsIn_wide (n := 10 - 1 - 1 - 1)).2 (HW.out _ JY.out)).inRound l').mono ?_; rintro r X' ⟨v, rfl, hJ', hk'⟩)
        exact ⟨KY.out.trans hk', by show JL w tb (evT d _) _; rw [HST.out]; exact hJ'⟩
      · rw [if_neg hk, List.append_nil] at hst
        have hkb : (kd == 1) = false := beq_false_of_ne hk
        have HST : Hid (evT d (pre ++ [((j : Int), false)]) = evT d pre) := hst
        clear hst hlen hEnd hTxt hpar HT hpx
        gi_wp2
        exact ⟨KY.out, by show JL w tb (evT d _) _; rw [HST.out]; exact JY.out⟩
    | true =>
      rw [hTxt] at hst hlen
      obtain ⟨tx, htx⟩ : ∃ tx, tx = tokText ⟨kd, t.num, t.name⟩ := ⟨_, rfl⟩
      rw [← htx] at hst hlen HT
      clear htx
      have hfd : ∀ u : World, (Instr.field 31 (.agg #[.int .i64 0, .string tx]) 1).run Tryz.prog u = .ok (.string tx) u := fun u => by kernel_rfl
      have hsz : tx.data.toList.length = tx.size := by rw [Array.length_toList]; rfl
      have e1 : (X.alloc (.cells #[.int .i64 t.parent, .int .i64 kd, .int .i64 t.num, .string t.name] 210)).cell? ⟨X.heap.size, 1, none⟩ = some (.int .i64 kd) := (cell_of_heap (World.alloc_heap_new X _) 1).trans rfl
      have e2 : (X.alloc (.cells #[.int .i64 t.parent, .int .i64 kd, .int .i64 t.num, .string t.name] 210)).cell? ⟨X.heap.size, 2, none⟩ = some (.int .i64 t.num) := (cell_of_heap (World.alloc_heap_new X _) 2).trans rfl
      have e3 : (X.alloc (.cells #[.int .i64 t.parent, .int .i64 kd, .int .i64 t.num, .string t.name] 210)).cell? ⟨X.heap.size, 3, none⟩ = some (.string t.name) := (cell_of_heap (World.alloc_heap_new X _) 3).trans rfl
      have E1 : Hid ((X.alloc (.cells #[.int .i64 t.parent, .int .i64 kd, .int .i64 t.num, .string t.name] 210)).cell? ⟨X.heap.size, 1, none⟩ = some (.int .i64 kd) ∧ (X.alloc (.cells #[.int .i64 t.parent, .int .i64 kd, .int .i64 t.num, .string t.name] 210)).cell? ⟨X.heap.size, 2, none⟩ = some (.int .i64 t.num) ∧ (X.alloc (.cells #[.int .i64 t.parent, .int .i64 kd, .int .i64 t.num, .string t.name] 210)).cell? ⟨X.heap.size, 3, none⟩ = some (.string t.name)) := ⟨e1, e2, e3⟩
      clear e1 e2 e3
      have HW : Hid (∀ l Y, l.length ≤ 50000 → JL w tb l Y → Calls Tryz.prog 86 #[.pointer (some ⟨w.heap.size + 1, 0, none⟩), .string tx] Y fun e X' => ∃ r, e = .returned r ∧ JL w tb (l ++ tx.data.toList) X' ∧ Kq w.heap.size (Mb (w.heap.size + 1)) Y X') := fun l Y hl hY => hY.write tx (by simp at hlen; omega)
      by_cases hp : t.parent = (j : Int) - 1
      · have hpb : (t.parent != (j : Int) - 1) = false := by simpa using hp
        have hsp : spT d j = [] := by unfold spT; rw [hpar, if_pos hp]
        rw [hsp, List.nil_append] at hst hlen
        have HST : Hid (evT d (pre ++ [((j : Int), true)]) = evT d pre ++ tx.data.toList) := hst
        have hlp : (evT d pre).length ≤ 50000 := by omega
        clear hst hlen hEnd hTxt hpar hpx hp hsp
        gi_wp2_with (first | (gi_at_call 110; refine (((callsIn_wide (n := 10 - 1 - 1 - 1)).2 (HT.out _ (hL.below JY.out.2.2))).inRound l').mono ?_; rintro r X3 ⟨rfl, b3⟩) | (gi_at_call 86; refine (((callsIn_wide (n := 10 - 1 - 1 - 1)).2 (HW.out _ _ hlp (JY.out.below b3))).inRound l').mono ?_; rintro r X' ⟨v, rfl, hJ', hk'⟩))
        gi_wp2
        exact ⟨(KY.out.trans (JY.out.kq b3)).trans hk', by show JL w tb (evT d _) _; rw [HST.out]; exact hJ'⟩
      · have hpb : (t.parent != (j : Int) - 1) = true := by simpa using hp
        have hsp : spT d j = [32] := by unfold spT; rw [hpar, if_neg hp]
        rw [hsp] at hst hlen
        have HST : Hid (evT d (pre ++ [((j : Int), true)]) = (evT d pre ++ [32]) ++ tx.data.toList) := by show _ = _; rw [hst, List.append_assoc]
        have hlp : (evT d pre ++ [32]).length ≤ 50000 := by simp at hlen ⊢; omega
        have HB : Hid (∀ Y, JL w tb (evT d pre) Y → Calls Tryz.prog 86 #[.pointer (some ⟨w.heap.size + 1, 0, none⟩), .string ⟨#[32]⟩] Y fun e X' => ∃ r, e = .returned r ∧ JL w tb (evT d pre ++ [32]) X' ∧ Kq w.heap.size (Mb (w.heap.size + 1)) Y X') := fun Y hY => hY.write ⟨#[32]⟩ (by have : (⟨#[32]⟩ : ByteArray).size = 1 := rfl; omega)
        have hsY : X.heap.size < (X.alloc (.cells #[.int .i64 t.parent, .int .i64 kd, .int .i64 t.num, .string t.name] 210)).heap.size := by simp
        clear hst hlen hEnd hTxt hpar hpx hp hsp
        gi_wp2_with (first | (gi_at_call 110; refine (((callsIn_wide (n := 10 - 1 - 1 - 1)).2 (HT.out _ (hL.below j2.2.2))).inRound l').mono ?_; rintro r X3 ⟨rfl, b3⟩) | (gi_at_call 86; refine (((callsIn_wide (n := 10 - 1 - 1 - 1)).2 (HW.out _ _ hlp (j2.below b3))).inRound l').mono ?_; rintro r X' ⟨v, rfl, hJ', hk'⟩) | (gi_at_call 86; refine (((callsIn_wide (n := 10 - 1 - 1 - 1)).2 (HB.out _ JY.out)).inRound l').mono ?_; rintro r X2 ⟨v2, rfl, j2, k2⟩; have q1 := (k2.cell (j := 1) hsY NY.out).trans E1.out.1; have q2 := (k2.cell (j := 2) hsY NY.out).trans E1.out.2.1; have q3 := (k2.cell (j := 3) hsY NY.out).trans E1.out.2.2))
        gi_wp2
        exact ⟨((KY.out.trans k2).trans (j2.kq b3)).trans hk', by show JL w tb (evT d _) _; rw [HST.out]; exact hJ'⟩
  case done =>
    rintro X hJ hs hK
    have ew := evT_whole Fi hd
    have hJ' : JL w tb (evT d (evF d d.length 0)) X := hJ
    rw [ew, ← show T = _ from HTe.out] at hJ'
    obtain ⟨⟨v, hv⟩, hx, hw⟩ := hJ'
    have HS : Hid (Calls Tryz.prog 87 #[.pointer (some ⟨w.heap.size + 1, 0, none⟩)] X fun e w' => e = .returned (.string ⟨T.toArray⟩) ∧ _ ∧ Below w.heap.size X w' ∧ OthersKept 5 (some (w.heap.size + 1)) X w') := Tryz.Builder_String_any_k w.heap.size (w.heap.size + 1) T X (IsBuilderF.of hv.is) hw.size
    clear ew hJ
    gi_wp2_with (gi_at_call 87; refine ((callsIn_wide (n := 10 - 1)).2 HS.out).mono ?_; rintro r X' ⟨rfl, -, hb, hok⟩)
    rw [hs4] at hK
    have hK' : X'.heap[w.heap.size + 1 + 1 + 1 + 1]? = some (.deferred (some [])) := hok _ _ hK (by simp; omega) (fun _ _ h => by cases h)
    refine ⟨by simp, .inl ⟨_, _, rfl, run_takeDeferred hK', ?_⟩⟩
    exact ⟨_, results_tmp rfl _ _ _, rfl, (hw.trans hb).trans (below_put _ _ _ _ (by omega))⟩
end Go.Proofs.YtebnonpdaddniaaGreatDoor
