/-
  The program's OpenSegs on pieces (since stage 14): its codes, and stacks in rows of their own; nothing that was there is turned.
-/
import Derived.Test.YtdohpfckiahlcaaSgPcSegs
import Derived.Test.YtdohpfckiahlcaaSgOpenM
namespace Go.Proofs.Ytdohpfckiahlcaa
open Go.RowKit Go.Extern.Stop Go.Stop Go.Extern Num Go.Lib

/-- What layOut answers, as it lies. -/
structure LayA (w : World) (B : Nat) (top : List Int) (tv bp : Value) (C : List Fp) : Prop where
  row : w.ownsRow B 2 1 tv top.length (cellsI top)
  chn : Chn w B bp C
  far : ∀ x ∈ C, farV x.val tv
  apt : AptC C
theorem Chn.base {w : World} {B B' : Nat} (hb : B' ≤ B) : ∀ (C : List Fp) (p : Value), Chn w B p C → Chn w B' p C
  | [], _, h => h
  | _ :: r, _, ⟨q, h1, h2, h3, h4, h5⟩ => ⟨q, h1, by omega, h3, own_base h4 hb, Chn.base hb r q h5⟩
theorem see2 (u : World) (x y : Int) (T : TypeId) : SeeI (u.alloc (.cells #[.int .i64 x, .int .i64 y] T)) (.slice (some ⟨u.heap.size, 0, none⟩) 2 2) [x, y] :=
  ⟨_, _, rfl, fun _ => ⟨_, _, rfl, fun k hk => by
    rw [World.cell?_alloc_at _ _ _ _ rfl]
    match k, hk with
    | 0, _ => rfl
    | 1, _ => rfl⟩⟩
theorem openC_or (size : Int) (l : List Int) : orL [if sizeB size then 0 else 3, if 4000 < (l.length : Int) then 2 else 0] = openC size l := by
  unfold openC
  cases h : sizeB size with
  | false => simp [orL]
  | true =>
    by_cases h3 : 4000 < l.length
    · have h3' : (4000 : Int) < (l.length : Int) := by omega
      simp only [if_pos h3, if_pos h3', orL]; simp
    · have h3' : ¬ (4000 : Int) < (l.length : Int) := by omega
      simp only [if_neg h3, if_neg h3', orL]; simp
set_option maxRecDepth 100000 in
set_option maxHeartbeats 1000000 in
theorem implOs_any (size : Int) (lv : Value) (l : List Int) (B0 : Nat) (w : World) (_hl : l.length ≤ 1048576) (h : w.ownsRow B0 2 1 lv l.length (cellsI l)) :
    Calls Try.prog 19 #[.int .i64 size, lv] w fun e w' => AnsS (openC size l) 0 (openZ size l) (openQ size l) w e w' := by
  obtain ⟨X0, hX0⟩ : ∃ X : Int, X = if sizeB size then 0 else 3 := ⟨_, rfl⟩
  obtain ⟨X1, hX1⟩ : ∃ X : Int, X = if 4000 < (l.length : Int) then 2 else 0 := ⟨_, rfl⟩
  obtain ⟨R, hR⟩ : ∃ R, R = openC size l := ⟨_, rfl⟩
  obtain ⟨Z, hZ⟩ : ∃ Z, Z = openZ size l := ⟨_, rfl⟩
  obtain ⟨Q, hQ⟩ : ∃ Q, Q = openQ size l := ⟨_, rfl⟩
  have HZ : Hid (Z = if R = 0 then size else 0) := by show _ = _; rw [hZ, hR]; rfl
  have HQ : Hid (Q = if R = 0 then openL size.toNat l else []) := by show _ = _; rw [hQ, hR]; rfl
  have HS0 : Hid (∀ u, Calls Try.prog 30 #[.int .i64 size] u fun e w' => e = .returned (.int .i64 X0) ∧ w' = u) := fun u => by rw [hX0]; exact sizeFault_any size u
  have HS1 : Hid (∀ u, Calls Try.prog 31 #[.int .i64 (l.length : Int)] u fun e w' => e = .returned (.int .i64 X1) ∧ w' = u) := fun u => by rw [hX1]; exact manyFault_any _ u
  have HS2 : Hid (Calls Try.prog 29 #[.slice (some ⟨w.heap.size + 1, 0, none⟩) 2 2] ((w.alloc (.cells #[.int .i64 0, .int .i64 0, .int .i64 0, .slice none 0 0] 30)).alloc (.cells #[.int .i64 X0, .int .i64 X1] 2)) fun e w' => e = .returned (.int .i64 R) ∧ w' = (w.alloc (.cells #[.int .i64 0, .int .i64 0, .int .i64 0, .slice none 0 0] 30)).alloc (.cells #[.int .i64 X0, .int .i64 X1] 2)) := by
    rw [hR, ← openC_or, ← hX0, ← hX1]
    have h2 := see2 (w.alloc (.cells #[.int .i64 0, .int .i64 0, .int .i64 0, .slice none 0 0] 30)) X0 X1 2
    rw [show (w.alloc (.cells #[.int .i64 0, .int .i64 0, .int .i64 0, .slice none 0 0] 30)).heap.size = w.heap.size + 1 by simp] at h2
    exact orI_any _ _ _ (by simp) h2
  have HLo : Hid (R = 0 → ∀ u, Below w.heap.size w u → Calls Try.prog 33 #[.int .i64 size, lv] u fun e w' => ∃ top tv bp C, e = .returned (.agg #[.int .i64 size, .int .i64 (l.length : Int), tv, bp]) ∧ LayA w' u.heap.size top tv bp C ∧ partsP C top = openL size.toNat l ∧ Below u.heap.size u w') := fun h0 u hu => by
    obtain ⟨k1, k2, k3⟩ := openC_zero (hR ▸ h0)
    obtain ⟨n, rfl⟩ : ∃ n : Nat, size = (n : Int) := ⟨size.toNat, by omega⟩
    rw [Int.toNat_natCast]
    refine (layOutP_any n lv l B0 u (by omega) (by omega) k3 (own_below h hu)).mono ?_
    rintro e w' ⟨top, tv, bp, C, q1, q2, q3, q4, q5, q6, q7⟩
    exact ⟨top, tv, bp, C, q1, ⟨own_base q2 (by omega), Chn.base (by omega) C bp q3, q4, q5⟩, q6, q7⟩
  have HFn : Hid (R = 0 → FineS size (openL size.toNat l)) := fun h0 => openL_fineS (hR ▸ h0)
  rw [← hR, ← hZ, ← hQ]
  obtain ⟨a, c, rfl⟩ := own_form h
  clear h hX0 hX1 hR hZ hQ
  go_enter Try.func19, Try.ntmps19
  go_wp2_with fail
  refine (HS0.out _).mono ?_
  rintro e w1 ⟨rfl, e1⟩
  replace e1 := e1.symm
  subst e1
  go_wp2_with fail
  refine (HS1.out _).mono ?_
  rintro e w2 ⟨rfl, e1⟩
  replace e1 := e1.symm
  subst e1
  go_wp2_with fail
  refine HS2.out.mono ?_
  rintro e w3 ⟨rfl, e3⟩
  have r0 : w3.cell? ⟨w.heap.size, 0, none⟩ = some (.int .i64 0) := by rw [e3]; simp [go_sem]
  have r1 : w3.cell? ⟨w.heap.size, 1, none⟩ = some (.int .i64 0) := by rw [e3]; simp [go_sem]
  have r2 : w3.cell? ⟨w.heap.size, 2, none⟩ = some (.int .i64 0) := by rw [e3]; simp [go_sem]
  have r3 : w3.cell? ⟨w.heap.size, 3, none⟩ = some (.slice none 0 0) := by rw [e3]; simp [go_sem]
  have rf : ∀ j, w3.frozen? ⟨w.heap.size, j, none⟩ = false := fun j => by rw [e3]; simp [go_sem]
  have hrl : w.heap.size < w3.heap.size := by rw [e3]; simp; omega
  have HB3 : Hid (Below w.heap.size w w3) := by rw [e3]; repeat (first | exact Below.refl _ _ | refine Below.alloc ?_ (by simp <;> omega) _)
  clear e3
  by_cases hc : R = 0
  · have HL2 := HLo.out hc
    have HL3 : Hid (∀ u, Below w.heap.size w u → Calls Try.prog 33 #[.int .i64 size, .slice a l.length c] u fun e w' => ∃ top tv bp C, e = .returned (.agg #[.int .i64 size, .int .i64 (l.length : Int), tv, bp]) ∧ LayA w' u.heap.size top tv bp C ∧ partsP C top = openL size.toNat l ∧ Below u.heap.size u w') := HL2
    have HF : Hid (FineS size (openL size.toNat l)) := HFn.out hc
    have HZ0 : Hid (Z = size) := by show _ = _; rw [HZ.out, if_pos hc]
    have HQ0 : Hid (Q = openL size.toNat l) := by show _ = _; rw [HQ.out, if_pos hc]
    clear HLo HL2 HFn HZ HQ
    subst hc
    go_wp2_with fail
    refine (HL3.out _ HB3.out).mono ?_
    rintro e w4 ⟨top, tv, bp, C, rfl, o4, m4, b4⟩
    have hCl : C.length ≤ 4000 := by
      have h9 := HF.out.len
      rw [← m4] at h9
      unfold partsP at h9
      rw [List.length_append, List.length_reverse, List.length_map] at h9
      omega
    have hsz : size = ((size.toNat : Nat) : Int) := by have := HF.out.lo; omega
    have HSo : Hid (Calls Try.prog 32 #[.agg #[.int .i64 size, .int .i64 (l.length : Int), tv, bp]] w4 fun e w' => ∃ x P, e = .returned (segV size x) ∧ PV 54 w' w3.heap.size x P ∧ P.map Prod.fst = openL size.toNat l ∧ Below w4.heap.size w4 w') := by
      have h9 := segsOfP_any w4 size.toNat (l.length : Int) top tv bp C w3.heap.size o4.row o4.chn o4.far o4.apt hCl b4.size
      rw [← hsz, m4] at h9
      exact h9
    have B4 : Hid (Below w3.heap.size w3 w4) := b4
    clear o4 m4 b4 hCl hsz
    go_wp2_with fail
    refine HSo.out.mono ?_
    rintro e w5 ⟨x, P, rfl, o5, m5, b5⟩
    have HM : Hid (P.map Prod.fst = openL size.toNat l) := m5
    clear m5
    have hb5 : Below w3.heap.size w3 w5 := B4.out.trans (b5.mono B4.out.size)
    have q0 := cell_keep hb5 r0
    have q1 := cell_keep hb5 r1
    have q2 := cell_keep hb5 r2
    have q3 := cell_keep hb5 r3
    have qf : ∀ j, w5.frozen? ⟨w.heap.size, j, none⟩ = false := fun j => by rw [(bcell hb5).2 _ _ hrl]; exact rf j
    have hrl5 : w.heap.size < w5.heap.size := Nat.lt_of_lt_of_le hrl hb5.size
    have HB5 : Hid (Below w.heap.size w w5) := HB3.out.trans (hb5.mono HB3.out.size)
    have HV5 : Hid (PV 54 w5 (w.heap.size + 1) x P) := o5.base hrl
    obtain ⟨ax, cx, hx⟩ := o5.form
    subst hx
    generalize P.length = m at HV5 ⊢
    clear o5 b5 hb5 r0 r1 r2 r3 rf hrl
    go_wp2
    refine bodyPost_ret (v := srV 0 0 size (.slice ax m cx)) (by simp [results, Try.results19, go_sem, q0, q1, q2, q3]) rfl ⟨_, P, by rw [HZ0.out], ?_, by rw [HQ0.out]; exact HM.out, ?_⟩
    · refine PV.base (B := w.heap.size + 1) ?_ (by omega)
      repeat (first | exact HV5.out | refine PV.setLow ?_ (by omega))
    · repeat (first | exact HB5.out | refine Below.setCell ?_ (by simp) _)
  · have hcn : (R != 0) = true := by rw [bne_iff_ne]; exact hc
    have HZ0 : Hid (Z = 0) := by show _ = _; rw [HZ.out, if_neg hc]
    have HQ0 : Hid (Q = []) := by show _ = _; rw [HQ.out, if_neg hc]
    clear hc HZ HQ HLo HFn
    go_wp2
    refine bodyPost_ret (v := srV R 0 0 (.slice none 0 0)) (by simp [results, Try.results19, go_sem, r0, r1, r2, r3]) rfl ⟨_, [], by rw [HZ0.out], pv_nil _ _ _, by rw [HQ0.out]; rfl, ?_⟩
    repeat (first | exact HB3.out | refine Below.setCell ?_ (by simp) _)
end Go.Proofs.Ytdohpfckiahlcaa
