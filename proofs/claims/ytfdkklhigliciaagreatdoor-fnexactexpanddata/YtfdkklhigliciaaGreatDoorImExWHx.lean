/-
  Parts of the proof laid into one text, one behind the other; each says at its head what is proved in it.
-/
import Derived.Test.YtfdkklhigliciaaGreatDoorImExUHx
import Derived.Test.YtfdkklhigliciaaGreatDoorExpBoundHx
import Derived.Test.YtfdkklhigliciaaGreatDoorResCoreHx
/-
  The program's expandWhole: the cores that data come to, in a row of their own, or the panic that carries a code.
-/
namespace Go.Proofs.YtfdkklhigliciaaGreatDoor
open Go.RowKit Go.Extern.Stop Go.Stop Go.Extern Num Go.Lib Go.Shelf

/-- What expandWhole comes to. -/
def wholeF (l : List Dat) : Int × List Cor :=
  if (expF l l.length 0 (-1) [] []).1 ≠ 0 then ((expF l l.length 0 (-1) [] []).1, [])
  else if 160 < (expF l l.length 0 (-1) [] []).2.length then (2, [])
  else (0, (expF l l.length 0 (-1) [] []).2)
/-- What expandWhole answers. -/
def AnsW (B m : Nat) (r : Int × List Cor) (w : World) (e : Ending) (w' : World) : Prop :=
  ((r.1 = 0 ∧ ∃ P ao c, e = .returned (.slice ao P.length c) ∧ CV w' B (.slice ao P.length c) P ∧ apartCr P ∧ P.map Prod.fst = r.2) ∨ (r.1 ≠ 0 ∧ e = .panicked (pan r.1))) ∧ Kx B m w w'
set_option maxRecDepth 100000 in
set_option maxHeartbeats 2000000 in
theorem whole_any (l : List Dat) (hF : Fine l) (hz : ∀ (k : Nat) (h : k < l.length), l[k].name.size ≤ 1048576) (w : World) (B m tb : Nat) (h : XS w B m tb l []) :
    Calls Tryz.prog 24 #[.pointer (some ⟨m, 0, none⟩)] w fun e w' => AnsW B m (wholeF l) w e w' := by
  obtain ⟨Q, HQ⟩ : ∃ Q, Hid (Q = expF l l.length 0 (-1) [] []) := ⟨_, rfl⟩
  obtain ⟨R, HR⟩ : ∃ R, Hid (R = wholeF l) := ⟨_, rfl⟩
  rw [← show R = _ from HR.out]
  have HR1 : Hid (R = if Q.1 ≠ 0 then (Q.1, []) else if 160 < Q.2.length then (2, []) else (0, Q.2)) := by
    show _ = _
    rw [show R = _ from HR.out, show Q = _ from HQ.out]
    rfl
  have HX : Hid (Calls Tryz.prog 52 #[.pointer (some ⟨m, 0, none⟩), .int .i64 0, .int .i64 (-1), .pointer none] w fun e w' => AnsE B m tb l Q w e w') := by
    show Calls _ _ _ _ _
    rw [show Q = _ from HQ.out]
    exact expand_any l hF hz l.length w B m tb 0 (-1) none [] [] h rfl hF.pos (by omega) (.inl ⟨rfl, rfl, rfl⟩) (by have := hF.len; simp; omega) (exp_few hF)
  obtain ⟨i0, hi, hz0, hz1, hz2⟩ := info_parts infoC
  clear h HR HQ
  by_cases hq : Q.1 = 0
  case neg =>
    have HXb : Hid (Calls Tryz.prog 52 #[.pointer (some ⟨m, 0, none⟩), .int .i64 0, .int .i64 (-1), .pointer none] w fun e w' => e = .panicked (pan Q.1) ∧ Kx B m w w') := HX.out.mono fun e w' h => by
      obtain ⟨⟨h0, _⟩ | ⟨_, h1⟩, h3⟩ := h
      · exact absurd h0 hq
      · exact ⟨h1, h3⟩
    have HN : Hid (R.1 = Q.1 ∧ Q.1 ≠ 0) := ⟨by rw [show R = _ from HR1.out, if_pos hq], hq⟩
    clear HX HR1 hq
    go_enter Tryz.func24, Tryz.ntmps24
    go_wp2_with fail
    refine HXb.out.mono ?_
    rintro e w2 ⟨rfl, hk⟩
    have HA : Hid (AnsW B m R w (.panicked (pan Q.1)) w2) := ⟨.inr ⟨by rw [HN.out.1]; exact HN.out.2, by rw [HN.out.1]⟩, hk⟩
    clear hk
    exact ⟨rfl, HA.out⟩
  have HXb : Hid (Calls Tryz.prog 52 #[.pointer (some ⟨m, 0, none⟩), .int .i64 0, .int .i64 (-1), .pointer none] w fun e w' => e = .returned (.tuple #[]) ∧ XS w' B m tb l Q.2 ∧ Kx B m w w') := HX.out.mono fun e w' h => by
    obtain ⟨⟨_, h1, h2⟩ | ⟨h1, _⟩, h3⟩ := h
    · exact ⟨h1, h2, h3⟩
    · exact absurd hq h1
  have HR2 : Hid (R = if 160 < Q.2.length then (2, []) else (0, Q.2)) := by show _ = _; rw [show R = _ from HR1.out, if_neg (fun e => e hq)]
  clear HX HR1 hq
  go_enter Tryz.func24, Tryz.ntmps24
  go_wp2_with fail
  refine HXb.out.mono ?_
  rintro e w2 ⟨rfl, ⟨P, hx, hP⟩, hk2⟩
  obtain ⟨v, hv⟩ := hx.hC
  obtain ⟨av, cv, rfl⟩ := own_form hv.2.1
  have c1 := hv.1
  have hPl : P.length = Q.2.length := by rw [← hP, List.length_map]
  have HSz : Hid (Calls Tryz.prog 54 #[.pointer (some ⟨m, 1, none⟩)] w2 fun e w' => e = .returned (.int .i64 (P.length : Nat)) ∧ w' = w2) := size_atX m P.length cv av w2 c1
  have HK2 : Hid (Kx B m w w2) := hk2
  have HXp : Hid (Xp w2 B m tb l P) := hx
  have HP : Hid (P.map Prod.fst = Q.2) := hP
  have HRow : Hid (w2.ownsRow B 100 7 (.slice av P.length cv) P.length (cellsNC P)) := hv.2.1
  clear hx hv hk2 hP HXb
  by_cases h6 : 160 < P.length
  · have h6b : decide ((P.length : Int) ≤ 160) = false := decide_eq_false (by omega)
    have HN : Hid (R.1 = 2) := by show _ = _; rw [show R = _ from HR2.out, if_pos (by omega)]
    clear HR2 hPl
    go_wp2_with (first | (go_at_call 54; refine HSz.out.mono ?_; rintro e w' ⟨rfl, hw'⟩; replace hw' := hw'.symm; subst hw') | (go_at_call 53; refine (demand_no _ _).mono ?_; rintro e wd1 ⟨rfl, hwd⟩; replace hwd := hwd.symm; subst hwd))
    exact ⟨rfl, .inr ⟨by rw [HN.out]; decide, by rw [HN.out]⟩, HK2.out⟩
  have h6b : decide ((P.length : Int) ≤ 160) = true := decide_eq_true (by omega)
  have HN : Hid (R = (0, Q.2)) := by show _ = _; rw [show R = _ from HR2.out, if_neg (by omega)]
  clear HR2 hPl
  go_wp2_with (first | (go_at_call 54; refine HSz.out.mono ?_; rintro e w' ⟨rfl, hw'⟩; replace hw' := hw'.symm; subst hw') | (go_at_call 53; refine (demand_yes _ _).mono ?_; rintro e wd1 ⟨rfl, hwd⟩; replace hwd := hwd.symm; subst hwd))
  go_loopw [3, 20] (fun v x wr => ∃ (k : Nat) (ao : Option Addr) (c : Nat), k ≤ P.length ∧ x = .int .i64 (k : Int) ∧ v = .slice ao k c ∧ Hid (wr.ownsRow w2.heap.size 78 6 (.slice ao k c) k (cellsC (P.take k))) ∧ Hid (Below w2.heap.size w2 wr)) (fun _ x _ => P.length - (RowKit.intOf x).toNat)
  case atStart => exact ⟨0, none, 0, Nat.zero_le _, rfl, rfl, World.ownsRow_nil _ _ _ _, Below.refl _ _⟩
  case round =>
    obtain ⟨k, ao, c, hk, rfl, rfl, HO, HB⟩ := hrel
    have hsr : w2.heap.size ≤ wr.heap.size := HB.out.size
    by_cases hlt : k < P.length
    · obtain ⟨g, c', hsl, -, -⟩ := HRow.out.form (by omega)
      obtain ⟨rfl, rfl⟩ : av = some ⟨g, 0, none⟩ ∧ cv = c' := by simp at hsl; exact hsl
      obtain ⟨c0, c2, c3, c4, c5, c6, c7⟩ := RowNC.of HRow.out k hlt
      replace c0 := cell_keep HB.out c0
      replace c2 := cell_keep HB.out c2
      replace c3 := cell_keep HB.out c3
      replace c4 := cell_keep HB.out c4
      replace c5 := cell_keep HB.out c5
      replace c6 := cell_keep HB.out c6
      replace c7 := cell_keep HB.out c7
      obtain ⟨ad, cd, hdv⟩ := own_form (HXp.out.dat P[k] (List.getElem_mem hlt))
      have HT : Hid (P.take (k + 1) = P.take k ++ [P[k]]) := by show _ = _; rw [List.take_succ_eq_append_getElem hlt]
      have HCk : Hid (cellsC [P[k]] = [.int .i64 P[k].1.kind, .int .i64 P[k].1.parent, .int .i64 P[k].1.a, .int .i64 P[k].1.b, .string P[k].1.name, P[k].2]) := rfl
      generalize P[k] = t at c0 c2 c3 c4 c5 c6 c7 hdv HT HCk
      obtain ⟨⟨tk, tp, ta, tn, tz, td⟩, tv⟩ := t
      simp only at c0 c2 c3 c4 c5 c6 c7 hdv HCk
      subst hdv
      clear hsl
      go_wp2_with (first | (at_builtin; refine wpList_append_lies _ rfl (.tmp 24) (.tmp 27) 24 rfl w2.heap.size 78 i0 _ 6 72 Tryz.underlying24 hi hz0 hz1 hz2 rfl (by decide) _ k (cellsC (P.take k)) rfl ((HO.out.alloc _).alloc _) ⟨_, 0, none⟩ 1 1 [.int .i64 tk, .int .i64 tp, .int .i64 ta, .int .i64 tn, .string tz, .slice ad td.length cd] rfl rfl ?c1 ?c2 (by decide) ?c3 ?c4 ?c5 _ rfl ?_))
      case c1 => exact World.news_of_block (cs := #[.int .i64 tk, .int .i64 tp, .int .i64 ta, .int .i64 tn, .string tz, .slice ad td.length cd]) (t := 78) (fr := (0, 0)) (heap_new' _ _ _ (by simp))
      case c2 => simp [Value.oneCell']
      case c3 => unfold maxLen; omega
      case c4 => omega
      case c5 => simp; omega
      intro g' cap' w3 hown1 hgrow1 _ _
      have HO3 : Hid (w3.ownsRow w2.heap.size 78 6 (.slice (some ⟨g', 0, none⟩) (k + 1) cap') (k + 1) (cellsC (P.take (k + 1)))) := by
        show World.ownsRow _ _ _ _ _ _ _
        rw [show P.take (k + 1) = _ from HT.out, cellsC_append, show cellsC [_] = _ from HCk.out]
        exact hown1
      have HB3 : Hid (Below w2.heap.size w2 w3) := ((HB.out.alloc hsr _).alloc (by simp; omega) _).grown hgrow1 (by simp; omega) (fun j hj => (HO.out.lt j hj).1)
      clear hown1 hgrow1 c0 c2 c3 c4 c5 c6 c7
      go_wp2
      exact ⟨⟨k + 1, some ⟨g', 0, none⟩, cap', by omega, by go_num, rfl, HO3.out, HB3.out⟩, by simp [RowKit.intOf]; omega⟩
    · have hkl : k = P.length := by omega
      have HA : Hid (AnsW B m R w (.returned (.slice ao P.length c)) wr) := by
        have ho := HO.out
        rw [hkl, List.take_length] at ho
        refine ⟨.inl ⟨by rw [HN.out], P, ao, c, rfl, ⟨own_base ho HXp.out.hi, fun i h => own_below (HXp.out.dat _ (List.getElem_mem h)) HB.out⟩, HXp.out.far, by rw [HN.out]; exact HP.out⟩, HK2.out.trans (Kx.of_below HB.out (by have := HXp.out.lo; have := HXp.out.hi; omega))⟩
      rw [← hkl] at HA
      clear HO
      go_wp2
      go_ret
      exact HA.out
end Go.Proofs.YtfdkklhigliciaaGreatDoor
