/-
  The program's layOut on pieces: a list laid out by pushes; nothing that was there is turned.
-/
import Derived.Test.YtdohpfckiahlcaaSgPcPush
namespace Go.Proofs.Ytdohpfckiahlcaa
open Go.RowKit Go.Extern.Stop Go.Stop Go.Extern Num Go.Lib

theorem Chn.form {w : World} {B : Nat} {p : Value} {C : List Fp} (h : Chn w B p C) : ∃ bo, p = .pointer bo := by
  cases C with
  | nil => exact ⟨none, h⟩
  | cons x r => obtain ⟨q, h1, _⟩ := h; exact ⟨_, h1⟩
/-- All items lie apart. -/
def AptC (C : List Fp) : Prop := C.Pairwise fun a b => farV b.val a.val
/-- Pieces that hold the parts ps, each one below the highest full. -/
def PcAt (w : World) (b B n : Nat) (cnt : Int) (ps : List (List Int)) : Prop :=
  ∃ top tv bp C, Pcs w b B (n : Int) cnt top tv bp C ∧ partsP C top = ps ∧ (∀ y ∈ C, y.items.length = n) ∧ top.length ≤ n ∧ AptC C
theorem push_any (w : World) (b B n : Nat) (cnt : Int) (ps : List (List Int)) (x : Int) (hP : PcAt w b B n cnt ps) (hn1 : 1 ≤ n) (hn : n ≤ 64) (hc : 0 ≤ cnt ∧ cnt ≤ 4000) (hbB : b < B) (hBw : B ≤ w.heap.size) :
    Calls Try.prog 46 #[.pointer (some ⟨b, 0, none⟩), .int .i64 x] w fun e w' => e = .returned (.tuple #[]) ∧ PcAt w' b B n (cnt + 1) (pushL n ps x) ∧ KP b B w w' := by
  obtain ⟨top, tv, bp, C, h1, h2, h3, h4, h5⟩ := hP
  obtain ⟨at_, ct, rfl⟩ := own_form h1.row
  obtain ⟨bo, rfl⟩ := h1.chn.form
  by_cases ht : top.length < n
  · refine (push_room w b B n cnt top at_ ct _ C x h1 ht hn hc hbB hBw).mono ?_
    rintro e w' ⟨rfl, tv, k1, k2⟩
    exact ⟨rfl, ⟨_, _, _, _, k1, by rw [partsP_room C top x ht h3, h2], h3, by simp; omega, h5⟩, k2⟩
  · have he : top.length = n := by omega
    rw [he] at h1
    have HF : Hid (∀ y ∈ C, farV y.val (.slice at_ n ct)) := h1.far
    refine (push_full w b B n cnt top at_ ct bo C x h1 hc hbB hBw).mono ?_
    rintro e w' ⟨rfl, tv, bp', f, k1, k2⟩
    refine ⟨rfl, ⟨_, _, _, _, k1, by rw [partsP_full hn1 C top _ f x he, h2], fun y hy => ?_, by simp; omega, List.pairwise_cons.2 ⟨fun y hy => HF.out y hy, h5⟩⟩, k2⟩
    rcases List.mem_cons.1 hy with rfl | hy
    · exact he
    · exact h3 y hy
set_option maxRecDepth 100000 in
set_option maxHeartbeats 2000000 in
theorem layOutP_any (n : Nat) (lv : Value) (l : List Int) (B0 : Nat) (w : World) (h1 : 1 ≤ n) (hn : n ≤ 64) (hl : l.length ≤ 4000) (h : w.ownsRow B0 2 1 lv l.length (cellsI l)) :
    Calls Try.prog 33 #[.int .i64 (n : Int), lv] w fun e w' => ∃ top tv bp C, e = .returned (.agg #[.int .i64 (n : Int), .int .i64 (l.length : Int), tv, bp]) ∧ w'.ownsRow (w.heap.size + 2) 2 1 tv top.length (cellsI top) ∧ Chn w' (w.heap.size + 2) bp C ∧ (∀ x ∈ C, farV x.val tv) ∧ AptC C ∧ partsP C top = openL n l ∧ Below w.heap.size w w' := by
  have HT : Hid (∀ u, Below w.heap.size w u → u.ownsRow B0 2 1 lv l.length (cellsI l)) := fun u hu => own_below h hu
  obtain ⟨a, c, rfl⟩ := own_form h
  obtain ⟨b, hb⟩ : ∃ b, b = w.heap.size + 1 := ⟨_, rfl⟩
  obtain ⟨W, hW⟩ : ∃ W, W = (w.alloc (.cells #[.int .i64 0, .int .i64 0, .slice none 0 0, .pointer none] 64)).alloc (.cells #[.int .i64 (n : Int), .int .i64 0, .slice none 0 0, .pointer none] 64) := ⟨_, rfl⟩
  have HW : Hid (W = (w.alloc (.cells #[.int .i64 0, .int .i64 0, .slice none 0 0, .pointer none] 64)).alloc (.cells #[.int .i64 (n : Int), .int .i64 0, .slice none 0 0, .pointer none] 64)) := hW
  have hzW : W.heap.size = w.heap.size + 2 := by rw [hW]; simp
  have HWw : Hid (Below w.heap.size w W) := by rw [hW]; exact ((Below.refl _ _).alloc (Nat.le_refl _) _).alloc (by simp) _
  have HI : Hid (PcAt W b (w.heap.size + 2) n 0 (openL n (l.take 0))) := by
    refine ⟨[], .slice none 0 0, .pointer none, [], ⟨?_, World.ownsRow_nil _ _ _ _, rfl, fun x hx => absurd hx (List.not_mem_nil)⟩, rfl, ?_, Nat.zero_le _, List.Pairwise.nil⟩
    rotate_left
    · intro y hy; exact absurd hy (List.not_mem_nil)
    rw [hW, hb]
    have := heap_alloc_new (w.alloc (.cells #[.int .i64 0, .int .i64 0, .slice none 0 0, .pointer none] 64)) (.cells #[.int .i64 (n : Int), .int .i64 0, .slice none 0 0, .pointer none] 64)
    simpa using this
  have HBe : Hid (b = w.heap.size + 1) := hb
  have HRB : Hid (W.heap[w.heap.size]? = some (.cells #[.int .i64 0, .int .i64 0, .slice none 0 0, .pointer none] 64)) := by
    show _ = _
    rw [hW, Below.heap_alloc _ _ _ (by simp)]
    exact heap_alloc_new w _
  clear h hW hb
  go_enter Try.func33, Try.ntmps33
  go_wp2_with fail
  rw [← HW.out, ← HBe.out]
  go_loopw [7, 12] (fun _ i wr => ∃ k : Nat, k ≤ l.length ∧ i = .int .i64 (k : Int) ∧ Hid (PcAt wr b (w.heap.size + 2) n (k : Int) (openL n (l.take k))) ∧ Hid (KP b (w.heap.size + 2) W wr)) (fun _ i _ => l.length - (RowKit.intOf i).toNat)
  case atStart => exact ⟨0, Nat.zero_le _, rfl, HI.out, Keeps.refl _ _⟩
  case round =>
    obtain ⟨k, hk, rfl, HX, HK⟩ := hrel
    have hBl : Below w.heap.size W wr := ⟨HK.out.os, HK.out.tape, HK.out.output, by have := HK.out.size; exact this, fun k hk => HK.out.block k (by omega) (by rw [HBe.out]; omega)⟩
    have HBl : Hid (Below w.heap.size w wr) := HWw.out.trans hBl
    clear hBl
    have hzr : w.heap.size + 2 ≤ wr.heap.size := by have := HK.out.size; omega
    have hbl : b < w.heap.size + 2 := by rw [HBe.out]; omega
    by_cases hlt : k < l.length
    · have hrow := HT.out wr HBl.out
      obtain ⟨g, c', hv, _, _⟩ := hrow.form (by omega)
      obtain ⟨rfl, rfl⟩ : a = some ⟨g, 0, none⟩ ∧ c = c' := by simp at hv; exact hv
      have q0 := rowI_at hrow k hlt
      have HP : Hid (Calls Try.prog 46 #[.pointer (some ⟨b, 0, none⟩), .int .i64 (l[k]'hlt)] wr fun e w' => e = .returned (.tuple #[]) ∧ PcAt w' b (w.heap.size + 2) n ((k : Int) + 1) (openL n (l.take (k + 1))) ∧ KP b (w.heap.size + 2) wr w') := by
        have := push_any wr b (w.heap.size + 2) n (k : Int) _ (l[k]'hlt) HX.out h1 hn (by omega) hbl hzr
        rw [← openL_next n l k hlt] at this
        exact this
      clear hrow hv
      go_wp2_with fail
      refine HP.out.mono ?_
      rintro e w2 ⟨rfl, k1, k2⟩
      have K1 : Hid (PcAt w2 b (w.heap.size + 2) n (((k + 1 : Nat) : Int)) (openL n (l.take (k + 1)))) := by
        have e : ((k : Int) + 1) = ((k + 1 : Nat) : Int) := by omega
        rw [← e]; exact k1
      have K2 : Hid (KP b (w.heap.size + 2) W w2) := Keeps.trans HK.out k2
      clear k1 k2 HP q0
      go_wp2
      exact ⟨⟨k + 1, by omega, by go_num, K1.out, K2.out⟩, by simp [RowKit.intOf]; omega⟩
    · have hkl : k = l.length := by omega
      subst hkl
      obtain ⟨top, tv, bp, C, hp, hpp, hf, hle, hap⟩ := HX.out
      rw [List.take_length] at hpp
      have hR : wr.heap[w.heap.size]? = some (.cells #[.int .i64 0, .int .i64 0, .slice none 0 0, .pointer none] 64) := by
        rw [HK.out.block w.heap.size (by omega) (by rw [HBe.out]; omega)]; exact HRB.out
      have r0 : wr.cell? ⟨w.heap.size, 0, none⟩ = some (.int .i64 0) := by rw [cell_of_heap hR]; rfl
      have r1 : wr.cell? ⟨w.heap.size, 1, none⟩ = some (.int .i64 0) := by rw [cell_of_heap hR]; rfl
      have r2 : wr.cell? ⟨w.heap.size, 2, none⟩ = some (.slice none 0 0) := by rw [cell_of_heap hR]; rfl
      have r3 : wr.cell? ⟨w.heap.size, 3, none⟩ = some (.pointer none) := by rw [cell_of_heap hR]; rfl
      have rf : ∀ j, wr.frozen? ⟨w.heap.size, j, none⟩ = false := fun j => by simp [World.frozen?, hR]
      obtain ⟨b0, b1, b2, b3⟩ := hp.cell
      obtain ⟨at_, ct, rfl⟩ := own_form hp.row
      obtain ⟨bo, rfl⟩ := hp.chn.form
      have HP : Hid (Pcs wr b (w.heap.size + 2) (n : Int) (l.length : Int) top (.slice at_ top.length ct) (.pointer bo) C) := hp
      have HQ : Hid (partsP C top = openL n l) := hpp
      have HA : Hid (AptC C) := hap
      clear hap hp hpp hf hle hR HX HI
      go_wp2
      refine bodyPost_ret (v := .agg #[.int .i64 (n : Int), .int .i64 (l.length : Int), .slice at_ top.length ct, .pointer bo]) (by simp [results, Try.results33, go_sem, r0, r1, r2, r3]) rfl ⟨top, _, _, C, rfl, ?_, ?_, HP.out.far, HA.out, HQ.out, ?_⟩
      · repeat (first | refine own_set_low ?_ (by omega) _ | exact HP.out.row)
      · repeat (first | refine Chn.setLow ?_ (by omega) _ _ | exact HP.out.chn)
      · repeat (first | refine Below.setCell ?_ (by simp) _ | exact HBl.out)
end Go.Proofs.Ytdohpfckiahlcaa
