/-
  The model's l12Size, l12Fault, l12Depth, SegsFault and DepthSegs: what they tell of a stack in pieces; nothing that was there is turned.
-/
import Derived.Test.YtdohpfckiahlcaaSgEq
namespace Go.Proofs.Ytdohpfckiahlcaa
open Go.RowKit Go.Extern.Stop Go.Stop Go.Extern Num Go.Lib

theorem l12Size_any (n : Int) (w : World) :
    Calls Try.prog 24 #[.int .i64 n] w fun e w' => e = .returned (.bool (sizeB n)) ∧ w' = w := by
  unfold sizeB
  go_enter Try.func24, Try.ntmps24
  go_wp2_with (go_at_call 38; refine (l1In_any _ _ _ _).mono ?_; rintro e w' ⟨rfl, rfl⟩)
  go_ret
  exact ⟨rfl, rfl⟩
/-- A stack in a box. -/
structure SegAt (w : World) (b : Nat) (size : Int) (v : Value) : Prop where
  c0 : w.cell? ⟨b, 0, none⟩ = some (.int .i64 size)
  c1 : w.cell? ⟨b, 1, none⟩ = some v
theorem SegAt.below {w w' : World} {b : Nat} {size : Int} {v : Value} (h : SegAt w b size v) (hb : Below w.heap.size w w') : SegAt w' b size v := ⟨cell_keep hb h.c0, cell_keep hb h.c1⟩
theorem SegAt.new (w : World) (size : Int) (v : Value) (T : TypeId) : SegAt (w.alloc (.cells #[.int .i64 size, v] T)) w.heap.size size v := ⟨by rw [World.cell?_alloc_at _ _ _ _ rfl]; rfl, by rw [World.cell?_alloc_at _ _ _ _ rfl]; rfl⟩
set_option maxRecDepth 100000 in
set_option maxHeartbeats 2000000 in
theorem l12Fault_any (b : Nat) (size : Int) (v : Value) (ps : List (List Int)) (w : World) (hs : SmallS ps) (hb : SegAt w b size v) (h : SeeP w v ps) :
    Calls Try.prog 14 #[.pointer (some ⟨b, 0, none⟩)] w fun e w' => e = .returned (.int .i64 (faultS size ps)) ∧ w' = w := by
  have hl := hs.len
  have HZ : Hid (SmallS ps) := hs
  have HS : Hid (∀ u, Calls Try.prog 24 #[.int .i64 size] u fun e w' => e = .returned (.bool (sizeB size)) ∧ w' = u) := fun u => l12Size_any size u
  obtain ⟨c0, c1⟩ := hb
  obtain ⟨a, c, rfl, hc⟩ := h
  have HC : Hid (0 < ps.length → ∃ b off, a = some ⟨b, off, none⟩ ∧ ∀ (k : Nat) (h : k < ps.length), ∃ u, w.cell? ⟨b, off + k, none⟩ = some u ∧ SeeI w u ps[k]) := hc
  obtain ⟨R, hR⟩ : ∃ R, R = faultS size ps := ⟨_, rfl⟩
  have HR : Hid (R = faultS size ps) := hR
  rw [← hR]
  clear hs hc hR
  cases hz : sizeB size with
  | false =>
    rw [hz] at HS
    have HR3 : Hid (R = 3) := by show R = 3; rw [HR.out]; unfold faultS; simp [hz]
    clear HR hz
    go_enter Try.func14, Try.ntmps14
    go_wp2_with (go_at_call 24; refine (HS.out _).mono ?_; rintro e w' ⟨rfl, rfl⟩)
    go_ret
    exact ⟨by rw [HR3.out]; rfl, rfl⟩
  | true =>
    rw [hz] at HS
    have HR1 : Hid (R = if okS size ps then (if 4000 < ps.flatten.length then 2 else 0) else 1) := by show R = _; rw [HR.out]; unfold faultS; simp [hz]
    clear HR hz
    go_enter Try.func14, Try.ntmps14
    go_wp2_with fail
    refine (HS.out _).mono ?_
    rintro e w' ⟨rfl, e⟩
    replace e := e.symm
    subst e
    go_wp2_with fail
    go_loopw [3, 4] (fun x i wr => ∃ k n : Nat, k ≤ ps.length ∧ n ≤ 1048576 ∧ x = .int .i64 (n : Int) ∧ i = .int .i64 (k : Int) ∧ Hid (n = (ps.take k).flatten.length) ∧ Hid (∀ (j : Nat) (hj : j < ps.length), j < k → partOk size ps.length j ps[j].length = true) ∧ wr = w) (fun _ i _ => ps.length - (RowKit.intOf i).toNat)
    case atStart => exact ⟨0, 0, Nat.zero_le _, by omega, rfl, rfl, by show _ = _; simp, fun j _ hj => absurd hj (Nat.not_lt_zero j), rfl⟩
    case round =>
      obtain ⟨k, n, hk, hn, rfl, rfl, HN, HJ, hw⟩ := hrel
      subst hw
      by_cases hlt : k < ps.length
      · obtain ⟨g, off, rfl, h2⟩ := HC.out (by omega)
        obtain ⟨u, cz, ai, ci, rfl, -⟩ := h2 k hlt
        have hml : (ps[k]'hlt).length ≤ 1048576 := HZ.out.part k hlt
        have HN1 : Hid ((ps.take (k + 1)).flatten.length = n + (ps[k]'hlt).length) := by show _ = _; rw [HN.out]; exact flat_len_next ps k hlt
        have hup : n + (ps[k]'hlt).length ≤ 1048576 := by have := HZ.out.upto (k + 1); rw [HN1.out] at this; exact this
        have HO : Hid (partOk size ps.length k (ps[k]'hlt).length = true → ∀ (j : Nat) (hj : j < ps.length), j < k + 1 → partOk size ps.length j ps[j].length = true) := fun h j hj hjk => by
          by_cases e : j < k
          · exact HJ.out j hj e
          · have : j = k := by omega
            subst this; exact h
        have HF : Hid (partOk size ps.length k (ps[k]'hlt).length = false → R = 1) := fun h => by rw [HR1.out, okS_false hlt h]; rfl
        obtain ⟨m, hm⟩ : ∃ m, m = (ps[k]'hlt).length := ⟨_, rfl⟩
        rw [← hm] at cz hml HN1 hup HO HF
        clear h2 HJ HN hm HR1
        by_cases h1 : (m : Int) < 1
        · have HE : Hid (R = 1) := HF.out (by unfold partOk; simp; omega)
          go_wp2
          go_ret
          exact ⟨by rw [HE.out]; rfl, rfl⟩
        by_cases h2 : size < (m : Int)
        · have HE : Hid (R = 1) := HF.out (by unfold partOk; simp; omega)
          go_wp2
          go_ret
          exact ⟨by rw [HE.out]; rfl, rfl⟩
        by_cases h3 : (k : Int) + 1 < (ps.length : Int)
        · cases h4 : ((m : Int) != size) with
          | true =>
            have HE : Hid (R = 1) := HF.out (by
              have h5 : (m : Int) ≠ size := by simpa using h4
              unfold partOk; simp; omega)
            go_wp2
            go_ret
            exact ⟨by rw [HE.out]; rfl, rfl⟩
          | false =>
            have HE : Hid (∀ (j : Nat) (hj : j < ps.length), j < k + 1 → partOk size ps.length j ps[j].length = true) := HO.out (by
              have h5 : (m : Int) = size := by simpa using h4
              unfold partOk; simp; omega)
            clear HO HF
            go_wp2
            exact ⟨⟨k + 1, n + m, by omega, by omega, by go_num, by go_num, HN1.out.symm, HE.out, by trivial⟩, by simp [RowKit.intOf]; omega⟩
        · have HE : Hid (∀ (j : Nat) (hj : j < ps.length), j < k + 1 → partOk size ps.length j ps[j].length = true) := HO.out (by unfold partOk; simp; omega)
          clear HO HF
          go_wp2
          exact ⟨⟨k + 1, n + m, by omega, by omega, by go_num, by go_num, HN1.out.symm, HE.out, by trivial⟩, by simp [RowKit.intOf]; omega⟩
      · have hok : okS size ps = true := okS_true fun j hj => HJ.out j hj (by omega)
        have HE : Hid (R = if 4000 < n then 2 else 0) := by
          have h1 := HR1.out
          have h2 := HN.out
          rw [List.take_of_length_le (by omega)] at h2
          rw [hok, ← h2] at h1
          exact h1
        clear HR1 HN HJ hok
        by_cases h4 : (4000 : Int) < (n : Int)
        · have HE2 : Hid (R = 2) := by show R = 2; rw [HE.out, if_pos (by omega)]
          clear HE
          go_wp2
          go_ret
          exact ⟨by rw [HE2.out]; rfl, rfl⟩
        · have HE2 : Hid (R = 0) := by show R = 0; rw [HE.out, if_neg (by omega)]
          clear HE
          go_wp2
          go_ret
          exact ⟨by rw [HE2.out]; rfl, rfl⟩
end Go.Proofs.Ytdohpfckiahlcaa
