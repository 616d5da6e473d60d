/-
  Parts of the proof laid into one text, one behind the other; each says at its head what is proved in it.
-/
import Derived.Test.YtgfienijabkpjaaDoorShowMath
import Derived.Test.YtgfienijabkpjaaDoorDigits
import Derived.Test.YtgfienijabkpjaaDoorVBox
import Derived.Test.YtgfienijabkpjaaDoorVMath
import Derived.Test.YtgfienijabkpjaaDoorHeapMath
import Derived.Test.YtgfienijabkpjaaDoorStPair
import Derived.Test.YtgfienijabkpjaaDoorSvH
import Derived.Deep.RegionHeld3
/-
  The model's l5Show: the text of a value behind another text, as far as 120 bytes tell; nothing that was there is turned.
-/
namespace Go.Proofs.YtgfienijabkpjaaDoor
open Go.RowKit Go.Extern.Stop Go.Stop Go.Extern Num Go.Lib

/-- What l5Show answers: a text that is another one as far as 120 bytes tell, not too long. -/
def AnsS (w : World) (x : List UInt8) (m : Nat) (e : Ending) (w' : World) : Prop := ∃ s : ByteArray, e = .returned (.string s) ∧ Cut120 s.data.toList x ∧ s.size ≤ m ∧ Below w.heap.size w w'
theorem AnsS.of {w : World} {out : ByteArray} {t : List UInt8} {m : Nat} {P : Program} {f : FuncId} {args : Array Value} (ht : t.length ≤ 20) (hm : out.size + 20 ≤ m) (h : Calls P f args w fun e w' => e = .returned (.string (out ++ ⟨t.toArray⟩)) ∧ Below w.heap.size w w') : Calls P f args w fun e w' => AnsS w (out.data.toList ++ t) m e w' := by
  refine h.mono ?_
  rintro e w' ⟨rfl, hb⟩
  refine ⟨_, rfl, .inl (by simp), ?_, hb⟩
  rw [ByteArray.size_append]
  have : (⟨t.toArray⟩ : ByteArray).size = t.length := by simp [ByteArray.size]
  omega
theorem sh_full (out : ByteArray) (ao : Option Addr) (n cap b o : Nat) (w : World) (h : 120 < (out.size : Int)) :
    Calls Tryd.prog 63 #[.string out, .slice ao n cap, .pointer (some ⟨b, o, none⟩)] w fun e w' => e = .returned (.string out) ∧ Below w.heap.size w w' := by
  go_enter Tryd.func63, Tryd.ntmps63
  go_wp2
  go_ret
  exact ⟨rfl, Below.refl _ _⟩
theorem sh_num (out : ByteArray) (ao : Option Addr) (len cap b o : Nat) (n : Int) (z : ByteArray) (hn : inB n = true) (w : World) (h : ¬ 120 < (out.size : Int)) (hv : VluAt b o ⟨1, n, z⟩ w) :
    Calls Tryd.prog 63 #[.string out, .slice ao len cap, .pointer (some ⟨b, o, none⟩)] w fun e w' => e = .returned (.string (out ++ ⟨(itoa n).toArray⟩)) ∧ Below w.heap.size w w' := by
  obtain ⟨c0, c1, c2⟩ := hv
  simp only at c0 c1 c2
  have hb : b < w.heap.size := lt_of_cell c0
  have hi := itoa_len n hn
  have hs : (⟨(itoa n).toArray⟩ : ByteArray).size = (itoa n).length := by simp [ByteArray.size]
  have ha := fun (w : World) => run_string_add_sum (P := Tryd.prog) w out ⟨(itoa n).toArray⟩ (by omega)
  have HD : Hid (∀ w, Calls Tryd.prog 90 #[.int .i64 n] w fun e w' => e = .returned (.string ⟨(itoa n).toArray⟩) ∧ Below w.heap.size w w') := fun w => l1Digits_any n w hn
  clear hs
  generalize (⟨(itoa n).toArray⟩ : ByteArray) = U at ha HD ⊢
  clear hn hi
  go_enter Tryd.func63, Tryd.ntmps63
  go_wp2_with (go_at_call 90; refine (HD.out _).mono ?_; rintro e w1 ⟨rfl, hq⟩)
  go_ret
  exact ⟨rfl, hq⟩
theorem sh_no (out : ByteArray) (ao : Option Addr) (len cap b o : Nat) (z : ByteArray) (w : World) (h : ¬ 120 < (out.size : Int)) (hv : VluAt b o ⟨2, 0, z⟩ w) :
    Calls Tryd.prog 63 #[.string out, .slice ao len cap, .pointer (some ⟨b, o, none⟩)] w fun e w' => e = .returned (.string (out ++ ⟨#[35, 102]⟩)) ∧ Below w.heap.size w w' := by
  obtain ⟨c0, c1, c2⟩ := hv
  simp only at c0 c1 c2
  have hb : b < w.heap.size := lt_of_cell c0
  have ha := fun (w : World) => run_string_add_sum (P := Tryd.prog) w out ⟨#[35, 102]⟩ (by have : (⟨#[35, 102]⟩ : ByteArray).size = 2 := rfl; omega)
  go_enter Tryd.func63, Tryd.ntmps63
  go_wp2
  go_ret
  exact ⟨rfl, (Below.refl _ _).alloc (Nat.le_refl _) _⟩
theorem sh_yes (out : ByteArray) (ao : Option Addr) (len cap b o : Nat) (z : ByteArray) (w : World) (h : ¬ 120 < (out.size : Int)) (hv : VluAt b o ⟨2, 1, z⟩ w) :
    Calls Tryd.prog 63 #[.string out, .slice ao len cap, .pointer (some ⟨b, o, none⟩)] w fun e w' => e = .returned (.string (out ++ ⟨#[35, 116]⟩)) ∧ Below w.heap.size w w' := by
  obtain ⟨c0, c1, c2⟩ := hv
  simp only at c0 c1 c2
  have hb : b < w.heap.size := lt_of_cell c0
  have ha := fun (w : World) => run_string_add_sum (P := Tryd.prog) w out ⟨#[35, 116]⟩ (by have : (⟨#[35, 116]⟩ : ByteArray).size = 2 := rfl; omega)
  go_enter Tryd.func63, Tryd.ntmps63
  go_wp2
  go_ret
  exact ⟨rfl, (Below.refl _ _).alloc (Nat.le_refl _) _⟩
theorem sh_nil (out : ByteArray) (ao : Option Addr) (len cap b o : Nat) (n : Int) (z : ByteArray) (w : World) (h : ¬ 120 < (out.size : Int)) (hv : VluAt b o ⟨3, n, z⟩ w) :
    Calls Tryd.prog 63 #[.string out, .slice ao len cap, .pointer (some ⟨b, o, none⟩)] w fun e w' => e = .returned (.string (out ++ ⟨#[40, 41]⟩)) ∧ Below w.heap.size w w' := by
  obtain ⟨c0, c1, c2⟩ := hv
  simp only at c0 c1 c2
  have hb : b < w.heap.size := lt_of_cell c0
  have ha := fun (w : World) => run_string_add_sum (P := Tryd.prog) w out ⟨#[40, 41]⟩ (by have : (⟨#[40, 41]⟩ : ByteArray).size = 2 := rfl; omega)
  go_enter Tryd.func63, Tryd.ntmps63
  go_wp2
  go_ret
  exact ⟨rfl, Below.refl _ _⟩
theorem sh_sym (out : ByteArray) (ao : Option Addr) (len cap b o : Nat) (n : Int) (z : ByteArray) (hz : z.size ≤ 100) (w : World) (h : ¬ 120 < (out.size : Int)) (hv : VluAt b o ⟨4, n, z⟩ w) :
    Calls Tryd.prog 63 #[.string out, .slice ao len cap, .pointer (some ⟨b, o, none⟩)] w fun e w' => e = .returned (.string (out ++ z)) ∧ Below w.heap.size w w' := by
  obtain ⟨c0, c1, c2⟩ := hv
  simp only at c0 c1 c2
  have hb : b < w.heap.size := lt_of_cell c0
  have ha := fun (w : World) => run_string_add_sum (P := Tryd.prog) w out z (by omega)
  go_enter Tryd.func63, Tryd.ntmps63
  go_wp2
  go_ret
  exact ⟨rfl, Below.refl _ _⟩
theorem sh_proc (out : ByteArray) (ao : Option Addr) (len cap b o : Nat) (n : Int) (z : ByteArray) (w : World) (h : ¬ 120 < (out.size : Int)) (hv : VluAt b o ⟨6, n, z⟩ w) :
    Calls Tryd.prog 63 #[.string out, .slice ao len cap, .pointer (some ⟨b, o, none⟩)] w fun e w' => e = .returned (.string (out ++ ⟨#[35, 112, 114, 111, 99]⟩)) ∧ Below w.heap.size w w' := by
  obtain ⟨c0, c1, c2⟩ := hv
  simp only at c0 c1 c2
  have hb : b < w.heap.size := lt_of_cell c0
  have ha := fun (w : World) => run_string_add_sum (P := Tryd.prog) w out ⟨#[35, 112, 114, 111, 99]⟩ (by have : (⟨#[35, 112, 114, 111, 99]⟩ : ByteArray).size = 5 := rfl; omega)
  go_enter Tryd.func63, Tryd.ntmps63
  go_wp2
  go_ret
  exact ⟨rfl, (Below.refl _ _).alloc (Nat.le_refl _) _⟩
theorem sh_cont (out : ByteArray) (ao : Option Addr) (len cap b o : Nat) (n : Int) (z : ByteArray) (w : World) (h : ¬ 120 < (out.size : Int)) (hv : VluAt b o ⟨7, n, z⟩ w) :
    Calls Tryd.prog 63 #[.string out, .slice ao len cap, .pointer (some ⟨b, o, none⟩)] w fun e w' => e = .returned (.string (out ++ ⟨#[35, 99, 111, 110, 116]⟩)) ∧ Below w.heap.size w w' := by
  obtain ⟨c0, c1, c2⟩ := hv
  simp only at c0 c1 c2
  have hb : b < w.heap.size := lt_of_cell c0
  have ha := fun (w : World) => run_string_add_sum (P := Tryd.prog) w out ⟨#[35, 99, 111, 110, 116]⟩ (by have : (⟨#[35, 99, 111, 110, 116]⟩ : ByteArray).size = 5 := rfl; omega)
  go_enter Tryd.func63, Tryd.ntmps63
  go_wp2
  go_ret
  exact ⟨rfl, (Below.refl _ _).alloc (Nat.le_refl _) _⟩
theorem sh_prim (out : ByteArray) (ao : Option Addr) (len cap b o : Nat) (n : Int) (z : ByteArray) (w : World) (h : ¬ 120 < (out.size : Int)) (hv : VluAt b o ⟨8, n, z⟩ w) :
    Calls Tryd.prog 63 #[.string out, .slice ao len cap, .pointer (some ⟨b, o, none⟩)] w fun e w' => e = .returned (.string (out ++ ⟨#[35, 112, 114, 105, 109]⟩)) ∧ Below w.heap.size w w' := by
  obtain ⟨c0, c1, c2⟩ := hv
  simp only at c0 c1 c2
  have hb : b < w.heap.size := lt_of_cell c0
  have ha := fun (w : World) => run_string_add_sum (P := Tryd.prog) w out ⟨#[35, 112, 114, 105, 109]⟩ (by have : (⟨#[35, 112, 114, 105, 109]⟩ : ByteArray).size = 5 := rfl; omega)
  go_enter Tryd.func63, Tryd.ntmps63
  go_wp2
  go_ret
  exact ⟨rfl, (Below.refl _ _).alloc (Nat.le_refl _) _⟩
theorem sh_none (out : ByteArray) (ao : Option Addr) (len cap b o : Nat) (n : Int) (z : ByteArray) (w : World) (h : ¬ 120 < (out.size : Int)) (hv : VluAt b o ⟨9, n, z⟩ w) :
    Calls Tryd.prog 63 #[.string out, .slice ao len cap, .pointer (some ⟨b, o, none⟩)] w fun e w' => e = .returned (.string (out ++ ⟨#[35, 110, 111, 110, 101]⟩)) ∧ Below w.heap.size w w' := by
  obtain ⟨c0, c1, c2⟩ := hv
  simp only at c0 c1 c2
  have hb : b < w.heap.size := lt_of_cell c0
  have ha := fun (w : World) => run_string_add_sum (P := Tryd.prog) w out ⟨#[35, 110, 111, 110, 101]⟩ (by have : (⟨#[35, 110, 111, 110, 101]⟩ : ByteArray).size = 5 := rfl; omega)
  go_enter Tryd.func63, Tryd.ntmps63
  go_wp2
  go_ret
  exact ⟨rfl, (Below.refl _ _).alloc (Nat.le_refl _) _⟩
/-- A value that is no pair. -/
theorem sh_leaf (out : ByteArray) (ao : Option Addr) (len cap b o : Nat) (v : Vlu) (w : World) (h : ¬ 120 < (out.size : Int)) (hf : vfault v = 0) (h5 : v.kind ≠ 5) (hv : VluAt b o v w) :
    Calls Tryd.prog 63 #[.string out, .slice ao len cap, .pointer (some ⟨b, o, none⟩)] w fun e w' => e = .returned (.string (out ++ ⟨(leafV v).toArray⟩)) ∧ Below w.heap.size w w' := by
  obtain ⟨k, n, z⟩ := v
  have hk := kind_in hf
  simp only at h5 hk
  have hc : k = 1 ∨ k = 2 ∨ k = 3 ∨ k = 4 ∨ k = 6 ∨ k = 7 ∨ k = 8 ∨ k = 9 := by omega
  rcases hc with rfl | rfl | rfl | rfl | rfl | rfl | rfl | rfl
  · exact sh_num out ao len cap b o n z (num_in hf rfl) w h hv
  · have h2 := bool_in hf rfl
    simp only at h2
    have hc : n = 0 ∨ n = 1 := by omega
    rcases hc with rfl | rfl
    · exact sh_no out ao len cap b o z w h hv
    · exact sh_yes out ao len cap b o z w h hv
  · exact sh_nil out ao len cap b o n z w h hv
  · have h2 := leafV_len hf
    have e : leafV ⟨4, n, z⟩ = z.data.toList := by simp [leafV]
    rw [e] at h2 ⊢
    exact sh_sym out ao len cap b o n z (by have : z.size = z.data.toList.length := by rw [Array.length_toList]; rfl
                                            omega) w h hv
  · exact sh_proc out ao len cap b o n z w h hv
  · exact sh_cont out ao len cap b o n z w h hv
  · exact sh_prim out ao len cap b o n z w h hv
  · exact sh_none out ao len cap b o n z w h hv
end Go.Proofs.YtgfienijabkpjaaDoor
/-
  The model's l5Show at pairs, and at all values; ShowValue; nothing that was there is turned.
-/
namespace Go.Proofs.YtgfienijabkpjaaDoor
open Go.RowKit Go.Extern.Stop Go.Stop Go.Extern Num Go.Lib

/-- What is known of a round of l5Show at pairs: the text so far, the pair's place, the fuel. -/
def ShI (l : List Pai) (f : Nat) (X : List UInt8) (o : ByteArray) (k : Nat) : Prop := ∃ j, j ≤ f ∧ 2 * k + 2 ≤ j ∧ Cut120 (o.data.toList ++ showF l j true (pairAt k)) X ∧ o.size ≤ 122 + 100 * f
/-- A round: the head's text, and what comes behind it. -/
theorem ShI.step {l : List Pai} (hl : heapFault l = 0) {f k : Nat} {X : List UInt8} {o : ByteArray} (H : ShI l f X o k) (hk : k < l.length) :
    ∃ j, j < f ∧ 1 ≤ j ∧ needF false l[k].head ≤ j ∧ aheadV l.length l[k].head ∧ aheadV l.length l[k].tail ∧
      ∀ s : ByteArray, Cut120 s.data.toList (o.data.toList ++ showF l j false l[k].head) → s.size ≤ 120 + 100 * j →
        (l[k].tail.kind = 3 → Cut120 (s ++ ⟨#[41]⟩).data.toList X) ∧
        (l[k].tail.kind ≠ 3 → l[k].tail.kind ≠ 5 → ∀ u : ByteArray, Cut120 u.data.toList ((s ++ ⟨#[32, 46, 32]⟩).data.toList ++ leafV l[k].tail) → Cut120 (u ++ ⟨#[41]⟩).data.toList X) ∧
        (l[k].tail.kind = 5 → ∃ k', k' < k ∧ l[k].tail.num = (k' : Int) ∧ ShI l f X (s ++ ⟨#[32]⟩) k') := by
  obtain ⟨j, hj, hn, hc, hs⟩ := H
  obtain ⟨j, rfl⟩ : ∃ i, j = i + 1 := ⟨j - 1, by omega⟩
  have hp := pair_ahead hl k hk
  have ek : (pairAt k).num.toNat = k := by simp [pairAt]
  have hnd : needF false l[k].head ≤ j := by
    have := need_head (v := pairAt k) (j := j) hl (by rw [ek]; exact hk) (by simp only [needF, ek]; exact hn)
    simpa only [ek] using this
  refine ⟨j, by omega, by omega, hnd, hp.1.mono (by omega), hp.2.mono (by omega), ?_⟩
  intro s h1 h2
  refine ⟨fun h3 => ?_, fun h3 h5 u hu => ?_, fun h5 => ?_⟩
  · have e := showF_nil (l := l) (f := j) (v := pairAt k) (by rw [ek]; exact hk) (by simpa only [ek] using h3)
    simp only [ek] at e
    rw [e] at hc
    refine Cut120.trans ?_ hc
    have := h1.app [41]
    simpa [List.append_assoc] using this
  · have e := showF_dot (l := l) (f := j) (v := pairAt k) (by rw [ek]; exact hk) (by simpa only [ek] using h3) (by simpa only [ek] using h5)
    simp only [ek] at e
    rw [e] at hc
    refine Cut120.trans ?_ hc
    have h6 := hu.app [41]
    have h7 := h1.app ([32, 46, 32] ++ leafV l[k].tail ++ [41])
    simp only [List.append_assoc, ByteArray.data_append, Array.toList_append] at h6 h7 ⊢
    exact h6.trans h7
  · have e := showF_on (l := l) (f := j) (v := pairAt k) (by rw [ek]; exact hk) (by simpa only [ek] using h5)
    simp only [ek] at e
    rw [e] at hc
    have h6 := hp.2.2 h5
    refine ⟨l[k].tail.num.toNat, by omega, by omega, j, by omega, by omega, ?_, ?_⟩
    · rw [← showF_num]
      refine Cut120.trans ?_ hc
      have := h1.app ([32] ++ showF l j true l[k].tail)
      simpa [List.append_assoc] using this
    · rw [ByteArray.size_append]
      have : (⟨#[32]⟩ : ByteArray).size = 1 := rfl
      have : 100 * j ≤ 100 * f := Nat.mul_le_mul_left _ (by omega)
      omega
/-- The contract of l5Show with fuel. -/
def ShC (l : List Pai) (g cap j : Nat) : Prop := ∀ (v : Vlu) (out : ByteArray) (b o : Nat) (u : World), aheadV l.length v → needF false v ≤ j → out.size ≤ 2000000 → RowP u g l → VluAt b o v u →
  Calls Tryd.prog 63 #[.string out, .slice (some ⟨g, 0, none⟩) l.length cap, .pointer (some ⟨b, o, none⟩)] u fun e w' => AnsS u (out.data.toList ++ showF l j false v) (max out.size 120 + 100 * j) e w'
set_option maxRecDepth 100000 in
set_option maxHeartbeats 2000000 in
theorem sh_pair (l : List Pai) (hl : heapFault l = 0) (f g cap : Nat) (hf : f ≤ 10000) (IH : ∀ j, j < f → ShC l g cap j) (n : Nat) (z : ByteArray) (hn : n < l.length) (hnd : 2 * n + 2 ≤ f) (out : ByteArray) (b o : Nat) (w : World) (h : ¬ 120 < (out.size : Int)) (hR : RowP w g l) (hv : VluAt b o ⟨5, (n : Int), z⟩ w) :
    Calls Tryd.prog 63 #[.string out, .slice (some ⟨g, 0, none⟩) l.length cap, .pointer (some ⟨b, o, none⟩)] w fun e w' => AnsS w (out.data.toList ++ ([40] ++ showF l f true (pairAt n))) (120 + 100 * (f + 1)) e w' := by
  obtain ⟨X, hX⟩ : ∃ X, X = out.data.toList ++ ([40] ++ showF l f true (pairAt n)) := ⟨_, rfl⟩
  rw [← hX]
  have H0 : Hid (ShI l f X (out ++ ⟨#[40]⟩) n) := ⟨f, Nat.le_refl _, hnd, by rw [hX]; exact .inl (by simp), by rw [ByteArray.size_append]; have : (⟨#[40]⟩ : ByteArray).size = 1 := rfl; omega⟩
  have HI : Hid (∀ j, j < f → ShC l g cap j) := IH
  have HH : Hid (heapFault l = 0) := hl
  have HR : Hid (RowP w g l) := hR
  have HF : Hid (f ≤ 10000) := hf
  have HN : Hid (n < l.length) := hn
  have ha := fun (w : World) => run_string_add_sum (P := Tryd.prog) w out ⟨#[40]⟩ (by have : (⟨#[40]⟩ : ByteArray).size = 1 := rfl; omega)
  obtain ⟨c0, c1, c2⟩ := hv
  simp only at c0 c1 c2
  clear hX IH hl hR hf hnd hn
  go_enter Tryd.func63, Tryd.ntmps63
  go_wp2_with fail
  go_loopw [0, 7] (fun t a wr => ∃ (s : ByteArray) (k : Nat), t = .string s ∧ a = .int .i64 (k : Int) ∧ Hid (k < l.length) ∧ Hid (ShI l f X s k) ∧ Hid (Below w.heap.size w wr)) (fun _ a _ => (RowKit.intOf a).toNat)
  case atStart => exact ⟨_, n, rfl, rfl, HN, H0, Below.refl _ _⟩
  case round =>
    obtain ⟨s, k, rfl, rfl, HK, HS, HB⟩ := hrel
    by_cases h120 : 120 < (s.size : Int)
    · go_wp2
      go_ret
      obtain ⟨j, _, _, h3, h4⟩ := HS.out
      have hs : s.data.toList.length = s.size := by rw [Array.length_toList]; rfl
      exact ⟨s, rfl, (Cut120.full (by omega) _).trans h3, by omega, HB.out⟩
    · have hkl : k < l.length := HK.out
      obtain ⟨j, hj, hj1, hnh, hah, hat, hstep⟩ := ShI.step HH.out HS.out hkl
      have HST : Hid (∀ q : ByteArray, Cut120 q.data.toList (s.data.toList ++ showF l j false l[k].head) → q.size ≤ 120 + 100 * j →
        (l[k].tail.kind = 3 → Cut120 (q ++ ⟨#[41]⟩).data.toList X) ∧
        (l[k].tail.kind ≠ 3 → l[k].tail.kind ≠ 5 → ∀ u : ByteArray, Cut120 u.data.toList ((q ++ ⟨#[32, 46, 32]⟩).data.toList ++ leafV l[k].tail) → Cut120 (u ++ ⟨#[41]⟩).data.toList X) ∧
        (l[k].tail.kind = 5 → ∃ k', k' < k ∧ l[k].tail.num = (k' : Int) ∧ ShI l f X (q ++ ⟨#[32]⟩) k')) := hstep
      have HRr : Hid (RowP wr g l) := HR.out.below HB.out
      have HQ : Hid (Calls Tryd.prog 63 #[.string s, .slice (some ⟨g, 0, none⟩) l.length cap, .pointer (some ⟨g, k * 6, none⟩)] wr fun e w' => AnsS wr (s.data.toList ++ showF l j false l[k].head) (120 + 100 * j) e w') := by
        have hr := HRr.out k hkl
        have hq := HI.out j hj l[k].head s g (k * 6) wr hah hnh (by omega) HRr.out ⟨hr.1, hr.2.1, hr.2.2.1⟩
        rwa [show max s.size 120 = 120 by omega] at hq
      have HJ : Hid (j < f ∧ 1 ≤ j ∧ aheadV l.length l[k].tail) := ⟨hj, hj1, hat⟩
      clear hj hj1 hnh hah hat hstep
      go_wp2_with fail
      refine HQ.out.mono ?_
      rintro e w2 ⟨q, rfl, hc, hs, hb⟩
      obtain ⟨t3, td, t5⟩ := HST.out q hc hs
      have H3 : Hid (l[k].tail.kind = 3 → Cut120 (q ++ ⟨#[41]⟩).data.toList X) := t3
      have HD : Hid (l[k].tail.kind ≠ 3 → l[k].tail.kind ≠ 5 → ∀ u : ByteArray, Cut120 u.data.toList ((q ++ ⟨#[32, 46, 32]⟩).data.toList ++ leafV l[k].tail) → Cut120 (u ++ ⟨#[41]⟩).data.toList X) := td
      have H5 : Hid (l[k].tail.kind = 5 → ∃ k', k' < k ∧ l[k].tail.num = (k' : Int) ∧ ShI l f X (q ++ ⟨#[32]⟩) k') := t5
      have HB2 : Hid (Below w.heap.size w w2) := HB.out.trans (hb.mono HB.out.size)
      have HR2 : Hid (RowP w2 g l) := HRr.out.below hb
      have HZ : Hid (q.size ≤ 120 + 100 * j) := hs
      obtain ⟨_, _, _, d3, d4, d5⟩ := HR2.out k hkl
      have hq1 : q.size ≤ 1100000 := by have := HJ.out.1; have := HF.out; omega
      clear t3 td t5 hb hc hs HQ HST
      by_cases k3 : l[k].tail.kind = 3
      · have e3 : (l[k].tail.kind == 3) = true := by simpa using k3
        have hb1 := fun (w : World) => run_string_add_sum (P := Tryd.prog) w q ⟨#[41]⟩ (by have : (⟨#[41]⟩ : ByteArray).size = 1 := rfl; omega)
        go_wp2
        go_ret
        refine ⟨_, rfl, H3.out k3, ?_, HB2.out⟩
        rw [ByteArray.size_append]
        have : (⟨#[41]⟩ : ByteArray).size = 1 := rfl
        have := HZ.out
        have := HJ.out.1
        omega
      by_cases k5 : l[k].tail.kind = 5
      · obtain ⟨k', hk', hnum, hI'⟩ := H5.out k5
        have e3 : (l[k].tail.kind == 3) = false := by simpa using k3
        have e5 : (l[k].tail.kind != 5) = false := by simpa using k5
        have hb1 := fun (w : World) => run_string_add_sum (P := Tryd.prog) w q ⟨#[32]⟩ (by have : (⟨#[32]⟩ : ByteArray).size = 1 := rfl; omega)
        have HI2 : Hid (ShI l f X (q ++ ⟨#[32]⟩) k') := hI'
        have HK2 : Hid (k' < l.length) := Nat.lt_trans hk' hkl
        rw [hnum] at d4
        clear hI' hnum k3 k5
        go_wp2
        exact ⟨⟨_, k', rfl, rfl, HK2, HI2, HB2⟩, by simp [RowKit.intOf]; omega⟩
      · have e3 : (l[k].tail.kind == 3) = false := by simpa using k3
        have e5 : (l[k].tail.kind != 5) = true := by simpa using k5
        have hb1 := fun (w : World) => run_string_add_sum (P := Tryd.prog) w q ⟨#[32, 46, 32]⟩ (by have : (⟨#[32, 46, 32]⟩ : ByteArray).size = 3 := rfl; omega)
        have hsz : (q ++ ⟨#[32, 46, 32]⟩).size = q.size + 3 := by rw [ByteArray.size_append]; rfl
        have HE : Hid (∀ u : ByteArray, Cut120 u.data.toList ((q ++ ⟨#[32, 46, 32]⟩).data.toList ++ leafV l[k].tail) → Cut120 (u ++ ⟨#[41]⟩).data.toList X) := HD.out k3 k5
        have HQ : Hid (Calls Tryd.prog 63 #[.string (q ++ ⟨#[32, 46, 32]⟩), .slice (some ⟨g, 0, none⟩) l.length cap, .pointer (some ⟨g, k * 6 + 3, none⟩)] w2 fun e w' => AnsS w2 ((q ++ ⟨#[32, 46, 32]⟩).data.toList ++ leafV l[k].tail) (max (q.size + 3) 120 + 100) e w') := by
          have hq := HI.out 1 (by have := HJ.out; omega) l[k].tail (q ++ ⟨#[32, 46, 32]⟩) g (k * 6 + 3) w2 HJ.out.2.2 (by simp [needF, k5]) (by omega) HR2.out ⟨d3, d4, d5⟩
          rwa [showF_leaf (f := 0) k5, hsz] at hq
        generalize q ++ ⟨#[32, 46, 32]⟩ = Q at hb1 HE HQ hsz
        clear k3 k5
        go_wp2_with fail
        refine HQ.out.mono ?_
        rintro e w3 ⟨r, rfl, hc, hs, hb⟩
        have HB3 : Hid (Below w.heap.size w w3) := HB2.out.trans (hb.mono HB2.out.size)
        have HC3 : Hid (Cut120 (r ++ ⟨#[41]⟩).data.toList X) := HE.out r hc
        have hr : r.size ≤ 1100300 := by omega
        have hrs : (r ++ ⟨#[41]⟩).size ≤ 120 + 100 * (f + 1) := by
          rw [ByteArray.size_append]
          have : (⟨#[41]⟩ : ByteArray).size = 1 := rfl
          have := HZ.out
          have := HJ.out.1
          omega
        have hb2 := fun (w : World) => run_string_add_sum (P := Tryd.prog) w r ⟨#[41]⟩ (by have : (⟨#[41]⟩ : ByteArray).size = 1 := rfl; omega)
        clear hb hc hs
        go_wp2
        go_ret
        exact ⟨_, rfl, HC3.out, hrs, HB3.out⟩
/-- The text of a value behind another text. -/
theorem l5Show_any (l : List Pai) (hl : heapFault l = 0) (g cap : Nat) : ∀ f, f ≤ 10000 → ShC l g cap f := by
  intro f
  induction f using Nat.strongRecOn with
  | ind f ih =>
    intro hf v out b o u hah hnd hsz hR hv
    by_cases h120 : 120 < (out.size : Int)
    · refine (sh_full out _ l.length cap b o u h120).mono ?_
      rintro e w' ⟨rfl, hb⟩
      exact ⟨out, rfl, Cut120.full (by have hs : out.data.toList.length = out.size := by rw [Array.length_toList]; rfl
                                       omega) _, by omega, hb⟩
    by_cases h5 : v.kind = 5
    · obtain ⟨k, n, z⟩ := v
      simp only at h5
      subst h5
      have h6 := hah.2 rfl
      simp only at h6
      obtain ⟨n, rfl⟩ : ∃ i : Nat, n = (i : Int) := ⟨n.toNat, by omega⟩
      simp only [needF, if_true, Int.toNat_natCast] at hnd
      obtain ⟨f, rfl⟩ : ∃ i, f = i + 1 := ⟨f - 1, by omega⟩
      rw [showF_pair rfl, showF_num]
      have := sh_pair l hl f g cap (by omega) (fun j hj => ih j (by omega) (by omega)) n z (by omega) (by omega) out b o u h120 hR hv
      rwa [show max out.size 120 = 120 by omega]
    · have h1 : 1 ≤ f := by simpa [needF, h5] using hnd
      obtain ⟨f, rfl⟩ : ∃ i, f = i + 1 := ⟨f - 1, by omega⟩
      rw [showF_leaf h5]
      exact AnsS.of (leafV_len hah.1) (by omega) (sh_leaf out _ l.length cap b o v u h120 hah.1 h5 hv)
end Go.Proofs.YtgfienijabkpjaaDoor
/-
  The model's l5Placed and l5Fault: what is wrong with a value behind a pointer; nothing is turned.
-/
namespace Go.Proofs.YtgfienijabkpjaaDoor
open Go.RowKit Go.Extern.Stop Go.Stop Go.Extern Num Go.Lib

theorem l5Placed_any (k : Int) (w : World) :
    Calls Tryd.prog 86 #[.int .i64 k] w fun e w' => e = .returned (.bool (decide (5 ≤ k) && decide (k ≤ 8))) ∧ w' = w := by
  go_enter Tryd.func86, Tryd.ntmps86
  go_wp2_with (go_at_call 87; refine (l1In_any _ _ _ _).mono ?_; rintro e w' ⟨rfl, rfl⟩)
  go_ret
  exact ⟨rfl, rfl⟩
theorem vf_out (b o : Nat) (n : Int) (z : ByteArray) (w : World) (k : Int) (hz : z.size ≤ 9223372036854775807) (k19 : (decide (1 ≤ k) && decide (k ≤ 9)) = false) (k58 : (decide (5 ≤ k) && decide (k ≤ 8)) = false) (k1 : (k == 1) = false) (k2 : (k == 2) = false) (h : VluAt b o ⟨k, n, z⟩ w) :
    Calls Tryd.prog 61 #[.pointer (some ⟨b, o, none⟩)] w fun e w' => e = .returned (.int .i64 1) ∧ w' = w := by
  obtain ⟨c0, c1, c2⟩ := h
  simp only at c0 c1 c2
  have HS : Hid (∀ w, Calls Tryd.prog 89 #[.string z] w fun e w' => e = .returned (.bool (symL z.data.toList)) ∧ w' = w) := fun w => sym_any z w hz
  go_enter Tryd.func61, Tryd.ntmps61
  go_wp2_with (first | (go_at_call 87; refine (l1In_any _ _ _ _).mono ?_; rintro e w' ⟨rfl, rfl⟩) | (go_at_call 86; refine (l5Placed_any _ _).mono ?_; rintro e w' ⟨rfl, rfl⟩) | (go_at_call 88; refine (l1Num_any _ _).mono ?_; rintro e w' ⟨rfl, rfl⟩) | (go_at_call 89; refine (HS.out _).mono ?_; rintro e w' ⟨rfl, rfl⟩))
  all_goals
    go_ret
    exact ⟨rfl, rfl⟩
theorem vf_name1 (b o : Nat) (n : Int) (z : ByteArray) (w : World) (hz : z.size ≤ 9223372036854775807) (hm : (z.toList == []) = false) (h : VluAt b o ⟨1, n, z⟩ w) :
    Calls Tryd.prog 61 #[.pointer (some ⟨b, o, none⟩)] w fun e w' => e = .returned (.int .i64 1) ∧ w' = w := by
  obtain ⟨c0, c1, c2⟩ := h
  simp only at c0 c1 c2
  have HS : Hid (∀ w, Calls Tryd.prog 89 #[.string z] w fun e w' => e = .returned (.bool (symL z.data.toList)) ∧ w' = w) := fun w => sym_any z w hz
  go_enter Tryd.func61, Tryd.ntmps61
  go_wp2_with (first | (go_at_call 87; refine (l1In_any _ _ _ _).mono ?_; rintro e w' ⟨rfl, rfl⟩) | (go_at_call 86; refine (l5Placed_any _ _).mono ?_; rintro e w' ⟨rfl, rfl⟩) | (go_at_call 88; refine (l1Num_any _ _).mono ?_; rintro e w' ⟨rfl, rfl⟩) | (go_at_call 89; refine (HS.out _).mono ?_; rintro e w' ⟨rfl, rfl⟩))
  all_goals
    go_ret
    exact ⟨rfl, rfl⟩
theorem vf_no1 (b o : Nat) (n : Int) (z : ByteArray) (w : World) (hz : z.size ≤ 9223372036854775807) (hm : (z.toList == []) = true) (hr : inB n = false) (h : VluAt b o ⟨1, n, z⟩ w) :
    Calls Tryd.prog 61 #[.pointer (some ⟨b, o, none⟩)] w fun e w' => e = .returned (.int .i64 3) ∧ w' = w := by
  obtain ⟨c0, c1, c2⟩ := h
  simp only at c0 c1 c2
  have HS : Hid (∀ w, Calls Tryd.prog 89 #[.string z] w fun e w' => e = .returned (.bool (symL z.data.toList)) ∧ w' = w) := fun w => sym_any z w hz
  go_enter Tryd.func61, Tryd.ntmps61
  go_wp2_with (first | (go_at_call 87; refine (l1In_any _ _ _ _).mono ?_; rintro e w' ⟨rfl, rfl⟩) | (go_at_call 86; refine (l5Placed_any _ _).mono ?_; rintro e w' ⟨rfl, rfl⟩) | (go_at_call 88; refine (l1Num_any _ _).mono ?_; rintro e w' ⟨rfl, rfl⟩) | (go_at_call 89; refine (HS.out _).mono ?_; rintro e w' ⟨rfl, rfl⟩))
  all_goals
    go_ret
    exact ⟨rfl, rfl⟩
theorem vf_ok1 (b o : Nat) (n : Int) (z : ByteArray) (w : World) (hz : z.size ≤ 9223372036854775807) (hm : (z.toList == []) = true) (hr : inB n = true) (h : VluAt b o ⟨1, n, z⟩ w) :
    Calls Tryd.prog 61 #[.pointer (some ⟨b, o, none⟩)] w fun e w' => e = .returned (.int .i64 0) ∧ w' = w := by
  obtain ⟨c0, c1, c2⟩ := h
  simp only at c0 c1 c2
  have HS : Hid (∀ w, Calls Tryd.prog 89 #[.string z] w fun e w' => e = .returned (.bool (symL z.data.toList)) ∧ w' = w) := fun w => sym_any z w hz
  go_enter Tryd.func61, Tryd.ntmps61
  go_wp2_with (first | (go_at_call 87; refine (l1In_any _ _ _ _).mono ?_; rintro e w' ⟨rfl, rfl⟩) | (go_at_call 86; refine (l5Placed_any _ _).mono ?_; rintro e w' ⟨rfl, rfl⟩) | (go_at_call 88; refine (l1Num_any _ _).mono ?_; rintro e w' ⟨rfl, rfl⟩) | (go_at_call 89; refine (HS.out _).mono ?_; rintro e w' ⟨rfl, rfl⟩))
  all_goals
    go_ret
    exact ⟨rfl, rfl⟩
theorem vf_name2 (b o : Nat) (n : Int) (z : ByteArray) (w : World) (hz : z.size ≤ 9223372036854775807) (hm : (z.toList == []) = false) (h : VluAt b o ⟨2, n, z⟩ w) :
    Calls Tryd.prog 61 #[.pointer (some ⟨b, o, none⟩)] w fun e w' => e = .returned (.int .i64 1) ∧ w' = w := by
  obtain ⟨c0, c1, c2⟩ := h
  simp only at c0 c1 c2
  have HS : Hid (∀ w, Calls Tryd.prog 89 #[.string z] w fun e w' => e = .returned (.bool (symL z.data.toList)) ∧ w' = w) := fun w => sym_any z w hz
  go_enter Tryd.func61, Tryd.ntmps61
  go_wp2_with (first | (go_at_call 87; refine (l1In_any _ _ _ _).mono ?_; rintro e w' ⟨rfl, rfl⟩) | (go_at_call 86; refine (l5Placed_any _ _).mono ?_; rintro e w' ⟨rfl, rfl⟩) | (go_at_call 88; refine (l1Num_any _ _).mono ?_; rintro e w' ⟨rfl, rfl⟩) | (go_at_call 89; refine (HS.out _).mono ?_; rintro e w' ⟨rfl, rfl⟩))
  all_goals
    go_ret
    exact ⟨rfl, rfl⟩
theorem vf_no2 (b o : Nat) (n : Int) (z : ByteArray) (w : World) (hz : z.size ≤ 9223372036854775807) (hm : (z.toList == []) = true) (hr : (decide (0 ≤ n) && decide (n ≤ 1)) = false) (h : VluAt b o ⟨2, n, z⟩ w) :
    Calls Tryd.prog 61 #[.pointer (some ⟨b, o, none⟩)] w fun e w' => e = .returned (.int .i64 3) ∧ w' = w := by
  obtain ⟨c0, c1, c2⟩ := h
  simp only at c0 c1 c2
  have HS : Hid (∀ w, Calls Tryd.prog 89 #[.string z] w fun e w' => e = .returned (.bool (symL z.data.toList)) ∧ w' = w) := fun w => sym_any z w hz
  go_enter Tryd.func61, Tryd.ntmps61
  go_wp2_with (first | (go_at_call 87; refine (l1In_any _ _ _ _).mono ?_; rintro e w' ⟨rfl, rfl⟩) | (go_at_call 86; refine (l5Placed_any _ _).mono ?_; rintro e w' ⟨rfl, rfl⟩) | (go_at_call 88; refine (l1Num_any _ _).mono ?_; rintro e w' ⟨rfl, rfl⟩) | (go_at_call 89; refine (HS.out _).mono ?_; rintro e w' ⟨rfl, rfl⟩))
  all_goals
    go_ret
    exact ⟨rfl, rfl⟩
theorem vf_ok2 (b o : Nat) (n : Int) (z : ByteArray) (w : World) (hz : z.size ≤ 9223372036854775807) (hm : (z.toList == []) = true) (hr : (decide (0 ≤ n) && decide (n ≤ 1)) = true) (h : VluAt b o ⟨2, n, z⟩ w) :
    Calls Tryd.prog 61 #[.pointer (some ⟨b, o, none⟩)] w fun e w' => e = .returned (.int .i64 0) ∧ w' = w := by
  obtain ⟨c0, c1, c2⟩ := h
  simp only at c0 c1 c2
  have HS : Hid (∀ w, Calls Tryd.prog 89 #[.string z] w fun e w' => e = .returned (.bool (symL z.data.toList)) ∧ w' = w) := fun w => sym_any z w hz
  go_enter Tryd.func61, Tryd.ntmps61
  go_wp2_with (first | (go_at_call 87; refine (l1In_any _ _ _ _).mono ?_; rintro e w' ⟨rfl, rfl⟩) | (go_at_call 86; refine (l5Placed_any _ _).mono ?_; rintro e w' ⟨rfl, rfl⟩) | (go_at_call 88; refine (l1Num_any _ _).mono ?_; rintro e w' ⟨rfl, rfl⟩) | (go_at_call 89; refine (HS.out _).mono ?_; rintro e w' ⟨rfl, rfl⟩))
  all_goals
    go_ret
    exact ⟨rfl, rfl⟩
theorem vf_name5 (b o : Nat) (n : Int) (z : ByteArray) (w : World) (hz : z.size ≤ 9223372036854775807) (hm : (z.toList == []) = false) (h : VluAt b o ⟨5, n, z⟩ w) :
    Calls Tryd.prog 61 #[.pointer (some ⟨b, o, none⟩)] w fun e w' => e = .returned (.int .i64 1) ∧ w' = w := by
  obtain ⟨c0, c1, c2⟩ := h
  simp only at c0 c1 c2
  have HS : Hid (∀ w, Calls Tryd.prog 89 #[.string z] w fun e w' => e = .returned (.bool (symL z.data.toList)) ∧ w' = w) := fun w => sym_any z w hz
  go_enter Tryd.func61, Tryd.ntmps61
  go_wp2_with (first | (go_at_call 87; refine (l1In_any _ _ _ _).mono ?_; rintro e w' ⟨rfl, rfl⟩) | (go_at_call 86; refine (l5Placed_any _ _).mono ?_; rintro e w' ⟨rfl, rfl⟩) | (go_at_call 88; refine (l1Num_any _ _).mono ?_; rintro e w' ⟨rfl, rfl⟩) | (go_at_call 89; refine (HS.out _).mono ?_; rintro e w' ⟨rfl, rfl⟩))
  all_goals
    go_ret
    exact ⟨rfl, rfl⟩
theorem vf_no5 (b o : Nat) (n : Int) (z : ByteArray) (w : World) (hz : z.size ≤ 9223372036854775807) (hm : (z.toList == []) = true) (hr : (decide (0 ≤ n) && decide (n ≤ 99999)) = false) (h : VluAt b o ⟨5, n, z⟩ w) :
    Calls Tryd.prog 61 #[.pointer (some ⟨b, o, none⟩)] w fun e w' => e = .returned (.int .i64 3) ∧ w' = w := by
  obtain ⟨c0, c1, c2⟩ := h
  simp only at c0 c1 c2
  have HS : Hid (∀ w, Calls Tryd.prog 89 #[.string z] w fun e w' => e = .returned (.bool (symL z.data.toList)) ∧ w' = w) := fun w => sym_any z w hz
  go_enter Tryd.func61, Tryd.ntmps61
  go_wp2_with (first | (go_at_call 87; refine (l1In_any _ _ _ _).mono ?_; rintro e w' ⟨rfl, rfl⟩) | (go_at_call 86; refine (l5Placed_any _ _).mono ?_; rintro e w' ⟨rfl, rfl⟩) | (go_at_call 88; refine (l1Num_any _ _).mono ?_; rintro e w' ⟨rfl, rfl⟩) | (go_at_call 89; refine (HS.out _).mono ?_; rintro e w' ⟨rfl, rfl⟩))
  all_goals
    go_ret
    exact ⟨rfl, rfl⟩
theorem vf_ok5 (b o : Nat) (n : Int) (z : ByteArray) (w : World) (hz : z.size ≤ 9223372036854775807) (hm : (z.toList == []) = true) (hr : (decide (0 ≤ n) && decide (n ≤ 99999)) = true) (h : VluAt b o ⟨5, n, z⟩ w) :
    Calls Tryd.prog 61 #[.pointer (some ⟨b, o, none⟩)] w fun e w' => e = .returned (.int .i64 0) ∧ w' = w := by
  obtain ⟨c0, c1, c2⟩ := h
  simp only at c0 c1 c2
  have HS : Hid (∀ w, Calls Tryd.prog 89 #[.string z] w fun e w' => e = .returned (.bool (symL z.data.toList)) ∧ w' = w) := fun w => sym_any z w hz
  go_enter Tryd.func61, Tryd.ntmps61
  go_wp2_with (first | (go_at_call 87; refine (l1In_any _ _ _ _).mono ?_; rintro e w' ⟨rfl, rfl⟩) | (go_at_call 86; refine (l5Placed_any _ _).mono ?_; rintro e w' ⟨rfl, rfl⟩) | (go_at_call 88; refine (l1Num_any _ _).mono ?_; rintro e w' ⟨rfl, rfl⟩) | (go_at_call 89; refine (HS.out _).mono ?_; rintro e w' ⟨rfl, rfl⟩))
  all_goals
    go_ret
    exact ⟨rfl, rfl⟩
theorem vf_name6 (b o : Nat) (n : Int) (z : ByteArray) (w : World) (hz : z.size ≤ 9223372036854775807) (hm : (z.toList == []) = false) (h : VluAt b o ⟨6, n, z⟩ w) :
    Calls Tryd.prog 61 #[.pointer (some ⟨b, o, none⟩)] w fun e w' => e = .returned (.int .i64 1) ∧ w' = w := by
  obtain ⟨c0, c1, c2⟩ := h
  simp only at c0 c1 c2
  have HS : Hid (∀ w, Calls Tryd.prog 89 #[.string z] w fun e w' => e = .returned (.bool (symL z.data.toList)) ∧ w' = w) := fun w => sym_any z w hz
  go_enter Tryd.func61, Tryd.ntmps61
  go_wp2_with (first | (go_at_call 87; refine (l1In_any _ _ _ _).mono ?_; rintro e w' ⟨rfl, rfl⟩) | (go_at_call 86; refine (l5Placed_any _ _).mono ?_; rintro e w' ⟨rfl, rfl⟩) | (go_at_call 88; refine (l1Num_any _ _).mono ?_; rintro e w' ⟨rfl, rfl⟩) | (go_at_call 89; refine (HS.out _).mono ?_; rintro e w' ⟨rfl, rfl⟩))
  all_goals
    go_ret
    exact ⟨rfl, rfl⟩
theorem vf_no6 (b o : Nat) (n : Int) (z : ByteArray) (w : World) (hz : z.size ≤ 9223372036854775807) (hm : (z.toList == []) = true) (hr : (decide (0 ≤ n) && decide (n ≤ 99999)) = false) (h : VluAt b o ⟨6, n, z⟩ w) :
    Calls Tryd.prog 61 #[.pointer (some ⟨b, o, none⟩)] w fun e w' => e = .returned (.int .i64 3) ∧ w' = w := by
  obtain ⟨c0, c1, c2⟩ := h
  simp only at c0 c1 c2
  have HS : Hid (∀ w, Calls Tryd.prog 89 #[.string z] w fun e w' => e = .returned (.bool (symL z.data.toList)) ∧ w' = w) := fun w => sym_any z w hz
  go_enter Tryd.func61, Tryd.ntmps61
  go_wp2_with (first | (go_at_call 87; refine (l1In_any _ _ _ _).mono ?_; rintro e w' ⟨rfl, rfl⟩) | (go_at_call 86; refine (l5Placed_any _ _).mono ?_; rintro e w' ⟨rfl, rfl⟩) | (go_at_call 88; refine (l1Num_any _ _).mono ?_; rintro e w' ⟨rfl, rfl⟩) | (go_at_call 89; refine (HS.out _).mono ?_; rintro e w' ⟨rfl, rfl⟩))
  all_goals
    go_ret
    exact ⟨rfl, rfl⟩
theorem vf_ok6 (b o : Nat) (n : Int) (z : ByteArray) (w : World) (hz : z.size ≤ 9223372036854775807) (hm : (z.toList == []) = true) (hr : (decide (0 ≤ n) && decide (n ≤ 99999)) = true) (h : VluAt b o ⟨6, n, z⟩ w) :
    Calls Tryd.prog 61 #[.pointer (some ⟨b, o, none⟩)] w fun e w' => e = .returned (.int .i64 0) ∧ w' = w := by
  obtain ⟨c0, c1, c2⟩ := h
  simp only at c0 c1 c2
  have HS : Hid (∀ w, Calls Tryd.prog 89 #[.string z] w fun e w' => e = .returned (.bool (symL z.data.toList)) ∧ w' = w) := fun w => sym_any z w hz
  go_enter Tryd.func61, Tryd.ntmps61
  go_wp2_with (first | (go_at_call 87; refine (l1In_any _ _ _ _).mono ?_; rintro e w' ⟨rfl, rfl⟩) | (go_at_call 86; refine (l5Placed_any _ _).mono ?_; rintro e w' ⟨rfl, rfl⟩) | (go_at_call 88; refine (l1Num_any _ _).mono ?_; rintro e w' ⟨rfl, rfl⟩) | (go_at_call 89; refine (HS.out _).mono ?_; rintro e w' ⟨rfl, rfl⟩))
  all_goals
    go_ret
    exact ⟨rfl, rfl⟩
theorem vf_name7 (b o : Nat) (n : Int) (z : ByteArray) (w : World) (hz : z.size ≤ 9223372036854775807) (hm : (z.toList == []) = false) (h : VluAt b o ⟨7, n, z⟩ w) :
    Calls Tryd.prog 61 #[.pointer (some ⟨b, o, none⟩)] w fun e w' => e = .returned (.int .i64 1) ∧ w' = w := by
  obtain ⟨c0, c1, c2⟩ := h
  simp only at c0 c1 c2
  have HS : Hid (∀ w, Calls Tryd.prog 89 #[.string z] w fun e w' => e = .returned (.bool (symL z.data.toList)) ∧ w' = w) := fun w => sym_any z w hz
  go_enter Tryd.func61, Tryd.ntmps61
  go_wp2_with (first | (go_at_call 87; refine (l1In_any _ _ _ _).mono ?_; rintro e w' ⟨rfl, rfl⟩) | (go_at_call 86; refine (l5Placed_any _ _).mono ?_; rintro e w' ⟨rfl, rfl⟩) | (go_at_call 88; refine (l1Num_any _ _).mono ?_; rintro e w' ⟨rfl, rfl⟩) | (go_at_call 89; refine (HS.out _).mono ?_; rintro e w' ⟨rfl, rfl⟩))
  all_goals
    go_ret
    exact ⟨rfl, rfl⟩
theorem vf_no7 (b o : Nat) (n : Int) (z : ByteArray) (w : World) (hz : z.size ≤ 9223372036854775807) (hm : (z.toList == []) = true) (hr : (decide (0 ≤ n) && decide (n ≤ 99999)) = false) (h : VluAt b o ⟨7, n, z⟩ w) :
    Calls Tryd.prog 61 #[.pointer (some ⟨b, o, none⟩)] w fun e w' => e = .returned (.int .i64 3) ∧ w' = w := by
  obtain ⟨c0, c1, c2⟩ := h
  simp only at c0 c1 c2
  have HS : Hid (∀ w, Calls Tryd.prog 89 #[.string z] w fun e w' => e = .returned (.bool (symL z.data.toList)) ∧ w' = w) := fun w => sym_any z w hz
  go_enter Tryd.func61, Tryd.ntmps61
  go_wp2_with (first | (go_at_call 87; refine (l1In_any _ _ _ _).mono ?_; rintro e w' ⟨rfl, rfl⟩) | (go_at_call 86; refine (l5Placed_any _ _).mono ?_; rintro e w' ⟨rfl, rfl⟩) | (go_at_call 88; refine (l1Num_any _ _).mono ?_; rintro e w' ⟨rfl, rfl⟩) | (go_at_call 89; refine (HS.out _).mono ?_; rintro e w' ⟨rfl, rfl⟩))
  all_goals
    go_ret
    exact ⟨rfl, rfl⟩
theorem vf_ok7 (b o : Nat) (n : Int) (z : ByteArray) (w : World) (hz : z.size ≤ 9223372036854775807) (hm : (z.toList == []) = true) (hr : (decide (0 ≤ n) && decide (n ≤ 99999)) = true) (h : VluAt b o ⟨7, n, z⟩ w) :
    Calls Tryd.prog 61 #[.pointer (some ⟨b, o, none⟩)] w fun e w' => e = .returned (.int .i64 0) ∧ w' = w := by
  obtain ⟨c0, c1, c2⟩ := h
  simp only at c0 c1 c2
  have HS : Hid (∀ w, Calls Tryd.prog 89 #[.string z] w fun e w' => e = .returned (.bool (symL z.data.toList)) ∧ w' = w) := fun w => sym_any z w hz
  go_enter Tryd.func61, Tryd.ntmps61
  go_wp2_with (first | (go_at_call 87; refine (l1In_any _ _ _ _).mono ?_; rintro e w' ⟨rfl, rfl⟩) | (go_at_call 86; refine (l5Placed_any _ _).mono ?_; rintro e w' ⟨rfl, rfl⟩) | (go_at_call 88; refine (l1Num_any _ _).mono ?_; rintro e w' ⟨rfl, rfl⟩) | (go_at_call 89; refine (HS.out _).mono ?_; rintro e w' ⟨rfl, rfl⟩))
  all_goals
    go_ret
    exact ⟨rfl, rfl⟩
theorem vf_name8 (b o : Nat) (n : Int) (z : ByteArray) (w : World) (hz : z.size ≤ 9223372036854775807) (hm : (z.toList == []) = false) (h : VluAt b o ⟨8, n, z⟩ w) :
    Calls Tryd.prog 61 #[.pointer (some ⟨b, o, none⟩)] w fun e w' => e = .returned (.int .i64 1) ∧ w' = w := by
  obtain ⟨c0, c1, c2⟩ := h
  simp only at c0 c1 c2
  have HS : Hid (∀ w, Calls Tryd.prog 89 #[.string z] w fun e w' => e = .returned (.bool (symL z.data.toList)) ∧ w' = w) := fun w => sym_any z w hz
  go_enter Tryd.func61, Tryd.ntmps61
  go_wp2_with (first | (go_at_call 87; refine (l1In_any _ _ _ _).mono ?_; rintro e w' ⟨rfl, rfl⟩) | (go_at_call 86; refine (l5Placed_any _ _).mono ?_; rintro e w' ⟨rfl, rfl⟩) | (go_at_call 88; refine (l1Num_any _ _).mono ?_; rintro e w' ⟨rfl, rfl⟩) | (go_at_call 89; refine (HS.out _).mono ?_; rintro e w' ⟨rfl, rfl⟩))
  all_goals
    go_ret
    exact ⟨rfl, rfl⟩
theorem vf_no8 (b o : Nat) (n : Int) (z : ByteArray) (w : World) (hz : z.size ≤ 9223372036854775807) (hm : (z.toList == []) = true) (hr : (decide (0 ≤ n) && decide (n ≤ 99999)) = false) (h : VluAt b o ⟨8, n, z⟩ w) :
    Calls Tryd.prog 61 #[.pointer (some ⟨b, o, none⟩)] w fun e w' => e = .returned (.int .i64 3) ∧ w' = w := by
  obtain ⟨c0, c1, c2⟩ := h
  simp only at c0 c1 c2
  have HS : Hid (∀ w, Calls Tryd.prog 89 #[.string z] w fun e w' => e = .returned (.bool (symL z.data.toList)) ∧ w' = w) := fun w => sym_any z w hz
  go_enter Tryd.func61, Tryd.ntmps61
  go_wp2_with (first | (go_at_call 87; refine (l1In_any _ _ _ _).mono ?_; rintro e w' ⟨rfl, rfl⟩) | (go_at_call 86; refine (l5Placed_any _ _).mono ?_; rintro e w' ⟨rfl, rfl⟩) | (go_at_call 88; refine (l1Num_any _ _).mono ?_; rintro e w' ⟨rfl, rfl⟩) | (go_at_call 89; refine (HS.out _).mono ?_; rintro e w' ⟨rfl, rfl⟩))
  all_goals
    go_ret
    exact ⟨rfl, rfl⟩
theorem vf_ok8 (b o : Nat) (n : Int) (z : ByteArray) (w : World) (hz : z.size ≤ 9223372036854775807) (hm : (z.toList == []) = true) (hr : (decide (0 ≤ n) && decide (n ≤ 99999)) = true) (h : VluAt b o ⟨8, n, z⟩ w) :
    Calls Tryd.prog 61 #[.pointer (some ⟨b, o, none⟩)] w fun e w' => e = .returned (.int .i64 0) ∧ w' = w := by
  obtain ⟨c0, c1, c2⟩ := h
  simp only at c0 c1 c2
  have HS : Hid (∀ w, Calls Tryd.prog 89 #[.string z] w fun e w' => e = .returned (.bool (symL z.data.toList)) ∧ w' = w) := fun w => sym_any z w hz
  go_enter Tryd.func61, Tryd.ntmps61
  go_wp2_with (first | (go_at_call 87; refine (l1In_any _ _ _ _).mono ?_; rintro e w' ⟨rfl, rfl⟩) | (go_at_call 86; refine (l5Placed_any _ _).mono ?_; rintro e w' ⟨rfl, rfl⟩) | (go_at_call 88; refine (l1Num_any _ _).mono ?_; rintro e w' ⟨rfl, rfl⟩) | (go_at_call 89; refine (HS.out _).mono ?_; rintro e w' ⟨rfl, rfl⟩))
  all_goals
    go_ret
    exact ⟨rfl, rfl⟩
theorem vf_num3 (b o : Nat) (n : Int) (z : ByteArray) (w : World) (hz : z.size ≤ 9223372036854775807) (hn : (n != 0) = true) (h : VluAt b o ⟨3, n, z⟩ w) :
    Calls Tryd.prog 61 #[.pointer (some ⟨b, o, none⟩)] w fun e w' => e = .returned (.int .i64 1) ∧ w' = w := by
  obtain ⟨c0, c1, c2⟩ := h
  simp only at c0 c1 c2
  have HS : Hid (∀ w, Calls Tryd.prog 89 #[.string z] w fun e w' => e = .returned (.bool (symL z.data.toList)) ∧ w' = w) := fun w => sym_any z w hz
  go_enter Tryd.func61, Tryd.ntmps61
  go_wp2_with (first | (go_at_call 87; refine (l1In_any _ _ _ _).mono ?_; rintro e w' ⟨rfl, rfl⟩) | (go_at_call 86; refine (l5Placed_any _ _).mono ?_; rintro e w' ⟨rfl, rfl⟩) | (go_at_call 88; refine (l1Num_any _ _).mono ?_; rintro e w' ⟨rfl, rfl⟩) | (go_at_call 89; refine (HS.out _).mono ?_; rintro e w' ⟨rfl, rfl⟩))
  all_goals
    go_ret
    exact ⟨rfl, rfl⟩
theorem vf_name3 (b o : Nat) (n : Int) (z : ByteArray) (w : World) (hz : z.size ≤ 9223372036854775807) (h0 : n = 0) (hm : (z.toList == []) = false) (h : VluAt b o ⟨3, n, z⟩ w) :
    Calls Tryd.prog 61 #[.pointer (some ⟨b, o, none⟩)] w fun e w' => e = .returned (.int .i64 1) ∧ w' = w := by
  obtain ⟨c0, c1, c2⟩ := h
  simp only at c0 c1 c2
  have HS : Hid (∀ w, Calls Tryd.prog 89 #[.string z] w fun e w' => e = .returned (.bool (symL z.data.toList)) ∧ w' = w) := fun w => sym_any z w hz
  subst h0
  go_enter Tryd.func61, Tryd.ntmps61
  go_wp2_with (first | (go_at_call 87; refine (l1In_any _ _ _ _).mono ?_; rintro e w' ⟨rfl, rfl⟩) | (go_at_call 86; refine (l5Placed_any _ _).mono ?_; rintro e w' ⟨rfl, rfl⟩) | (go_at_call 88; refine (l1Num_any _ _).mono ?_; rintro e w' ⟨rfl, rfl⟩) | (go_at_call 89; refine (HS.out _).mono ?_; rintro e w' ⟨rfl, rfl⟩))
  all_goals
    go_ret
    exact ⟨rfl, rfl⟩
theorem vf_ok3 (b o : Nat) (n : Int) (z : ByteArray) (w : World) (hz : z.size ≤ 9223372036854775807) (h0 : n = 0) (hm : (z.toList == []) = true) (h : VluAt b o ⟨3, n, z⟩ w) :
    Calls Tryd.prog 61 #[.pointer (some ⟨b, o, none⟩)] w fun e w' => e = .returned (.int .i64 0) ∧ w' = w := by
  obtain ⟨c0, c1, c2⟩ := h
  simp only at c0 c1 c2
  have HS : Hid (∀ w, Calls Tryd.prog 89 #[.string z] w fun e w' => e = .returned (.bool (symL z.data.toList)) ∧ w' = w) := fun w => sym_any z w hz
  subst h0
  go_enter Tryd.func61, Tryd.ntmps61
  go_wp2_with (first | (go_at_call 87; refine (l1In_any _ _ _ _).mono ?_; rintro e w' ⟨rfl, rfl⟩) | (go_at_call 86; refine (l5Placed_any _ _).mono ?_; rintro e w' ⟨rfl, rfl⟩) | (go_at_call 88; refine (l1Num_any _ _).mono ?_; rintro e w' ⟨rfl, rfl⟩) | (go_at_call 89; refine (HS.out _).mono ?_; rintro e w' ⟨rfl, rfl⟩))
  all_goals
    go_ret
    exact ⟨rfl, rfl⟩
theorem vf_num9 (b o : Nat) (n : Int) (z : ByteArray) (w : World) (hz : z.size ≤ 9223372036854775807) (hn : (n != 0) = true) (h : VluAt b o ⟨9, n, z⟩ w) :
    Calls Tryd.prog 61 #[.pointer (some ⟨b, o, none⟩)] w fun e w' => e = .returned (.int .i64 1) ∧ w' = w := by
  obtain ⟨c0, c1, c2⟩ := h
  simp only at c0 c1 c2
  have HS : Hid (∀ w, Calls Tryd.prog 89 #[.string z] w fun e w' => e = .returned (.bool (symL z.data.toList)) ∧ w' = w) := fun w => sym_any z w hz
  go_enter Tryd.func61, Tryd.ntmps61
  go_wp2_with (first | (go_at_call 87; refine (l1In_any _ _ _ _).mono ?_; rintro e w' ⟨rfl, rfl⟩) | (go_at_call 86; refine (l5Placed_any _ _).mono ?_; rintro e w' ⟨rfl, rfl⟩) | (go_at_call 88; refine (l1Num_any _ _).mono ?_; rintro e w' ⟨rfl, rfl⟩) | (go_at_call 89; refine (HS.out _).mono ?_; rintro e w' ⟨rfl, rfl⟩))
  all_goals
    go_ret
    exact ⟨rfl, rfl⟩
theorem vf_name9 (b o : Nat) (n : Int) (z : ByteArray) (w : World) (hz : z.size ≤ 9223372036854775807) (h0 : n = 0) (hm : (z.toList == []) = false) (h : VluAt b o ⟨9, n, z⟩ w) :
    Calls Tryd.prog 61 #[.pointer (some ⟨b, o, none⟩)] w fun e w' => e = .returned (.int .i64 1) ∧ w' = w := by
  obtain ⟨c0, c1, c2⟩ := h
  simp only at c0 c1 c2
  have HS : Hid (∀ w, Calls Tryd.prog 89 #[.string z] w fun e w' => e = .returned (.bool (symL z.data.toList)) ∧ w' = w) := fun w => sym_any z w hz
  subst h0
  go_enter Tryd.func61, Tryd.ntmps61
  go_wp2_with (first | (go_at_call 87; refine (l1In_any _ _ _ _).mono ?_; rintro e w' ⟨rfl, rfl⟩) | (go_at_call 86; refine (l5Placed_any _ _).mono ?_; rintro e w' ⟨rfl, rfl⟩) | (go_at_call 88; refine (l1Num_any _ _).mono ?_; rintro e w' ⟨rfl, rfl⟩) | (go_at_call 89; refine (HS.out _).mono ?_; rintro e w' ⟨rfl, rfl⟩))
  all_goals
    go_ret
    exact ⟨rfl, rfl⟩
theorem vf_ok9 (b o : Nat) (n : Int) (z : ByteArray) (w : World) (hz : z.size ≤ 9223372036854775807) (h0 : n = 0) (hm : (z.toList == []) = true) (h : VluAt b o ⟨9, n, z⟩ w) :
    Calls Tryd.prog 61 #[.pointer (some ⟨b, o, none⟩)] w fun e w' => e = .returned (.int .i64 0) ∧ w' = w := by
  obtain ⟨c0, c1, c2⟩ := h
  simp only at c0 c1 c2
  have HS : Hid (∀ w, Calls Tryd.prog 89 #[.string z] w fun e w' => e = .returned (.bool (symL z.data.toList)) ∧ w' = w) := fun w => sym_any z w hz
  subst h0
  go_enter Tryd.func61, Tryd.ntmps61
  go_wp2_with (first | (go_at_call 87; refine (l1In_any _ _ _ _).mono ?_; rintro e w' ⟨rfl, rfl⟩) | (go_at_call 86; refine (l5Placed_any _ _).mono ?_; rintro e w' ⟨rfl, rfl⟩) | (go_at_call 88; refine (l1Num_any _ _).mono ?_; rintro e w' ⟨rfl, rfl⟩) | (go_at_call 89; refine (HS.out _).mono ?_; rintro e w' ⟨rfl, rfl⟩))
  all_goals
    go_ret
    exact ⟨rfl, rfl⟩
theorem vf_num4 (b o : Nat) (n : Int) (z : ByteArray) (w : World) (hz : z.size ≤ 9223372036854775807) (hn : (n != 0) = true) (h : VluAt b o ⟨4, n, z⟩ w) :
    Calls Tryd.prog 61 #[.pointer (some ⟨b, o, none⟩)] w fun e w' => e = .returned (.int .i64 1) ∧ w' = w := by
  obtain ⟨c0, c1, c2⟩ := h
  simp only at c0 c1 c2
  have HS : Hid (∀ w, Calls Tryd.prog 89 #[.string z] w fun e w' => e = .returned (.bool (symL z.data.toList)) ∧ w' = w) := fun w => sym_any z w hz
  go_enter Tryd.func61, Tryd.ntmps61
  go_wp2_with (first | (go_at_call 87; refine (l1In_any _ _ _ _).mono ?_; rintro e w' ⟨rfl, rfl⟩) | (go_at_call 86; refine (l5Placed_any _ _).mono ?_; rintro e w' ⟨rfl, rfl⟩) | (go_at_call 88; refine (l1Num_any _ _).mono ?_; rintro e w' ⟨rfl, rfl⟩) | (go_at_call 89; refine (HS.out _).mono ?_; rintro e w' ⟨rfl, rfl⟩))
  all_goals
    go_ret
    exact ⟨rfl, rfl⟩
theorem vf_no4 (b o : Nat) (n : Int) (z : ByteArray) (w : World) (hz : z.size ≤ 9223372036854775807) (h0 : n = 0) (hy : symL z.data.toList = false) (h : VluAt b o ⟨4, n, z⟩ w) :
    Calls Tryd.prog 61 #[.pointer (some ⟨b, o, none⟩)] w fun e w' => e = .returned (.int .i64 5) ∧ w' = w := by
  obtain ⟨c0, c1, c2⟩ := h
  simp only at c0 c1 c2
  have HS : Hid (∀ w, Calls Tryd.prog 89 #[.string z] w fun e w' => e = .returned (.bool (symL z.data.toList)) ∧ w' = w) := fun w => sym_any z w hz
  subst h0
  go_enter Tryd.func61, Tryd.ntmps61
  go_wp2_with (first | (go_at_call 87; refine (l1In_any _ _ _ _).mono ?_; rintro e w' ⟨rfl, rfl⟩) | (go_at_call 86; refine (l5Placed_any _ _).mono ?_; rintro e w' ⟨rfl, rfl⟩) | (go_at_call 88; refine (l1Num_any _ _).mono ?_; rintro e w' ⟨rfl, rfl⟩) | (go_at_call 89; refine (HS.out _).mono ?_; rintro e w' ⟨rfl, rfl⟩))
  all_goals
    go_ret
    exact ⟨rfl, rfl⟩
theorem vf_ok4 (b o : Nat) (n : Int) (z : ByteArray) (w : World) (hz : z.size ≤ 9223372036854775807) (h0 : n = 0) (hy : symL z.data.toList = true) (h : VluAt b o ⟨4, n, z⟩ w) :
    Calls Tryd.prog 61 #[.pointer (some ⟨b, o, none⟩)] w fun e w' => e = .returned (.int .i64 0) ∧ w' = w := by
  obtain ⟨c0, c1, c2⟩ := h
  simp only at c0 c1 c2
  have HS : Hid (∀ w, Calls Tryd.prog 89 #[.string z] w fun e w' => e = .returned (.bool (symL z.data.toList)) ∧ w' = w) := fun w => sym_any z w hz
  subst h0
  go_enter Tryd.func61, Tryd.ntmps61
  go_wp2_with (first | (go_at_call 87; refine (l1In_any _ _ _ _).mono ?_; rintro e w' ⟨rfl, rfl⟩) | (go_at_call 86; refine (l5Placed_any _ _).mono ?_; rintro e w' ⟨rfl, rfl⟩) | (go_at_call 88; refine (l1Num_any _ _).mono ?_; rintro e w' ⟨rfl, rfl⟩) | (go_at_call 89; refine (HS.out _).mono ?_; rintro e w' ⟨rfl, rfl⟩))
  all_goals
    go_ret
    exact ⟨rfl, rfl⟩
theorem l5Fault_any (b o : Nat) (t : Vlu) (w : World) (hz : t.name.size ≤ 9223372036854775807) (h : VluAt b o t w) :
    Calls Tryd.prog 61 #[.pointer (some ⟨b, o, none⟩)] w fun e w' => e = .returned (.int .i64 (vfault t)) ∧ w' = w := by
  obtain ⟨k, n, z⟩ := t
  simp only at hz
  rcases vkinds k with rfl | rfl | rfl | rfl | rfl | rfl | rfl | rfl | rfl | hk
  · cases hm : (z.toList == [])
    · have hm' := (name_not z).1 hm
      have e : vfault ⟨1, n, z⟩ = 1 := by simp [vfault, hm']
      rw [e]; exact vf_name1 b o n z w hz hm h
    · have hm' := (name_nil z).1 hm
      cases hr : inB n
      · have e : vfault ⟨1, n, z⟩ = 3 := by simp [vfault, hm', hr]
        rw [e]; exact vf_no1 b o n z w hz hm hr h
      · have e : vfault ⟨1, n, z⟩ = 0 := by simp [vfault, hm', hr]
        rw [e]; exact vf_ok1 b o n z w hz hm hr h
  · cases hm : (z.toList == [])
    · have hm' := (name_not z).1 hm
      have e : vfault ⟨2, n, z⟩ = 1 := by simp [vfault, hm']
      rw [e]; exact vf_name2 b o n z w hz hm h
    · have hm' := (name_nil z).1 hm
      cases hr : (decide (0 ≤ n) && decide (n ≤ 1))
      · have e : vfault ⟨2, n, z⟩ = 3 := by
          have : ¬ (0 ≤ n ∧ n ≤ 1) := by simpa [Bool.and_eq_false_iff] using hr
          simp [vfault, hm', this]
        rw [e]; exact vf_no2 b o n z w hz hm hr h
      · have e : vfault ⟨2, n, z⟩ = 0 := by
          have : 0 ≤ n ∧ n ≤ 1 := by simpa using hr
          simp [vfault, hm', this]
        rw [e]; exact vf_ok2 b o n z w hz hm hr h
  · by_cases h0 : n = 0
    · cases hm : (z.toList == [])
      · have hm' := (name_not z).1 hm
        have e : vfault ⟨3, n, z⟩ = 1 := by simp [vfault, hm']
        rw [e]; exact vf_name3 b o n z w hz h0 hm h
      · have hm' := (name_nil z).1 hm
        have e : vfault ⟨3, n, z⟩ = 0 := by simp [vfault, hm', h0]
        rw [e]; exact vf_ok3 b o n z w hz h0 hm h
    · have e : vfault ⟨3, n, z⟩ = 1 := by simp [vfault, h0]
      rw [e]; exact vf_num3 b o n z w hz (by simpa using h0) h
  · by_cases h0 : n = 0
    · cases hy : symL z.data.toList
      · have e : vfault ⟨4, n, z⟩ = 5 := by simp [vfault, h0, hy]
        rw [e]; exact vf_no4 b o n z w hz h0 hy h
      · have e : vfault ⟨4, n, z⟩ = 0 := by simp [vfault, h0, hy]
        rw [e]; exact vf_ok4 b o n z w hz h0 hy h
    · have e : vfault ⟨4, n, z⟩ = 1 := by simp [vfault, h0]
      rw [e]; exact vf_num4 b o n z w hz (by simpa using h0) h
  · cases hm : (z.toList == [])
    · have hm' := (name_not z).1 hm
      have e : vfault ⟨5, n, z⟩ = 1 := by simp [vfault, hm']
      rw [e]; exact vf_name5 b o n z w hz hm h
    · have hm' := (name_nil z).1 hm
      cases hr : (decide (0 ≤ n) && decide (n ≤ 99999))
      · have e : vfault ⟨5, n, z⟩ = 3 := by
          have : ¬ (0 ≤ n ∧ n ≤ 99999) := by simpa [Bool.and_eq_false_iff] using hr
          simp [vfault, hm', this]
        rw [e]; exact vf_no5 b o n z w hz hm hr h
      · have e : vfault ⟨5, n, z⟩ = 0 := by
          have : 0 ≤ n ∧ n ≤ 99999 := by simpa using hr
          simp [vfault, hm', this]
        rw [e]; exact vf_ok5 b o n z w hz hm hr h
  · cases hm : (z.toList == [])
    · have hm' := (name_not z).1 hm
      have e : vfault ⟨6, n, z⟩ = 1 := by simp [vfault, hm']
      rw [e]; exact vf_name6 b o n z w hz hm h
    · have hm' := (name_nil z).1 hm
      cases hr : (decide (0 ≤ n) && decide (n ≤ 99999))
      · have e : vfault ⟨6, n, z⟩ = 3 := by
          have : ¬ (0 ≤ n ∧ n ≤ 99999) := by simpa [Bool.and_eq_false_iff] using hr
          simp [vfault, hm', this]
        rw [e]; exact vf_no6 b o n z w hz hm hr h
      · have e : vfault ⟨6, n, z⟩ = 0 := by
          have : 0 ≤ n ∧ n ≤ 99999 := by simpa using hr
          simp [vfault, hm', this]
        rw [e]; exact vf_ok6 b o n z w hz hm hr h
  · cases hm : (z.toList == [])
    · have hm' := (name_not z).1 hm
      have e : vfault ⟨7, n, z⟩ = 1 := by simp [vfault, hm']
      rw [e]; exact vf_name7 b o n z w hz hm h
    · have hm' := (name_nil z).1 hm
      cases hr : (decide (0 ≤ n) && decide (n ≤ 99999))
      · have e : vfault ⟨7, n, z⟩ = 3 := by
          have : ¬ (0 ≤ n ∧ n ≤ 99999) := by simpa [Bool.and_eq_false_iff] using hr
          simp [vfault, hm', this]
        rw [e]; exact vf_no7 b o n z w hz hm hr h
      · have e : vfault ⟨7, n, z⟩ = 0 := by
          have : 0 ≤ n ∧ n ≤ 99999 := by simpa using hr
          simp [vfault, hm', this]
        rw [e]; exact vf_ok7 b o n z w hz hm hr h
  · cases hm : (z.toList == [])
    · have hm' := (name_not z).1 hm
      have e : vfault ⟨8, n, z⟩ = 1 := by simp [vfault, hm']
      rw [e]; exact vf_name8 b o n z w hz hm h
    · have hm' := (name_nil z).1 hm
      cases hr : (decide (0 ≤ n) && decide (n ≤ 99999))
      · have e : vfault ⟨8, n, z⟩ = 3 := by
          have : ¬ (0 ≤ n ∧ n ≤ 99999) := by simpa [Bool.and_eq_false_iff] using hr
          simp [vfault, hm', this]
        rw [e]; exact vf_no8 b o n z w hz hm hr h
      · have e : vfault ⟨8, n, z⟩ = 0 := by
          have : 0 ≤ n ∧ n ≤ 99999 := by simpa using hr
          simp [vfault, hm', this]
        rw [e]; exact vf_ok8 b o n z w hz hm hr h
  · by_cases h0 : n = 0
    · cases hm : (z.toList == [])
      · have hm' := (name_not z).1 hm
        have e : vfault ⟨9, n, z⟩ = 1 := by simp [vfault, hm']
        rw [e]; exact vf_name9 b o n z w hz h0 hm h
      · have hm' := (name_nil z).1 hm
        have e : vfault ⟨9, n, z⟩ = 0 := by simp [vfault, hm', h0]
        rw [e]; exact vf_ok9 b o n z w hz h0 hm h
    · have e : vfault ⟨9, n, z⟩ = 1 := by simp [vfault, h0]
      rw [e]; exact vf_num9 b o n z w hz (by simpa using h0) h
  · have e : vfault ⟨k, n, z⟩ = 1 := by simp only [vfault]; rw [if_pos hk]
    obtain ⟨k19, k58, k1, k2, _⟩ := vout k hk
    rw [e]; exact vf_out b o n z w k hz k19 k58 k1 k2 h
end Go.Proofs.YtgfienijabkpjaaDoor
/-
  The model's l5In, l5Heap and HeapFault: what is wrong with pairs; nothing is turned.
-/
namespace Go.Proofs.YtgfienijabkpjaaDoor
open Go.RowKit Go.Extern.Stop Go.Stop Go.Extern Num Go.Lib

theorem l5In_any (b o n : Nat) (t : Vlu) (w : World) (h : VluAt b o t w) :
    Calls Tryd.prog 62 #[.pointer (some ⟨b, o, none⟩), .int .i64 (n : Int)] w fun e w' => e = .returned (.bool (inH n t)) ∧ w' = w := by
  obtain ⟨c0, c1, c2⟩ := h
  have HR : Hid (inH n t = ((t.kind != 5) || decide (t.num < (n : Int)))) := rfl
  rw [HR.out]
  clear HR c2
  cases e5 : (t.kind != 5)
  · go_enter Tryd.func62, Tryd.ntmps62
    go_wp2
    go_ret
    exact ⟨by simp, rfl⟩
  · go_enter Tryd.func62, Tryd.ntmps62
    go_wp2
    go_ret
    exact ⟨rfl, rfl⟩
theorem RowP.hd {w : World} {g : Nat} {l : List Pai} (h : RowP w g l) (k : Nat) (hk : k < l.length) : VluAt g (k * 6) l[k].head w := ⟨(h k hk).1, (h k hk).2.1, (h k hk).2.2.1⟩
theorem RowP.tl {w : World} {g : Nat} {l : List Pai} (h : RowP w g l) (k : Nat) (hk : k < l.length) : VluAt g (k * 6 + 3) l[k].tail w := ⟨(h k hk).2.2.2.1, (h k hk).2.2.2.2.1, (h k hk).2.2.2.2.2⟩
set_option maxRecDepth 100000 in
set_option maxHeartbeats 2000000 in
theorem l5Heap_any (ao : Option Addr) (cap g : Nat) (l : List Pai) (w : World) (hl : l.length ≤ 1048576) (hao : 0 < l.length → ao = some ⟨g, 0, none⟩) (hr : RowP w g l) (hz : ableL l) :
    Calls Tryd.prog 60 #[.slice ao l.length cap] w fun e w' => e = .returned (.int .i64 (heapFault l)) ∧ w' = w := by
  obtain ⟨R, hR⟩ : ∃ R, R = heapFault l := ⟨_, rfl⟩
  rw [← hR]
  have HR : Hid (R = heapFault l) := hR
  have HP : Hid (RowP w g l) := hr
  have HZ : Hid (ableL l) := hz
  have HA : Hid (0 < l.length → ao = some ⟨g, 0, none⟩) := hao
  clear hR hr hz hao
  by_cases hm : 4000 < l.length
  · have HE : Hid (R = 2) := by show R = 2; rw [HR.out, heapFault, if_pos hm]
    have hm' : (4000 : Int) < (l.length : Int) := by omega
    clear HR
    go_enter Tryd.func60, Tryd.ntmps60
    go_wp2
    go_ret
    exact ⟨by rw [HE.out]; rfl, rfl⟩
  have HF : Hid (R = heapFrom 0 (l.drop 0)) := by show R = _; rw [HR.out, heapFault, if_neg hm]; rfl
  have hm' : ¬ (4000 : Int) < (l.length : Int) := by omega
  clear HR
  go_enter Tryd.func60, Tryd.ntmps60
  go_wp2_with fail
  go_loop [3] (fun i => ∃ k : Nat, k ≤ l.length ∧ i = .int .i64 (k : Int) ∧ Hid (R = heapFrom k (l.drop k))) (fun i => l.length - (RowKit.intOf i).toNat)
  case atStart => exact ⟨0, Nat.zero_le _, rfl, HF.out⟩
  case round =>
    obtain ⟨k, hk, rfl, HK⟩ := hrel
    by_cases hlt : k < l.length
    · obtain rfl := HA.out (by omega)
      have hv0 := HP.out.hd k hlt
      have hv1 := HP.out.tl k hlt
      have hz0 := HZ.out k hlt
      obtain ⟨c0, hc0⟩ : ∃ c, c = vfault (l[k]'hlt).head := ⟨_, rfl⟩
      obtain ⟨c1, hc1⟩ : ∃ c, c = vfault (l[k]'hlt).tail := ⟨_, rfl⟩
      obtain ⟨b0, hb0⟩ : ∃ b, b = inH k (l[k]'hlt).head := ⟨_, rfl⟩
      obtain ⟨b1, hb1⟩ : ∃ b, b = inH k (l[k]'hlt).tail := ⟨_, rfl⟩
      have HC0 : Hid (Calls Tryd.prog 61 #[.pointer (some ⟨g, k * 6, none⟩)] w fun e w' => e = .returned (.int .i64 c0) ∧ w' = w) := by rw [hc0]; exact l5Fault_any g (k * 6) _ w hz0.1 hv0
      have HC1 : Hid (Calls Tryd.prog 61 #[.pointer (some ⟨g, k * 6 + 3, none⟩)] w fun e w' => e = .returned (.int .i64 c1) ∧ w' = w) := by rw [hc1]; exact l5Fault_any g (k * 6 + 3) _ w hz0.2 hv1
      have HI0 : Hid (Calls Tryd.prog 62 #[.pointer (some ⟨g, k * 6, none⟩), .int .i64 (k : Int)] w fun e w' => e = .returned (.bool b0) ∧ w' = w) := by rw [hb0]; exact l5In_any g (k * 6) k _ w hv0
      have HI1 : Hid (Calls Tryd.prog 62 #[.pointer (some ⟨g, k * 6 + 3, none⟩), .int .i64 (k : Int)] w fun e w' => e = .returned (.bool b1) ∧ w' = w) := by rw [hb1]; exact l5In_any g (k * 6 + 3) k _ w hv1
      have HPf : Hid (pfault k (l[k]'hlt) = if c0 ≠ 0 then c0 else if c1 ≠ 0 then c1 else if (b0 && b1) = true then 0 else 1) := by show pfault k _ = _; rw [hc0, hc1, hb0, hb1]; rfl
      clear hv0 hv1 hz0 hc0 hc1 hb0 hb1
      by_cases h0 : c0 = 0
      · subst h0
        by_cases h1 : c1 = 0
        · subst h1
          cases b0
          · have HE : Hid (R = 1) := by
              have e : pfault k (l[k]'hlt) = 1 := by rw [HPf.out]; simp
              show R = 1; rw [HK.out, heapFrom_bad l k hlt (by rw [e]; decide), e]
            clear HPf HK
            go_wp2_with fail
            refine HC0.out.mono ?_
            rintro e w' ⟨rfl, rfl⟩
            go_wp2_with fail
            refine HC1.out.mono ?_
            rintro e w' ⟨rfl, rfl⟩
            go_wp2_with fail
            refine HI0.out.mono ?_
            rintro e w' ⟨rfl, rfl⟩
            go_wp2
            go_ret
            exact ⟨by rw [HE.out]; rfl, rfl⟩
          · cases b1
            · have HE : Hid (R = 1) := by
                have e : pfault k (l[k]'hlt) = 1 := by rw [HPf.out]; simp
                show R = 1; rw [HK.out, heapFrom_bad l k hlt (by rw [e]; decide), e]
              clear HPf HK
              go_wp2_with fail
              refine HC0.out.mono ?_
              rintro e w' ⟨rfl, rfl⟩
              go_wp2_with fail
              refine HC1.out.mono ?_
              rintro e w' ⟨rfl, rfl⟩
              go_wp2_with fail
              refine HI0.out.mono ?_
              rintro e w' ⟨rfl, rfl⟩
              go_wp2_with fail
              refine HI1.out.mono ?_
              rintro e w' ⟨rfl, rfl⟩
              go_wp2
              go_ret
              exact ⟨by rw [HE.out]; rfl, rfl⟩
            · have HE : Hid (R = heapFrom (k + 1) (l.drop (k + 1))) := by
                have e : pfault k (l[k]'hlt) = 0 := by rw [HPf.out]; simp
                show R = _; rw [HK.out, heapFrom_ok l k hlt e]
              clear HPf HK
              go_wp2_with fail
              refine HC0.out.mono ?_
              rintro e w' ⟨rfl, rfl⟩
              go_wp2_with fail
              refine HC1.out.mono ?_
              rintro e w' ⟨rfl, rfl⟩
              go_wp2_with fail
              refine HI0.out.mono ?_
              rintro e w' ⟨rfl, rfl⟩
              go_wp2_with fail
              refine HI1.out.mono ?_
              rintro e w' ⟨rfl, rfl⟩
              go_wp2
              exact ⟨⟨k + 1, by omega, by go_num, HE.out⟩, by simp [RowKit.intOf]; omega⟩
        · have HE : Hid (R = c1) := by
            have e : pfault k (l[k]'hlt) = c1 := by rw [HPf.out]; simp [h1]
            show R = c1; rw [HK.out, heapFrom_bad l k hlt (by rw [e]; exact h1), e]
          have h1' : (c1 != 0) = true := by simpa using h1
          clear HPf HK h1
          go_wp2_with fail
          refine HC0.out.mono ?_
          rintro e w' ⟨rfl, rfl⟩
          go_wp2_with fail
          refine HC1.out.mono ?_
          rintro e w' ⟨rfl, rfl⟩
          go_wp2
          go_ret
          exact ⟨by rw [HE.out]; rfl, rfl⟩
      · have HE : Hid (R = c0) := by
          have e : pfault k (l[k]'hlt) = c0 := by rw [HPf.out]; simp [h0]
          show R = c0; rw [HK.out, heapFrom_bad l k hlt (by rw [e]; exact h0), e]
        have h0' : (c0 != 0) = true := by simpa using h0
        clear HPf HK h0
        go_wp2_with fail
        refine HC0.out.mono ?_
        rintro e w' ⟨rfl, rfl⟩
        go_wp2
        go_ret
        exact ⟨by rw [HE.out]; rfl, rfl⟩
    · have HE : Hid (R = 0) := by show R = 0; rw [HK.out, heapFrom_end l k (by omega)]
      clear HK
      go_wp2
      go_ret
      exact ⟨by rw [HE.out]; rfl, rfl⟩
end Go.Proofs.YtgfienijabkpjaaDoor
/-
  The boxes of a call that takes two values and answers pairs and a value; what such a call answers.
-/
namespace Go.Proofs.YtgfienijabkpjaaDoor
open Go.RowKit Go.Extern.Stop Go.Stop Go.Extern Num Go.Lib

/-- The boxes of the call: two values, and the answer. -/
structure CtB (w : World) (a b : Vlu) (u : World) : Prop where
  va : VBox w.heap.size a u
  vb : VBox (w.heap.size + 1) b u
  r0 : u.cell? ⟨w.heap.size + 1 + 1, 0, none⟩ = some (.int .i64 0)
  r1 : u.cell? ⟨w.heap.size + 1 + 1, 1, none⟩ = some (.slice none 0 0)
  r2 : u.cell? ⟨w.heap.size + 1 + 1, 2, none⟩ = some (.int .i64 0)
  r3 : u.cell? ⟨w.heap.size + 1 + 1, 3, none⟩ = some (.int .i64 0)
  r4 : u.cell? ⟨w.heap.size + 1 + 1, 4, none⟩ = some (.string ⟨#[]⟩)
  rf : ∀ o, u.frozen? ⟨w.heap.size + 1 + 1, o, none⟩ = false
  z : w.heap.size + 1 + 1 < u.heap.size
  old : Below w.heap.size w u
theorem CtB.start (w : World) (a b : Vlu) : CtB w a b (((w.alloc (.cells #[.int .i64 a.kind, .int .i64 a.num, .string a.name] 38)).alloc (.cells #[.int .i64 b.kind, .int .i64 b.num, .string b.name] 38)).alloc (.cells #[.int .i64 0, .slice none 0 0, .int .i64 0, .int .i64 0, .string ⟨#[]⟩] 40)) := by
  obtain ⟨h1, h2, h3⟩ := box2 w a b 38 38
  have hb : Below ((w.alloc (.cells #[.int .i64 a.kind, .int .i64 a.num, .string a.name] 38)).alloc (.cells #[.int .i64 b.kind, .int .i64 b.num, .string b.name] 38)).heap.size _ (((w.alloc (.cells #[.int .i64 a.kind, .int .i64 a.num, .string a.name] 38)).alloc (.cells #[.int .i64 b.kind, .int .i64 b.num, .string b.name] 38)).alloc (.cells #[.int .i64 0, .slice none 0 0, .int .i64 0, .int .i64 0, .string ⟨#[]⟩] 40)) := (Below.refl _ _).alloc (Nat.le_refl _) _
  refine ⟨h1.below hb, h2.below hb, ?_, ?_, ?_, ?_, ?_, fun o => ?_, by simp, h3.trans (hb.mono h3.size)⟩
  · rw [World.cell?_alloc_at _ _ _ _ (by simp)]; rfl
  · rw [World.cell?_alloc_at _ _ _ _ (by simp)]; rfl
  · rw [World.cell?_alloc_at _ _ _ _ (by simp)]; rfl
  · rw [World.cell?_alloc_at _ _ _ _ (by simp)]; rfl
  · rw [World.cell?_alloc_at _ _ _ _ (by simp)]; rfl
  · rw [World.frozen?_alloc_at _ _ _ _ (by simp)]
theorem CtB.below {w u v : World} {a b : Vlu} (h : CtB w a b u) (hb : Below u.heap.size u v) : CtB w a b v :=
  ⟨h.va.below hb, h.vb.below hb, cell_keep hb h.r0, cell_keep hb h.r1, cell_keep hb h.r2, cell_keep hb h.r3, cell_keep hb h.r4, fun o => by rw [(bcell hb).2 _ _ h.z]; exact h.rf o, by have := hb.size; have := h.z; omega, h.old.trans (hb.mono h.old.size)⟩
theorem CtB.low {w u v : World} {a b : Vlu} {B : Nat} (h : CtB w a b u) (hB : w.heap.size + 1 + 1 < B) (hb : Below B u v) : CtB w a b v := by
  have ok : ∀ k o x, k ≤ w.heap.size + 1 + 1 → u.cell? ⟨k, o, none⟩ = some x → v.cell? ⟨k, o, none⟩ = some x := fun k o x hk hc => by rw [hb.cell (p := ⟨k, o, none⟩) (by show k < B; omega)]; exact hc
  refine ⟨⟨ok _ _ _ (by omega) h.va.c0, ok _ _ _ (by omega) h.va.c1, ok _ _ _ (by omega) h.va.c2⟩, ⟨ok _ _ _ (by omega) h.vb.c0, ok _ _ _ (by omega) h.vb.c1, ok _ _ _ (by omega) h.vb.c2⟩, ok _ _ _ (by omega) h.r0, ok _ _ _ (by omega) h.r1, ok _ _ _ (by omega) h.r2, ok _ _ _ (by omega) h.r3, ok _ _ _ (by omega) h.r4, fun o => ?_, by have := hb.size; have := h.z; omega, h.old.trans (hb.mono (by omega))⟩
  rw [hb.frozen (p := ⟨w.heap.size + 1 + 1, o, none⟩) hB]; exact h.rf o
/-- What a call answers: a code, pairs in a row of its own, a value. -/
def AnsV (w : World) (c : Int) (m : List Pai) (t : Vlu) (e : Ending) (w' : World) : Prop :=
  ∃ ao cp, e = .returned (.agg #[.int .i64 c, .slice ao m.length cp, .int .i64 t.kind, .int .i64 t.num, .string t.name]) ∧ w'.ownsRow w.heap.size 85 6 (.slice ao m.length cp) m.length (cellsP m) ∧ Below w.heap.size w w'
theorem none_row (w : World) (B : Nat) : w.ownsRow B 85 6 (.slice none ([] : List Pai).length 0) ([] : List Pai).length (cellsP []) := ⟨by simp [cellsP], .inl ⟨rfl, rfl⟩⟩
end Go.Proofs.YtgfienijabkpjaaDoor
/-
  The model's l5Asked, l5Copy and ConsTo: a pair put behind the others, in memory of its own; nothing that was there is turned.
-/
namespace Go.Proofs.YtgfienijabkpjaaDoor
open Go.RowKit Go.Extern.Stop Go.Stop Go.Extern Num Go.Lib

set_option maxHeartbeats 1000000 in
theorem l5Asked_any (ao : Option Addr) (cap g b : Nat) (l : List Pai) (t : Vlu) (w : World) (hl : l.length ≤ 1048576) (hao : 0 < l.length → ao = some ⟨g, 0, none⟩) (hr : RowP w g l) (hz : ableL l) (ht : t.name.size ≤ 9223372036854775807) (hv : VluAt b 0 t w) :
    Calls Tryd.prog 31 #[.slice ao l.length cap, .pointer (some ⟨b, 0, none⟩)] w fun e w' => e = .returned (.int .i64 (askV l t)) ∧ w' = w := by
  obtain ⟨R, hR⟩ : ∃ R, R = askV l t := ⟨_, rfl⟩
  obtain ⟨c, hc⟩ : ∃ c, c = heapFault l := ⟨_, rfl⟩
  obtain ⟨d, hd⟩ : ∃ d, d = vfault t := ⟨_, rfl⟩
  obtain ⟨i, hi⟩ : ∃ i, i = inH l.length t := ⟨_, rfl⟩
  have HC : Hid (Calls Tryd.prog 60 #[.slice ao l.length cap] w fun e w' => e = .returned (.int .i64 c) ∧ w' = w) := by rw [hc]; exact l5Heap_any ao cap g l w hl hao hr hz
  have HD : Hid (Calls Tryd.prog 61 #[.pointer (some ⟨b, 0, none⟩)] w fun e w' => e = .returned (.int .i64 d) ∧ w' = w) := by rw [hd]; exact l5Fault_any b 0 t w ht hv
  have HI : Hid (Calls Tryd.prog 62 #[.pointer (some ⟨b, 0, none⟩), .int .i64 (l.length : Int)] w fun e w' => e = .returned (.bool i) ∧ w' = w) := by rw [hi]; exact l5In_any b 0 l.length t w hv
  have HR : Hid (R = if c ≠ 0 then c else if d ≠ 0 then d else if i = true then 0 else 4) := by show R = _; rw [hR, hc, hd, hi]; rfl
  rw [← hR]
  clear hR hc hd hi hr hz hao hv ht
  by_cases h0 : c = 0
  case neg =>
    have HE : Hid (R = c) := by show R = c; rw [HR.out, if_pos h0]
    have h0' : (c != 0) = true := by simpa using h0
    clear h0 HR
    go_enter Tryd.func31, Tryd.ntmps31
    go_wp2_with fail
    refine HC.out.mono ?_
    rintro e w' ⟨rfl, rfl⟩
    go_wp2
    go_ret
    exact ⟨by rw [HE.out]; rfl, rfl⟩
  subst h0
  by_cases h1 : d = 0
  case neg =>
    have HE : Hid (R = d) := by show R = d; rw [HR.out, if_neg (by simp), if_pos h1]
    have h1' : (d != 0) = true := by simpa using h1
    clear h1 HR
    go_enter Tryd.func31, Tryd.ntmps31
    go_wp2_with fail
    refine HC.out.mono ?_
    rintro e w' ⟨rfl, rfl⟩
    go_wp2_with fail
    refine HD.out.mono ?_
    rintro e w' ⟨rfl, rfl⟩
    go_wp2
    go_ret
    exact ⟨by rw [HE.out]; rfl, rfl⟩
  subst h1
  have HE : Hid (R = if i = true then 0 else 4) := by show R = _; rw [HR.out, if_neg (by simp), if_neg (by simp)]
  clear HR
  cases i
  all_goals
    go_enter Tryd.func31, Tryd.ntmps31
    go_wp2_with fail
    refine HC.out.mono ?_
    rintro e w' ⟨rfl, rfl⟩
    go_wp2_with fail
    refine HD.out.mono ?_
    rintro e w' ⟨rfl, rfl⟩
    go_wp2_with fail
    refine HI.out.mono ?_
    rintro e w' ⟨rfl, rfl⟩
    go_wp2
    go_ret
    exact ⟨by rw [HE.out]; rfl, rfl⟩
theorem emptyP (w : World) : (w.alloc (.cells #[] 85)).ownsRow w.heap.size 85 6 (.slice (some ⟨w.heap.size, 0, none⟩) 0 0) 0 (cellsP []) :=
  ⟨by simp [cellsP], .inr ⟨w.heap.size, 0, _, rfl, Nat.le_refl _, heap_alloc_new w _, Nat.le_refl _, by unfold maxLen; omega, by simp, by simp [cellsP]⟩⟩
theorem vKeep {w u v : World} {a b : Vlu} (h : u.cell? ⟨w.heap.size, 0, none⟩ = some (.int .i64 a.kind) ∧ u.cell? ⟨w.heap.size, 1, none⟩ = some (.int .i64 a.num) ∧ u.cell? ⟨w.heap.size, 2, none⟩ = some (.string a.name) ∧ u.cell? ⟨w.heap.size + 1, 0, none⟩ = some (.int .i64 b.kind) ∧ u.cell? ⟨w.heap.size + 1, 1, none⟩ = some (.int .i64 b.num) ∧ u.cell? ⟨w.heap.size + 1, 2, none⟩ = some (.string b.name)) (hb : Below u.heap.size u v) : v.cell? ⟨w.heap.size, 0, none⟩ = some (.int .i64 a.kind) ∧ v.cell? ⟨w.heap.size, 1, none⟩ = some (.int .i64 a.num) ∧ v.cell? ⟨w.heap.size, 2, none⟩ = some (.string a.name) ∧ v.cell? ⟨w.heap.size + 1, 0, none⟩ = some (.int .i64 b.kind) ∧ v.cell? ⟨w.heap.size + 1, 1, none⟩ = some (.int .i64 b.num) ∧ v.cell? ⟨w.heap.size + 1, 2, none⟩ = some (.string b.name) :=
  ⟨cell_keep hb h.1, cell_keep hb h.2.1, cell_keep hb h.2.2.1, cell_keep hb h.2.2.2.1, cell_keep hb h.2.2.2.2.1, cell_keep hb h.2.2.2.2.2⟩
theorem vOf {w u : World} {a b : Vlu} (h : CtB w a b u) : u.cell? ⟨w.heap.size, 0, none⟩ = some (.int .i64 a.kind) ∧ u.cell? ⟨w.heap.size, 1, none⟩ = some (.int .i64 a.num) ∧ u.cell? ⟨w.heap.size, 2, none⟩ = some (.string a.name) ∧ u.cell? ⟨w.heap.size + 1, 0, none⟩ = some (.int .i64 b.kind) ∧ u.cell? ⟨w.heap.size + 1, 1, none⟩ = some (.int .i64 b.num) ∧ u.cell? ⟨w.heap.size + 1, 2, none⟩ = some (.string b.name) := ⟨h.va.c0, h.va.c1, h.va.c2, h.vb.c0, h.vb.c1, h.vb.c2⟩
theorem vSet {w u : World} {a b : Vlu} {r o : Nat} {x : Value} (hr : w.heap.size + 1 < r) (h : u.cell? ⟨w.heap.size, 0, none⟩ = some (.int .i64 a.kind) ∧ u.cell? ⟨w.heap.size, 1, none⟩ = some (.int .i64 a.num) ∧ u.cell? ⟨w.heap.size, 2, none⟩ = some (.string a.name) ∧ u.cell? ⟨w.heap.size + 1, 0, none⟩ = some (.int .i64 b.kind) ∧ u.cell? ⟨w.heap.size + 1, 1, none⟩ = some (.int .i64 b.num) ∧ u.cell? ⟨w.heap.size + 1, 2, none⟩ = some (.string b.name)) : (u.setCell ⟨r, o, none⟩ x).cell? ⟨w.heap.size, 0, none⟩ = some (.int .i64 a.kind) ∧ (u.setCell ⟨r, o, none⟩ x).cell? ⟨w.heap.size, 1, none⟩ = some (.int .i64 a.num) ∧ (u.setCell ⟨r, o, none⟩ x).cell? ⟨w.heap.size, 2, none⟩ = some (.string a.name) ∧ (u.setCell ⟨r, o, none⟩ x).cell? ⟨w.heap.size + 1, 0, none⟩ = some (.int .i64 b.kind) ∧ (u.setCell ⟨r, o, none⟩ x).cell? ⟨w.heap.size + 1, 1, none⟩ = some (.int .i64 b.num) ∧ (u.setCell ⟨r, o, none⟩ x).cell? ⟨w.heap.size + 1, 2, none⟩ = some (.string b.name) := by
  have ne : ∀ k o', k ≤ w.heap.size + 1 → (⟨r, o, none⟩ : Addr) ≠ ⟨k, o', none⟩ := fun k o' hk e => by injection e with e1; omega
  refine ⟨?_, ?_, ?_, ?_, ?_, ?_⟩
  · rw [World.cell?_setCell_other _ _ _ _ (ne _ _ (by omega))]; exact h.1
  · rw [World.cell?_setCell_other _ _ _ _ (ne _ _ (by omega))]; exact h.2.1
  · rw [World.cell?_setCell_other _ _ _ _ (ne _ _ (by omega))]; exact h.2.2.1
  · rw [World.cell?_setCell_other _ _ _ _ (ne _ _ (by omega))]; exact h.2.2.2.1
  · rw [World.cell?_setCell_other _ _ _ _ (ne _ _ (by omega))]; exact h.2.2.2.2.1
  · rw [World.cell?_setCell_other _ _ _ _ (ne _ _ (by omega))]; exact h.2.2.2.2.2
end Go.Proofs.YtgfienijabkpjaaDoor
/-
  The model's l5Text and ShowValue: the first 120 bytes of a value's text; nothing that was there is turned.
-/
namespace Go.Proofs.YtgfienijabkpjaaDoor
open Go.RowKit Go.Extern.Stop Go.Stop Go.Extern Num Go.Lib

/-- What is shown of a value. -/
def shownV (l : List Pai) (v : Vlu) : ByteArray := ⟨((showV l v).take 120).toArray⟩
theorem cut_size {s : ByteArray} : s.data.toList.length = s.size := by rw [Array.length_toList]; rfl
set_option maxRecDepth 100000 in
theorem l5Text_any (l : List Pai) (hl : heapFault l = 0) (g cap : Nat) (v : Vlu) (b o : Nat) (w : World) (hah : aheadV l.length v) (hn : l.length ≤ 4000) (hR : RowP w g l) (hv : VluAt b o v w) :
    Calls Tryd.prog 32 #[.slice (some ⟨g, 0, none⟩) l.length cap, .pointer (some ⟨b, o, none⟩)] w fun e w' => e = .returned (.string (shownV l v)) ∧ Below w.heap.size w w' := by
  have HQ : Hid (Calls Tryd.prog 63 #[.string ⟨#[]⟩, .slice (some ⟨g, 0, none⟩) l.length cap, .pointer (some ⟨b, o, none⟩)] w fun e w' => ∃ s : ByteArray, e = .returned (.string s) ∧ Cut120 s.data.toList (showV l v) ∧ Below w.heap.size w w') := by
    refine (l5Show_any l hl g cap (2 * l.length + 3) (by omega) v ⟨#[]⟩ b o w hah (need_all hah) (by show (0 : Nat) ≤ _; omega) hR hv).mono ?_
    rintro e w' ⟨s, rfl, hc, _, hb⟩
    exact ⟨s, rfl, by simpa [showV] using hc, hb⟩
  obtain ⟨R, hR'⟩ : ∃ R, R = shownV l v := ⟨_, rfl⟩
  have HR : Hid (R = shownV l v) := hR'
  rw [← hR']
  clear hR' hR hv hah hl
  go_enter Tryd.func32, Tryd.ntmps32
  go_wp2_with fail
  refine HQ.out.mono ?_
  rintro e w1 ⟨s, rfl, hc, hb⟩
  by_cases h : 120 < (s.size : Int)
  · have h120 : 120 ≤ s.size := by omega
    have HE : Hid (s.extract 0 120 = R) := by
      show _ = _
      rw [HR.out]
      unfold shownV
      rw [← hc.take]
      apply ByteArray.ext
      rw [ByteArray.data_extract]
      apply Array.toList_inj.1
      simp
    have HB : Hid (Below w.heap.size w w1) := hb
    clear hc hb
    go_wp2
    go_ret
    exact ⟨by rw [HE.out]; rfl, HB.out⟩
  · have HE : Hid (s = R) := by
      show _ = _
      rw [HR.out]
      unfold shownV
      rw [← hc.short (by rw [cut_size]; omega)]
    have HB : Hid (Below w.heap.size w w1) := hb
    clear hc hb
    go_wp2
    go_ret
    exact ⟨by rw [HE.out]; rfl, HB.out⟩
/-- The text of ShowValue's answer. -/
def textSV (l : List Pai) (t : Vlu) : ByteArray := if askV l t = 0 then shownV l t else ⟨#[]⟩
/-- The two boxes of the call, as they were laid. -/
def tsW (w : World) (t : Vlu) : World := (w.alloc (.cells #[.int .i64 t.kind, .int .i64 t.num, .string t.name] 38)).alloc (.cells #[.int .i64 0, .string ⟨#[]⟩] 29)
theorem ts_old (w : World) (t : Vlu) : Below w.heap.size w (tsW w t) := ((Below.refl _ _).alloc (Nat.le_refl _) _).alloc (by simp) _
theorem ts_at (w : World) (t : Vlu) : VluAt w.heap.size 0 t (tsW w t) := ⟨by unfold tsW; rw [World.cell?_alloc_past _ _ _ (by simp), World.cell?_alloc_at _ _ _ _ rfl]; rfl, by unfold tsW; rw [World.cell?_alloc_past _ _ _ (by simp), World.cell?_alloc_at _ _ _ _ rfl]; rfl, by unfold tsW; rw [World.cell?_alloc_past _ _ _ (by simp), World.cell?_alloc_at _ _ _ _ rfl]; rfl⟩
set_option maxRecDepth 100000 in
set_option maxHeartbeats 2000000 in
theorem specShow_any (cap base g : Nat) (l : List Pai) (t : Vlu) (w : World) (hl : l.length ≤ 1048576) (h : w.ownsRow base 85 6 (.slice (some ⟨g, 0, none⟩) l.length cap) l.length (cellsP l)) (hz : ableL l) (ht : t.name.size ≤ 9223372036854775807) :
    Calls Tryd.prog 14 #[.slice (some ⟨g, 0, none⟩) l.length cap, t.val] w fun e w' => e = .returned (.agg #[.int .i64 (askV l t), .string (textSV l t)]) ∧ Below w.heap.size w w' := by
  have HR : Hid (RowP w g l) := RowP.of h
  have HA : Hid (Calls Tryd.prog 31 #[.slice (some ⟨g, 0, none⟩) l.length cap, .pointer (some ⟨w.heap.size, 0, none⟩)] (tsW w t) fun e w' => e = .returned (.int .i64 (askV l t)) ∧ w' = tsW w t) :=
    l5Asked_any _ cap g w.heap.size l t _ hl (fun _ => rfl) (HR.out.below (ts_old w t)) hz ht (ts_at w t)
  clear h hz ht
  by_cases h0 : askV l t = 0
  case neg =>
    have h0' : (askV l t != 0) = true := by simpa using h0
    have e2 : textSV l t = ⟨#[]⟩ := by unfold textSV; rw [if_neg h0]
    rw [e2]
    clear e2 h0
    generalize askV l t = c at h0' HA
    unfold tsW at HA
    go_enter Tryd.func14, Tryd.ntmps14
    go_wp2_with fail
    refine HA.out.mono ?_
    rintro e w1 ⟨rfl, rfl⟩
    go_wp2
    refine bodyPost_ret (v := .agg #[.int .i64 c, .string ⟨#[]⟩]) (by simp [results, Tryd.results14, go_sem]) rfl ⟨rfl, ?_⟩
    repeat (first | refine Below.setCell ?_ (by simp <;> omega) _ | refine Below.alloc ?_ (by simp <;> omega) _ | exact Below.refl _ _)
  obtain ⟨hh, hi⟩ := askV_zero h0
  have h4 : l.length ≤ 4000 := by
    unfold heapFault at hh
    split at hh
    · omega
    · omega
  have HT : Hid (Calls Tryd.prog 32 #[.slice (some ⟨g, 0, none⟩) l.length cap, .pointer (some ⟨w.heap.size, 0, none⟩)] (tsW w t) fun e w' => e = .returned (.string (textSV l t)) ∧ Below (tsW w t).heap.size (tsW w t) w') := by
    have e2 : textSV l t = shownV l t := by unfold textSV; rw [if_pos h0]
    rw [e2]
    exact l5Text_any l hh g cap t w.heap.size 0 (tsW w t) (aheadV_of hi) h4 (HR.out.below (ts_old w t)) (ts_at w t)
  rw [h0] at HA ⊢
  generalize textSV l t = R at HT ⊢
  clear h0 hi hh h4
  have HO : Hid (Below w.heap.size w (tsW w t)) := ts_old w t
  unfold tsW at HA HT HO
  go_enter Tryd.func14, Tryd.ntmps14
  go_wp2_with fail
  refine HA.out.mono ?_
  rintro e w1 ⟨rfl, rfl⟩
  go_wp2_with fail
  refine HT.out.mono ?_
  rintro e w2 ⟨rfl, hb⟩
  obtain ⟨hc, hf⟩ := bcell hb
  have HB : Hid (Below w.heap.size w w2) := HO.out.trans (hb.mono HO.out.size)
  have hs2 : w.heap.size + 2 ≤ w2.heap.size := by have := hb.size; simp at this; omega
  clear hb
  go_wp2
  refine bodyPost_ret (v := .agg #[.int .i64 0, .string R]) (by simp [results, Tryd.results14, go_sem, hc]) rfl ⟨rfl, ?_⟩
  repeat (first | exact HB.out | refine Below.setCell ?_ (by simp <;> omega) _)
end Go.Proofs.YtgfienijabkpjaaDoor
