/-
  The model's ParseConfig: of a text that is a setting's the setting, of every other one the code; nothing that was there is turned.
-/
import Derived.Test.YtebnonpdaddniaaGreatDoorConfP
namespace Go.Proofs.YtebnonpdaddniaaGreatDoor
open Go.RowKit Go.Extern.Stop Go.Stop Go.Extern Num Go.Lib

/-- Two bits as a number. -/
def bitsP (p c : Bool) : Nat := (if p then 1 else 0) + (if c then 2 else 0)
theorem bitsP_lt (p c : Bool) : bitsP p c < 4 := by cases p <;> cases c <;> decide
set_option maxRecDepth 100000 in
set_option maxHeartbeats 2000000 in
theorem specPC_any (x : ByteArray) (k s t : Int) (p c : Bool) (h : AnsP x.data.toList k s t p c) (w : World) :
    Calls Tryz.prog 12 #[.string x] w fun e w' => e = .returned (crV k s t p c) ∧ Below w.heap.size w w' := by
  obtain ⟨W, hW⟩ : ∃ W, W = w.alloc (.cells #[.int .i64 0, .int .i64 0, .int .i64 0, .bool false, .bool false] 28) := ⟨_, rfl⟩
  have HW : Hid (W = w.alloc (.cells #[.int .i64 0, .int .i64 0, .int .i64 0, .bool false, .bool false] 28)) := hW
  have hb0 : Below w.heap.size w W := by rw [hW]; exact bnewC _ _
  have hr : ∀ (j : Nat) v, (#[.int .i64 0, .int .i64 0, .int .i64 0, .bool false, .bool false] : Array Value)[j]? = some v → W.cell? ⟨w.heap.size, j, none⟩ = some v := fun j v hj => by rw [hW, World.cell?_alloc_at _ _ _ _ rfl]; exact hj
  have rf : ∀ j, W.frozen? ⟨w.heap.size, j, none⟩ = false := fun j => by rw [hW]; simp [go_sem]
  have rl : w.heap.size < W.heap.size := by rw [hW]; simp
  have HR : Hid (∀ u, Below W.heap.size W u → (u.cell? ⟨w.heap.size, 0, none⟩ = some (.int .i64 0) ∧ u.cell? ⟨w.heap.size, 1, none⟩ = some (.int .i64 0) ∧ u.cell? ⟨w.heap.size, 2, none⟩ = some (.int .i64 0) ∧ u.cell? ⟨w.heap.size, 3, none⟩ = some (.bool false) ∧ u.cell? ⟨w.heap.size, 4, none⟩ = some (.bool false)) ∧ (∀ j, u.frozen? ⟨w.heap.size, j, none⟩ = false) ∧ w.heap.size < u.heap.size) := fun u hu => ⟨⟨cell_keep hu (hr 0 _ rfl), cell_keep hu (hr 1 _ rfl), cell_keep hu (hr 2 _ rfl), cell_keep hu (hr 3 _ rfl), cell_keep hu (hr 4 _ rfl)⟩, fun j => by rw [(bcell hu).2 _ _ rl]; exact rf j, Nat.lt_of_lt_of_le rl hu.size⟩
  have HBw : Hid (∀ u, Below W.heap.size W u → Below w.heap.size w u) := fun u hu => hb0.trans (hu.mono hb0.size)
  have HA : Hid (AnsP x.data.toList k s t p c) := h
  clear hW hb0 hr rf rl h
  go_enter Tryz.func12, Tryz.ntmps12
  go_wp2_with fail
  rw [← HW.out]
  clear HW
  go_loopw [3] (fun i wr => ∃ a : Nat, a ≤ 65 ∧ 1 ≤ a ∧ i = .int .i64 (a : Int) ∧ Hid (Below W.heap.size W wr) ∧ Hid (∀ s t p c, isCfg x.data.toList s t p c → a ≤ s)) (fun i _ => 65 - (RowKit.intOf i).toNat)
  case atStart => exact ⟨1, by omega, by omega, by rfl, Below.refl _ _, fun s t p c hh => hh.1⟩
  case round =>
    obtain ⟨a, ha, ha1, rfl, HBa, HJa⟩ := hrel
    by_cases hlt : a < 65
    · have hle : ((a : Int) ≤ 64) := by omega
      go_wp2_with fail
      go_loopw [4] (fun i wb => ∃ b : Nat, b ≤ 16 ∧ i = .int .i64 (b : Int) ∧ Hid (Below W.heap.size W wb) ∧ Hid (∀ s t p c, isCfg x.data.toList s t p c → a < s ∨ a = s ∧ b ≤ t)) (fun i _ => 16 - (RowKit.intOf i).toNat)
      case atStart => exact ⟨0, by omega, by rfl, HBa.out, fun s t p c hh => by have := HJa.out s t p c hh; omega⟩
      case round =>
        obtain ⟨b, hb, rfl, HBc, HJc⟩ := hrel
        by_cases hlb : b < 16
        · have hle2 : ((b : Int) < 16) := by omega
          go_wp2_with fail
          go_loopw [5] (fun i wb => ∃ q : Nat, q ≤ 4 ∧ i = .int .i64 (q : Int) ∧ Hid (Below W.heap.size W wb) ∧ Hid (∀ s t p c, isCfg x.data.toList s t p c → a < s ∨ a = s ∧ (b < t ∨ b = t ∧ q ≤ bitsP p c))) (fun i _ => 4 - (RowKit.intOf i).toNat)
          case atStart => exact ⟨0, by omega, by rfl, HBc.out, fun s t p c hh => by have := HJc.out s t p c hh; omega⟩
          case round =>
            obtain ⟨q, hq, rfl, HBb, HJb⟩ := hrel
            by_cases hlq : q < 4
            · obtain rfl | rfl | rfl | rfl : q = 0 ∨ q = 1 ∨ q = 2 ∨ q = 3 := by omega
              · obtain ⟨X, hX⟩ : ∃ X, X = wr.alloc (.cells #[.int .i64 (a : Int), .int .i64 (b : Int), .bool false, .bool false] 26) := ⟨_, rfl⟩
                have HX : Hid (X = wr.alloc (.cells #[.int .i64 (a : Int), .int .i64 (b : Int), .bool false, .bool false] 26)) := hX
                have hcc := box4 wr (a : Int) (b : Int) false false 26
                rw [← hX] at hcc
                have HBX : Hid (Below W.heap.size W X) := by show Below _ _ _; rw [hX]; exact HBb.out.alloc HBb.out.size _
                obtain ⟨y, hy⟩ : ∃ y : ByteArray, y = ⟨(cfgT a b false false).toArray⟩ := ⟨_, rfl⟩
                have HTx : Hid (Calls Tryz.prog 41 #[.pointer (some ⟨wr.heap.size, 0, none⟩)] X fun e w' => e = .returned (.string y) ∧ Below X.heap.size X w') := by
                  have := l13Text_any wr.heap.size (a : Int) (b : Int) false false X (okS_iff.2 (by omega)) hcc
                  rw [hy]; exact this
                have HXc : Hid (∀ u, Below X.heap.size X u → u.cell? ⟨wr.heap.size, 0, none⟩ = some (.int .i64 (a : Int)) ∧ u.cell? ⟨wr.heap.size, 1, none⟩ = some (.int .i64 (b : Int)) ∧ u.cell? ⟨wr.heap.size, 2, none⟩ = some (.bool false) ∧ u.cell? ⟨wr.heap.size, 3, none⟩ = some (.bool false)) := fun u hu => ⟨cell_keep hu hcc.1, cell_keep hu hcc.2.1, cell_keep hu hcc.2.2.1, cell_keep hu hcc.2.2.2⟩
                have HYx : Hid (y = x → isCfg x.data.toList a b false false) := fun e => ⟨by omega, by omega, by omega, by rw [← e, hy]⟩
                have HNx : Hid (¬ y = x → ∀ s t p c, isCfg x.data.toList s t p c → a < s ∨ a = s ∧ (b < t ∨ b = t ∧ 1 ≤ bitsP p c)) := fun e s t p c hh => by
                  rcases HJb.out s t p c hh with q | ⟨q1, q | ⟨q2, q3⟩⟩
                  · exact .inl q
                  · exact .inr ⟨q1, .inl q⟩
                  · refine .inr ⟨q1, .inr ⟨q2, ?_⟩⟩
                    have hne : ¬ bitsP p c = 0 := fun e2 => e (by
                      obtain ⟨-, -, -, q4⟩ := hh
                      have q5 : p = false ∧ c = false := by revert e2; cases p <;> cases c <;> simp [bitsP]
                      rw [hy]; apply eqB_list; rw [← q4, ← q1, ← q2, q5.1, q5.2])
                    omega
                have hzx : W.heap.size ≤ X.heap.size := HBX.out.size
                clear hX hcc hy HJb HBb
                go_upto_region 11 with fail
                rw [← HX.out]
                clear HX
                go_wp2_with fail
                refine HTx.out.mono ?_
                rintro e w3 ⟨rfl, b3⟩
                have HB3 : Hid (Below W.heap.size W w3) := HBX.out.trans (b3.mono HBX.out.size)
                by_cases hyx : y = x
                · obtain ⟨rfl, rfl, rfl, rfl, rfl⟩ := ansP_some HA.out (HYx.out hyx)
                  obtain ⟨q0, q1, q2, q3⟩ := HXc.out w3 b3
                  obtain ⟨⟨r0, r1, r2, r3, r4⟩, rf, rl⟩ := HR.out w3 HB3.out
                  have HB1 : Hid (Below w.heap.size w w3) := HBw.out w3 HB3.out
                  subst hyx
                  clear HTx HXc HYx HNx b3 HB3 HBX HR HBw HJa HJc
                  go_wp2
                  refine bodyPost_ret (v := crV 0 a b false false) (by simp [results, Tryz.results12, go_sem, r0, r1, r2, r3, r4]) rfl ⟨rfl, ?_⟩
                  repeat (first | exact HB1.out | refine Below.setCell ?_ (by simp) _)
                · have HJn : Hid (∀ s t p c, isCfg x.data.toList s t p c → a < s ∨ a = s ∧ (b < t ∨ b = t ∧ 1 ≤ bitsP p c)) := HNx.out hyx
                  have hb0 : ¬ y.toList = x.toList := fun e => hyx (eqB_list (by rw [← Lib.toList_data, ← Lib.toList_data]; exact e))
                  have hb3 : (y.toList == x.toList) = false := by simpa using hb0
                  clear HTx HXc HYx HNx b3 hb0 hyx
                  go_wp2
                  exact ⟨⟨1, by omega, by go_num, HB3.out, HJn.out⟩, by simp [RowKit.intOf]⟩
              · obtain ⟨X, hX⟩ : ∃ X, X = wr.alloc (.cells #[.int .i64 (a : Int), .int .i64 (b : Int), .bool true, .bool false] 26) := ⟨_, rfl⟩
                have HX : Hid (X = wr.alloc (.cells #[.int .i64 (a : Int), .int .i64 (b : Int), .bool true, .bool false] 26)) := hX
                have hcc := box4 wr (a : Int) (b : Int) true false 26
                rw [← hX] at hcc
                have HBX : Hid (Below W.heap.size W X) := by show Below _ _ _; rw [hX]; exact HBb.out.alloc HBb.out.size _
                obtain ⟨y, hy⟩ : ∃ y : ByteArray, y = ⟨(cfgT a b true false).toArray⟩ := ⟨_, rfl⟩
                have HTx : Hid (Calls Tryz.prog 41 #[.pointer (some ⟨wr.heap.size, 0, none⟩)] X fun e w' => e = .returned (.string y) ∧ Below X.heap.size X w') := by
                  have := l13Text_any wr.heap.size (a : Int) (b : Int) true false X (okS_iff.2 (by omega)) hcc
                  rw [hy]; exact this
                have HXc : Hid (∀ u, Below X.heap.size X u → u.cell? ⟨wr.heap.size, 0, none⟩ = some (.int .i64 (a : Int)) ∧ u.cell? ⟨wr.heap.size, 1, none⟩ = some (.int .i64 (b : Int)) ∧ u.cell? ⟨wr.heap.size, 2, none⟩ = some (.bool true) ∧ u.cell? ⟨wr.heap.size, 3, none⟩ = some (.bool false)) := fun u hu => ⟨cell_keep hu hcc.1, cell_keep hu hcc.2.1, cell_keep hu hcc.2.2.1, cell_keep hu hcc.2.2.2⟩
                have HYx : Hid (y = x → isCfg x.data.toList a b true false) := fun e => ⟨by omega, by omega, by omega, by rw [← e, hy]⟩
                have HNx : Hid (¬ y = x → ∀ s t p c, isCfg x.data.toList s t p c → a < s ∨ a = s ∧ (b < t ∨ b = t ∧ 2 ≤ bitsP p c)) := fun e s t p c hh => by
                  rcases HJb.out s t p c hh with q | ⟨q1, q | ⟨q2, q3⟩⟩
                  · exact .inl q
                  · exact .inr ⟨q1, .inl q⟩
                  · refine .inr ⟨q1, .inr ⟨q2, ?_⟩⟩
                    have hne : ¬ bitsP p c = 1 := fun e2 => e (by
                      obtain ⟨-, -, -, q4⟩ := hh
                      have q5 : p = true ∧ c = false := by revert e2; cases p <;> cases c <;> simp [bitsP]
                      rw [hy]; apply eqB_list; rw [← q4, ← q1, ← q2, q5.1, q5.2])
                    omega
                have hzx : W.heap.size ≤ X.heap.size := HBX.out.size
                clear hX hcc hy HJb HBb
                go_upto_region 11 with fail
                rw [← HX.out]
                clear HX
                go_wp2_with fail
                refine HTx.out.mono ?_
                rintro e w3 ⟨rfl, b3⟩
                have HB3 : Hid (Below W.heap.size W w3) := HBX.out.trans (b3.mono HBX.out.size)
                by_cases hyx : y = x
                · obtain ⟨rfl, rfl, rfl, rfl, rfl⟩ := ansP_some HA.out (HYx.out hyx)
                  obtain ⟨q0, q1, q2, q3⟩ := HXc.out w3 b3
                  obtain ⟨⟨r0, r1, r2, r3, r4⟩, rf, rl⟩ := HR.out w3 HB3.out
                  have HB1 : Hid (Below w.heap.size w w3) := HBw.out w3 HB3.out
                  subst hyx
                  clear HTx HXc HYx HNx b3 HB3 HBX HR HBw HJa HJc
                  go_wp2
                  refine bodyPost_ret (v := crV 0 a b true false) (by simp [results, Tryz.results12, go_sem, r0, r1, r2, r3, r4]) rfl ⟨rfl, ?_⟩
                  repeat (first | exact HB1.out | refine Below.setCell ?_ (by simp) _)
                · have HJn : Hid (∀ s t p c, isCfg x.data.toList s t p c → a < s ∨ a = s ∧ (b < t ∨ b = t ∧ 2 ≤ bitsP p c)) := HNx.out hyx
                  have hb0 : ¬ y.toList = x.toList := fun e => hyx (eqB_list (by rw [← Lib.toList_data, ← Lib.toList_data]; exact e))
                  have hb3 : (y.toList == x.toList) = false := by simpa using hb0
                  clear HTx HXc HYx HNx b3 hb0 hyx
                  go_wp2
                  exact ⟨⟨2, by omega, by go_num, HB3.out, HJn.out⟩, by simp [RowKit.intOf]⟩
              · obtain ⟨X, hX⟩ : ∃ X, X = wr.alloc (.cells #[.int .i64 (a : Int), .int .i64 (b : Int), .bool false, .bool true] 26) := ⟨_, rfl⟩
                have HX : Hid (X = wr.alloc (.cells #[.int .i64 (a : Int), .int .i64 (b : Int), .bool false, .bool true] 26)) := hX
                have hcc := box4 wr (a : Int) (b : Int) false true 26
                rw [← hX] at hcc
                have HBX : Hid (Below W.heap.size W X) := by show Below _ _ _; rw [hX]; exact HBb.out.alloc HBb.out.size _
                obtain ⟨y, hy⟩ : ∃ y : ByteArray, y = ⟨(cfgT a b false true).toArray⟩ := ⟨_, rfl⟩
                have HTx : Hid (Calls Tryz.prog 41 #[.pointer (some ⟨wr.heap.size, 0, none⟩)] X fun e w' => e = .returned (.string y) ∧ Below X.heap.size X w') := by
                  have := l13Text_any wr.heap.size (a : Int) (b : Int) false true X (okS_iff.2 (by omega)) hcc
                  rw [hy]; exact this
                have HXc : Hid (∀ u, Below X.heap.size X u → u.cell? ⟨wr.heap.size, 0, none⟩ = some (.int .i64 (a : Int)) ∧ u.cell? ⟨wr.heap.size, 1, none⟩ = some (.int .i64 (b : Int)) ∧ u.cell? ⟨wr.heap.size, 2, none⟩ = some (.bool false) ∧ u.cell? ⟨wr.heap.size, 3, none⟩ = some (.bool true)) := fun u hu => ⟨cell_keep hu hcc.1, cell_keep hu hcc.2.1, cell_keep hu hcc.2.2.1, cell_keep hu hcc.2.2.2⟩
                have HYx : Hid (y = x → isCfg x.data.toList a b false true) := fun e => ⟨by omega, by omega, by omega, by rw [← e, hy]⟩
                have HNx : Hid (¬ y = x → ∀ s t p c, isCfg x.data.toList s t p c → a < s ∨ a = s ∧ (b < t ∨ b = t ∧ 3 ≤ bitsP p c)) := fun e s t p c hh => by
                  rcases HJb.out s t p c hh with q | ⟨q1, q | ⟨q2, q3⟩⟩
                  · exact .inl q
                  · exact .inr ⟨q1, .inl q⟩
                  · refine .inr ⟨q1, .inr ⟨q2, ?_⟩⟩
                    have hne : ¬ bitsP p c = 2 := fun e2 => e (by
                      obtain ⟨-, -, -, q4⟩ := hh
                      have q5 : p = false ∧ c = true := by revert e2; cases p <;> cases c <;> simp [bitsP]
                      rw [hy]; apply eqB_list; rw [← q4, ← q1, ← q2, q5.1, q5.2])
                    omega
                have hzx : W.heap.size ≤ X.heap.size := HBX.out.size
                clear hX hcc hy HJb HBb
                go_upto_region 11 with fail
                rw [← HX.out]
                clear HX
                go_wp2_with fail
                refine HTx.out.mono ?_
                rintro e w3 ⟨rfl, b3⟩
                have HB3 : Hid (Below W.heap.size W w3) := HBX.out.trans (b3.mono HBX.out.size)
                by_cases hyx : y = x
                · obtain ⟨rfl, rfl, rfl, rfl, rfl⟩ := ansP_some HA.out (HYx.out hyx)
                  obtain ⟨q0, q1, q2, q3⟩ := HXc.out w3 b3
                  obtain ⟨⟨r0, r1, r2, r3, r4⟩, rf, rl⟩ := HR.out w3 HB3.out
                  have HB1 : Hid (Below w.heap.size w w3) := HBw.out w3 HB3.out
                  subst hyx
                  clear HTx HXc HYx HNx b3 HB3 HBX HR HBw HJa HJc
                  go_wp2
                  refine bodyPost_ret (v := crV 0 a b false true) (by simp [results, Tryz.results12, go_sem, r0, r1, r2, r3, r4]) rfl ⟨rfl, ?_⟩
                  repeat (first | exact HB1.out | refine Below.setCell ?_ (by simp) _)
                · have HJn : Hid (∀ s t p c, isCfg x.data.toList s t p c → a < s ∨ a = s ∧ (b < t ∨ b = t ∧ 3 ≤ bitsP p c)) := HNx.out hyx
                  have hb0 : ¬ y.toList = x.toList := fun e => hyx (eqB_list (by rw [← Lib.toList_data, ← Lib.toList_data]; exact e))
                  have hb3 : (y.toList == x.toList) = false := by simpa using hb0
                  clear HTx HXc HYx HNx b3 hb0 hyx
                  go_wp2
                  exact ⟨⟨3, by omega, by go_num, HB3.out, HJn.out⟩, by simp [RowKit.intOf]⟩
              · obtain ⟨X, hX⟩ : ∃ X, X = wr.alloc (.cells #[.int .i64 (a : Int), .int .i64 (b : Int), .bool true, .bool true] 26) := ⟨_, rfl⟩
                have HX : Hid (X = wr.alloc (.cells #[.int .i64 (a : Int), .int .i64 (b : Int), .bool true, .bool true] 26)) := hX
                have hcc := box4 wr (a : Int) (b : Int) true true 26
                rw [← hX] at hcc
                have HBX : Hid (Below W.heap.size W X) := by show Below _ _ _; rw [hX]; exact HBb.out.alloc HBb.out.size _
                obtain ⟨y, hy⟩ : ∃ y : ByteArray, y = ⟨(cfgT a b true true).toArray⟩ := ⟨_, rfl⟩
                have HTx : Hid (Calls Tryz.prog 41 #[.pointer (some ⟨wr.heap.size, 0, none⟩)] X fun e w' => e = .returned (.string y) ∧ Below X.heap.size X w') := by
                  have := l13Text_any wr.heap.size (a : Int) (b : Int) true true X (okS_iff.2 (by omega)) hcc
                  rw [hy]; exact this
                have HXc : Hid (∀ u, Below X.heap.size X u → u.cell? ⟨wr.heap.size, 0, none⟩ = some (.int .i64 (a : Int)) ∧ u.cell? ⟨wr.heap.size, 1, none⟩ = some (.int .i64 (b : Int)) ∧ u.cell? ⟨wr.heap.size, 2, none⟩ = some (.bool true) ∧ u.cell? ⟨wr.heap.size, 3, none⟩ = some (.bool true)) := fun u hu => ⟨cell_keep hu hcc.1, cell_keep hu hcc.2.1, cell_keep hu hcc.2.2.1, cell_keep hu hcc.2.2.2⟩
                have HYx : Hid (y = x → isCfg x.data.toList a b true true) := fun e => ⟨by omega, by omega, by omega, by rw [← e, hy]⟩
                have HNx : Hid (¬ y = x → ∀ s t p c, isCfg x.data.toList s t p c → a < s ∨ a = s ∧ (b < t ∨ b = t ∧ 4 ≤ bitsP p c)) := fun e s t p c hh => by
                  rcases HJb.out s t p c hh with q | ⟨q1, q | ⟨q2, q3⟩⟩
                  · exact .inl q
                  · exact .inr ⟨q1, .inl q⟩
                  · refine .inr ⟨q1, .inr ⟨q2, ?_⟩⟩
                    have hne : ¬ bitsP p c = 3 := fun e2 => e (by
                      obtain ⟨-, -, -, q4⟩ := hh
                      have q5 : p = true ∧ c = true := by revert e2; cases p <;> cases c <;> simp [bitsP]
                      rw [hy]; apply eqB_list; rw [← q4, ← q1, ← q2, q5.1, q5.2])
                    omega
                have hzx : W.heap.size ≤ X.heap.size := HBX.out.size
                clear hX hcc hy HJb HBb
                go_upto_region 11 with fail
                rw [← HX.out]
                clear HX
                go_wp2_with fail
                refine HTx.out.mono ?_
                rintro e w3 ⟨rfl, b3⟩
                have HB3 : Hid (Below W.heap.size W w3) := HBX.out.trans (b3.mono HBX.out.size)
                by_cases hyx : y = x
                · obtain ⟨rfl, rfl, rfl, rfl, rfl⟩ := ansP_some HA.out (HYx.out hyx)
                  obtain ⟨q0, q1, q2, q3⟩ := HXc.out w3 b3
                  obtain ⟨⟨r0, r1, r2, r3, r4⟩, rf, rl⟩ := HR.out w3 HB3.out
                  have HB1 : Hid (Below w.heap.size w w3) := HBw.out w3 HB3.out
                  subst hyx
                  clear HTx HXc HYx HNx b3 HB3 HBX HR HBw HJa HJc
                  go_wp2
                  refine bodyPost_ret (v := crV 0 a b true true) (by simp [results, Tryz.results12, go_sem, r0, r1, r2, r3, r4]) rfl ⟨rfl, ?_⟩
                  repeat (first | exact HB1.out | refine Below.setCell ?_ (by simp) _)
                · have HJn : Hid (∀ s t p c, isCfg x.data.toList s t p c → a < s ∨ a = s ∧ (b < t ∨ b = t ∧ 4 ≤ bitsP p c)) := HNx.out hyx
                  have hb0 : ¬ y.toList = x.toList := fun e => hyx (eqB_list (by rw [← Lib.toList_data, ← Lib.toList_data]; exact e))
                  have hb3 : (y.toList == x.toList) = false := by simpa using hb0
                  clear HTx HXc HYx HNx b3 hb0 hyx
                  go_wp2
                  exact ⟨⟨4, by omega, by go_num, HB3.out, HJn.out⟩, by simp [RowKit.intOf]⟩
            · obtain rfl : q = 4 := by omega
              have HJd : Hid (∀ s t p c, isCfg x.data.toList s t p c → a < s ∨ a = s ∧ b + 1 ≤ t) := fun s t p c hh => by
                have h1 := HJb.out s t p c hh
                have h2 := bitsP_lt p c
                omega
              clear HJb HJc HJa
              go_wp2
              exact ⟨⟨b + 1, by omega, by go_num, HBb.out, HJd.out⟩, by simp [RowKit.intOf]; omega⟩
        · have HJd : Hid (∀ s t p c, isCfg x.data.toList s t p c → a + 1 ≤ s) := fun s t p c hh => by
            have h1 := HJc.out s t p c hh
            obtain ⟨-, -, h3, -⟩ := hh
            omega
          have hnb : ¬ ((b : Int) < 16) := by omega
          clear HJc HJa
          go_wp2
          exact ⟨⟨a + 1, by omega, by omega, by go_num, HBc.out, HJd.out⟩, by simp [RowKit.intOf]; omega⟩
    · obtain ⟨rfl, rfl, rfl, rfl, rfl⟩ := ansP_none HA.out (fun s' t' p' c' hh => by
        have h1 := HJa.out s' t' p' c' hh
        obtain ⟨-, h2, -, -⟩ := hh
        omega)
      have hna : ¬ ((a : Int) ≤ 64) := by omega
      obtain ⟨⟨r0, r1, r2, r3, r4⟩, rf, rl⟩ := HR.out wr HBa.out
      have HB1 : Hid (Below w.heap.size w wr) := HBw.out wr HBa.out
      clear HA HJa HR HBw HBa
      go_wp2
      refine bodyPost_ret (v := crV 5 0 0 false false) (by simp [results, Tryz.results12, go_sem, r0, r1, r2, r3, r4]) rfl ⟨rfl, ?_⟩
      repeat (first | exact HB1.out | refine Below.setCell ?_ (by simp) _)
end Go.Proofs.YtebnonpdaddniaaGreatDoor
