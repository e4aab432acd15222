/- For every state and every two ints the Go function DiscParts returns true and leaves its arguments as they were. No condition. -/
import Derived.Test.YtplfimimoahjdaaD8
namespace Go.Proofs.Ytplfimimoahjdaa.discPartsP
open Go.ChangeShapes Go.WideShapes Go.ChangeAt Go.RowKit
set_option linter.unusedVariables false
set_option linter.unusedSimpArgs false
set_option maxRecDepth 100000

set_option maxHeartbeats 1000000 in
theorem bad_a (c : Ck) (n m : Int) (a0 : n < 0) (w : World) : Calls Try.prog 6 #[.agg #[.int .i64 c.f, .int .i64 c.l, .int .i64 c.a, .int .i64 c.p, .bool c.s], .int .i64 n, .int .i64 m] w (Yes w) := by
  obtain ⟨w1, e1⟩ : ∃ w1, w1 = w.alloc (.cells #[.int .i64 c.f, .int .i64 c.l, .int .i64 c.a, .int .i64 c.p, .bool c.s] 23) := ⟨_, rfl⟩
  obtain ⟨b1, x1, s1⟩ := one_new (c := c) e1
  have HW := Lib.hid e1
  have HB := Lib.hid b1
  have X0 := Lib.hid x1
  clear e1 b1 x1 s1
  go_enter Try.func6, Try.ntmps6
  go_upto_region 1 with fail
  rw [← HW.out]
  clear HW
  obtain ⟨c00, c01, c02, c03, c04⟩ := X0.out.cells
  try dsimp only [Ck.zero] at c00 c01 c02 c03 c04
  go_wp2_with fail
  have HAl := Lib.hid alive_any
  refine (HAl.out _).mono ?_
  rintro e w2 ⟨rfl, b2⟩
  clear c00 c01 c02 c03 c04
  replace X0 := Lib.hid (X0.out.below b2 X0.out.lt)
  replace HB := Lib.hid (bthen HB.out b2 (Nat.le_refl _))
  clear b2
  obtain ⟨c00, c01, c02, c03, c04⟩ := X0.out.cells
  try dsimp only [Ck.zero] at c00 c01 c02 c03 c04
  go_wp2_with fail
  go_ret
  exact ⟨rfl, HB.out⟩
set_option maxHeartbeats 1000000 in
theorem bad_b (c : Ck) (n m : Int) (a0 : (n < 0) = False) (a1 : m < 0) (w : World) : Calls Try.prog 6 #[.agg #[.int .i64 c.f, .int .i64 c.l, .int .i64 c.a, .int .i64 c.p, .bool c.s], .int .i64 n, .int .i64 m] w (Yes w) := by
  obtain ⟨w1, e1⟩ : ∃ w1, w1 = w.alloc (.cells #[.int .i64 c.f, .int .i64 c.l, .int .i64 c.a, .int .i64 c.p, .bool c.s] 23) := ⟨_, rfl⟩
  obtain ⟨b1, x1, s1⟩ := one_new (c := c) e1
  have HW := Lib.hid e1
  have HB := Lib.hid b1
  have X0 := Lib.hid x1
  clear e1 b1 x1 s1
  go_enter Try.func6, Try.ntmps6
  go_upto_region 1 with fail
  rw [← HW.out]
  clear HW
  obtain ⟨c00, c01, c02, c03, c04⟩ := X0.out.cells
  try dsimp only [Ck.zero] at c00 c01 c02 c03 c04
  go_wp2_with fail
  have HAl := Lib.hid alive_any
  refine (HAl.out _).mono ?_
  rintro e w2 ⟨rfl, b2⟩
  clear c00 c01 c02 c03 c04
  replace X0 := Lib.hid (X0.out.below b2 X0.out.lt)
  replace HB := Lib.hid (bthen HB.out b2 (Nat.le_refl _))
  clear b2
  obtain ⟨c00, c01, c02, c03, c04⟩ := X0.out.cells
  try dsimp only [Ck.zero] at c00 c01 c02 c03 c04
  go_wp2_with fail
  go_ret
  exact ⟨rfl, HB.out⟩
set_option maxHeartbeats 1000000 in
theorem bad_c (c : Ck) (n m : Int) (a0 : (n < 0) = False) (a1 : (m < 0) = False) (a2 : 2048 < n) (w : World) : Calls Try.prog 6 #[.agg #[.int .i64 c.f, .int .i64 c.l, .int .i64 c.a, .int .i64 c.p, .bool c.s], .int .i64 n, .int .i64 m] w (Yes w) := by
  obtain ⟨w1, e1⟩ : ∃ w1, w1 = w.alloc (.cells #[.int .i64 c.f, .int .i64 c.l, .int .i64 c.a, .int .i64 c.p, .bool c.s] 23) := ⟨_, rfl⟩
  obtain ⟨b1, x1, s1⟩ := one_new (c := c) e1
  have HW := Lib.hid e1
  have HB := Lib.hid b1
  have X0 := Lib.hid x1
  clear e1 b1 x1 s1
  go_enter Try.func6, Try.ntmps6
  go_upto_region 1 with fail
  rw [← HW.out]
  clear HW
  obtain ⟨c00, c01, c02, c03, c04⟩ := X0.out.cells
  try dsimp only [Ck.zero] at c00 c01 c02 c03 c04
  go_wp2_with fail
  have HAl := Lib.hid alive_any
  refine (HAl.out _).mono ?_
  rintro e w2 ⟨rfl, b2⟩
  clear c00 c01 c02 c03 c04
  replace X0 := Lib.hid (X0.out.below b2 X0.out.lt)
  replace HB := Lib.hid (bthen HB.out b2 (Nat.le_refl _))
  clear b2
  obtain ⟨c00, c01, c02, c03, c04⟩ := X0.out.cells
  try dsimp only [Ck.zero] at c00 c01 c02 c03 c04
  go_wp2_with fail
  go_ret
  exact ⟨rfl, HB.out⟩
set_option maxHeartbeats 1000000 in
theorem bad_d (c : Ck) (n m : Int) (a0 : (n < 0) = False) (a1 : (m < 0) = False) (a2 : (2048 < n) = False) (a3 : 2048 < m) (w : World) : Calls Try.prog 6 #[.agg #[.int .i64 c.f, .int .i64 c.l, .int .i64 c.a, .int .i64 c.p, .bool c.s], .int .i64 n, .int .i64 m] w (Yes w) := by
  obtain ⟨w1, e1⟩ : ∃ w1, w1 = w.alloc (.cells #[.int .i64 c.f, .int .i64 c.l, .int .i64 c.a, .int .i64 c.p, .bool c.s] 23) := ⟨_, rfl⟩
  obtain ⟨b1, x1, s1⟩ := one_new (c := c) e1
  have HW := Lib.hid e1
  have HB := Lib.hid b1
  have X0 := Lib.hid x1
  clear e1 b1 x1 s1
  go_enter Try.func6, Try.ntmps6
  go_upto_region 1 with fail
  rw [← HW.out]
  clear HW
  obtain ⟨c00, c01, c02, c03, c04⟩ := X0.out.cells
  try dsimp only [Ck.zero] at c00 c01 c02 c03 c04
  go_wp2_with fail
  have HAl := Lib.hid alive_any
  refine (HAl.out _).mono ?_
  rintro e w2 ⟨rfl, b2⟩
  clear c00 c01 c02 c03 c04
  replace X0 := Lib.hid (X0.out.below b2 X0.out.lt)
  replace HB := Lib.hid (bthen HB.out b2 (Nat.le_refl _))
  clear b2
  obtain ⟨c00, c01, c02, c03, c04⟩ := X0.out.cells
  try dsimp only [Ck.zero] at c00 c01 c02 c03 c04
  go_wp2_with fail
  go_ret
  exact ⟨rfl, HB.out⟩
set_option maxHeartbeats 1000000 in
theorem parts_e (c : Ck) (n m : Int) (a0 : (n < 0) = False) (a1 : (m < 0) = False) (a2 : (2048 < n) = False) (a3 : (2048 < m) = False) (HU : Hid (∀ w, Calls Try.prog 9 #[.agg #[.int .i64 c.f, .int .i64 c.l, .int .i64 c.a, .int .i64 c.p, .bool c.s], .int .i64 n] w fun e w' => e = .returned (.tuple #[.agg #[.int .i64 0, .int .i64 0, .int .i64 0, .int .i64 0, .bool false], .int .i64 0, .int .i64 1]) ∧ RowKit.Below w.heap.size w w')) (w : World) : Calls Try.prog 6 #[.agg #[.int .i64 c.f, .int .i64 c.l, .int .i64 c.a, .int .i64 c.p, .bool c.s], .int .i64 n, .int .i64 m] w (Yes w) := by
  obtain ⟨w1, e1⟩ : ∃ w1, w1 = w.alloc (.cells #[.int .i64 c.f, .int .i64 c.l, .int .i64 c.a, .int .i64 c.p, .bool c.s] 23) := ⟨_, rfl⟩
  obtain ⟨b1, x1, s1⟩ := one_new (c := c) e1
  have HW := Lib.hid e1
  have HB := Lib.hid b1
  have X0 := Lib.hid x1
  clear e1 b1 x1 s1
  go_enter Try.func6, Try.ntmps6
  go_upto_region 1 with fail
  rw [← HW.out]
  clear HW
  obtain ⟨c00, c01, c02, c03, c04⟩ := X0.out.cells
  try dsimp only [Ck.zero] at c00 c01 c02 c03 c04
  go_wp2_with fail
  refine (HU.out _).mono ?_
  rintro e w2 ⟨rfl, b2⟩
  clear c00 c01 c02 c03 c04
  replace X0 := Lib.hid (X0.out.below b2 X0.out.lt)
  replace HB := Lib.hid (bthen HB.out b2 (Nat.le_refl _))
  clear b2
  go_upto_region 4 with fail
  obtain ⟨w3, e1⟩ : ∃ w', w' = w2.alloc (.cells #[.int .i64 0, .int .i64 0, .int .i64 0, .int .i64 0, .bool false] 23) := ⟨_, rfl⟩
  obtain ⟨b1, x1, s1⟩ := one_new (c := ⟨0, 0, 0, 0, false⟩) e1
  rw [← e1]
  clear e1 s1
  replace X0 := Lib.hid (X0.out.below b1 X0.out.lt)
  replace HB := Lib.hid (bthen HB.out b1 (Nat.le_refl _))
  clear b1
  obtain ⟨g1, hg⟩ : ∃ g, g = w2.heap.size := ⟨_, rfl⟩
  rw [← hg] at x1 ⊢
  have X1 := Lib.hid x1
  clear x1 hg
  obtain ⟨c00, c01, c02, c03, c04⟩ := X0.out.cells
  try dsimp only [Ck.zero] at c00 c01 c02 c03 c04
  obtain ⟨c10, c11, c12, c13, c14⟩ := X1.out.cells
  try dsimp only [Ck.zero] at c10 c11 c12 c13 c14
  go_wp2_with fail
  have HAl := Lib.hid alive_any
  refine (HAl.out _).mono ?_
  rintro e w4 ⟨rfl, b4⟩
  clear c00 c01 c02 c03 c04 c10 c11 c12 c13 c14
  replace X0 := Lib.hid (X0.out.below b4 X0.out.lt)
  replace X1 := Lib.hid (X1.out.below b4 X1.out.lt)
  replace HB := Lib.hid (bthen HB.out b4 (Nat.le_refl _))
  clear b4
  obtain ⟨c00, c01, c02, c03, c04⟩ := X0.out.cells
  try dsimp only [Ck.zero] at c00 c01 c02 c03 c04
  obtain ⟨c10, c11, c12, c13, c14⟩ := X1.out.cells
  try dsimp only [Ck.zero] at c10 c11 c12 c13 c14
  go_wp2_with fail
  go_ret
  exact ⟨rfl, HB.out⟩
set_option maxHeartbeats 1000000 in
theorem parts_y (c : Ck) (n m L L2 N M : Int) (a0 : (n < 0) = False) (a1 : (m < 0) = False) (a2 : (2048 < n) = False) (a3 : (2048 < m) = False) (b0 : 0 ≤ n ∧ n ≤ 2048) (b1 : 0 ≤ m ∧ m ≤ 2048) (hN : -3000000000000000000 ≤ N ∧ N ≤ 3000000000000000000) (hM : -3000000000000000000 ≤ M ∧ M ≤ 3000000000000000000) (HU : Hid (∀ w, Calls Try.prog 9 #[.agg #[.int .i64 c.f, .int .i64 c.l, .int .i64 c.a, .int .i64 c.p, .bool c.s], .int .i64 n] w fun e w' => e = .returned (.tuple #[.agg #[.int .i64 c.f, .int .i64 L, .int .i64 c.a, .int .i64 c.p, .bool c.s], .int .i64 N, .int .i64 0]) ∧ RowKit.Below w.heap.size w w')) (HV : Hid (∀ w, Calls Try.prog 9 #[.agg #[.int .i64 c.f, .int .i64 L, .int .i64 c.a, .int .i64 c.p, .bool c.s], .int .i64 m] w fun e w' => e = .returned (.tuple #[.agg #[.int .i64 c.f, .int .i64 L2, .int .i64 c.a, .int .i64 c.p, .bool c.s], .int .i64 M, .int .i64 0]) ∧ RowKit.Below w.heap.size w w')) (HX : Hid (∀ w, Calls Try.prog 9 #[.agg #[.int .i64 c.f, .int .i64 c.l, .int .i64 c.a, .int .i64 c.p, .bool c.s], .int .i64 (n + m)] w fun e w' => e = .returned (.tuple #[.agg #[.int .i64 c.f, .int .i64 L2, .int .i64 c.a, .int .i64 c.p, .bool c.s], .int .i64 (N + M), .int .i64 0]) ∧ RowKit.Below w.heap.size w w')) (w : World) : Calls Try.prog 6 #[.agg #[.int .i64 c.f, .int .i64 c.l, .int .i64 c.a, .int .i64 c.p, .bool c.s], .int .i64 n, .int .i64 m] w (Yes w) := by
  obtain ⟨w1, e1⟩ : ∃ w1, w1 = w.alloc (.cells #[.int .i64 c.f, .int .i64 c.l, .int .i64 c.a, .int .i64 c.p, .bool c.s] 23) := ⟨_, rfl⟩
  obtain ⟨b1, x1, s1⟩ := one_new (c := c) e1
  have HW := Lib.hid e1
  have HB := Lib.hid b1
  have X0 := Lib.hid x1
  clear e1 b1 x1 s1
  go_enter Try.func6, Try.ntmps6
  go_upto_region 1 with fail
  rw [← HW.out]
  clear HW
  obtain ⟨c00, c01, c02, c03, c04⟩ := X0.out.cells
  try dsimp only [Ck.zero] at c00 c01 c02 c03 c04
  go_wp2_with fail
  refine (HU.out _).mono ?_
  rintro e w2 ⟨rfl, b2⟩
  clear c00 c01 c02 c03 c04
  replace X0 := Lib.hid (X0.out.below b2 X0.out.lt)
  replace HB := Lib.hid (bthen HB.out b2 (Nat.le_refl _))
  clear b2
  go_upto_region 4 with fail
  obtain ⟨w3, e1⟩ : ∃ w', w' = w2.alloc (.cells #[.int .i64 c.f, .int .i64 L, .int .i64 c.a, .int .i64 c.p, .bool c.s] 23) := ⟨_, rfl⟩
  obtain ⟨b1, x1, s1⟩ := one_new (c := ⟨c.f, L, c.a, c.p, c.s⟩) e1
  rw [← e1]
  clear e1 s1
  replace X0 := Lib.hid (X0.out.below b1 X0.out.lt)
  replace HB := Lib.hid (bthen HB.out b1 (Nat.le_refl _))
  clear b1
  obtain ⟨g1, hg⟩ : ∃ g, g = w2.heap.size := ⟨_, rfl⟩
  rw [← hg] at x1 ⊢
  have X1 := Lib.hid x1
  clear x1 hg
  obtain ⟨c00, c01, c02, c03, c04⟩ := X0.out.cells
  try dsimp only [Ck.zero] at c00 c01 c02 c03 c04
  obtain ⟨c10, c11, c12, c13, c14⟩ := X1.out.cells
  try dsimp only [Ck.zero] at c10 c11 c12 c13 c14
  go_wp2_with fail
  refine (HV.out _).mono ?_
  rintro e w4 ⟨rfl, b4⟩
  clear c00 c01 c02 c03 c04 c10 c11 c12 c13 c14
  replace X0 := Lib.hid (X0.out.below b4 X0.out.lt)
  replace X1 := Lib.hid (X1.out.below b4 X1.out.lt)
  replace HB := Lib.hid (bthen HB.out b4 (Nat.le_refl _))
  clear b4
  go_upto_region 7 with fail
  obtain ⟨w5, e1⟩ : ∃ w', w' = w4.alloc (.cells #[.int .i64 c.f, .int .i64 L2, .int .i64 c.a, .int .i64 c.p, .bool c.s] 23) := ⟨_, rfl⟩
  obtain ⟨b1, x1, s1⟩ := one_new (c := ⟨c.f, L2, c.a, c.p, c.s⟩) e1
  rw [← e1]
  clear e1 s1
  replace X0 := Lib.hid (X0.out.below b1 X0.out.lt)
  replace X1 := Lib.hid (X1.out.below b1 X1.out.lt)
  replace HB := Lib.hid (bthen HB.out b1 (Nat.le_refl _))
  clear b1
  obtain ⟨g2, hg⟩ : ∃ g, g = w4.heap.size := ⟨_, rfl⟩
  rw [← hg] at x1 ⊢
  have X2 := Lib.hid x1
  clear x1 hg
  obtain ⟨c00, c01, c02, c03, c04⟩ := X0.out.cells
  try dsimp only [Ck.zero] at c00 c01 c02 c03 c04
  obtain ⟨c10, c11, c12, c13, c14⟩ := X1.out.cells
  try dsimp only [Ck.zero] at c10 c11 c12 c13 c14
  obtain ⟨c20, c21, c22, c23, c24⟩ := X2.out.cells
  try dsimp only [Ck.zero] at c20 c21 c22 c23 c24
  go_wp2_with fail
  refine (HX.out _).mono ?_
  rintro e w6 ⟨rfl, b6⟩
  clear c00 c01 c02 c03 c04 c10 c11 c12 c13 c14 c20 c21 c22 c23 c24
  replace X0 := Lib.hid (X0.out.below b6 X0.out.lt)
  replace X1 := Lib.hid (X1.out.below b6 X1.out.lt)
  replace X2 := Lib.hid (X2.out.below b6 X2.out.lt)
  replace HB := Lib.hid (bthen HB.out b6 (Nat.le_refl _))
  clear b6
  go_upto_region 8 with fail
  obtain ⟨w7, e1⟩ : ∃ w', w' = w6.alloc (.cells #[.int .i64 c.f, .int .i64 L2, .int .i64 c.a, .int .i64 c.p, .bool c.s] 23) := ⟨_, rfl⟩
  obtain ⟨b1, x1, s1⟩ := one_new (c := ⟨c.f, L2, c.a, c.p, c.s⟩) e1
  rw [← e1]
  clear e1 s1
  replace X0 := Lib.hid (X0.out.below b1 X0.out.lt)
  replace X1 := Lib.hid (X1.out.below b1 X1.out.lt)
  replace X2 := Lib.hid (X2.out.below b1 X2.out.lt)
  replace HB := Lib.hid (bthen HB.out b1 (Nat.le_refl _))
  clear b1
  obtain ⟨g3, hg⟩ : ∃ g, g = w6.heap.size := ⟨_, rfl⟩
  rw [← hg] at x1 ⊢
  have X3 := Lib.hid x1
  clear x1 hg
  obtain ⟨c00, c01, c02, c03, c04⟩ := X0.out.cells
  try dsimp only [Ck.zero] at c00 c01 c02 c03 c04
  obtain ⟨c10, c11, c12, c13, c14⟩ := X1.out.cells
  try dsimp only [Ck.zero] at c10 c11 c12 c13 c14
  obtain ⟨c20, c21, c22, c23, c24⟩ := X2.out.cells
  try dsimp only [Ck.zero] at c20 c21 c22 c23 c24
  obtain ⟨c30, c31, c32, c33, c34⟩ := X3.out.cells
  try dsimp only [Ck.zero] at c30 c31 c32 c33 c34
  go_wp2_with fail
  have HAl := Lib.hid alive_any
  refine (HAl.out _).mono ?_
  rintro e w8 ⟨rfl, b8⟩
  clear c00 c01 c02 c03 c04 c10 c11 c12 c13 c14 c20 c21 c22 c23 c24 c30 c31 c32 c33 c34
  replace X0 := Lib.hid (X0.out.below b8 X0.out.lt)
  replace X1 := Lib.hid (X1.out.below b8 X1.out.lt)
  replace X2 := Lib.hid (X2.out.below b8 X2.out.lt)
  replace X3 := Lib.hid (X3.out.below b8 X3.out.lt)
  replace HB := Lib.hid (bthen HB.out b8 (Nat.le_refl _))
  clear b8
  obtain ⟨c00, c01, c02, c03, c04⟩ := X0.out.cells
  try dsimp only [Ck.zero] at c00 c01 c02 c03 c04
  obtain ⟨c10, c11, c12, c13, c14⟩ := X1.out.cells
  try dsimp only [Ck.zero] at c10 c11 c12 c13 c14
  obtain ⟨c20, c21, c22, c23, c24⟩ := X2.out.cells
  try dsimp only [Ck.zero] at c20 c21 c22 c23 c24
  obtain ⟨c30, c31, c32, c33, c34⟩ := X3.out.cells
  try dsimp only [Ck.zero] at c30 c31 c32 c33 c34
  go_wp2_with fail
  go_ret
  exact ⟨rfl, HB.out⟩
theorem moved_lim {c : Ck} {n : Int} (h : c.slewOk n) : -3000000000000000000 ≤ c.l - slL n.toNat c.l + n * c.f ∧ c.l - slL n.toNat c.l + n * c.f ≤ 3000000000000000000 := by
  have hl := slL_lim n.toNat c.l
  have hk := kf_lim (k := n) (n := n) h.2.1 h.2.2 h.1.1
  have hi := h.1.2.1
  unfold inB at hi
  omega
theorem law_any (c : Ck) (hc : c.ok) (n : Int) (hn : in64 n) (m : Int) (hm : in64 m) (w : World) : Calls Try.prog 6 #[.agg #[.int .i64 c.f, .int .i64 c.l, .int .i64 c.a, .int .i64 c.p, .bool c.s], .int .i64 n, .int .i64 m] w (Yes w) := by
  have F : ∀ {p : Prop}, ¬ p → p = False := fun h => by simp only [h]
  by_cases a0 : n < 0
  · exact bad_a c n m a0 w
  by_cases a1 : m < 0
  · exact bad_b c n m (F a0) a1 w
  by_cases a2 : 2048 < n
  · exact bad_c c n m (F a0) (F a1) a2 w
  by_cases a3 : 2048 < m
  · exact bad_d c n m (F a0) (F a1) (F a2) a3 w
  by_cases h : c.slewOk n
  · have h2 : Ck.slewOk ⟨c.f, slL n.toNat c.l, c.a, c.p, c.s⟩ m := by
      refine ⟨⟨h.1.1, ?_, h.1.2.2⟩, by omega, by omega⟩
      have hl := slL_lim n.toNat c.l
      have hi := h.1.2.1
      unfold inB at hi ⊢
      dsimp only
      omega
    have h3 : c.slewOk (n + m) := ⟨h.1, by omega, by omega⟩
    refine parts_y c n m _ _ _ _ (F a0) (F a1) (F a2) (F a3) (by omega) (by omega) (moved_lim h) (moved_lim h2) (Lib.hid fun w => slew_yes' h w) (Lib.hid fun w => slew_yes' h2 w) (Lib.hid fun w => ?_) w
    have := slew_yes' h3 w
    dsimp only at this ⊢
    have e1 : (n + m).toNat = n.toNat + m.toNat := by omega
    rw [e1, slL_add] at this
    have e2 : c.l - slL m.toNat (slL n.toNat c.l) + (n + m) * c.f = (c.l - slL n.toNat c.l + n * c.f) + (slL n.toNat c.l - slL m.toNat (slL n.toNat c.l) + m * c.f) := by
      rw [Int.add_mul]; omega
    rw [e2] at this
    exact this
  · exact parts_e c n m (F a0) (F a1) (F a2) (F a3) (Lib.hid fun w => slew_no' h w) w

set_option maxRecDepth 100000 in
theorem lifted (os : Os) (started : os.Started) (H : Type) (enc : TypeId × Value → H) :
    ReturnsInHanded {} Try.checked os 6 .any (Rows.discPartsSpec.pre6 enc Try.prog Try.f6 Rows.discPartsRow.domain false) (Rows.discPartsSpec.post enc Try.prog Try.f6 false true false false) := by
  refine returnsInHanded_of_change (C := Try.checked) own started (by kernel_rfl) Try.func6
    (ChangeSpec.witness6 (enc := enc) (C := Try.checked) false ⟨#[], #[.agg #[.int .i64 0, .int .i64 0, .int .i64 0, .int .i64 0, .bool false], .int .i64 0, .int .i64 0], []⟩ 8 (by kernel_rfl) (by kernel_rfl) (by kernel_rfl) (by kernel_rfl)) ?_
  intro W base args ds gs before hval0 hW hcnd _
  have hval : ∀ (j : Nat) t v, Try.f6.params[j]? = some t → args[j]? = some v → Value.okWide Try.prog W .any base t v := hval0
  have hW' := hW
  obtain ⟨p, q, hA0, hV, rfl, hfz, hnd⟩ := hW
  have hA : DataW.TrodAll enc Try.prog W 0 (fun _ => true) true Try.f6.params.toList args.toList ds p := hA0
  rw [Try.params6] at hA hval
  obtain ⟨v0, vs0, d0, ds0, p0, q0, hargs, rfl, rfl, h0, r0⟩ := trodAll_cons hA
  obtain ⟨v1, vs1, d1, ds1, p1, q1, rfl, rfl, rfl, h1, r1⟩ := trodAll_cons r0
  obtain ⟨v2, vs2, d2, ds2, p2, q2, rfl, rfl, rfl, h2, r2⟩ := trodAll_cons r1
  obtain ⟨rfl, rfl, rfl⟩ := trodAll_nil r2
  obtain rfl : args = #[v0, v1, v2] := by cases args; simp_all
  obtain ⟨rfl, rfl⟩ := trodVars_none hV
  obtain ⟨cs0, rfl, _⟩ := okWide_struct Try.underlying23 (hval 0 23 v0 rfl rfl)
  have k0 := h0
  have lt0 : ∀ x ∈ p0, x.block < W.heap.size := by obtain ⟨m, hm⟩ := k0; exact DataW.trod_lt m _ _ _ hm
  obtain ⟨c0, rfl, w0⟩ := ck_open h0
  obtain ⟨a1, rfl, rfl, rfl, w1⟩ := open_int Try.underlying3 (hval 1 3 v1 rfl rfl) h1
  obtain ⟨a2, rfl, rfl, rfl, w2⟩ := open_int Try.underlying3 (hval 2 3 v2 rfl rfl) h2
  clear hA0 hval0
  refine (law_any c0 w0 a1 (in64_wf w1) a2 (in64_wf w2) W).mono fun e W' ⟨he, bel⟩ => ?_
  subst he
  exact ⟨_, rfl, _, _, _, [], _, [], hW', trodAll_mk1 (shut_bool Try.underlying4 _), (trodAll_cons_mk (Below.trod laidOut (by kernel_rfl) (of_decide_eq_true (by kernel_rfl)) k0 bel lt0) (trodAll_cons_mk (shut_int Try.underlying3 w1) (trodAll_cons_mk (shut_int Try.underlying3 w2) trodAll_mk0))), rfl, bel.frame _, fun h => by cases h⟩

theorem discParts_holds : Rows.DiscPartsSaid :=
  OpenClaim.holds_of_wide 6 Try.f6 rfl rfl rfl rfl rfl rfl rfl ⟨rfl, rfl, rfl, rfl, rfl⟩ rfl rfl rfl rfl rfl (by kernel_rfl) Try.func6 (by kernel_rfl)
    (of_decide_eq_true (by kernel_rfl)) (by unfold Func.isWrapper; first | (rw [if_pos (by decide +kernel)]; kernel_rfl) | (rw [if_neg (by decide +kernel)]; exact ⟨rfl, rfl⟩))
    (fun os started H enc _ => lifted os started H enc)
#print axioms discParts_holds
end Go.Proofs.Ytplfimimoahjdaa.discPartsP
