/- For every state, every two int64 and every int the Go function DiscTurned returns true and leaves its arguments as they were. No condition. -/
import Derived.Test.YtplfimimoahjdaaD8
namespace Go.Proofs.Ytplfimimoahjdaa.discTurnedP
open Go.ChangeShapes Go.WideShapes Go.ChangeAt Go.RowKit
set_option linter.unusedVariables false
set_option linter.unusedSimpArgs false
set_option maxRecDepth 100000

set_option maxHeartbeats 2000000 in
theorem turned_y (c : Ck) (o t n F L O A0 A1 A2 A3 B0 B1 B3 C0 C1 C2 C3 D0 D1 D2 D3 x y y2 E N M G : Int) (A4 B4 C4 D4 : Bool) (hf : wrap64 (-c.f) = F) (hl : wrap64 (-c.l) = L) (ho : wrap64 (-o) = O) (hb : wrap64 (-B0) = A0) (hb1 : wrap64 (-B1) = A1) (hy : wrap64 (-y2) = y) (hm : wrap64 (-M) = N) (hd : wrap64 (-D1) = C1)
    (HU : Hid (∀ w, Calls Try.prog 12 #[.agg #[.int .i64 c.f, .int .i64 c.l, .int .i64 c.a, .int .i64 c.p, .bool c.s], .int .i64 o, .int .i64 t] w fun e w' => e = .returned (.tuple #[.agg #[.int .i64 A0, .int .i64 A1, .int .i64 A2, .int .i64 A3, .bool A4], .agg #[.int .i64 x, .int .i64 y], .int .i64 E]) ∧ RowKit.Below w.heap.size w w')) (HV : Hid (∀ w, Calls Try.prog 12 #[.agg #[.int .i64 F, .int .i64 L, .int .i64 c.a, .int .i64 c.p, .bool c.s], .int .i64 O, .int .i64 t] w fun e w' => e = .returned (.tuple #[.agg #[.int .i64 B0, .int .i64 B1, .int .i64 A2, .int .i64 B3, .bool B4], .agg #[.int .i64 x, .int .i64 y2], .int .i64 E]) ∧ RowKit.Below w.heap.size w w'))
    (HX : Hid (∀ w, Calls Try.prog 9 #[.agg #[.int .i64 c.f, .int .i64 c.l, .int .i64 c.a, .int .i64 c.p, .bool c.s], .int .i64 n] w fun e w' => e = .returned (.tuple #[.agg #[.int .i64 C0, .int .i64 C1, .int .i64 C2, .int .i64 C3, .bool C4], .int .i64 N, .int .i64 G]) ∧ RowKit.Below w.heap.size w w')) (HY : Hid (∀ w, Calls Try.prog 9 #[.agg #[.int .i64 F, .int .i64 L, .int .i64 c.a, .int .i64 c.p, .bool c.s], .int .i64 n] w fun e w' => e = .returned (.tuple #[.agg #[.int .i64 D0, .int .i64 D1, .int .i64 D2, .int .i64 D3, .bool D4], .int .i64 M, .int .i64 G]) ∧ RowKit.Below w.heap.size w w')) (w : World) : Calls Try.prog 7 #[.agg #[.int .i64 c.f, .int .i64 c.l, .int .i64 c.a, .int .i64 c.p, .bool c.s], .int .i64 o, .int .i64 t, .int .i64 n] w (Yes w) := by
  obtain ⟨w1, e1⟩ : ∃ w1, w1 = w.alloc (.cells #[.int .i64 c.f, .int .i64 c.l, .int .i64 c.a, .int .i64 c.p, .bool c.s] 23) := ⟨_, rfl⟩
  obtain ⟨b1, x1, s1⟩ := one_new (c := c) e1
  have HW := Lib.hid e1
  have HB := Lib.hid b1
  have X0 := Lib.hid x1
  clear e1 b1 x1 s1
  go_enter Try.func7, Try.ntmps7
  go_upto_region 1 with fail
  rw [← HW.out]
  clear HW
  obtain ⟨c00, c01, c02, c03, c04⟩ := X0.out.cells
  try dsimp only [Ck.zero] at c00 c01 c02 c03 c04
  go_upto_region 2 with fail
  have lt0 := X0.out.lt
  obtain ⟨w2, e1⟩ : ∃ w', w' = w1.alloc (.cells #[.int .i64 c.f, .int .i64 c.l, .int .i64 c.a, .int .i64 c.p, .bool c.s] 23) := ⟨_, rfl⟩
  obtain ⟨b1, x1, s1⟩ := one_new (c := ⟨c.f, c.l, c.a, c.p, c.s⟩) e1
  rw [← e1]
  clear e1 s1
  replace X0 := Lib.hid (X0.out.below b1 X0.out.lt)
  replace HB := Lib.hid (bthen HB.out b1 (Nat.le_refl _))
  clear b1
  obtain ⟨g1, hg⟩ : ∃ g, g = w1.heap.size := ⟨_, rfl⟩
  rw [← hg] at x1 lt0 ⊢
  have G1 := Lib.hid lt0
  have X1 := Lib.hid x1
  clear x1 hg lt0
  obtain ⟨c00, c01, c02, c03, c04⟩ := X0.out.cells
  try dsimp only [Ck.zero] at c00 c01 c02 c03 c04
  obtain ⟨c10, c11, c12, c13, c14⟩ := X1.out.cells
  try dsimp only [Ck.zero] at c10 c11 c12 c13 c14
  have fr1 := X1.out.fr
  have n1 : ¬ w.heap.size = g1 := by have := G1.out; omega
  have n2 : ¬ g1 = w.heap.size := by have := G1.out; omega
  go_region
  clear n1 n2 fr1
  go_upto_region 3 with fail
  obtain ⟨w3, e1⟩ : ∃ w', w' = ((w2.setCell ⟨g1, 0, none⟩ (.int .i64 F)).setCell ⟨g1, 1, none⟩ (.int .i64 L)).drew := ⟨_, rfl⟩
  rw [← e1]
  replace X0 := Lib.hid (show Box w3 w.heap.size c by rw [e1]; have := G1.out; exact ((X0.out.setO (k := g1) (by omega) _ _).setO (k := g1) (by omega) _ _).drew)
  replace X1 := Lib.hid (show Box w3 g1 ⟨F, L, c.a, c.p, c.s⟩ by rw [e1]; exact set_cell (set_cell X1.out 0 (.int .i64 F)) 1 (.int .i64 L))
  replace HB := Lib.hid (show RowKit.Below w.heap.size w w3 by rw [e1]; have := G1.out; exact below_drew (below_set (g := g1) (below_set (g := g1) HB.out (by omega) _ _) (by omega) _ _))
  clear e1
  clear c00 c01 c02 c03 c04 c10 c11 c12 c13 c14
  obtain ⟨c00, c01, c02, c03, c04⟩ := X0.out.cells
  try dsimp only [Ck.zero] at c00 c01 c02 c03 c04
  obtain ⟨c10, c11, c12, c13, c14⟩ := X1.out.cells
  try dsimp only [Ck.zero] at c10 c11 c12 c13 c14
  go_wp2_with fail
  refine (HU.out _).mono ?_
  rintro e w4 ⟨rfl, b4⟩
  clear c00 c01 c02 c03 c04 c10 c11 c12 c13 c14
  replace X0 := Lib.hid (X0.out.below b4 X0.out.lt)
  replace X1 := Lib.hid (X1.out.below b4 X1.out.lt)
  replace HB := Lib.hid (bthen HB.out b4 (Nat.le_refl _))
  clear b4
  go_upto_region 4 with fail
  obtain ⟨w5, e1⟩ : ∃ w', w' = (w4.alloc (.cells #[.int .i64 A0, .int .i64 A1, .int .i64 A2, .int .i64 A3, .bool A4] 23)).alloc (.cells #[.int .i64 x, .int .i64 y] 30) := ⟨_, rfl⟩
  obtain ⟨b1, x1, t1, s1⟩ := two_res (c := ⟨A0, A1, A2, A3, A4⟩) e1
  rw [← e1]
  clear e1 s1
  replace X0 := Lib.hid (X0.out.below b1 X0.out.lt)
  replace X1 := Lib.hid (X1.out.below b1 X1.out.lt)
  replace HB := Lib.hid (bthen HB.out b1 (Nat.le_refl _))
  clear b1
  obtain ⟨g2, hg⟩ : ∃ g, g = w4.heap.size := ⟨_, rfl⟩
  rw [← hg] at x1 t1 ⊢
  have X2 := Lib.hid x1
  have X3 := Lib.hid t1
  clear x1 t1 hg
  obtain ⟨c00, c01, c02, c03, c04⟩ := X0.out.cells
  try dsimp only [Ck.zero] at c00 c01 c02 c03 c04
  obtain ⟨c10, c11, c12, c13, c14⟩ := X1.out.cells
  try dsimp only [Ck.zero] at c10 c11 c12 c13 c14
  obtain ⟨c20, c21, c22, c23, c24⟩ := X2.out.cells
  try dsimp only [Ck.zero] at c20 c21 c22 c23 c24
  obtain ⟨c30, c31⟩ := X3.out.cells
  try dsimp only [Ck.zero] at c30 c31
  go_wp2_with fail
  refine (HV.out _).mono ?_
  rintro e w6 ⟨rfl, b6⟩
  clear c00 c01 c02 c03 c04 c10 c11 c12 c13 c14 c20 c21 c22 c23 c24 c30 c31
  replace X0 := Lib.hid (X0.out.below b6 X0.out.lt)
  replace X1 := Lib.hid (X1.out.below b6 X1.out.lt)
  replace X2 := Lib.hid (X2.out.below b6 X2.out.lt)
  replace X3 := Lib.hid (X3.out.below b6 X3.out.lt)
  replace HB := Lib.hid (bthen HB.out b6 (Nat.le_refl _))
  clear b6
  go_upto_region 5 with fail
  obtain ⟨w7, e1⟩ : ∃ w', w' = (w6.alloc (.cells #[.int .i64 B0, .int .i64 B1, .int .i64 A2, .int .i64 B3, .bool B4] 23)).alloc (.cells #[.int .i64 x, .int .i64 y2] 30) := ⟨_, rfl⟩
  obtain ⟨b1, x1, t1, s1⟩ := two_res (c := ⟨B0, B1, A2, B3, B4⟩) e1
  rw [← e1]
  clear e1 s1
  replace X0 := Lib.hid (X0.out.below b1 X0.out.lt)
  replace X1 := Lib.hid (X1.out.below b1 X1.out.lt)
  replace X2 := Lib.hid (X2.out.below b1 X2.out.lt)
  replace X3 := Lib.hid (X3.out.below b1 X3.out.lt)
  replace HB := Lib.hid (bthen HB.out b1 (Nat.le_refl _))
  clear b1
  obtain ⟨g4, hg⟩ : ∃ g, g = w6.heap.size := ⟨_, rfl⟩
  rw [← hg] at x1 t1 ⊢
  have X4 := Lib.hid x1
  have X5 := Lib.hid t1
  clear x1 t1 hg
  obtain ⟨c00, c01, c02, c03, c04⟩ := X0.out.cells
  try dsimp only [Ck.zero] at c00 c01 c02 c03 c04
  obtain ⟨c10, c11, c12, c13, c14⟩ := X1.out.cells
  try dsimp only [Ck.zero] at c10 c11 c12 c13 c14
  obtain ⟨c20, c21, c22, c23, c24⟩ := X2.out.cells
  try dsimp only [Ck.zero] at c20 c21 c22 c23 c24
  obtain ⟨c30, c31⟩ := X3.out.cells
  try dsimp only [Ck.zero] at c30 c31
  obtain ⟨c40, c41, c42, c43, c44⟩ := X4.out.cells
  try dsimp only [Ck.zero] at c40 c41 c42 c43 c44
  obtain ⟨c50, c51⟩ := X5.out.cells
  try dsimp only [Ck.zero] at c50 c51
  go_wp2_with fail
  refine (HX.out _).mono ?_
  rintro e w8 ⟨rfl, b8⟩
  clear c00 c01 c02 c03 c04 c10 c11 c12 c13 c14 c20 c21 c22 c23 c24 c30 c31 c40 c41 c42 c43 c44 c50 c51
  replace X0 := Lib.hid (X0.out.below b8 X0.out.lt)
  replace X1 := Lib.hid (X1.out.below b8 X1.out.lt)
  replace X2 := Lib.hid (X2.out.below b8 X2.out.lt)
  replace X3 := Lib.hid (X3.out.below b8 X3.out.lt)
  replace X4 := Lib.hid (X4.out.below b8 X4.out.lt)
  replace X5 := Lib.hid (X5.out.below b8 X5.out.lt)
  replace HB := Lib.hid (bthen HB.out b8 (Nat.le_refl _))
  clear b8
  go_upto_region 8 with fail
  have lt0 := X0.out.lt
  obtain ⟨w9, e1⟩ : ∃ w', w' = w8.alloc (.cells #[.int .i64 C0, .int .i64 C1, .int .i64 C2, .int .i64 C3, .bool C4] 23) := ⟨_, rfl⟩
  obtain ⟨b1, x1, s1⟩ := one_new (c := ⟨C0, C1, C2, C3, C4⟩) e1
  rw [← e1]
  clear e1 s1
  replace X0 := Lib.hid (X0.out.below b1 X0.out.lt)
  replace X1 := Lib.hid (X1.out.below b1 X1.out.lt)
  replace X2 := Lib.hid (X2.out.below b1 X2.out.lt)
  replace X3 := Lib.hid (X3.out.below b1 X3.out.lt)
  replace X4 := Lib.hid (X4.out.below b1 X4.out.lt)
  replace X5 := Lib.hid (X5.out.below b1 X5.out.lt)
  replace HB := Lib.hid (bthen HB.out b1 (Nat.le_refl _))
  clear b1
  obtain ⟨g6, hg⟩ : ∃ g, g = w8.heap.size := ⟨_, rfl⟩
  rw [← hg] at x1 lt0 ⊢
  have G6 := Lib.hid lt0
  have X6 := Lib.hid x1
  clear x1 hg lt0
  obtain ⟨c00, c01, c02, c03, c04⟩ := X0.out.cells
  try dsimp only [Ck.zero] at c00 c01 c02 c03 c04
  obtain ⟨c10, c11, c12, c13, c14⟩ := X1.out.cells
  try dsimp only [Ck.zero] at c10 c11 c12 c13 c14
  obtain ⟨c20, c21, c22, c23, c24⟩ := X2.out.cells
  try dsimp only [Ck.zero] at c20 c21 c22 c23 c24
  obtain ⟨c30, c31⟩ := X3.out.cells
  try dsimp only [Ck.zero] at c30 c31
  obtain ⟨c40, c41, c42, c43, c44⟩ := X4.out.cells
  try dsimp only [Ck.zero] at c40 c41 c42 c43 c44
  obtain ⟨c50, c51⟩ := X5.out.cells
  try dsimp only [Ck.zero] at c50 c51
  obtain ⟨c60, c61, c62, c63, c64⟩ := X6.out.cells
  try dsimp only [Ck.zero] at c60 c61 c62 c63 c64
  go_wp2_with fail
  refine (HY.out _).mono ?_
  rintro e w10 ⟨rfl, b10⟩
  clear c00 c01 c02 c03 c04 c10 c11 c12 c13 c14 c20 c21 c22 c23 c24 c30 c31 c40 c41 c42 c43 c44 c50 c51 c60 c61 c62 c63 c64
  replace X0 := Lib.hid (X0.out.below b10 X0.out.lt)
  replace X1 := Lib.hid (X1.out.below b10 X1.out.lt)
  replace X2 := Lib.hid (X2.out.below b10 X2.out.lt)
  replace X3 := Lib.hid (X3.out.below b10 X3.out.lt)
  replace X4 := Lib.hid (X4.out.below b10 X4.out.lt)
  replace X5 := Lib.hid (X5.out.below b10 X5.out.lt)
  replace X6 := Lib.hid (X6.out.below b10 X6.out.lt)
  replace HB := Lib.hid (bthen HB.out b10 (Nat.le_refl _))
  clear b10
  go_upto_region 9 with fail
  have lt0 := X0.out.lt
  obtain ⟨w11, e1⟩ : ∃ w', w' = w10.alloc (.cells #[.int .i64 D0, .int .i64 D1, .int .i64 D2, .int .i64 D3, .bool D4] 23) := ⟨_, rfl⟩
  obtain ⟨b1, x1, s1⟩ := one_new (c := ⟨D0, D1, D2, D3, D4⟩) e1
  rw [← e1]
  clear e1 s1
  replace X0 := Lib.hid (X0.out.below b1 X0.out.lt)
  replace X1 := Lib.hid (X1.out.below b1 X1.out.lt)
  replace X2 := Lib.hid (X2.out.below b1 X2.out.lt)
  replace X3 := Lib.hid (X3.out.below b1 X3.out.lt)
  replace X4 := Lib.hid (X4.out.below b1 X4.out.lt)
  replace X5 := Lib.hid (X5.out.below b1 X5.out.lt)
  replace X6 := Lib.hid (X6.out.below b1 X6.out.lt)
  replace HB := Lib.hid (bthen HB.out b1 (Nat.le_refl _))
  clear b1
  obtain ⟨g7, hg⟩ : ∃ g, g = w10.heap.size := ⟨_, rfl⟩
  rw [← hg] at x1 lt0 ⊢
  have G7 := Lib.hid lt0
  have X7 := Lib.hid x1
  clear x1 hg lt0
  obtain ⟨c00, c01, c02, c03, c04⟩ := X0.out.cells
  try dsimp only [Ck.zero] at c00 c01 c02 c03 c04
  obtain ⟨c10, c11, c12, c13, c14⟩ := X1.out.cells
  try dsimp only [Ck.zero] at c10 c11 c12 c13 c14
  obtain ⟨c20, c21, c22, c23, c24⟩ := X2.out.cells
  try dsimp only [Ck.zero] at c20 c21 c22 c23 c24
  obtain ⟨c30, c31⟩ := X3.out.cells
  try dsimp only [Ck.zero] at c30 c31
  obtain ⟨c40, c41, c42, c43, c44⟩ := X4.out.cells
  try dsimp only [Ck.zero] at c40 c41 c42 c43 c44
  obtain ⟨c50, c51⟩ := X5.out.cells
  try dsimp only [Ck.zero] at c50 c51
  obtain ⟨c60, c61, c62, c63, c64⟩ := X6.out.cells
  try dsimp only [Ck.zero] at c60 c61 c62 c63 c64
  obtain ⟨c70, c71, c72, c73, c74⟩ := X7.out.cells
  try dsimp only [Ck.zero] at c70 c71 c72 c73 c74
  go_wp2_with fail
  have HAl := Lib.hid alive_any
  refine (HAl.out _).mono ?_
  rintro e w12 ⟨rfl, b12⟩
  clear c00 c01 c02 c03 c04 c10 c11 c12 c13 c14 c20 c21 c22 c23 c24 c30 c31 c40 c41 c42 c43 c44 c50 c51 c60 c61 c62 c63 c64 c70 c71 c72 c73 c74
  replace X0 := Lib.hid (X0.out.below b12 X0.out.lt)
  replace X1 := Lib.hid (X1.out.below b12 X1.out.lt)
  replace X2 := Lib.hid (X2.out.below b12 X2.out.lt)
  replace X3 := Lib.hid (X3.out.below b12 X3.out.lt)
  replace X4 := Lib.hid (X4.out.below b12 X4.out.lt)
  replace X5 := Lib.hid (X5.out.below b12 X5.out.lt)
  replace X6 := Lib.hid (X6.out.below b12 X6.out.lt)
  replace X7 := Lib.hid (X7.out.below b12 X7.out.lt)
  replace HB := Lib.hid (bthen HB.out b12 (Nat.le_refl _))
  clear b12
  obtain ⟨c00, c01, c02, c03, c04⟩ := X0.out.cells
  try dsimp only [Ck.zero] at c00 c01 c02 c03 c04
  obtain ⟨c10, c11, c12, c13, c14⟩ := X1.out.cells
  try dsimp only [Ck.zero] at c10 c11 c12 c13 c14
  obtain ⟨c20, c21, c22, c23, c24⟩ := X2.out.cells
  try dsimp only [Ck.zero] at c20 c21 c22 c23 c24
  obtain ⟨c30, c31⟩ := X3.out.cells
  try dsimp only [Ck.zero] at c30 c31
  obtain ⟨c40, c41, c42, c43, c44⟩ := X4.out.cells
  try dsimp only [Ck.zero] at c40 c41 c42 c43 c44
  obtain ⟨c50, c51⟩ := X5.out.cells
  try dsimp only [Ck.zero] at c50 c51
  obtain ⟨c60, c61, c62, c63, c64⟩ := X6.out.cells
  try dsimp only [Ck.zero] at c60 c61 c62 c63 c64
  obtain ⟨c70, c71, c72, c73, c74⟩ := X7.out.cells
  try dsimp only [Ck.zero] at c70 c71 c72 c73 c74
  go_wp2_with fail
  go_ret
  exact ⟨rfl, HB.out⟩
theorem turn_in {x b : Int} (hx : in64 x) (hb : 0 ≤ b) (hb2 : b ≤ 1152921504606846976) : (inB b (wrap64 (-x)) ↔ inB b x) ∧ (inB b x → wrap64 (-x) = -x) := by
  unfold in64 at hx
  unfold inB wrap64
  refine ⟨⟨fun h => ?_, fun h => ?_⟩, fun h => ?_⟩ <;> omega
theorem upd_set {c : Ck} {o t : Int} (hh : c.may ∧ inB 1152921504606846976 o ∧ inB 1152921504606846976 t) (hs : c.s = false) : c.upd o t = (⟨c.f, 0, t, c.p, true⟩, 1, o, 0) := by
  unfold Ck.upd; rw [if_neg (fun h => h hh), if_pos hs]
theorem upd_pan {c : Ck} {o t : Int} (hh : c.may ∧ inB 1152921504606846976 o ∧ inB 1152921504606846976 t) (hs : ¬ c.s = false) (hp : ¬ inB 4294967296000 o) : c.upd o t = (Ck.zero, 0, 0, 160) := by
  unfold Ck.upd; rw [if_neg (fun h => h hh), if_neg hs, if_pos hp]
theorem upd_old' {c : Ck} {o t : Int} (hh : c.may ∧ inB 1152921504606846976 o ∧ inB 1152921504606846976 t) (hs : ¬ c.s = false) (hp : inB 4294967296000 o) (hl : t < c.a) : c.upd o t = (Ck.zero, 0, 0, 1) := by
  unfold Ck.upd; rw [if_neg (fun h => h hh), if_neg hs, if_neg (fun h => h hp), if_pos hl]
theorem upd_stp {c : Ck} {o t : Int} (hh : c.may ∧ inB 1152921504606846976 o ∧ inB 1152921504606846976 t) (hs : ¬ c.s = false) (hp : inB 4294967296000 o) (hl : ¬ t < c.a) (hq : ¬ inB 549755814 o) : c.upd o t = (⟨c.f, 0, t, c.p, true⟩, 2, o, 0) := by
  unfold Ck.upd; rw [if_neg (fun h => h hh), if_neg hs, if_neg (fun h => h hp), if_neg hl, if_pos hq]
theorem upd_slw {c : Ck} {o t : Int} (hh : c.may ∧ inB 1152921504606846976 o ∧ inB 1152921504606846976 t) (hs : ¬ c.s = false) (hp : inB 4294967296000 o) (hl : ¬ t < c.a) (hq : inB 549755814 o) : c.upd o t = (⟨clamp (c.f + drift c o t) 2147483, o, t, c.p, true⟩, 3, 0, 0) := by
  unfold Ck.upd; rw [if_neg (fun h => h hh), if_neg hs, if_neg (fun h => h hp), if_neg hl, if_neg (fun h => h hq)]
theorem turn_upd (c : Ck) (hc : c.ok) (o : Int) (ho : in64 o) (t : Int) : ∃ A0 A1 A2 A3 B0 B1 B3 x y y2 E : Int, ∃ A4 B4 : Bool, wrap64 (-B0) = A0 ∧ wrap64 (-B1) = A1 ∧ wrap64 (-y2) = y ∧ c.upd o t = (⟨A0, A1, A2, A3, A4⟩, x, y, E) ∧ Ck.upd ⟨wrap64 (-c.f), wrap64 (-c.l), c.a, c.p, c.s⟩ (wrap64 (-o)) t = (⟨B0, B1, A2, B3, B4⟩, x, y2, E) := by
  have z : wrap64 (-(0 : Int)) = 0 := by rw [Int.neg_zero]; exact wrap64_eq (by omega) (by omega)
  have tf := turn_in (b := 2147483) hc.1 (by omega) (by omega)
  have tl := turn_in (b := 1152921504606846976) hc.2.1 (by omega) (by omega)
  have to_ := turn_in (b := 1152921504606846976) ho (by omega) (by omega)
  have tp := turn_in (b := 4294967296000) ho (by omega) (by omega)
  have tq := turn_in (b := 549755814) ho (by omega) (by omega)
  have hm : (Ck.may ⟨wrap64 (-c.f), wrap64 (-c.l), c.a, c.p, c.s⟩) ↔ c.may := by
    unfold Ck.may
    dsimp only
    rw [tf.1, tl.1]
  by_cases hh : c.may ∧ inB 1152921504606846976 o ∧ inB 1152921504606846976 t
  · have hh' : (Ck.may ⟨wrap64 (-c.f), wrap64 (-c.l), c.a, c.p, c.s⟩) ∧ inB 1152921504606846976 (wrap64 (-o)) ∧ inB 1152921504606846976 t := ⟨hm.2 hh.1, to_.1.2 hh.2.1, hh.2.2⟩
    have eo : wrap64 (-o) = -o := to_.2 hh.2.1
    have ef : wrap64 (-c.f) = -c.f := tf.2 hh.1.1
    have bo := hh.2.1
    have bf := hh.1.1
    unfold inB at bo bf
    have wn : ∀ x : Int, -1152921504606846976 ≤ x → x ≤ 1152921504606846976 → wrap64 (-(-x)) = x := fun x h1 h2 => by rw [Int.neg_neg]; exact wrap64_eq (by omega) (by omega)
    by_cases hs : c.s = false
    · refine ⟨c.f, 0, t, c.p, -c.f, 0, c.p, 1, o, -o, 0, true, true, wn _ (by omega) (by omega), z, wn _ (by omega) (by omega), upd_set hh hs, ?_⟩
      rw [upd_set hh' hs, ef, eo]
    · by_cases hp : inB 4294967296000 o
      · have hp' := tp.1.2 hp
        by_cases hl : t < c.a
        · exact ⟨0, 0, 0, 0, 0, 0, 0, 0, 0, 0, 1, false, false, z, z, z, upd_old' hh hs hp hl, upd_old' hh' hs hp' hl⟩
        · by_cases hq : inB 549755814 o
          · have hF := clamp_lim (c.f + drift c o t) (show (0 : Int) ≤ 2147483 by omega)
            refine ⟨clamp (c.f + drift c o t) 2147483, o, t, c.p, -clamp (c.f + drift c o t) 2147483, -o, c.p, 3, 0, 0, 0, true, true, ?_, wn _ (by omega) (by omega), z, upd_slw hh hs hp hl hq, ?_⟩
            · unfold inB at hF
              exact wn _ (by omega) (by omega)
            · rw [upd_slw hh' hs hp' hl (tq.1.2 hq)]
              rw [ef, eo]
              have hd : drift ⟨-c.f, wrap64 (-c.l), c.a, c.p, c.s⟩ (-o) t = -drift c o t := drift_neg c _ o t rfl rfl
              rw [hd]
              dsimp only
              rw [show -c.f + -drift c o t = -(c.f + drift c o t) by omega, clamp_neg _ (by omega)]
          · refine ⟨c.f, 0, t, c.p, -c.f, 0, c.p, 2, o, -o, 0, true, true, wn _ (by omega) (by omega), z, wn _ (by omega) (by omega), upd_stp hh hs hp hl hq, ?_⟩
            rw [upd_stp hh' hs hp' hl (fun h => hq (tq.1.1 h)), ef, eo]
      · exact ⟨0, 0, 0, 0, 0, 0, 0, 0, 0, 0, 160, false, false, z, z, z, upd_pan hh hs hp, upd_pan hh' hs (fun h => hp (tp.1.1 h))⟩
  · exact ⟨0, 0, 0, 0, 0, 0, 0, 0, 0, 0, 1, false, false, z, z, z, if_pos hh, if_pos (fun h => hh ⟨hm.1 h.1, to_.1.1 h.2.1, h.2.2⟩)⟩
theorem turn_sle (c : Ck) (hc : c.ok) (n : Int) : ∃ C0 C1 C2 C3 D0 D1 D2 D3 N M G : Int, ∃ C4 D4 : Bool, wrap64 (-M) = N ∧ wrap64 (-D1) = C1 ∧ c.sle n = (⟨C0, C1, C2, C3, C4⟩, N, G) ∧ Ck.sle ⟨wrap64 (-c.f), wrap64 (-c.l), c.a, c.p, c.s⟩ n = (⟨D0, D1, D2, D3, D4⟩, M, G) := by
  have z : wrap64 (-(0 : Int)) = 0 := by rw [Int.neg_zero]; exact wrap64_eq (by omega) (by omega)
  have tf := turn_in (b := 2147483) hc.1 (by omega) (by omega)
  have tl := turn_in (b := 1152921504606846976) hc.2.1 (by omega) (by omega)
  have hm : (Ck.may ⟨wrap64 (-c.f), wrap64 (-c.l), c.a, c.p, c.s⟩) ↔ c.may := by
    unfold Ck.may
    dsimp only
    rw [tf.1, tl.1]
  unfold Ck.sle
  by_cases h : c.slewOk n
  · rw [if_pos h, if_pos ⟨hm.2 h.1, h.2⟩]
    have ef : wrap64 (-c.f) = -c.f := tf.2 h.1.1
    have el : wrap64 (-c.l) = -c.l := tl.2 h.1.2.1
    have hl := slL_lim n.toNat c.l
    have hk := kf_lim (k := n) (n := n) h.2.1 h.2.2 h.1.1
    have hi := h.1.2.1
    unfold inB at hi
    have wn : ∀ x : Int, -3000000000000000000 ≤ x → x ≤ 3000000000000000000 → wrap64 (-(-x)) = x := fun x h1 h2 => by rw [Int.neg_neg]; exact wrap64_eq (by omega) (by omega)
    refine ⟨c.f, slL n.toNat c.l, c.a, c.p, -c.f, -slL n.toNat c.l, c.a, c.p, c.moved n, -c.moved n, 0, c.s, c.s, ?_, ?_, rfl, ?_⟩
    · unfold Ck.moved
      exact wn _ (by omega) (by omega)
    · exact wn _ (by omega) (by omega)
    · unfold Ck.slewed Ck.moved
      dsimp only
      rw [ef, el, slL_neg]
      have : -c.l - -slL n.toNat c.l + n * -c.f = -(c.l - slL n.toNat c.l + n * c.f) := by rw [Int.mul_neg]; omega
      rw [this]
  · rw [if_neg h, if_neg (fun x => h ⟨hm.1 x.1, x.2⟩)]
    exact ⟨0, 0, 0, 0, 0, 0, 0, 0, 0, 0, 1, false, false, z, z, rfl, rfl⟩
theorem law_any (c : Ck) (hc : c.ok) (o : Int) (ho : in64 o) (t : Int) (ht : in64 t) (n : Int) (hn : in64 n) (w : World) : Calls Try.prog 7 #[.agg #[.int .i64 c.f, .int .i64 c.l, .int .i64 c.a, .int .i64 c.p, .bool c.s], .int .i64 o, .int .i64 t, .int .i64 n] w (Yes w) := by
  obtain ⟨A0, A1, A2, A3, B0, B1, B3, x, y, y2, E, A4, B4, h1, h2, h3, h4, h5⟩ := turn_upd c hc o ho t
  obtain ⟨C0, C1, C2, C3, D0, D1, D2, D3, N, M, G, C4, D4, k1, k2, k3, k4⟩ := turn_sle c hc n
  refine turned_y c o t n _ _ _ A0 A1 A2 A3 B0 B1 B3 C0 C1 C2 C3 D0 D1 D2 D3 x y y2 E N M G A4 B4 C4 D4 rfl rfl rfl h1 h2 h3 k1 k2 (Lib.hid fun w => upd_any' h4 w) (Lib.hid fun w => upd_any' h5 w) (Lib.hid fun w => ?_) (Lib.hid fun w => ?_) w
  · have := sle_any c n w
    rw [k3] at this
    exact this
  · have := sle_any ⟨wrap64 (-c.f), wrap64 (-c.l), c.a, c.p, c.s⟩ n w
    rw [k4] at this
    exact this

set_option maxRecDepth 100000 in
theorem lifted (os : Os) (started : os.Started) (H : Type) (enc : TypeId × Value → H) :
    ReturnsInHanded {} Try.checked os 7 .any (Rows.discTurnedSpec.pre6 enc Try.prog Try.f7 Rows.discTurnedRow.domain false) (Rows.discTurnedSpec.post enc Try.prog Try.f7 false true false false) := by
  refine returnsInHanded_of_change (C := Try.checked) own started (by kernel_rfl) Try.func7
    (ChangeSpec.witness6 (enc := enc) (C := Try.checked) false ⟨#[], #[.agg #[.int .i64 0, .int .i64 0, .int .i64 0, .int .i64 0, .bool false], .int .i64 0, .int .i64 0, .int .i64 0], []⟩ 8 (by kernel_rfl) (by kernel_rfl) (by kernel_rfl) (by kernel_rfl)) ?_
  intro W base args ds gs before hval0 hW hcnd _
  have hval : ∀ (j : Nat) t v, Try.f7.params[j]? = some t → args[j]? = some v → Value.okWide Try.prog W .any base t v := hval0
  have hW' := hW
  obtain ⟨p, q, hA0, hV, rfl, hfz, hnd⟩ := hW
  have hA : DataW.TrodAll enc Try.prog W 0 (fun _ => true) true Try.f7.params.toList args.toList ds p := hA0
  rw [Try.params7] at hA hval
  obtain ⟨v0, vs0, d0, ds0, p0, q0, hargs, rfl, rfl, h0, r0⟩ := trodAll_cons hA
  obtain ⟨v1, vs1, d1, ds1, p1, q1, rfl, rfl, rfl, h1, r1⟩ := trodAll_cons r0
  obtain ⟨v2, vs2, d2, ds2, p2, q2, rfl, rfl, rfl, h2, r2⟩ := trodAll_cons r1
  obtain ⟨v3, vs3, d3, ds3, p3, q3, rfl, rfl, rfl, h3, r3⟩ := trodAll_cons r2
  obtain ⟨rfl, rfl, rfl⟩ := trodAll_nil r3
  obtain rfl : args = #[v0, v1, v2, v3] := by cases args; simp_all
  obtain ⟨rfl, rfl⟩ := trodVars_none hV
  obtain ⟨cs0, rfl, _⟩ := okWide_struct Try.underlying23 (hval 0 23 v0 rfl rfl)
  have k0 := h0
  have lt0 : ∀ x ∈ p0, x.block < W.heap.size := by obtain ⟨m, hm⟩ := k0; exact DataW.trod_lt m _ _ _ hm
  obtain ⟨c0, rfl, w0⟩ := ck_open h0
  obtain ⟨a1, rfl, rfl, rfl, w1⟩ := open_int Try.underlying2 (hval 1 2 v1 rfl rfl) h1
  obtain ⟨a2, rfl, rfl, rfl, w2⟩ := open_int Try.underlying2 (hval 2 2 v2 rfl rfl) h2
  obtain ⟨a3, rfl, rfl, rfl, w3⟩ := open_int Try.underlying3 (hval 3 3 v3 rfl rfl) h3
  clear hA0 hval0
  refine (law_any c0 w0 a1 (in64_wf w1) a2 (in64_wf w2) a3 (in64_wf w3) W).mono fun e W' ⟨he, bel⟩ => ?_
  subst he
  exact ⟨_, rfl, _, _, _, [], _, [], hW', trodAll_mk1 (shut_bool Try.underlying4 _), (trodAll_cons_mk (Below.trod laidOut (by kernel_rfl) (of_decide_eq_true (by kernel_rfl)) k0 bel lt0) (trodAll_cons_mk (shut_int Try.underlying2 w1) (trodAll_cons_mk (shut_int Try.underlying2 w2) (trodAll_cons_mk (shut_int Try.underlying3 w3) trodAll_mk0)))), rfl, bel.frame _, fun h => by cases h⟩

theorem discTurned_holds : Rows.DiscTurnedSaid :=
  OpenClaim.holds_of_wide 7 Try.f7 rfl rfl rfl rfl rfl rfl rfl ⟨rfl, rfl, rfl, rfl, rfl⟩ rfl rfl rfl rfl rfl (by kernel_rfl) Try.func7 (by kernel_rfl)
    (of_decide_eq_true (by kernel_rfl)) (by unfold Func.isWrapper; first | (rw [if_pos (by decide +kernel)]; kernel_rfl) | (rw [if_neg (by decide +kernel)]; exact ⟨rfl, rfl⟩))
    (fun os started H enc _ => lifted os started H enc)
#print axioms discTurned_holds
end Go.Proofs.Ytplfimimoahjdaa.discTurnedP
