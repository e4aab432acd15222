/- For every state and every int the Go function DiscSlews returns true and leaves its arguments as they were. No condition. -/
import Derived.Test.YtplfimimoahjdaaD9
namespace Go.Proofs.Ytplfimimoahjdaa.discSlewsP
open Go.ChangeShapes Go.WideShapes Go.ChangeAt Go.RowKit
set_option linter.unusedVariables false
set_option linter.unusedSimpArgs false
set_option maxRecDepth 100000

set_option maxHeartbeats 1000000 in
theorem slews_y (c : Ck) (n A0 A1 A2 A3 N E : Int) (A4 : Bool) (HU : Hid (∀ w, Calls Try.prog 9 #[.agg #[.int .i64 c.f, .int .i64 c.l, .int .i64 c.a, .int .i64 c.p, .bool c.s], .int .i64 n] w fun e w' => e = .returned (.tuple #[.agg #[.int .i64 A0, .int .i64 A1, .int .i64 A2, .int .i64 A3, .bool A4], .int .i64 N, .int .i64 E]) ∧ RowKit.Below w.heap.size w w')) (HV : Hid (∀ w, Calls Try.prog 10 #[.agg #[.int .i64 c.f, .int .i64 c.l, .int .i64 c.a, .int .i64 c.p, .bool c.s], .int .i64 n] w fun e w' => e = .returned (.tuple #[.agg #[.int .i64 A0, .int .i64 A1, .int .i64 A2, .int .i64 A3, .bool A4], .int .i64 N, .int .i64 E]) ∧ RowKit.Below w.heap.size w w')) (w : World) : Calls Try.prog 3 #[.agg #[.int .i64 c.f, .int .i64 c.l, .int .i64 c.a, .int .i64 c.p, .bool c.s], .int .i64 n] w (Yes w) := by
  obtain ⟨w1, e1⟩ : ∃ w1, w1 = w.alloc (.cells #[.int .i64 c.f, .int .i64 c.l, .int .i64 c.a, .int .i64 c.p, .bool c.s] 23) := ⟨_, rfl⟩
  obtain ⟨b1, x1, s1⟩ := one_new (c := c) e1
  have HW := Lib.hid e1
  have HB := Lib.hid b1
  have X0 := Lib.hid x1
  clear e1 b1 x1 s1
  go_enter Try.func3, Try.ntmps3
  go_upto_region 1 with fail
  rw [← HW.out]
  clear HW
  obtain ⟨c00, c01, c02, c03, c04⟩ := X0.out.cells
  try dsimp only [Ck.zero] at c00 c01 c02 c03 c04
  go_wp2_with fail
  refine (HU.out _).mono ?_
  rintro e w2 ⟨rfl, b2⟩
  clear c00 c01 c02 c03 c04
  replace X0 := Lib.hid (X0.out.below b2 X0.out.lt)
  replace HB := Lib.hid (bthen HB.out b2 (Nat.le_refl _))
  clear b2
  go_upto_region 2 with fail
  have lt0 := X0.out.lt
  obtain ⟨w3, e1⟩ : ∃ w', w' = w2.alloc (.cells #[.int .i64 A0, .int .i64 A1, .int .i64 A2, .int .i64 A3, .bool A4] 23) := ⟨_, rfl⟩
  obtain ⟨b1, x1, s1⟩ := one_new (c := ⟨A0, A1, A2, A3, A4⟩) e1
  rw [← e1]
  clear e1 s1
  replace X0 := Lib.hid (X0.out.below b1 X0.out.lt)
  replace HB := Lib.hid (bthen HB.out b1 (Nat.le_refl _))
  clear b1
  obtain ⟨g1, hg⟩ : ∃ g, g = w2.heap.size := ⟨_, rfl⟩
  rw [← hg] at x1 lt0 ⊢
  have G1 := Lib.hid lt0
  have X1 := Lib.hid x1
  clear x1 hg lt0
  obtain ⟨c00, c01, c02, c03, c04⟩ := X0.out.cells
  try dsimp only [Ck.zero] at c00 c01 c02 c03 c04
  obtain ⟨c10, c11, c12, c13, c14⟩ := X1.out.cells
  try dsimp only [Ck.zero] at c10 c11 c12 c13 c14
  go_wp2_with fail
  refine (HV.out _).mono ?_
  rintro e w4 ⟨rfl, b4⟩
  clear c00 c01 c02 c03 c04 c10 c11 c12 c13 c14
  replace X0 := Lib.hid (X0.out.below b4 X0.out.lt)
  replace X1 := Lib.hid (X1.out.below b4 X1.out.lt)
  replace HB := Lib.hid (bthen HB.out b4 (Nat.le_refl _))
  clear b4
  go_upto_region 3 with fail
  have lt0 := X0.out.lt
  obtain ⟨w5, e1⟩ : ∃ w', w' = w4.alloc (.cells #[.int .i64 A0, .int .i64 A1, .int .i64 A2, .int .i64 A3, .bool A4] 23) := ⟨_, rfl⟩
  obtain ⟨b1, x1, s1⟩ := one_new (c := ⟨A0, A1, A2, A3, A4⟩) e1
  rw [← e1]
  clear e1 s1
  replace X0 := Lib.hid (X0.out.below b1 X0.out.lt)
  replace X1 := Lib.hid (X1.out.below b1 X1.out.lt)
  replace HB := Lib.hid (bthen HB.out b1 (Nat.le_refl _))
  clear b1
  obtain ⟨g2, hg⟩ : ∃ g, g = w4.heap.size := ⟨_, rfl⟩
  rw [← hg] at x1 lt0 ⊢
  have G2 := Lib.hid lt0
  have X2 := Lib.hid x1
  clear x1 hg lt0
  obtain ⟨c00, c01, c02, c03, c04⟩ := X0.out.cells
  try dsimp only [Ck.zero] at c00 c01 c02 c03 c04
  obtain ⟨c10, c11, c12, c13, c14⟩ := X1.out.cells
  try dsimp only [Ck.zero] at c10 c11 c12 c13 c14
  obtain ⟨c20, c21, c22, c23, c24⟩ := X2.out.cells
  try dsimp only [Ck.zero] at c20 c21 c22 c23 c24
  go_wp2_with fail
  have HAl := Lib.hid alive_any
  refine (HAl.out _).mono ?_
  rintro e w6 ⟨rfl, b6⟩
  clear c00 c01 c02 c03 c04 c10 c11 c12 c13 c14 c20 c21 c22 c23 c24
  replace X0 := Lib.hid (X0.out.below b6 X0.out.lt)
  replace X1 := Lib.hid (X1.out.below b6 X1.out.lt)
  replace X2 := Lib.hid (X2.out.below b6 X2.out.lt)
  replace HB := Lib.hid (bthen HB.out b6 (Nat.le_refl _))
  clear b6
  obtain ⟨c00, c01, c02, c03, c04⟩ := X0.out.cells
  try dsimp only [Ck.zero] at c00 c01 c02 c03 c04
  obtain ⟨c10, c11, c12, c13, c14⟩ := X1.out.cells
  try dsimp only [Ck.zero] at c10 c11 c12 c13 c14
  obtain ⟨c20, c21, c22, c23, c24⟩ := X2.out.cells
  try dsimp only [Ck.zero] at c20 c21 c22 c23 c24
  go_wp2_with fail
  go_ret
  exact ⟨rfl, HB.out⟩
theorem law_any (c : Ck) (hc : c.ok) (n : Int) (hn : in64 n) (w : World) : Calls Try.prog 3 #[.agg #[.int .i64 c.f, .int .i64 c.l, .int .i64 c.a, .int .i64 c.p, .bool c.s], .int .i64 n] w (Yes w) := by
  by_cases h : c.slewOk n
  · exact slews_y c n _ _ _ _ _ _ _ (Lib.hid fun w => slew_yes' h w) (Lib.hid fun w => rslew_yes hc h w) w
  · exact slews_y c n _ _ _ _ _ _ _ (Lib.hid fun w => slew_no' h w) (Lib.hid fun w => rslew_no hc h w) w

set_option maxRecDepth 100000 in
theorem lifted (os : Os) (started : os.Started) (H : Type) (enc : TypeId × Value → H) :
    ReturnsInHanded {} Try.checked os 3 .any (Rows.discSlewsSpec.pre6 enc Try.prog Try.f3 Rows.discSlewsRow.domain false) (Rows.discSlewsSpec.post enc Try.prog Try.f3 false true false false) := by
  refine returnsInHanded_of_change (C := Try.checked) own started (by kernel_rfl) Try.func3
    (ChangeSpec.witness6 (enc := enc) (C := Try.checked) false ⟨#[], #[.agg #[.int .i64 0, .int .i64 0, .int .i64 0, .int .i64 0, .bool false], .int .i64 0], []⟩ 8 (by kernel_rfl) (by kernel_rfl) (by kernel_rfl) (by kernel_rfl)) ?_
  intro W base args ds gs before hval0 hW hcnd _
  have hval : ∀ (j : Nat) t v, Try.f3.params[j]? = some t → args[j]? = some v → Value.okWide Try.prog W .any base t v := hval0
  have hW' := hW
  obtain ⟨p, q, hA0, hV, rfl, hfz, hnd⟩ := hW
  have hA : DataW.TrodAll enc Try.prog W 0 (fun _ => true) true Try.f3.params.toList args.toList ds p := hA0
  rw [Try.params3] at hA hval
  obtain ⟨v0, vs0, d0, ds0, p0, q0, hargs, rfl, rfl, h0, r0⟩ := trodAll_cons hA
  obtain ⟨v1, vs1, d1, ds1, p1, q1, rfl, rfl, rfl, h1, r1⟩ := trodAll_cons r0
  obtain ⟨rfl, rfl, rfl⟩ := trodAll_nil r1
  obtain rfl : args = #[v0, v1] := by cases args; simp_all
  obtain ⟨rfl, rfl⟩ := trodVars_none hV
  obtain ⟨cs0, rfl, _⟩ := okWide_struct Try.underlying23 (hval 0 23 v0 rfl rfl)
  have k0 := h0
  have lt0 : ∀ x ∈ p0, x.block < W.heap.size := by obtain ⟨m, hm⟩ := k0; exact DataW.trod_lt m _ _ _ hm
  obtain ⟨c0, rfl, w0⟩ := ck_open h0
  obtain ⟨a1, rfl, rfl, rfl, w1⟩ := open_int Try.underlying3 (hval 1 3 v1 rfl rfl) h1
  clear hA0 hval0
  refine (law_any c0 w0 a1 (in64_wf w1) W).mono fun e W' ⟨he, bel⟩ => ?_
  subst he
  exact ⟨_, rfl, _, _, _, [], _, [], hW', trodAll_mk1 (shut_bool Try.underlying4 _), (trodAll_cons_mk (Below.trod laidOut (by kernel_rfl) (of_decide_eq_true (by kernel_rfl)) k0 bel lt0) (trodAll_cons_mk (shut_int Try.underlying3 w1) trodAll_mk0)), rfl, bel.frame _, fun h => by cases h⟩

theorem discSlews_holds : Rows.DiscSlewsSaid :=
  OpenClaim.holds_of_wide 3 Try.f3 rfl rfl rfl rfl rfl rfl rfl ⟨rfl, rfl, rfl, rfl, rfl⟩ rfl rfl rfl rfl rfl (by kernel_rfl) Try.func3 (by kernel_rfl)
    (of_decide_eq_true (by kernel_rfl)) (by unfold Func.isWrapper; first | (rw [if_pos (by decide +kernel)]; kernel_rfl) | (rw [if_neg (by decide +kernel)]; exact ⟨rfl, rfl⟩))
    (fun os started H enc _ => lifted os started H enc)
#print axioms discSlews_holds
end Go.Proofs.Ytplfimimoahjdaa.discSlewsP
