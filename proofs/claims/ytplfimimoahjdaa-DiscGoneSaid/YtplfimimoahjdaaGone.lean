/- For every state and every two int64 the Go function DiscGone returns true and leaves its arguments as they were. No condition. -/
import Derived.Test.YtplfimimoahjdaaD8
namespace Go.Proofs.Ytplfimimoahjdaa.discGoneP
open Go.ChangeShapes Go.WideShapes Go.ChangeAt Go.RowKit
set_option linter.unusedVariables false
set_option linter.unusedSimpArgs false
set_option maxRecDepth 100000

set_option maxHeartbeats 1000000 in
theorem gone_e (c d : Ck) (o t x y E : Int) (hE : (E = 0) = False) (HU : Hid (∀ w, Calls Try.prog 12 #[.agg #[.int .i64 c.f, .int .i64 c.l, .int .i64 c.a, .int .i64 c.p, .bool c.s], .int .i64 o, .int .i64 t] w fun e w' => e = .returned (.tuple #[.agg #[.int .i64 d.f, .int .i64 d.l, .int .i64 d.a, .int .i64 d.p, .bool d.s], .agg #[.int .i64 x, .int .i64 y], .int .i64 E]) ∧ RowKit.Below w.heap.size w w')) (w : World) : Calls Try.prog 8 #[.agg #[.int .i64 c.f, .int .i64 c.l, .int .i64 c.a, .int .i64 c.p, .bool c.s], .int .i64 o, .int .i64 t] w (Yes w) := by
  obtain ⟨w1, e1⟩ : ∃ w1, w1 = w.alloc (.cells #[.int .i64 c.f, .int .i64 c.l, .int .i64 c.a, .int .i64 c.p, .bool c.s] 23) := ⟨_, rfl⟩
  obtain ⟨b1, x1, s1⟩ := one_new (c := c) e1
  have HW := Lib.hid e1
  have HB := Lib.hid b1
  have X0 := Lib.hid x1
  clear e1 b1 x1 s1
  go_enter Try.func8, Try.ntmps8
  go_upto_region 1 with fail
  rw [← HW.out]
  clear HW
  obtain ⟨c00, c01, c02, c03, c04⟩ := X0.out.cells
  try dsimp only [Ck.zero] at c00 c01 c02 c03 c04
  go_wp2_with fail
  refine (HU.out _).mono ?_
  rintro e w2 ⟨rfl, b2⟩
  clear c00 c01 c02 c03 c04
  replace X0 := Lib.hid (X0.out.below b2 X0.out.lt)
  replace HB := Lib.hid (bthen HB.out b2 (Nat.le_refl _))
  clear b2
  go_upto_region 2 with fail
  obtain ⟨w3, e1⟩ : ∃ w', w' = (w2.alloc (.cells #[.int .i64 d.f, .int .i64 d.l, .int .i64 d.a, .int .i64 d.p, .bool d.s] 23)).alloc (.cells #[.int .i64 x, .int .i64 y] 30) := ⟨_, rfl⟩
  obtain ⟨b1, x1, t1, s1⟩ := two_res (c := ⟨d.f, d.l, d.a, d.p, d.s⟩) e1
  rw [← e1]
  clear e1 s1
  replace X0 := Lib.hid (X0.out.below b1 X0.out.lt)
  replace HB := Lib.hid (bthen HB.out b1 (Nat.le_refl _))
  clear b1
  obtain ⟨g1, hg⟩ : ∃ g, g = w2.heap.size := ⟨_, rfl⟩
  rw [← hg] at x1 t1 ⊢
  have X1 := Lib.hid x1
  have X2 := Lib.hid t1
  clear x1 t1 hg
  obtain ⟨c00, c01, c02, c03, c04⟩ := X0.out.cells
  try dsimp only [Ck.zero] at c00 c01 c02 c03 c04
  obtain ⟨c10, c11, c12, c13, c14⟩ := X1.out.cells
  try dsimp only [Ck.zero] at c10 c11 c12 c13 c14
  obtain ⟨c20, c21⟩ := X2.out.cells
  try dsimp only [Ck.zero] at c20 c21
  go_wp2_with fail
  have HAl := Lib.hid alive_any
  refine (HAl.out _).mono ?_
  rintro e w4 ⟨rfl, b4⟩
  clear c00 c01 c02 c03 c04 c10 c11 c12 c13 c14 c20 c21
  replace X0 := Lib.hid (X0.out.below b4 X0.out.lt)
  replace X1 := Lib.hid (X1.out.below b4 X1.out.lt)
  replace X2 := Lib.hid (X2.out.below b4 X2.out.lt)
  replace HB := Lib.hid (bthen HB.out b4 (Nat.le_refl _))
  clear b4
  obtain ⟨c00, c01, c02, c03, c04⟩ := X0.out.cells
  try dsimp only [Ck.zero] at c00 c01 c02 c03 c04
  obtain ⟨c10, c11, c12, c13, c14⟩ := X1.out.cells
  try dsimp only [Ck.zero] at c10 c11 c12 c13 c14
  obtain ⟨c20, c21⟩ := X2.out.cells
  try dsimp only [Ck.zero] at c20 c21
  go_wp2_with fail
  go_ret
  exact ⟨rfl, HB.out⟩
set_option maxHeartbeats 1000000 in
theorem gone_x (c d : Ck) (o t x y E : Int) (hE : E = 0) (hx : (x = 3) = False) (hx2 : (x == 3) = false) (HU : Hid (∀ w, Calls Try.prog 12 #[.agg #[.int .i64 c.f, .int .i64 c.l, .int .i64 c.a, .int .i64 c.p, .bool c.s], .int .i64 o, .int .i64 t] w fun e w' => e = .returned (.tuple #[.agg #[.int .i64 d.f, .int .i64 d.l, .int .i64 d.a, .int .i64 d.p, .bool d.s], .agg #[.int .i64 x, .int .i64 y], .int .i64 E]) ∧ RowKit.Below w.heap.size w w')) (w : World) : Calls Try.prog 8 #[.agg #[.int .i64 c.f, .int .i64 c.l, .int .i64 c.a, .int .i64 c.p, .bool c.s], .int .i64 o, .int .i64 t] w (Yes w) := by
  subst hE
  obtain ⟨w1, e1⟩ : ∃ w1, w1 = w.alloc (.cells #[.int .i64 c.f, .int .i64 c.l, .int .i64 c.a, .int .i64 c.p, .bool c.s] 23) := ⟨_, rfl⟩
  obtain ⟨b1, x1, s1⟩ := one_new (c := c) e1
  have HW := Lib.hid e1
  have HB := Lib.hid b1
  have X0 := Lib.hid x1
  clear e1 b1 x1 s1
  go_enter Try.func8, Try.ntmps8
  go_upto_region 1 with fail
  rw [← HW.out]
  clear HW
  obtain ⟨c00, c01, c02, c03, c04⟩ := X0.out.cells
  try dsimp only [Ck.zero] at c00 c01 c02 c03 c04
  go_wp2_with fail
  refine (HU.out _).mono ?_
  rintro e w2 ⟨rfl, b2⟩
  clear c00 c01 c02 c03 c04
  replace X0 := Lib.hid (X0.out.below b2 X0.out.lt)
  replace HB := Lib.hid (bthen HB.out b2 (Nat.le_refl _))
  clear b2
  go_upto_region 2 with fail
  obtain ⟨w3, e1⟩ : ∃ w', w' = (w2.alloc (.cells #[.int .i64 d.f, .int .i64 d.l, .int .i64 d.a, .int .i64 d.p, .bool d.s] 23)).alloc (.cells #[.int .i64 x, .int .i64 y] 30) := ⟨_, rfl⟩
  obtain ⟨b1, x1, t1, s1⟩ := two_res (c := ⟨d.f, d.l, d.a, d.p, d.s⟩) e1
  rw [← e1]
  clear e1 s1
  replace X0 := Lib.hid (X0.out.below b1 X0.out.lt)
  replace HB := Lib.hid (bthen HB.out b1 (Nat.le_refl _))
  clear b1
  obtain ⟨g1, hg⟩ : ∃ g, g = w2.heap.size := ⟨_, rfl⟩
  rw [← hg] at x1 t1 ⊢
  have X1 := Lib.hid x1
  have X2 := Lib.hid t1
  clear x1 t1 hg
  obtain ⟨c00, c01, c02, c03, c04⟩ := X0.out.cells
  try dsimp only [Ck.zero] at c00 c01 c02 c03 c04
  obtain ⟨c10, c11, c12, c13, c14⟩ := X1.out.cells
  try dsimp only [Ck.zero] at c10 c11 c12 c13 c14
  obtain ⟨c20, c21⟩ := X2.out.cells
  try dsimp only [Ck.zero] at c20 c21
  go_wp2_with fail
  have HAl := Lib.hid alive_any
  refine (HAl.out _).mono ?_
  rintro e w4 ⟨rfl, b4⟩
  clear c00 c01 c02 c03 c04 c10 c11 c12 c13 c14 c20 c21
  replace X0 := Lib.hid (X0.out.below b4 X0.out.lt)
  replace X1 := Lib.hid (X1.out.below b4 X1.out.lt)
  replace X2 := Lib.hid (X2.out.below b4 X2.out.lt)
  replace HB := Lib.hid (bthen HB.out b4 (Nat.le_refl _))
  clear b4
  obtain ⟨c00, c01, c02, c03, c04⟩ := X0.out.cells
  try dsimp only [Ck.zero] at c00 c01 c02 c03 c04
  obtain ⟨c10, c11, c12, c13, c14⟩ := X1.out.cells
  try dsimp only [Ck.zero] at c10 c11 c12 c13 c14
  obtain ⟨c20, c21⟩ := X2.out.cells
  try dsimp only [Ck.zero] at c20 c21
  go_wp2_with fail
  go_ret
  exact ⟨rfl, HB.out⟩
set_option maxHeartbeats 1000000 in
theorem gone_s (c : Ck) (o t F : Int) (hF : inB 2147483 F) (ho : inB 549755814 o) (HU : Hid (∀ w, Calls Try.prog 12 #[.agg #[.int .i64 c.f, .int .i64 c.l, .int .i64 c.a, .int .i64 c.p, .bool c.s], .int .i64 o, .int .i64 t] w fun e w' => e = .returned (.tuple #[.agg #[.int .i64 F, .int .i64 o, .int .i64 t, .int .i64 c.p, .bool true], .agg #[.int .i64 3, .int .i64 0], .int .i64 0]) ∧ RowKit.Below w.heap.size w w')) (HS : Hid (∀ w, Calls Try.prog 9 #[.agg #[.int .i64 F, .int .i64 o, .int .i64 t, .int .i64 c.p, .bool true], .int .i64 4096] w fun e w' => e = .returned (.tuple #[.agg #[.int .i64 F, .int .i64 0, .int .i64 t, .int .i64 c.p, .bool true], .int .i64 (o + 4096 * F), .int .i64 0]) ∧ RowKit.Below w.heap.size w w')) (w : World) : Calls Try.prog 8 #[.agg #[.int .i64 c.f, .int .i64 c.l, .int .i64 c.a, .int .i64 c.p, .bool c.s], .int .i64 o, .int .i64 t] w (Yes w) := by
  unfold inB at hF ho
  obtain ⟨w1, e1⟩ : ∃ w1, w1 = w.alloc (.cells #[.int .i64 c.f, .int .i64 c.l, .int .i64 c.a, .int .i64 c.p, .bool c.s] 23) := ⟨_, rfl⟩
  obtain ⟨b1, x1, s1⟩ := one_new (c := c) e1
  have HW := Lib.hid e1
  have HB := Lib.hid b1
  have X0 := Lib.hid x1
  clear e1 b1 x1 s1
  go_enter Try.func8, Try.ntmps8
  go_upto_region 1 with fail
  rw [← HW.out]
  clear HW
  obtain ⟨c00, c01, c02, c03, c04⟩ := X0.out.cells
  try dsimp only [Ck.zero] at c00 c01 c02 c03 c04
  go_wp2_with fail
  refine (HU.out _).mono ?_
  rintro e w2 ⟨rfl, b2⟩
  clear c00 c01 c02 c03 c04
  replace X0 := Lib.hid (X0.out.below b2 X0.out.lt)
  replace HB := Lib.hid (bthen HB.out b2 (Nat.le_refl _))
  clear b2
  go_upto_region 2 with fail
  obtain ⟨w3, e1⟩ : ∃ w', w' = (w2.alloc (.cells #[.int .i64 F, .int .i64 o, .int .i64 t, .int .i64 c.p, .bool true] 23)).alloc (.cells #[.int .i64 3, .int .i64 0] 30) := ⟨_, rfl⟩
  obtain ⟨b1, x1, t1, s1⟩ := two_res (c := ⟨F, o, t, c.p, true⟩) e1
  rw [← e1]
  clear e1 s1
  replace X0 := Lib.hid (X0.out.below b1 X0.out.lt)
  replace HB := Lib.hid (bthen HB.out b1 (Nat.le_refl _))
  clear b1
  obtain ⟨g1, hg⟩ : ∃ g, g = w2.heap.size := ⟨_, rfl⟩
  rw [← hg] at x1 t1 ⊢
  have X1 := Lib.hid x1
  have X2 := Lib.hid t1
  clear x1 t1 hg
  obtain ⟨c00, c01, c02, c03, c04⟩ := X0.out.cells
  try dsimp only [Ck.zero] at c00 c01 c02 c03 c04
  obtain ⟨c10, c11, c12, c13, c14⟩ := X1.out.cells
  try dsimp only [Ck.zero] at c10 c11 c12 c13 c14
  obtain ⟨c20, c21⟩ := X2.out.cells
  try dsimp only [Ck.zero] at c20 c21
  go_wp2_with fail
  refine (HS.out _).mono ?_
  rintro e w4 ⟨rfl, b4⟩
  clear c00 c01 c02 c03 c04 c10 c11 c12 c13 c14 c20 c21
  replace X0 := Lib.hid (X0.out.below b4 X0.out.lt)
  replace X1 := Lib.hid (X1.out.below b4 X1.out.lt)
  replace X2 := Lib.hid (X2.out.below b4 X2.out.lt)
  replace HB := Lib.hid (bthen HB.out b4 (Nat.le_refl _))
  clear b4
  go_upto_region 5 with fail
  obtain ⟨w5, e1⟩ : ∃ w', w' = w4.alloc (.cells #[.int .i64 F, .int .i64 0, .int .i64 t, .int .i64 c.p, .bool true] 23) := ⟨_, rfl⟩
  obtain ⟨b1, x1, s1⟩ := one_new (c := ⟨F, 0, t, c.p, true⟩) e1
  rw [← e1]
  clear e1 s1
  replace X0 := Lib.hid (X0.out.below b1 X0.out.lt)
  replace X1 := Lib.hid (X1.out.below b1 X1.out.lt)
  replace X2 := Lib.hid (X2.out.below b1 X2.out.lt)
  replace HB := Lib.hid (bthen HB.out b1 (Nat.le_refl _))
  clear b1
  obtain ⟨g3, hg⟩ : ∃ g, g = w4.heap.size := ⟨_, rfl⟩
  rw [← hg] at x1 ⊢
  have X3 := Lib.hid x1
  clear x1 hg
  obtain ⟨c00, c01, c02, c03, c04⟩ := X0.out.cells
  try dsimp only [Ck.zero] at c00 c01 c02 c03 c04
  obtain ⟨c10, c11, c12, c13, c14⟩ := X1.out.cells
  try dsimp only [Ck.zero] at c10 c11 c12 c13 c14
  obtain ⟨c20, c21⟩ := X2.out.cells
  try dsimp only [Ck.zero] at c20 c21
  obtain ⟨c30, c31, c32, c33, c34⟩ := X3.out.cells
  try dsimp only [Ck.zero] at c30 c31 c32 c33 c34
  go_wp2_with fail
  have HAl := Lib.hid alive_any
  refine (HAl.out _).mono ?_
  rintro e w6 ⟨rfl, b6⟩
  clear c00 c01 c02 c03 c04 c10 c11 c12 c13 c14 c20 c21 c30 c31 c32 c33 c34
  replace X0 := Lib.hid (X0.out.below b6 X0.out.lt)
  replace X1 := Lib.hid (X1.out.below b6 X1.out.lt)
  replace X2 := Lib.hid (X2.out.below b6 X2.out.lt)
  replace X3 := Lib.hid (X3.out.below b6 X3.out.lt)
  replace HB := Lib.hid (bthen HB.out b6 (Nat.le_refl _))
  clear b6
  obtain ⟨c00, c01, c02, c03, c04⟩ := X0.out.cells
  try dsimp only [Ck.zero] at c00 c01 c02 c03 c04
  obtain ⟨c10, c11, c12, c13, c14⟩ := X1.out.cells
  try dsimp only [Ck.zero] at c10 c11 c12 c13 c14
  obtain ⟨c20, c21⟩ := X2.out.cells
  try dsimp only [Ck.zero] at c20 c21
  obtain ⟨c30, c31, c32, c33, c34⟩ := X3.out.cells
  try dsimp only [Ck.zero] at c30 c31 c32 c33 c34
  go_wp2_with fail
  go_ret
  exact ⟨rfl, HB.out⟩
theorem law_any (c : Ck) (hc : c.ok) (o : Int) (ho : in64 o) (t : Int) (ht : in64 t) (w : World) : Calls Try.prog 8 #[.agg #[.int .i64 c.f, .int .i64 c.l, .int .i64 c.a, .int .i64 c.p, .bool c.s], .int .i64 o, .int .i64 t] w (Yes w) := by
  obtain ⟨d, x, y, E, h, hu⟩ := upd_call c o t
  generalize hr : (d, x, y, E) = r at h
  cases h with
  | no E' h =>
    cases hr
    exact gone_e _ _ _ _ _ _ _ (by simp only [eq_iff_iff, iff_false]; omega) (Lib.hid hu) w
  | set hm ho ht hs =>
    cases hr
    exact gone_x _ _ _ _ _ _ _ rfl (by simp) (by decide) (Lib.hid hu) w
  | step hm ho ht hs hp hl hq =>
    cases hr
    exact gone_x _ _ _ _ _ _ _ rfl (by simp) (by decide) (Lib.hid hu) w
  | slew hm ho ht hs hp hl hq =>
    cases hr
    have hF := clamp_lim (c.f + drift c o t) (show (0 : Int) ≤ 2147483 by omega)
    refine gone_s c o t _ hF hq (Lib.hid hu) (Lib.hid fun w => ?_) w
    have hk : Ck.slewOk ⟨clamp (c.f + drift c o t) 2147483, o, t, c.p, true⟩ 4096 := ⟨⟨hF, ho, ht, hm.2.2.2⟩, by omega, by omega⟩
    have := slew_yes' hk w
    dsimp only at this
    rw [show (4096 : Int).toNat = 4096 from rfl, slL_gone hq, Int.sub_zero] at this
    exact this

set_option maxRecDepth 100000 in
theorem lifted (os : Os) (started : os.Started) (H : Type) (enc : TypeId × Value → H) :
    ReturnsInHanded {} Try.checked os 8 .any (Rows.discGoneSpec.pre6 enc Try.prog Try.f8 Rows.discGoneRow.domain false) (Rows.discGoneSpec.post enc Try.prog Try.f8 false true false false) := by
  refine returnsInHanded_of_change (C := Try.checked) own started (by kernel_rfl) Try.func8
    (ChangeSpec.witness6 (enc := enc) (C := Try.checked) false ⟨#[], #[.agg #[.int .i64 0, .int .i64 0, .int .i64 0, .int .i64 0, .bool false], .int .i64 0, .int .i64 0], []⟩ 8 (by kernel_rfl) (by kernel_rfl) (by kernel_rfl) (by kernel_rfl)) ?_
  intro W base args ds gs before hval0 hW hcnd _
  have hval : ∀ (j : Nat) t v, Try.f8.params[j]? = some t → args[j]? = some v → Value.okWide Try.prog W .any base t v := hval0
  have hW' := hW
  obtain ⟨p, q, hA0, hV, rfl, hfz, hnd⟩ := hW
  have hA : DataW.TrodAll enc Try.prog W 0 (fun _ => true) true Try.f8.params.toList args.toList ds p := hA0
  rw [Try.params8] at hA hval
  obtain ⟨v0, vs0, d0, ds0, p0, q0, hargs, rfl, rfl, h0, r0⟩ := trodAll_cons hA
  obtain ⟨v1, vs1, d1, ds1, p1, q1, rfl, rfl, rfl, h1, r1⟩ := trodAll_cons r0
  obtain ⟨v2, vs2, d2, ds2, p2, q2, rfl, rfl, rfl, h2, r2⟩ := trodAll_cons r1
  obtain ⟨rfl, rfl, rfl⟩ := trodAll_nil r2
  obtain rfl : args = #[v0, v1, v2] := by cases args; simp_all
  obtain ⟨rfl, rfl⟩ := trodVars_none hV
  obtain ⟨cs0, rfl, _⟩ := okWide_struct Try.underlying23 (hval 0 23 v0 rfl rfl)
  have k0 := h0
  have lt0 : ∀ x ∈ p0, x.block < W.heap.size := by obtain ⟨m, hm⟩ := k0; exact DataW.trod_lt m _ _ _ hm
  obtain ⟨c0, rfl, w0⟩ := ck_open h0
  obtain ⟨a1, rfl, rfl, rfl, w1⟩ := open_int Try.underlying2 (hval 1 2 v1 rfl rfl) h1
  obtain ⟨a2, rfl, rfl, rfl, w2⟩ := open_int Try.underlying2 (hval 2 2 v2 rfl rfl) h2
  clear hA0 hval0
  refine (law_any c0 w0 a1 (in64_wf w1) a2 (in64_wf w2) W).mono fun e W' ⟨he, bel⟩ => ?_
  subst he
  exact ⟨_, rfl, _, _, _, [], _, [], hW', trodAll_mk1 (shut_bool Try.underlying4 _), (trodAll_cons_mk (Below.trod laidOut (by kernel_rfl) (of_decide_eq_true (by kernel_rfl)) k0 bel lt0) (trodAll_cons_mk (shut_int Try.underlying2 w1) (trodAll_cons_mk (shut_int Try.underlying2 w2) trodAll_mk0))), rfl, bel.frame _, fun h => by cases h⟩

theorem discGone_holds : Rows.DiscGoneSaid :=
  OpenClaim.holds_of_wide 8 Try.f8 rfl rfl rfl rfl rfl rfl rfl ⟨rfl, rfl, rfl, rfl, rfl⟩ rfl rfl rfl rfl rfl (by kernel_rfl) Try.func8 (by kernel_rfl)
    (of_decide_eq_true (by kernel_rfl)) (by unfold Func.isWrapper; first | (rw [if_pos (by decide +kernel)]; kernel_rfl) | (rw [if_neg (by decide +kernel)]; exact ⟨rfl, rfl⟩))
    (fun os started H enc _ => lifted os started H enc)
#print axioms discGone_holds
end Go.Proofs.Ytplfimimoahjdaa.discGoneP
