/- For every state and every int the Go function DiscMoves returns true and leaves its arguments as they were. No condition. -/
import Derived.Test.YtplfimimoahjdaaD7
namespace Go.Proofs.Ytplfimimoahjdaa.discMovesP
open Go.ChangeShapes Go.WideShapes Go.ChangeAt Go.RowKit
set_option linter.unusedVariables false
set_option linter.unusedSimpArgs false
set_option maxRecDepth 100000


theorem moves_no (c : Ck) (n : Int) (h : ¬ c.slewOk n) (w : World) : Calls Try.prog 5 #[.agg #[.int .i64 c.f, .int .i64 c.l, .int .i64 c.a, .int .i64 c.p, .bool c.s], .int .i64 n] w (Yes w) := by
  have HSl := Lib.hid (slew_no' h)
  obtain ⟨w1, hw1⟩ : ∃ w1, w1 = w.alloc (.cells #[.int .i64 c.f, .int .i64 c.l, .int .i64 c.a, .int .i64 c.p, .bool c.s] 23) := ⟨_, rfl⟩
  obtain ⟨b1, x1, s1⟩ := one_new hw1
  have HW := Lib.hid hw1
  have HB1 := Lib.hid b1
  have HX1 := Lib.hid x1
  obtain ⟨c0, c1, c2, c3, c4⟩ := x1.cells
  clear hw1 b1 x1 s1
  go_enter Try.func5, Try.ntmps5
  go_upto_region 1 with fail
  rw [← HW.out]
  go_wp2_with fail
  refine (HSl.out _).mono ?_
  rintro e w2 ⟨rfl, b2⟩
  have HX2 := Lib.hid (HX1.out.below b2 HX1.out.lt)
  have HB2 := Lib.hid (bthen HB1.out b2 (Nat.le_refl _))
  clear b2 c0 c1 c2 c3 c4
  go_upto_region 2 with fail
  obtain ⟨w3, e3⟩ : ∃ w3, w3 = w2.alloc (.cells #[.int .i64 0, .int .i64 0, .int .i64 0, .int .i64 0, .bool false] 23) := ⟨_, rfl⟩
  obtain ⟨b3, x3, s3⟩ := one_new (c := Ck.zero) e3
  rw [← e3]
  have HX3 := Lib.hid (HX2.out.below b3 HX2.out.lt)
  have HB3 := Lib.hid (bthen HB2.out b3 (Nat.le_refl _))
  obtain ⟨g, hg⟩ : ∃ g, g = w2.heap.size := ⟨_, rfl⟩
  rw [← hg] at x3 ⊢
  have HY3 := Lib.hid x3
  obtain ⟨c0, c1, c2, c3, c4⟩ := HX3.out.cells
  obtain ⟨d0, d1, d2, d3, d4⟩ := x3.cells
  dsimp only [Ck.zero] at c0 c1 c2 c3 c4 d0 d1 d2 d3 d4
  clear e3 b3 x3 s3 hg
  go_wp2_with fail
  refine (alive_any w3).mono ?_
  rintro e w4 ⟨rfl, b4⟩
  obtain ⟨c0, c1, c2, c3, c4⟩ := (HX3.out.below b4 HX3.out.lt).cells
  obtain ⟨d0, d1, d2, d3, d4⟩ := (HY3.out.below b4 HY3.out.lt).cells
  dsimp only [Ck.zero] at c0 c1 c2 c3 c4 d0 d1 d2 d3 d4
  have HB4 := Lib.hid (bthen HB3.out b4 (Nat.le_refl _))
  clear b4
  go_wp2_with fail
  go_ret
  exact ⟨rfl, HB4.out⟩
set_option maxHeartbeats 1000000 in
theorem moves_a (c : Ck) (n L : Int) (h : c.slewOk n) (hL : L = slL n.toNat c.l) (hw : ¬ wo c.l < wo L) (h1 : (c.l ≤ 0) = False) (h2 : 0 < L) (h3 : (L < 0) = False) (w : World) : Calls Try.prog 5 #[.agg #[.int .i64 c.f, .int .i64 c.l, .int .i64 c.a, .int .i64 c.p, .bool c.s], .int .i64 n] w (Yes w) := by
  have HSl := Lib.hid (slew_yes' h)
  have hlim := slL_lim n.toNat c.l
  have hnf := kf_lim (k := n) (n := n) h.2.1 h.2.2 h.1.1
  have hli := h.1.2.1
  have hfi := h.1.1
  have hn := h.2
  unfold inB at hli hfi
  rw [← hL] at HSl hlim
  have HLL := Lib.hid hL
  clear hL h
  have HW1 := Lib.hid (fun w' => worth_any (x := L) (by unfold in64; omega) w')
  have HW2 := Lib.hid (fun w' => worth_any (x := c.l) (by unfold in64; omega) w')
  obtain ⟨A, hA⟩ : ∃ A, A = wo L := ⟨_, rfl⟩
  obtain ⟨B, hB⟩ : ∃ B, B = wo c.l := ⟨_, rfl⟩
  rw [← hA] at HW1 hw
  rw [← hB] at HW2 hw
  have hw' : (B < A) = False := by simp only [hw]
  obtain ⟨nf, hnn⟩ : ∃ nf, nf = n * c.f := ⟨_, rfl⟩
  have hn2 : wrap64 nf = nf := wrap64_eq (by omega) (by omega)
  have HNN := Lib.hid hnn
  clear hA hB hw
  obtain ⟨w1, hw1⟩ : ∃ w1, w1 = w.alloc (.cells #[.int .i64 c.f, .int .i64 c.l, .int .i64 c.a, .int .i64 c.p, .bool c.s] 23) := ⟨_, rfl⟩
  obtain ⟨b1, x1, s1⟩ := one_new hw1
  have HW := Lib.hid hw1
  have HB1 := Lib.hid b1
  have HX1 := Lib.hid x1
  obtain ⟨c0, c1, c2, c3, c4⟩ := x1.cells
  clear hw1 b1 x1 s1
  go_enter Try.func5, Try.ntmps5
  go_upto_region 1 with fail
  rw [← HW.out]
  go_wp2_with fail
  refine (HSl.out _).mono ?_
  rintro e w2 ⟨rfl, b2⟩
  have HX2 := Lib.hid (HX1.out.below b2 HX1.out.lt)
  have HB2 := Lib.hid (bthen HB1.out b2 (Nat.le_refl _))
  clear b2 c0 c1 c2 c3 c4
  go_upto_region 2 with fail
  obtain ⟨w3, e3⟩ : ∃ w3, w3 = w2.alloc (.cells #[.int .i64 c.f, .int .i64 L, .int .i64 c.a, .int .i64 c.p, .bool c.s] 23) := ⟨_, rfl⟩
  obtain ⟨b3, x3, s3⟩ := one_new (c := ⟨c.f, L, c.a, c.p, c.s⟩) e3
  rw [← e3]
  have HX3 := Lib.hid (HX2.out.below b3 HX2.out.lt)
  have HB3 := Lib.hid (bthen HB2.out b3 (Nat.le_refl _))
  obtain ⟨g, hg⟩ : ∃ g, g = w2.heap.size := ⟨_, rfl⟩
  rw [← hg] at x3 ⊢
  have HY3 := Lib.hid x3
  obtain ⟨c0, c1, c2, c3, c4⟩ := HX3.out.cells
  obtain ⟨d0, d1, d2, d3, d4⟩ := x3.cells
  dsimp only [Ck.zero] at c0 c1 c2 c3 c4 d0 d1 d2 d3 d4
  clear e3 b3 x3 s3 hg
  go_upto_region 4 with fail
  go_quiet ((go_at_call 13; (first | with_reducible exact Calls.quiet_of_same (HW1.out _) | with_reducible exact Calls.quiet_of_same (HW2.out _))))
  go_wp2_with fail
  obtain ⟨v3, e3⟩ : ∃ v3, v3 = w3.drewN nq := ⟨_, rfl⟩
  have GX3 := Lib.hid (show Box v3 w.heap.size c by rw [e3]; exact HX3.out.drewN nq)
  have GY3 := Lib.hid (show Box v3 g ⟨c.f, L, c.a, c.p, c.s⟩ by rw [e3]; exact HY3.out.drewN nq)
  have GB3 := Lib.hid (show RowKit.Below w.heap.size w v3 by rw [e3]; exact below_drewN HB3.out nq)
  rw [← e3]
  clear e3 c0 c1 c2 c3 c4 d0 d1 d2 d3 d4
  refine (alive_any v3).mono ?_
  rintro e w4 ⟨rfl, b4⟩
  obtain ⟨c0, c1, c2, c3, c4⟩ := (GX3.out.below b4 GX3.out.lt).cells
  obtain ⟨d0, d1, d2, d3, d4⟩ := (GY3.out.below b4 GY3.out.lt).cells
  dsimp only [Ck.zero] at c0 c1 c2 c3 c4 d0 d1 d2 d3 d4
  have HB4 := Lib.hid (bthen GB3.out b4 (Nat.le_refl _))
  clear b4
  clear HX3 HY3 HB3 HX2 HB2 HX1 HB1 HW HSl HW1 HW2
  go_wp2_with fail
  go_ret
  exact ⟨rfl, HB4.out⟩
set_option maxHeartbeats 1000000 in
theorem moves_b (c : Ck) (n L : Int) (h : c.slewOk n) (hL : L = slL n.toNat c.l) (hw : ¬ wo c.l < wo L) (h2 : (0 < L) = False) (h3 : (L < 0) = False) (w : World) : Calls Try.prog 5 #[.agg #[.int .i64 c.f, .int .i64 c.l, .int .i64 c.a, .int .i64 c.p, .bool c.s], .int .i64 n] w (Yes w) := by
  have HSl := Lib.hid (slew_yes' h)
  have hlim := slL_lim n.toNat c.l
  have hnf := kf_lim (k := n) (n := n) h.2.1 h.2.2 h.1.1
  have hli := h.1.2.1
  have hfi := h.1.1
  have hn := h.2
  unfold inB at hli hfi
  rw [← hL] at HSl hlim
  have HLL := Lib.hid hL
  clear hL h
  have HW1 := Lib.hid (fun w' => worth_any (x := L) (by unfold in64; omega) w')
  have HW2 := Lib.hid (fun w' => worth_any (x := c.l) (by unfold in64; omega) w')
  obtain ⟨A, hA⟩ : ∃ A, A = wo L := ⟨_, rfl⟩
  obtain ⟨B, hB⟩ : ∃ B, B = wo c.l := ⟨_, rfl⟩
  rw [← hA] at HW1 hw
  rw [← hB] at HW2 hw
  have hw' : (B < A) = False := by simp only [hw]
  obtain ⟨nf, hnn⟩ : ∃ nf, nf = n * c.f := ⟨_, rfl⟩
  have hn2 : wrap64 nf = nf := wrap64_eq (by omega) (by omega)
  have HNN := Lib.hid hnn
  clear hA hB hw
  obtain ⟨w1, hw1⟩ : ∃ w1, w1 = w.alloc (.cells #[.int .i64 c.f, .int .i64 c.l, .int .i64 c.a, .int .i64 c.p, .bool c.s] 23) := ⟨_, rfl⟩
  obtain ⟨b1, x1, s1⟩ := one_new hw1
  have HW := Lib.hid hw1
  have HB1 := Lib.hid b1
  have HX1 := Lib.hid x1
  obtain ⟨c0, c1, c2, c3, c4⟩ := x1.cells
  clear hw1 b1 x1 s1
  go_enter Try.func5, Try.ntmps5
  go_upto_region 1 with fail
  rw [← HW.out]
  go_wp2_with fail
  refine (HSl.out _).mono ?_
  rintro e w2 ⟨rfl, b2⟩
  have HX2 := Lib.hid (HX1.out.below b2 HX1.out.lt)
  have HB2 := Lib.hid (bthen HB1.out b2 (Nat.le_refl _))
  clear b2 c0 c1 c2 c3 c4
  go_upto_region 2 with fail
  obtain ⟨w3, e3⟩ : ∃ w3, w3 = w2.alloc (.cells #[.int .i64 c.f, .int .i64 L, .int .i64 c.a, .int .i64 c.p, .bool c.s] 23) := ⟨_, rfl⟩
  obtain ⟨b3, x3, s3⟩ := one_new (c := ⟨c.f, L, c.a, c.p, c.s⟩) e3
  rw [← e3]
  have HX3 := Lib.hid (HX2.out.below b3 HX2.out.lt)
  have HB3 := Lib.hid (bthen HB2.out b3 (Nat.le_refl _))
  obtain ⟨g, hg⟩ : ∃ g, g = w2.heap.size := ⟨_, rfl⟩
  rw [← hg] at x3 ⊢
  have HY3 := Lib.hid x3
  obtain ⟨c0, c1, c2, c3, c4⟩ := HX3.out.cells
  obtain ⟨d0, d1, d2, d3, d4⟩ := x3.cells
  dsimp only [Ck.zero] at c0 c1 c2 c3 c4 d0 d1 d2 d3 d4
  clear e3 b3 x3 s3 hg
  go_upto_region 4 with fail
  go_quiet ((go_at_call 13; (first | with_reducible exact Calls.quiet_of_same (HW1.out _) | with_reducible exact Calls.quiet_of_same (HW2.out _))))
  go_wp2_with fail
  obtain ⟨v3, e3⟩ : ∃ v3, v3 = w3.drewN nq := ⟨_, rfl⟩
  have GX3 := Lib.hid (show Box v3 w.heap.size c by rw [e3]; exact HX3.out.drewN nq)
  have GY3 := Lib.hid (show Box v3 g ⟨c.f, L, c.a, c.p, c.s⟩ by rw [e3]; exact HY3.out.drewN nq)
  have GB3 := Lib.hid (show RowKit.Below w.heap.size w v3 by rw [e3]; exact below_drewN HB3.out nq)
  rw [← e3]
  clear e3 c0 c1 c2 c3 c4 d0 d1 d2 d3 d4
  refine (alive_any v3).mono ?_
  rintro e w4 ⟨rfl, b4⟩
  obtain ⟨c0, c1, c2, c3, c4⟩ := (GX3.out.below b4 GX3.out.lt).cells
  obtain ⟨d0, d1, d2, d3, d4⟩ := (GY3.out.below b4 GY3.out.lt).cells
  dsimp only [Ck.zero] at c0 c1 c2 c3 c4 d0 d1 d2 d3 d4
  have HB4 := Lib.hid (bthen GB3.out b4 (Nat.le_refl _))
  clear b4
  clear HX3 HY3 HB3 HX2 HB2 HX1 HB1 HW HSl HW1 HW2
  go_wp2_with fail
  go_ret
  exact ⟨rfl, HB4.out⟩
set_option maxHeartbeats 1000000 in
theorem moves_d (c : Ck) (n L : Int) (h : c.slewOk n) (hL : L = slL n.toNat c.l) (hw : ¬ wo c.l < wo L) (h1 : (0 ≤ c.l) = False) (h2 : (0 < L) = False) (h3 : L < 0) (w : World) : Calls Try.prog 5 #[.agg #[.int .i64 c.f, .int .i64 c.l, .int .i64 c.a, .int .i64 c.p, .bool c.s], .int .i64 n] w (Yes w) := by
  have HSl := Lib.hid (slew_yes' h)
  have hlim := slL_lim n.toNat c.l
  have hnf := kf_lim (k := n) (n := n) h.2.1 h.2.2 h.1.1
  have hli := h.1.2.1
  have hfi := h.1.1
  have hn := h.2
  unfold inB at hli hfi
  rw [← hL] at HSl hlim
  have HLL := Lib.hid hL
  clear hL h
  have HW1 := Lib.hid (fun w' => worth_any (x := L) (by unfold in64; omega) w')
  have HW2 := Lib.hid (fun w' => worth_any (x := c.l) (by unfold in64; omega) w')
  obtain ⟨A, hA⟩ : ∃ A, A = wo L := ⟨_, rfl⟩
  obtain ⟨B, hB⟩ : ∃ B, B = wo c.l := ⟨_, rfl⟩
  rw [← hA] at HW1 hw
  rw [← hB] at HW2 hw
  have hw' : (B < A) = False := by simp only [hw]
  obtain ⟨nf, hnn⟩ : ∃ nf, nf = n * c.f := ⟨_, rfl⟩
  have hn2 : wrap64 nf = nf := wrap64_eq (by omega) (by omega)
  have HNN := Lib.hid hnn
  clear hA hB hw
  obtain ⟨w1, hw1⟩ : ∃ w1, w1 = w.alloc (.cells #[.int .i64 c.f, .int .i64 c.l, .int .i64 c.a, .int .i64 c.p, .bool c.s] 23) := ⟨_, rfl⟩
  obtain ⟨b1, x1, s1⟩ := one_new hw1
  have HW := Lib.hid hw1
  have HB1 := Lib.hid b1
  have HX1 := Lib.hid x1
  obtain ⟨c0, c1, c2, c3, c4⟩ := x1.cells
  clear hw1 b1 x1 s1
  go_enter Try.func5, Try.ntmps5
  go_upto_region 1 with fail
  rw [← HW.out]
  go_wp2_with fail
  refine (HSl.out _).mono ?_
  rintro e w2 ⟨rfl, b2⟩
  have HX2 := Lib.hid (HX1.out.below b2 HX1.out.lt)
  have HB2 := Lib.hid (bthen HB1.out b2 (Nat.le_refl _))
  clear b2 c0 c1 c2 c3 c4
  go_upto_region 2 with fail
  obtain ⟨w3, e3⟩ : ∃ w3, w3 = w2.alloc (.cells #[.int .i64 c.f, .int .i64 L, .int .i64 c.a, .int .i64 c.p, .bool c.s] 23) := ⟨_, rfl⟩
  obtain ⟨b3, x3, s3⟩ := one_new (c := ⟨c.f, L, c.a, c.p, c.s⟩) e3
  rw [← e3]
  have HX3 := Lib.hid (HX2.out.below b3 HX2.out.lt)
  have HB3 := Lib.hid (bthen HB2.out b3 (Nat.le_refl _))
  obtain ⟨g, hg⟩ : ∃ g, g = w2.heap.size := ⟨_, rfl⟩
  rw [← hg] at x3 ⊢
  have HY3 := Lib.hid x3
  obtain ⟨c0, c1, c2, c3, c4⟩ := HX3.out.cells
  obtain ⟨d0, d1, d2, d3, d4⟩ := x3.cells
  dsimp only [Ck.zero] at c0 c1 c2 c3 c4 d0 d1 d2 d3 d4
  clear e3 b3 x3 s3 hg
  go_upto_region 4 with fail
  go_quiet ((go_at_call 13; (first | with_reducible exact Calls.quiet_of_same (HW1.out _) | with_reducible exact Calls.quiet_of_same (HW2.out _))))
  go_wp2_with fail
  obtain ⟨v3, e3⟩ : ∃ v3, v3 = w3.drewN nq := ⟨_, rfl⟩
  have GX3 := Lib.hid (show Box v3 w.heap.size c by rw [e3]; exact HX3.out.drewN nq)
  have GY3 := Lib.hid (show Box v3 g ⟨c.f, L, c.a, c.p, c.s⟩ by rw [e3]; exact HY3.out.drewN nq)
  have GB3 := Lib.hid (show RowKit.Below w.heap.size w v3 by rw [e3]; exact below_drewN HB3.out nq)
  rw [← e3]
  clear e3 c0 c1 c2 c3 c4 d0 d1 d2 d3 d4
  refine (alive_any v3).mono ?_
  rintro e w4 ⟨rfl, b4⟩
  obtain ⟨c0, c1, c2, c3, c4⟩ := (GX3.out.below b4 GX3.out.lt).cells
  obtain ⟨d0, d1, d2, d3, d4⟩ := (GY3.out.below b4 GY3.out.lt).cells
  dsimp only [Ck.zero] at c0 c1 c2 c3 c4 d0 d1 d2 d3 d4
  have HB4 := Lib.hid (bthen GB3.out b4 (Nat.le_refl _))
  clear b4
  clear HX3 HY3 HB3 HX2 HB2 HX1 HB1 HW HSl HW1 HW2
  go_wp2_with fail
  go_ret
  exact ⟨rfl, HB4.out⟩

theorem law_any (c : Ck) (hc : c.ok) (n : Int) (hn : in64 n) (w : World) : Calls Try.prog 5 #[.agg #[.int .i64 c.f, .int .i64 c.l, .int .i64 c.a, .int .i64 c.p, .bool c.s], .int .i64 n] w (Yes w) := by
  by_cases h : c.slewOk n
  · have hlim := slL_lim n.toNat c.l
    have hli := h.1.2.1
    unfold inB at hli
    have hw : ¬ wo c.l < wo (slL n.toNat c.l) := by
      unfold wo
      split <;> split <;> (try split) <;> (try split) <;> omega
    by_cases h1 : 0 < slL n.toNat c.l
    · exact moves_a c n _ h rfl hw (by simp only [eq_iff_iff, iff_false]; omega) h1 (by simp only [eq_iff_iff, iff_false]; omega) w
    · by_cases h2 : slL n.toNat c.l < 0
      · exact moves_d c n _ h rfl hw (by simp only [eq_iff_iff, iff_false]; omega) (by simp only [h1]) h2 w
      · exact moves_b c n _ h rfl hw (by simp only [h1]) (by simp only [h2]) w
  · exact moves_no c n h w

set_option maxRecDepth 100000 in
theorem lifted (os : Os) (started : os.Started) (H : Type) (enc : TypeId × Value → H) :
    ReturnsInHanded {} Try.checked os 5 .any (Rows.discMovesSpec.pre6 enc Try.prog Try.f5 Rows.discMovesRow.domain false) (Rows.discMovesSpec.post enc Try.prog Try.f5 false true false false) := by
  refine returnsInHanded_of_change (C := Try.checked) own started (by kernel_rfl) Try.func5
    (ChangeSpec.witness6 (enc := enc) (C := Try.checked) false ⟨#[], #[.agg #[.int .i64 0, .int .i64 0, .int .i64 0, .int .i64 0, .bool false], .int .i64 0], []⟩ 8 (by kernel_rfl) (by kernel_rfl) (by kernel_rfl) (by kernel_rfl)) ?_
  intro W base args ds gs before hval0 hW hcnd _
  have hval : ∀ (j : Nat) t v, Try.f5.params[j]? = some t → args[j]? = some v → Value.okWide Try.prog W .any base t v := hval0
  have hW' := hW
  obtain ⟨p, q, hA0, hV, rfl, hfz, hnd⟩ := hW
  have hA : DataW.TrodAll enc Try.prog W 0 (fun _ => true) true Try.f5.params.toList args.toList ds p := hA0
  rw [Try.params5] at hA hval
  obtain ⟨v0, vs0, d0, ds0, p0, q0, hargs, rfl, rfl, h0, r0⟩ := trodAll_cons hA
  obtain ⟨v1, vs1, d1, ds1, p1, q1, rfl, rfl, rfl, h1, r1⟩ := trodAll_cons r0
  obtain ⟨rfl, rfl, rfl⟩ := trodAll_nil r1
  obtain rfl : args = #[v0, v1] := by cases args; simp_all
  obtain ⟨rfl, rfl⟩ := trodVars_none hV
  obtain ⟨cs0, rfl, _⟩ := okWide_struct Try.underlying23 (hval 0 23 v0 rfl rfl)
  have k0 := h0
  have lt0 : ∀ x ∈ p0, x.block < W.heap.size := by obtain ⟨m, hm⟩ := k0; exact DataW.trod_lt m _ _ _ hm
  obtain ⟨c0, rfl, w0⟩ := ck_open h0
  obtain ⟨a1, rfl, rfl, rfl, w1⟩ := open_int Try.underlying3 (hval 1 3 v1 rfl rfl) h1
  clear hA0 hval0
  refine (law_any c0 w0 a1 (in64_wf w1) W).mono fun e W' ⟨he, bel⟩ => ?_
  subst he
  exact ⟨_, rfl, _, _, _, [], _, [], hW', trodAll_mk1 (shut_bool Try.underlying4 _), (trodAll_cons_mk (Below.trod laidOut (by kernel_rfl) (of_decide_eq_true (by kernel_rfl)) k0 bel lt0) (trodAll_cons_mk (shut_int Try.underlying3 w1) trodAll_mk0)), rfl, bel.frame _, fun h => by cases h⟩

theorem discMoves_holds : Rows.DiscMovesSaid :=
  OpenClaim.holds_of_wide 5 Try.f5 rfl rfl rfl rfl rfl rfl rfl ⟨rfl, rfl, rfl, rfl, rfl⟩ rfl rfl rfl rfl rfl (by kernel_rfl) Try.func5 (by kernel_rfl)
    (of_decide_eq_true (by kernel_rfl)) (by unfold Func.isWrapper; first | (rw [if_pos (by decide +kernel)]; kernel_rfl) | (rw [if_neg (by decide +kernel)]; exact ⟨rfl, rfl⟩))
    (fun os started H enc _ => lifted os started H enc)
#print axioms discMoves_holds
end Go.Proofs.Ytplfimimoahjdaa.discMovesP
