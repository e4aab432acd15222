/- ref10.SameExt: do two fields say the same? -/
import Derived.Test.YthflafcjinpmnaaR12
namespace Go.Proofs.Ythflafcjinpmnaa
open Go.RowKit
set_option linter.unusedVariables false
set_option maxRecDepth 100000
def sx (x y : El) : Bool := x.op == y.op && (x.resp == y.resp && (x.bad == y.bad && (x.as_ == y.as_ && ((x.ts : Int) == (y.ts : Int) && ((x.fs : Int) == (y.fs : Int) && ((bstr x.xs).toList == (bstr y.xs).toList && (bstr x.ys).toList == (bstr y.ys).toList))))))
set_option maxHeartbeats 4000000 in
theorem sx_any {w : World} {B : Nat} (x y : El) (hx : Nb w B x.A x.n x.c x.xs) (hx2 : Nb w B x.B x.m x.e x.ys) (hy : Nb w B y.A y.n y.c y.xs) (hy2 : Nb w B y.B y.m y.e y.ys) (hB : B ≤ w.heap.size) : Calls Try.prog 30 #[elV x, elV y] w fun e w' => e = .returned (.bool (sx x y)) ∧ RowKit.Below w.heap.size w w' := by
  obtain ⟨W1, hW1⟩ : ∃ W, W = w.alloc (.cells #[.int .i64 x.op, .bool x.resp, .bool x.bad, .int .i64 x.as_, .int .u32 (x.ts : Int), .int .u32 (x.fs : Int), .slice x.A x.n x.c, .slice x.B x.m x.e] 47) := ⟨_, rfl⟩
  obtain ⟨W, hW⟩ : ∃ W, W = W1.alloc (.cells #[.int .i64 y.op, .bool y.resp, .bool y.bad, .int .i64 y.as_, .int .u32 (y.ts : Int), .int .u32 (y.fs : Int), .slice y.A y.n y.c, .slice y.B y.m y.e] 47) := ⟨_, rfl⟩
  have hb1 : RowKit.Below w.heap.size w W1 := by rw [hW1]; exact (Below.refl _ _).alloc (Nat.le_refl _) _
  have hb : RowKit.Below w.heap.size w W := by rw [hW]; exact hb1.alloc hb1.size _
  have hs1 : W1.heap.size = w.heap.size + 1 := by rw [hW1]; simp
  have x1 : EBox W1 w.heap.size x := by rw [hW1]; exact heap_alloc_new w _
  have x2 : EBox W w.heap.size x := by rw [hW]; exact (Below.heap_alloc _ _ _ (by omega)).trans x1
  have y2 : EBox W (w.heap.size + 1) y := by rw [hW, ← hs1]; exact heap_alloc_new W1 _
  have k1 := conv_any (hx.below (hb.mono hB))
  have k2 := conv_any (hx2.below (hb.mono hB))
  have k3 := conv_any (hy.below (hb.mono hB))
  have k4 := conv_any (hy2.below (hb.mono hB))
  obtain ⟨c0, c1, c2, c3, c4, c5, c6, c7⟩ := x2.cells
  obtain ⟨d0, d1, d2, d3, d4, d5, d6, d7⟩ := y2.cells
  have HW := Lib.hid (hW1 ▸ hW)
  have HB := Lib.hid hb
  clear hW1 hW hb1 hb hs1 x1 x2 y2 hx hx2 hy hy2
  obtain ⟨b1, e1⟩ : ∃ b, (x.op == y.op) = b := ⟨_, rfl⟩
  obtain ⟨b2, e2⟩ : ∃ b, (x.resp == y.resp) = b := ⟨_, rfl⟩
  obtain ⟨b3, e3⟩ : ∃ b, (x.bad == y.bad) = b := ⟨_, rfl⟩
  obtain ⟨b4, e4⟩ : ∃ b, (x.as_ == y.as_) = b := ⟨_, rfl⟩
  obtain ⟨b5, e5⟩ : ∃ b, ((x.ts : Int) == (y.ts : Int)) = b := ⟨_, rfl⟩
  obtain ⟨b6, e6⟩ : ∃ b, ((x.fs : Int) == (y.fs : Int)) = b := ⟨_, rfl⟩
  obtain ⟨b7, e7⟩ : ∃ b, ((bstr x.xs).toList == (bstr y.xs).toList) = b := ⟨_, rfl⟩
  obtain ⟨b8, e8⟩ : ∃ b, ((bstr x.ys).toList == (bstr y.ys).toList) = b := ⟨_, rfl⟩
  have HV := Lib.hid (show sx x y = (b1 && (b2 && (b3 && (b4 && (b5 && (b6 && (b7 && b8))))))) by unfold sx; rw [e1, e2, e3, e4, e5, e6, e7, e8])
  cases b1 with
  | false =>
    clear e2 e3 e4 e5 e6 e7 e8
    go_enter Try.func30, Try.ntmps30
    go_upto_region 1 with fail
    rw [← HW.out]
    go_wp2_with fail
    go_ret
    exact ⟨by rw [HV.out]; rfl, HB.out⟩
  | true =>
    cases b2 with
    | false =>
      clear e3 e4 e5 e6 e7 e8
      go_enter Try.func30, Try.ntmps30
      go_upto_region 1 with fail
      rw [← HW.out]
      go_wp2_with fail
      go_ret
      exact ⟨by rw [HV.out]; rfl, HB.out⟩
    | true =>
      cases b3 with
      | false =>
        clear e4 e5 e6 e7 e8
        go_enter Try.func30, Try.ntmps30
        go_upto_region 1 with fail
        rw [← HW.out]
        go_wp2_with fail
        go_ret
        exact ⟨by rw [HV.out]; rfl, HB.out⟩
      | true =>
        cases b4 with
        | false =>
          clear e5 e6 e7 e8
          go_enter Try.func30, Try.ntmps30
          go_upto_region 1 with fail
          rw [← HW.out]
          go_wp2_with fail
          go_ret
          exact ⟨by rw [HV.out]; rfl, HB.out⟩
        | true =>
          cases b5 with
          | false =>
            clear e6 e7 e8
            go_enter Try.func30, Try.ntmps30
            go_upto_region 1 with fail
            rw [← HW.out]
            go_wp2_with fail
            go_ret
            exact ⟨by rw [HV.out]; rfl, HB.out⟩
          | true =>
            cases b6 with
            | false =>
              clear e7 e8
              go_enter Try.func30, Try.ntmps30
              go_upto_region 1 with fail
              rw [← HW.out]
              go_wp2_with fail
              go_ret
              exact ⟨by rw [HV.out]; rfl, HB.out⟩
            | true =>
              cases b7 with
              | false =>
                clear e8
                go_enter Try.func30, Try.ntmps30
                go_upto_region 1 with fail
                rw [← HW.out]
                go_wp2_with fail
                go_ret
                exact ⟨by rw [HV.out]; rfl, HB.out⟩
              | true =>
                go_enter Try.func30, Try.ntmps30
                go_upto_region 1 with fail
                rw [← HW.out]
                go_wp2_with fail
                go_ret
                exact ⟨by rw [HV.out]; rfl, HB.out⟩
end Go.Proofs.Ythflafcjinpmnaa
