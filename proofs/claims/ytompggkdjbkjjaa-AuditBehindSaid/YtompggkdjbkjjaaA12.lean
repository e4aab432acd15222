/- audit: which events are alike. -/
import Derived.Test.YtompggkdjbkjjaaA11
namespace Go.Proofs.Ytompggkdjbkjjaa
open Go.RowKit Go.Maps Go.MapKept Go.ChangeMaps
set_option linter.unusedVariables false
set_option maxRecDepth 100000
theorem bstr_list_inj {a b : List Nat} (ha : Lim 256 a) (hb : Lim 256 b) (h : (bstr a).toList = (bstr b).toList) : a = b := by
  refine bstr_inj ha hb ?_
  rw [ByteArray.toList_eq, ByteArray.toList_eq] at h
  exact ByteArray.ext (Array.ext' h)
/-- is b what a sent? -/
def alikeB (a b : Em) : Bool := decide (a.k = 1) && (decide (b.k = 3) && (decide (a.h = b.p) && (decide (a.p = b.h) && decide (a.xs = b.xs))))
theorem alikeB_iff (a b : Em) : alikeB a b = true ↔ a.k = 1 ∧ b.k = 3 ∧ a.h = b.p ∧ a.p = b.h ∧ a.xs = b.xs := by unfold alikeB; simp
set_option maxHeartbeats 2000000 in
theorem alike_any {w : World} (x y : Ev) (hx : Nb w w.heap.size x.A x.n x.c x.xs) (hy : Nb w w.heap.size y.A y.n y.c y.xs) :
    Calls Try.prog 20 #[evV x, evV y] w fun e w' => e = .returned (.bool (alikeB x.m y.m)) ∧ RowKit.Below w.heap.size w w' := by
  obtain ⟨W1, hW1⟩ : ∃ W1, W1 = w.alloc (.cells #[.int .i64 x.k, .int .u32 (x.h : Int), .int .u32 (x.p : Int), .int .i64 x.at_, .slice x.A x.n x.c] 54) := ⟨_, rfl⟩
  obtain ⟨W2, hW2⟩ : ∃ W2, W2 = W1.alloc (.cells #[.int .i64 y.k, .int .u32 (y.h : Int), .int .u32 (y.p : Int), .int .i64 y.at_, .slice y.A y.n y.c] 54) := ⟨_, rfl⟩
  have b1 : RowKit.Below w.heap.size w W1 := by rw [hW1]; exact (Below.refl _ _).alloc (Nat.le_refl _) _
  have b2 : RowKit.Below W1.heap.size W1 W2 := by rw [hW2]; exact (Below.refl _ _).alloc (Nat.le_refl _) _
  have x1 : EBox W2 w.heap.size 54 x := EBox.below (show EBox W1 w.heap.size 54 x by rw [hW1]; exact EBox.new w 54 x) b2
  have y1 : EBox W2 (w.heap.size + 1) 54 y := by
    have h := EBox.new W1 54 y
    rw [← hW2, show W1.heap.size = w.heap.size + 1 by rw [hW1]; simp] at h
    exact h
  have b3 := bthen b1 b2 (Nat.le_refl _)
  have hcx : (convert 52 9 (.slice x.A x.n x.c)).run Try.prog W2 = .ok (.string (bstr x.xs)) W2 := conv_any (hx.below b3)
  have hcy : (convert 52 9 (.slice y.A y.n y.c)).run Try.prog W2 = .ok (.string (bstr y.xs)) W2 := conv_any (hy.below b3)
  obtain ⟨c0, c1, c2, c3, c4⟩ := x1.cells
  obtain ⟨d0, d1, d2, d3, d4⟩ := y1.cells
  have HB := Lib.hid b3
  have HW1 := Lib.hid hW1
  have HW2 := Lib.hid hW2
  have H5 := Lib.hid (show ((bstr x.xs).toList == (bstr y.xs).toList) = decide (x.xs = y.xs) by
    rw [Bool.eq_iff_iff]
    simp only [beq_iff_eq, decide_eq_true_eq]
    exact ⟨bstr_list_inj hx.lim hy.lim, fun e => by rw [e]⟩)
  have HV := Lib.hid (show alikeB x.m y.m = (decide (x.k = 1) && (decide (y.k = 3) && (decide (x.h = y.p) && (decide (x.p = y.h) && decide (x.xs = y.xs))))) from rfl)
  generalize alikeB x.m y.m = r at *
  generalize decide (x.xs = y.xs) = q at *
  clear hW1 hW2 b1 b2 b3 x1 y1 hx hy
  obtain ⟨k, h, p, a, A, n, c, xs⟩ := x
  obtain ⟨k', h', p', a', A', n', c', xs'⟩ := y
  dsimp only at *
  have h5 := H5.out
  by_cases h1 : k = 1
  · have k1 : (k == 1) = true := by simpa using h1
    by_cases h2 : k' = 3
    · have k2 : (k' == 3) = true := by simpa using h2
      by_cases h3 : h = p'
      · by_cases h4 : p = h'
        · have HV2 := Lib.hid (show r = q by rw [HV.out, decide_eq_true h1, decide_eq_true h2, decide_eq_true h3, decide_eq_true h4]; rfl)
          subst h3 h4
          clear h1 h2 H5 HV
          go_enter Try.func20, Try.ntmps20
          go_upto_region 1 with fail
          rw [← HW1.out, ← HW2.out]
          go_wp2_with fail
          go_ret
          exact ⟨by rw [HV2.out]; rfl, HB.out⟩
        · have HV2 := Lib.hid (show r = false by rw [HV.out, decide_eq_false h4]; simp)
          have k4 : (p == h') = false := by simpa using h4
          have k5 : ((p : Int) == (h' : Int)) = false := by simp; omega
          subst h3
          clear h1 h2 h4 h5 H5 HV
          go_enter Try.func20, Try.ntmps20
          go_upto_region 1 with fail
          rw [← HW1.out, ← HW2.out]
          go_wp2_with fail
          go_ret
          exact ⟨by rw [HV2.out]; rfl, HB.out⟩
      · have HV2 := Lib.hid (show r = false by rw [HV.out, decide_eq_false h3]; simp)
        have k4 : (h == p') = false := by simpa using h3
        have k5 : ((h : Int) == (p' : Int)) = false := by simp; omega
        clear h1 h2 h3 h5 H5 HV
        go_enter Try.func20, Try.ntmps20
        go_upto_region 1 with fail
        rw [← HW1.out, ← HW2.out]
        go_wp2_with fail
        go_ret
        exact ⟨by rw [HV2.out]; rfl, HB.out⟩
    · have HV2 := Lib.hid (show r = false by rw [HV.out, decide_eq_false h2]; simp)
      have k2 : (k' == 3) = false := by simpa using h2
      clear h1 h2 h5 H5 HV
      go_enter Try.func20, Try.ntmps20
      go_upto_region 1 with fail
      rw [← HW1.out, ← HW2.out]
      go_wp2_with fail
      go_ret
      exact ⟨by rw [HV2.out]; rfl, HB.out⟩
  · have HV2 := Lib.hid (show r = false by rw [HV.out, decide_eq_false h1]; simp)
    have k2 : (k == 1) = false := by simpa using h1
    clear h1 h5 H5 HV
    go_enter Try.func20, Try.ntmps20
    go_upto_region 1 with fail
    rw [← HW1.out, ← HW2.out]
    go_wp2_with fail
    go_ret
    exact ⟨by rw [HV2.out]; rfl, HB.out⟩
end Go.Proofs.Ytompggkdjbkjjaa
