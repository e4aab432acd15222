/- plane: PlanePoints' walk. -/
import Derived.Test.YtnjieddkphappaaP7
namespace Go.Proofs.Ytnjieddkphappaa
open Go.RowKit
set_option maxRecDepth 100000
set_option linter.unusedVariables false
theorem word_nn (neg : Bool) {r : Nat} (h : r ≤ 9218868437227405312) : ¬ isN (Ieee.double.word neg r) := by
  have e1 : Ieee.double.signWeight = 9223372036854775808 := by decide +kernel
  rw [isN_iff]
  unfold Ieee.Format.word
  rw [e1]
  cases neg <;> simp <;> omega
theorem ofInt_nn (n : Int) : ¬ isN (floatOfInt .f64 n) := by
  have e2 : Ieee.double.infRung = 9218868437227405312 := by decide +kernel
  show ¬ isN (Ieee.double.nearest _ _ _)
  unfold Ieee.Format.nearest
  split
  · exact word_nn _ (by omega)
  · dsimp only
    refine word_nn _ ?_
    rw [e2]; exact Nat.min_le_right _ _
theorem like_yes {a b : Nat} (h : al a b) (w : World) : Calls Try.prog 14 #[.float .f64 a, .float .f64 b] w fun e w' => e = .returned (.bool true) ∧ w' = w := by
  have := like_any a b w
  rwa [decide_eq_true h] at this
theorem same_any2 (a b c d : Nat) (w : World) :
    Calls Try.prog 18 #[.complex .f64 a b, .complex .f64 c d] w fun e w' => e = .returned (.bool (FloatKind.f64.format.order a c == some .eq && FloatKind.f64.format.order b d == some .eq)) ∧ w' = w := same_any a b c d w
set_option maxHeartbeats 1000000 in
theorem points_law (o d : Int) {a b c g f : Nat} (ha : a < 2 ^ 64) (hb : b < 2 ^ 64) (hc : c < 2 ^ 64) (hg : g < 2 ^ 64) (hf : f < 2 ^ 64) (w : World) :
    Calls Try.prog 3 #[.int .i64 o, .int .i64 d, .int .u64 a, .int .u64 b, .int .u64 c, .int .u64 g, .int .u64 f] w fun e w' => e = .returned (.bool true) ∧ RowKit.Below w.heap.size w w' := by
  have O1 : FloatKind.f64.format.order (floatOfInt .f64 o) (floatOfInt .f64 o) = some .eq := od_self_eq.2 (ofInt_nn o)
  have O2 : FloatKind.f64.format.order (floatOfInt .f64 d) (floatOfInt .f64 d) = some .eq := od_self_eq.2 (ofInt_nn d)
  go_enter Try.func3, Try.ntmps3
  go_wp2_with fail
  refine (point_any _ _ _).mono ?_
  rintro e w1 ⟨rfl, rfl⟩
  go_wp2_with fail
  refine (turn_any _ _ _).mono ?_
  rintro e w1 ⟨rfl, rfl⟩
  go_wp2_with fail
  refine (scale_any _ _ _ _).mono ?_
  rintro e w1 ⟨⟨r, s, rfl, hr, hs⟩, h1⟩
  have HR := Lib.hid hr
  have HS := Lib.hid hs
  have H1 := Lib.hid h1
  clear hr hs h1
  go_wp2_with fail
  refine (bits_any _ _ _).mono ?_
  rintro e w2 ⟨rfl, rfl⟩
  go_wp2_with fail
  refine (like_yes (al.refl _) _).mono ?_
  rintro e w3 ⟨rfl, rfl⟩
  go_wp2_with fail
  refine (like_yes (al.refl _) _).mono ?_
  rintro e w4 ⟨rfl, rfl⟩
  go_wp2_with fail
  refine (like_yes (HR.out.2.trans (fv_alc _ _ _ w4).symm) _).mono ?_
  rintro e w5 ⟨rfl, rfl⟩
  go_wp2_with fail
  refine (like_yes (HS.out.2.trans (fv_alc _ _ _ _).symm) _).mono ?_
  rintro e w5 ⟨rfl, rfl⟩
  go_wp2_with fail
  refine (alive_any _).mono ?_
  rintro e w5 ⟨rfl, h5⟩
  have H5 := Lib.hid ((below_drewN H1.out _).trans (h5.mono H1.out.size))
  clear h5
  go_wp2_with fail
  refine (far_any _ _ _ _ _).mono ?_
  rintro e w6 ⟨⟨x, rfl, _, hx⟩, k1, rfl⟩
  have HX := Lib.hid hx
  clear hx
  go_wp2_with fail
  refine (rfar_any _ _ _ _ _).mono ?_
  rintro e w6 ⟨⟨y, rfl, _, hy⟩, k2, rfl⟩
  have HL := Lib.hid (HX.out.trans hy.symm)
  have H6 := Lib.hid (below_drewN (below_drewN H5.out k1) k2)
  clear hy
  go_wp2_with fail
  refine (like_yes HL.out _).mono ?_
  rintro e w7 ⟨rfl, rfl⟩
  go_wp2_with fail
  refine (same_any2 _ _ _ _ _).mono ?_
  rintro e w7 ⟨rfl, rfl⟩
  by_cases C1 : FloatKind.f64.format.order a c = some .eq
  · by_cases C2 : FloatKind.f64.format.order b g = some .eq
    · simp only [C1, C2]
      go_wp2_with fail
      go_ret
      exact ⟨rfl, below_drewN H5.out _⟩
    · have C2' : (FloatKind.f64.format.order b g == some .eq) = false := by simpa using C2
      simp only [C1, C2']
      go_wp2_with fail
      go_ret
      exact ⟨rfl, below_drewN H5.out _⟩
  · have C1' : (FloatKind.f64.format.order a c == some .eq) = false := by simpa using C1
    simp only [C1']
    go_wp2_with fail
    go_ret
    exact ⟨rfl, below_drewN H5.out _⟩
end Go.Proofs.Ytnjieddkphappaa
