/- plane: PlanePoints' walk. -/
import Derived.Test.YtbkcoijcoacbaaaPlP6
namespace Go.Proofs.Ytbkcoijcoacbaaa.Pl
open Go.RowKit
set_option maxRecDepth 100000
set_option linter.unusedVariables false
theorem word_nn (neg : Bool) {r : Nat} (h : r ≤ 9218868437227405312) : ¬ isN (Ieee.double.word neg r) := by
  have e1 : Ieee.double.signWeight = 9223372036854775808 := by decide +kernel
  rw [isN_iff]
  unfold Ieee.Format.word
  rw [e1]
  cases neg <;> simp <;> omega
theorem ofInt_nn (n : Int) : ¬ isN (floatOfInt .f64 n) := by
  have e2 : Ieee.double.infRung = 9218868437227405312 := by decide +kernel
  show ¬ isN (Ieee.double.nearest _ _ _)
  unfold Ieee.Format.nearest
  split
  · exact word_nn _ (by omega)
  · dsimp only
    refine word_nn _ ?_
    rw [e2]; exact Nat.min_le_right _ _
theorem same_any2 (a b c d : Nat) (w : World) :
    Calls Try.prog 20 #[.complex .f64 a b, .complex .f64 c d] w fun e w' => e = .returned (.bool (FloatKind.f64.format.order a c == some .eq && FloatKind.f64.format.order b d == some .eq)) ∧ w' = w := same_any a b c d w
end Go.Proofs.Ytbkcoijcoacbaaa.Pl
