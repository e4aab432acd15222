/- top08: what a law's frame needs. -/
import Derived.Test.YtbkcoijcoacbaaaProg
import Derived.Test.YtbkcoijcoacbaaaRows
import Derived.ProofKit
import Derived.OpenShut
import Derived.ChangeOld
import Derived.Stop.Joined
import Derived.Lib.SmallJoins
import Derived.Deep.MidRow
import Derived.Deep.Slices
namespace Go.Proofs.Ytbkcoijcoacbaaa
open Go.ChangeShapes Go.WideShapes Go.ChangeAt Go.RowKit
set_option linter.unusedVariables false
set_option maxRecDepth 100000
def Yes (w : World) (e : Ending) (w' : World) : Prop := e = .returned (.bool true) ∧ RowKit.Below w.heap.size w w'
theorem own : ownKnob Try.prog.godebug = none := by kernel_rfl
theorem laidOut : laidOutB Try.prog = true := by kernel_rfl
theorem u64_nat {a : Int} (w : (Lit.int .u64 a).wf = true) : ∃ y : Nat, a = (y : Int) ∧ y < 18446744073709551616 := by
  simp [Lit.wf, IntKind.min, IntKind.max, IntKind.signed, IntKind.bits] at w
  exact ⟨a.toNat, by omega, by omega⟩
end Go.Proofs.Ytbkcoijcoacbaaa
