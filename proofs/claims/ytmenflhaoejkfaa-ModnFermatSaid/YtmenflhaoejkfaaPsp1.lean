/- What is asked of the products of some primes: by the kernel. No program. -/
import Derived.Test.YtmenflhaoejkfaaPsp
namespace Go.Proofs.Ytmenflhaoejkfaa
set_option maxRecDepth 100000
theorem chk1 : ([5, 7] : List Nat).all chk = true := by decide +kernel
end Go.Proofs.Ytmenflhaoejkfaa
