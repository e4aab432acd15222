/- clepsydraref01.Mul, Add. -/
import Derived.Test.YtddpgckbdccldaaApp
namespace Go.Proofs.Ytddpgckbdccldaa
set_option linter.unusedSimpArgs false
set_option linter.unusedVariables false
open Go.RowKit

theorem len_bits {ds xs : List Nat} (ht : Trm ds) (hL : Lim 18446744073709551616 xs) (hv : val 2 ds = val 18446744073709551616 xs) : ds.length ≤ 64 * xs.length := by
  refine length_of_val (β := 2) (by omega) ht ?_
  rw [hv, Nat.pow_mul]
  exact val_lt hL



end Go.Proofs.Ytddpgckbdccldaa
