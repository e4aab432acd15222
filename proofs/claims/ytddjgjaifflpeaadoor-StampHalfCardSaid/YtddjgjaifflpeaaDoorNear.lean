/- clepsydralaw04.near; forty binary digits. -/
import Derived.Test.YtddjgjaifflpeaaDoorShell
namespace Go.Proofs.YtddjgjaifflpeaaDoor
open Go.RowKit
set_option linter.unusedVariables false
set_option maxRecDepth 100000

theorem tmod_near (a : Int) : -1099511627776 < a.tmod 1099511627776 ∧ a.tmod 1099511627776 < 1099511627776 := by
  constructor
  · have := Int.lt_tmod_of_pos a (show (0 : Int) < 1099511627776 by decide); omega
  · exact Int.tmod_lt_of_pos a (by decide)
theorem near_any (a : Int) (w : World) : Calls Tryd.prog 35 #[.int .i64 a] w fun e w' => (∃ n : Int, e = .returned (.int .i64 n) ∧ -1099511627776 < n ∧ n < 1099511627776) ∧ w = w' := by
  have h := Lib.hid (tmod_near a)
  go_enter Tryd.func35, Tryd.ntmps35
  go_wp2
  go_ret
  exact ⟨⟨_, rfl, h.out.1, h.out.2⟩, rfl⟩
theorem i64_and40 (n : Int) : bits .and .i64 n 1099511627775 = n % 1099511627776 := by
  have h1 : (BitVec.ofInt 64 1099511627775).toNat = 2 ^ 40 - 1 := by decide
  have key : (BitVec.ofInt 64 n &&& BitVec.ofInt 64 1099511627775).toNat = (n % ((2 ^ 64 : Nat) : Int)).toNat % 2 ^ 40 := by
    rw [BitVec.toNat_and, BitVec.toNat_ofInt, h1, Nat.and_two_pow_sub_one_eq_mod]
  show IntKind.i64.wrap ((BitVec.ofInt 64 n &&& BitVec.ofInt 64 1099511627775).toNat : Nat) = n % 1099511627776
  rw [key, IntKind.wrap_i64]
  omega
end Go.Proofs.YtddjgjaifflpeaaDoor
