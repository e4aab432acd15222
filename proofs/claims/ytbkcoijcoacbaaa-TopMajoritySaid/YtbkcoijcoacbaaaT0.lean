/- top08: numbers brought near; what an exchange tells. -/
import Derived.Test.YtbkcoijcoacbaaaStReckon
import Derived.Below
import Derived.Deep.RegionWith
namespace Go.Proofs.Ytbkcoijcoacbaaa
open Go.RowKit
set_option linter.unusedVariables false
set_option maxRecDepth 100000
theorem i64_and36 (n : Int) : bits .and .i64 n 68719476735 = n % 68719476736 := by
  have h1 : (BitVec.ofInt 64 68719476735).toNat = 2 ^ 36 - 1 := by decide
  have key : (BitVec.ofInt 64 n &&& BitVec.ofInt 64 68719476735).toNat = (n % ((2 ^ 64 : Nat) : Int)).toNat % 2 ^ 36 := by
    rw [BitVec.toNat_and, BitVec.toNat_ofInt, h1, Nat.and_two_pow_sub_one_eq_mod]
  show IntKind.i64.wrap ((BitVec.ofInt 64 n &&& BitVec.ofInt 64 68719476735).toNat : Nat) = n % 68719476736
  rw [key, IntKind.wrap_i64]
  omega
theorem near_any (n : Int) (w : World) : Calls Try.prog 7 #[.int .i64 n] w fun e w' => e = .returned (.int .i64 (n.tmod 68719476736)) ∧ w' = w := by
  go_enter Try.func7, Try.ntmps7
  go_wp2_with fail
  go_ret
  exact ⟨rfl, rfl⟩
theorem some_any (n : Int) (w : World) : Calls Try.prog 13 #[.int .i64 n] w fun e w' => e = .returned (.int .i64 (n % 68719476736)) ∧ w' = w := by
  have h := Lib.hid (i64_and36 n)
  go_enter Try.func13, Try.ntmps13
  go_wp2_with fail
  go_ret
  refine ⟨?_, rfl⟩
  rw [← h.out]
  rfl
theorem some_same (n : Int) (w : World) : Calls Try.prog 13 #[.int .i64 n] w fun e w' => e = .returned (.int .i64 (n % 68719476736)) ∧ w' = w := some_any n w
theorem move_same (a b : Int) (w : World) : Calls Try.prog 14 #[.int .u64 a, .int .i64 b] w fun e w' => e = .returned (.int .u64 (St.mv a b)) ∧ w' = w := (St.move_any a b w).mono fun _ _ ⟨he, hw⟩ => ⟨he, hw.symm⟩
/-- what an exchange tells: the offset, the delay -/
theorem ex_off {t o a b c : Int} (ho : -68719476736 ≤ o) (ho2 : o ≤ 68719476736) :
    (St.df (St.mv (St.mv t (a % 68719476736)) o) t + St.df (St.mv (St.mv (St.mv t (a % 68719476736)) o) (b % 68719476736)) (St.mv (St.mv (St.mv (St.mv (St.mv t (a % 68719476736)) o) (b % 68719476736)) (-o)) (c % 68719476736))) / 2 = (2 * o + a % 68719476736 - c % 68719476736) / 2 := by
  unfold St.df St.mv; omega
theorem ex_del {t o a b c : Int} (ho : -68719476736 ≤ o) (ho2 : o ≤ 68719476736) :
    max (-9223372036854775808) (min 9223372036854775807 (St.df (St.mv (St.mv (St.mv (St.mv (St.mv t (a % 68719476736)) o) (b % 68719476736)) (-o)) (c % 68719476736)) t - St.df (St.mv (St.mv (St.mv t (a % 68719476736)) o) (b % 68719476736)) (St.mv (St.mv t (a % 68719476736)) o))) = a % 68719476736 + c % 68719476736 := by
  unfold St.df St.mv; omega
end Go.Proofs.Ytbkcoijcoacbaaa
