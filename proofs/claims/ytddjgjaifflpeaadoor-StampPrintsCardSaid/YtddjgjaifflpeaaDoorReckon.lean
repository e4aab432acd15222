/- Differences, moves, offsets, delays. -/
import Derived.Test.YtddjgjaifflpeaaDoorBase
import Derived.Laws.Bits128
import Derived.BigFrame
namespace Go.Proofs.YtddjgjaifflpeaaDoor
open Go.RowKit
set_option linter.unusedVariables false
set_option maxRecDepth 100000

/-- a number's place among the differences -/
def df (a b : Int) : Int := (a - b + 9223372036854775808) % 18446744073709551616 - 9223372036854775808
def mv (t d : Int) : Int := (t + d) % 18446744073709551616
theorem df_bounds (a b : Int) : -9223372036854775808 ≤ df a b ∧ df a b < 9223372036854775808 := by unfold df; omega
theorem mv_bounds (a b : Int) : 0 ≤ mv a b ∧ mv a b < 18446744073709551616 := by unfold mv; omega
theorem df_wrap (a b : Int) : IntKind.i64.wrap (IntKind.u64.wrap (a - b)) = df a b := by
  rw [IntKind.wrap_i64, IntKind.wrap_u64]; unfold df; omega
theorem df_wrap64 (a b : Int) : wrap64 (IntKind.u64.wrap (a - b)) = df a b := by
  rw [IntKind.wrap_u64]; unfold df wrap64; omega
theorem mv_wrap (a b : Int) : IntKind.u64.wrap (a + IntKind.u64.wrap b) = mv a b := by
  rw [IntKind.wrap_u64, IntKind.wrap_u64]; unfold mv; omega
theorem bounds_u64 {n : Int} (h : (Lit.int .u64 n).wf = true) : 0 ≤ n ∧ n < 18446744073709551616 := by
  simp [Lit.wf, IntKind.min, IntKind.max, IntKind.signed, IntKind.bits] at h; omega
theorem bounds_i64 {n : Int} (h : (Lit.int .i64 n).wf = true) : -9223372036854775808 ≤ n ∧ n < 9223372036854775808 := by
  simp [Lit.wf, IntKind.min, IntKind.max, IntKind.signed, IntKind.bits] at h; omega
theorem bounds_u32 {n : Int} (h : (Lit.int .u32 n).wf = true) : 0 ≤ n ∧ n < 4294967296 := by
  simp [Lit.wf, IntKind.min, IntKind.max, IntKind.signed, IntKind.bits] at h; omega
theorem i64_and1 (n : Int) : bits .and .i64 n 1 = n % 2 := by
  have h1 : (BitVec.ofInt 64 1).toNat = 2 ^ 1 - 1 := by decide
  have key : (BitVec.ofInt 64 n &&& BitVec.ofInt 64 1).toNat = (n % ((2 ^ 64 : Nat) : Int)).toNat % 2 ^ 1 := by
    rw [BitVec.toNat_and, BitVec.toNat_ofInt, h1, Nat.and_two_pow_sub_one_eq_mod]
  show IntKind.i64.wrap ((BitVec.ofInt 64 n &&& BitVec.ofInt 64 1).toNat : Nat) = n % 2
  rw [key, IntKind.wrap_i64]
  omega
theorem nat_and_odd (x y : Nat) : (x &&& y) % 2 = x % 2 * (y % 2) := by
  have h : (x &&& y) % 2 ^ 1 = (x % 2 ^ 1) &&& (y % 2 ^ 1) := Nat.and_mod_two_pow
  simp only [Nat.pow_one] at h
  rw [h]
  rcases Nat.mod_two_eq_zero_or_one x with a | a <;> rcases Nat.mod_two_eq_zero_or_one y with b | b <;> rw [a, b] <;> rfl
theorem odd_case (x y m : Int) (hx : x = 0 ∨ x = 1) (hy : y = 0 ∨ y = 1) (h : m % 2 = x * y) : ((m + 9223372036854775808) % 18446744073709551616 - 9223372036854775808) % 2 = x * y := by
  rw [← h]; omega
theorem i64_and_odd (x y : Int) : bits .and .i64 (bits .and .i64 x y) 1 = x % 2 * (y % 2) := by
  rw [i64_and1]
  show IntKind.i64.wrap ((BitVec.ofInt 64 x &&& BitVec.ofInt 64 y).toNat : Nat) % 2 = _
  rw [BitVec.toNat_and, BitVec.toNat_ofInt, BitVec.toNat_ofInt, IntKind.wrap_i64]
  have h := nat_and_odd (x % ((2 ^ 64 : Nat) : Int)).toNat (y % ((2 ^ 64 : Nat) : Int)).toNat
  have a1 : (x % ((2 ^ 64 : Nat) : Int)).toNat % 2 = (x % 2).toNat := by omega
  have a2 : (y % ((2 ^ 64 : Nat) : Int)).toNat % 2 = (y % 2).toNat := by omega
  rw [a1, a2] at h
  generalize (x % ((2 ^ 64 : Nat) : Int)).toNat &&& (y % ((2 ^ 64 : Nat) : Int)).toNat = m at *
  clear a1 a2
  have ex := Int.emod_two_eq x
  have ey := Int.emod_two_eq y
  refine odd_case _ _ _ ex ey ?_
  generalize x % 2 = u at *
  generalize y % 2 = v at *
  rcases ex with rfl | rfl <;> rcases ey with rfl | rfl
  · show (m : Int) % 2 = 0
    have : m % 2 = 0 := h
    omega
  · show (m : Int) % 2 = 0
    have : m % 2 = 0 := h
    omega
  · show (m : Int) % 2 = 0
    have : m % 2 = 0 := h
    omega
  · show (m : Int) % 2 = 1
    have : m % 2 = 1 := h
    omega

theorem diff_any (a b : Int) (w : World) : Calls Tryd.prog 16 #[.int .u64 a, .int .u64 b] w fun e w' => e = .returned (.int .i64 (df a b)) ∧ w = w' := by
  have h := Lib.hid (df_wrap64 a b)
  go_enter Tryd.func16, Tryd.ntmps16
  go_wp2
  go_ret
  refine ⟨?_, rfl⟩
  rw [← h.out]
  rfl
theorem move_any (a b : Int) (w : World) : Calls Tryd.prog 18 #[.int .u64 a, .int .i64 b] w fun e w' => e = .returned (.int .u64 (mv a b)) ∧ w = w' := by
  have h := Lib.hid (mv_wrap a b)
  go_enter Tryd.func18, Tryd.ntmps18
  go_wp2
  go_ret
  refine ⟨?_, rfl⟩
  rw [← h.out]
  rfl
theorem before_any (a b : Int) (w : World) : Calls Tryd.prog 20 #[.int .u64 a, .int .u64 b] w fun e w' => e = .returned (.bool (decide (df a b < 0))) ∧ w = w' := by
  go_enter Tryd.func20, Tryd.ntmps20
  go_wp2_with (go_at_call 16; refine (diff_any _ _ _).mono ?_; rintro e w' ⟨rfl, rfl⟩)
  go_ret
  exact ⟨rfl, rfl⟩
theorem half_sum (x y : Int) : x / 2 + y / 2 + x % 2 * (y % 2) = (x + y) / 2 := by
  rcases Int.emod_two_eq x with hx | hx <;> rcases Int.emod_two_eq y with hy | hy <;> rw [hx, hy] <;> omega
theorem offset_any (a b c d : Int) (w : World) : Calls Tryd.prog 21 #[.int .u64 a, .int .u64 b, .int .u64 c, .int .u64 d] w fun e w' => e = .returned (.int .i64 ((df b a + df c d) / 2)) ∧ w = w' := by
  have b1 := df_bounds b a
  have b2 := df_bounds c d
  generalize hX : df b a = X at *
  generalize hY : df c d = Y at *
  have h := Lib.hid (i64_and_odd X Y)
  have h2 := Lib.hid (half_sum X Y)
  have HX := Lib.hid hX
  have HY := Lib.hid hY
  clear hX hY
  go_enter Tryd.func21, Tryd.ntmps21
  go_wp2_with (go_at_call 16; refine (diff_any _ _ _).mono ?_; rintro e w' ⟨rfl, rfl⟩; (first | rw [HX.out] | rw [HY.out]))
  go_ret
  refine ⟨?_, rfl⟩
  have e : wrap64 (X / 2 + Y / 2 + bits BinOp.and IntKind.i64 (bits BinOp.and IntKind.i64 X Y) 1) = (X + Y) / 2 := by
    rw [h.out, h2.out]; unfold wrap64; omega
  rw [← e]
  rfl
theorem delay_any (a b c d : Int) (w : World) : Calls Tryd.prog 23 #[.int .u64 a, .int .u64 b, .int .u64 c, .int .u64 d] w fun e w' => e = .returned (.int .i64 (max (-9223372036854775808) (min 9223372036854775807 (df d a - df c b)))) ∧ w = w' := by
  have b1 := df_bounds d a
  have b2 := df_bounds c b
  generalize hX : df d a = X at *
  generalize hY : df c b = Y at *
  have HX := Lib.hid hX
  have HY := Lib.hid hY
  clear hX hY
  go_enter Tryd.func23, Tryd.ntmps23
  go_wp2_with (go_at_call 16; refine (diff_any _ _ _).mono ?_; rintro e w' ⟨rfl, rfl⟩; (first | rw [HX.out] | rw [HY.out]))
  all_goals (go_ret; refine ⟨?_, rfl⟩; show Ending.returned (Value.int IntKind.i64 _) = Ending.returned (Value.int IntKind.i64 _); congr 2; first | omega | (simp at *; omega))
end Go.Proofs.YtddjgjaifflpeaaDoor
