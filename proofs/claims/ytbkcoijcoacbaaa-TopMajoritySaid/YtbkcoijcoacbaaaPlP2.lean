/- plane: what a float's operation gives; products, magnitudes, points, turns, what is the same. -/
import Derived.Test.YtbkcoijcoacbaaaPlP1
import Derived.Below
import Derived.Deep.QuietTactic
import Derived.BigQuiet
import Derived.Deep.RegionHeld3
namespace Go.Proofs.Ytbkcoijcoacbaaa.Pl
open Go.RowKit
instance (x y : Nat) : Decidable (al x y) := by unfold al; exact inferInstance
set_option maxRecDepth 100000
set_option linter.unusedVariables false
def qn : Nat := 9221120237041090561
theorem qn_isN : isN qn := by rw [isN_iff]; decide
/-- the result, of what is no number one for all -/
def fc (op : BinOp) (x y : Nat) : Nat := (fb op x y).getD qn
theorem fc_al {op : BinOp} {x y x' y' : Nat} (h : al x x') (g : al y y') : fc op x y = fc op x' y' := by unfold fc; rw [fb_al h g]
theorem fc_lt (op : BinOp) (x y : Nat) : fc op x y < 18446744073709551616 := by
  unfold fc
  cases e : fb op x y with
  | none => show qn < _; decide
  | some r => exact fb_lt e
theorem fv_lt (op : BinOp) (x y : Nat) (w : World) : fv op x y w < 18446744073709551616 := (fv_fr op x y w).1
theorem fv_alc (op : BinOp) (x y : Nat) (w : World) : al (fv op x y w) (fc op x y) := by
  have := (fv_fr op x y w).2
  unfold fc
  cases e : fb op x y with
  | none => rw [e] at this; exact .inr ⟨this, qn_isN⟩
  | some r => rw [e] at this; exact .inl this
theorem fv_al (op : BinOp) (x y : Nat) (w : World) : fv op x y w < 18446744073709551616 ∧ al (fv op x y w) (fc op x y) := ⟨fv_lt .., fv_alc ..⟩
theorem order_self {a : Ieee.Datum} : a.order a = some .eq ↔ ¬ a.isNaN = true := by
  cases a <;> simp [Ieee.Datum.order, Ieee.Datum.isNaN, Std.ReflCmp.compare_self]
theorem od_self_eq {a : Nat} : od a a = some .eq ↔ ¬ isN a := order_self
@[go_sem] theorem run_fadd {P : Program} (w : World) (t : TypeId) (x y : Nat) : (binOp .add t (.float .f64 x) (.float .f64 y)).run P w = .ok (.float .f64 (fv .add x y w)) (w.drewN (fk .add x y)) := run_fl w .add t x y (.inl rfl)
@[go_sem] theorem run_fsub {P : Program} (w : World) (t : TypeId) (x y : Nat) : (binOp .sub t (.float .f64 x) (.float .f64 y)).run P w = .ok (.float .f64 (fv .sub x y w)) (w.drewN (fk .sub x y)) := run_fl w .sub t x y (.inr (.inl rfl))
@[go_sem] theorem run_fmul {P : Program} (w : World) (t : TypeId) (x y : Nat) : (binOp .mul t (.float .f64 x) (.float .f64 y)).run P w = .ok (.float .f64 (fv .mul x y w)) (w.drewN (fk .mul x y)) := run_fl w .mul t x y (.inr (.inr (.inl rfl)))
@[go_sem] theorem run_fquo {P : Program} (w : World) (t : TypeId) (x y : Nat) : (binOp .quo t (.float .f64 x) (.float .f64 y)).run P w = .ok (.float .f64 (fv .quo x y w)) (w.drewN (fk .quo x y)) := run_fl w .quo t x y (.inr (.inr (.inr rfl)))
@[go_sem] theorem run_bits (b : Nat) (w : World) : (callFunc 60 #[.float .f64 b]).run Try.prog w = .ok (.value (.int .u64 b)) w := by
  rw [run_callFunc_extern Try.func60 (e := Extern.MathFloatBits.float64bits) (by kernel_rfl) (by kernel_rfl) (by kernel_rfl) (by kernel_rfl)]; rfl
@[go_sem] theorem run_frombits (n : Int) (w : World) : (callFunc 59 #[.int .u64 n]).run Try.prog w = .ok (.value (.float .f64 n.toNat)) w := by
  rw [run_callFunc_extern Try.func59 (e := Extern.MathFloatBits.float64frombits) (by kernel_rfl) (by kernel_rfl) (by kernel_rfl) (by kernel_rfl)]; rfl
theorem abs_eq {a : Nat} (h : a < 2 ^ 64) : (bits BinOp.andNot IntKind.u64 (a : Int) 9223372036854775808).toNat = a % 9223372036854775808 := by
  have := u64_andNot_nat a 9223372036854775808 (by omega) (by omega)
  rw [show ((9223372036854775808 : Nat) : Int) = 9223372036854775808 from rfl] at this
  rw [this]
  simp only [Int.toNat_natCast]
  exact Nat.and_two_pow_sub_one_eq_mod a 63
theorem wrap_u64 (n : Int) : IntKind.u64.wrap n = n % 18446744073709551616 := by
  have e : (2 : Int) ^ IntKind.u64.bits = 18446744073709551616 := by decide +kernel
  unfold IntKind.wrap
  rw [e]
  simp [IntKind.signed]
theorem worth_eq {a : Nat} (h : a < 2 ^ 64) : (IntKind.u64.wrap ((a : Int) * 2) / 2).toNat = a % 9223372036854775808 := by
  rw [wrap_u64]; omega
theorem abs_any {a : Nat} (h : a < 2 ^ 64) (w : World) :
    Calls Try.prog 42 #[.float .f64 a] w fun e w' => e = .returned (.float .f64 (a % 9223372036854775808)) ∧ w' = w := by
  have HE := abs_eq h
  go_enter Try.func42, Try.ntmps42
  go_wp2_with fail
  go_ret
  exact ⟨rfl, rfl⟩
theorem point_any (o d : Int) (w : World) :
    Calls Try.prog 17 #[.int .i64 o, .int .i64 d] w fun e w' => e = .returned (.complex .f64 (floatOfInt .f64 o) (floatOfInt .f64 d)) ∧ w' = w := by
  go_enter Try.func17, Try.ntmps17
  go_wp2_with fail
  go_ret
  exact ⟨rfl, rfl⟩
theorem same_any (a b c d : Nat) (w : World) :
    Calls Try.prog 20 #[.complex .f64 a b, .complex .f64 c d] w fun e w' => e = .returned (.bool (od a c == some .eq && od b d == some .eq)) ∧ w' = w := by
  go_enter Try.func20, Try.ntmps20
  go_wp2_with fail
  all_goals go_ret
  all_goals refine ⟨?_, rfl⟩
  all_goals unfold od
  all_goals rename_i hh
  all_goals (try rw [show Ieee.double.order a c = some .eq from hh])
  all_goals (try (have hh2 : ¬ Ieee.double.order a c = some .eq := hh; simp [hh2]))
  all_goals simp
  all_goals rfl
end Go.Proofs.Ytbkcoijcoacbaaa.Pl
