/- plane: what a float's operation gives; products, magnitudes, points, turns, what is the same. -/
import Derived.Test.YtnjieddkphappaaP1
import Derived.Below
import Derived.Deep.QuietTactic
import Derived.BigQuiet
import Derived.Deep.RegionHeld3
namespace Go.Proofs.Ytnjieddkphappaa
open Go.RowKit
instance (x y : Nat) : Decidable (al x y) := by unfold al; exact inferInstance
set_option maxRecDepth 100000
set_option linter.unusedVariables false
def qn : Nat := 9221120237041090561
theorem qn_isN : isN qn := by rw [isN_iff]; decide
/-- the result, of what is no number one for all -/
def fc (op : BinOp) (x y : Nat) : Nat := (fb op x y).getD qn
theorem fc_al {op : BinOp} {x y x' y' : Nat} (h : al x x') (g : al y y') : fc op x y = fc op x' y' := by unfold fc; rw [fb_al h g]
theorem fc_lt (op : BinOp) (x y : Nat) : fc op x y < 18446744073709551616 := by
  unfold fc
  cases e : fb op x y with
  | none => show qn < _; decide
  | some r => exact fb_lt e
theorem fv_lt (op : BinOp) (x y : Nat) (w : World) : fv op x y w < 18446744073709551616 := (fv_fr op x y w).1
theorem fv_alc (op : BinOp) (x y : Nat) (w : World) : al (fv op x y w) (fc op x y) := by
  have := (fv_fr op x y w).2
  unfold fc
  cases e : fb op x y with
  | none => rw [e] at this; exact .inr ⟨this, qn_isN⟩
  | some r => rw [e] at this; exact .inl this
theorem fv_al (op : BinOp) (x y : Nat) (w : World) : fv op x y w < 18446744073709551616 ∧ al (fv op x y w) (fc op x y) := ⟨fv_lt .., fv_alc ..⟩
theorem order_self {a : Ieee.Datum} : a.order a = some .eq ↔ ¬ a.isNaN = true := by
  cases a <;> simp [Ieee.Datum.order, Ieee.Datum.isNaN, Std.ReflCmp.compare_self]
theorem od_self_eq {a : Nat} : od a a = some .eq ↔ ¬ isN a := order_self
@[go_sem] theorem run_fadd {P : Program} (w : World) (t : TypeId) (x y : Nat) : (binOp .add t (.float .f64 x) (.float .f64 y)).run P w = .ok (.float .f64 (fv .add x y w)) (w.drewN (fk .add x y)) := run_fl w .add t x y (.inl rfl)
@[go_sem] theorem run_fsub {P : Program} (w : World) (t : TypeId) (x y : Nat) : (binOp .sub t (.float .f64 x) (.float .f64 y)).run P w = .ok (.float .f64 (fv .sub x y w)) (w.drewN (fk .sub x y)) := run_fl w .sub t x y (.inr (.inl rfl))
@[go_sem] theorem run_fmul {P : Program} (w : World) (t : TypeId) (x y : Nat) : (binOp .mul t (.float .f64 x) (.float .f64 y)).run P w = .ok (.float .f64 (fv .mul x y w)) (w.drewN (fk .mul x y)) := run_fl w .mul t x y (.inr (.inr (.inl rfl)))
@[go_sem] theorem run_fquo {P : Program} (w : World) (t : TypeId) (x y : Nat) : (binOp .quo t (.float .f64 x) (.float .f64 y)).run P w = .ok (.float .f64 (fv .quo x y w)) (w.drewN (fk .quo x y)) := run_fl w .quo t x y (.inr (.inr (.inr rfl)))
@[go_sem] theorem run_bits (b : Nat) (w : World) : (callFunc 32 #[.float .f64 b]).run Try.prog w = .ok (.value (.int .u64 b)) w := by
  rw [run_callFunc_extern Try.func32 (e := Extern.MathFloatBits.float64bits) (by kernel_rfl) (by kernel_rfl) (by kernel_rfl) (by kernel_rfl)]; rfl
@[go_sem] theorem run_frombits (n : Int) (w : World) : (callFunc 9 #[.int .u64 n]).run Try.prog w = .ok (.value (.float .f64 n.toNat)) w := by
  rw [run_callFunc_extern Try.func9 (e := Extern.MathFloatBits.float64frombits) (by kernel_rfl) (by kernel_rfl) (by kernel_rfl) (by kernel_rfl)]; rfl
@[go_sem] theorem run_fneg {P : Program} (w : World) (y : Nat) : (Op.unary .neg (.float .f64 y)).run P w = .ok (.float .f64 (Op.negFloat .f64 y)) w := rfl
theorem product_any (a b : Nat) (w : World) :
    Calls Try.prog 31 #[.float .f64 a, .float .f64 b] w fun e w' => (∃ r, e = .returned (.float .f64 r) ∧ r < 18446744073709551616 ∧ al r (fc .mul a b)) ∧ ∃ k, w' = w.drewN k := by
  go_enter Try.func31, Try.ntmps31
  go_wp2_with fail
  go_ret
  exact ⟨⟨_, rfl, fv_al ..⟩, _, rfl⟩
theorem abs_eq {a : Nat} (h : a < 2 ^ 64) : (bits BinOp.andNot IntKind.u64 (a : Int) 9223372036854775808).toNat = a % 9223372036854775808 := by
  have := u64_andNot_nat a 9223372036854775808 (by omega) (by omega)
  rw [show ((9223372036854775808 : Nat) : Int) = 9223372036854775808 from rfl] at this
  rw [this]
  simp only [Int.toNat_natCast]
  exact Nat.and_two_pow_sub_one_eq_mod a 63
theorem wrap_u64 (n : Int) : IntKind.u64.wrap n = n % 18446744073709551616 := by
  have e : (2 : Int) ^ IntKind.u64.bits = 18446744073709551616 := by decide +kernel
  unfold IntKind.wrap
  rw [e]
  simp [IntKind.signed]
theorem worth_eq {a : Nat} (h : a < 2 ^ 64) : (IntKind.u64.wrap ((a : Int) * 2) / 2).toNat = a % 9223372036854775808 := by
  rw [wrap_u64]; omega
theorem abs_any {a : Nat} (h : a < 2 ^ 64) (w : World) :
    Calls Try.prog 33 #[.float .f64 a] w fun e w' => e = .returned (.float .f64 (a % 9223372036854775808)) ∧ w' = w := by
  have HE := abs_eq h
  go_enter Try.func33, Try.ntmps33
  go_wp2_with fail
  go_ret
  exact ⟨rfl, rfl⟩
theorem worth_any {a : Nat} (h : a < 2 ^ 64) (w : World) :
    Calls Try.prog 34 #[.float .f64 a] w fun e w' => e = .returned (.float .f64 (a % 9223372036854775808)) ∧ w' = w := by
  have HE := worth_eq h
  go_enter Try.func34, Try.ntmps34
  go_wp2_with fail
  go_ret
  exact ⟨rfl, rfl⟩
theorem point_any (o d : Int) (w : World) :
    Calls Try.prog 10 #[.int .i64 o, .int .i64 d] w fun e w' => e = .returned (.complex .f64 (floatOfInt .f64 o) (floatOfInt .f64 d)) ∧ w' = w := by
  go_enter Try.func10, Try.ntmps10
  go_wp2_with fail
  go_ret
  exact ⟨rfl, rfl⟩
theorem turn_any (x y : Nat) (w : World) :
    Calls Try.prog 11 #[.complex .f64 x y] w fun e w' => e = .returned (.complex .f64 (Op.negFloat .f64 y) x) ∧ w' = w := by
  go_enter Try.func11, Try.ntmps11
  go_wp2_with fail
  go_ret
  exact ⟨rfl, rfl⟩
theorem same_any (a b c d : Nat) (w : World) :
    Calls Try.prog 18 #[.complex .f64 a b, .complex .f64 c d] w fun e w' => e = .returned (.bool (od a c == some .eq && od b d == some .eq)) ∧ w' = w := by
  go_enter Try.func18, Try.ntmps18
  go_wp2_with fail
  all_goals go_ret
  all_goals refine ⟨?_, rfl⟩
  all_goals unfold od
  all_goals rename_i hh
  all_goals (try rw [show Ieee.double.order a c = some .eq from hh])
  all_goals (try (have hh2 : ¬ Ieee.double.order a c = some .eq := hh; simp [hh2]))
  all_goals simp
  all_goals rfl
theorem like_any (a b : Nat) (w : World) :
    Calls Try.prog 14 #[.float .f64 a, .float .f64 b] w fun e w' => e = .returned (.bool (decide (al a b))) ∧ w' = w := by
  go_enter Try.func14, Try.ntmps14
  go_wp2_with fail
  all_goals go_ret
  all_goals refine ⟨?_, rfl⟩
  · rename_i h
    have h' : a = b := by omega
    rw [decide_eq_true (show al a b from .inl h')]; rfl
  · rename_i h g
    have h' : ¬ a = b := by omega
    rw [decide_eq_false]
    · show Ending.returned (.bool ((a : Int) == (b : Int))) = _
      rw [beq_eq_false_iff_ne.2 (by omega)]
    · rintro (rfl | ⟨x, _⟩)
      · exact h' rfl
      · exact (od_self_eq.1 g) x
  · rename_i h g
    have h' : ¬ a = b := by omega
    have ga : isN a := by
      refine Classical.byContradiction fun x => g (od_self_eq.2 x)
    show Ending.returned (.bool (((a : Int) == (b : Int)) || (od a a != some .eq) && (od b b != some .eq))) = _
    congr 2
    rw [Bool.eq_iff_iff]
    simp [h', od_self_eq, ga, al]
    intro q; exact absurd (show a = b by omega) h'
theorem bits_any (x y : Nat) (w : World) :
    Calls Try.prog 13 #[.complex .f64 x y] w fun e w' => e = .returned (.tuple #[.int .u64 x, .int .u64 y]) ∧ w' = w := by
  go_enter Try.func13, Try.ntmps13
  go_wp2_with fail
  go_ret2
  exact ⟨rfl, rfl⟩
theorem near_any (n : Int) (w : World) :
    Calls Try.prog 28 #[.int .i64 n] w fun e w' => e = .returned (.int .i64 (n.tmod 1099511627776)) ∧ w' = w := by
  go_enter Try.func28, Try.ntmps28
  go_wp2_with fail
  go_ret
  exact ⟨rfl, rfl⟩
end Go.Proofs.Ytnjieddkphappaa
