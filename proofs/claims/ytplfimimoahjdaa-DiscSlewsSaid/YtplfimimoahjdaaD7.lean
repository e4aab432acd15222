/- disc: a number without its sign; calls with their results at hand. -/
import Derived.Test.YtplfimimoahjdaaD6
namespace Go.Proofs.Ytplfimimoahjdaa
open Go.RowKit
set_option linter.unusedVariables false
set_option linter.unusedSimpArgs false
set_option maxRecDepth 100000
def wo (x : Int) : Int := if 0 ≤ x then x else if x = -9223372036854775808 then 9223372036854775807 else -x
theorem worth_any {x : Int} (h : in64 x) (w : World) : Calls Try.prog 13 #[.int .i64 x] w fun e w' => e = .returned (.int .i64 (wo x)) ∧ w' = w := by
  have HW := Lib.hid (show wo x = if 0 ≤ x then x else if x = -9223372036854775808 then 9223372036854775807 else -x from rfl)
  unfold in64 at h
  by_cases h0 : 0 ≤ x
  · rw [show wo x = x from if_pos h0]
    go_enter Try.func13, Try.ntmps13
    go_wp2_with fail
    go_ret
    exact ⟨rfl, rfl⟩
  · have h0' : (0 ≤ x) = False := by simp only [h0]
    by_cases h1 : x = -9223372036854775808
    · subst h1
      rw [show wo (-9223372036854775808) = 9223372036854775807 by decide]
      go_enter Try.func13, Try.ntmps13
      go_wp2_with fail
      go_ret
      exact ⟨rfl, rfl⟩
    · have h1' : (x = -9223372036854775808) = False := by simp only [h1]
      rw [show wo x = -x by unfold wo; rw [if_neg h0, if_neg h1]]
      go_enter Try.func13, Try.ntmps13
      go_wp2_with fail
      go_ret
      exact ⟨rfl, rfl⟩
theorem alive_then {w0 w : World} {B : Nat} (h : RowKit.Below B w0 w) (hB : B ≤ w0.heap.size) : Calls Try.prog 11 #[] w fun e w' => e = .returned (.bool true) ∧ RowKit.Below B w0 w' := by
  refine (alive_any w).mono ?_
  rintro e w' ⟨rfl, b⟩
  exact ⟨rfl, bthen h b hB⟩
theorem slew_no' {c : Ck} {n : Int} (h : ¬ c.slewOk n) (w : World) :
    Calls Try.prog 9 #[.agg #[.int .i64 c.f, .int .i64 c.l, .int .i64 c.a, .int .i64 c.p, .bool c.s], .int .i64 n] w fun e w' => e = .returned (.tuple #[.agg #[.int .i64 0, .int .i64 0, .int .i64 0, .int .i64 0, .bool false], .int .i64 0, .int .i64 1]) ∧ RowKit.Below w.heap.size w w' := slew_no h w
theorem slew_yes' {c : Ck} {n : Int} (h : c.slewOk n) (w : World) :
    Calls Try.prog 9 #[.agg #[.int .i64 c.f, .int .i64 c.l, .int .i64 c.a, .int .i64 c.p, .bool c.s], .int .i64 n] w fun e w' => e = .returned (.tuple #[.agg #[.int .i64 c.f, .int .i64 (slL n.toNat c.l), .int .i64 c.a, .int .i64 c.p, .bool c.s], .int .i64 (c.l - slL n.toNat c.l + n * c.f), .int .i64 0]) ∧ RowKit.Below w.heap.size w w' := slew_yes h w
theorem upd_any' {c d : Ck} {o t x y E : Int} (h : c.upd o t = (d, x, y, E)) (w : World) :
    Calls Try.prog 12 #[.agg #[.int .i64 c.f, .int .i64 c.l, .int .i64 c.a, .int .i64 c.p, .bool c.s], .int .i64 o, .int .i64 t] w fun e w' => e = .returned (.tuple #[.agg #[.int .i64 d.f, .int .i64 d.l, .int .i64 d.a, .int .i64 d.p, .bool d.s], .agg #[.int .i64 x, .int .i64 y], .int .i64 E]) ∧ RowKit.Below w.heap.size w w' := by
  have := upd_any c o t w
  rw [h] at this
  exact this
theorem Box.drewN {w : World} {g : Nat} {c : Ck} (h : Box w g c) (n : Nat) : Box (w.drewN n) g c := h
theorem Tb.drewN {w : World} {g : Nat} {x y : Int} (h : Tb w g x y) (n : Nat) : Tb (w.drewN n) g x y := h
theorem below_drewN {w0 w : World} {B : Nat} (h : RowKit.Below B w0 w) (n : Nat) : RowKit.Below B w0 (w.drewN n) := ⟨h.os, h.tape, h.output, h.size, h.block⟩
theorem one_new {w w1 : World} {c : Ck} (hw1 : w1 = w.alloc (.cells #[.int .i64 c.f, .int .i64 c.l, .int .i64 c.a, .int .i64 c.p, .bool c.s] 23)) : RowKit.Below w.heap.size w w1 ∧ Box w1 w.heap.size c ∧ w1.heap.size = w.heap.size + 1 := one_res hw1
end Go.Proofs.Ytplfimimoahjdaa
