/- Plain arithmetic: a quotient of two digits by one, half a digit at a time; a guessed digit. No program. -/
import Derived.Test.YtddpgckbdccldaaMathB
namespace Go.Proofs.Ytddpgckbdccldaa
set_option linter.unusedSimpArgs false
set_option linter.unusedVariables false

theorem half_true {hi q r y1 y0 u b : Nat} (h : hi = q * y1 + r) (hh : hi < y1 * b + y0) (hu : u < b) (hc : b ≤ q ∨ b * r + u < q * y0) : hi * b + u < q * (y1 * b + y0) := by
  rcases hc with hc | hc
  · have h1 : (hi + 1) * b ≤ (y1 * b + y0) * b := Nat.mul_le_mul_right _ hh
    have h2 : (y1 * b + y0) * b ≤ (y1 * b + y0) * q := Nat.mul_le_mul_left _ hc
    rw [Nat.add_mul] at h1
    rw [Nat.mul_comm q]
    omega
  · have e1 : hi * b = q * (y1 * b) + b * r := by rw [h, Nat.add_mul, Nat.mul_assoc, Nat.mul_comm r]
    rw [e1, Nat.mul_add]
    omega
theorem half_false {hi q r y1 y0 u b : Nat} (h : hi = q * y1 + r) (hc : q * y0 ≤ b * r + u) : q * (y1 * b + y0) ≤ hi * b + u := by
  have e1 : hi * b = q * (y1 * b) + b * r := by rw [h, Nat.add_mul, Nat.mul_assoc, Nat.mul_comm r]
  rw [e1, Nat.mul_add]
  omega
theorem half_break {hi q r y1 y0 u b : Nat} (h : hi = (q + 1) * y1 + r) (hr : b ≤ r + y1) (hq : q ≤ b) (hy0 : y0 < b) : q * (y1 * b + y0) ≤ hi * b + u := by
  refine half_false (r := r + y1) (by rw [h, Nat.add_mul]; omega) ?_
  have h1 : q * y0 ≤ b * b := Nat.mul_le_mul hq (Nat.le_of_lt hy0)
  have h2 : b * b ≤ b * (r + y1) := Nat.mul_le_mul_left _ hr
  omega
theorem half_start {hi y1 y0 u b : Nat} (hy : 0 < y1) (hu : u < b) : hi * b + u < (hi / y1 + 1) * (y1 * b + y0) := by
  have h1 : hi + 1 ≤ (hi / y1 + 1) * y1 := by
    have := Nat.lt_mul_div_succ hi hy
    rw [Nat.mul_comm] at this
    exact this
  have h2 := Nat.mul_le_mul_right b h1
  rw [Nat.add_mul] at h2
  rw [Nat.mul_add, ← Nat.mul_assoc]
  omega
theorem half_most {hi y1 y0 b : Nat} (hh : hi < y1 * b + y0) (hy0 : y0 < b) (hy : b ≤ 2 * y1) : hi / y1 ≤ b + 1 := by
  have hp : 0 < y1 := by omega
  rw [← Nat.lt_succ_iff, Nat.div_lt_iff_lt_mul hp]
  have : (b + 1).succ * y1 = y1 * b + 2 * y1 := by rw [Nat.succ_eq_add_one, Nat.add_mul, Nat.add_mul, Nat.mul_comm]; omega
  rw [this]
  omega
theorem half_done {hi q y u b : Nat} (h1 : q * y ≤ hi * b + u) (h2 : hi * b + u < (q + 1) * y) (hh : hi < y) (hu : u < b) : q < b ∧ ∃ s, hi * b + u = q * y + s ∧ s < y := by
  refine ⟨?_, hi * b + u - q * y, by omega, ?_⟩
  · have e : (hi + 1) * b ≤ y * b := Nat.mul_le_mul_right _ hh
    rw [Nat.add_mul] at e
    have : q * y < b * y := by rw [Nat.mul_comm b]; omega
    exact Nat.lt_of_mul_lt_mul_right this
  · rw [Nat.add_mul] at h2; omega
theorem half_all {hi q1 q0 y u1 u0 b s : Nat} (h1 : hi * b + u1 = q1 * y + s) (h2 : s * b + u0 < (q0 + 1) * y) : (hi * b + u1) * b + u0 < (q1 * b + q0 + 1) * y := by
  rw [h1, Nat.add_mul, show q1 * b + q0 + 1 = q1 * b + (q0 + 1) by omega, Nat.add_mul (q1 * b)]
  have : q1 * y * b = q1 * b * y := by ac_rfl
  omega
theorem half_pos {q r y0 u b : Nat} (hb : 0 < b) (hc : b ≤ q ∨ b * r + u < q * y0) : 1 ≤ q := by
  rcases Nat.eq_zero_or_pos q with h | h
  · subst h; rcases hc with hc | hc
    · omega
    · simp at hc
  · exact h

/-- the wraps of the remainder: it fits -/
theorem wrap_rest {hi q y u s : Nat} (h : hi * 4294967296 + u = q * y + s) (hs : s < 18446744073709551616) :
    (((hi * 4294967296 % 18446744073709551616 + u) % 18446744073709551616 : Nat) : Int) - ((q * y % 18446744073709551616 : Nat) : Int) = (s : Int) ∨
    (((hi * 4294967296 % 18446744073709551616 + u) % 18446744073709551616 : Nat) : Int) - ((q * y % 18446744073709551616 : Nat) : Int) = (s : Int) - 18446744073709551616 := by
  generalize q * y = p at *
  omega

/-- a digit that the highest limbs guess is not too small -/
theorem guess_max {U V β : Nat} (h : U < V * β) (hβ : 0 < β) : U < (β - 1 + 1) * V := by
  rw [Nat.sub_add_cancel hβ, Nat.mul_comm]; exact h
theorem guess_ok {U V u2 u1 v q P lowU lowV β : Nat} (hU : U = (u2 * β + u1) * P + lowU) (hl : lowU < P) (hV : V = v * P + lowV) (h : u2 * β + u1 < (q + 1) * v) : U < (q + 1) * V := by
  have h1 : (u2 * β + u1 + 1) * P ≤ (q + 1) * v * P := Nat.mul_le_mul_right _ h
  rw [Nat.add_mul] at h1
  rw [hU, hV, Nat.mul_add, ← Nat.mul_assoc]
  omega
end Go.Proofs.Ytddpgckbdccldaa
