/- Plain arithmetic: bytes and limbs. No program. -/
import Derived.Test.YtddpgckbdccldaaMathD
namespace Go.Proofs.Ytddpgckbdccldaa
set_option linter.unusedSimpArgs false
set_option linter.unusedVariables false

theorem val_set (β : Nat) : ∀ (xs : List Nat) (k y : Nat), k < xs.length → val β (xs.set k y) + β ^ k * xs.getD k 0 = val β xs + β ^ k * y
  | x :: xs, 0, y, _ => by simp [val]; omega
  | x :: xs, k + 1, y, h => by
    have ih := val_set β xs k y (by simpa using h)
    simp only [List.set_cons_succ, val, List.getD_cons_succ]
    have e := congrArg (fun t => β * t) ih
    simp only [Nat.mul_add] at e
    have e1 : β * (β ^ k * xs.getD k 0) = β ^ (k + 1) * xs.getD k 0 := by rw [Nat.pow_succ]; ac_rfl
    have e2 : β * (β ^ k * y) = β ^ (k + 1) * y := by rw [Nat.pow_succ]; ac_rfl
    omega
theorem limb_of {β : Nat} (hβ : 1 < β) {xs : List Nat} (hL : Lim β xs) (k : Nat) : xs.getD k 0 = val β xs / β ^ k % β := by
  by_cases hk : k < xs.length
  · rw [val_div_pow hL (by omega) k (by omega), List.drop_eq_getElem_cons hk]
    simp only [val]
    rw [Nat.add_mul_mod_self_left, Nat.mod_eq_of_lt (hL _ (List.getElem_mem hk))]
    simp [List.getD, List.getElem?_eq_getElem hk]
  · have h1 := val_lt hL
    have h2 : β ^ xs.length ≤ β ^ k := Nat.pow_le_pow_right (by omega) (by omega)
    rw [Nat.div_eq_of_lt (by omega)]
    simp [List.getD, List.getElem?_eq_none (show xs.length ≤ k by omega)]
theorem pow_256 (i : Nat) : 256 ^ i = 18446744073709551616 ^ (i / 8) * 2 ^ (i % 8 * 8) := by
  rw [show (256 : Nat) = 2 ^ 8 from rfl, show (18446744073709551616 : Nat) = 2 ^ 64 from rfl, ← Nat.pow_mul, ← Nat.pow_mul, ← Nat.pow_add]
  congr 1; omega
/-- the limb into which the next byte goes is below its place -/
theorem limb_room {xs : List Nat} {i : Nat} (hL : Lim 18446744073709551616 xs) (hv : val 18446744073709551616 xs < 256 ^ i) : xs.getD (i / 8) 0 < 2 ^ (i % 8 * 8) := by
  rw [limb_of (by omega) hL]
  rw [pow_256] at hv
  have h1 : val 18446744073709551616 xs / 18446744073709551616 ^ (i / 8) < 2 ^ (i % 8 * 8) := by
    rw [Nat.div_lt_iff_lt_mul (Nat.pow_pos (by omega)), Nat.mul_comm]; exact hv
  exact Nat.lt_of_le_of_lt (Nat.mod_le _ _) h1
/-- one byte more -/
theorem byte_in {xs : List Nat} {i d v : Nat} (hL : Lim 18446744073709551616 xs) (hi : i / 8 < xs.length) (hv : val 18446744073709551616 xs = v) (hlt : v < 256 ^ i) (hd : d < 256) :
    xs.getD (i / 8) 0 ||| (d * 2 ^ (i % 8 * 8) % 18446744073709551616) = xs.getD (i / 8) 0 + d * 2 ^ (i % 8 * 8) ∧ xs.getD (i / 8) 0 + d * 2 ^ (i % 8 * 8) < 18446744073709551616 ∧
    val 18446744073709551616 (xs.set (i / 8) (xs.getD (i / 8) 0 + d * 2 ^ (i % 8 * 8))) = v + 256 ^ i * d := by
  have hr := limb_room hL (show val 18446744073709551616 xs < 256 ^ i by omega)
  have hp : i % 8 * 8 ≤ 56 := by omega
  have hs : (d + 1) * 2 ^ (i % 8 * 8) ≤ 18446744073709551616 := by
    have h1 : (d + 1) * 2 ^ (i % 8 * 8) ≤ 256 * 2 ^ 56 := Nat.mul_le_mul (by omega) (Nat.pow_le_pow_right (by omega) hp)
    exact h1
  rw [Nat.add_mul] at hs
  have hlt2 : xs.getD (i / 8) 0 + d * 2 ^ (i % 8 * 8) < 18446744073709551616 := by omega
  refine ⟨?_, hlt2, ?_⟩
  · rw [Nat.mod_eq_of_lt (by omega), Nat.mul_comm d]
    exact or_add d hr
  · have := val_set 18446744073709551616 xs (i / 8) (xs.getD (i / 8) 0 + d * 2 ^ (i % 8 * 8)) hi
    rw [Nat.mul_add, hv] at this
    have e : 18446744073709551616 ^ (i / 8) * (d * 2 ^ (i % 8 * 8)) = 256 ^ i * d := by rw [pow_256 i]; ac_rfl
    omega
end Go.Proofs.Ytddpgckbdccldaa
