/- Plain arithmetic: digits moved up and down. No program. -/
import Derived.Test.YtddpgckbdccldaaMath
namespace Go.Proofs.Ytddpgckbdccldaa
set_option linter.unusedSimpArgs false
set_option linter.unusedVariables false

theorem pow_split {p : Nat} (hp : p ≤ 64) : 18446744073709551616 = 2 ^ p * 2 ^ (64 - p) := by
  rw [← Nat.pow_add, show p + (64 - p) = 64 by omega]
theorem or_add {p y : Nat} (z : Nat) (hy : y < 2 ^ p) : y ||| (2 ^ p * z) = y + 2 ^ p * z := by
  rw [Nat.or_comm, ← Nat.two_pow_add_eq_or_of_lt hy z, Nat.add_comm]
theorem shl_mod {p : Nat} (x : Nat) (hp : p ≤ 64) : x * 2 ^ p % 18446744073709551616 = 2 ^ p * (x % 2 ^ (64 - p)) := by
  rw [pow_split hp, Nat.mul_comm x, Nat.mul_mod_mul_left]
theorem shl_div {p : Nat} (x : Nat) (hp : p ≤ 64) : x * 2 ^ p / 18446744073709551616 = x / 2 ^ (64 - p) := by
  rw [pow_split hp, Nat.mul_comm x, Nat.mul_div_mul_left _ _ (Nat.two_pow_pos p)]
theorem up_or {p t : Nat} (x : Nat) (hp : p ≤ 64) (ht : t < 2 ^ p) : t ||| (x * 2 ^ p % 18446744073709551616) = t + x * 2 ^ p % 18446744073709551616 := by
  rw [shl_mod x hp]; exact or_add _ ht
theorem up_sum {p : Nat} (t x : Nat) (hp : p ≤ 64) : (t + x * 2 ^ p % 18446744073709551616) + x / 2 ^ (64 - p) * 18446744073709551616 = t + x * 2 ^ p := by
  rw [← shl_div x hp]
  have := Nat.mod_add_div (x * 2 ^ p) 18446744073709551616
  rw [Nat.mul_comm] at this
  omega
theorem up_top {p x : Nat} (hp : p ≤ 64) (hx : x < 18446744073709551616) : x / 2 ^ (64 - p) < 2 ^ p := by
  rw [Nat.div_lt_iff_lt_mul (Nat.two_pow_pos _), ← pow_split hp]; exact hx
theorem up_lt {p t : Nat} (x : Nat) (hp : p ≤ 64) (ht : t < 2 ^ p) : t + x * 2 ^ p % 18446744073709551616 < 18446744073709551616 := by
  rw [shl_mod x hp]
  have h1 : x % 2 ^ (64 - p) + 1 ≤ 2 ^ (64 - p) := Nat.mod_lt _ (Nat.two_pow_pos _)
  have h2 : 2 ^ p * (x % 2 ^ (64 - p) + 1) ≤ 2 ^ p * 2 ^ (64 - p) := Nat.mul_le_mul_left _ h1
  rw [← pow_split hp, Nat.mul_add] at h2
  omega
theorem down_lt {p x : Nat} (hp : p ≤ 64) (hx : x < 18446744073709551616) : x / 2 ^ p < 2 ^ (64 - p) := by
  rw [Nat.div_lt_iff_lt_mul (Nat.two_pow_pos _), Nat.mul_comm, ← pow_split hp]; exact hx
theorem down_mod {p : Nat} (y : Nat) (hp : p ≤ 64) : y * 2 ^ (64 - p) % 18446744073709551616 = 2 ^ (64 - p) * (y % 2 ^ p) := by
  have := shl_mod (p := 64 - p) y (by omega)
  rwa [show 64 - (64 - p) = p by omega] at this
theorem down_or {p x : Nat} (y : Nat) (hp : p ≤ 64) (hx : x < 18446744073709551616) : x / 2 ^ p ||| (y * 2 ^ (64 - p) % 18446744073709551616) = x / 2 ^ p + 2 ^ (64 - p) * (y % 2 ^ p) := by
  rw [down_mod y hp]; exact or_add _ (down_lt hp hx)
theorem down_digit_lt {p x : Nat} (y : Nat) (hp : p ≤ 64) (hx : x < 18446744073709551616) : x / 2 ^ p + 2 ^ (64 - p) * (y % 2 ^ p) < 18446744073709551616 := by
  have h1 : y % 2 ^ p + 1 ≤ 2 ^ p := Nat.mod_lt _ (Nat.two_pow_pos _)
  have h2 : 2 ^ (64 - p) * (y % 2 ^ p + 1) ≤ 2 ^ (64 - p) * 2 ^ p := Nat.mul_le_mul_left _ h1
  rw [Nat.mul_comm _ (2 ^ p), ← pow_split hp, Nat.mul_add] at h2
  have h3 := down_lt hp hx
  omega
/-- one digit moved down -/
theorem down_sum {p x : Nat} (y : Nat) (hp : p ≤ 64) : (x / 2 ^ p + 2 ^ (64 - p) * (y % 2 ^ p)) * 2 ^ p + x % 2 ^ p = x + 18446744073709551616 * (y % 2 ^ p) := by
  have h1 := Nat.mod_add_div x (2 ^ p)
  rw [Nat.add_mul, Nat.mul_comm (x / 2 ^ p), Nat.mul_right_comm, Nat.mul_comm (2 ^ (64 - p)) (2 ^ p), ← pow_split hp]
  omega

/-- a step of shiftUp: L and t ahead, x comes -/
theorem up_step (β Pq vL t d t' v x k : Nat) (hv : vL + Pq * t = v) (hs : d + t' * β = t + x * k) : vL + Pq * d + Pq * β * t' = v + Pq * (x * k) := by
  have e : Pq * (d + t' * β) = Pq * (t + x * k) := by rw [hs]
  simp only [Nat.mul_add] at e
  have e1 : Pq * (t' * β) = Pq * β * t' := by ac_rfl
  omega
theorem down_step (β P vd d k a0 vY x r r' : Nat) (hv : vd * k + a0 = vY + P * r) (hs : d * k + r = x + β * r') : (vd + P * d) * k + a0 = vY + P * x + P * β * r' := by
  have e : P * (d * k + r) = P * (x + β * r') := by rw [hs]
  simp only [Nat.mul_add, Nat.add_mul] at e ⊢
  have e1 : P * (β * r') = P * β * r' := by ac_rfl
  have e2 : P * (d * k) = P * d * k := by ac_rfl
  omega
theorem val_zeros (β : Nat) (xs : List Nat) (n : Nat) : val β (xs ++ List.replicate n 0) = val β xs := by rw [val_append, val_replicate]; simp
theorem val_take_drop (β : Nat) (xs : List Nat) (k : Nat) (hk : k ≤ xs.length) : val β xs = val β (xs.take k) + β ^ k * val β (xs.drop k) := by
  have := val_append β (xs.take k) (xs.drop k)
  rw [List.take_append_drop, List.length_take, Nat.min_eq_left hk] at this
  exact this
theorem val_div_pow {β : Nat} {xs : List Nat} (h : Lim β xs) (hβ : 0 < β) (k : Nat) (hk : k ≤ xs.length) : val β xs / β ^ k = val β (xs.drop k) := by
  have h1 := val_take_drop β xs k hk
  have h2 := val_lt (h.take k)
  rw [List.length_take, Nat.min_eq_left hk] at h2
  rw [h1, Nat.add_mul_div_left _ _ (Nat.pow_pos hβ), Nat.div_eq_of_lt h2, Nat.zero_add]
theorem two_pow_limb (q p : Nat) : 2 ^ (64 * q + p) = 2 ^ p * 18446744073709551616 ^ q := by
  rw [Nat.pow_add, Nat.pow_mul, Nat.mul_comm]
theorem length_of_val {β : Nat} (hβ : 1 < β) {xs : List Nat} (ht : Trm xs) {k : Nat} (hv : val β xs < β ^ k) : xs.length ≤ k := by
  rcases Nat.lt_or_ge k xs.length with hlt | hge
  · exfalso
    have hne : xs ≠ [] := by intro e; subst e; simp at hlt
    have e := (List.dropLast_concat_getLast hne).symm
    have hx := ht _ _ e
    have h1 := val_snoc β xs.dropLast (xs.getLast hne)
    rw [← e, List.length_dropLast] at h1
    have h2 : β ^ k ≤ β ^ (xs.length - 1) := Nat.pow_le_pow_right (by omega) (by omega)
    have h3 : β ^ (xs.length - 1) * 1 ≤ β ^ (xs.length - 1) * xs.getLast hne := Nat.mul_le_mul_left _ (by omega)
    omega
  · exact hge
theorem val_ge {β : Nat} {xs : List Nat} (ht : Trm xs) (hne : 0 < xs.length) : β ^ (xs.length - 1) ≤ val β xs := by
  have hne' : xs ≠ [] := by intro e; subst e; simp at hne
  have e := (List.dropLast_concat_getLast hne').symm
  have hx := ht _ _ e
  have h1 := val_snoc β xs.dropLast (xs.getLast hne')
  rw [← e, List.length_dropLast] at h1
  have h3 : β ^ (xs.length - 1) * 1 ≤ β ^ (xs.length - 1) * xs.getLast hne' := Nat.mul_le_mul_left _ (by omega)
  omega
end Go.Proofs.Ytddpgckbdccldaa
