/- Plain arithmetic: a long division, a digit a round. No program. -/
import Derived.Test.YtddpgckbdccldaaMathC
namespace Go.Proofs.Ytddpgckbdccldaa
set_option linter.unusedSimpArgs false
set_option linter.unusedVariables false

theorem val_take_le (β : Nat) (xs : List Nat) (k : Nat) : val β (xs.take k) ≤ val β xs := by
  by_cases hk : k ≤ xs.length
  · rw [val_take_drop β xs k hk]; omega
  · rw [List.take_of_length_le (by omega)]; exact Nat.le_refl _
theorem val_drop_succ (β : Nat) (xs : List Nat) (t : Nat) (ht : t < xs.length) : val β (xs.drop t) = xs.getD t 0 + β * val β (xs.drop (t + 1)) := by
  rw [List.drop_eq_getElem_cons ht]
  simp [val, List.getD, List.getElem?_eq_getElem ht]

/-- what holds when t digits of the quotient are still to come -/
def DivInv (β U0 V t : Nat) (cur qs : List Nat) : Prop := U0 = val β cur + V * β ^ t * val β (qs.drop t) ∧ val β (cur.drop t) < V

theorem DivInv.room {β U0 V t n : Nat} {cur qs : List Nat} (h : DivInv β U0 V (t + 1) cur qs) (hl : t < cur.length) (hL : Lim β cur) (hβ : 0 < β) : val β ((cur.drop t).take n) < V * β := by
  refine Nat.lt_of_le_of_lt (val_take_le _ _ _) ?_
  rw [val_drop_succ β cur t hl]
  have h1 := hL.get hβ t
  have h2 : β * (val β (cur.drop (t + 1)) + 1) ≤ β * V := Nat.mul_le_mul_left _ h.2
  rw [Nat.mul_add] at h2
  rw [Nat.mul_comm V]
  omega
theorem DivInv.step {β U0 V t k q : Nat} {cur qs U' : List Nat} (h : DivInv β U0 V (t + 1) cur qs) (hl : t + k + 2 ≤ cur.length) (hq : t < qs.length) (hV : V < β ^ (k + 1)) (hU'l : U'.length = k + 2)
    (h1 : val β U' + q * V = val β ((cur.drop t).take (k + 2))) (h2 : val β U' < V) :
    DivInv β U0 V t (cur.take t ++ U' ++ cur.drop (t + k + 2)) (qs.set t q) := by
  obtain ⟨a, b⟩ := h
  -- what stands above the part is nought
  have hp : val β (cur.drop (t + k + 2)) = 0 := by
    have e := val_take_drop β (cur.drop (t + 1)) (k + 1) (by rw [List.length_drop]; omega)
    rw [List.drop_drop, show t + 1 + (k + 1) = t + k + 2 by omega] at e
    rcases Nat.eq_zero_or_pos (val β (cur.drop (t + k + 2))) with h0 | h0
    · exact h0
    · have : β ^ (k + 1) * 1 ≤ β ^ (k + 1) * val β (cur.drop (t + k + 2)) := Nat.mul_le_mul_left _ h0
      omega
  have hlt : (cur.take t).length = t := by rw [List.length_take]; omega
  have ec : val β cur = val β (cur.take t) + β ^ t * (val β ((cur.drop t).take (k + 2)) + β ^ (k + 2) * val β (cur.drop (t + k + 2))) := by
    rw [val_take_drop β cur t (by omega), val_take_drop β (cur.drop t) (k + 2) (by rw [List.length_drop]; omega), List.drop_drop, show t + (k + 2) = t + k + 2 by omega]
  constructor
  · have eq : val β ((qs.set t q).drop t) = q + β * val β (qs.drop (t + 1)) := by
      rw [val_drop_succ β _ t (by simpa using hq), List.drop_set]
      have : t + 1 > t := by omega
      simp [List.getD, hq]
    have g1 : val β (cur.take t ++ U' ++ cur.drop (t + k + 2)) = val β (cur.take t) + β ^ t * val β U' := by
      rw [List.append_assoc, val_append, val_append, hlt, hU'l, hp, Nat.mul_zero, Nat.add_zero]
    have g2 : val β cur = val β (cur.take t) + (β ^ t * val β U' + β ^ t * (q * V)) := by
      rw [ec, hp, Nat.mul_zero, Nat.add_zero, ← h1, Nat.mul_add]
    have e1 : β ^ t * (q * V) = V * β ^ t * q := by ac_rfl
    have e2 : V * (β ^ t * β) * val β (qs.drop (t + 1)) = V * β ^ t * (β * val β (qs.drop (t + 1))) := by ac_rfl
    rw [eq, g1, a, g2, e1, Nat.pow_succ, e2, Nat.mul_add]
    omega
  · rw [List.append_assoc, List.drop_append_of_le_length (by omega), List.drop_of_length_le (by omega), List.nil_append, val_append, hp, Nat.mul_zero, Nat.add_zero]
    exact h2
theorem DivInv.done {β a b p V : Nat} {cur qs : List Nat} (h : DivInv β (a * 2 ^ p) V 0 cur qs) (hV : V = b * 2 ^ p) : val β qs = a / b ∧ val β cur = a % b * 2 ^ p := by
  obtain ⟨h1, h2⟩ := h
  simp only [List.drop_zero, Nat.pow_zero, Nat.mul_one] at h1 h2
  have hp := Nat.two_pow_pos p
  have e1 : a * 2 ^ p / V = a / b := by rw [hV, Nat.mul_div_mul_right _ _ hp]
  have e2 : a * 2 ^ p % V = a % b * 2 ^ p := by rw [hV, Nat.mul_mod_mul_right]
  constructor
  · rw [← e1, h1, Nat.add_mul_div_left _ _ (by omega), Nat.div_eq_of_lt h2, Nat.zero_add]
  · rw [← e2, h1, Nat.add_mul_mod_self_left, Nat.mod_eq_of_lt h2]

/-- the divisor, moved up -/
theorem norm_len {xs : List Nat} {k v : Nat} (hL : Lim 18446744073709551616 xs) (ht : Trm xs) (hv : val 18446744073709551616 xs = v) (h1 : 9223372036854775808 * 18446744073709551616 ^ k ≤ v) (h2 : v < 18446744073709551616 ^ (k + 1)) : xs.length = k + 1 ∧ 9223372036854775808 ≤ xs.getD k 0 := by
  have hle := length_of_val (by omega) ht (show val 18446744073709551616 xs < 18446744073709551616 ^ (k + 1) by omega)
  have hge : k < xs.length := by
    rcases Nat.lt_or_ge k xs.length with h | h
    · exact h
    · exfalso
      have h3 := val_lt hL
      have h4 : (18446744073709551616 : Nat) ^ xs.length ≤ 18446744073709551616 ^ k := Nat.pow_le_pow_right (by omega) h
      have h5 : 1 * 18446744073709551616 ^ k ≤ 9223372036854775808 * 18446744073709551616 ^ k := Nat.mul_le_mul_right _ (by omega)
      omega
  refine ⟨by omega, ?_⟩
  have e := val_take_succ 18446744073709551616 xs k
  rw [List.take_of_length_le (by omega)] at e
  have h3 := val_lt (hL.take k)
  rw [List.length_take, Nat.min_eq_left (by omega)] at h3
  rcases Nat.lt_or_ge (xs.getD k 0) 9223372036854775808 with h | h
  · exfalso
    have h4 : 18446744073709551616 ^ k * (xs.getD k 0 + 1) ≤ 18446744073709551616 ^ k * 9223372036854775808 := Nat.mul_le_mul_left _ h
    rw [Nat.mul_add] at h4
    rw [Nat.mul_comm] at h1
    omega
  · exact h
end Go.Proofs.Ytddpgckbdccldaa
