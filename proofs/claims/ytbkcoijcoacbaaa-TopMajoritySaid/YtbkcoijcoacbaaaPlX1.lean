/- plane: what is exact: sums and quotients of whole numbers. -/
import Derived.Test.YtbkcoijcoacbaaaPlT1
namespace Go.Proofs.Ytbkcoijcoacbaaa.Pl
open Go.RowKit
set_option linter.unusedVariables false
set_option exponentiation.threshold 2000
set_option maxRecDepth 100000
/-- half to even, by the plain power -/
theorem cut_def (n d : Nat) : Ieee.Toward.even.cut false n d = n / 2 ^ d + (if 2 ^ d < 2 * (n % 2 ^ d) ∨ (2 ^ d = 2 * (n % 2 ^ d) ∧ n / 2 ^ d % 2 = 1) then 1 else 0) := by
  have key : ∀ g : Nat, (n / g + (decide (g < 2 * (n % g)) || (g == 2 * (n % g) && n / g % 2 == 1)).toNat) = n / g + (if g < 2 * (n % g) ∨ (g = 2 * (n % g) ∧ n / g % 2 = 1) then 1 else 0) := by
    intro g
    congr 1
    by_cases h1 : g < 2 * (n % g)
    · simp [h1]
    · by_cases h2 : g = 2 * (n % g) ∧ n / g % 2 = 1
      · rw [if_pos (.inr h2)]
        simp [h1, h2.2]
        exact h2.1
      · rw [if_neg (by intro q; rcases q with q | q; exact h1 q; exact h2 q)]
        have : (g == 2 * (n % g) && n / g % 2 == 1) = false := by
          rw [Bool.and_eq_false_iff]
          by_cases h3 : g = 2 * (n % g)
          · right; rw [beq_eq_false_iff_ne]; exact fun q => h2 ⟨h3, q⟩
          · left; rw [beq_eq_false_iff_ne]; exact h3
        simp [h1, this]
  unfold Ieee.Toward.cut
  dsimp only
  by_cases h : d ≤ n.log2 + 2
  · rw [Nat.min_eq_left h, Nat.one_shiftLeft]
    exact key _
  · rw [Nat.min_eq_right (by omega), Nat.one_shiftLeft]
    have hn : n < 2 ^ (n.log2 + 1) := Nat.lt_log2_self
    have h2 : 2 ^ (n.log2 + 2) = 2 * 2 ^ (n.log2 + 1) := by rw [Nat.pow_succ 2 (n.log2 + 1), Nat.mul_comm]
    have h3 : 2 ^ (n.log2 + 2) ≤ 2 ^ d := Nat.pow_le_pow_right (by omega) (by omega)
    rw [key, Nat.div_eq_of_lt (show n < 2 ^ (n.log2 + 2) by omega), Nat.mod_eq_of_lt (show n < 2 ^ (n.log2 + 2) by omega), Nat.div_eq_of_lt (show n < 2 ^ d by omega), Nat.mod_eq_of_lt (show n < 2 ^ d by omega)]
    rw [if_neg (by omega), if_neg (by omega)]
theorem cut_shift (n d k : Nat) : Ieee.Toward.even.cut false (n * 2 ^ k) (d + k) = Ieee.Toward.even.cut false n d := by
  rw [cut_def, cut_def, Nat.pow_add]
  have hp : 0 < 2 ^ k := Nat.two_pow_pos k
  have e1 : n * 2 ^ k / (2 ^ d * 2 ^ k) = n / 2 ^ d := Nat.mul_div_mul_right _ _ hp
  have e2 : n * 2 ^ k % (2 ^ d * 2 ^ k) = n % 2 ^ d * 2 ^ k := Nat.mul_mod_mul_right _ _ _
  rw [e1, e2]
  congr 1
  generalize n / 2 ^ d = q
  generalize n % 2 ^ d = r
  generalize 2 ^ d = g
  have c1 : (g * 2 ^ k < 2 * (r * 2 ^ k)) ↔ g < 2 * r := by
    rw [← Nat.mul_assoc]
    exact ⟨fun h => Nat.lt_of_mul_lt_mul_right h, fun h => Nat.mul_lt_mul_of_pos_right h hp⟩
  have c2 : (g * 2 ^ k = 2 * (r * 2 ^ k)) ↔ g = 2 * r := by
    rw [← Nat.mul_assoc]
    exact ⟨fun h => Nat.eq_of_mul_eq_mul_right hp h, fun h => by rw [h]⟩
  simp only [c1, c2]
theorem cut_exact (n d : Nat) : Ieee.Toward.even.cut false (n * 2 ^ d) d = n := by
  have := cut_shift n 0 d
  rw [Nat.zero_add, cut_zero] at this
  exact this
theorem cut_mono {n m : Nat} (h : n ≤ m) (d : Nat) : Ieee.Toward.even.cut false n d ≤ Ieee.Toward.even.cut false m d := by
  rw [cut_def, cut_def]
  have hq : n / 2 ^ d ≤ m / 2 ^ d := Nat.div_le_div_right h
  have e1 := Nat.div_add_mod n (2 ^ d)
  have e2 := Nat.div_add_mod m (2 ^ d)
  generalize n / 2 ^ d = q at *
  generalize m / 2 ^ d = q' at *
  generalize n % 2 ^ d = r at *
  generalize m % 2 ^ d = r' at *
  generalize 2 ^ d = g at *
  rcases Nat.lt_or_eq_of_le hq with hlt | rfl
  · split <;> split <;> omega
  · have hr : r ≤ r' := by omega
    split
    · rename_i c
      rw [if_pos]
      · exact Nat.le_refl _
      · rcases c with c | ⟨c1, c2⟩
        · left; omega
        · by_cases hh : r = r'
          · right; exact ⟨by omega, c2⟩
          · left; omega
    · split <;> omega
/-- the rung of a magnitude, laid open -/
theorem rg_def (m : Nat) (p : Int) : rg m p = if m = 0 then 0 else
    min ((max (p + m.log2 - 52) (-1074) + 1074).toNat * 4503599627370496 + Ieee.Toward.even.cut false (m * 2 ^ (p - max (p + m.log2 - 52) (-1074)).toNat) (max (p + m.log2 - 52) (-1074) - p).toNat) 9218868437227405312 := by
  unfold rg Ieee.Format.nearest
  split
  · rfl
  · rw [d_fb, d_lp, d_bin, d_inf]
    dsimp only
    unfold Ieee.Format.word
    rw [Nat.shiftLeft_eq]
    simp only [Bool.false_eq_true, if_false]
    norm_cast
theorem log2_mul_pow {m : Nat} (h : m ≠ 0) (k : Nat) : (m * 2 ^ k).log2 = m.log2 + k := by
  have h1 := Nat.log2_self_le h
  have h2 : m < 2 ^ (m.log2 + 1) := Nat.lt_log2_self
  have hp : 0 < 2 ^ k := Nat.two_pow_pos k
  have hne : m * 2 ^ k ≠ 0 := by
    intro q; rcases Nat.mul_eq_zero.1 q with q | q <;> omega
  have a1 : 2 ^ (m.log2 + k) ≤ m * 2 ^ k := by rw [Nat.pow_add]; exact Nat.mul_le_mul_right _ h1
  have a2 : m * 2 ^ k < 2 ^ (m.log2 + k + 1) := by
    rw [show m.log2 + k + 1 = (m.log2 + 1) + k by omega, Nat.pow_add]; exact Nat.mul_lt_mul_of_pos_right h2 hp
  have b1 := (Nat.le_log2 hne).2 a1
  have b2 := (Nat.log2_lt hne).2 a2
  omega
theorem rg_shift (m k : Nat) (p : Int) : rg (m * 2 ^ k) p = rg m (p + k) := by
  rw [rg_def, rg_def]
  by_cases h : m = 0
  · subst h; rw [Nat.zero_mul, if_pos rfl, if_pos rfl]
  · have hne : m * 2 ^ k ≠ 0 := by
      have := Nat.two_pow_pos k
      intro q; rcases Nat.mul_eq_zero.1 q with q | q <;> omega
    rw [if_neg h, if_neg hne, log2_mul_pow h]
    have e : max (p + ((m.log2 + k : Nat) : Int) - 52) (-1074) = max (p + k + m.log2 - 52) (-1074) := by congr 1; push_cast; omega
    rw [e]
    generalize max (p + k + m.log2 - 52) (-1074) = u
    congr 2
    by_cases c1 : u ≤ p
    · rw [show (u - p).toNat = 0 by omega, show (u - (p + k)).toNat = 0 by omega, cut_zero, cut_zero, show (p + k - u).toNat = k + (p - u).toNat by omega, Nat.pow_add, Nat.mul_assoc]
    · by_cases c2 : p + k ≤ u
      · rw [show (p - u).toNat = 0 by omega, show (p + k - u).toNat = 0 by omega, Nat.pow_zero, Nat.mul_one, Nat.mul_one, show (u - p).toNat = (u - (p + k)).toNat + k by omega, cut_shift]
      · rw [show (p - u).toNat = 0 by omega, Nat.pow_zero, Nat.mul_one, show (u - (p + k)).toNat = 0 by omega, cut_zero]
        have e2 : m * 2 ^ k = (m * 2 ^ (p + k - u).toNat) * 2 ^ (u - p).toNat := by
          rw [Nat.mul_assoc, ← Nat.pow_add]; congr 2; omega
        rw [e2, cut_exact]
end Go.Proofs.Ytbkcoijcoacbaaa.Pl
