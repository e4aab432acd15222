/- Which numbers below a million one of 2, 3, 5, 7 tells of: what is asked of each product. No program. -/
import Derived.Test.YtmenflhaoejkfaaM15
namespace Go.Proofs.Ytmenflhaoejkfaa
set_option linter.unusedVariables false
set_option maxRecDepth 100000
set_option exponentiation.threshold 2000
def allS (f : Nat → Bool) : Nat → Nat → Nat → Bool
  | 0, i, c => cond (Nat.beq c 0) true (f i)
  | d + 1, i, c => cond (Nat.ble c (2 ^ d)) (allS f d i c) (cond (allS f d i (2 ^ d)) (allS f d (i + 2 ^ d) (c - 2 ^ d)) false)
def p2 (n : Nat) : Nat := Nat.mod (Nat.mul (Nat.pow (Nat.mod (Nat.pow (Nat.mod (Nat.pow 2 (Nat.div (Nat.sub n 1) 1024)) n) 32) n) 32) (Nat.pow 2 (Nat.mod (Nat.sub n 1) 1024))) n
def tst (n : Nat) : Bool := cond (Nat.beq (p2 n) 1) ([2, 3, 5, 7].any (tellsN n)) true
theorem p2_eq (n : Nat) : p2 n = 2 ^ (n - 1) % n := by
  show ((2 ^ ((n - 1) / 1024) % n) ^ 32 % n) ^ 32 * 2 ^ ((n - 1) % 1024) % n = _
  rw [Nat.mul_mod, ← Nat.pow_mod ((2 ^ ((n - 1) / 1024) % n) ^ 32), ← Nat.mul_mod, ← Nat.pow_mul, Nat.mul_mod, ← Nat.pow_mod, ← Nat.mul_mod, ← Nat.pow_mul, ← Nat.pow_add]
  congr 2
  omega
theorem allS_spec (f : Nat → Bool) : ∀ d i c, c ≤ 2 ^ d → allS f d i c = true → ∀ j, j < c → f (i + j) = true := by
  intro d
  induction d with
  | zero =>
    intro i c hc h j hj
    have : c = 1 := by simp at hc; omega
    subst this
    have : j = 0 := by omega
    subst this
    exact h
  | succ d ih =>
    intro i c hc h j hj
    rw [allS] at h
    rw [Nat.pow_succ] at hc
    cases hb : Nat.ble c (2 ^ d) with
    | true =>
      rw [hb] at h
      exact ih i c (Nat.le_of_ble_eq_true hb) h j hj
    | false =>
      rw [hb] at h
      have hlt : 2 ^ d < c := by
        rcases Nat.lt_or_ge (2 ^ d) c with h1 | h1
        · exact h1
        · rw [Nat.ble_eq_true_of_le h1] at hb; cases hb
      cases h1 : allS f d i (2 ^ d) with
      | false => rw [h1] at h; cases h
      | true =>
        rw [h1] at h
        rcases Nat.lt_or_ge j (2 ^ d) with hj' | hj'
        · exact ih i _ (Nat.le_refl _) h1 j hj'
        · have := ih (i + 2 ^ d) (c - 2 ^ d) (by omega) h (j - 2 ^ d) (by omega)
          rwa [show i + 2 ^ d + (j - 2 ^ d) = i + j by omega] at this
/-- the products of p and what is not below it -/
def chk (p : Nat) : Bool := allS (fun j => tst (p * (p + 2 * j))) 18 0 ((1000003 / p - p) / 2 + 1)
def oddPrimes : List Nat := [3, 5, 7, 11, 13, 17, 19, 23, 29, 31, 37, 41, 43, 47, 53, 59, 61, 67, 71, 73, 79, 83, 89, 97, 101, 103, 107, 109, 113, 127, 131, 137, 139, 149, 151, 157, 163, 167, 173, 179, 181, 191, 193, 197, 199, 211, 223, 227, 229, 233, 239, 241, 251, 257, 263, 269, 271, 277, 281, 283, 293, 307, 311, 313, 317, 331, 337, 347, 349, 353, 359, 367, 373, 379, 383, 389, 397, 401, 409, 419, 421, 431, 433, 439, 443, 449, 457, 461, 463, 467, 479, 487, 491, 499, 503, 509, 521, 523, 541, 547, 557, 563, 569, 571, 577, 587, 593, 599, 601, 607, 613, 617, 619, 631, 641, 643, 647, 653, 659, 661, 673, 677, 683, 691, 701, 709, 719, 727, 733, 739, 743, 751, 757, 761, 769, 773, 787, 797, 809, 811, 821, 823, 827, 829, 839, 853, 857, 859, 863, 877, 881, 883, 887, 907, 911, 919, 929, 937, 941, 947, 953, 967, 971, 977, 983, 991, 997]

/-- who passes by 2 has 2 to the n less one as 1 -/
theorem tells_two {n : Nat} (hn : ¬ (n % 2 = 0 ∨ n < 2)) (h : tellsN n 2 = false) : 2 ^ (n - 1) % n = 1 := by
  unfold tellsN at h
  rw [if_neg hn, if_neg (by
    rcases Nat.lt_or_ge 2 n with h2 | h2
    · rw [Nat.mod_eq_of_lt h2]; omega
    · omega)] at h
  obtain ⟨h1, h2⟩ := tz_spec (a := n - 1) (by omega)
  have hd : (n - 1) / 2 ^ tz (n - 1) * 2 ^ tz (n - 1) = n - 1 := Nat.div_mul_cancel (Nat.dvd_of_mod_eq_zero h1)
  generalize (n - 1) / 2 ^ tz (n - 1) = d at *
  generalize tz (n - 1) = s at *
  have hone : 1 % n = 1 := Nat.mod_eq_of_lt (by omega)
  have hsq : ∀ i, 2 ^ (d * 2 ^ i) % n = 1 → ∀ k, 2 ^ (d * 2 ^ (i + k)) % n = 1 := by
    intro i hi k
    rw [Nat.pow_add, ← Nat.mul_assoc, Nat.pow_mul, Nat.pow_mod, hi, Nat.one_pow, hone]
  by_cases hx : 2 ^ d % n = 1
  · have := hsq 0 (by simpa using hx) s
    rw [Nat.zero_add, hd] at this
    exact this
  · simp only [ne_eq, hx, not_false_eq_true, decide_true, Bool.true_and, Bool.not_eq_false'] at h
    unfold among at h
    rw [List.any_eq_true] at h
    obtain ⟨i, hi, he⟩ := h
    rw [List.mem_range] at hi
    rw [sqs_pow, beq_iff_eq] at he
    have h3 : 2 ^ (d * 2 ^ (i + 1)) % n = 1 := by
      rw [Nat.pow_succ, ← Nat.mul_assoc, Nat.pow_mul, Nat.pow_mod, he, Nat.pow_two]
      obtain ⟨m, rfl⟩ : ∃ m, n = m + 2 := ⟨n - 2, by omega⟩
      rw [show m + 2 - 1 = m + 1 by omega, show (m + 1) * (m + 1) = 1 + (m + 2) * m by rw [Nat.add_mul, Nat.add_mul, Nat.mul_add]; omega, Nat.add_mul_mod_self_left]
      exact hone
    have := hsq (i + 1) h3 (s - (i + 1))
    rw [show i + 1 + (s - (i + 1)) = s by omega, hd] at this
    exact this
theorem tst_told {n : Nat} (hn : ¬ (n % 2 = 0 ∨ n < 2)) (h : tst n = true) : [2, 3, 5, 7].any (tellsN n) = true := by
  unfold tst at h
  cases hb : Nat.beq (p2 n) 1 with
  | true => rw [hb] at h; exact h
  | false =>
    have h1 : tellsN n 2 = true := by
      cases ht : tellsN n 2 with
      | true => rfl
      | false =>
        have := tells_two hn ht
        rw [← p2_eq] at this
        rw [this] at hb
        cases hb
    rw [List.any_eq_true]
    exact ⟨2, by simp, h1⟩
theorem small_div : ∀ p, p < 1001 → 3 ≤ p → p % 2 = 1 → (oddPrimes.contains p || oddPrimes.any fun q => decide (q < p) && p % q == 0) = true := by decide +kernel
theorem primes_two : ∀ q, q ∈ oddPrimes → 2 ≤ q := by decide +kernel
/-- the least divisor -/
theorem least_div (n : Nat) (hn : 2 ≤ n) : ∃ p, 2 ≤ p ∧ p ∣ n ∧ ∀ q, 2 ≤ q → q ∣ n → p ≤ q := by
  have key : ∀ k, (∃ q, q ≤ k ∧ 2 ≤ q ∧ q ∣ n) → ∃ p, 2 ≤ p ∧ p ∣ n ∧ ∀ q, 2 ≤ q → q ∣ n → p ≤ q := by
    intro k
    induction k with
    | zero => rintro ⟨q, h1, h2, _⟩; omega
    | succ k ih =>
      rintro ⟨q, h1, h2, h3⟩
      by_cases h : ∃ q, q ≤ k ∧ 2 ≤ q ∧ q ∣ n
      · exact ih h
      · refine ⟨q, h2, h3, fun r hr hrd => ?_⟩
        rcases Nat.lt_or_ge r q with hl | hl
        · exact absurd ⟨r, by omega, hr, hrd⟩ h
        · exact hl
  exact key n ⟨n, Nat.le_refl _, hn, Nat.dvd_refl n⟩
theorem composite_told (hall : ∀ p, p ∈ oddPrimes → chk p = true) {n : Nat} (hn : ¬ (n % 2 = 0 ∨ n < 2)) (hlt : n < 1000003) (hp : isP n = false) : [2, 3, 5, 7].any (tellsN n) = true := by
  obtain ⟨p, hp2, hpd, hmin⟩ := least_div n (by omega)
  obtain ⟨m, hm⟩ := hpd
  have hm0 : m ≠ 0 := by rintro rfl; omega
  have hm1 : m ≠ 1 := by
    rintro rfl
    rw [Nat.mul_one] at hm
    subst hm
    have : isP n = true := by
      rw [isP_prm]
      refine ⟨hp2, fun q hq => ?_⟩
      by_cases h1 : q = 1
      · exact .inl h1
      · right
        have h0 : q ≠ 0 := by rintro rfl; have := Nat.eq_zero_of_zero_dvd hq; omega
        have := hmin q (by omega) hq
        have := Nat.le_of_dvd (by omega) hq
        omega
    rw [this] at hp
    cases hp
  have hpm : p ≤ m := hmin m (by omega) ⟨p, by rw [Nat.mul_comm]; exact hm⟩
  have hpp : p * p ≤ n := by rw [hm]; exact Nat.mul_le_mul_left p hpm
  have hp1 : p < 1001 := by
    rcases Nat.lt_or_ge p 1001 with h | h
    · exact h
    · have := Nat.mul_le_mul h h; omega
  have hodd : n % 2 = 1 := by omega
  have hpo : p % 2 = 1 ∧ m % 2 = 1 := by
    rw [hm, Nat.mul_mod] at hodd
    rcases Nat.mod_two_eq_zero_or_one p with h | h <;> rcases Nat.mod_two_eq_zero_or_one m with k | k <;> rw [h, k] at hodd <;> simp_all
  have hs := small_div p hp1 (by omega) hpo.1
  rw [Bool.or_eq_true] at hs
  rcases hs with hs | hs
  · have hc := hall p (by simpa using hs)
    unfold chk at hc
    obtain ⟨j, hj⟩ : ∃ j, m = p + 2 * j := ⟨(m - p) / 2, by omega⟩
    have hmq : m ≤ 1000003 / p := (Nat.le_div_iff_mul_le (by omega)).2 (by rw [Nat.mul_comm, ← hm]; omega)
    have hq : 1000003 / p ≤ 333335 := Nat.le_trans (Nat.div_le_div_left (show 3 ≤ p by omega) (by omega)) (by decide)
    have := allS_spec _ 18 0 _ (by omega) hc j (by omega)
    rw [Nat.zero_add, ← hj, ← hm] at this
    exact tst_told hn this
  · exfalso
    rw [List.any_eq_true] at hs
    obtain ⟨q, hq, hqp⟩ := hs
    rw [Bool.and_eq_true, decide_eq_true_iff, beq_iff_eq] at hqp
    have h1 := hmin q (primes_two q hq) (Nat.dvd_trans (Nat.dvd_of_mod_eq_zero hqp.2) ⟨m, hm⟩)
    omega
/-- no base tells of a prime -/
theorem prime_untold {n base : Nat} (h : isP n = true) : tellsN n base = false := by
  have hp := isP_prm.1 h
  have h2 := hp.1
  by_cases hev : n % 2 = 0 ∨ n < 2
  · rw [tells_even hev]
    have : n = 2 := by
      rcases hp.2 2 (Nat.dvd_of_mod_eq_zero (by omega)) with h | h <;> omega
    rw [this]; rfl
  · unfold tellsN
    rw [if_neg hev]
    split
    · rfl
    · rename_i hb
      obtain ⟨h1, _⟩ := tz_spec (a := n - 1) (by omega)
      have hd : (n - 1) / 2 ^ tz (n - 1) * 2 ^ tz (n - 1) = n - 1 := Nat.div_mul_cancel (Nat.dvd_of_mod_eq_zero h1)
      rcases hp.passes hb hd with h3 | h3
      · simp [h3]
      · rw [h3]; simp
theorem prime_small (hall : ∀ p, p ∈ oddPrimes → chk p = true) {n : Nat} (hlt : n < 1000003) : primeN n [2, 3, 5, 7] = isP n := by
  cases hp : isP n with
  | true =>
    have h2 := (isP_prm.1 hp).1
    unfold primeN
    simp [h2, prime_untold hp]
  | false =>
    unfold primeN
    by_cases hlt2 : n < 2
    · simp; omega
    · by_cases hev : n % 2 = 0
      · have hn2 : n ≠ 2 := by rintro rfl; revert hp; decide
        have h1 : tellsN n 2 = true := by rw [tells_even (.inl hev)]; simpa using hn2
        have h3 : [2, 3, 5, 7].any (tellsN n) = true := List.any_eq_true.2 ⟨2, by simp, h1⟩
        rw [h3]; simp
      · rw [composite_told hall (by omega) hlt hp]; simp
end Go.Proofs.Ytmenflhaoejkfaa
