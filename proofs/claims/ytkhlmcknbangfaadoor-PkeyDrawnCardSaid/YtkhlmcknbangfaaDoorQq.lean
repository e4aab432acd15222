/- Which numbers below 2 to the 32 twelve bases tell of: what follows from passing. No program. Which numbers below 2 to the 32 twelve bases tell of: what the kernel reckons, and what that says. No program. Which numbers below 2 to the 32 twelve bases tell of: orders, squares, products of two primes. No program. Which numbers below 2 to the 32 twelve bases tell of: reckoned by the kernel (squares, orders). No program. Which numbers below 2 to the 32 twelve bases tell of: the way through products of two primes. No program. Which numbers below 2 to the 32 twelve bases tell of: reckoned by the kernel (products of two). No program. Which numbers below 2 to the 32 twelve bases tell of: reckoned by the kernel (products of two). No program. Which numbers below 2 to the 32 twelve bases tell of: reckoned by the kernel (products of two). No program. Which numbers below 2 to the 32 twelve bases tell of: reckoned by the kernel (products of two). No program. Which numbers below 2 to the 32 twelve bases tell of: reckoned by the kernel (products of three). No program. A number below 2 to the 32 that no one of the twelve bases tells of is a prime. No program. -/
import Derived.Test.YtkhlmcknbangfaaDoorMaths
import Derived.Test.YtkhlmcknbangfaaDoorM12
namespace Go.Proofs.YtkhlmcknbangfaaDoor
set_option linter.unusedSimpArgs false
set_option linter.unusedVariables false
set_option linter.unusedVariables false
set_option maxRecDepth 100000
def bases12 : List Nat := [2, 3, 5, 7, 11, 13, 17, 19, 23, 29, 31, 37]
/-- who passes by a base has it to the n less one as 1 -/
theorem tells_one {n b : Nat} (hn : ¬ (n % 2 = 0 ∨ n < 2)) (hb : b % n ≠ 0) (h : tellsN n b = false) : b ^ (n - 1) % n = 1 := by
  unfold tellsN at h
  rw [if_neg hn, if_neg hb] at h
  obtain ⟨h1, h2⟩ := tz_spec (a := n - 1) (by omega)
  have hd : (n - 1) / 2 ^ tz (n - 1) * 2 ^ tz (n - 1) = n - 1 := Nat.div_mul_cancel (Nat.dvd_of_mod_eq_zero h1)
  generalize (n - 1) / 2 ^ tz (n - 1) = d at *
  generalize tz (n - 1) = s at *
  have hone : 1 % n = 1 := Nat.mod_eq_of_lt (by omega)
  have hsq : ∀ i, b ^ (d * 2 ^ i) % n = 1 → ∀ k, b ^ (d * 2 ^ (i + k)) % n = 1 := by
    intro i hi k
    rw [Nat.pow_add, ← Nat.mul_assoc, Nat.pow_mul, Nat.pow_mod, hi, Nat.one_pow, hone]
  by_cases hx : b ^ d % n = 1
  · have := hsq 0 (by simpa using hx) s
    rw [Nat.zero_add, hd] at this
    exact this
  · simp only [ne_eq, hx, not_false_eq_true, decide_true, Bool.true_and, Bool.not_eq_false'] at h
    unfold among at h
    rw [List.any_eq_true] at h
    obtain ⟨i, hi, he⟩ := h
    rw [List.mem_range] at hi
    rw [sqs_pow, beq_iff_eq] at he
    have h3 : b ^ (d * 2 ^ (i + 1)) % n = 1 := by
      rw [Nat.pow_succ, ← Nat.mul_assoc, Nat.pow_mul, Nat.pow_mod, he, Nat.pow_two]
      obtain ⟨m, rfl⟩ : ∃ m, n = m + 2 := ⟨n - 2, by omega⟩
      rw [show m + 2 - 1 = m + 1 by omega, show (m + 1) * (m + 1) = 1 + (m + 2) * m by rw [Nat.add_mul, Nat.add_mul, Nat.mul_add]; omega, Nat.add_mul_mod_self_left]
      exact hone
    have := hsq (i + 1) h3 (s - (i + 1))
    rw [show i + 1 + (s - (i + 1)) = s by omega, hd] at this
    exact this
theorem base_free {n b : Nat} (hn : ¬ (n % 2 = 0 ∨ n < 2)) (hb : Prm b) (h : tellsN n b = false) (hc : ¬ Prm n) : ¬ b ∣ n ∧ b % n ≠ 0 ∧ b ^ (n - 1) % n = 1 := by
  have h0 : b % n ≠ 0 := fun e => by
    rcases hb.2 n (Nat.dvd_of_mod_eq_zero e) with h1 | h1
    · omega
    · exact hc (h1 ▸ hb)
  have h1 := tells_one hn h0 h
  refine ⟨fun hd => ?_, h0, h1⟩
  have h2 := Nat.div_add_mod (b ^ (n - 1)) n
  rw [h1] at h2
  have h3 : b ∣ b ^ (n - 1) := by
    obtain ⟨m, hm⟩ : ∃ m, n - 1 = m + 1 := ⟨n - 2, by omega⟩
    rw [hm, Nat.pow_succ]
    exact Nat.dvd_mul_left _ _
  rw [← h2] at h3
  have h4 := (Nat.dvd_add_right (Nat.dvd_trans hd (Nat.dvd_mul_right n _))).1 h3
  have := Nat.le_of_dvd (by omega) h4
  have := hb.1
  omega
theorem one_of_dvd {a x n m : Nat} (h : a ^ x % n = 1) (hd : m ∣ n) : a ^ x % m = 1 % m := by
  rw [← Nat.mod_mod_of_dvd (a ^ x) hd, h]
theorem near_pow (p k : Nat) : ∀ m, ∃ c, (p * k + 1) ^ m = p * p * c + m * (p * k) + 1 := by
  intro m
  induction m with
  | zero => exact ⟨0, by simp⟩
  | succ m ih =>
    obtain ⟨c, hc⟩ := ih
    refine ⟨c * (p * k) + c + m * k * k, ?_⟩
    rw [Nat.pow_succ, hc]
    simp only [Nat.add_mul, Nat.mul_add, Nat.mul_one, Nat.one_mul]
    have e1 : m * (p * k) * (p * k) = p * p * (m * k * k) := by
      rw [Nat.mul_assoc m (p * k) (p * k), Nat.mul_mul_mul_comm p k p k, Nat.mul_left_comm, Nat.mul_assoc m k k]
    have e2 : p * p * c * (p * k) = p * p * (c * (p * k)) := Nat.mul_assoc _ _ _
    rw [e1, e2]
    omega
theorem lift_sq {p a x : Nat} (hp : 2 ≤ p) (h : a ^ x % p = 1 % p) : a ^ (x * p) % (p * p) = 1 % (p * p) := by
  have h2 := Nat.div_add_mod (a ^ x) p
  rw [h, Nat.mod_eq_of_lt (by omega)] at h2
  rw [Nat.pow_mul, ← h2]
  obtain ⟨c, hc⟩ := near_pow p (a ^ x / p) p
  rw [hc, show p * p * c + p * (p * (a ^ x / p)) + 1 = 1 + p * p * (c + a ^ x / p) by rw [Nat.mul_add, Nat.mul_assoc p p (a ^ x / p)]; omega, Nat.add_mul_mod_self_left]
theorem no_square {n p a : Nat} (hn : 2 ≤ n) (hp : Prm p) (hd : p * p ∣ n) (ha : a % p ≠ 0) (h1 : a ^ (n - 1) % n = 1) : a ^ (p - 1) % (p * p) = 1 % (p * p) := by
  have h2 := lift_sq hp.1 ((hp.little ha).trans (Nat.mod_eq_of_lt hp.1).symm)
  have h3 := one_of_dvd h1 hd
  have hg := pow_one_gcd _ _ h3 h2
  have hpn : p ∣ n := Nat.dvd_trans (Nat.dvd_mul_right p p) hd
  have hnd : ¬ p ∣ Nat.gcd (n - 1) ((p - 1) * p) := fun h => by
    have h4 := Nat.dvd_trans h (Nat.gcd_dvd_left _ _)
    have h5 : p ∣ n - 1 + 1 := by rw [show n - 1 + 1 = n by omega]; exact hpn
    have := Nat.le_of_dvd (by omega) ((Nat.dvd_add_right h4).1 h5)
    have := hp.1
    omega
  have hgd : Nat.gcd (n - 1) ((p - 1) * p) ∣ p - 1 := (hp.coprime hnd).symm.dvd_of_dvd_mul_right (Nat.gcd_dvd_right _ _)
  obtain ⟨k, hk⟩ := hgd
  have := pow_one_mul hg k
  rwa [← hk] at this
theorem least_prime {n : Nat} (hn : 2 ≤ n) : ∃ p, Prm p ∧ p ∣ n ∧ ∀ r, Prm r → r ∣ n → p ≤ r := by
  have key : ∀ k p, p ≤ k → Prm p → p ∣ n → ∃ p, Prm p ∧ p ∣ n ∧ ∀ r, Prm r → r ∣ n → p ≤ r := by
    intro k
    induction k with
    | zero => intro p h1 h2; have := h2.1; omega
    | succ k ih =>
      intro p h1 h2 h3
      by_cases hx : ∃ r, Prm r ∧ r ∣ n ∧ r < p
      · obtain ⟨r, r1, r2, r3⟩ := hx
        exact ih r (by omega) r1 r2
      · refine ⟨p, h2, h3, fun r r1 r2 => ?_⟩
        rcases Nat.lt_or_ge r p with h | h
        · exact absurd ⟨r, r1, r2, h⟩ hx
        · exact h
  obtain ⟨p, h1, h2⟩ := Prm.some hn
  exact key p p (Nat.le_refl _) h1 h2
theorem small_prime : ∀ p, p < 41 → bases12.contains p || (decide (p < 2) || [2, 3, 5].any fun d => decide (d < p) && p % d == 0) = true := by decide +kernel
theorem prm_bases {p : Nat} (hp : Prm p) (h : p < 41) : p ∈ bases12 := by
  have := small_prime p h
  simp only [Bool.or_eq_true, decide_eq_true_eq, List.any_eq_true, Bool.and_eq_true, beq_iff_eq, List.contains_iff_mem] at this
  rcases this with h1 | h1 | ⟨d, hd, h1, h2⟩
  · exact h1
  · have := hp.1; omega
  · rcases hp.2 d (Nat.dvd_of_mod_eq_zero h2) with h3 | h3
    · subst h3; simp at hd
    · omega
theorem bases_prm : ∀ b ∈ bases12, Prm b := by
  intro b hb
  have hb' : b ∈ ([2, 3, 5, 7, 11, 13, 17, 19, 23, 29, 31, 37] : List Nat) := hb
  simp only [List.mem_cons, List.not_mem_nil, or_false] at hb'
  rcases hb' with rfl | rfl | rfl | rfl | rfl | rfl | rfl | rfl | rfl | rfl | rfl | rfl <;> first | exact prm_small (by omega) 0 (by omega) (by decide +kernel) | exact prm_small (by omega) 1 (by omega) (by decide +kernel) | exact prm_small (by omega) 5 (by omega) (by decide +kernel)
end Go.Proofs.YtkhlmcknbangfaaDoor
namespace Go.Proofs.YtkhlmcknbangfaaDoor
set_option linter.unusedVariables false
set_option maxRecDepth 100000
set_option exponentiation.threshold 70000
/-- x to the 32 by 2 to the e -/
def st32 (n x e : Nat) : Nat := Nat.mod (Nat.mul (Nat.pow x 32) (Nat.pow 2 e)) n
/-- a power of 2 -/
def pw2 (n e : Nat) : Nat :=
  st32 n (st32 n (st32 n (st32 n (st32 n (st32 n (Nat.mod (Nat.pow 2 (Nat.div e 1073741824)) n) (Nat.mod (Nat.div e 33554432) 32)) (Nat.mod (Nat.div e 1048576) 32)) (Nat.mod (Nat.div e 32768) 32)) (Nat.mod (Nat.div e 1024) 32)) (Nat.mod (Nat.div e 32) 32)) (Nat.mod e 32)
theorem st32_is (n k e : Nat) : st32 n (2 ^ k % n) e = 2 ^ (32 * k + e) % n := by
  show (2 ^ k % n) ^ 32 * 2 ^ e % n = _
  rw [Nat.mul_mod, ← Nat.pow_mod, ← Nat.mul_mod, ← Nat.pow_mul, ← Nat.pow_add]
  congr 2
  omega
theorem pw2_is (n e : Nat) : pw2 n e = 2 ^ e % n := by
  unfold pw2
  rw [show Nat.mod (Nat.pow 2 (Nat.div e 1073741824)) n = 2 ^ (e / 1073741824) % n from rfl, st32_is, st32_is, st32_is, st32_is, st32_is, st32_is]
  congr 2
  show 32 * (32 * (32 * (32 * (32 * (32 * (e / 1073741824) + e / 33554432 % 32) + e / 1048576 % 32) + e / 32768 % 32) + e / 1024 % 32) + e / 32 % 32) + e % 32 = e
  omega
/-- does n pass by base a? -/
def strong (a n : Nat) : Bool :=
  decide (pwm n 32 a ((n - 1) / 2 ^ tz (n - 1)) = 1) || among (pwm n 32 a ((n - 1) / 2 ^ tz (n - 1))) n (n - 1) (tz (n - 1))
theorem strong_of {a n : Nat} (hn : ¬ (n % 2 = 0 ∨ n < 2)) (hl : n < 4294967296) (hb : a % n ≠ 0) (h : tellsN n a = false) : strong a n = true := by
  unfold tellsN at h
  rw [if_neg hn, if_neg hb] at h
  unfold strong
  rw [pwm_is n 32 a _ (Nat.lt_of_le_of_lt (Nat.div_le_self _ _) (by omega))]
  generalize a ^ ((n - 1) / 2 ^ tz (n - 1)) % n = y at *
  by_cases hy : y = 1
  · simp [hy]
  · simp only [ne_eq, hy, not_false_eq_true, decide_true, Bool.true_and, Bool.not_eq_false'] at h
    simp [h]
def prim37 : Nat := 7420738134810
/-- is it told that pq t is no prime? -/
def candOk (pq t : Nat) : Bool :=
  cond (Nat.beq (Nat.gcd t prim37) 1) (cond (Nat.beq (pw2 (Nat.mul pq t) (Nat.sub (Nat.mul pq t) 1)) 1) (!(strong 2 (Nat.mul pq t) && (strong 3 (Nat.mul pq t) && (strong 5 (Nat.mul pq t) && (strong 7 (Nat.mul pq t) && strong 11 (Nat.mul pq t)))))) true) true
def candGo (pq M : Nat) : Nat → Nat → Bool
  | 0, _ => true
  | k + 1, t => cond (candOk pq t) (candGo pq M k (Nat.add t M)) false
theorem candGo_is {pq M : Nat} : ∀ k t, candGo pq M k t = true → ∀ j, j < k → candOk pq (t + j * M) = true := by
  intro k
  induction k with
  | zero => intro t _ j hj; omega
  | succ k ih =>
    intro t h j hj
    unfold candGo at h
    cases hc : candOk pq t with
    | false => rw [hc] at h; cases h
    | true =>
      rw [hc] at h
      cases j with
      | zero => simpa using hc
      | succ j =>
        have := ih (t + M) h j (by omega)
        rwa [show t + M + j * M = t + (j + 1) * M by rw [Nat.add_mul]; omega] at this
def invGo (m : Nat) : Nat → Nat → Nat → Nat → Nat → Nat
  | 0, _, _, s0, _ => s0
  | f + 1, r0, r1, s0, s1 => cond (Nat.beq r1 0) s0 (invGo m f r1 (Nat.mod r0 r1) s1 (Nat.mod (Nat.add s0 (Nat.mul (Nat.sub m s1) (Nat.div r0 r1))) m))
def invM (a m : Nat) : Nat := Nat.mod (invGo m 60 m (Nat.mod a m) 0 1) m
def pairT (pq M t0 : Nat) : Bool := cond (Nat.beq (Nat.mod (Nat.mul t0 pq) M) (Nat.mod 1 M)) (candGo pq M (Nat.add (Nat.div (Nat.div 4294967295 pq) M) 1) t0) false
def pairM (pq M : Nat) : Bool := cond (Nat.beq (Nat.gcd pq M) 1) (pairT pq M (invM pq M)) true
def pairOk (p q : Nat) : Bool := pairM (Nat.mul p q) (Nat.lcm (Nat.sub p 1) (Nat.sub q 1))
theorem pair_told {p q t : Nat} (h : pairOk p q = true) (hp : 2 ≤ p) (hq : 2 ≤ q) (ht : 1 ≤ t) (hl : p * q * t < 4294967296) (h1 : p - 1 ∣ p * q * t - 1) (h2 : q - 1 ∣ p * q * t - 1) : candOk (p * q) t = true := by
  have hM : Nat.lcm (p - 1) (q - 1) ∣ p * q * t - 1 := Nat.lcm_dvd h1 h2
  have hM0 : 0 < Nat.lcm (p - 1) (q - 1) := Nat.lcm_pos (by omega) (by omega)
  have hpq : 0 < p * q := Nat.mul_pos (by omega) (by omega)
  have hn : 0 < p * q * t := Nat.mul_pos hpq ht
  change pairM (p * q) (Nat.lcm (p - 1) (q - 1)) = true at h
  generalize Nat.lcm (p - 1) (q - 1) = M at *
  generalize p * q = a at *
  unfold pairM at h
  cases hg : Nat.beq (Nat.gcd a M) 1 with
  | false =>
    exfalso
    have hne : Nat.gcd a M ≠ 1 := fun e => by rw [e] at hg; cases hg
    have k1 : Nat.gcd a M ∣ a * t := Nat.dvd_trans (Nat.gcd_dvd_left _ _) (Nat.dvd_mul_right _ _)
    have k2 : Nat.gcd a M ∣ a * t - 1 := Nat.dvd_trans (Nat.gcd_dvd_right _ _) hM
    have k3 : Nat.gcd a M ∣ a * t - 1 + 1 := by rw [show a * t - 1 + 1 = a * t by omega]; exact k1
    exact hne (Nat.dvd_one.1 ((Nat.dvd_add_right k2).1 k3))
  | true =>
    rw [hg] at h
    change pairT a M (invM a M) = true at h
    have hc : Nat.Coprime M a := by rw [Nat.Coprime, Nat.gcd_comm]; exact Nat.eq_of_beq_eq_true hg
    have ht0 : invM a M < M := Nat.mod_lt _ hM0
    generalize invM a M = t0 at *
    unfold pairT at h
    cases hi : Nat.beq (Nat.mod (Nat.mul t0 a) M) (Nat.mod 1 M) with
    | false => rw [hi] at h; cases h
    | true =>
      rw [hi] at h
      change candGo a M (4294967295 / a / M + 1) t0 = true at h
      have hi2 : t0 * a % M = 1 % M := Nat.eq_of_beq_eq_true hi
      have hi3 : t * a % M = 1 % M := by
        obtain ⟨k, hk⟩ := hM
        rw [Nat.mul_comm t a, show a * t = 1 + M * k by omega, Nat.add_mul_mod_self_left]
      have he := cancel hc (hi3.trans hi2.symm)
      rw [Nat.mod_eq_of_lt ht0] at he
      have hd := Nat.div_add_mod t M
      have hle : t / M < 4294967295 / a / M + 1 := by
        have : t ≤ 4294967295 / a := (Nat.le_div_iff_mul_le hpq).2 (by rw [Nat.mul_comm]; omega)
        have := Nat.div_le_div_right (c := M) this
        omega
      have := candGo_is _ _ h (t / M) hle
      rwa [show t0 + t / M * M = t by rw [Nat.mul_comm]; omega] at this
def p101 : Nat := 232862364358497360900063316880507363070
def small101 : List Nat := [41, 43, 47, 53, 59, 61, 67, 71, 73, 79, 83, 89, 97, 101]
def filt (q : Nat) : Bool := cond (Nat.ble q 101) (small101.contains q) (Nat.beq (Nat.gcd q p101) 1)
theorem p101_is : p101 = ([2, 3, 5, 7, 11, 13, 17, 19, 23, 29, 31, 37, 41, 43, 47, 53, 59, 61, 67, 71, 73, 79, 83, 89, 97, 101] : List Nat).foldr (· * ·) 1 := by decide +kernel
theorem Prm.of_prod {q : Nat} (hq : Prm q) : ∀ L : List Nat, q ∣ L.foldr (· * ·) 1 → ∃ x ∈ L, q ∣ x
  | [], h => by
    have := Nat.le_of_dvd (by decide) h
    have := hq.1
    simp at *
    omega
  | x :: L, h => by
    rcases hq.dvd_mul (show q ∣ x * L.foldr (· * ·) 1 from h) with h | h
    · exact ⟨x, by simp, h⟩
    · obtain ⟨y, hy, h⟩ := Prm.of_prod hq L h
      exact ⟨y, by simp [hy], h⟩
theorem filt_small : ∀ q, q < 102 → 41 ≤ q → small101.contains q || ([2, 3, 5, 7].any fun d => decide (d < q) && q % d == 0) = true := by decide +kernel
theorem filt_prm {q : Nat} (hq : Prm q) (h : 41 ≤ q) : filt q = true := by
  unfold filt
  cases hb : Nat.ble q 101 with
  | true =>
    have h1 := Nat.le_of_ble_eq_true hb
    have := filt_small q (by omega) h
    simp only [Bool.or_eq_true, List.any_eq_true, Bool.and_eq_true, decide_eq_true_eq, beq_iff_eq] at this
    rcases this with h2 | ⟨d, hd, h2, h3⟩
    · exact h2
    · rcases hq.2 d (Nat.dvd_of_mod_eq_zero h3) with h4 | h4
      · subst h4; simp at hd
      · omega
  | false =>
    have h1 : 101 < q := by
      rcases Nat.lt_or_ge 101 q with h2 | h2
      · exact h2
      · rw [Nat.ble_eq_true_of_le h2] at hb; cases hb
    have h2 : Nat.gcd q p101 = 1 := hq.coprime fun hd => by
      rw [p101_is] at hd
      obtain ⟨x, hx, hd⟩ := hq.of_prod _ hd
      have h3 : ∀ x ∈ ([2, 3, 5, 7, 11, 13, 17, 19, 23, 29, 31, 37, 41, 43, 47, 53, 59, 61, 67, 71, 73, 79, 83, 89, 97, 101] : List Nat), 0 < x ∧ x ≤ 101 := by decide
      have := Nat.le_of_dvd (h3 x hx).1 hd
      have := (h3 x hx).2
      omega
    show Nat.beq (Nat.gcd q p101) 1 = true
    rw [h2]; rfl
def rowGo (p : Nat) : Nat → Nat → Bool
  | 0, _ => false
  | k + 1, q => cond (Nat.ble 4294967296 (Nat.mul p (Nat.mul q q))) true (cond (filt q) (cond (pairOk p q) (rowGo p k (Nat.add q 2)) false) (rowGo p k (Nat.add q 2)))
theorem rowGo_is {p : Nat} : ∀ k q, rowGo p k q = true → ∀ i, p * ((q + 2 * i) * (q + 2 * i)) < 4294967296 → filt (q + 2 * i) = true → pairOk p (q + 2 * i) = true := by
  intro k
  induction k with
  | zero => intro q h; cases h
  | succ k ih =>
    intro q h i hi hf
    unfold rowGo at h
    cases hb : Nat.ble 4294967296 (Nat.mul p (Nat.mul q q)) with
    | true =>
      have h1 : 4294967296 ≤ p * (q * q) := Nat.le_of_ble_eq_true hb
      have h2 : p * (q * q) ≤ p * ((q + 2 * i) * (q + 2 * i)) := Nat.mul_le_mul_left _ (Nat.mul_le_mul (by omega) (by omega))
      omega
    | false =>
      rw [hb] at h
      change cond (filt q) (cond (pairOk p q) (rowGo p k (q + 2)) false) (rowGo p k (q + 2)) = true at h
      cases i with
      | zero =>
        rw [Nat.mul_zero, Nat.add_zero] at hf ⊢
        rw [hf] at h
        cases hp : pairOk p q with
        | true => rfl
        | false => rw [hp] at h; cases h
      | succ i =>
        have hr : rowGo p k (q + 2) = true := by
          cases hf2 : filt q with
          | false => rw [hf2] at h; exact h
          | true =>
            rw [hf2] at h
            cases hp : pairOk p q with
            | true => rw [hp] at h; exact h
            | false => rw [hp] at h; cases h
        have e : q + 2 * (i + 1) = q + 2 + 2 * i := by omega
        rw [e] at hi hf ⊢
        exact ih (q + 2) hr i hi hf
def rowsGo : Nat → Nat → Bool
  | 0, _ => true
  | k + 1, p => cond (filt p) (cond (rowGo p 5200 (Nat.add p 2)) (rowsGo k (Nat.add p 2)) false) (rowsGo k (Nat.add p 2))
theorem rowsGo_is : ∀ k p, rowsGo k p = true → ∀ i, i < k → filt (p + 2 * i) = true → rowGo (p + 2 * i) 5200 (p + 2 * i + 2) = true := by
  intro k
  induction k with
  | zero => intro p _ i hi; omega
  | succ k ih =>
    intro p h i hi hf
    unfold rowsGo at h
    change cond (filt p) (cond (rowGo p 5200 (p + 2)) (rowsGo k (p + 2)) false) (rowsGo k (p + 2)) = true at h
    cases i with
    | zero =>
      rw [Nat.mul_zero, Nat.add_zero] at hf ⊢
      rw [hf] at h
      cases hr : rowGo p 5200 (p + 2) with
      | true => rfl
      | false => rw [hr] at h; cases h
    | succ i =>
      have hr : rowsGo k (p + 2) = true := by
        cases hf2 : filt p with
        | false => rw [hf2] at h; exact h
        | true =>
          rw [hf2] at h
          cases hr : rowGo p 5200 (p + 2) with
          | true => rw [hr] at h; exact h
          | false => rw [hr] at h; cases h
      have e : p + 2 * (i + 1) = p + 2 + 2 * i := by omega
      rw [e] at hf ⊢
      exact ih (p + 2) hr i (by omega) hf
end Go.Proofs.YtkhlmcknbangfaaDoor
namespace Go.Proofs.YtkhlmcknbangfaaDoor
set_option linter.unusedVariables false
set_option maxRecDepth 100000
set_option exponentiation.threshold 70000
/-- has some base not 1 as its power by d? -/
def someB (p d : Nat) : Bool := bases12.any fun a => !(Nat.beq (Nat.mod (Nat.pow a d) p) 1)
theorem someB_is {p d : Nat} (h : someB p d = true) (hp : 2 ≤ p) : ¬ ∀ a ∈ bases12, a ^ d % p = 1 % p := by
  intro hall
  unfold someB at h
  rw [List.any_eq_true] at h
  obtain ⟨a, ha, hb⟩ := h
  have := hall a ha
  rw [Nat.mod_eq_of_lt (by omega : 1 < p)] at this
  rw [show Nat.mod (Nat.pow a d) p = 1 from this] at hb
  cases hb
def okAt (p k : Nat) : Bool :=
  cond (Nat.beq (Nat.mod (Nat.sub p 1) k) 0) (cond (cond (Nat.beq k 1) true (someB p (Nat.div (Nat.sub p 1) k))) (cond (Nat.beq k (Nat.sub p 1)) true (someB p k)) false) true
def okGo (p : Nat) : Nat → Bool
  | 0 => true
  | k + 1 => cond (okAt p (k + 1)) (okGo p k) false
theorem okGo_is {p : Nat} : ∀ n, okGo p n = true → ∀ k, 1 ≤ k → k ≤ n → okAt p k = true := by
  intro n
  induction n with
  | zero => intro _ k h1 h2; omega
  | succ n ih =>
    intro h k h1 h2
    unfold okGo at h
    cases hc : okAt p (n + 1) with
    | false => rw [hc] at h; cases h
    | true =>
      rw [hc] at h
      rcases Nat.eq_or_lt_of_le h2 with h3 | h3
      · subst h3; exact hc
      · exact ih h k h1 (by omega)
def okP (p : Nat) : Bool := okGo p 101
theorem okP_some {p d : Nat} (h : okP p = true) (hp : 2 ≤ p) (hl : p ≤ 10404) (hd : d ∣ p - 1) (hlt : d < p - 1) : someB p d = true := by
  obtain ⟨e, he⟩ := hd
  have hd0 : d ≠ 0 := fun e0 => by subst e0; simp at he; omega
  have he2 : 2 ≤ e := by
    rcases Nat.lt_or_ge e 2 with h1 | h1
    · have : e = 0 ∨ e = 1 := by omega
      rcases this with rfl | rfl <;> simp at he <;> omega
    · exact h1
  rcases Nat.lt_or_ge e 102 with h1 | h1
  · have := okGo_is 101 h e (by omega) (by omega)
    unfold okAt at this
    rw [show Nat.mod (Nat.sub p 1) e = 0 from by show (p - 1) % e = 0; rw [he]; exact Nat.mul_mod_left _ _] at this
    rw [show Nat.beq e 1 = false from by cases hb : Nat.beq e 1 with | false => rfl | true => have := Nat.eq_of_beq_eq_true hb; omega] at this
    rw [show Nat.div (Nat.sub p 1) e = d from by show (p - 1) / e = d; rw [he]; exact Nat.mul_div_cancel _ (by omega)] at this
    cases hs : someB p d with
    | true => rfl
    | false => rw [hs] at this; cases this
  · have hd1 : d < 102 := by
      rcases Nat.lt_or_ge d 102 with h2 | h2
      · exact h2
      · have := Nat.mul_le_mul h2 h1; omega
    have := okGo_is 101 h d (by omega) (by omega)
    unfold okAt at this
    rw [show Nat.mod (Nat.sub p 1) d = 0 from by show (p - 1) % d = 0; rw [he]; exact Nat.mul_mod_right _ _] at this
    rw [show Nat.beq d (Nat.sub p 1) = false from by cases hb : Nat.beq d (Nat.sub p 1) with | false => rfl | true => have h3 : d = p - 1 := Nat.eq_of_beq_eq_true hb; omega] at this
    cases hs : someB p d with
    | true => rfl
    | false =>
      rw [hs] at this
      cases hx : (cond (Nat.beq d 1) true (someB p (Nat.div (Nat.sub p 1) d))) with
      | true => rw [hx] at this; cases this
      | false => rw [hx] at this; cases this
/-- the bases' orders are all of p less one -/
theorem okP_dvd {p m : Nat} (hp : Prm p) (h37 : 37 < p) (hl : p ≤ 10404) (ok : okP p = true) (h : ∀ a ∈ bases12, a ^ m % p = 1 % p) : p - 1 ∣ m := by
  have h12 : ∀ a ∈ bases12, 0 < a ∧ a < 38 := by decide
  have hg : ∀ a ∈ bases12, a ^ Nat.gcd m (p - 1) % p = 1 % p := fun a ha => by
    have := h12 a ha
    exact pow_one_gcd _ _ (h a ha) ((hp.little (by rw [Nat.mod_eq_of_lt (by omega)]; omega)).trans (Nat.mod_eq_of_lt hp.1).symm)
  have hd := Nat.gcd_dvd_right m (p - 1)
  rcases Nat.lt_or_ge (Nat.gcd m (p - 1)) (p - 1) with hlt | hge
  · exact absurd hg (someB_is (okP_some ok hp.1 hl hd hlt) hp.1)
  · have := Nat.le_of_dvd (by have := hp.1; omega) hd
    have e : Nat.gcd m (p - 1) = p - 1 := by omega
    rw [← e]; exact Nat.gcd_dvd_left _ _
def oksGo : Nat → Nat → Bool
  | 0, _ => true
  | k + 1, p => cond (filt p) (cond (okP p) (oksGo k (Nat.add p 2)) false) (oksGo k (Nat.add p 2))
theorem oksGo_is : ∀ k p, oksGo k p = true → ∀ i, i < k → filt (p + 2 * i) = true → okP (p + 2 * i) = true := by
  intro k
  induction k with
  | zero => intro p _ i hi; omega
  | succ k ih =>
    intro p h i hi hf
    unfold oksGo at h
    change cond (filt p) (cond (okP p) (oksGo k (p + 2)) false) (oksGo k (p + 2)) = true at h
    cases i with
    | zero =>
      rw [Nat.mul_zero, Nat.add_zero] at hf ⊢
      rw [hf] at h
      cases hr : okP p with
      | true => rfl
      | false => rw [hr] at h; cases h
    | succ i =>
      have hr : oksGo k (p + 2) = true := by
        cases hf2 : filt p with
        | false => rw [hf2] at h; exact h
        | true =>
          rw [hf2] at h
          cases hr : okP p with
          | true => rw [hr] at h; exact h
          | false => rw [hr] at h; cases h
      have e : p + 2 * (i + 1) = p + 2 + 2 * i := by omega
      rw [e] at hf ⊢
      exact ih (p + 2) hr i (by omega) hf
/-- squares -/
def chkA (p : Nat) : Bool := cond (Nat.beq (pw2 (Nat.mul p p) (Nat.sub p 1)) 1) (!(Nat.beq (pwm (Nat.mul p p) 16 3 (Nat.sub p 1)) 1)) true
theorem chkA_is {p : Nat} (h : chkA p = true) (hl : p ≤ 65536) : ¬ (2 ^ (p - 1) % (p * p) = 1 ∧ 3 ^ (p - 1) % (p * p) = 1) := by
  rintro ⟨h2, h3⟩
  unfold chkA at h
  rw [show pw2 (Nat.mul p p) (Nat.sub p 1) = 1 from (pw2_is _ _).trans h2] at h
  rw [show pwm (Nat.mul p p) 16 3 (Nat.sub p 1) = 1 from (pwm_is _ 16 3 _ (by show p - 1 < 2 ^ 16; omega)).trans h3] at h
  cases h
def asGo : Nat → Nat → Bool
  | 0, _ => true
  | k + 1, p => cond (chkA p) (asGo k (Nat.add p 2)) false
theorem asGo_is : ∀ k p, asGo k p = true → ∀ i, i < k → chkA (p + 2 * i) = true := by
  intro k
  induction k with
  | zero => intro p _ i hi; omega
  | succ k ih =>
    intro p h i hi
    unfold asGo at h
    cases hr : chkA p with
    | false => rw [hr] at h; cases h
    | true =>
      rw [hr] at h
      cases i with
      | zero => simpa using hr
      | succ i =>
        have := ih (p + 2) h i (by omega)
        rwa [show p + 2 + 2 * i = p + 2 * (i + 1) by omega] at this
/-- what parts each a^(p-1) less one -/
def gStep (p g a : Nat) : Nat := Nat.gcd g (Nat.add (Nat.mod (Nat.pow a (Nat.sub p 1)) g) (Nat.sub g 1))
def gB (p : Nat) : Nat := ([5, 7, 11] : List Nat).foldl (gStep p) (Nat.gcd (Nat.sub (Nat.pow 2 (Nat.sub p 1)) 1) (Nat.sub (Nat.pow 3 (Nat.sub p 1)) 1))
theorem dvd_less {r a x : Nat} (hr : 2 ≤ r) (h : a ^ x % r = 1 % r) : r ∣ a ^ x - 1 := by
  have h2 := Nat.div_add_mod (a ^ x) r
  rw [h, Nat.mod_eq_of_lt (by omega : 1 < r)] at h2
  exact ⟨a ^ x / r, by omega⟩
theorem gStep_dvd {r p g a : Nat} (hr : 2 ≤ r) (hg : r ∣ g) (h0 : 0 < g) (h : a ^ (p - 1) % r = 1 % r) : r ∣ gStep p g a ∧ 0 < gStep p g a := by
  refine ⟨Nat.dvd_gcd hg ?_, Nat.gcd_pos_of_pos_left _ h0⟩
  show r ∣ a ^ (p - 1) % g + (g - 1)
  have h2 : a ^ (p - 1) % g % r = 1 % r := by rw [Nat.mod_mod_of_dvd _ hg, h]
  obtain ⟨k, rfl⟩ := hg
  have h3 := Nat.div_add_mod (a ^ (p - 1) % (r * k)) r
  rw [h2, Nat.mod_eq_of_lt (by omega : 1 < r)] at h3
  exact ⟨a ^ (p - 1) % (r * k) / r + k, by rw [Nat.mul_add]; omega⟩
theorem gs_dvd {r p : Nat} (hr : 2 ≤ r) (h : ∀ a ∈ bases12, a ^ (p - 1) % r = 1 % r) : ∀ L : List Nat, (∀ a ∈ L, a ∈ bases12) → ∀ g, r ∣ g → 0 < g → r ∣ L.foldl (gStep p) g ∧ 0 < L.foldl (gStep p) g := by
  intro L
  induction L with
  | nil => intro _ g hg h0; exact ⟨hg, h0⟩
  | cons a L ih =>
    intro hL g hg h0
    obtain ⟨k1, k2⟩ := gStep_dvd (p := p) hr hg h0 (h a (hL a (by simp)))
    exact ih (fun b hb => hL b (by simp [hb])) _ k1 k2
theorem gB_dvd {r p : Nat} (hp : 2 ≤ p) (hr : 2 ≤ r) (h : ∀ a ∈ bases12, a ^ (p - 1) % r = 1 % r) : r ∣ gB p ∧ 0 < gB p := by
  refine gs_dvd hr h _ (by decide) _ (Nat.dvd_gcd (dvd_less hr (h 2 (by decide))) (dvd_less hr (h 3 (by decide)))) (Nat.gcd_pos_of_pos_left _ ?_)
  show 0 < 2 ^ (p - 1) - 1
  have : 2 ^ 1 ≤ 2 ^ (p - 1) := Nat.pow_le_pow_right (by omega) (by omega)
  omega
def gB2 (p g : Nat) : Nat := ([13, 17, 19, 23, 29, 31, 37] : List Nat).foldl (gStep p) g
def accGo (p g : Nat) : Nat → Nat → Nat → Nat
  | 0, _, acc => acc
  | f + 1, k, acc => cond (Nat.beq (Nat.mod (Nat.sub p 1) k) 0) (accGo p g f (Nat.add k 1) (Nat.mod (Nat.mul (Nat.mul acc (Nat.add k 1)) (Nat.add (Nat.div (Nat.sub p 1) k) 1)) g)) (accGo p g f (Nat.add k 1) acc)
theorem accGo_dvd {r p g : Nat} (hp : 2 ≤ p) (hr : Prm r) (hg : r ∣ g) (hlt : p < r) : ∀ f k acc, 1 ≤ k → k + f ≤ p → ¬ r ∣ acc → ¬ r ∣ accGo p g f k acc := by
  intro f
  induction f with
  | zero => intro k acc _ _ h; exact h
  | succ f ih =>
    intro k acc hk hkf h
    unfold accGo
    cases hb : Nat.beq (Nat.mod (Nat.sub p 1) k) 0 with
    | false => exact ih (k + 1) acc (by omega) (by omega) h
    | true =>
      refine ih (k + 1) _ (by omega) (by omega) fun hd => ?_
      have hd2 : r ∣ acc * (k + 1) * ((p - 1) / k + 1) := (Nat.dvd_mod_iff hg).1 hd
      have hle : ∀ x, 0 < x → x ≤ p → ¬ r ∣ x := fun x h0 hx hdx => by have := Nat.le_of_dvd h0 hdx; omega
      rcases hr.dvd_mul hd2 with h1 | h1
      · rcases hr.dvd_mul h1 with h2 | h2
        · exact h h2
        · exact hle _ (by omega) (by omega) h2
      · have h9 := Nat.div_le_self (p - 1) k
        exact hle ((p - 1) / k + 1) (Nat.succ_pos _) (Nat.le_trans (Nat.succ_le_succ h9) (by omega)) h1
def chkG (p g : Nat) : Bool := cond (Nat.ble g 1) true (Nat.beq (Nat.mod (Nat.pow (accGo p g (Nat.min 256 (Nat.sub p 1)) 1 1) 2) g) 0)
theorem chkG_is {p r g : Nat} (h : chkG p g = true) (hp : 2 ≤ p) (hr : Prm r) (hg : r ∣ g) (hg0 : 0 < g) : r ≤ p := by
  rcases Nat.lt_or_ge p r with hlt | hge
  · exfalso
    unfold chkG at h
    cases hb : Nat.ble g 1 with
    | true =>
      have := Nat.le_of_ble_eq_true hb
      have h2 := hr.1
      have := Nat.le_of_dvd hg0 hg
      omega
    | false =>
      rw [hb] at h
      have h1 : accGo p g (Nat.min 256 (Nat.sub p 1)) 1 1 ^ 2 % g = 0 := Nat.eq_of_beq_eq_true h
      have h2 := Nat.dvd_trans hg (Nat.dvd_of_mod_eq_zero h1)
      rw [Nat.pow_two] at h2
      have h3 : r ∣ accGo p g (Nat.min 256 (Nat.sub p 1)) 1 1 := (hr.dvd_mul h2).elim id id
      refine accGo_dvd hp hr hg hlt _ 1 1 (Nat.le_refl _) ?_ (fun hd => ?_) h3
      · show 1 + min 256 (p - 1) ≤ p
        omega
      · have := Nat.le_of_dvd (by omega) hd
        have := hr.1
        omega
  · exact hge
def chkB2 (p g : Nat) : Bool := cond (chkG p g) true (chkG p (gB2 p g))
def chkB (p : Nat) : Bool := chkB2 p (gB p)
theorem chkB_is {p r : Nat} (h : chkB p = true) (hp : 2 ≤ p) (hr : Prm r) (ha : ∀ a ∈ bases12, a ^ (p - 1) % r = 1 % r) : r ≤ p := by
  obtain ⟨hg, hg0⟩ := gB_dvd hp hr.1 ha
  unfold chkB at h
  generalize gB p = g at *
  unfold chkB2 at h
  cases hc : chkG p g with
  | true => exact chkG_is hc hp hr hg hg0
  | false =>
    rw [hc] at h
    obtain ⟨k1, k2⟩ := gs_dvd hr.1 ha [13, 17, 19, 23, 29, 31, 37] (by decide) g hg hg0
    exact chkG_is (show chkG p (gB2 p g) = true from h) hp hr k1 k2
end Go.Proofs.YtkhlmcknbangfaaDoor
namespace Go.Proofs.YtkhlmcknbangfaaDoor
set_option maxRecDepth 100000
set_option exponentiation.threshold 70000
theorem as_0 : asGo 4100 41 = true := by decide +kernel
theorem as_1 : asGo 4100 8241 = true := by decide +kernel
theorem as_2 : asGo 4100 16441 = true := by decide +kernel
theorem as_3 : asGo 4100 24641 = true := by decide +kernel
theorem as_4 : asGo 4100 32841 = true := by decide +kernel
theorem as_5 : asGo 4100 41041 = true := by decide +kernel
theorem as_6 : asGo 4100 49241 = true := by decide +kernel
theorem as_7 : asGo 4048 57441 = true := by decide +kernel
theorem oks : oksGo 5098 41 = true := by decide +kernel
end Go.Proofs.YtkhlmcknbangfaaDoor
namespace Go.Proofs.YtkhlmcknbangfaaDoor
set_option linter.unusedVariables false
set_option maxRecDepth 100000
def primes251 : List Nat := [2, 3, 5, 7, 11, 13, 17, 19, 23, 29, 31, 37, 41, 43, 47, 53, 59, 61, 67, 71, 73, 79, 83, 89, 97, 101, 103, 107, 109, 113, 127, 131, 137, 139, 149, 151, 157, 163, 167, 173, 179, 181, 191, 193, 197, 199, 211, 223, 227, 229, 233, 239, 241, 251]
def p251 : Nat := 64266330917908644872330635228106713310880186591609208114244758680898150367880703152525200743234420230
theorem p251_is : p251 = primes251.foldr (· * ·) 1 := by decide +kernel
def filt2 (q : Nat) : Bool := cond (Nat.ble q 251) (primes251.contains q) (Nat.beq (Nat.gcd q p251) 1)
theorem filt2_small : ∀ q, q < 252 → 41 ≤ q → primes251.contains q || ([2, 3, 5, 7, 11, 13].any fun d => decide (d < q) && q % d == 0) = true := by decide +kernel
theorem primes251_lt : ∀ x ∈ primes251, 0 < x ∧ x ≤ 251 := by decide +kernel
theorem filt2_prm {q : Nat} (hq : Prm q) (h : 41 ≤ q) : filt2 q = true := by
  unfold filt2
  cases hb : Nat.ble q 251 with
  | true =>
    have h1 := Nat.le_of_ble_eq_true hb
    have := filt2_small q (by omega) h
    simp only [Bool.or_eq_true, List.any_eq_true, Bool.and_eq_true, decide_eq_true_eq, beq_iff_eq] at this
    rcases this with h2 | ⟨d, hd, h2, h3⟩
    · exact h2
    · rcases hq.2 d (Nat.dvd_of_mod_eq_zero h3) with h4 | h4
      · subst h4; simp at hd
      · omega
  | false =>
    have h1 : 251 < q := by
      rcases Nat.lt_or_ge 251 q with h2 | h2
      · exact h2
      · rw [Nat.ble_eq_true_of_le h2] at hb; cases hb
    have h2 : Nat.gcd q p251 = 1 := hq.coprime fun hd => by
      rw [p251_is] at hd
      obtain ⟨x, hx, hd⟩ := hq.of_prod _ hd
      have := Nat.le_of_dvd (primes251_lt x hx).1 hd
      have := (primes251_lt x hx).2
      omega
    show Nat.beq (Nat.gcd q p251) 1 = true
    rw [h2]; rfl
def bsGo : Nat → Nat → Bool
  | 0, _ => true
  | k + 1, p => cond (filt2 p) (cond (chkB p) (bsGo k (Nat.add p 2)) false) (bsGo k (Nat.add p 2))
theorem bsGo_is : ∀ k p, bsGo k p = true → ∀ i, i < k → filt2 (p + 2 * i) = true → chkB (p + 2 * i) = true := by
  intro k
  induction k with
  | zero => intro p _ i hi; omega
  | succ k ih =>
    intro p h i hi hf
    unfold bsGo at h
    change cond (filt2 p) (cond (chkB p) (bsGo k (p + 2)) false) (bsGo k (p + 2)) = true at h
    cases i with
    | zero =>
      rw [Nat.mul_zero, Nat.add_zero] at hf ⊢
      rw [hf] at h
      cases hr : chkB p with
      | true => rfl
      | false => rw [hr] at h; cases h
    | succ i =>
      have hr : bsGo k (p + 2) = true := by
        cases hf2 : filt2 p with
        | false => rw [hf2] at h; exact h
        | true =>
          rw [hf2] at h
          cases hr : chkB p with
          | true => rw [hr] at h; exact h
          | false => rw [hr] at h; cases h
      have e : p + 2 * (i + 1) = p + 2 + 2 * i := by omega
      rw [e] at hf ⊢
      exact ih (p + 2) hr i (by omega) hf
end Go.Proofs.YtkhlmcknbangfaaDoor
namespace Go.Proofs.YtkhlmcknbangfaaDoor
set_option maxRecDepth 100000
set_option exponentiation.threshold 70000
theorem bs_0 : bsGo 2050 41 = true := by decide +kernel
theorem bs_1 : bsGo 2050 4141 = true := by decide +kernel
theorem bs_2 : bsGo 2050 8241 = true := by decide +kernel
theorem bs_3 : bsGo 2050 12341 = true := by decide +kernel
theorem bs_4 : bsGo 2050 16441 = true := by decide +kernel
theorem bs_5 : bsGo 2050 20541 = true := by decide +kernel
theorem bs_6 : bsGo 2050 24641 = true := by decide +kernel
theorem bs_7 : bsGo 2050 28741 = true := by decide +kernel
end Go.Proofs.YtkhlmcknbangfaaDoor
namespace Go.Proofs.YtkhlmcknbangfaaDoor
set_option maxRecDepth 100000
set_option exponentiation.threshold 70000
theorem bs_8 : bsGo 2050 32841 = true := by decide +kernel
theorem bs_9 : bsGo 2050 36941 = true := by decide +kernel
theorem bs_10 : bsGo 2050 41041 = true := by decide +kernel
end Go.Proofs.YtkhlmcknbangfaaDoor
namespace Go.Proofs.YtkhlmcknbangfaaDoor
set_option maxRecDepth 100000
set_option exponentiation.threshold 70000
theorem bs_11 : bsGo 2050 45141 = true := by decide +kernel
theorem bs_12 : bsGo 2050 49241 = true := by decide +kernel
theorem bs_13 : bsGo 2050 53341 = true := by decide +kernel
end Go.Proofs.YtkhlmcknbangfaaDoor
namespace Go.Proofs.YtkhlmcknbangfaaDoor
set_option maxRecDepth 100000
set_option exponentiation.threshold 70000
theorem bs_14 : bsGo 2050 57441 = true := by decide +kernel
theorem bs_15 : bsGo 1998 61541 = true := by decide +kernel
end Go.Proofs.YtkhlmcknbangfaaDoor
namespace Go.Proofs.YtkhlmcknbangfaaDoor
set_option maxRecDepth 100000
set_option exponentiation.threshold 70000
theorem rows_0 : rowsGo 1 41 = true := by decide +kernel
theorem rows_1 : rowsGo 2 43 = true := by decide +kernel
theorem rows_2 : rowsGo 7 47 = true := by decide +kernel
theorem rows_3 : rowsGo 40 61 = true := by decide +kernel
theorem rows_4 : rowsGo 743 141 = true := by decide +kernel
end Go.Proofs.YtkhlmcknbangfaaDoor
namespace Go.Proofs.YtkhlmcknbangfaaDoor
set_option linter.unusedVariables false
set_option maxRecDepth 100000
theorem Prm.odd {p : Nat} (hp : Prm p) (h : 3 ≤ p) : p % 2 = 1 := by
  rcases Nat.mod_two_eq_zero_or_one p with h0 | h0
  · rcases hp.2 2 (Nat.dvd_of_mod_eq_zero h0) with h1 | h1 <;> omega
  · exact h0
theorem a_at {i : Nat} (h : i < 32748) : chkA (41 + 2 * i) = true := by
  rcases Nat.lt_or_ge i 4100 with h0 | h0
  · have := asGo_is 4100 41 as_0 (i - 0) (by omega)
    rwa [show 41 + 2 * (i - 0) = 41 + 2 * i by omega] at this
  rcases Nat.lt_or_ge i 8200 with h1 | h1
  · have := asGo_is 4100 8241 as_1 (i - 4100) (by omega)
    rwa [show 8241 + 2 * (i - 4100) = 41 + 2 * i by omega] at this
  rcases Nat.lt_or_ge i 12300 with h2 | h2
  · have := asGo_is 4100 16441 as_2 (i - 8200) (by omega)
    rwa [show 16441 + 2 * (i - 8200) = 41 + 2 * i by omega] at this
  rcases Nat.lt_or_ge i 16400 with h3 | h3
  · have := asGo_is 4100 24641 as_3 (i - 12300) (by omega)
    rwa [show 24641 + 2 * (i - 12300) = 41 + 2 * i by omega] at this
  rcases Nat.lt_or_ge i 20500 with h4 | h4
  · have := asGo_is 4100 32841 as_4 (i - 16400) (by omega)
    rwa [show 32841 + 2 * (i - 16400) = 41 + 2 * i by omega] at this
  rcases Nat.lt_or_ge i 24600 with h5 | h5
  · have := asGo_is 4100 41041 as_5 (i - 20500) (by omega)
    rwa [show 41041 + 2 * (i - 20500) = 41 + 2 * i by omega] at this
  rcases Nat.lt_or_ge i 28700 with h6 | h6
  · have := asGo_is 4100 49241 as_6 (i - 24600) (by omega)
    rwa [show 49241 + 2 * (i - 24600) = 41 + 2 * i by omega] at this
  have := asGo_is 4048 57441 as_7 (i - 28700) (by omega)
  rwa [show 57441 + 2 * (i - 28700) = 41 + 2 * i by omega] at this
theorem b_at {i : Nat} (h : i < 32748) (hf : filt2 (41 + 2 * i) = true) : chkB (41 + 2 * i) = true := by
  rcases Nat.lt_or_ge i 2050 with h0 | h0
  · have := bsGo_is 2050 41 bs_0 (i - 0) (by omega) (by rw [show 41 + 2 * (i - 0) = 41 + 2 * i by omega]; exact hf)
    rwa [show 41 + 2 * (i - 0) = 41 + 2 * i by omega] at this
  rcases Nat.lt_or_ge i 4100 with h1 | h1
  · have := bsGo_is 2050 4141 bs_1 (i - 2050) (by omega) (by rw [show 4141 + 2 * (i - 2050) = 41 + 2 * i by omega]; exact hf)
    rwa [show 4141 + 2 * (i - 2050) = 41 + 2 * i by omega] at this
  rcases Nat.lt_or_ge i 6150 with h2 | h2
  · have := bsGo_is 2050 8241 bs_2 (i - 4100) (by omega) (by rw [show 8241 + 2 * (i - 4100) = 41 + 2 * i by omega]; exact hf)
    rwa [show 8241 + 2 * (i - 4100) = 41 + 2 * i by omega] at this
  rcases Nat.lt_or_ge i 8200 with h3 | h3
  · have := bsGo_is 2050 12341 bs_3 (i - 6150) (by omega) (by rw [show 12341 + 2 * (i - 6150) = 41 + 2 * i by omega]; exact hf)
    rwa [show 12341 + 2 * (i - 6150) = 41 + 2 * i by omega] at this
  rcases Nat.lt_or_ge i 10250 with h4 | h4
  · have := bsGo_is 2050 16441 bs_4 (i - 8200) (by omega) (by rw [show 16441 + 2 * (i - 8200) = 41 + 2 * i by omega]; exact hf)
    rwa [show 16441 + 2 * (i - 8200) = 41 + 2 * i by omega] at this
  rcases Nat.lt_or_ge i 12300 with h5 | h5
  · have := bsGo_is 2050 20541 bs_5 (i - 10250) (by omega) (by rw [show 20541 + 2 * (i - 10250) = 41 + 2 * i by omega]; exact hf)
    rwa [show 20541 + 2 * (i - 10250) = 41 + 2 * i by omega] at this
  rcases Nat.lt_or_ge i 14350 with h6 | h6
  · have := bsGo_is 2050 24641 bs_6 (i - 12300) (by omega) (by rw [show 24641 + 2 * (i - 12300) = 41 + 2 * i by omega]; exact hf)
    rwa [show 24641 + 2 * (i - 12300) = 41 + 2 * i by omega] at this
  rcases Nat.lt_or_ge i 16400 with h7 | h7
  · have := bsGo_is 2050 28741 bs_7 (i - 14350) (by omega) (by rw [show 28741 + 2 * (i - 14350) = 41 + 2 * i by omega]; exact hf)
    rwa [show 28741 + 2 * (i - 14350) = 41 + 2 * i by omega] at this
  rcases Nat.lt_or_ge i 18450 with h8 | h8
  · have := bsGo_is 2050 32841 bs_8 (i - 16400) (by omega) (by rw [show 32841 + 2 * (i - 16400) = 41 + 2 * i by omega]; exact hf)
    rwa [show 32841 + 2 * (i - 16400) = 41 + 2 * i by omega] at this
  rcases Nat.lt_or_ge i 20500 with h9 | h9
  · have := bsGo_is 2050 36941 bs_9 (i - 18450) (by omega) (by rw [show 36941 + 2 * (i - 18450) = 41 + 2 * i by omega]; exact hf)
    rwa [show 36941 + 2 * (i - 18450) = 41 + 2 * i by omega] at this
  rcases Nat.lt_or_ge i 22550 with h10 | h10
  · have := bsGo_is 2050 41041 bs_10 (i - 20500) (by omega) (by rw [show 41041 + 2 * (i - 20500) = 41 + 2 * i by omega]; exact hf)
    rwa [show 41041 + 2 * (i - 20500) = 41 + 2 * i by omega] at this
  rcases Nat.lt_or_ge i 24600 with h11 | h11
  · have := bsGo_is 2050 45141 bs_11 (i - 22550) (by omega) (by rw [show 45141 + 2 * (i - 22550) = 41 + 2 * i by omega]; exact hf)
    rwa [show 45141 + 2 * (i - 22550) = 41 + 2 * i by omega] at this
  rcases Nat.lt_or_ge i 26650 with h12 | h12
  · have := bsGo_is 2050 49241 bs_12 (i - 24600) (by omega) (by rw [show 49241 + 2 * (i - 24600) = 41 + 2 * i by omega]; exact hf)
    rwa [show 49241 + 2 * (i - 24600) = 41 + 2 * i by omega] at this
  rcases Nat.lt_or_ge i 28700 with h13 | h13
  · have := bsGo_is 2050 53341 bs_13 (i - 26650) (by omega) (by rw [show 53341 + 2 * (i - 26650) = 41 + 2 * i by omega]; exact hf)
    rwa [show 53341 + 2 * (i - 26650) = 41 + 2 * i by omega] at this
  rcases Nat.lt_or_ge i 30750 with h14 | h14
  · have := bsGo_is 2050 57441 bs_14 (i - 28700) (by omega) (by rw [show 57441 + 2 * (i - 28700) = 41 + 2 * i by omega]; exact hf)
    rwa [show 57441 + 2 * (i - 28700) = 41 + 2 * i by omega] at this
  have := bsGo_is 1998 61541 bs_15 (i - 30750) (by omega) (by rw [show 61541 + 2 * (i - 30750) = 41 + 2 * i by omega]; exact hf)
  rwa [show 61541 + 2 * (i - 30750) = 41 + 2 * i by omega] at this
theorem c_at {i : Nat} (h : i < 793) (hf : filt (41 + 2 * i) = true) : rowGo (41 + 2 * i) 5200 (41 + 2 * i + 2) = true := by
  rcases Nat.lt_or_ge i 1 with h0 | h0
  · have := rowsGo_is 1 41 rows_0 (i - 0) (by omega) (by rw [show 41 + 2 * (i - 0) = 41 + 2 * i by omega]; exact hf)
    rwa [show 41 + 2 * (i - 0) = 41 + 2 * i by omega] at this
  rcases Nat.lt_or_ge i 3 with h1 | h1
  · have := rowsGo_is 2 43 rows_1 (i - 1) (by omega) (by rw [show 43 + 2 * (i - 1) = 41 + 2 * i by omega]; exact hf)
    rwa [show 43 + 2 * (i - 1) = 41 + 2 * i by omega] at this
  rcases Nat.lt_or_ge i 10 with h2 | h2
  · have := rowsGo_is 7 47 rows_2 (i - 3) (by omega) (by rw [show 47 + 2 * (i - 3) = 41 + 2 * i by omega]; exact hf)
    rwa [show 47 + 2 * (i - 3) = 41 + 2 * i by omega] at this
  rcases Nat.lt_or_ge i 50 with h3 | h3
  · have := rowsGo_is 40 61 rows_3 (i - 10) (by omega) (by rw [show 61 + 2 * (i - 10) = 41 + 2 * i by omega]; exact hf)
    rwa [show 61 + 2 * (i - 10) = 41 + 2 * i by omega] at this
  have := rowsGo_is 743 141 rows_4 (i - 50) (by omega) (by rw [show 141 + 2 * (i - 50) = 41 + 2 * i by omega]; exact hf)
  rwa [show 141 + 2 * (i - 50) = 41 + 2 * i by omega] at this
theorem all_A {p : Nat} (hp : Prm p) (h1 : 41 ≤ p) (h2 : p < 65536) : chkA p = true := by
  have := hp.odd (by omega)
  obtain ⟨i, rfl⟩ : ∃ i, p = 41 + 2 * i := ⟨(p - 41) / 2, by omega⟩
  exact a_at (by omega)
theorem all_B {p : Nat} (hp : Prm p) (h1 : 41 ≤ p) (h2 : p < 65536) : chkB p = true := by
  have := hp.odd (by omega)
  have hf := filt2_prm hp h1
  obtain ⟨i, rfl⟩ : ∃ i, p = 41 + 2 * i := ⟨(p - 41) / 2, by omega⟩
  exact b_at (by omega) hf
theorem all_ok {p : Nat} (hp : Prm p) (h1 : 41 ≤ p) (h2 : p < 10237) : okP p = true := by
  have := hp.odd (by omega)
  have hf := filt_prm hp h1
  obtain ⟨i, rfl⟩ : ∃ i, p = 41 + 2 * i := ⟨(p - 41) / 2, by omega⟩
  exact oksGo_is 5098 41 oks i (by omega) hf
theorem all_C {p q : Nat} (hp : Prm p) (hq : Prm q) (h1 : 41 ≤ p) (h2 : p < q) (hl : p * (q * q) < 4294967296) : p < 1626 ∧ q < 10237 ∧ pairOk p q = true := by
  have op := hp.odd (by omega)
  have oq := hq.odd (by omega)
  have hp2 : p < 1626 := by
    rcases Nat.lt_or_ge p 1626 with h | h
    · exact h
    · have := Nat.mul_le_mul h (Nat.mul_le_mul (show 1626 ≤ q by omega) (show 1626 ≤ q by omega)); omega
  have hq2 : q < 10237 := by
    rcases Nat.lt_or_ge q 10237 with h | h
    · exact h
    · have := Nat.mul_le_mul h1 (Nat.mul_le_mul h h); omega
  refine ⟨hp2, hq2, ?_⟩
  have fp := filt_prm hp h1
  have fq := filt_prm hq (by omega)
  obtain ⟨j, rfl⟩ : ∃ j, q = p + 2 + 2 * j := ⟨(q - p - 2) / 2, by omega⟩
  obtain ⟨i, rfl⟩ : ∃ i, p = 41 + 2 * i := ⟨(p - 41) / 2, by omega⟩
  exact rowGo_is 5200 _ (c_at (by omega) fp) j hl fq
theorem psp32 {n : Nat} (hn : ¬ (n % 2 = 0 ∨ n < 2)) (hl : n < 4294967296) (h : ∀ b ∈ bases12, tellsN n b = false) : Prm n := by
  apply Classical.byContradiction
  intro hc
  have hF : ∀ b ∈ bases12, ¬ b ∣ n ∧ b % n ≠ 0 ∧ b ^ (n - 1) % n = 1 := fun b hb => base_free hn (bases_prm b hb) (h b hb) hc
  have big : ∀ r, Prm r → r ∣ n → 41 ≤ r := fun r hr hd => by
    rcases Nat.lt_or_ge r 41 with h1 | h1
    · exact absurd hd (hF r (prm_bases hr h1)).1
    · exact h1
  have nosq : ∀ r, Prm r → ¬ r * r ∣ n := fun r hr hd => by
    have h1 := big r hr (Nat.dvd_trans (Nat.dvd_mul_right r r) hd)
    have h2 := Nat.le_of_dvd (by omega) hd
    have h3 : r < 65536 := by
      rcases Nat.lt_or_ge r 65536 with h | h
      · exact h
      · have := Nat.mul_le_mul h h; omega
    have one : 1 % (r * r) = 1 := Nat.mod_eq_of_lt (by have := Nat.mul_le_mul h1 h1; omega)
    have a2 := no_square (by omega) hr hd (a := 2) (by rw [Nat.mod_eq_of_lt (by omega)]; omega) (hF 2 (by decide)).2.2
    have a3 := no_square (by omega) hr hd (a := 3) (by rw [Nat.mod_eq_of_lt (by omega)]; omega) (hF 3 (by decide)).2.2
    exact chkA_is (all_A hr h1 h3) (by omega) ⟨a2.trans one, a3.trans one⟩
  obtain ⟨p, hp, ⟨m, rfl⟩, hmin⟩ := least_prime (show 2 ≤ n by omega)
  have hp41 := big p hp (Nat.dvd_mul_right p m)
  have hm2 : 2 ≤ m := by
    rcases Nat.lt_or_ge m 2 with h1 | h1
    · have : m = 0 ∨ m = 1 := by omega
      rcases this with rfl | rfl
      · simp at hn
      · rw [Nat.mul_one] at hc; exact absurd hp hc
    · exact h1
  obtain ⟨q, hq, ⟨t, rfl⟩, hqmin⟩ := least_prime hm2
  have hqn : q ∣ p * (q * t) := Nat.dvd_trans (Nat.dvd_mul_right q t) (Nat.dvd_mul_left _ p)
  have hpq : p < q := by
    have h1 := hmin q hq hqn
    rcases Nat.eq_or_lt_of_le h1 with h2 | h2
    · subst h2
      exact absurd ⟨t, by rw [Nat.mul_assoc]⟩ (nosq p hp)
    · exact h2
  have hp0 : 0 < p := by omega
  have hq0 : 0 < q := by omega
  have ht0 : 0 < t := by
    rcases Nat.eq_zero_or_pos t with h1 | h1
    · subst h1; simp at hm2
    · exact h1
  have en : p * (q * t) = p * q * t := (Nat.mul_assoc p q t).symm
  rcases Nat.lt_or_ge 1 t with ht | ht
  · have htq : q ≤ t := by
      obtain ⟨r, hr, hd⟩ := Prm.some (show 2 ≤ t by omega)
      have h1 := hqmin r hr (Nat.dvd_trans hd (Nat.dvd_mul_left t q))
      have h2 := Nat.le_of_dvd ht0 hd
      omega
    have hlt : p * (q * q) < 4294967296 := Nat.lt_of_le_of_lt (Nat.mul_le_mul_left _ (Nat.mul_le_mul_left _ htq)) hl
    obtain ⟨b1, b2, hok⟩ := all_C hp hq hp41 hpq hlt
    have d1 := okP_dvd (m := p * (q * t) - 1) hp (by omega) (by omega) (all_ok hp hp41 (by omega)) (fun a ha => one_of_dvd (hF a ha).2.2 (Nat.dvd_mul_right p _))
    have d2 := okP_dvd (m := p * (q * t) - 1) hq (by omega) (by omega) (all_ok hq (by omega) b2) (fun a ha => one_of_dvd (hF a ha).2.2 hqn)
    rw [en] at d1 d2 hl hn h hF
    have hcand := pair_told hok hp.1 hq.1 ht0 hl d1 d2
    unfold candOk at hcand
    have g1 : Nat.gcd t prim37 = 1 := by
      apply Classical.byContradiction
      intro hg
      obtain ⟨r, hr, hd⟩ := Prm.some (show 2 ≤ Nat.gcd t prim37 by have := Nat.gcd_pos_of_pos_left prim37 ht0; omega)
      have h1 := Nat.dvd_trans hd (Nat.gcd_dvd_right t prim37)
      have h2 := Nat.dvd_trans hd (Nat.gcd_dvd_left t prim37)
      rw [show prim37 = ([2, 3, 5, 7, 11, 13, 17, 19, 23, 29, 31, 37] : List Nat).foldr (· * ·) 1 by decide +kernel] at h1
      obtain ⟨x, hx, hd2⟩ := hr.of_prod _ h1
      rcases (bases_prm x hx).2 r hd2 with h3 | h3
      · have := hr.1; omega
      · subst h3
        exact (hF r hx).1 (Nat.dvd_trans h2 (Nat.dvd_mul_left t _))
    rw [g1] at hcand
    rw [show pw2 (Nat.mul (p * q) t) (Nat.sub (Nat.mul (p * q) t) 1) = 1 from (pw2_is _ _).trans (hF 2 (by decide)).2.2] at hcand
    have st : ∀ b ∈ bases12, strong b (p * q * t) = true := fun b hb => strong_of hn hl (hF b hb).2.1 (h b hb)
    rw [show strong 2 (Nat.mul (p * q) t) = true from st 2 (by decide), show strong 3 (Nat.mul (p * q) t) = true from st 3 (by decide), show strong 5 (Nat.mul (p * q) t) = true from st 5 (by decide), show strong 7 (Nat.mul (p * q) t) = true from st 7 (by decide), show strong 11 (Nat.mul (p * q) t) = true from st 11 (by decide)] at hcand
    cases hcand
  · have ht1 : t = 1 := by omega
    subst ht1
    rw [Nat.mul_one] at *
    have h3 : p < 65536 := by
      rcases Nat.lt_or_ge p 65536 with h | h
      · exact h
      · have := Nat.mul_le_mul h (show 65536 ≤ q by omega); omega
    have := chkB_is (all_B hp hp41 h3) hp.1 hq (fun a ha => by
      have h1 := one_of_dvd (hF a ha).2.2 hqn
      have h2 : p * q - 1 = (q - 1) * p + (p - 1) := by
        obtain ⟨s, rfl⟩ : ∃ s, q = s + 1 := ⟨q - 1, by omega⟩
        rw [Nat.mul_add, Nat.add_sub_cancel, Nat.mul_comm s p]; omega
      rw [h2, Nat.pow_add, Nat.mul_mod] at h1
      have ha2 : a % q ≠ 0 := by
        have : ∀ b ∈ bases12, 0 < b ∧ b < 38 := by decide
        have := this a ha
        rw [Nat.mod_eq_of_lt (by omega)]; omega
      have h4 : a ^ (q - 1) % q = 1 % q := (hq.little ha2).trans (Nat.mod_eq_of_lt hq.1).symm
      rw [pow_one_mul h4 p, ← Nat.mul_mod, Nat.one_mul] at h1
      exact h1)
    omega
end Go.Proofs.YtkhlmcknbangfaaDoor
