/- Plain arithmetic: who is a prime by powers (Pocklington); 2 to the 127, 107 and 89, less one, are primes. No program. -/
import Derived.Test.YtcieddigjfpecaaDoorMaths
namespace Go.Proofs.YtcieddigjfpecaaDoor
set_option linter.unusedVariables false
set_option maxRecDepth 100000

theorem Prm.some {n : Nat} : 2 ≤ n → ∃ p, Prm p ∧ p ∣ n := by
  induction n using Nat.strongRecOn with
  | ind n ih =>
    intro h
    by_cases hp : Prm n
    · exact ⟨n, hp, Nat.dvd_refl n⟩
    · have : ∃ m, m ∣ n ∧ m ≠ 1 ∧ m ≠ n := by
        apply Classical.byContradiction
        intro hc
        apply hp
        refine ⟨h, fun m hm => ?_⟩
        rcases Nat.decEq m 1 with h1 | h1
        · rcases Nat.decEq m n with h2 | h2
          · exact absurd ⟨m, hm, h1, h2⟩ hc
          · exact .inr h2
        · exact .inl h1
      obtain ⟨m, hm, h1, h2⟩ := this
      have hle := Nat.le_of_dvd (by omega) hm
      have h0 : m ≠ 0 := fun h0 => by subst h0; have := Nat.eq_zero_of_zero_dvd hm; omega
      obtain ⟨p, hp', hd⟩ := ih m (by omega) (by omega)
      exact ⟨p, hp', Nat.dvd_trans hd hm⟩
/-- a number all of whose prime divisors are above its root is a prime -/
theorem prm_of_large {n : Nat} (h2 : 2 ≤ n) (h : ∀ p, Prm p → p ∣ n → n < p * p) : Prm n := by
  refine ⟨h2, fun m hm => ?_⟩
  apply Classical.byContradiction
  intro hc
  have h1 : m ≠ 1 := fun e => hc (.inl e)
  have h3 : m ≠ n := fun e => hc (.inr e)
  obtain ⟨k, hk⟩ := hm
  have hm0 : m ≠ 0 := fun e => by subst e; simp at hk; omega
  have hk0 : k ≠ 0 := fun e => by subst e; simp at hk; omega
  have hk1 : k ≠ 1 := fun e => by subst e; simp at hk; omega
  obtain ⟨p, hp, hpd⟩ := Prm.some (show 2 ≤ m by omega)
  obtain ⟨q, hq, hqd⟩ := Prm.some (show 2 ≤ k by omega)
  have hpl := Nat.le_of_dvd (by omega) hpd
  have hql := Nat.le_of_dvd (by omega) hqd
  have hpq : p * q ≤ n := by rw [hk]; exact Nat.mul_le_mul hpl hql
  rcases Nat.le_total p q with hl | hl
  · have := h p hp (Nat.dvd_trans hpd ⟨k, hk⟩)
    have := Nat.mul_le_mul_left p hl
    omega
  · have := h q hq (Nat.dvd_trans hqd ⟨m, by rw [hk, Nat.mul_comm]⟩)
    have := Nat.mul_le_mul_right q hl
    omega
theorem pow_one_mul {a p x : Nat} (h : a ^ x % p = 1 % p) (k : Nat) : a ^ (x * k) % p = 1 % p := by
  rw [Nat.pow_mul, Nat.pow_mod, h, ← Nat.pow_mod, Nat.one_pow]
theorem pow_one_gcd {a p : Nat} : ∀ y x, a ^ x % p = 1 % p → a ^ y % p = 1 % p → a ^ Nat.gcd x y % p = 1 % p := by
  intro y
  induction y using Nat.strongRecOn with
  | ind y ih =>
    intro x hx hy
    rcases Nat.eq_zero_or_pos y with h0 | h0
    · subst h0; rw [Nat.gcd_zero_right]; exact hx
    · have e : Nat.gcd x y = Nat.gcd y (x % y) := by rw [Nat.gcd_comm x y, Nat.gcd_rec y x, Nat.gcd_comm]
      rw [e]
      refine ih (x % y) (Nat.mod_lt _ h0) y hy ?_
      have hd := Nat.div_add_mod x y
      rw [← hd, Nat.pow_add, Nat.mul_mod, pow_one_mul hy, ← Nat.mul_mod, Nat.one_mul] at hx
      exact hx
/-- Pocklington: a prime part q of n - 1 parts each prime divisor of n, less one -/
theorem pock {n a q p : Nat} (hn : 1 < n) (hq : Prm q) (hqn : (n - 1) % q = 0) (h1 : a ^ (n - 1) % n = 1) (hg : Nat.gcd (a ^ ((n - 1) / q) % n + (n - 1)) n = 1) (hp : Prm p) (hpn : p ∣ n) : q ∣ p - 1 := by
  apply Classical.byContradiction
  intro hc
  have hp2 := hp.1
  have e1 : a ^ (n - 1) % p = 1 % p := by
    rw [← Nat.mod_mod_of_dvd _ hpn, h1]
  have ha : a % p ≠ 0 := fun h0 => by
    rw [Nat.pow_mod, h0, Nat.zero_pow (by omega)] at e1
    rw [Nat.mod_eq_of_lt (show 1 < p by omega)] at e1
    simp at e1
  have e2 : a ^ (p - 1) % p = 1 % p := by rw [hp.little ha, Nat.mod_eq_of_lt (by omega)]
  have e3 := pow_one_gcd (p - 1) (n - 1) e1 e2
  have hco : Nat.Coprime q (Nat.gcd (n - 1) (p - 1)) := hq.coprime fun hd => hc (Nat.dvd_trans hd (Nat.gcd_dvd_right _ _))
  have hmul : n - 1 = q * ((n - 1) / q) := by
    have := Nat.div_add_mod (n - 1) q
    omega
  have hdv : Nat.gcd (n - 1) (p - 1) ∣ (n - 1) / q := by
    have h5 : Nat.gcd (n - 1) (p - 1) ∣ q * ((n - 1) / q) := by
      rw [← hmul]; exact Nat.gcd_dvd_left _ _
    exact Nat.Coprime.dvd_of_dvd_mul_left hco.symm h5
  obtain ⟨k, hk⟩ := hdv
  have e4 : a ^ ((n - 1) / q) % p = 1 % p := by
    rw [hk]; exact pow_one_mul e3 k
  have hpg : p ∣ Nat.gcd (a ^ ((n - 1) / q) % n + (n - 1)) n := by
    apply Nat.dvd_gcd _ hpn
    apply Nat.dvd_of_mod_eq_zero
    rw [Nat.add_mod, Nat.mod_mod_of_dvd _ hpn, e4, ← Nat.add_mod, show 1 + (n - 1) = n by omega]
    exact Nat.mod_eq_zero_of_dvd hpn
  rw [hg] at hpg
  have := Nat.le_of_dvd (by omega) hpg
  omega

/-- powers by squaring -/
def pwm (n : Nat) : Nat → Nat → Nat → Nat
  | 0, _, _ => 1 % n
  | f + 1, a, e => if e = 0 then 1 % n else if e % 2 = 0 then pwm n f (a * a % n) (e / 2) else a * pwm n f (a * a % n) (e / 2) % n
theorem pwm_is (n : Nat) : ∀ f a e, e < 2 ^ f → pwm n f a e = a ^ e % n := by
  intro f
  induction f with
  | zero =>
    intro a e h
    have : e = 0 := by simpa using h
    subst this
    simp [pwm]
  | succ f ih =>
    intro a e h
    have hh : e / 2 < 2 ^ f := by rw [Nat.pow_succ] at h; omega
    have e1 : (a * a % n) ^ (e / 2) % n = a ^ (2 * (e / 2)) % n := by
      rw [← Nat.pow_mod, ← Nat.pow_two, ← Nat.pow_mul]
    unfold pwm
    by_cases h0 : e = 0
    · subst h0; simp
    · rw [if_neg h0]
      by_cases h1 : e % 2 = 0
      · rw [if_pos h1, ih _ _ hh, e1, show 2 * (e / 2) = e by omega]
      · rw [if_neg h1, ih _ _ hh, e1, Nat.mul_mod_mod, ← Nat.pow_succ', show (2 * (e / 2)).succ = e by omega]
/-- is there no divisor up to the root? -/
def noDiv (n : Nat) : Nat → Nat → Bool
  | 0, _ => true
  | f + 1, d => n % d != 0 && noDiv n f (d + 1)
theorem noDiv_is {n : Nat} : ∀ f d, noDiv n f d = true → ∀ e, d ≤ e → e < d + f → n % e ≠ 0 := by
  intro f
  induction f with
  | zero => intro d _ e h1 h2; omega
  | succ f ih =>
    intro d h e h1 h2
    simp only [noDiv, Bool.and_eq_true] at h
    rcases Nat.eq_or_lt_of_le h1 with he | he
    · subst he; simpa using h.1
    · exact ih (d + 1) h.2 e he (by omega)
theorem prm_small {n : Nat} (h2 : 2 ≤ n) (f : Nat) (hf : n < (f + 2) * (f + 2)) (h : noDiv n f 2 = true) : Prm n :=
  prm_of_large h2 fun p hp hd => by
    rcases Nat.lt_or_ge p (f + 2) with hl | hl
    · exact absurd (Nat.mod_eq_zero_of_dvd hd) (noDiv_is f 2 h p hp.1 (by omega))
    · exact Nat.lt_of_lt_of_le hf (Nat.mul_le_mul hl hl)
/-- one step of Pocklington by reckoning -/
theorem pock_by {n q : Nat} (a f : Nat) (hq : Prm q) (hf : n < 2 ^ f) (hc : (decide (1 < n) && decide ((n - 1) % q = 0) && decide (pwm n f a (n - 1) = 1) && decide (Nat.gcd (pwm n f a ((n - 1) / q) + (n - 1)) n = 1)) = true) {p : Nat} (hp : Prm p) (hpn : p ∣ n) : q ∣ p - 1 := by
  simp only [Bool.and_eq_true, decide_eq_true_eq] at hc
  obtain ⟨⟨⟨h1, h2⟩, h3⟩, h4⟩ := hc
  rw [pwm_is n f a _ (by omega)] at h3
  rw [pwm_is n f a _ (Nat.lt_of_le_of_lt (Nat.div_le_self _ _) (by omega))] at h4
  exact pock h1 hq h2 h3 h4 hp hpn
theorem large_of_dvd {n F p : Nat} (hF : n ≤ F * F) (hd : F ∣ p - 1) (hp : Prm p) : n < p * p := by
  have h2 := hp.1
  have := Nat.le_of_dvd (by omega) hd
  have h3 := Nat.mul_le_mul (show F + 1 ≤ p by omega) (show F + 1 ≤ p by omega)
  have h4 : F * F < (F + 1) * (F + 1) := by rw [Nat.mul_add, Nat.add_mul]; omega
  omega
theorem Prm.apart {p q : Nat} (hp : Prm p) (hq : Prm q) (h : p ≠ q) : Nat.Coprime p q := hp.coprime fun hd => by
  rcases hq.2 _ hd with e | e
  · have := hp.1; omega
  · exact h e

theorem prm_649657 : Prm 649657 := prm_small (by omega) 806 (by omega) (by decide +kernel)
theorem prm_92737 : Prm 92737 := prm_small (by omega) 304 (by omega) (by decide +kernel)
theorem prm_699053 : Prm 699053 := prm_small (by omega) 836 (by omega) (by decide +kernel)
theorem prm_20394401 : Prm 20394401 := prm_small (by omega) 4516 (by omega) (by decide +kernel)
theorem prm_67254877 : Prm 67254877 := prm_small (by omega) 8200 (by omega) (by decide +kernel)
theorem prm_8707 : Prm 8707 := prm_small (by omega) 94 (by omega) (by decide +kernel)
theorem prm_1913 : Prm 1913 := prm_small (by omega) 44 (by omega) (by decide +kernel)
theorem prm_2113 : Prm 2113 := prm_small (by omega) 45 (by omega) (by decide +kernel)
theorem prm_683 : Prm 683 := prm_small (by omega) 26 (by omega) (by decide +kernel)
theorem prm_77158673929 : Prm 77158673929 := prm_of_large (by omega) fun p hp hd => large_of_dvd (F := 699053) (by omega) (pock_by 3 40 prm_699053 (by omega) (by decide +kernel) hp hd) hp
theorem prm_28059810762433 : Prm 28059810762433 := prm_of_large (by omega) fun p hp hd => large_of_dvd (F := 67254877) (by omega) (pock_by 3 50 prm_67254877 (by omega) (by decide +kernel) hp hd) hp
theorem prm_2931542417 : Prm 2931542417 := prm_of_large (by omega) fun p hp hd => large_of_dvd (F := 8707 * 1913) (by omega)
  (Nat.Coprime.mul_dvd_of_dvd_of_dvd (show Nat.gcd 8707 1913 = 1 by decide +kernel) (pock_by 3 40 prm_8707 (by omega) (by decide +kernel) hp hd) (pock_by 3 40 prm_1913 (by omega) (by decide +kernel) hp hd)) hp
theorem prm_127 : Prm 170141183460469231731687303715884105727 := prm_of_large (by omega) fun p hp hd => large_of_dvd (F := 77158673929 * 649657 * 92737) (by omega)
  (Nat.Coprime.mul_dvd_of_dvd_of_dvd (show Nat.gcd (77158673929 * 649657) 92737 = 1 by decide +kernel)
    (Nat.Coprime.mul_dvd_of_dvd_of_dvd (show Nat.gcd 77158673929 649657 = 1 by decide +kernel) (pock_by 3 128 prm_77158673929 (by omega) (by decide +kernel) hp hd) (pock_by 3 128 prm_649657 (by omega) (by decide +kernel) hp hd))
    (pock_by 3 128 prm_92737 (by omega) (by decide +kernel) hp hd)) hp
theorem prm_107 : Prm 162259276829213363391578010288127 := prm_of_large (by omega) fun p hp hd => large_of_dvd (F := 28059810762433 * 20394401) (by omega)
  (Nat.Coprime.mul_dvd_of_dvd_of_dvd (show Nat.gcd 28059810762433 20394401 = 1 by decide +kernel) (pock_by 3 128 prm_28059810762433 (by omega) (by decide +kernel) hp hd) (pock_by 3 128 prm_20394401 (by omega) (by decide +kernel) hp hd)) hp
theorem prm_89 : Prm 618970019642690137449562111 := prm_of_large (by omega) fun p hp hd => large_of_dvd (F := 2931542417 * 2113 * 683) (by omega)
  (Nat.Coprime.mul_dvd_of_dvd_of_dvd (show Nat.gcd (2931542417 * 2113) 683 = 1 by decide +kernel)
    (Nat.Coprime.mul_dvd_of_dvd_of_dvd (show Nat.gcd 2931542417 2113 = 1 by decide +kernel) (pock_by 3 128 prm_2931542417 (by omega) (by decide +kernel) hp hd) (pock_by 3 128 prm_2113 (by omega) (by decide +kernel) hp hd))
    (pock_by 3 128 prm_683 (by omega) (by decide +kernel) hp hd)) hp

theorem mod_eq_of_dvd {a b n : Nat} (hl : a ≤ b) (h : n ∣ b - a) : a % n = b % n := by
  obtain ⟨k, hk⟩ := h
  have : b = a + n * k := by omega
  rw [this, Nat.add_mul_mod_self_left]
/-- what is alike by two primes is alike by their product -/
theorem crt_le {p q a b : Nat} (hc : Nat.Coprime p q) (h1 : a % p = b % p) (h2 : a % q = b % q) (hl : a ≤ b) : a % (p * q) = b % (p * q) :=
  mod_eq_of_dvd hl (hc.mul_dvd_of_dvd_of_dvd (Nat.dvd_of_mod_eq_zero (Nat.sub_mod_eq_zero_of_mod_eq h1.symm)) (Nat.dvd_of_mod_eq_zero (Nat.sub_mod_eq_zero_of_mod_eq h2.symm)))
theorem crt {p q a b : Nat} (hc : Nat.Coprime p q) (h1 : a % p = b % p) (h2 : a % q = b % q) : a % (p * q) = b % (p * q) := by
  rcases Nat.le_total a b with hl | hl
  · exact crt_le hc h1 h2 hl
  · exact (crt_le hc h1.symm h2.symm hl).symm
theorem euler1 {p : Nat} (hp : Prm p) (x k : Nat) : x ^ ((p - 1) * k + 1) % p = x % p := by
  have h2 := hp.1
  by_cases h0 : x % p = 0
  · rw [Nat.pow_mod, h0, Nat.zero_pow (by omega), Nat.zero_mod]
  · have h1 := hp.little h0
    have h3 : x ^ (p - 1) % p = 1 % p := by rw [h1, Nat.mod_eq_of_lt (by omega)]
    rw [Nat.pow_succ, Nat.mul_mod, pow_one_mul h3 k, ← Nat.mul_mod, Nat.one_mul]
/-- the two works of a key of two primes undo each other -/
theorem euler2 {p q e d : Nat} (hp : Prm p) (hq : Prm q) (hne : p ≠ q) (h : e * d % ((p - 1) * (q - 1)) = 1) (x : Nat) : (x ^ e % (p * q)) ^ d % (p * q) = x % (p * q) := by
  rw [← Nat.pow_mod, ← Nat.pow_mul]
  have hd := Nat.div_add_mod (e * d) ((p - 1) * (q - 1))
  rw [h] at hd
  refine crt (hp.apart hq hne) ?_ ?_
  · rw [← hd, Nat.mul_assoc]; exact euler1 hp x _
  · rw [← hd, Nat.mul_comm (p - 1), Nat.mul_assoc]; exact euler1 hq x _
end Go.Proofs.YtcieddigjfpecaaDoor
