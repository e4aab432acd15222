/- Plain arithmetic: Fermat's theorem, the square roots of 1 modulo a prime, and which numbers below a million 2, 3, 5 or 7 tell of. No program. -/
namespace Go.Proofs.Ytnnnahhgpmkfbaa

theorem cancel_le {N R x y : Nat} (hc : Nat.Coprime N R) (h : x * R % N = y * R % N) (hl : x ≤ y) : x % N = y % N := by
  have h1 := Nat.sub_mod_eq_zero_of_mod_eq h.symm
  rw [← Nat.sub_mul] at h1
  have h2 := hc.dvd_of_dvd_mul_right (Nat.dvd_of_mod_eq_zero h1)
  obtain ⟨t, ht⟩ := h2
  have : y = x + N * t := by omega
  rw [this, Nat.add_mul_mod_self_left]
theorem cancel {N R x y : Nat} (hc : Nat.Coprime N R) (h : x * R % N = y * R % N) : x % N = y % N := by
  rcases Nat.le_total x y with hl | hl
  · exact cancel_le hc h hl
  · exact (cancel_le hc h.symm hl).symm

/-- a prime -/
def Prm (p : Nat) : Prop := 2 ≤ p ∧ ∀ m, m ∣ p → m = 1 ∨ m = p
theorem Prm.coprime {p a : Nat} (h : Prm p) (ha : ¬ p ∣ a) : Nat.Coprime p a := by
  rcases h.2 _ (Nat.gcd_dvd_left p a) with e | e
  · exact e
  · exact absurd (e ▸ Nat.gcd_dvd_right p a) ha
theorem Prm.dvd_mul {p a b : Nat} (h : Prm p) (hd : p ∣ a * b) : p ∣ a ∨ p ∣ b := by
  by_cases ha : p ∣ a
  · exact .inl ha
  · exact .inr ((h.coprime ha).dvd_of_dvd_mul_left hd)

/-- how many ways there are to choose -/
def ch : Nat → Nat → Nat
  | _, 0 => 1
  | 0, _ + 1 => 0
  | n + 1, k + 1 => ch n k + ch n (k + 1)
theorem ch_mul : ∀ n k, (k + 1) * ch (n + 1) (k + 1) = (n + 1) * ch n k := by
  intro n
  induction n with
  | zero =>
    intro k
    cases k with
    | zero => rfl
    | succ k => simp [ch]
  | succ n ih =>
    intro k
    cases k with
    | zero =>
      have := ih 0
      simp only [ch] at this ⊢
      simp at this ⊢
      omega
    | succ k =>
      have h1 := ih k
      have h2 := ih (k + 1)
      have e1 : ch (n + 1 + 1) (k + 1 + 1) = ch (n + 1) (k + 1) + ch (n + 1) (k + 1 + 1) := rfl
      have e2 : ch (n + 1) (k + 1) = ch n k + ch n (k + 1) := rfl
      rw [e1, Nat.mul_add, h2, show (k + 1 + 1) * ch (n + 1) (k + 1) = (k + 1) * ch (n + 1) (k + 1) + ch (n + 1) (k + 1) by rw [Nat.add_mul, Nat.one_mul], h1]
      rw [show (n + 1 + 1) * ch (n + 1) (k + 1) = (n + 1) * ch (n + 1) (k + 1) + ch (n + 1) (k + 1) by rw [Nat.add_mul, Nat.one_mul]]
      conv => rhs; rw [e2, Nat.mul_add]
      rw [← e2]
      omega
theorem ch_over : ∀ n k, n < k → ch n k = 0 := by
  intro n
  induction n with
  | zero => intro k hk; cases k with
    | zero => omega
    | succ k => rfl
  | succ n ih => intro k hk; cases k with
    | zero => omega
    | succ k => simp [ch, ih k (by omega), ih (k + 1) (by omega)]
theorem ch_all : ∀ n, ch n n = 1 := by
  intro n
  induction n with
  | zero => rfl
  | succ n ih => simp [ch, ih, ch_over n (n + 1) (by omega)]
/-- the first m terms of the sum -/
def bs (a n : Nat) : Nat → Nat
  | 0 => 0
  | m + 1 => bs a n m + ch n m * a ^ m
theorem bs_step (a n : Nat) : ∀ m, bs a (n + 1) (m + 1) = bs a n (m + 1) + a * bs a n m := by
  intro m
  induction m with
  | zero => simp [bs, ch]
  | succ m ih =>
    rw [bs, ih, bs.eq_2 a n (m + 1), bs.eq_2 a n m]
    simp only [ch, Nat.add_mul, Nat.mul_add, Nat.pow_succ]
    have : a * (ch n m * a ^ m) = ch n m * (a ^ m * a) := by rw [Nat.mul_left_comm, Nat.mul_comm a]
    rw [this]
    omega
theorem bs_all (a : Nat) : ∀ n, bs a n (n + 1) = (a + 1) ^ n := by
  intro n
  induction n with
  | zero => simp [bs, ch]
  | succ n ih =>
    rw [bs_step, bs, ch_over n (n + 1) (by omega), Nat.zero_mul, Nat.add_zero, ih, Nat.pow_succ, Nat.mul_add, Nat.mul_one, Nat.mul_comm a]
    omega
theorem Prm.ch {p : Nat} (h : Prm p) {k : Nat} (h0 : 0 < k) (hk : k < p) : p ∣ ch p k := by
  obtain ⟨q, rfl⟩ : ∃ q, p = q + 1 := ⟨p - 1, by have := h.1; omega⟩
  obtain ⟨j, rfl⟩ : ∃ j, k = j + 1 := ⟨k - 1, by omega⟩
  have := ch_mul q j
  rcases h.dvd_mul (a := j + 1) (b := Go.Proofs.Ytnnnahhgpmkfbaa.ch (q + 1) (j + 1)) ⟨_, this⟩ with hd | hd
  · exact absurd (Nat.le_of_dvd (by omega) hd) (by omega)
  · exact hd
theorem Prm.bs {p : Nat} (h : Prm p) (a : Nat) : ∀ m, m < p → bs a p (m + 1) % p = 1 % p := by
  intro m
  induction m with
  | zero => intro _; simp [Go.Proofs.Ytnnnahhgpmkfbaa.bs, Go.Proofs.Ytnnnahhgpmkfbaa.ch]
  | succ m ih =>
    intro hm
    rw [Go.Proofs.Ytnnnahhgpmkfbaa.bs, Nat.add_mod, ih (by omega), Nat.mul_mod, Nat.mod_eq_zero_of_dvd (h.ch (by omega) hm), Nat.zero_mul, Nat.zero_mod, Nat.add_zero, Nat.mod_mod]
theorem Prm.fermat {p : Nat} (h : Prm p) : ∀ a, a ^ p % p = a % p := by
  intro a
  have h2 := h.1
  induction a with
  | zero => rw [Nat.zero_pow (by omega)]
  | succ a ih =>
    rw [← bs_all, Go.Proofs.Ytnnnahhgpmkfbaa.bs, ch_all, Nat.one_mul, Nat.add_mod, ih]
    obtain ⟨q, rfl⟩ : ∃ q, p = q + 1 := ⟨p - 1, by omega⟩
    rw [h.bs a q (by omega), ← Nat.add_mod, Nat.add_comm]
theorem Prm.little {p a : Nat} (h : Prm p) (ha : a % p ≠ 0) : a ^ (p - 1) % p = 1 := by
  have h2 := h.1
  have hf := h.fermat a
  obtain ⟨q, rfl⟩ : ∃ q, p = q + 1 := ⟨p - 1, by omega⟩
  have hc := h.coprime (a := a) (fun hd => ha (Nat.mod_eq_zero_of_dvd hd))
  have := cancel (x := a ^ q) (y := 1) hc (by rw [← Nat.pow_succ, hf, Nat.one_mul])
  rw [Nat.add_sub_cancel, this, Nat.mod_eq_of_lt (by omega)]
theorem Prm.root {p x : Nat} (h : Prm p) (hx : x * x % p = 1) : x % p = 1 ∨ x % p = p - 1 := by
  have h2 := h.1
  have hx0 : 0 < x := by
    rcases Nat.eq_zero_or_pos x with rfl | hh
    · simp at hx
    · exact hh
  obtain ⟨y, rfl⟩ : ∃ y, x = y + 1 := ⟨x - 1, by omega⟩
  have h1 : (y + 1) * (y + 1) % p = 1 % p := by rw [hx, Nat.mod_eq_of_lt (by omega)]
  have h3 := Nat.sub_mod_eq_zero_of_mod_eq h1
  have e : (y + 1) * (y + 1) - 1 = y * (y + 2) := by
    have e1 : (y + 1) * (y + 1) = y * y + y + y + 1 := by rw [Nat.add_mul, Nat.mul_add]; omega
    have e2 : y * (y + 2) = y * y + y * 2 := Nat.mul_add _ _ _
    omega
  rw [e] at h3
  rcases h.dvd_mul (Nat.dvd_of_mod_eq_zero h3) with ⟨t, ht⟩ | ⟨t, ht⟩
  · left; rw [ht, Nat.mul_add_mod, Nat.mod_eq_of_lt (by omega)]
  · right
    have ht0 : 0 < t := by
      rcases Nat.eq_zero_or_pos t with rfl | hh
      · simp at ht
      · exact hh
    obtain ⟨s, rfl⟩ : ∃ s, t = s + 1 := ⟨t - 1, by omega⟩
    rw [Nat.mul_add, Nat.mul_one] at ht
    rw [show y + 1 = p * s + (p - 1) by omega, Nat.mul_add_mod, Nat.mod_eq_of_lt (by omega)]

/-- what squaring makes of x -/
def sqs (x n : Nat) : Nat → Nat
  | 0 => x
  | i + 1 => sqs x n i * sqs x n i % n
theorem sqs_pow (a d n : Nat) : ∀ i, sqs (a ^ d % n) n i = a ^ (d * 2 ^ i) % n := by
  intro i
  induction i with
  | zero => simp [sqs]
  | succ i ih => rw [sqs, ih, ← Nat.mul_mod, ← Nat.pow_add]; congr 2; rw [Nat.pow_succ, ← Nat.mul_assoc]; omega
/-- is w among the first k squares -/
def among (x n w k : Nat) : Bool := (List.range k).any fun i => sqs x n i == w
/-- no base tells of a prime: the first one, or one of the squares is p - 1 -/
theorem Prm.passes {p a d s : Nat} (h : Prm p) (ha : a % p ≠ 0) (hd : d * 2 ^ s = p - 1) : a ^ d % p = 1 ∨ among (a ^ d % p) p (p - 1) s = true := by
  have hl := h.little ha
  rw [← hd] at hl
  have h2 := h.1
  have key : ∀ k, a ^ (d * 2 ^ k) % p = 1 → a ^ d % p = 1 ∨ ∃ i, i < k ∧ sqs (a ^ d % p) p i = p - 1 := by
    intro k
    induction k with
    | zero => intro hk; left; simpa using hk
    | succ k ih =>
      intro hk
      have e : a ^ (d * 2 ^ (k + 1)) = a ^ (d * 2 ^ k) * a ^ (d * 2 ^ k) := by rw [← Nat.pow_add]; congr 1; rw [Nat.pow_succ, ← Nat.mul_assoc]; omega
      rw [e] at hk
      rcases h.root hk with h1 | h1
      · rcases ih h1 with h3 | ⟨i, hi, h3⟩
        · exact .inl h3
        · exact .inr ⟨i, by omega, h3⟩
      · exact .inr ⟨k, by omega, by rw [sqs_pow]; exact h1⟩
  rcases key s hl with h1 | ⟨i, hi, h1⟩
  · exact .inl h1
  · right
    unfold among
    rw [List.any_eq_true]
    exact ⟨i, List.mem_range.2 hi, by simp [h1]⟩
end Go.Proofs.Ytnnnahhgpmkfbaa
