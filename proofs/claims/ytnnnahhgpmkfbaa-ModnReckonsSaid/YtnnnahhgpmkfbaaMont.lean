/- Plain arithmetic of Montgomery's way. No program. -/
import Derived.Test.YtnnnahhgpmkfbaaFermat
namespace Go.Proofs.Ytnnnahhgpmkfbaa

theorem mont_next {out A N B d o P S K : Nat} (h : out * P = A * S + N * K) (hT : (out + d * A + o * N) % B = 0) :
    (out + d * A + o * N) / B * (P * B) = A * (S + d * P) + N * (K + o * P) := by
  have h1 : (out + d * A + o * N) / B * B = out + d * A + o * N := Nat.div_mul_cancel (Nat.dvd_of_mod_eq_zero hT)
  rw [Nat.mul_comm P B, ← Nat.mul_assoc, h1, Nat.add_mul, Nat.add_mul, h]
  simp only [Nat.mul_add, Nat.mul_comm, Nat.mul_left_comm]
  omega
theorem mont_less {out A N P S K : Nat} (h : out * P = A * S + N * K) (hA : A < 2 * N) (hS : S < P) (hK : K < P) : out < 3 * N := by
  apply Nat.lt_of_mul_lt_mul_right (a := P)
  have h1 : A * S ≤ 2 * N * S := Nat.mul_le_mul_right S (Nat.le_of_lt hA)
  have h2 : 2 * N * S ≤ 2 * N * P := Nat.mul_le_mul_left _ (Nat.le_of_lt hS)
  have h3 : N * K < N * P := Nat.mul_lt_mul_of_pos_left hK (by omega)
  have h4 : 3 * N * P = 2 * N * P + N * P := by rw [← Nat.add_mul]; congr 1; omega
  omega
theorem mont_room {out A N B d o R : Nat} (ho : out < 3 * N) (hA : A < 2 * N) (hd : d < B) (hoo : o < B) (hR : 4 * N ≤ R) : out + d * A + o * N < B * R := by
  obtain ⟨b, rfl⟩ : ∃ b, B = b + 1 := ⟨B - 1, by omega⟩
  have h1 : d * A ≤ b * (2 * N) := Nat.mul_le_mul (by omega) (Nat.le_of_lt hA)
  have h2 : o * N ≤ b * N := Nat.mul_le_mul_right N (by omega)
  have h3 : (b + 1) * (4 * N) ≤ (b + 1) * R := Nat.mul_le_mul_left _ hR
  have h4 : (b + 1) * (4 * N) = b * (2 * N) + b * N + b * N + 4 * N := by
    rw [Nat.add_mul, Nat.one_mul, show 4 * N = 2 * N + N + N by omega, Nat.mul_add, Nat.mul_add]
  omega
theorem mont_last {out A N R S K : Nat} (h : out * R = A * S + N * K) (hA : A < 2 * N) (hS : S < 2 * N) (hK : K < R) (hR : 4 * N ≤ R) : out < 2 * N := by
  apply Nat.lt_of_mul_lt_mul_right (a := R)
  have h1 : A * S ≤ 2 * N * S := Nat.mul_le_mul_right S (Nat.le_of_lt hA)
  have h2 : 2 * N * S ≤ 2 * N * (2 * N) := Nat.mul_le_mul_left _ (Nat.le_of_lt hS)
  have h3 : N * K < N * R := Nat.mul_lt_mul_of_pos_left hK (by omega)
  have h4 : 2 * N * (2 * N) = N * (4 * N) := by
    rw [Nat.mul_comm 2 N, Nat.mul_assoc]; congr 1; omega
  have h5 : N * (4 * N) ≤ N * R := Nat.mul_le_mul_left _ hR
  have h6 : 2 * N * R = N * R + N * R := by rw [Nat.two_mul, Nat.add_mul]
  omega
/-- the digit by which n is taken makes the lowest one 0 -/
theorem mont_often {u a d m n B : Nat} (h : (n * m + 1) % B = 0) : (u + d * a + (u + a * d) % B * m % B * n) % B = 0 := by
  have e : ((u + a * d) % B * m % B * n) % B = ((u + a * d) * (m * n)) % B := by
    rw [Nat.mod_mul_mod, Nat.mul_assoc, Nat.mod_mul_mod]
  rw [Nat.add_mod, e, ← Nat.add_mod, Nat.mul_comm d a]
  rw [show u + a * d + (u + a * d) * (m * n) = (u + a * d) * (n * m + 1) by rw [Nat.mul_add, Nat.mul_one, Nat.mul_comm m n]; omega]
  rw [Nat.mul_mod, h, Nat.mul_zero, Nat.zero_mod]
theorem two_dvd {i j : Nat} (h : i ≤ j) : (2 : Int) ^ i ∣ 2 ^ j := ⟨2 ^ (j - i), by rw [← Int.pow_add]; congr 1; omega⟩
/-- each step of the inverse makes twice as many digits right -/
theorem newton {n x y : Int} {j i : Nat} (h : (2 : Int) ^ j ∣ n * x - 1) (hi : i ≤ 2 * j) (hi64 : i ≤ 64) (hy : (18446744073709551616 : Int) ∣ y - x * (2 - n * x)) : (2 : Int) ^ i ∣ n * y - 1 := by
  have h1 : (2 : Int) ^ (2 * j) ∣ (n * x - 1) * (n * x - 1) := by
    rw [Nat.two_mul, Int.pow_add]
    exact Int.mul_dvd_mul h h
  have h2 : (2 : Int) ^ i ∣ (n * x - 1) * (n * x - 1) := Int.dvd_trans (two_dvd hi) h1
  have h3 : (2 : Int) ^ i ∣ y - x * (2 - n * x) := by
    refine Int.dvd_trans ?_ hy
    rw [show (18446744073709551616 : Int) = 2 ^ 64 by decide]
    exact two_dvd hi64
  have h4 := Int.dvd_sub (Int.dvd_mul_of_dvd_right (b := n) h3) h2
  have e : n * (y - x * (2 - n * x)) - (n * x - 1) * (n * x - 1) = n * y - 1 := by
    simp only [Int.mul_sub, Int.sub_mul, Int.mul_one, Int.one_mul]
    rw [show n * (x * 2) = n * x + n * x by rw [← Int.mul_assoc]; omega, show n * (x * (n * x)) = n * x * (n * x) by rw [Int.mul_assoc]]
    omega
  rw [← e]
  exact h4
theorem coprime_two {N : Nat} (h : N % 2 = 1) : Nat.Coprime N 2 := by
  have : Nat.gcd N 2 ∣ 2 := Nat.gcd_dvd_right N 2
  have h2 : Nat.gcd N 2 ∣ N := Nat.gcd_dvd_left N 2
  have h3 : Nat.gcd N 2 ≤ 2 := Nat.le_of_dvd (by omega) this
  have h4 : 0 < Nat.gcd N 2 := Nat.gcd_pos_of_pos_right _ (by omega)
  unfold Nat.Coprime
  rcases (show Nat.gcd N 2 = 1 ∨ Nat.gcd N 2 = 2 by omega) with e | e
  · exact e
  · rw [e] at h2
    have := Nat.mod_eq_zero_of_dvd h2
    omega
theorem coprime_base {N : Nat} (h : N % 2 = 1) (k : Nat) : Nat.Coprime N (18446744073709551616 ^ k) := by
  have e : (18446744073709551616 : Nat) = 2 ^ 64 := by decide
  rw [e, ← Nat.pow_mul]
  exact Nat.Coprime.pow_right _ (coprime_two h)
/-- x stands for v: below twice N, v times R modulo N -/
def Stands (N R v x : Nat) : Prop := x < 2 * N ∧ x % N = v * R % N
theorem stands_times {N R v u x y out K : Nat} (hc : Nat.Coprime N R) (hx : Stands N R v x) (hy : Stands N R u y) (h : out * R = x * y + N * K) (hK : K < R) (hR : 4 * N ≤ R) : Stands N R (v * u) out := by
  refine ⟨mont_last h hx.1 hy.1 hK hR, cancel hc ?_⟩
  rw [h, Nat.add_mul_mod_self_left, Nat.mul_mod, hx.2, hy.2, ← Nat.mul_mod]
  congr 1
  simp only [Nat.mul_comm, Nat.mul_left_comm]
theorem stands_leave {N R v x out K : Nat} (hc : Nat.Coprime N R) (hx : Stands N R v x) (h : out * R = x * 1 + N * K) : out % N = v % N := by
  refine cancel hc ?_
  rw [h, Nat.add_mul_mod_self_left, Nat.mul_one, hx.2]
end Go.Proofs.Ytnnnahhgpmkfbaa
