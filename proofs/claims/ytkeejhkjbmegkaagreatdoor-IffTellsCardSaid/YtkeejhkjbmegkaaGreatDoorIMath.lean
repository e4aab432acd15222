/- Plain arithmetic: what is proved by an answer, and what two answers tell. No program. -/
import Derived.Test.YtkeejhkjbmegkaaGreatDoorMaths
import Derived.Test.YtkeejhkjbmegkaaGreatDoorDf
namespace Go.Proofs.YtkeejhkjbmegkaaGreatDoor
set_option linter.unusedVariables false

theorem pow_red {G P Q a b : Nat} (h : G ^ Q % P = 1 % P) (hab : a % Q = b % Q) : G ^ a % P = G ^ b % P := by
  have red : ∀ a, G ^ a % P = G ^ (a % Q) % P := fun a => by
    have e := Nat.div_add_mod a Q
    conv => lhs; rw [← e]
    rw [Nat.pow_add, Nat.mul_mod, pow_one_mul h, ← Nat.mul_mod, Nat.one_mul]
  rw [red a, red b, hab]
theorem less_dvd {a b n : Nat} (h : 0 < n) : (n : Int) ∣ ((lessN a b n : Nat) : Int) - ((a : Int) - b) := by
  unfold lessN
  have h1 := Nat.mod_lt b h
  have e1 := Int.emod_emod_of_dvd
  have t1 : (n : Int) ∣ (((a % n + n - b % n) % n : Nat) : Int) - ((a % n + n - b % n : Nat) : Int) := by
    rw [Int.natCast_emod, ← Int.dvd_neg, Int.neg_sub]; exact Int.dvd_self_sub_emod
  have t2 : (n : Int) ∣ ((a % n : Nat) : Int) - (a : Int) := by
    rw [Int.natCast_emod, ← Int.dvd_neg, Int.neg_sub]; exact Int.dvd_self_sub_emod
  have t3 : (n : Int) ∣ ((b % n : Nat) : Int) - (b : Int) := by
    rw [Int.natCast_emod, ← Int.dvd_neg, Int.neg_sub]; exact Int.dvd_self_sub_emod
  have c : ((a % n + n - b % n : Nat) : Int) = ((a % n : Nat) : Int) + n - ((b % n : Nat) : Int) := by omega
  rw [c] at t1
  have t4 := Int.dvd_add t1 (Int.dvd_add (Int.dvd_sub t2 t3) (Int.dvd_refl (n : Int)))
  have : (((a % n + n - b % n) % n : Nat) : Int) - ((a : Int) - b) = (((a % n + n - b % n) % n : Nat) : Int) - (((a % n : Nat) : Int) + n - ((b % n : Nat) : Int)) + ((((a % n : Nat) : Int) - a) - (((b % n : Nat) : Int) - b) + n) := by omega
  rw [this]; exact t4
theorem mod_dvd2 (T N : Nat) : (N : Int) ∣ ((T % N : Nat) : Int) - (T : Int) := by
  rw [Int.natCast_emod, ← Int.dvd_neg, Int.neg_sub]
  exact Int.dvd_self_sub_emod
theorem mod_eq_of_idvd {a b n : Nat} (h : (n : Int) ∣ (a : Int) - b) : a % n = b % n := by
  have e : (a : Int) % n = (b : Int) % n := by
    apply Int.emod_eq_emod_iff_emod_sub_eq_zero.2
    exact Int.emod_eq_zero_of_dvd h
  exact_mod_cast e
/-- the answer of who knows the secret holds -/
theorem proves {P Q G b k r : Nat} (hP : 2 ≤ P) (hQ : 0 < Q) (h : G ^ Q % P = 1) :
    G ^ ((k + b * r % Q) % Q % Q) % P * ((G ^ (lessN 0 b Q % Q) % P) ^ r % P) % P = G ^ (k % Q) % P := by
  have h' : G ^ Q % P = 1 % P := by rw [h, Nat.mod_eq_of_lt (by omega)]
  rw [← Nat.pow_mod, ← Nat.pow_mul, ← Nat.mul_mod, ← Nat.pow_add]
  apply pow_red h'
  have l1 := less_dvd (a := 0) (b := b) hQ
  generalize lessN 0 b Q = e at *
  apply mod_eq_of_idvd
  have t1 := mod_dvd2 (k + b * r % Q) Q
  have t2 := mod_dvd2 (b * r) Q
  have t3 := mod_dvd2 e Q
  have t4 := mod_dvd2 k Q
  have t5 := mod_dvd2 ((k + b * r % Q) % Q) Q
  generalize (k + b * r % Q) % Q % Q = y2 at *
  generalize (k + b * r % Q) % Q = y at *
  generalize b * r % Q = m at *
  generalize e % Q = e2 at *
  generalize k % Q = k2 at *
  push_cast at t1 t2 l1 ⊢
  have u := Int.dvd_sub (Int.dvd_add (Int.dvd_add (Int.dvd_add t5 t1) t2) (Int.dvd_mul_of_dvd_left (c := (r : Int)) (Int.dvd_add t3 l1))) t4
  have : (y2 : Int) + (e2 : Int) * r - k2 = ((y2 : Int) - y) + ((y : Int) - (k + m)) + ((m : Int) - b * r) + (((e2 : Int) - e) + ((e : Int) - (0 - b))) * r - ((k2 : Int) - k) := by
    simp only [Int.add_mul, Int.sub_mul]
    omega
  rw [this]
  exact u
/-- two answers with one drawn number tell the secret -/
theorem knows {Q b k r s f : Nat} (hQ : 0 < Q) (hf : lessN r s Q * f % Q = 1 % Q) :
    lessN ((k + b * r % Q) % Q) ((k + b * s % Q) % Q) Q * f % Q = b % Q := by
  have l1 := less_dvd (a := r) (b := s) hQ
  have l2 := less_dvd (a := (k + b * r % Q) % Q) (b := (k + b * s % Q) % Q) hQ
  have t1 := mod_dvd2 (k + b * r % Q) Q
  have t2 := mod_dvd2 (k + b * s % Q) Q
  have t3 := mod_dvd2 (b * r) Q
  have t4 := mod_dvd2 (b * s) Q
  have t5 := mod_dvd2 (lessN r s Q * f) Q
  have t6 := mod_dvd2 1 Q
  rw [hf] at t5
  generalize lessN ((k + b * r % Q) % Q) ((k + b * s % Q) % Q) Q = L at *
  generalize lessN r s Q = D at *
  generalize (k + b * r % Q) % Q = x at *
  generalize (k + b * s % Q) % Q = y at *
  generalize b * r % Q = m at *
  generalize b * s % Q = n at *
  generalize 1 % Q = o at *
  apply mod_eq_of_idvd
  push_cast at t1 t2 t3 t4 t5 t6 l1 l2 ⊢
  -- L ≡ x - y ≡ b (r - s) ≡ b D
  have a1 := Int.dvd_add (Int.dvd_sub (Int.dvd_add l2 (Int.dvd_sub t1 t2)) (Int.dvd_mul_of_dvd_right (b := (b : Int)) l1)) (Int.dvd_sub t3 t4)
  have e1 : (L : Int) - b * D = (L : Int) - ((x : Int) - y) + (((x : Int) - (k + m)) - ((y : Int) - (k + n))) - b * ((D : Int) - (r - s)) + (((m : Int) - b * r) - ((n : Int) - b * s)) := by
    simp only [Int.mul_sub]
    omega
  rw [← e1] at a1
  have a2 := Int.dvd_mul_of_dvd_left (c := (f : Int)) a1
  have a3 := Int.dvd_mul_of_dvd_right (b := (b : Int)) (Int.dvd_sub t6 t5)
  have a4 := Int.dvd_add a2 a3
  have e2 : (L : Int) * f - b = ((L : Int) - b * D) * f + b * ((((o : Int)) - 1) - ((o : Int) - D * f)) := by
    simp only [Int.sub_mul, Int.mul_sub, Int.mul_one, Int.mul_assoc]
    omega
  rw [e2]
  exact a4
end Go.Proofs.YtkeejhkjbmegkaaGreatDoor
