/- plane: words that are no less than a power of two; what squares, sums and quotients leave of them. -/
import Derived.Test.YtnjieddkphappaaX3
namespace Go.Proofs.Ytnjieddkphappaa
open Go.RowKit
set_option linter.unusedVariables false
set_option exponentiation.threshold 3000
set_option maxRecDepth 100000
theorem cut_lo (n d : Nat) : n / 2 ^ d ≤ Ieee.Toward.even.cut false n d := by rw [cut_def]; omega
theorem cut_hi (n d : Nat) : Ieee.Toward.even.cut false n d ≤ n / 2 ^ d + 1 := by rw [cut_def]; split <;> omega
/-- a word that stands for a number from 2^e on, or without bound -/
def big (e : Int) (w : Nat) : Prop := (e + 1023).toNat * 4503599627370496 ≤ w ∧ w ≤ 9218868437227405312
theorem big.mono {e f : Int} {w : Nat} (h : big e w) (g : f ≤ e) : big f w := ⟨Nat.le_trans (Nat.mul_le_mul_right _ (by omega)) h.1, h.2⟩
theorem big_inf {e : Int} (h : e ≤ 1023) : big e 9218868437227405312 := by unfold big; omega
theorem rg_big {m : Nat} {p e : Int} (h0 : m ≠ 0) (h1 : -1022 ≤ e) (h2 : e ≤ p + m.log2) (h3 : e ≤ 1023) : big e (rg m p) := by
  refine ⟨?_, rg_le m p⟩
  rw [rg_def, if_neg h0]
  have b1 := Nat.log2_self_le h0
  generalize m.log2 = L at *
  have e1 : max (p + (L : Int) - 52) (-1074) = p + L - 52 := by omega
  rw [e1]
  have k : 4503599627370496 ≤ Ieee.Toward.even.cut false (m * 2 ^ (p - (p + (L : Int) - 52)).toNat) (p + (L : Int) - 52 - p).toNat := by
    by_cases c : L ≤ 52
    · rw [show (p - (p + (L : Int) - 52)).toNat = 52 - L by omega, show (p + (L : Int) - 52 - p).toNat = 0 by omega, cut_zero]
      have : 2 ^ L * 2 ^ (52 - L) = 4503599627370496 := by rw [← Nat.pow_add, show L + (52 - L) = 52 by omega]
      rw [← this]; exact Nat.mul_le_mul_right _ b1
    · rw [show (p - (p + (L : Int) - 52)).toNat = 0 by omega, show (p + (L : Int) - 52 - p).toNat = L - 52 by omega, Nat.pow_zero, Nat.mul_one]
      refine Nat.le_trans ?_ (cut_lo _ _)
      rw [Nat.le_div_iff_mul_le (Nat.two_pow_pos _)]
      have : 4503599627370496 * 2 ^ (L - 52) = 2 ^ L := by
        rw [show (4503599627370496 : Nat) = 2 ^ 52 from rfl, ← Nat.pow_add, show 52 + (L - 52) = L by omega]
      rw [this]; exact b1
  generalize Ieee.Toward.even.cut false (m * 2 ^ (p - (p + (L : Int) - 52)).toNat) (p + (L : Int) - 52 - p).toNat = K at *
  refine Nat.le_min.2 ⟨?_, by omega⟩
  have e2 : (p + (L : Int) - 52 + 1074).toNat = (p + L + 1022).toNat := by omega
  rw [e2]
  have e3 : (e + 1023).toNat ≤ (p + L + 1022).toNat + 1 := by omega
  have := Nat.mul_le_mul_right 4503599627370496 e3
  omega
theorem rg_fin {m : Nat} {p : Int} (h2 : p + m.log2 ≤ 1000) : rg m p < 9218868437227405312 := by
  rw [rg_def]
  split
  · omega
  · rename_i h0
    have b1 : m < 2 ^ (m.log2 + 1) := Nat.lt_log2_self
    generalize m.log2 = L at *
    obtain ⟨u, hu⟩ : ∃ u, u = max (p + (L : Int) - 52) (-1074) := ⟨_, rfl⟩
    rw [← hu]
    have k : Ieee.Toward.even.cut false (m * 2 ^ (p - u).toNat) (u - p).toNat ≤ 9007199254740992 := by
      refine Nat.le_trans (cut_hi _ _) ?_
      have : m * 2 ^ (p - u).toNat / 2 ^ (u - p).toNat < 9007199254740992 := by
        rw [Nat.div_lt_iff_lt_mul (Nat.two_pow_pos _)]
        by_cases c : u ≤ p
        · rw [show (u - p).toNat = 0 by omega, Nat.pow_zero, Nat.mul_one]
          have a1 : m * 2 ^ (p - u).toNat < 2 ^ (L + 1) * 2 ^ (p - u).toNat := Nat.mul_lt_mul_of_pos_right b1 (Nat.two_pow_pos _)
          have a2 : 2 ^ (L + 1) * 2 ^ (p - u).toNat ≤ 2 ^ 53 := by
            rw [← Nat.pow_add]; exact Nat.pow_le_pow_right (by omega) (by omega)
          omega
        · rw [show (p - u).toNat = 0 by omega, Nat.pow_zero, Nat.mul_one]
          have a2 : 2 ^ (L + 1) ≤ 2 ^ 53 * 2 ^ (u - p).toNat := by
            rw [← Nat.pow_add]; exact Nat.pow_le_pow_right (by omega) (by omega)
          omega
      omega
    generalize Ieee.Toward.even.cut false (m * 2 ^ (p - u).toNat) (u - p).toNat = K at *
    have : (u + 1074).toNat ≤ 2022 := by omega
    have := Nat.mul_le_mul_right 4503599627370496 this
    refine Nat.lt_of_le_of_lt (Nat.min_le_left _ _) ?_
    omega
/-- how a word with a sign is read -/
theorem read_sign (neg : Bool) {r : Nat} (h : r ≤ 9218868437227405312) : Ieee.double.read ((if neg then 9223372036854775808 else 0) + r) =
    (if r < 4503599627370496 then .number neg r (-1074) else if r < 9218868437227405312 then .number neg (4503599627370496 + r % 4503599627370496) (-1074 + ((r / 4503599627370496 - 1 : Nat) : Int)) else .infinity neg) := by
  unfold Ieee.Format.read
  rw [d_sw, d_inf, d_bin, d_lp]
  dsimp only
  have e1 : ((if neg then 9223372036854775808 else 0) + r) % 9223372036854775808 = r := by cases neg <;> simp <;> omega
  have e2 : (((if neg then 9223372036854775808 else 0) + r) / 9223372036854775808 % 2 == 1) = neg := by
    cases neg
    · rw [show ((if false = true then 9223372036854775808 else 0) + r) / 9223372036854775808 = 0 by simp; omega]; rfl
    · rw [show ((if true = true then 9223372036854775808 else 0) + r) / 9223372036854775808 = 1 by simp; omega]; rfl
  rw [e1, e2]
  split
  · rfl
  · split
    · rfl
    · rw [if_pos (by omega)]
theorem read_big (neg : Bool) {r : Nat} {e : Int} (h : big e r) (h1 : -1022 ≤ e) : Ieee.double.read ((if neg then 9223372036854775808 else 0) + r) = .infinity neg ∨
    ∃ M I, Ieee.double.read ((if neg then 9223372036854775808 else 0) + r) = .number neg M I ∧ 4503599627370496 ≤ M ∧ M < 9007199254740992 ∧ e - 52 ≤ I := by
  rw [read_sign neg h.2]
  have a : (e + 1023).toNat * 4503599627370496 ≤ r := h.1
  have b : 1 ≤ (e + 1023).toNat := by omega
  have c : 4503599627370496 ≤ r := by
    have := Nat.mul_le_mul_right 4503599627370496 b
    omega
  rw [if_neg (by omega)]
  split
  · right
    refine ⟨_, _, rfl, by omega, by omega, ?_⟩
    have : (e + 1023).toNat ≤ r / 4503599627370496 := (Nat.le_div_iff_mul_le (by omega)).2 a
    omega
  · left; rfl
theorem log2_52 {M : Nat} (h1 : 4503599627370496 ≤ M) (h2 : M < 9007199254740992) : M.log2 = 52 := log2_big h1 h2
theorem log2_ge {m k : Nat} (h : 2 ^ k ≤ m) : k ≤ m.log2 := (Nat.le_log2 (by have := Nat.two_pow_pos k; omega)).2 h
theorem write_inf : Ieee.double.write (.infinity false) = 9218868437227405312 := by decide +kernel
/-- a square -/
theorem sq_big (neg : Bool) {r : Nat} {e : Int} (h : big e r) (h1 : -500 ≤ e) (h2 : e ≤ 500) : big (2 * e) (fc .mul ((if neg then 9223372036854775808 else 0) + r) ((if neg then 9223372036854775808 else 0) + r)) := by
  have hm : fb .mul ((if neg then 9223372036854775808 else 0) + r) ((if neg then 9223372036854775808 else 0) + r) = ((Ieee.Datum.product (Ieee.double.read ((if neg then 9223372036854775808 else 0) + r)) (Ieee.double.read ((if neg then 9223372036854775808 else 0) + r)))).map Ieee.double.write := rfl
  unfold fc
  rw [hm]
  rcases read_big neg h (by omega) with hr | ⟨M, I, hr, a, b, c⟩
  · rw [hr]
    simp only [Ieee.Datum.product, Bool.xor_self, Option.map_some, write_inf, Option.getD_some]
    exact big_inf (by omega)
  · rw [hr]
    simp only [Ieee.Datum.product, Bool.xor_self, Option.map_some, Option.getD_some, Ieee.Format.write]
    rw [nearest_word]
    simp only [Bool.false_eq_true, if_false, Nat.zero_add]
    have hp : 2 ^ 104 ≤ M * M := by
      have := Nat.mul_le_mul a a
      omega
    have := log2_ge hp
    exact rg_big (by omega) (by omega) (by omega) (by omega)
theorem sq_zero (neg : Bool) : fc .mul ((if neg then 9223372036854775808 else 0) + 0) ((if neg then 9223372036854775808 else 0) + 0) = 0 := by cases neg <;> decide +kernel
/-- a sum of words without sign -/
theorem add_big {a b : Nat} {e : Int} (ha : a = 0 ∨ big e a) (hb : b = 0 ∨ big e b) (h1 : -1000 ≤ e) (h2 : e ≤ 1000) (h : ¬ (a = 0 ∧ b = 0)) : big e (fc .add a b) := by
  have rd : ∀ {x : Nat}, (x = 0 ∨ big e x) → Ieee.double.read x = .infinity false ∨ ∃ M I, Ieee.double.read x = .number false M I ∧ -1074 ≤ I ∧ (x ≠ 0 → 4503599627370496 ≤ M ∧ e - 52 ≤ I) := by
    intro x hx
    rcases hx with rfl | hx
    · right; exact ⟨0, -1074, by decide +kernel, by omega, fun q => absurd rfl q⟩
    · have := read_big false hx (by omega)
      simp only [Bool.false_eq_true, if_false, Nat.zero_add] at this
      rcases this with r | ⟨M, I, r, a, _, c⟩
      · exact .inl r
      · exact .inr ⟨M, I, r, by omega, fun _ => ⟨a, c⟩⟩
  have hm : fb .add a b = ((Ieee.Datum.sum (Ieee.double.read a) (Ieee.double.read b))).map Ieee.double.write := rfl
  unfold fc
  rw [hm]
  rcases rd ha with ra | ⟨M, I, ra, i1, i2⟩ <;> rcases rd hb with rb | ⟨N, J, rb, j1, j2⟩
  · rw [ra, rb]
    simp only [Ieee.Datum.sum, if_true, Option.map_some, write_inf, Option.getD_some]
    exact big_inf (by omega)
  · rw [ra, rb]
    simp only [Ieee.Datum.sum, Option.map_some, write_inf, Option.getD_some]
    exact big_inf (by omega)
  · rw [ra, rb]
    simp only [Ieee.Datum.sum, Option.map_some, write_inf, Option.getD_some]
    exact big_inf (by omega)
  · rw [ra, rb]
    simp only [Ieee.Datum.sum, Option.map_some, Ieee.Format.write, Option.getD_some]
    have e1 : ∀ m u, Ieee.signed false m u = ((m * 2 ^ u : Nat) : Int) := by intro m u; rw [signed_eq]; simp
    rw [e1, e1]
    have key : ∃ T : Nat, ((M * 2 ^ (I - min I J).toNat : Nat) : Int) + ((N * 2 ^ (J - min I J).toNat : Nat) : Int) = (T : Int) ∧ T ≠ 0 ∧ e ≤ min I J + T.log2 := by
      refine ⟨M * 2 ^ (I - min I J).toNat + N * 2 ^ (J - min I J).toNat, by push_cast; rfl, ?_⟩
      have two : ∀ {x y : Nat} {K : Int}, 4503599627370496 ≤ x → e - 52 ≤ K → min I J ≤ K → x * 2 ^ (K - min I J).toNat + y ≠ 0 ∧ e ≤ min I J + (x * 2 ^ (K - min I J).toNat + y).log2 := by
        intro x y K hx hK hJ
        have a1 : 2 ^ (52 + (K - min I J).toNat) ≤ x * 2 ^ (K - min I J).toNat := by
          rw [Nat.pow_add]; exact Nat.mul_le_mul_right _ hx
        have a2 := log2_ge (show 2 ^ (52 + (K - min I J).toNat) ≤ x * 2 ^ (K - min I J).toNat + y by omega)
        have a3 := Nat.two_pow_pos (52 + (K - min I J).toNat)
        exact ⟨by omega, by omega⟩
      by_cases c : a = 0
      · have := j2 (fun q => h ⟨c, q⟩)
        rw [Nat.add_comm]
        exact two this.1 this.2 (by omega)
      · have := i2 c
        exact two this.1 this.2 (by omega)
    obtain ⟨T, hT, h0, hl⟩ := key
    rw [hT]
    have s0 : (if (T : Int) = 0 then (false && false) else decide ((T : Int) < 0)) = false := by
      rw [if_neg (by omega)]; simp
    rw [s0, Int.natAbs_natCast, nearest_word]
    simp only [Bool.false_eq_true, if_false, Nat.zero_add]
    exact rg_big h0 (by omega) hl (by omega)
theorem add_zero' : fc .add 0 0 = 0 := by decide +kernel
/-- a quotient by a whole number -/
theorem quo_big {a n : Nat} {e : Int} (ha : big e a) (h1 : -900 ≤ e) (h2 : e ≤ 900) (hn : n ≠ 0) (hn2 : n ≤ 1024) : big (e - 12) (fc .quo a (floatOfInt .f64 n)) := by
  obtain ⟨mn, j, gr, _, g⟩ := read_ofInt (n := (n : Int)) (by simp; omega)
  rcases g with ⟨h, _⟩ | ⟨_, hj, hLn, hm, b1, b2⟩
  · omega
  simp only [Int.natAbs_natCast] at hj hLn hm
  have hLs : n.log2 ≤ 10 := by
    have := (Nat.log2_lt (n := n) (k := 11) hn).2 (by omega)
    omega
  rw [decide_eq_false (show ¬ (n : Int) < 0 by omega)] at gr
  have hmn : mn ≠ 0 := by omega
  have hq : fb .quo a (floatOfInt .f64 n) = ((Ieee.Datum.quotient (Ieee.double.fractionBits + 2) (Ieee.double.read a) (Ieee.double.read (floatOfInt .f64 n)))).map Ieee.double.write := rfl
  unfold fc
  rw [hq]
  have := read_big false ha (by omega)
  simp only [Bool.false_eq_true, if_false, Nat.zero_add] at this
  rcases this with ra | ⟨M, I, ra, a1, a2, a3⟩
  · rw [ra, gr]
    simp only [Ieee.Datum.quotient, Bool.xor_false, Option.map_some, write_inf, Option.getD_some]
    exact big_inf (by omega)
  · rw [ra, gr, d_fb]
    simp only [Ieee.Datum.quotient, if_neg hmn, Bool.xor_false, Option.map_some, Ieee.Format.write, Option.getD_some]
    rw [log2_52 b1 b2, log2_52 a1 a2, nearest_word, Nat.shiftLeft_eq]
    simp only [Bool.false_eq_true, if_false, Nat.zero_add]
    have q1 : 2 ^ 53 ≤ M * 2 ^ (54 + 52 - 52) / mn := by
      rw [Nat.le_div_iff_mul_le (by omega)]
      have g1 : 2 ^ 53 * mn ≤ 2 ^ 53 * 2 ^ 53 := Nat.mul_le_mul_left _ (by omega)
      have g2 : 2 ^ 52 * 2 ^ 54 ≤ M * 2 ^ 54 := Nat.mul_le_mul_right _ (by omega)
      have e1 : (2 : Nat) ^ 53 * 2 ^ 53 = 2 ^ 52 * 2 ^ 54 := by decide
      rw [e1] at g1
      exact Nat.le_trans g1 g2
    obtain ⟨bb, hbb⟩ : ∃ bb : Nat, bb = (M * 2 ^ (52 + 2 + 52 - 52) % mn != 0).toNat := ⟨_, rfl⟩
    obtain ⟨Q, hQ⟩ : ∃ Q, Q = M * 2 ^ (52 + 2 + 52 - 52) / mn := ⟨_, rfl⟩
    rw [← hbb, ← hQ]
    have q1' : 2 ^ 53 ≤ Q := by rw [hQ]; exact q1
    have q2 : 2 ^ 54 ≤ 2 * Q + bb := by omega
    have q3 := log2_ge q2
    exact rg_big (by omega) (by omega) (by omega) (by omega)
theorem quo_zero {n : Nat} (hn : n ≠ 0) (hn2 : n ≤ 1024) : fc .quo 0 (floatOfInt .f64 n) = 0 := by
  have := quo_ofInt (q := 0) hn (by omega) (by simp)
  rw [Int.zero_mul, fl_zero] at this
  exact this
end Go.Proofs.Ytnjieddkphappaa
