/- plane: sums and quotients of whole numbers are those of their floats. -/
import Derived.Test.YtbkcoijcoacbaaaPlX1
namespace Go.Proofs.Ytbkcoijcoacbaaa.Pl
open Go.RowKit
set_option linter.unusedVariables false
set_option exponentiation.threshold 2000
set_option maxRecDepth 100000
theorem rg_zero (p : Int) : rg 0 p = 0 := by rw [rg_def, if_pos rfl]
/-- a whole number's rung -/
theorem rg_whole {m : Nat} (h0 : m ≠ 0) (h : m < 9007199254740992) : m.log2 ≤ 52 ∧ rg m 0 = (m.log2 + 1022) * 4503599627370496 + m * 2 ^ (52 - m.log2) ∧ 4503599627370496 ≤ m * 2 ^ (52 - m.log2) ∧ m * 2 ^ (52 - m.log2) < 9007199254740992 := by
  have hL : m.log2 < 53 := (Nat.log2_lt h0).2 (by omega)
  have h1 := Nat.log2_self_le h0
  have h2 : m < 2 ^ (m.log2 + 1) := Nat.lt_log2_self
  have a1 : 4503599627370496 ≤ m * 2 ^ (52 - m.log2) := by
    have : 2 ^ m.log2 * 2 ^ (52 - m.log2) = 4503599627370496 := by rw [← Nat.pow_add, show m.log2 + (52 - m.log2) = 52 by omega]
    rw [← this]; exact Nat.mul_le_mul_right _ h1
  have a2 : m * 2 ^ (52 - m.log2) < 9007199254740992 := by
    have : 2 ^ (m.log2 + 1) * 2 ^ (52 - m.log2) = 9007199254740992 := by rw [← Nat.pow_add, show m.log2 + 1 + (52 - m.log2) = 53 by omega]
    rw [← this]; exact Nat.mul_lt_mul_of_pos_right h2 (Nat.two_pow_pos _)
  refine ⟨by omega, ?_, a1, a2⟩
  rw [rg_def, if_neg h0]
  generalize m.log2 = L at *
  rw [show max ((0 : Int) + L - 52) (-1074) = (L : Int) - 52 by omega, show ((L : Int) - 52 + 1074).toNat = L + 1022 by omega, show ((0 : Int) - ((L : Int) - 52)).toNat = 52 - L by omega, show ((L : Int) - 52 - 0).toNat = 0 by omega, cut_zero]
  omega
theorem ofInt_word (n : Int) : floatOfInt .f64 n = (if n < 0 then 9223372036854775808 else 0) + rg n.natAbs 0 := by
  have : floatOfInt .f64 n = Ieee.double.nearest (decide (n < 0)) n.natAbs 0 := rfl
  rw [this, nearest_word]
  simp
/-- how a whole number is read -/
theorem read_ofInt {n : Int} (h : n.natAbs < 9007199254740992) : ∃ m i, Ieee.double.read (floatOfInt .f64 n) = .number (decide (n < 0)) m i ∧ -1074 ≤ i ∧
    (n = 0 ∧ m = 0 ∧ i = -1074 ∨ n ≠ 0 ∧ i = (n.natAbs.log2 : Int) - 52 ∧ n.natAbs.log2 ≤ 52 ∧ m = n.natAbs * 2 ^ (52 - n.natAbs.log2) ∧ 4503599627370496 ≤ m ∧ m < 9007199254740992) := by
  by_cases h0 : n = 0
  · subst h0
    exact ⟨0, -1074, by decide +kernel, by omega, .inl ⟨rfl, rfl, rfl⟩⟩
  · obtain ⟨hL, hr, a1, a2⟩ := rg_whole (m := n.natAbs) (by omega) h
    refine ⟨n.natAbs * 2 ^ (52 - n.natAbs.log2), (n.natAbs.log2 : Int) - 52, ?_, by omega, .inr ⟨h0, rfl, hL, rfl, a1, a2⟩⟩
    rw [ofInt_word, hr]
    generalize n.natAbs * 2 ^ (52 - n.natAbs.log2) = M at *
    generalize n.natAbs.log2 = L at *
    unfold Ieee.Format.read
    rw [d_sw, d_inf, d_bin, d_lp]
    dsimp only
    have e1 : ((if n < 0 then 9223372036854775808 else 0) + ((L + 1022) * 4503599627370496 + M)) % 9223372036854775808 = (L + 1022) * 4503599627370496 + M := by split <;> omega
    rw [e1, if_neg (by omega), if_pos (by omega)]
    congr 1
    · by_cases hn : n < 0
      · rw [if_pos hn, decide_eq_true hn]
        rw [show (9223372036854775808 + ((L + 1022) * 4503599627370496 + M)) / 9223372036854775808 % 2 = 1 by omega]; rfl
      · rw [if_neg hn, decide_eq_false hn]
        rw [show (0 + ((L + 1022) * 4503599627370496 + M)) / 9223372036854775808 % 2 = 0 by omega]; rfl
    · omega
    · omega
theorem signed_eq (s : Bool) (m u : Nat) : Ieee.signed s m u = (if s then -1 else 1) * ((m * 2 ^ u : Nat) : Int) := by
  unfold Ieee.signed
  rw [Nat.shiftLeft_eq]
  cases s <;> simp
/-- as whole numbers, in units of 2^-1074 -/
theorem read_val {n : Int} (h : n.natAbs < 9007199254740992) : ∃ m i, Ieee.double.read (floatOfInt .f64 n) = .number (decide (n < 0)) m i ∧ -1074 ≤ i ∧ i ≤ 0 ∧ Ieee.signed (decide (n < 0)) m (i + 1074).toNat = n * ((2 ^ 1074 : Nat) : Int) := by
  obtain ⟨m, i, hr, h1, h2⟩ := read_ofInt h
  refine ⟨m, i, hr, h1, ?_, ?_⟩
  · rcases h2 with ⟨_, _, rfl⟩ | ⟨_, h3, h4, _⟩ <;> omega
  · rw [signed_eq]
    rcases h2 with ⟨rfl, rfl, rfl⟩ | ⟨h0, hi, hL, hm, _⟩
    · simp
    · have e : m * 2 ^ (i + 1074).toNat = n.natAbs * 2 ^ 1074 := by
        rw [hm, Nat.mul_assoc, ← Nat.pow_add]
        congr 2; omega
      rw [e, Int.natCast_mul]
      generalize ((2 ^ 1074 : Nat) : Int) = P
      by_cases hn : n < 0
      · rw [decide_eq_true hn, if_pos rfl, ← Int.mul_assoc]; congr 1; omega
      · rw [decide_eq_false hn, ← Int.mul_assoc]; congr 1; simp; omega
theorem nearest_sum {t : Int} {base : Int} {c : Int} {neg : Bool} (hb : -1074 ≤ base) (h0 : base ≤ 0) (h : t * ((2 ^ (base + 1074).toNat : Nat) : Int) = c * ((2 ^ 1074 : Nat) : Int)) (hn : neg = decide (c < 0)) :
    Ieee.double.nearest neg t.natAbs base = floatOfInt .f64 c := by
  have hp : (0 : Int) < ((2 ^ (base + 1074).toNat : Nat) : Int) := by have := Nat.two_pow_pos (base + 1074).toNat; omega
  have e1 : ((2 ^ 1074 : Nat) : Int) = ((2 ^ (-base).toNat : Nat) : Int) * ((2 ^ (base + 1074).toNat : Nat) : Int) := by
    rw [← Int.natCast_mul, ← Nat.pow_add, show (-base).toNat + (base + 1074).toNat = 1074 by omega]
  rw [e1, ← Int.mul_assoc] at h
  have h2 := Int.eq_of_mul_eq_mul_right (by omega) h
  rw [nearest_word, ofInt_word, h2, Int.natAbs_mul, Int.natAbs_natCast, rg_shift, show base + ((-base).toNat : Int) = 0 by omega, hn]
  simp
theorem signed_up' (s : Bool) (m u v : Nat) : Ieee.signed s m (u + v) = Ieee.signed s m u * ((2 ^ v : Nat) : Int) := by
  rw [signed_eq, signed_eq, Nat.pow_add, ← Nat.mul_assoc, Int.natCast_mul, ← Int.mul_assoc]
/-- the sum of whole numbers -/
theorem add_ofInt {a b : Int} (ha : a.natAbs < 9007199254740992) (hb : b.natAbs < 9007199254740992) : fc .add (floatOfInt .f64 a) (floatOfInt .f64 b) = floatOfInt .f64 (a + b) := by
  obtain ⟨m, i, hr, h1, h2, h3⟩ := read_val ha
  obtain ⟨n, j, gr, g1, g2, g3⟩ := read_val hb
  have e : fb .add (floatOfInt .f64 a) (floatOfInt .f64 b) = some (Ieee.double.nearest (if Ieee.signed (decide (a < 0)) m (i - min i j).toNat + Ieee.signed (decide (b < 0)) n (j - min i j).toNat = 0 then decide (a < 0) && decide (b < 0) else Ieee.signed (decide (a < 0)) m (i - min i j).toNat + Ieee.signed (decide (b < 0)) n (j - min i j).toNat < 0) (Ieee.signed (decide (a < 0)) m (i - min i j).toNat + Ieee.signed (decide (b < 0)) n (j - min i j).toNat).natAbs (min i j)) := by
    show ((Ieee.Datum.sum (Ieee.double.read (floatOfInt .f64 a)) (Ieee.double.read (floatOfInt .f64 b)))).map Ieee.double.write = _
    rw [hr, gr]
    simp only [Ieee.Datum.sum, Option.map_some, Ieee.Format.write]
  unfold fc
  rw [e, Option.getD_some]
  have k1 : (i + 1074).toNat = (i - min i j).toNat + (min i j + 1074).toNat := by omega
  have k2 : (j + 1074).toNat = (j - min i j).toNat + (min i j + 1074).toNat := by omega
  rw [k1, signed_up'] at h3
  rw [k2, signed_up'] at g3
  generalize Ieee.signed (decide (a < 0)) m (i - min i j).toNat = x at *
  generalize Ieee.signed (decide (b < 0)) n (j - min i j).toNat = y at *
  have hs : (x + y) * ((2 ^ (min i j + 1074).toNat : Nat) : Int) = (a + b) * ((2 ^ 1074 : Nat) : Int) := by rw [Int.add_mul, Int.add_mul, h3, g3]
  refine nearest_sum (by omega) (by omega) hs ?_
  have hp : (0 : Int) < ((2 ^ (min i j + 1074).toNat : Nat) : Int) := by have := Nat.two_pow_pos (min i j + 1074).toNat; omega
  have hq : (0 : Int) < ((2 ^ 1074 : Nat) : Int) := by have := Nat.two_pow_pos 1074; omega
  generalize ((2 ^ (min i j + 1074).toNat : Nat) : Int) = p at *
  generalize ((2 ^ 1074 : Nat) : Int) = q at *
  by_cases hz : x + y = 0
  · rw [if_pos hz]
    rw [hz, Int.zero_mul] at hs
    have : a + b = 0 := by
      rcases Int.mul_eq_zero.1 hs.symm with r | r
      · exact r
      · omega
    rw [decide_eq_false (show ¬ a + b < 0 by omega)]
    by_cases h : a < 0
    · rw [decide_eq_false (show ¬ b < 0 by omega), Bool.and_false]
    · rw [decide_eq_false h, Bool.false_and]
  · rw [if_neg hz]
    have : (x + y < 0) ↔ (a + b < 0) := by
      constructor
      · intro r
        have h1 : (x + y) * p < 0 := Int.mul_neg_of_neg_of_pos r hp
        rw [hs] at h1
        refine Classical.byContradiction fun c => ?_
        have := Int.mul_nonneg (show 0 ≤ a + b by omega) (Int.le_of_lt hq)
        omega
      · intro r
        have h1 : (a + b) * q < 0 := Int.mul_neg_of_neg_of_pos r hq
        rw [← hs] at h1
        refine Classical.byContradiction fun c => ?_
        have := Int.mul_nonneg (show 0 ≤ x + y by omega) (Int.le_of_lt hp)
        omega
    simp only [this]
end Go.Proofs.Ytbkcoijcoacbaaa.Pl
