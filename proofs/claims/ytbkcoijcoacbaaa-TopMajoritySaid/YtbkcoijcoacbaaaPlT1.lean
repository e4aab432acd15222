/- plane: finite words, distances without their sign. -/
import Derived.Test.YtbkcoijcoacbaaaPlP8
namespace Go.Proofs.Ytbkcoijcoacbaaa.Pl
open Go.RowKit
set_option maxRecDepth 100000
set_option linter.unusedVariables false
theorem d_sw : Ieee.double.signWeight = 9223372036854775808 := by decide +kernel
theorem d_inf : Ieee.double.infRung = 9218868437227405312 := by decide +kernel
theorem d_bin : Ieee.double.binade = 4503599627370496 := by decide +kernel
theorem d_lp : Ieee.double.leastPlace = -1074 := by decide +kernel
theorem d_fb : Ieee.double.fractionBits = 52 := rfl
/-- a finite word -/
def isF (x : Nat) : Prop := x % 9223372036854775808 < 9218868437227405312
theorem isF_read {x : Nat} (h : isF x) : ∃ s m i, Ieee.double.read x = .number s m i := by
  unfold isF at h
  unfold Ieee.Format.read
  rw [d_sw, d_inf, d_bin]
  dsimp only
  split
  · exact ⟨_, _, _, rfl⟩
  · first | exact ⟨_, _, _, rfl⟩ | (rw [if_pos h]; exact ⟨_, _, _, rfl⟩)
theorem isF_nn {x : Nat} (h : isF x) : ¬ isN x := by rw [isN_iff]; unfold isF at h; omega
/-- the rung of a magnitude -/
def rg (mag : Nat) (place : Int) : Nat := Ieee.double.nearest false mag place
theorem rg_le (mag : Nat) (place : Int) : rg mag place ≤ 9218868437227405312 := by
  unfold rg Ieee.Format.nearest Ieee.Format.word
  split
  · simp
  · dsimp only
    rw [d_inf]; simp; exact Nat.min_le_right _ _
theorem cut_neg (neg : Bool) (n d : Nat) : Ieee.Toward.even.cut neg n d = Ieee.Toward.even.cut false n d := rfl
theorem nearest_word (neg : Bool) (mag : Nat) (place : Int) : Ieee.double.nearest neg mag place = (if neg then 9223372036854775808 else 0) + rg mag place := by
  unfold rg Ieee.Format.nearest
  split
  · unfold Ieee.Format.word; rw [d_sw]; cases neg <;> simp
  · dsimp only
    rw [cut_neg neg]
    unfold Ieee.Format.word; rw [d_sw]; cases neg <;> simp
theorem ab_nearest (neg : Bool) (mag : Nat) (place : Int) : ab (Ieee.double.nearest neg mag place) = rg mag place := by
  have := rg_le mag place
  rw [nearest_word]; unfold ab
  cases neg <;> simp <;> omega
theorem cut_zero (n : Nat) (neg : Bool) : Ieee.Toward.even.cut neg n 0 = n := by
  unfold Ieee.Toward.cut
  simp [Nat.mod_one]
theorem rg_small {mag : Nat} (h : mag < 1099511627776) : rg mag 0 < 9218868437227405312 := by
  unfold rg Ieee.Format.nearest
  split
  · unfold Ieee.Format.word; simp
  · rename_i h0
    have hL : mag.log2 < 40 := (Nat.log2_lt h0).2 (by omega)
    have hm := @Nat.lt_log2_self mag
    generalize mag.log2 = L at hL hm
    rw [d_fb, d_lp, d_bin, d_inf]
    dsimp only
    have e1 : max ((0 : Int) + L - (52 : Nat)) (-1074) = (L : Int) - 52 := by omega
    rw [e1]
    rw [show ((0 : Int) - ((L : Int) - 52)).toNat = 52 - L by omega, show ((L : Int) - 52 - 0).toNat = 0 by omega, cut_zero, show ((L : Int) - 52 - -1074).toNat = L + 1022 by omega]
    have : mag <<< (52 - L) < 2 ^ 53 := by
      rw [Nat.shiftLeft_eq]
      calc mag * 2 ^ (52 - L) < 2 ^ (L + 1) * 2 ^ (52 - L) := Nat.mul_lt_mul_of_pos_right hm (Nat.two_pow_pos _)
        _ = 2 ^ 53 := by rw [← Nat.pow_add]; congr 1; omega
    unfold Ieee.Format.word
    simp
    omega
theorem ofInt_fin {n : Int} (h : n.natAbs < 1099511627776) : isF (floatOfInt .f64 n) := by
  have e : ab (floatOfInt .f64 n) = rg n.natAbs 0 := ab_nearest _ _ _
  unfold isF
  unfold ab at e
  rw [e]
  exact rg_small h
theorem xor_low {x : Nat} (h : x < 9223372036854775808) : x ^^^ 9223372036854775808 = 9223372036854775808 + x := by
  apply Nat.eq_of_testBit_eq
  intro i
  rw [Nat.testBit_xor, show (9223372036854775808 : Nat) = 2 ^ 63 from by decide, Nat.testBit_two_pow]
  rcases Nat.lt_trichotomy i 63 with hi | rfl | hi
  · rw [Nat.testBit_two_pow_add_gt hi, decide_eq_false (show ¬ 63 = i by omega), Bool.xor_false]
  · rw [Nat.testBit_two_pow_add_eq]; simp
  · rw [Nat.testBit_lt_two_pow (x := x) (i := i) (Nat.lt_of_lt_of_le h (by rw [show (9223372036854775808 : Nat) = 2 ^ 63 from by decide]; exact Nat.pow_le_pow_right (by omega) (by omega))), Nat.testBit_lt_two_pow (x := 2 ^ 63 + x) (i := i) (Nat.lt_of_lt_of_le (show 2 ^ 63 + x < 2 ^ 64 by omega) (Nat.pow_le_pow_right (by omega) (by omega)))]
    rw [decide_eq_false (show ¬ 63 = i by omega)]; rfl
theorem neg_eq {x : Nat} (h : x < 18446744073709551616) : Op.negFloat .f64 x = if x < 9223372036854775808 then x + 9223372036854775808 else x - 9223372036854775808 := by
  show x ^^^ 9223372036854775808 = _
  split
  · rename_i h1
    rw [xor_low h1]; omega
  · rename_i h1
    obtain ⟨y, rfl⟩ : ∃ y, x = 9223372036854775808 + y := ⟨x - 9223372036854775808, by omega⟩
    rw [← xor_low (by omega), Nat.xor_assoc, Nat.xor_self, Nat.xor_zero, xor_low (by omega)]
    omega
theorem neg_read {x : Nat} (h : x < 18446744073709551616) (g : isF x) : Ieee.double.read (Op.negFloat .f64 x) = (Ieee.double.read x).opposite := by
  rw [neg_eq h]
  unfold isF at g
  unfold Ieee.Format.read
  rw [d_sw, d_inf, d_bin]
  dsimp only
  split
  · rw [show (x + 9223372036854775808) % 9223372036854775808 = x % 9223372036854775808 by omega, show (x + 9223372036854775808) / 9223372036854775808 = 1 by omega, show x / 9223372036854775808 = 0 by omega]
    split
    · rfl
    · first | rfl | (simp only [if_pos g]; rfl) | (rw [if_pos g]; rfl)
  · rw [show (x - 9223372036854775808) % 9223372036854775808 = x % 9223372036854775808 by omega, show (x - 9223372036854775808) / 9223372036854775808 = 0 by omega, show x / 9223372036854775808 = 1 by omega]
    split
    · rfl
    · first | rfl | (simp only [if_pos g]; rfl) | (rw [if_pos g]; rfl)
theorem signed_not (s : Bool) (m u : Nat) : Ieee.signed (!s) m u = - Ieee.signed s m u := by cases s <;> simp [Ieee.signed]
/-- a difference of finite words, without its sign -/
theorem sub_ab {x y : Nat} {s t : Bool} {m n : Nat} {i j : Int} (hx : Ieee.double.read x = .number s m i) (hy : Ieee.double.read y = .number t n j) :
    fb .sub x y = some (Ieee.double.nearest (if Ieee.signed s m (i - min i j).toNat - Ieee.signed t n (j - min i j).toNat = 0 then s && !t else Ieee.signed s m (i - min i j).toNat - Ieee.signed t n (j - min i j).toNat < 0) (Ieee.signed s m (i - min i j).toNat - Ieee.signed t n (j - min i j).toNat).natAbs (min i j)) := by
  show ((Ieee.Datum.sum (Ieee.double.read x) (Ieee.double.read y).opposite)).map Ieee.double.write = _
  rw [hx, hy]
  simp only [Ieee.Datum.opposite, Ieee.Datum.sum, Option.map_some, Ieee.Format.write, signed_not, Int.sub_eq_add_neg]
theorem dist_ab {x y : Nat} {s t : Bool} {m n : Nat} {i j : Int} (hx : Ieee.double.read x = .number s m i) (hy : Ieee.double.read y = .number t n j) :
    ab (fc .sub x y) = rg (Ieee.signed s m (i - min i j).toNat - Ieee.signed t n (j - min i j).toNat).natAbs (min i j) := by
  unfold fc
  rw [sub_ab hx hy]
  exact ab_nearest _ _ _
theorem dist_comm {x y : Nat} (hx : isF x) (hy : isF y) : ab (fc .sub x y) = ab (fc .sub y x) := by
  obtain ⟨s, m, i, ex⟩ := isF_read hx
  obtain ⟨t, n, j, ey⟩ := isF_read hy
  rw [dist_ab ex ey, dist_ab ey ex, Int.min_comm j i]
  congr 1
  omega
theorem dist_neg {x y : Nat} (lx : x < 18446744073709551616) (ly : y < 18446744073709551616) (hx : isF x) (hy : isF y) : ab (fc .sub (Op.negFloat .f64 x) (Op.negFloat .f64 y)) = ab (fc .sub x y) := by
  obtain ⟨s, m, i, ex⟩ := isF_read hx
  obtain ⟨t, n, j, ey⟩ := isF_read hy
  have ex' := (neg_read lx hx).trans (congrArg Ieee.Datum.opposite ex)
  have ey' := (neg_read ly hy).trans (congrArg Ieee.Datum.opposite ey)
  simp only [Ieee.Datum.opposite] at ex' ey'
  rw [dist_ab ex ey, dist_ab ex' ey', signed_not, signed_not]
  congr 1
  omega
theorem dist_self {x : Nat} (hx : isF x) : ab (fc .sub x x) = 0 := by
  obtain ⟨s, m, i, ex⟩ := isF_read hx
  rw [dist_ab ex ex]
  simp
  rfl
theorem dist_nn {x y : Nat} (hx : isF x) (hy : isF y) : ¬ isN (ab (fc .sub x y)) := by
  obtain ⟨s, m, i, ex⟩ := isF_read hx
  obtain ⟨t, n, j, ey⟩ := isF_read hy
  rw [dist_ab ex ey, isN_iff]
  have := rg_le (Ieee.signed s m (i - min i j).toNat - Ieee.signed t n (j - min i j).toNat).natAbs (min i j)
  omega
end Go.Proofs.Ytbkcoijcoacbaaa.Pl
