/- plane: the mean of whole numbers, where it is whole. -/
import Derived.Test.YtbkcoijcoacbaaaPlX2
import Derived.Test.YtbkcoijcoacbaaaPlP6
namespace Go.Proofs.Ytbkcoijcoacbaaa.Pl
open Go.RowKit
set_option linter.unusedVariables false
set_option exponentiation.threshold 2000
set_option maxRecDepth 100000
theorem log2_big {m : Nat} (h1 : 4503599627370496 ≤ m) (h2 : m < 9007199254740992) : m.log2 = 52 := by
  have a := (Nat.le_log2 (n := m) (k := 52) (by omega)).2 (by omega)
  have b := (Nat.log2_lt (n := m) (k := 53) (by omega)).2 (by omega)
  omega
theorem quo_ofInt {q : Int} {n : Nat} (hn : n ≠ 0) (hn2 : n < 9007199254740992) (ha : (q * n).natAbs < 9007199254740992) : fc .quo (floatOfInt .f64 (q * n)) (floatOfInt .f64 n) = floatOfInt .f64 q := by
  obtain ⟨mn, j, gr, _, g⟩ := read_ofInt (n := (n : Int)) (by simpa using hn2)
  rcases g with ⟨h, _⟩ | ⟨_, hj, hLn, hm, b1, b2⟩
  · omega
  simp only [Int.natAbs_natCast] at hj hLn hm
  rw [decide_eq_false (show ¬ (n : Int) < 0 by omega)] at gr
  have hmn : mn ≠ 0 := by omega
  obtain ⟨m, i, hr, _, h⟩ := read_ofInt ha
  have e : fb .quo (floatOfInt .f64 (q * n)) (floatOfInt .f64 n) = some (Ieee.double.nearest (decide (q * n < 0) ^^ false) (2 * ((m <<< (54 + mn.log2 - m.log2)) / mn) + ((m <<< (54 + mn.log2 - m.log2)) % mn != 0).toNat) (i - j - (54 + mn.log2 - m.log2 : Nat) - 1)) := by
    show ((Ieee.Datum.quotient (Ieee.double.fractionBits + 2) (Ieee.double.read (floatOfInt .f64 (q * n))) (Ieee.double.read (floatOfInt .f64 n)))).map Ieee.double.write = _
    rw [hr, gr, d_fb]
    simp only [Ieee.Datum.quotient, if_neg hmn, Option.map_some, Ieee.Format.write]
  unfold fc
  rw [e, Option.getD_some]
  rcases h with ⟨h0, hm0, hi0⟩ | ⟨h0, hi, hL, hma, a1, a2⟩
  · have hq : q = 0 := by
      rcases Int.mul_eq_zero.1 h0 with r | r
      · exact r
      · omega
    subst hq
    rw [hm0]
    simp only [Nat.zero_shiftLeft, Nat.zero_div, Nat.zero_mod, Int.zero_mul]
    rw [nearest_word, ofInt_word]
    simp [rg_zero]
  · have hq : q ≠ 0 := by intro r; rw [r] at h0; simp at h0
    rw [log2_big b1 b2, log2_big a1 a2, Nat.shiftLeft_eq]
    have hqa : (q * n).natAbs = q.natAbs * n := by rw [Int.natAbs_mul, Int.natAbs_natCast]
    rw [hqa] at hma hi hL ha
    have ed : m * 2 ^ (54 + 52 - 52) = (q.natAbs * 2 ^ (54 + (52 - (q.natAbs * n).log2) - (52 - n.log2))) * mn := by
      rw [hma, hm]
      have x1 : (54 + 52 - 52) = 54 := rfl
      rw [x1]
      have x2 : 54 + (52 - (q.natAbs * n).log2) = (54 + (52 - (q.natAbs * n).log2) - (52 - n.log2)) + (52 - n.log2) := by omega
      calc q.natAbs * n * 2 ^ (52 - (q.natAbs * n).log2) * 2 ^ 54 = q.natAbs * n * 2 ^ (54 + (52 - (q.natAbs * n).log2)) := by rw [Nat.mul_assoc, ← Nat.pow_add, Nat.add_comm]
        _ = q.natAbs * n * (2 ^ (54 + (52 - (q.natAbs * n).log2) - (52 - n.log2)) * 2 ^ (52 - n.log2)) := by rw [← Nat.pow_add, ← x2]
        _ = _ := by ac_rfl
    rw [ed, Nat.mul_div_cancel _ (by omega), Nat.mul_mod_left]
    generalize hu : 54 + (52 - (q.natAbs * n).log2) - (52 - n.log2) = u
    have ev : 2 * (q.natAbs * 2 ^ u) + ((0 : Nat) != 0).toNat = q.natAbs * 2 ^ (u + 1) := by
      rw [Nat.pow_succ]
      show 2 * (q.natAbs * 2 ^ u) + 0 = _
      rw [Nat.add_zero, Nat.mul_comm 2, Nat.mul_assoc]
    rw [ev, nearest_word, ofInt_word, rg_shift]
    have ep : i - j - ((54 + 52 - 52 : Nat) : Int) - 1 + ((u + 1 : Nat) : Int) = 0 := by omega
    rw [ep, Bool.xor_false]
    have es : (q * n < 0) ↔ q < 0 := by
      constructor
      · intro r
        refine Classical.byContradiction fun c => ?_
        have := Int.mul_nonneg (show 0 ≤ q by omega) (show (0 : Int) ≤ n by omega)
        omega
      · intro r
        exact Int.mul_neg_of_neg_of_pos r (by omega)
    simp only [es, decide_eq_true_eq]
/-- the sum of whole numbers, one by one -/
theorem fold_ofInt (f : Nat) : ∀ (l : List Int) (s : Int), (∀ x ∈ l, x.natAbs ≤ f) → s.natAbs + l.length * f < 9007199254740992 →
    (l.map fun x => floatOfInt .f64 x).foldl (fun s x => fc .add s x) (floatOfInt .f64 s) = floatOfInt .f64 (s + l.sum) ∧ (s + l.sum).natAbs ≤ s.natAbs + l.length * f
  | [], s, _, _ => ⟨by simp, by simp⟩
  | x :: l, s, h, hl => by
    rw [List.length_cons, Nat.add_mul, Nat.one_mul] at hl
    have hx := h x (by simp)
    obtain ⟨h1, h2⟩ := fold_ofInt f l (s + x) (fun y hy => h y (List.mem_cons_of_mem _ hy)) (by omega)
    refine ⟨?_, ?_⟩
    · rw [List.map_cons, List.foldl_cons, add_ofInt (by omega) (by omega), h1, List.sum_cons, Int.add_assoc]
    · rw [List.length_cons, Nat.add_mul, Nat.one_mul, List.sum_cons, ← Int.add_assoc]
      omega
theorem fl_zero : floatOfInt .f64 0 = 0 := by decide +kernel
theorem addC_ofInt (f : Nat) (l : List Int) (h : ∀ x ∈ l, x.natAbs ≤ f) (hl : l.length * f < 9007199254740992) : addC (l.map fun x => floatOfInt .f64 x) = floatOfInt .f64 l.sum ∧ l.sum.natAbs ≤ l.length * f := by
  obtain ⟨h1, h2⟩ := fold_ofInt f l 0 h (by simpa using hl)
  rw [fl_zero, Int.zero_add] at h1
  simp only [Int.zero_add, Int.natAbs_zero, Nat.zero_add] at h2
  exact ⟨h1, h2⟩
theorem mean_ofInt {f : Nat} {l : List Int} {q : Int} (h : ∀ x ∈ l, x.natAbs ≤ f) (hl : l.length * f < 9007199254740992) (h0 : l.length ≠ 0) (h1 : l.length < 9007199254740992) (hq : l.sum = q * l.length) :
    meanC (l.map fun x => floatOfInt .f64 x) = floatOfInt .f64 q := by
  obtain ⟨h2, h3⟩ := addC_ofInt f l h hl
  unfold meanC
  rw [h2, List.length_map, hq]
  rw [hq] at h3
  exact quo_ofInt h0 h1 (by omega)
end Go.Proofs.Ytbkcoijcoacbaaa.Pl
