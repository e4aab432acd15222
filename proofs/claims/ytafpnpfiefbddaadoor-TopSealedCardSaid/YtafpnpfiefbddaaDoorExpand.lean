/- sha.Expand. -/
import Derived.Test.YtafpnpfiefbddaaDoorSt
namespace Go.Proofs.YtafpnpfiefbddaaDoor
set_option linter.unusedSimpArgs false
set_option linter.unusedVariables false
open Go.RowKit
set_option linter.unusedVariables false
set_option maxRecDepth 100000

/-- the first digests of an expansion, one behind the other -/
def expN (seed : List Nat) : Nat → List Nat
  | 0 => []
  | k + 1 => expN seed k ++ sha (seed ++ by4 k)
theorem length_expN (seed : List Nat) (k : Nat) : (expN seed k).length = 32 * k := by
  induction k with
  | zero => rfl
  | succ k ih => rw [expN, List.length_append, ih, length_sha]; omega
/-- an expansion of n bytes -/
def expand (seed : List Nat) (n : Nat) : List Nat := (expN seed ((n + 31) / 32)).take n
theorem expN_mono (seed : List Nat) (j k : Nat) (h : j ≤ k) : ∃ r, expN seed k = expN seed j ++ r := by
  induction k with
  | zero => obtain rfl : j = 0 := by omega
            exact ⟨[], by simp⟩
  | succ k ih =>
    by_cases hj : j = k + 1
    · subst hj; exact ⟨[], by simp⟩
    · obtain ⟨r, hr⟩ := ih (by omega)
      exact ⟨r ++ sha (seed ++ by4 k), by rw [expN, hr, List.append_assoc]⟩
theorem length_expand (seed : List Nat) (n : Nat) : (expand seed n).length = n := by
  rw [expand, List.length_take, length_expN]; omega
theorem expand_begins (seed : List Nat) (n m : Nat) (h : n ≤ m) : (expand seed m).take n = expand seed n := by
  unfold expand
  rw [List.take_take, Nat.min_eq_left h]
  obtain ⟨r, hr⟩ := expN_mono seed ((n + 31) / 32) ((m + 31) / 32) (by omega)
  rw [hr, List.take_append_of_le_length (by rw [length_expN]; omega)]
theorem dig_lim {s : St} : Lim 256 (dig s) := by
  intro x hx
  simp only [dig, List.mem_flatMap, by4, List.mem_cons, List.not_mem_nil, or_false] at hx
  obtain ⟨a, _, h⟩ := hx
  omega
theorem sha_lim (b : List Nat) : Lim 256 (sha b) := by rw [sha_is]; exact dig_lim
theorem expN_lim (seed : List Nat) (k : Nat) : Lim 256 (expN seed k) := by
  induction k with
  | zero => exact Lim.nil _
  | succ k ih => exact ih.append (sha_lim _)
theorem by4_lim (k : Nat) : Lim 256 (by4 k) := by
  intro x hx
  simp only [by4, List.mem_cons, List.not_mem_nil, or_false] at hx
  omega

theorem slice_sum (g : Nat) (W : World) : (Instr.sliceAt 60 (.pointer (some ⟨g, 0, none⟩)) none none none).run Tryd.prog W = .ok (.slice (some ⟨g, 0, none⟩) 32 32) W := by rfl
end Go.Proofs.YtafpnpfiefbddaaDoor
