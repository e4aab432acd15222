/- What is printed is read again: the digits. -/
import Derived.Test.YtddjgjaifflpeaaDoorPrint
import Derived.Lib.IndexLaws
namespace Go.Proofs.YtddjgjaifflpeaaDoor
open Go.RowKit
set_option linter.unusedVariables false
set_option maxRecDepth 100000

theorem low_digit (n k : Nat) : ∀ x ∈ low n k, 48 ≤ x ∧ x ≤ 57 := by
  induction k with
  | zero => intro x hx; cases hx
  | succ k ih =>
    intro x hx
    simp only [low, List.mem_cons] at hx
    rcases hx with rfl | hx
    · omega
    · exact ih x hx
theorem nstep_eq (m d : Nat) (hm : m * 10 + d < 18446744073709551616) : nstep m (48 + d) = m * 10 + d := by
  unfold nstep
  omega
theorem fold_low (n k : Nat) : ∀ m : Nat, (m + 1) * 10 ^ k ≤ 10000000000000000000 → (low n k).foldl nstep m = m * 10 ^ k + n % 10 ^ k := by
  induction k with
  | zero => intro m _; simp [low, Nat.mod_one]
  | succ k ih =>
    intro m hm
    rw [low, List.foldl_cons]
    have hp : 0 < 10 ^ k := Nat.pow_pos (by decide)
    rw [Nat.pow_succ] at hm
    have h1 : (m * 10 + 9 + 1) * 10 ^ k ≤ 10000000000000000000 := by
      rw [show (m * 10 + 9 + 1) = (m + 1) * 10 by omega, Nat.mul_assoc, Nat.mul_comm 10]; exact hm
    obtain ⟨d, hd⟩ : ∃ d, n / 10 ^ k % 10 = d := ⟨_, rfl⟩
    have hd9 : d ≤ 9 := by omega
    have h3 : m * 10 + d < 18446744073709551616 := by
      have : (m * 10 + 9 + 1) * 1 ≤ (m * 10 + 9 + 1) * 10 ^ k := Nat.mul_le_mul_left _ hp
      omega
    rw [hd, nstep_eq m d h3, ih (m * 10 + d) (Nat.le_trans (Nat.mul_le_mul_right _ (by omega)) h1), Nat.mod_pow_succ, hd, Nat.pow_succ, Nat.add_mul, Nat.mul_comm (10 ^ k) 10, ← Nat.mul_assoc, Nat.mul_comm (10 ^ k) d]
    omega
theorem num_ten (n : Nat) (h : n < 10000000000) : num (ten n) = n := by
  unfold num ten
  rw [fold_low n 10 0 (by decide)]
  omega
theorem least_back (p : Nat) (h : p < 4294967296) : least (p * 9765625 / 4194304) = p := by
  obtain ⟨n, hn⟩ : ∃ n, p * 9765625 / 4194304 = n := ⟨_, rfl⟩
  rw [hn]
  have h1 : n * 4194304 ≤ p * 9765625 := by omega
  have h2 : p * 9765625 < n * 4194304 + 4194304 := by omega
  clear hn
  have e1 : (n * 4194304 + 9765624) % 18446744073709551616 = n * 4194304 + 9765624 := by omega
  have e2 : (n * 4194304 + 9765624) / 9765625 = p := by omega
  unfold least
  rw [e1, e2]
  exact Nat.mod_eq_of_lt h
theorem trim_spec (xs : List Nat) : ∃ k, xs = List.replicate k 48 ++ trim xs ∧ (trim xs = [] ∨ (trim xs).getD 0 0 ≠ 48) := by
  induction xs with
  | nil => exact ⟨0, rfl, Or.inl rfl⟩
  | cons x xs ih =>
    obtain ⟨k, e, h⟩ := ih
    rw [trim]
    by_cases hx : x = 48
    · rw [if_pos hx]
      refine ⟨k + 1, ?_, h⟩
      rw [hx, List.replicate_succ, List.cons_append, ← e]
    · rw [if_neg hx]
      exact ⟨0, rfl, Or.inr (by simpa using hx)⟩

/-- bytes as the library has them -/
def d8 (xs : List Nat) : List UInt8 := xs.map UInt8.ofNat
theorem data_bstr (xs : List Nat) : (bstr xs).data.toList = d8 xs := by
  unfold bstr
  rw [strOfNums_data, List.map_map]
  rfl
theorem sb_bstr (xs : List Nat) (h : Lim 256 xs) : sb (bstr xs) = xs := by
  unfold sb
  rw [data_bstr, d8, List.map_map]
  conv => rhs; rw [← List.map_id xs]
  apply List.map_congr_left
  intro x hx
  have := h x hx
  simp only [Function.comp, UInt8.toNat_ofNat', id]
  omega
theorem size_bstr (xs : List Nat) : (bstr xs).size = xs.length := by unfold bstr; rw [strOfNums_size, List.length_map]
theorem ext_data {a b : ByteArray} (h : a.data.toList = b.data.toList) : a = b := by
  cases a; cases b; simp only at h; congr; exact Array.toList_inj.1 h
theorem extract_bstr (xs : List Nat) (i j : Nat) : (bstr xs).extract i j = bstr ((xs.drop i).take (j - i)) := by
  apply ext_data
  rw [ByteArray.data_extract, data_bstr, Array.toList_extract, data_bstr]
  unfold d8
  rw [List.extract_eq_take_drop, List.map_take, List.map_drop]
theorem eq_of_bstr {xs ys : List Nat} (h : bstr xs = bstr ys) (hx : Lim 256 xs) (hy : Lim 256 ys) : xs = ys := by rw [← sb_bstr xs hx, h, sb_bstr ys hy]
theorem idx_app (p q : List UInt8) (h : ∀ x ∈ p, x ≠ 46) : Lib.indexByte (p ++ 46 :: q) 46 = (p.length : Int) := by
  induction p with
  | nil => simp [Lib.indexByte]
  | cons x p ih =>
    have hx : x ≠ 46 := h x (by simp)
    have := ih (fun y hy => h y (by simp [hy]))
    rw [List.cons_append, Lib.indexByte, this]
    have e : (x == 46) = false := by simpa using hx
    rw [e]
    have e2 : ((p.length : Int) == -1) = false := by rw [beq_eq_false_iff_ne]; omega
    simp [e2]
theorem index_bstr (xs ys : List Nat) (h : ∀ x ∈ xs, 48 ≤ x ∧ x ≤ 57) : Lib.indexByte (bstr (xs ++ 46 :: ys)).data.toList 46 = (xs.length : Int) := by
  rw [data_bstr]
  unfold d8
  rw [List.map_append, List.map_cons]
  have := idx_app (xs.map UInt8.ofNat) (ys.map UInt8.ofNat) (by
    intro x hx
    rw [List.mem_map] at hx
    obtain ⟨y, hy, rfl⟩ := hx
    have := h y hy
    intro e
    have e2 := congrArg UInt8.toNat e
    rw [UInt8.toNat_ofNat'] at e2
    have e3 : (46 : UInt8).toNat = 46 := rfl
    omega)
  rw [List.length_map] at this
  exact this

/-- what the two parts of a time's text are -/
theorem text_parts (D E : List Nat) : text D E = (trim (D.take 9) ++ D.drop 9) ++ 46 :: E := by unfold text; rw [List.append_assoc]
theorem whole_digit (D : List Nat) (h : ∀ x ∈ D, 48 ≤ x ∧ x ≤ 57) : ∀ x ∈ trim (D.take 9) ++ D.drop 9, 48 ≤ x ∧ x ≤ 57 := by
  obtain ⟨k, e, _⟩ := trim_spec (D.take 9)
  intro x hx
  rw [List.mem_append] at hx
  rcases hx with hx | hx
  · exact h x (List.mem_of_mem_take (by rw [e]; exact List.mem_append.2 (Or.inr hx)))
  · exact h x (List.mem_of_mem_drop hx)
theorem whole_pad (D : List Nat) (hl : D.length = 10) (hL : Lim 256 D) : pad (bstr (trim (D.take 9) ++ D.drop 9)) = D ∧ fits (bstr (trim (D.take 9) ++ D.drop 9)) (bstr (ten 0)) = true := by
  obtain ⟨k, e, h1⟩ := trim_spec (D.take 9)
  have hlen : k + (trim (D.take 9)).length = 9 := by
    have := congrArg List.length e
    simp only [List.length_take, List.length_append, List.length_replicate, hl] at this
    omega
  have hd : (D.drop 9).length = 1 := by rw [List.length_drop, hl]
  have hLW : Lim 256 (trim (D.take 9) ++ D.drop 9) := (lim_trim _ (hL.take 9)).append (hL.drop 9)
  constructor
  · unfold pad
    rw [size_bstr, sb_bstr _ hLW, List.length_append, hd, ← List.append_assoc]
    rw [show 10 - ((trim (D.take 9)).length + 1) = k by omega, ← e]
    exact List.take_append_drop 9 D
  · unfold fits
    rw [decide_eq_true_iff, size_bstr, sb_bstr _ hLW, List.length_append, hd, size_bstr]
    refine ⟨by omega, by omega, by rw [ten, length_low], ?_⟩
    cases ht : trim (D.take 9) with
    | nil => left; rfl
    | cons x xs =>
      right
      rw [ht] at h1
      rcases h1 with h1 | h1
      · cases h1
      · simpa using h1
end Go.Proofs.YtddjgjaifflpeaaDoor
