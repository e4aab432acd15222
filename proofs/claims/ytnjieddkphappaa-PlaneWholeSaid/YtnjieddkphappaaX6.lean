/- plane: means and spreads of points with whole parts. -/
import Derived.Test.YtnjieddkphappaaX5
namespace Go.Proofs.Ytnjieddkphappaa
open Go.RowKit
set_option linter.unusedVariables false
set_option exponentiation.threshold 3000
set_option maxRecDepth 100000
theorem sum_const {l : List Int} {c : Int} (h : ∀ x ∈ l, x = c) : l.sum = c * l.length := by
  induction l with
  | nil => simp
  | cons x l ih =>
    rw [List.sum_cons, ih (fun y hy => h y (List.mem_cons_of_mem _ hy)), h x (by simp), List.length_cons]
    push_cast
    rw [Int.mul_add, Int.mul_one, Int.add_comm]
theorem mean_nm {l : List Int} (h : ∀ x ∈ l, x.natAbs ≤ 1099511627776) (h0 : l.length ≠ 0) (h1 : l.length ≤ 100) : ∃ v, Nm (meanC (l.map fun x => floatOfInt .f64 x)) v ∧ ∀ c, (∀ x ∈ l, x = c) → v = c * ((2 ^ 1074 : Nat) : Int) := by
  obtain ⟨a, b⟩ := addC_ofInt 1099511627776 l h (by omega)
  by_cases hc : ∃ c, ∀ x ∈ l, x = c
  · obtain ⟨c, hc⟩ := hc
    have hm := mean_ofInt (q := c) h (by omega) h0 (by omega) (sum_const hc)
    have hcl : c.natAbs ≤ 1099511627776 := by
      cases l with
      | nil => simp at h0
      | cons x l => rw [← hc x (by simp)]; exact h x (by simp)
    refine ⟨_, by rw [hm]; exact Nm.ofInt (by omega), fun d hd => ?_⟩
    cases l with
    | nil => simp at h0
    | cons x l => rw [← hc x (by simp), hd x (by simp)]
  · have hm : meanC (l.map fun x => floatOfInt .f64 x) = fc .quo (floatOfInt .f64 l.sum) (floatOfInt .f64 l.length) := by unfold meanC; rw [a, List.length_map]
    rw [hm]
    obtain ⟨v, hv⟩ := mean_read (a := l.sum) (n := l.length) (by omega) h0 h1
    exact ⟨v, hv, fun c q => absurd ⟨c, q⟩ hc⟩
/-- the spread of points with whole parts -/
def sprd (zs : List (Int × Int)) : Nat := fc .quo (spC (zs.map fl2) (meanC ((zs.map fl2).map (·.1)), meanC ((zs.map fl2).map (·.2)))) (floatOfInt .f64 (zs.map fl2).length)
theorem sprd_eq (zs : List (Int × Int)) : sprd zs = fc .quo (spC (zs.map fl2) (meanC ((zs.map (·.1)).map fun x => floatOfInt .f64 x), meanC ((zs.map (·.2)).map fun x => floatOfInt .f64 x))) (floatOfInt .f64 zs.length) := by
  have e1 : (zs.map fl2).map (·.1) = (zs.map (·.1)).map fun x => floatOfInt .f64 x := by rw [List.map_map, List.map_map]; rfl
  have e2 : (zs.map fl2).map (·.2) = (zs.map (·.2)).map fun x => floatOfInt .f64 x := by rw [List.map_map, List.map_map]; rfl
  unfold sprd
  rw [e1, e2, List.length_map]
theorem spread_same {zs : List (Int × Int)} {z0 : Int × Int} (hz : ∀ z ∈ zs, z.1.natAbs ≤ 1099511627776 ∧ z.2.natAbs ≤ 1099511627776) (h0 : z0 ∈ zs) (hl : zs.length ≤ 100) :
    (sprd zs = 0 ∧ ∀ z ∈ zs, z = z0) ∨ (big (-132) (sprd zs) ∧ ¬ ∀ z ∈ zs, z = z0) := by
  have hl0 : zs.length ≠ 0 := by intro q; rw [List.eq_nil_of_length_eq_zero q] at h0; simp at h0
  rw [sprd_eq]
  obtain ⟨u1, k1, c1⟩ := mean_nm (l := zs.map (·.1)) (by intro x hx; obtain ⟨z, hz', rfl⟩ := List.mem_map.1 hx; exact (hz z hz').1) (by simpa using hl0) (by simpa using hl)
  obtain ⟨u2, k2, c2⟩ := mean_nm (l := zs.map (·.2)) (by intro x hx; obtain ⟨z, hz', rfl⟩ := List.mem_map.1 hx; exact (hz z hz').2) (by simpa using hl0) (by simpa using hl)
  have hp : ((2 ^ 1074 : Nat) : Int) ≠ 0 := by
    have := Nat.two_pow_pos 1074
    generalize 2 ^ 1074 = q at this
    omega
  have hzz : ∀ z ∈ zs, z.1.natAbs < 9007199254740992 ∧ z.2.natAbs < 9007199254740992 := by
    intro z hm
    have := hz z hm
    exact ⟨by omega, by omega⟩
  obtain ⟨m, hm⟩ : ∃ m : Nat × Nat, m = (meanC ((zs.map (·.1)).map fun x => floatOfInt .f64 x), meanC ((zs.map (·.2)).map fun x => floatOfInt .f64 x)) := ⟨_, rfl⟩
  have k1' : Nm m.1 u1 := by rw [hm]; exact k1
  have k2' : Nm m.2 u2 := by rw [hm]; exact k2
  have hf := fold_cases k1' k2' zs 0 hzz (Or.inl rfl)
  rw [← hm]
  generalize ((2 ^ 1074 : Nat) : Int) = P at *
  have key : (∀ z ∈ zs, z = z0) ↔ ∀ z ∈ zs, z.1 * P = u1 ∧ z.2 * P = u2 := by
    constructor
    · intro h z hm
      have a1 := c1 z0.1 (by intro x hx; obtain ⟨y, hy, rfl⟩ := List.mem_map.1 hx; rw [h y hy])
      have a2 := c2 z0.2 (by intro x hx; obtain ⟨y, hy, rfl⟩ := List.mem_map.1 hx; rw [h y hy])
      rw [h z hm]
      exact ⟨a1.symm, a2.symm⟩
    · intro h z hm
      have a := h z hm
      have b := h z0 h0
      exact Prod.ext (Int.eq_of_mul_eq_mul_right hp (a.1.trans b.1.symm)) (Int.eq_of_mul_eq_mul_right hp (a.2.trans b.2.symm))
  have hsp : spC (zs.map fl2) m = (zs.map fl2).foldl (fun s z => fc .add s (partC z m)) 0 := rfl
  rw [hsp]
  rcases hf with ⟨_, f1, f2⟩ | ⟨f1, f2⟩
  · left
    rw [f2]
    exact ⟨quo_zero hl0 (by omega), key.2 f1⟩
  · right
    exact ⟨(quo_big f2 (by omega) (by omega) hl0 (by omega)).mono (by omega), fun q => f1 ⟨rfl, key.1 q⟩⟩
theorem od_big {w : Nat} {e : Int} (h : big e w) (g : -1022 ≤ e) : od w 0 = some .gt := by
  have hz : Ieee.double.read 0 = .number false 0 (-1074) := by decide +kernel
  have := read_big false h g
  simp only [Bool.false_eq_true, if_false, Nat.zero_add] at this
  show (Ieee.double.read w).order (Ieee.double.read 0) = _
  rw [hz]
  rcases this with r | ⟨M, I, r, a, _, c⟩
  · rw [r]; rfl
  · rw [r]
    simp only [Ieee.Datum.order]
    have e1 : ∀ m u, Ieee.signed false m u = ((m * 2 ^ u : Nat) : Int) := by intro m u; rw [signed_eq]; simp
    rw [e1, e1, Nat.zero_mul]
    congr 1
    rw [Int.compare_eq_gt]
    have : 0 < M * 2 ^ (I - min I (-1074)).toNat := Nat.mul_pos (by omega) (Nat.two_pow_pos _)
    exact_mod_cast this
theorem od_zero : od 0 0 = some .eq := by decide +kernel
theorem big_nn {w : Nat} {e : Int} (h : big e w) : ¬ isN w := by
  rw [isN_iff]; have := h.2; omega
end Go.Proofs.Ytnjieddkphappaa
