/- plane: the order of finite words is that of whole numbers; the nearest point is the least one. -/
import Derived.Test.YtnjieddkphappaaN1
import Derived.Test.YtnjieddkphappaaT2
namespace Go.Proofs.Ytnjieddkphappaa
open Go.RowKit
set_option linter.unusedVariables false
/-- a datum as a whole number: in units of 2^K, what is without bound as M -/
def vl (K : Int) (M : Nat) : Ieee.Datum → Int
  | .nan .. => 0
  | .infinity s => if s then -(M : Int) else M
  | .number s m i => Ieee.signed s m (i - K).toNat
def okK (K : Int) : Ieee.Datum → Prop
  | .nan .. => False
  | .infinity _ => True
  | .number _ _ i => K ≤ i
def okM (K : Int) (M : Nat) : Ieee.Datum → Prop
  | .nan .. => False
  | .infinity _ => 0 < M
  | .number s m i => (Ieee.signed s m (i - K).toNat).natAbs < M
theorem signed_up (s : Bool) (m u v : Nat) : Ieee.signed s m (u + v) = Ieee.signed s m u * (2 ^ v : Nat) := by
  have e : m <<< (u + v) = (m <<< u) * 2 ^ v := by rw [Nat.shiftLeft_eq, Nat.shiftLeft_eq, Nat.pow_add, Nat.mul_assoc]
  cases s <;> simp [Ieee.signed, e, Int.neg_mul]
theorem cmp_mul (a b : Int) {p : Nat} (h : 0 < p) : compare (a * (p : Int)) (b * (p : Int)) = compare a b := by
  have hp : (0 : Int) < (p : Int) := by omega
  rcases Int.lt_trichotomy a b with h1 | h1 | h1
  · rw [Int.compare_eq_lt.2 h1, Int.compare_eq_lt.2 (Int.mul_lt_mul_of_pos_right h1 hp)]
  · subst h1; simp
  · rw [Int.compare_eq_gt.2 h1, Int.compare_eq_gt.2 (Int.mul_lt_mul_of_pos_right h1 hp)]
theorem order_vl {K : Int} {M : Nat} {a b : Ieee.Datum} (ha : okK K a) (hb : okK K b) (ga : okM K M a) (gb : okM K M b) : a.order b = some (compare (vl K M a) (vl K M b)) := by
  cases a with
  | nan => exact ha.elim
  | infinity s =>
    cases b with
    | nan => exact hb.elim
    | infinity t =>
      have : 0 < M := ga
      cases s <;> cases t <;> simp [Ieee.Datum.order, vl, Std.ReflCmp.compare_self]
      · exact (Int.compare_eq_gt.2 (by omega)).symm
      · exact (Int.compare_eq_lt.2 (by omega)).symm
    | number t n j =>
      have : (Ieee.signed t n (j - K).toNat).natAbs < M := gb
      cases s <;> simp [Ieee.Datum.order, vl]
      · exact (Int.compare_eq_gt.2 (by omega)).symm
      · exact (Int.compare_eq_lt.2 (by omega)).symm
  | number s m i =>
    cases b with
    | nan => exact hb.elim
    | infinity t =>
      have : (Ieee.signed s m (i - K).toNat).natAbs < M := ga
      cases t <;> simp [Ieee.Datum.order, vl]
      · exact (Int.compare_eq_lt.2 (by omega)).symm
      · exact (Int.compare_eq_gt.2 (by omega)).symm
    | number t n j =>
      have h1 : K ≤ i := ha
      have h2 : K ≤ j := hb
      show some (compare _ _) = some (compare (Ieee.signed s m (i - K).toNat) (Ieee.signed t n (j - K).toNat))
      have e1 : (i - K).toNat = (i - min i j).toNat + (min i j - K).toNat := by omega
      have e2 : (j - K).toNat = (j - min i j).toNat + (min i j - K).toNat := by omega
      rw [e1, e2, signed_up, signed_up, cmp_mul _ _ (Nat.two_pow_pos _)]
theorem okK_mono {K L : Int} {a : Ieee.Datum} (h : okK K a) (g : L ≤ K) : okK L a := by
  cases a with
  | nan => exact h
  | infinity => trivial
  | number s m i => exact Int.le_trans g h
theorem okM_mono {K : Int} {M N : Nat} {a : Ieee.Datum} (h : okM K M a) (g : M ≤ N) : okM K N a := by
  cases a with
  | nan => exact h
  | infinity => exact Nat.lt_of_lt_of_le h g
  | number s m i => exact Nat.lt_of_lt_of_le h g
theorem okK_ex {a : Ieee.Datum} (h : ¬ a.isNaN = true) : ∃ K, okK K a := by
  cases a with
  | nan => simp [Ieee.Datum.isNaN] at h
  | infinity => exact ⟨0, trivial⟩
  | number s m i => exact ⟨i, Int.le_refl _⟩
theorem okM_ex {a : Ieee.Datum} (h : ¬ a.isNaN = true) (K : Int) : ∃ M, okM K M a := by
  cases a with
  | nan => simp [Ieee.Datum.isNaN] at h
  | infinity => exact ⟨1, Nat.one_pos⟩
  | number s m i => exact ⟨_, Nat.lt_succ_self _⟩
theorem all_okK : ∀ (n : Nat) (f : Nat → Ieee.Datum), (∀ i, i < n → ¬ (f i).isNaN = true) → ∃ K, ∀ i, i < n → okK K (f i)
  | 0, f, _ => ⟨0, fun i h => by omega⟩
  | n + 1, f, h => by
    obtain ⟨K, hK⟩ := all_okK n f (fun i hi => h i (by omega))
    obtain ⟨L, hL⟩ := okK_ex (h n (by omega))
    refine ⟨min K L, fun i hi => ?_⟩
    by_cases e : i = n
    · subst e; exact okK_mono hL (by omega)
    · exact okK_mono (hK i (by omega)) (by omega)
theorem all_okM (K : Int) : ∀ (n : Nat) (f : Nat → Ieee.Datum), (∀ i, i < n → ¬ (f i).isNaN = true) → ∃ M, ∀ i, i < n → okM K M (f i)
  | 0, f, _ => ⟨0, fun i h => by omega⟩
  | n + 1, f, h => by
    obtain ⟨M, hK⟩ := all_okM K n f (fun i hi => h i (by omega))
    obtain ⟨L, hL⟩ := okM_ex (h n (by omega)) K
    refine ⟨max M L, fun i hi => ?_⟩
    by_cases e : i = n
    · subst e; exact okM_mono hL (by omega)
    · exact okM_mono (hK i (by omega)) (by omega)
/-- words that are numbers stand to each other as some whole numbers do -/
theorem od_ints (n : Nat) (F : Nat → Nat) (h : ∀ i, i < n → ¬ isN (F i)) : ∃ D : Nat → Int, ∀ i j, i < n → j < n → od (F i) (F j) = some (compare (D i) (D j)) := by
  obtain ⟨K, hK⟩ := all_okK n (fun i => Ieee.double.read (F i)) h
  obtain ⟨M, hM⟩ := all_okM K n (fun i => Ieee.double.read (F i)) h
  exact ⟨fun i => vl K M (Ieee.double.read (F i)), fun i j hi hj => order_vl (hK i hi) (hK j hj) (hM i hi) (hM j hj)⟩
theorem ltF_ints {n : Nat} {F : Nat → Nat} {D : Nat → Int} (h : ∀ i j, i < n → j < n → od (F i) (F j) = some (compare (D i) (D j))) {i j : Nat} (hi : i < n) (hj : j < n) : ltF (F i) (F j) = true ↔ D i < D j := by
  unfold ltF
  rw [h i j hi hj]
  constructor
  · intro e
    exact Int.compare_eq_lt.1 (by simpa using e)
  · intro e
    rw [Int.compare_eq_lt.2 e]; rfl
/-- the first of the least -/
theorem near_least {l : List (Nat × Nat)} {z : Nat × Nat} {n : Nat} {D : Nat → Int}
    (h : ∀ i j, i < n → j < n → od (farC (l.getD i (0, 0)).1 (l.getD i (0, 0)).2 z.1 z.2) (farC (l.getD j (0, 0)).1 (l.getD j (0, 0)).2 z.1 z.2) = some (compare (D i) (D j))) :
    ∀ j, 0 < j → j ≤ n → nearC l z j < j ∧ ∀ i, i < j → D (nearC l z j) ≤ D i ∧ (i < nearC l z j → D (nearC l z j) < D i) := by
  intro j
  induction j with
  | zero => intro h0; omega
  | succ j ih =>
    intro _ hj
    by_cases h0 : j = 0
    · subst h0
      have : nearC l z 1 = 0 := by have := nearC_le l z 1; omega
      rw [this]
      exact ⟨by omega, fun i hi => by obtain rfl : i = 0 := by omega
                                      exact ⟨Int.le_refl _, fun q => by omega⟩⟩
    · obtain ⟨h1, h2⟩ := ih (by omega) (by omega)
      have e : nearC l z (j + 1) = if ltF (farC (l.getD j (0, 0)).1 (l.getD j (0, 0)).2 z.1 z.2) (farC (l.getD (nearC l z j) (0, 0)).1 (l.getD (nearC l z j) (0, 0)).2 z.1 z.2) then j else nearC l z j := rfl
      have hk := ltF_ints (F := fun i => farC (l.getD i (0, 0)).1 (l.getD i (0, 0)).2 z.1 z.2) h (show j < n by omega) (show nearC l z j < n by omega)
      rw [e]
      by_cases c : ltF (farC (l.getD j (0, 0)).1 (l.getD j (0, 0)).2 z.1 z.2) (farC (l.getD (nearC l z j) (0, 0)).1 (l.getD (nearC l z j) (0, 0)).2 z.1 z.2) = true
      · rw [if_pos c]
        have hlt := hk.1 c
        refine ⟨by omega, fun i hi => ?_⟩
        by_cases q : i = j
        · subst q; exact ⟨Int.le_refl _, fun q => by omega⟩
        · have := h2 i (by omega)
          exact ⟨by omega, fun _ => by omega⟩
      · rw [if_neg c]
        have hlt : ¬ D j < D (nearC l z j) := fun q => c (hk.2 q)
        refine ⟨by omega, fun i hi => ?_⟩
        by_cases q : i = j
        · subst q; exact ⟨by omega, fun q => by omega⟩
        · exact h2 i (by omega)
end Go.Proofs.Ytnjieddkphappaa
