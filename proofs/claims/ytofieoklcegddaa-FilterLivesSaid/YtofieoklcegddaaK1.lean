/- Two sorted rows with the same elements in the same order at each distance are the same; the insertion sort keeps that order. -/
import Derived.Test.YtofieoklcegddaaF9
namespace Go.Proofs.Ytofieoklcegddaa
open Go.RowKit Go.Sort Go.Shelf Go.Lib
set_option linter.unusedVariables false
set_option linter.unusedSimpArgs false

def atKey (k : S4 → Int) (d : Int) (L : List S4) : List S4 := L.filter fun s => decide (k s = d)
def risingK (k : S4 → Int) : List S4 → Prop
  | [] => True
  | x :: L => (∀ y ∈ L, k x ≤ k y) ∧ risingK k L
theorem atKey_mem {k : S4 → Int} {X Y : List S4} (h : ∀ d, atKey k d X = atKey k d Y) {s : S4} (hs : s ∈ X) : s ∈ Y := by
  have : s ∈ atKey k (k s) X := by simp [atKey, hs]
  rw [h] at this
  simp [atKey] at this
  exact this
theorem rising_unique {k : S4 → Int} : ∀ {X Y : List S4}, risingK k X → risingK k Y → (∀ d, atKey k d X = atKey k d Y) → X = Y
  | [], Y, _, _, h => by
    cases Y with
    | nil => rfl
    | cons y Y => have := atKey_mem (fun d => (h d).symm) (show y ∈ y :: Y by simp); cases this
  | x :: X, Y, hX, hY, h => by
    cases Y with
    | nil => have := atKey_mem h (show x ∈ x :: X by simp); cases this
    | cons y Y =>
      have hk : k x = k y := by
        have h1 := atKey_mem h (show x ∈ x :: X by simp)
        have h2 := atKey_mem (fun d => (h d).symm) (show y ∈ y :: Y by simp)
        have a : k y ≤ k x := by
          rcases List.mem_cons.1 h1 with e | e
          · rw [e]; exact Int.le_refl _
          · exact hY.1 x e
        have b : k x ≤ k y := by
          rcases List.mem_cons.1 h2 with e | e
          · rw [← e]; exact Int.le_refl _
          · exact hX.1 y e
        omega
      have hxy : x = y := by
        have := h (k x)
        simp only [atKey, List.filter_cons] at this
        rw [if_pos (by simp), if_pos (by simp [hk])] at this
        exact (List.cons.inj this).1
      subst hxy
      rw [rising_unique hX.2 hY.2 (fun d => by
        have := h d
        simp only [atKey, List.filter_cons] at this
        split at this
        · exact (List.cons.inj this).2
        · exact this)]
theorem rising_of {k : S4 → Int} : ∀ {L : List S4}, (∀ (i j : Nat) (s t : S4), i < j → L[i]? = some s → L[j]? = some t → k s ≤ k t) → risingK k L
  | [], _ => trivial
  | x :: L, h => ⟨fun y hy => by
      obtain ⟨j, hj, rfl⟩ := List.getElem_of_mem hy
      exact h 0 (j + 1) x _ (by omega) rfl (by simp), rising_of fun i j s t hij hi hj => h (i + 1) (j + 1) s t (by omega) (by simpa using hi) (by simpa using hj)⟩
/-- two neighbours with other distances change places -/
theorem atKey_swap {k : S4 → Int} {d : Int} (A B : List S4) {x y : S4} (h : k x ≠ k y) : atKey k d (A ++ x :: y :: B) = atKey k d (A ++ y :: x :: B) := by
  unfold atKey
  rw [List.filter_append, List.filter_append, List.filter_cons, List.filter_cons, List.filter_cons, List.filter_cons]
  by_cases h1 : k x = d
  · have h2 : ¬ k y = d := fun e => h (by rw [h1, e])
    simp [h1, h2]
  · simp [h1]
theorem set_two (A B : List S4) (a b : S4) : ((A ++ a :: b :: B).set (A.length + 1) a).set A.length b = A ++ b :: a :: B := by
  induction A with
  | nil => rfl
  | cons x A ih =>
    simp only [List.cons_append, List.length_cons, List.set_cons_succ]
    rw [ih]
theorem swp_list (D : Array S4) (j : Nat) (h : j + 1 < D.size) : ∃ A B, D.toList = A ++ D[j]! :: D[j + 1]! :: B ∧ (swp D (j + 1) j).toList = A ++ D[j + 1]! :: D[j]! :: B := by
  obtain ⟨L⟩ := D
  simp only [List.size_toArray] at h
  have e0 : (L.toArray)[j]! = L[j] := by rw [getElem!_pos _ _ (by simp; omega)]; simp
  have e1 : (L.toArray)[j + 1]! = L[j + 1] := by rw [getElem!_pos _ _ (by simp; omega)]; simp
  have hL : L = L.take j ++ L[j] :: L[j + 1] :: L.drop (j + 2) := by
    conv => lhs; rw [← List.take_append_drop j L]
    rw [List.drop_eq_getElem_cons (by omega), List.drop_eq_getElem_cons (by omega)]
  refine ⟨L.take j, L.drop (j + 2), by rw [e0, e1]; exact hL, ?_⟩
  unfold swp
  rw [e0, e1]
  simp only [Array.toList_setIfInBounds]
  have := set_two (L.take j) (L.drop (j + 2)) L[j] L[j + 1]
  rw [← hL, List.length_take, Nat.min_eq_left (by omega)] at this
  exact this
theorem insInner_key {k : S4 → Int} {lt : S4 → S4 → Bool} (hlt : ∀ x y, lt x y = true → k x ≠ k y) (d : Int) (a : Nat) : ∀ (j : Nat) (D : Array S4), j < D.size → atKey k d (insInner lt a j D).toList = atKey k d D.toList
  | 0, D, _ => rfl
  | j + 1, D, h => by
    unfold insInner
    split
    · rename_i hc
      simp only [Bool.and_eq_true] at hc
      obtain ⟨A, B, h1, h2⟩ := swp_list D j h
      rw [insInner_key hlt d a j _ (by rw [size_swp]; omega), h1, h2]
      exact atKey_swap A B (hlt _ _ hc.2)
    · rfl
theorem size_insInner' {lt : S4 → S4 → Bool} (a : Nat) : ∀ (j : Nat) (D : Array S4), (insInner lt a j D).size = D.size
  | 0, D => rfl
  | j + 1, D => by
    unfold insInner
    split
    · rw [size_insInner' a j, size_swp]
    · rfl
theorem insOuter_key {k : S4 → Int} {lt : S4 → S4 → Bool} (hlt : ∀ x y, lt x y = true → k x ≠ k y) (d : Int) (a b : Nat) : ∀ (n i : Nat) (D : Array S4), b - i = n → b ≤ D.size → atKey k d (insOuter lt a b i D).toList = atKey k d D.toList
  | 0, i, D, hn, hb => by unfold insOuter; rw [if_neg (by omega)]
  | n + 1, i, D, hn, hb => by
    unfold insOuter
    rw [if_pos (by omega), insOuter_key hlt d a b n (i + 1) _ (by omega) (by rw [size_insInner']; exact hb), insInner_key hlt d a i D (by omega)]
theorem sorted_key (now : Int) (L : List S4) (d : Int) : atKey (fun s => s.dist now) d (sorted now L) = atKey (fun s => s.dist now) d L := by
  unfold sorted insertionSort
  rw [insOuter_key (fun x y h => by rw [ltOf_cfS, decide_eq_true_eq] at h; omega) d 0 L.length (L.length - 1) 1 L.toArray (by omega) (by simp)]
theorem sorted_rising (now : Int) (L : List S4) : risingK (fun s => s.dist now) (sorted now L) := rising_of (sorted_facts now L).2.2
/-- whatever rises and keeps the order at each distance is what the filter's row is -/
theorem sorted_is (now : Int) (L X : List S4) (h : risingK (fun s => s.dist now) X) (hk : ∀ d, atKey (fun s => s.dist now) d X = atKey (fun s => s.dist now) d L) : X = sorted now L :=
  rising_unique h (sorted_rising now L) (fun d => by rw [hk, sorted_key])
end Go.Proofs.Ytofieoklcegddaa
