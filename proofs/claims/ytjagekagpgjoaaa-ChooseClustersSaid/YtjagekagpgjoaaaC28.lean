/- choose: what is left is rising, is enough; offsets' being turned changes nothing. -/
import Derived.Test.YtjagekagpgjoaaaC27
namespace Go.Proofs.Ytjagekagpgjoaaa
open Go.RowKit
set_option linter.unusedVariables false
set_option linter.unusedSimpArgs false
theorem clN_sub (os ds : List Int) (least : Int) (m : Nat) (L : List Nat) : (clN os ds least m L).Sublist L := by
  induction m generalizing L with
  | zero => exact List.Sublist.refl L
  | succ m ih =>
    unfold clN
    split
    · exact List.Sublist.refl L
    · split
      · exact List.Sublist.refl L
      · exact (ih _).trans (List.erase_sublist ..)
theorem clN_len (os ds : List Int) {least : Int} (h1 : 1 ≤ least) (m : Nat) (L : List Nat) : least ≤ ((clN os ds least m L).length : Int) ∨ (clN os ds least m L).length = L.length := by
  induction m generalizing L with
  | zero => exact .inr rfl
  | succ m ih =>
    unfold clN
    split
    · exact .inr rfl
    · rename_i h2
      split
      · exact .inr rfl
      · have hne : L ≠ [] := fun e => by rw [e] at h2; simp at h2; omega
        have hp : 0 < L.length := List.length_pos_iff.2 hne
        rcases ih (L.erase (sgt os L)) with h | h
        · exact .inl h
        · rw [List.length_erase_of_mem (sgt_mem hne)] at h
          left
          omega
theorem clus_pair (os ds : List Int) (least : Int) : (clus os ds least).Pairwise (· < ·) := List.Pairwise.sublist (clN_sub ..) List.pairwise_lt_range
theorem clus_lt {os ds : List Int} {least : Int} {j : Nat} (h : j ∈ clus os ds least) : j < os.length := List.mem_range.1 ((clN_sub ..).subset h)
theorem clus_step {os ds : List Int} {least : Int} {i p q : Nat} (h1 : (clus os ds least)[i]? = some p) (h2 : (clus os ds least)[i + 1]? = some q) : p < q := by
  obtain ⟨a1, b1⟩ := List.getElem?_eq_some_iff.1 h1
  obtain ⟨a2, b2⟩ := List.getElem?_eq_some_iff.1 h2
  have := List.pairwise_iff_getElem.1 (clus_pair os ds least) i (i + 1) a1 a2 (by omega)
  rw [b1, b2] at this
  exact this
theorem clus_len (os ds : List Int) {least : Int} (h1 : 1 ≤ least) : (least ≤ ((clus os ds least).length : Int) ∨ (clus os ds least).length = os.length) ∧ (clus os ds least).length ≤ os.length := by
  have h := clN_len os ds h1 os.length (List.range os.length)
  have h2 := (clN_sub os ds least os.length (List.range os.length)).length_le
  rw [List.length_range] at h h2
  exact ⟨h, h2⟩
theorem dif_neg (a b : Int) : dif (-a) (-b) = dif a b := by unfold dif; omega
theorem getD_neg (os : List Int) (i : Nat) : (os.map fun z => -z).getD i 0 = -(os.getD i 0) := by
  rw [List.getD_eq_getElem?_getD, List.getD_eq_getElem?_getD, List.getElem?_map]
  cases os[i]? <;> rfl
theorem str_neg (os : List Int) (L : List Nat) : str (os.map fun z => -z) L = str os L := by
  funext i
  unfold str
  congr 1
  refine List.map_congr_left fun j _ => ?_
  rw [getD_neg, getD_neg, dif_neg]
theorem clN_neg (os ds : List Int) (least : Int) (m : Nat) (L : List Nat) : clN (os.map fun z => -z) ds least m L = clN os ds least m L := by
  induction m generalizing L with
  | zero => rfl
  | succ m ih =>
    unfold clN
    rw [ih]
    unfold sgt
    rw [str_neg]
theorem clus_neg (os ds : List Int) (least : Int) : clus (os.map fun z => -z) ds least = clus os ds least := by
  unfold clus
  rw [clN_neg, List.length_map]
theorem fit_neg {os ds : List Int} (h : Fit os ds) : Fit (os.map fun z => -z) ds := by
  refine ⟨by rw [List.length_map]; exact h.1, by rw [List.length_map]; exact h.2.1, fun o ho => ?_, h.2.2.2⟩
  obtain ⟨z, hz, rfl⟩ := List.mem_map.1 ho
  have := h.2.2.1 z hz
  omega
end Go.Proofs.Ytjagekagpgjoaaa
