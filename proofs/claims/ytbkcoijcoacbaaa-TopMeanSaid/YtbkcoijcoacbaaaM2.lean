/- top08: equal distances: the combined offset is the mean. -/
import Derived.Test.YtbkcoijcoacbaaaM1
namespace Go.Proofs.Ytbkcoijcoacbaaa
open Go.RowKit
set_option maxRecDepth 100000
set_option linter.unusedVariables false
theorem own_read {w : World} {base e n c : Nat} {A : Option Addr} {vs : List Value} (hl : vs.length = n) (h : w.ownsRow base e 1 (.slice A n c) n vs) :
    n = 0 ∨ ∃ g, A = some ⟨g, 0, none⟩ ∧ g < w.heap.size ∧ ∀ i v, vs[i]? = some v → w.cell? ⟨g, 0 + i, none⟩ = some v := by
  rcases h.2 with ⟨h1, h2⟩ | ⟨g, cap, cur, hv, hb, hg, hnc, hcm, hcs, htk⟩
  · subst h2; left; rw [← hl]
  · right
    cases hv
    refine ⟨g, rfl, (Array.getElem?_eq_some_iff.1 hg).1, fun i v hi => ?_⟩
    have hi2 : i < n := by have := (List.getElem?_eq_some_iff.1 hi).1; omega
    rw [← htk, List.getElem?_take_of_lt (by omega)] at hi
    simp only [World.cell?, hg, Nat.zero_add]
    simpa using hi
theorem Gc.rd {w : World} {base n c : Nat} {A : Option Addr} {xs : List (Nat × Nat)} (h : Gc w base A n c xs) : Pl.Cx w w.heap.size A n xs := by
  refine ⟨h.1, ?_⟩
  rcases own_read (by rw [List.length_map]; exact h.1) h.2 with h0 | ⟨g, rfl, hg, hc⟩
  · exact .inl h0
  · exact .inr ⟨g, 0, rfl, hg, fun i z hz => hc i _ (by rw [List.getElem?_map, hz]; rfl)⟩
theorem Gi.rd {w : World} {base n c : Nat} {A : Option Addr} {xs : List Int} (h : Gi w base A n c xs) : Ch.Ri w w.heap.size A n xs := by
  refine ⟨h.1, ?_⟩
  rcases own_read (by rw [List.length_map]; exact h.1) h.2 with h0 | ⟨g, rfl, hg, hc⟩
  · exact .inl h0
  · exact .inr ⟨g, 0, rfl, hg, fun i z hz => hc i _ (by rw [List.getElem?_map, hz]; rfl)⟩
theorem zip_rep (l : List Int) (d : Int) : l.zip (List.replicate l.length d) = l.map fun x => (x, d) := by
  induction l with
  | nil => rfl
  | cons x l ih => simp [List.replicate_succ, ih]
theorem smz_rep (l : List Int) (d : Int) : Ch.smz (l.map fun x => (x, d)) = l.sum * Ch.wt d := by
  induction l with
  | nil => simp [Ch.smz]
  | cons x l ih => rw [List.map_cons, Ch.smz_cons, ih, List.sum_cons, Int.add_mul]
theorem wsz_rep (l : List Int) (d : Int) : Ch.wsz (l.map fun x => (x, d)) = (l.length : Int) * Ch.wt d := by
  induction l with
  | nil => simp [Ch.wsz]
  | cons x l ih => rw [List.map_cons, Ch.wsz_cons, ih, List.length_cons]; push_cast; rw [Int.add_mul, Int.one_mul, Int.add_comm]
theorem comb_rep {l : List Int} {d q : Int} (hx : ∀ x ∈ l, x.natAbs ≤ 68719476736) (hd : 0 ≤ d) (hd2 : d ≤ 68719476736) (h0 : l.length ≠ 0) (h1 : l.length ≤ 64) (hq : l.sum = q * l.length) :
    Ch.comb l (List.replicate l.length d) = (q, 0) := by
  have hf : Ch.Fit l (List.replicate l.length d) := by
    refine ⟨by simp, h1, fun o ho => ?_, fun o ho => ?_⟩
    · have := hx o ho; omega
    · rw [List.mem_replicate] at ho; rw [ho.2]; omega
  have hne : l ≠ [] := by intro r; rw [r] at h0; exact h0 rfl
  unfold Ch.comb
  rw [if_pos hf, if_neg hne, zip_rep, smz_rep, wsz_rep, hq]
  have hw := (Ch.wt_lim hd).1
  congr 1
  rw [Int.mul_assoc]
  exact Int.mul_ediv_cancel q (by
    intro r
    rcases Int.mul_eq_zero.1 r with a | a <;> omega)
theorem sum_rep (n : Nat) (d : Int) : (List.replicate n d).sum = d * n := by
  induction n with
  | zero => simp
  | succ n ih => rw [List.replicate_succ, List.sum_cons, ih]; push_cast; rw [Int.mul_add, Int.mul_one, Int.add_comm]
theorem sum_lim {l : List Int} (h : ∀ x ∈ l, x.natAbs ≤ 68719476736) : l.sum.natAbs ≤ l.length * 68719476736 := by
  induction l with
  | nil => simp
  | cons x l ih =>
    have a := ih (fun y hy => h y (List.mem_cons_of_mem _ hy))
    have b := h x (by simp)
    rw [List.sum_cons, List.length_cons, Nat.add_mul, Nat.one_mul]
    omega
theorem tdiv_whole {x : Int} {j : Nat} (h0 : j ≠ 0) (h : x.tmod (j : Int) = 0) : x = x.tdiv j * j := by
  have := Int.mul_tdiv_add_tmod x j
  rw [h, Int.add_zero, Int.mul_comm] at this
  exact this.symm
/-- what is brought near -/
def nr (n : Int) : Int := n.tmod 68719476736
theorem nr_lim (n : Int) : (nr n).natAbs ≤ 68719476736 := by have := tmod36 n; unfold nr; omega
def pt (d : Int) (x : Int) : Nat × Nat := (floatOfInt .f64 x, floatOfInt .f64 d)
theorem same_yes {a b c d : Nat} (h : Pl.od a c = some .eq) (k : Pl.od b d = some .eq) (w : World) : Calls Try.prog 20 #[.complex .f64 a b, .complex .f64 c d] w fun e w' => e = .returned (.bool true) ∧ w' = w := by
  refine (Pl.same_any a b c d w).mono ?_
  rintro e w' ⟨rfl, rfl⟩
  rw [h, k]
  exact ⟨rfl, rfl⟩
end Go.Proofs.Ytbkcoijcoacbaaa
