/- choose: what Region tells is one thing, with an error nothing. -/
import Derived.Test.YtjagekagpgjoaaaC18
namespace Go.Proofs.Ytjagekagpgjoaaa
open Go.RowKit
set_option linter.unusedVariables false
set_option linter.unusedSimpArgs false
set_option maxRecDepth 100000
theorem region_det1 {A : Option Addr} {n c : Nat} (xs : List Sp) : ∃ lo hi er : Int, ((er = 0 ∧ IsReg xs lo hi) ∨ ((er = 1 ∨ er = 150) ∧ lo = 0 ∧ hi = 0)) ∧ ((∀ x, ¬ Maj xs x) ∨ er ≠ 150) ∧ (er = 1 ∨ AllMay xs) ∧ ∀ {w : World} {B : Nat}, Rs w B A n xs → B ≤ w.heap.size → n ≤ 9223372036854775807 →
    Calls Try.prog 11 #[.slice A n c] w fun e w' => e = .returned (.tuple #[.int .i64 lo, .int .i64 hi, .int .i64 er]) ∧ RowKit.Below w.heap.size w w' := by
  by_cases h : ∃ lo hi er, RegIs xs lo hi er
  · obtain ⟨lo, hi, er, h⟩ := h
    refine ⟨lo, hi, er, ?_, ?_, ?_, fun {w B} hR hB hn => (region_any (c := c) hR hB hn).mono ?_⟩
    · rcases h with ⟨_, h1, h2, h3⟩ | ⟨_, _, ⟨h1, h2⟩ | ⟨_, h1, h2, h3⟩⟩
      · exact .inr ⟨.inl h3, h1, h2⟩
      · exact .inl ⟨h2, h1⟩
      · exact .inr ⟨.inr h3, h1, h2⟩
    · rcases h with ⟨_, h1, h2, h3⟩ | ⟨_, _, ⟨h1, h2⟩ | ⟨h0, h1, h2, h3⟩⟩
      · exact .inr (by omega)
      · exact .inr (by omega)
      · exact .inl h0
    · rcases h with ⟨_, h1, h2, h3⟩ | ⟨_, hm, _⟩
      · exact .inl h3
      · exact .inr hm
    · rintro e w' ⟨⟨a, b, d, rfl, k⟩, hb⟩
      obtain ⟨rfl, rfl, rfl⟩ := k.uniq h
      exact ⟨rfl, hb⟩
  · refine ⟨0, 0, 1, .inr ⟨.inl rfl, rfl, rfl⟩, .inr (by decide), .inl rfl, fun {w B} hR hB hn => (region_any (c := c) hR hB hn).mono ?_⟩
    rintro e w' ⟨⟨a, b, d, _, k⟩, _⟩
    exact absurd ⟨a, b, d, k⟩ h
/-- with one interval more that has all points -/
theorem region_more {xs : List Sp} {lo hi : Int} (hm : AllMay xs) (hl : xs.length < 64) (hr : IsReg xs lo hi) (h1 : in64 lo) (h2 : in64 hi) {a b er : Int} (h : RegIs (xs ++ [full]) a b er) : er = 0 ∧ a ≤ lo ∧ hi ≤ b := by
  have m1 := more_maj hr.1 h1
  have m2 := more_maj hr.2.1 h2
  rcases h with ⟨h0, _⟩ | ⟨_, _, ⟨k1, k2⟩ | ⟨k1, _⟩⟩
  · refine absurd ⟨by rw [List.length_append, List.length_singleton]; omega, fun s hs => ?_⟩ h0
    rcases List.mem_append.1 hs with hs | hs
    · exact hm s hs
    · simp at hs
      subst hs
      exact ⟨by decide, by decide⟩
  · have a1 := k1.2.2 _ m1
    have a2 := k1.2.2 _ m2
    omega
  · exact absurd m1 (k1 _)
end Go.Proofs.Ytjagekagpgjoaaa
