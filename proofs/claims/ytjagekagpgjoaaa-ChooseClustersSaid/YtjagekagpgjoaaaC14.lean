/- choose: what Region tells is one thing. -/
import Derived.Test.YtjagekagpgjoaaaC13
namespace Go.Proofs.Ytjagekagpgjoaaa
open Go.RowKit
set_option linter.unusedVariables false
set_option linter.unusedSimpArgs false
set_option maxRecDepth 100000
theorem IsReg.uniq {xs : List Sp} {a b c d : Int} (h : IsReg xs a b) (k : IsReg xs c d) : a = c ∧ b = d := by
  have h1 := h.2.2 c k.1
  have h2 := h.2.2 d k.2.1
  have k1 := k.2.2 a h.1
  have k2 := k.2.2 b h.2.1
  omega
theorem RegIs.uniq {xs : List Sp} {a b c d e f : Int} (h : RegIs xs a b c) (k : RegIs xs d e f) : a = d ∧ b = e ∧ c = f := by
  rcases h with ⟨h0, h1, h2, h3⟩ | ⟨h0, h1, h2⟩
  · rcases k with ⟨k0, k1, k2, k3⟩ | ⟨k0, k1, k2⟩
    · omega
    · exact absurd ⟨k0, k1⟩ h0
  · rcases k with ⟨k0, k1, k2, k3⟩ | ⟨k0, k1, k2⟩
    · exact absurd ⟨h0, h1⟩ k0
    · rcases h2 with ⟨h2, h3⟩ | ⟨h2, h3, h4, h5⟩
      · rcases k2 with ⟨k2, k3⟩ | ⟨k2, k3, k4, k5⟩
        · have := h2.uniq k2
          omega
        · exact absurd h2.1 (k2 a)
      · rcases k2 with ⟨k2, k3⟩ | ⟨k2, k3, k4, k5⟩
        · exact absurd k2.1 (h2 d)
        · omega
/-- Region's answer, one for all worlds -/
theorem region_det0 {A : Option Addr} {n c : Nat} (xs : List Sp) : ∃ lo hi er : Int, (er = 1 ∨ RegIs xs lo hi er) ∧ ∀ {w : World} {B : Nat}, Rs w B A n xs → B ≤ w.heap.size → n ≤ 9223372036854775807 →
    Calls Try.prog 11 #[.slice A n c] w fun e w' => e = .returned (.tuple #[.int .i64 lo, .int .i64 hi, .int .i64 er]) ∧ RowKit.Below w.heap.size w w' := by
  by_cases h : ∃ lo hi er, RegIs xs lo hi er
  · obtain ⟨lo, hi, er, h⟩ := h
    refine ⟨lo, hi, er, .inr h, fun {w B} hR hB hn => (region_any (c := c) hR hB hn).mono ?_⟩
    rintro e w' ⟨⟨a, b, d, rfl, k⟩, hb⟩
    obtain ⟨rfl, rfl, rfl⟩ := k.uniq h
    exact ⟨rfl, hb⟩
  · refine ⟨0, 0, 1, .inl rfl, fun {w B} hR hB hn => (region_any (c := c) hR hB hn).mono ?_⟩
    rintro e w' ⟨⟨a, b, d, _, k⟩, _⟩
    exact absurd ⟨a, b, d, k⟩ h
theorem region_det {w : World} {A : Option Addr} {B n c : Nat} {xs : List Sp} (h : Rs w B A n xs) (hB : B ≤ w.heap.size) (hmx : n ≤ 9223372036854775807) : ∃ lo hi er : Int, (er = 1 ∨ ((IsReg xs lo hi ∧ er = 0) ∨ ((∀ x, ¬ Maj xs x) ∧ er = 150)) ∧ (er = 0 ∨ er = 150)) ∧
    Calls Try.prog 11 #[.slice A n c] w fun e w' => e = .returned (.tuple #[.int .i64 lo, .int .i64 hi, .int .i64 er]) ∧ RowKit.Below w.heap.size w w' := by
  obtain ⟨lo, hi, er, h1, h2⟩ := region_det0 (A := A) (n := n) (c := c) xs
  refine ⟨lo, hi, er, ?_, h2 h hB hmx⟩
  rcases h1 with h1 | h1
  · exact .inl h1
  · rcases h1 with ⟨_, _, _, h3⟩ | ⟨_, _, h3⟩
    · exact .inl h3
    · rcases h3 with ⟨h3, h4⟩ | ⟨h3, _, _, h4⟩
      · exact .inr ⟨.inl ⟨h3, h4⟩, .inl h4⟩
      · exact .inr ⟨.inr ⟨h3, h4⟩, .inr h4⟩
end Go.Proofs.Ytjagekagpgjoaaa
