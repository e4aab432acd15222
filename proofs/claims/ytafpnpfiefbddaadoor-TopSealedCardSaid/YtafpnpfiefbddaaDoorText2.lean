/- Any bytes told as a string; the statements' own length test; the reference's Keyed. -/
import Derived.Test.YtafpnpfiefbddaaDoorText
namespace Go.Proofs.YtafpnpfiefbddaaDoor
set_option linter.unusedSimpArgs false
set_option linter.unusedVariables false
open Go.RowKit
set_option linter.unusedVariables false
set_option maxRecDepth 100000

theorem conv_zero (A : Option Addr) (c : Nat) (w : World) : (convert 25 9 (.slice A 0 c)).run Tryd.prog w = .ok (.string (bstr [])) w := by
  cases A <;> rfl
theorem conv_any {w : World} {B n c : Nat} {A : Option Addr} {xs : List Nat} (h : Nb w B A n c xs) : (convert 25 9 (.slice A n c)).run Tryd.prog w = .ok (.string (bstr xs)) w := by
  by_cases h0 : n = 0
  · subst h0
    rw [List.eq_nil_of_length_eq_zero h.len]
    exact conv_zero A c w
  · obtain ⟨b, off, rfl, _⟩ := h.cell (by omega)
    exact conv_nb h
theorem eq_self (S : ByteArray) : (S.toList == S.toList) = true := by simp
end Go.Proofs.YtafpnpfiefbddaaDoor
