/- both Parses and both Prints: one answer. -/
import Derived.Test.YtddjgjaifflpeaaDoorS2
import Derived.Test.YtddjgjaifflpeaaDoorS5b
namespace Go.Proofs.YtddjgjaifflpeaaDoor
open Go.RowKit
set_option linter.unusedVariables false
set_option linter.unusedSimpArgs false
set_option maxRecDepth 100000
theorem parse_both (s : ByteArray) (hl : s.size ≤ 100) : ∃ x er : Int, (∀ w, Calls Tryd.prog 31 #[.string s] w fun e w' => e = .returned (.tuple #[.int .u64 x, .int .i64 er]) ∧ Below w.heap.size w w') ∧ (∀ w, Calls Tryd.prog 32 #[.string s] w fun e w' => e = .returned (.tuple #[.int .u64 x, .int .i64 er]) ∧ Below w.heap.size w w') := by
  by_cases h : ∃ t, t < 18446744073709551616 ∧ s = bstr (printed t)
  · obtain ⟨t, ht, rfl⟩ := h
    exact ⟨t, 0, fun w => stampBackP.parse_printed t ht w, fun w => rparse_hit t ht w⟩
  · refine ⟨0, 40, fun w => ?_, fun w => rparse_miss s hl (fun t ht e => h ⟨t, ht, e⟩) w⟩
    show Calls Tryd.prog 31 #[.string s] w fun e w' => e = none_ ∧ Below w.heap.size w w'
    by_cases h0 : Lib.indexByte s.data.toList 46 = -1
    · exact parse_miss s h0 w
    · have hge := Lib.indexByte_ge s.data.toList 46
      obtain ⟨i, hi⟩ : ∃ i : Nat, Lib.indexByte s.data.toList 46 = (i : Int) := ⟨(Lib.indexByte s.data.toList 46).toNat, by omega⟩
      have hlt : i < s.size := by
        have := (Lib.indexByte_some hi).1
        have h2 := (List.getElem?_eq_some_iff.1 this).1
        rw [Lib.size_eq]; exact h2
      have H := fun w => scut_hit s i hi hlt (by omega) w
      by_cases hf : fits (s.extract 0 i) (s.extract (i + 1) s.size) = true
      · obtain ⟨T, hT⟩ : ∃ T, num (pad (s.extract 0 i)) % 4294967296 * 4294967296 + least (num (pad (s.extract (i + 1) s.size))) = T := ⟨_, rfl⟩
        have hTl : T < 18446744073709551616 := by
          have h1 := Nat.mod_lt (num (pad (s.extract 0 i))) (show 0 < 4294967296 by decide)
          have h2 : least (num (pad (s.extract (i + 1) s.size))) < 4294967296 := by unfold least; exact Nat.mod_lt _ (by decide)
          omega
        refine parse_no s _ _ T hT (fun hh => h ⟨T, hTl, own_told hi hlt rfl rfl hf hh.1 hh.2⟩) H hf w
      · exact parse_unfit s _ _ H (by simpa using hf) w
end Go.Proofs.YtddjgjaifflpeaaDoor
