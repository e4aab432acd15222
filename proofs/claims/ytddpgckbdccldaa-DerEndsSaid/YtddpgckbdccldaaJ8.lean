/- law07.DerEnds: the walk over what came in. -/
import Derived.Test.YtddpgckbdccldaaJ7
namespace Go.Proofs.Ytddpgckbdccldaa
set_option linter.unusedSimpArgs false
set_option linter.unusedVariables false
open Go.RowKit
set_option linter.unusedVariables false
theorem ends_law {f : Nat} {h : Hd} {t : T} {w : World} (H : Tr w w.heap.size f h t) {y : Int} (wf : (Lit.int .u8 y).wf = true) (cut : Int) : Calls Try.prog 7 #[.agg h.cells, .int .u8 y, .int .i64 cut] w (Yes w) := by
  have hy : 0 ≤ y ∧ y ≤ 255 := by
    simp [Lit.wf, IntKind.min, IntKind.max, IntKind.signed, IntKind.bits] at wf
    omega
  obtain ⟨x, rfl⟩ : ∃ x : Nat, y = (x : Int) := ⟨y.toNat, by omega⟩
  exact ends_any H x (by omega) cut
end Go.Proofs.Ytddpgckbdccldaa
