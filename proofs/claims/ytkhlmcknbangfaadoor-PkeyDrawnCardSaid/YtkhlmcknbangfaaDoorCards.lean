/-
  DERIVED. GIVEN WITH THE SEED: THE CARDS: each row of YtkhlmcknbangfaaDoorRows.lean that lists a variable, with what it lists TIED to the program's text (the seventh form; the later family's looks); each row that meets fmt, with fmt's text TOLD by the authors' own Lean function (tested against real Go, not proved from fmt's source: count such statements apart). THE CARD IS WHAT COUNTS. Prove the row's statement (the work); the ties are given (YtkhlmcknbangfaaDoorTie.lean); close each card by the builder's one call (the guide's Derived/Test/ToyasCard.lean, 'card_holds'). Laid BY PROGRAM, IN A SANDBOX (cutbox-door.mjs). By AI agents, Wed Nov 11 2026. No macro, syntax, notation, axiom, sorry.
-/
import Derived.Test.YtkhlmcknbangfaaDoorRows
import GoSem.ClaimSeven
namespace Go.Proofs.YtkhlmcknbangfaaDoor
namespace Rows

/-- THE TIED CARD OF 'clepsydralaw05.PkeyDrawn'. -/
def pkeyDrawnCard : Claim7 := { stood := { row := pkeyDrawnRow, standIns := [], harness := (true, "badb6699958475972b62facf5af0890805ab10e6547abcde4dd9fa7ce6155c12"), looks := false }, kinds := [], alts := [], laidByText := true, laidKinds := [.data], laidTests := true, laidLooks := .later }
def PkeyDrawnCardSaid : Prop := Claim7.holds Tryd.pinned (.plain (OpenSpec.ofChange pkeyDrawnSpec)) pkeyDrawnCard

/-- THE SECOND FORM's CARD OF 'clepsydralaw05.PkeyDrawn'. -/
def pkeyDrawnUptoCard : Claim7 := { stood := { row := pkeyDrawnUptoRow, standIns := [], harness := (true, "badb6699958475972b62facf5af0890805ab10e6547abcde4dd9fa7ce6155c12"), looks := false }, kinds := [], alts := [], laidByText := true, laidKinds := [.data], laidTests := true, laidLooks := .later }
def PkeyDrawnUptoCardSaid : Prop := Claim7.holds Tryd.pinned (.plain (OpenSpec.upto pkeyDrawnSpec)) pkeyDrawnUptoCard
end Rows
end Go.Proofs.YtkhlmcknbangfaaDoor
