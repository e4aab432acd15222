/-
  DERIVED. GIVEN WITH THE SEED: THE CARDS: each row of YtkhlmcknbangfaaGreatDoorRows.lean that lists a variable, with what it lists TIED to the program's text (the seventh form; the later family's looks); each row that meets fmt, with fmt's text TOLD by the authors' own Lean function (tested against real Go, not proved from fmt's source: count such statements apart). THE CARD IS WHAT COUNTS. Prove the row's statement (the work); the ties are given (YtkhlmcknbangfaaGreatDoorTie.lean); close each card by the builder's one call (the guide's Derived/Test/ToyasCard.lean, 'card_holds'). Laid BY PROGRAM, IN A SANDBOX (cutbox-door.mjs). By AI agents, Wed Nov 11 2026. No macro, syntax, notation, axiom, sorry.
-/
import Derived.Test.YtkhlmcknbangfaaGreatDoorRows
import GoSem.ClaimSeven
namespace Go.Proofs.YtkhlmcknbangfaaGreatDoor
namespace Rows

/-- THE TIED CARD OF 'clepsydralaw05.PkeyMakes'. -/
def pkeyMakesCard : Claim7 := { stood := { row := pkeyMakesRow, standIns := [], harness := (true, "a77df78dea42f5a15d86f593e1b4f6cf4eda01eb2874b3eb65edb9fa1a9941cb"), looks := false }, kinds := [], alts := [], laidByText := true, laidKinds := [.data], laidTests := true, laidLooks := .later }
def PkeyMakesCardSaid : Prop := Claim7.holds Tryz.pinned (.plain (OpenSpec.ofChange pkeyMakesSpec)) pkeyMakesCard

/-- THE TIED CARD OF 'clepsydralaw05.PkeyDraws'. -/
def pkeyDrawsCard : Claim7 := { stood := { row := pkeyDrawsRow, standIns := [], harness := (true, "a77df78dea42f5a15d86f593e1b4f6cf4eda01eb2874b3eb65edb9fa1a9941cb"), looks := false }, kinds := [], alts := [], laidByText := true, laidKinds := [.data], laidTests := true, laidLooks := .later }
def PkeyDrawsCardSaid : Prop := Claim7.holds Tryz.pinned (.plain (OpenSpec.ofChange pkeyDrawsSpec)) pkeyDrawsCard

/-- THE TIED CARD OF 'clepsydralaw06.IffMakes'. -/
def iffMakesCard : Claim7 := { stood := { row := iffMakesRow, standIns := [], harness := (true, "a77df78dea42f5a15d86f593e1b4f6cf4eda01eb2874b3eb65edb9fa1a9941cb"), looks := false }, kinds := [], alts := [], laidByText := true, laidKinds := [.data], laidTests := true, laidLooks := .later }
def IffMakesCardSaid : Prop := Claim7.holds Tryz.pinned (.plain (OpenSpec.ofChange iffMakesSpec)) iffMakesCard

/-- THE TIED CARD OF 'clepsydratop.TopDrawn'. -/
def topDrawnCard : Claim7 := { stood := { row := topDrawnRow, standIns := [], harness := (true, "a77df78dea42f5a15d86f593e1b4f6cf4eda01eb2874b3eb65edb9fa1a9941cb"), looks := false }, kinds := [], alts := [], laidByText := true, laidKinds := [.data], laidTests := true, laidLooks := .later }
def TopDrawnCardSaid : Prop := Claim7.holds Tryz.pinned (.plain (OpenSpec.ofChange topDrawnSpec)) topDrawnCard

/-- THE SECOND FORM's CARD OF 'clepsydralaw05.PkeyMakes'. -/
def pkeyMakesUptoCard : Claim7 := { stood := { row := pkeyMakesUptoRow, standIns := [], harness := (true, "a77df78dea42f5a15d86f593e1b4f6cf4eda01eb2874b3eb65edb9fa1a9941cb"), looks := false }, kinds := [], alts := [], laidByText := true, laidKinds := [.data], laidTests := true, laidLooks := .later }
def PkeyMakesUptoCardSaid : Prop := Claim7.holds Tryz.pinned (.plain (OpenSpec.upto pkeyMakesSpec)) pkeyMakesUptoCard

/-- THE SECOND FORM's CARD OF 'clepsydralaw05.PkeyDraws'. -/
def pkeyDrawsUptoCard : Claim7 := { stood := { row := pkeyDrawsUptoRow, standIns := [], harness := (true, "a77df78dea42f5a15d86f593e1b4f6cf4eda01eb2874b3eb65edb9fa1a9941cb"), looks := false }, kinds := [], alts := [], laidByText := true, laidKinds := [.data], laidTests := true, laidLooks := .later }
def PkeyDrawsUptoCardSaid : Prop := Claim7.holds Tryz.pinned (.plain (OpenSpec.upto pkeyDrawsSpec)) pkeyDrawsUptoCard

/-- THE SECOND FORM's CARD OF 'clepsydralaw06.IffMakes'. -/
def iffMakesUptoCard : Claim7 := { stood := { row := iffMakesUptoRow, standIns := [], harness := (true, "a77df78dea42f5a15d86f593e1b4f6cf4eda01eb2874b3eb65edb9fa1a9941cb"), looks := false }, kinds := [], alts := [], laidByText := true, laidKinds := [.data], laidTests := true, laidLooks := .later }
def IffMakesUptoCardSaid : Prop := Claim7.holds Tryz.pinned (.plain (OpenSpec.upto iffMakesSpec)) iffMakesUptoCard

/-- THE SECOND FORM's CARD OF 'clepsydratop.TopDrawn'. -/
def topDrawnUptoCard : Claim7 := { stood := { row := topDrawnUptoRow, standIns := [], harness := (true, "a77df78dea42f5a15d86f593e1b4f6cf4eda01eb2874b3eb65edb9fa1a9941cb"), looks := false }, kinds := [], alts := [], laidByText := true, laidKinds := [.data], laidTests := true, laidLooks := .later }
def TopDrawnUptoCardSaid : Prop := Claim7.holds Tryz.pinned (.plain (OpenSpec.upto topDrawnSpec)) topDrawnUptoCard
end Rows
end Go.Proofs.YtkhlmcknbangfaaGreatDoor
