/-
  DERIVED. GIVEN WITH THE SEED: THE CARDS: each row of YthipdagebijbiaaGreatDoorRows.lean that lists a variable, with what it lists TIED to the program's text (the seventh form; the later family's looks); each row that meets fmt, with fmt's text TOLD by the authors' own Lean function (tested against real Go, not proved from fmt's source: count such statements apart). THE CARD IS WHAT COUNTS. Prove the row's statement (the work); the ties are given (YthipdagebijbiaaGreatDoorTie.lean); close each card by the builder's one call (the guide's Derived/Test/ToyasCard.lean, 'card_holds'). Laid BY PROGRAM, IN A SANDBOX (cutbox-door.mjs). By AI agents, Wed Nov 11 2026. No macro, syntax, notation, axiom, sorry.
-/
import Derived.Test.YthipdagebijbiaaGreatDoorRows
import GoSem.ClaimSeven
namespace Go.Proofs.YthipdagebijbiaaGreatDoor
namespace Rows

/-- THE TIED CARD OF 'clepsydralaw12.ValuesHold'. -/
def valuesHoldCard : Claim7 := { stood := { row := valuesHoldRow, standIns := [], harness := (true, "c0090e1db1d52b3e3c197e7efd71839cd8297d6fa4ab3608fb839a0abad82ea1"), looks := false }, kinds := [], alts := [], laidByText := true, laidKinds := [.data], laidTests := true, laidLooks := .later }
def ValuesHoldCardSaid : Prop := Claim7.holds Tryz.pinned (.plain (OpenSpec.ofChange valuesHoldSpec)) valuesHoldCard

/-- THE TIED CARD OF 'clepsydratop.TopSigned'. -/
def topSignedCard : Claim7 := { stood := { row := topSignedRow, standIns := [], harness := (true, "c0090e1db1d52b3e3c197e7efd71839cd8297d6fa4ab3608fb839a0abad82ea1"), looks := false }, kinds := [], alts := [], laidByText := true, laidKinds := [.data], laidTests := true, laidLooks := .later }
def TopSignedCardSaid : Prop := Claim7.holds Tryz.pinned (.plain (OpenSpec.ofChange topSignedSpec)) topSignedCard

/-- THE SECOND FORM's CARD OF 'clepsydralaw12.ValuesHold'. -/
def valuesHoldUptoCard : Claim7 := { stood := { row := valuesHoldUptoRow, standIns := [], harness := (true, "c0090e1db1d52b3e3c197e7efd71839cd8297d6fa4ab3608fb839a0abad82ea1"), looks := false }, kinds := [], alts := [], laidByText := true, laidKinds := [.data], laidTests := true, laidLooks := .later }
def ValuesHoldUptoCardSaid : Prop := Claim7.holds Tryz.pinned (.plain (OpenSpec.upto valuesHoldSpec)) valuesHoldUptoCard

/-- THE SECOND FORM's CARD OF 'clepsydratop.TopSigned'. -/
def topSignedUptoCard : Claim7 := { stood := { row := topSignedUptoRow, standIns := [], harness := (true, "c0090e1db1d52b3e3c197e7efd71839cd8297d6fa4ab3608fb839a0abad82ea1"), looks := false }, kinds := [], alts := [], laidByText := true, laidKinds := [.data], laidTests := true, laidLooks := .later }
def TopSignedUptoCardSaid : Prop := Claim7.holds Tryz.pinned (.plain (OpenSpec.upto topSignedSpec)) topSignedUptoCard
end Rows
end Go.Proofs.YthipdagebijbiaaGreatDoor
