/-
  DERIVED. GIVEN WITH THE SEED: THE CARDS: each row of YtkeejhkjbmegkaaGreatDoorRows.lean that lists a variable, with what it lists TIED to the program's text (the seventh form; the later family's looks); each row that meets fmt, with fmt's text TOLD by the authors' own Lean function (tested against real Go, not proved from fmt's source: count such statements apart). THE CARD IS WHAT COUNTS. Prove the row's statement (the work); the ties are given (YtkeejhkjbmegkaaGreatDoorTie.lean); close each card by the builder's one call (the guide's Derived/Test/ToyasCard.lean, 'card_holds'). Laid BY PROGRAM, IN A SANDBOX (cutbox-door.mjs). By AI agents, Wed Nov 11 2026. No macro, syntax, notation, axiom, sorry.
-/
import Derived.Test.YtkeejhkjbmegkaaGreatDoorRows
import GoSem.ClaimSeven
namespace Go.Proofs.YtkeejhkjbmegkaaGreatDoor
namespace Rows

/-- THE TIED CARD OF 'clepsydralaw05.PkeySignings'. -/
def pkeySigningsCard : Claim7 := { stood := { row := pkeySigningsRow, standIns := [], harness := (true, "08b5c815c4ce98d0939ca56bd09f004e88258d10564a8ae8158c8b934526e78b"), looks := false }, kinds := [], alts := [], laidByText := true, laidKinds := [.data], laidTests := true, laidLooks := .later }
def PkeySigningsCardSaid : Prop := Claim7.holds Tryz.pinned (.plain (OpenSpec.ofChange pkeySigningsSpec)) pkeySigningsCard

/-- THE TIED CARD OF 'clepsydralaw05.PkeyCrypts'. -/
def pkeyCryptsCard : Claim7 := { stood := { row := pkeyCryptsRow, standIns := [], harness := (true, "08b5c815c4ce98d0939ca56bd09f004e88258d10564a8ae8158c8b934526e78b"), looks := false }, kinds := [], alts := [], laidByText := true, laidKinds := [.data], laidTests := true, laidLooks := .later }
def PkeyCryptsCardSaid : Prop := Claim7.holds Tryz.pinned (.plain (OpenSpec.ofChange pkeyCryptsSpec)) pkeyCryptsCard

/-- THE TIED CARD OF 'clepsydralaw05.PkeyBack'. -/
def pkeyBackCard : Claim7 := { stood := { row := pkeyBackRow, standIns := [], harness := (true, "08b5c815c4ce98d0939ca56bd09f004e88258d10564a8ae8158c8b934526e78b"), looks := false }, kinds := [], alts := [], laidByText := true, laidKinds := [.data], laidTests := true, laidLooks := .later }
def PkeyBackCardSaid : Prop := Claim7.holds Tryz.pinned (.plain (OpenSpec.ofChange pkeyBackSpec)) pkeyBackCard

/-- THE TIED CARD OF 'clepsydralaw06.IffTells'. -/
def iffTellsCard : Claim7 := { stood := { row := iffTellsRow, standIns := [], harness := (true, "08b5c815c4ce98d0939ca56bd09f004e88258d10564a8ae8158c8b934526e78b"), looks := false }, kinds := [], alts := [], laidByText := true, laidKinds := [.data], laidTests := true, laidLooks := .later }
def IffTellsCardSaid : Prop := Claim7.holds Tryz.pinned (.plain (OpenSpec.ofChange iffTellsSpec)) iffTellsCard

/-- THE TIED CARD OF 'clepsydralaw06.IffExtracts'. -/
def iffExtractsCard : Claim7 := { stood := { row := iffExtractsRow, standIns := [], harness := (true, "08b5c815c4ce98d0939ca56bd09f004e88258d10564a8ae8158c8b934526e78b"), looks := false }, kinds := [], alts := [], laidByText := true, laidKinds := [.data], laidTests := true, laidLooks := .later }
def IffExtractsCardSaid : Prop := Claim7.holds Tryz.pinned (.plain (OpenSpec.ofChange iffExtractsSpec)) iffExtractsCard

/-- THE SECOND FORM's CARD OF 'clepsydralaw05.PkeySignings'. -/
def pkeySigningsUptoCard : Claim7 := { stood := { row := pkeySigningsUptoRow, standIns := [], harness := (true, "08b5c815c4ce98d0939ca56bd09f004e88258d10564a8ae8158c8b934526e78b"), looks := false }, kinds := [], alts := [], laidByText := true, laidKinds := [.data], laidTests := true, laidLooks := .later }
def PkeySigningsUptoCardSaid : Prop := Claim7.holds Tryz.pinned (.plain (OpenSpec.upto pkeySigningsSpec)) pkeySigningsUptoCard

/-- THE SECOND FORM's CARD OF 'clepsydralaw05.PkeyCrypts'. -/
def pkeyCryptsUptoCard : Claim7 := { stood := { row := pkeyCryptsUptoRow, standIns := [], harness := (true, "08b5c815c4ce98d0939ca56bd09f004e88258d10564a8ae8158c8b934526e78b"), looks := false }, kinds := [], alts := [], laidByText := true, laidKinds := [.data], laidTests := true, laidLooks := .later }
def PkeyCryptsUptoCardSaid : Prop := Claim7.holds Tryz.pinned (.plain (OpenSpec.upto pkeyCryptsSpec)) pkeyCryptsUptoCard

/-- THE SECOND FORM's CARD OF 'clepsydralaw05.PkeyBack'. -/
def pkeyBackUptoCard : Claim7 := { stood := { row := pkeyBackUptoRow, standIns := [], harness := (true, "08b5c815c4ce98d0939ca56bd09f004e88258d10564a8ae8158c8b934526e78b"), looks := false }, kinds := [], alts := [], laidByText := true, laidKinds := [.data], laidTests := true, laidLooks := .later }
def PkeyBackUptoCardSaid : Prop := Claim7.holds Tryz.pinned (.plain (OpenSpec.upto pkeyBackSpec)) pkeyBackUptoCard

/-- THE SECOND FORM's CARD OF 'clepsydralaw06.IffTells'. -/
def iffTellsUptoCard : Claim7 := { stood := { row := iffTellsUptoRow, standIns := [], harness := (true, "08b5c815c4ce98d0939ca56bd09f004e88258d10564a8ae8158c8b934526e78b"), looks := false }, kinds := [], alts := [], laidByText := true, laidKinds := [.data], laidTests := true, laidLooks := .later }
def IffTellsUptoCardSaid : Prop := Claim7.holds Tryz.pinned (.plain (OpenSpec.upto iffTellsSpec)) iffTellsUptoCard

/-- THE SECOND FORM's CARD OF 'clepsydralaw06.IffExtracts'. -/
def iffExtractsUptoCard : Claim7 := { stood := { row := iffExtractsUptoRow, standIns := [], harness := (true, "08b5c815c4ce98d0939ca56bd09f004e88258d10564a8ae8158c8b934526e78b"), looks := false }, kinds := [], alts := [], laidByText := true, laidKinds := [.data], laidTests := true, laidLooks := .later }
def IffExtractsUptoCardSaid : Prop := Claim7.holds Tryz.pinned (.plain (OpenSpec.upto iffExtractsSpec)) iffExtractsUptoCard
end Rows
end Go.Proofs.YtkeejhkjbmegkaaGreatDoor
