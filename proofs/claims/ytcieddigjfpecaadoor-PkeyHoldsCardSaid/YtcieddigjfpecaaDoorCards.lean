/-
  DERIVED. GIVEN WITH THE SEED: THE CARDS: each row of YtcieddigjfpecaaDoorRows.lean that lists a variable, with what it lists TIED to the program's text (the seventh form; the later family's looks); each row that meets fmt, with fmt's text TOLD by the authors' own Lean function (tested against real Go, not proved from fmt's source: count such statements apart). THE CARD IS WHAT COUNTS. Prove the row's statement (the work); the ties are given (YtcieddigjfpecaaDoorTie.lean); close each card by the builder's one call (the guide's Derived/Test/ToyasCard.lean, 'card_holds'). Laid BY PROGRAM, IN A SANDBOX (cutbox-door.mjs). By AI agents, Wed Nov 11 2026. No macro, syntax, notation, axiom, sorry.
-/
import Derived.Test.YtcieddigjfpecaaDoorRows
import GoSem.ClaimSeven
namespace Go.Proofs.YtcieddigjfpecaaDoor
namespace Rows

/-- THE TIED CARD OF 'clepsydralaw05.PkeyHolds'. -/
def pkeyHoldsCard : Claim7 := { stood := { row := pkeyHoldsRow, standIns := [], harness := (true, "02ae3d3d4ac0428694810847d8f412c74ccdc252ee51d362bade2f173b9bd49f"), looks := false }, kinds := [], alts := [], laidByText := true, laidKinds := [.data], laidTests := true, laidLooks := .later }
def PkeyHoldsCardSaid : Prop := Claim7.holds Tryd.pinned (.plain (OpenSpec.ofChange pkeyHoldsSpec)) pkeyHoldsCard

/-- THE TIED CARD OF 'clepsydralaw06.IffProves'. -/
def iffProvesCard : Claim7 := { stood := { row := iffProvesRow, standIns := [], harness := (true, "02ae3d3d4ac0428694810847d8f412c74ccdc252ee51d362bade2f173b9bd49f"), looks := false }, kinds := [], alts := [], laidByText := true, laidKinds := [.data], laidTests := true, laidLooks := .later }
def IffProvesCardSaid : Prop := Claim7.holds Tryd.pinned (.plain (OpenSpec.ofChange iffProvesSpec)) iffProvesCard

/-- THE TIED CARD OF 'clepsydralaw06.IffKnows'. -/
def iffKnowsCard : Claim7 := { stood := { row := iffKnowsRow, standIns := [], harness := (true, "02ae3d3d4ac0428694810847d8f412c74ccdc252ee51d362bade2f173b9bd49f"), looks := false }, kinds := [], alts := [], laidByText := true, laidKinds := [.data], laidTests := true, laidLooks := .later }
def IffKnowsCardSaid : Prop := Claim7.holds Tryd.pinned (.plain (OpenSpec.ofChange iffKnowsSpec)) iffKnowsCard

/-- THE TIED CARD OF 'clepsydratop.TopUndo'. -/
def topUndoCard : Claim7 := { stood := { row := topUndoRow, standIns := [], harness := (true, "02ae3d3d4ac0428694810847d8f412c74ccdc252ee51d362bade2f173b9bd49f"), looks := false }, kinds := [], alts := [], laidByText := true, laidKinds := [.data], laidTests := true, laidLooks := .later }
def TopUndoCardSaid : Prop := Claim7.holds Tryd.pinned (.plain (OpenSpec.ofChange topUndoSpec)) topUndoCard

/-- THE SECOND FORM's CARD OF 'clepsydralaw05.PkeyHolds'. -/
def pkeyHoldsUptoCard : Claim7 := { stood := { row := pkeyHoldsUptoRow, standIns := [], harness := (true, "02ae3d3d4ac0428694810847d8f412c74ccdc252ee51d362bade2f173b9bd49f"), looks := false }, kinds := [], alts := [], laidByText := true, laidKinds := [.data], laidTests := true, laidLooks := .later }
def PkeyHoldsUptoCardSaid : Prop := Claim7.holds Tryd.pinned (.plain (OpenSpec.upto pkeyHoldsSpec)) pkeyHoldsUptoCard

/-- THE SECOND FORM's CARD OF 'clepsydralaw06.IffProves'. -/
def iffProvesUptoCard : Claim7 := { stood := { row := iffProvesUptoRow, standIns := [], harness := (true, "02ae3d3d4ac0428694810847d8f412c74ccdc252ee51d362bade2f173b9bd49f"), looks := false }, kinds := [], alts := [], laidByText := true, laidKinds := [.data], laidTests := true, laidLooks := .later }
def IffProvesUptoCardSaid : Prop := Claim7.holds Tryd.pinned (.plain (OpenSpec.upto iffProvesSpec)) iffProvesUptoCard

/-- THE SECOND FORM's CARD OF 'clepsydralaw06.IffKnows'. -/
def iffKnowsUptoCard : Claim7 := { stood := { row := iffKnowsUptoRow, standIns := [], harness := (true, "02ae3d3d4ac0428694810847d8f412c74ccdc252ee51d362bade2f173b9bd49f"), looks := false }, kinds := [], alts := [], laidByText := true, laidKinds := [.data], laidTests := true, laidLooks := .later }
def IffKnowsUptoCardSaid : Prop := Claim7.holds Tryd.pinned (.plain (OpenSpec.upto iffKnowsSpec)) iffKnowsUptoCard

/-- THE SECOND FORM's CARD OF 'clepsydratop.TopUndo'. -/
def topUndoUptoCard : Claim7 := { stood := { row := topUndoUptoRow, standIns := [], harness := (true, "02ae3d3d4ac0428694810847d8f412c74ccdc252ee51d362bade2f173b9bd49f"), looks := false }, kinds := [], alts := [], laidByText := true, laidKinds := [.data], laidTests := true, laidLooks := .later }
def TopUndoUptoCardSaid : Prop := Claim7.holds Tryd.pinned (.plain (OpenSpec.upto topUndoSpec)) topUndoUptoCard
end Rows
end Go.Proofs.YtcieddigjfpecaaDoor
