/-
  DERIVED. GIVEN WITH THE SEED: THE CARDS: each row of YtnkkjfkchmlogaaDoorRows.lean that lists a variable, with what it lists TIED to the program's text (the seventh form; the later family's looks); each row that meets fmt, with fmt's text TOLD by the authors' own Lean function (tested against real Go, not proved from fmt's source: count such statements apart). THE CARD IS WHAT COUNTS. Prove the row's statement (the work); the ties are given (YtnkkjfkchmlogaaDoorTie.lean); close each card by the builder's one call (the guide's Derived/Test/ToyasCard.lean, 'card_holds'). Laid BY PROGRAM, IN A SANDBOX (cutbox-door.mjs). By AI agents, Wed Nov 11 2026. No macro, syntax, notation, axiom, sorry.
-/
import Derived.Test.YtnkkjfkchmlogaaDoorRows
import GoSem.ClaimSeven
namespace Go.Proofs.YtnkkjfkchmlogaaDoor
namespace Rows

/-- THE TIED CARD OF 'clepsydralaw02.ShaSums'. -/
def shaSumsCard : Claim7 := { stood := { row := shaSumsRow, standIns := [], harness := (true, "756ddd86ea3c962c140c4e725a86db090a64aa718640d7001e1255f4caa8afae"), looks := false }, kinds := [], alts := [], laidByText := true, laidKinds := [.data], laidTests := true, laidLooks := .later }
def ShaSumsCardSaid : Prop := Claim7.holds Tryd.pinned (.plain (OpenSpec.ofChange shaSumsSpec)) shaSumsCard

/-- THE TIED CARD OF 'clepsydralaw02.ShaKeyed'. -/
def shaKeyedCard : Claim7 := { stood := { row := shaKeyedRow, standIns := [], harness := (true, "756ddd86ea3c962c140c4e725a86db090a64aa718640d7001e1255f4caa8afae"), looks := false }, kinds := [], alts := [], laidByText := true, laidKinds := [.data], laidTests := true, laidLooks := .later }
def ShaKeyedCardSaid : Prop := Claim7.holds Tryd.pinned (.plain (OpenSpec.ofChange shaKeyedSpec)) shaKeyedCard

/-- THE TIED CARD OF 'clepsydralaw02.ShaTakes'. -/
def shaTakesCard : Claim7 := { stood := { row := shaTakesRow, standIns := [], harness := (true, "756ddd86ea3c962c140c4e725a86db090a64aa718640d7001e1255f4caa8afae"), looks := false }, kinds := [], alts := [], laidByText := true, laidKinds := [.data], laidTests := true, laidLooks := .later }
def ShaTakesCardSaid : Prop := Claim7.holds Tryd.pinned (.plain (OpenSpec.ofChange shaTakesSpec)) shaTakesCard

/-- THE TIED CARD OF 'clepsydralaw02.ShaExpands'. -/
def shaExpandsCard : Claim7 := { stood := { row := shaExpandsRow, standIns := [], harness := (true, "756ddd86ea3c962c140c4e725a86db090a64aa718640d7001e1255f4caa8afae"), looks := false }, kinds := [], alts := [], laidByText := true, laidKinds := [.data], laidTests := true, laidLooks := .later }
def ShaExpandsCardSaid : Prop := Claim7.holds Tryd.pinned (.plain (OpenSpec.ofChange shaExpandsSpec)) shaExpandsCard

/-- THE TIED CARD OF 'clepsydralaw02.ShaNobody'. -/
def shaNobodyCard : Claim7 := { stood := { row := shaNobodyRow, standIns := [], harness := (true, "756ddd86ea3c962c140c4e725a86db090a64aa718640d7001e1255f4caa8afae"), looks := false }, kinds := [], alts := [], laidByText := true, laidKinds := [.data], laidTests := true, laidLooks := .later }
def ShaNobodyCardSaid : Prop := Claim7.holds Tryd.pinned (.plain (OpenSpec.ofChange shaNobodySpec)) shaNobodyCard

/-- THE TIED CARD OF 'clepsydralaw02.ShaPieces'. -/
def shaPiecesCard : Claim7 := { stood := { row := shaPiecesRow, standIns := [], harness := (true, "756ddd86ea3c962c140c4e725a86db090a64aa718640d7001e1255f4caa8afae"), looks := false }, kinds := [], alts := [], laidByText := true, laidKinds := [.data], laidTests := true, laidLooks := .later }
def ShaPiecesCardSaid : Prop := Claim7.holds Tryd.pinned (.plain (OpenSpec.ofChange shaPiecesSpec)) shaPiecesCard

/-- THE TIED CARD OF 'clepsydralaw02.ShaAsked'. -/
def shaAskedCard : Claim7 := { stood := { row := shaAskedRow, standIns := [], harness := (true, "756ddd86ea3c962c140c4e725a86db090a64aa718640d7001e1255f4caa8afae"), looks := false }, kinds := [], alts := [], laidByText := true, laidKinds := [.data], laidTests := true, laidLooks := .later }
def ShaAskedCardSaid : Prop := Claim7.holds Tryd.pinned (.plain (OpenSpec.ofChange shaAskedSpec)) shaAskedCard

/-- THE TIED CARD OF 'clepsydralaw02.ShaBegins'. -/
def shaBeginsCard : Claim7 := { stood := { row := shaBeginsRow, standIns := [], harness := (true, "756ddd86ea3c962c140c4e725a86db090a64aa718640d7001e1255f4caa8afae"), looks := false }, kinds := [], alts := [], laidByText := true, laidKinds := [.data], laidTests := true, laidLooks := .later }
def ShaBeginsCardSaid : Prop := Claim7.holds Tryd.pinned (.plain (OpenSpec.ofChange shaBeginsSpec)) shaBeginsCard

/-- THE SECOND FORM's CARD OF 'clepsydralaw02.ShaSums'. -/
def shaSumsUptoCard : Claim7 := { stood := { row := shaSumsUptoRow, standIns := [], harness := (true, "756ddd86ea3c962c140c4e725a86db090a64aa718640d7001e1255f4caa8afae"), looks := false }, kinds := [], alts := [], laidByText := true, laidKinds := [.data], laidTests := true, laidLooks := .later }
def ShaSumsUptoCardSaid : Prop := Claim7.holds Tryd.pinned (.plain (OpenSpec.upto shaSumsSpec)) shaSumsUptoCard

/-- THE SECOND FORM's CARD OF 'clepsydralaw02.ShaKeyed'. -/
def shaKeyedUptoCard : Claim7 := { stood := { row := shaKeyedUptoRow, standIns := [], harness := (true, "756ddd86ea3c962c140c4e725a86db090a64aa718640d7001e1255f4caa8afae"), looks := false }, kinds := [], alts := [], laidByText := true, laidKinds := [.data], laidTests := true, laidLooks := .later }
def ShaKeyedUptoCardSaid : Prop := Claim7.holds Tryd.pinned (.plain (OpenSpec.upto shaKeyedSpec)) shaKeyedUptoCard

/-- THE SECOND FORM's CARD OF 'clepsydralaw02.ShaTakes'. -/
def shaTakesUptoCard : Claim7 := { stood := { row := shaTakesUptoRow, standIns := [], harness := (true, "756ddd86ea3c962c140c4e725a86db090a64aa718640d7001e1255f4caa8afae"), looks := false }, kinds := [], alts := [], laidByText := true, laidKinds := [.data], laidTests := true, laidLooks := .later }
def ShaTakesUptoCardSaid : Prop := Claim7.holds Tryd.pinned (.plain (OpenSpec.upto shaTakesSpec)) shaTakesUptoCard

/-- THE SECOND FORM's CARD OF 'clepsydralaw02.ShaExpands'. -/
def shaExpandsUptoCard : Claim7 := { stood := { row := shaExpandsUptoRow, standIns := [], harness := (true, "756ddd86ea3c962c140c4e725a86db090a64aa718640d7001e1255f4caa8afae"), looks := false }, kinds := [], alts := [], laidByText := true, laidKinds := [.data], laidTests := true, laidLooks := .later }
def ShaExpandsUptoCardSaid : Prop := Claim7.holds Tryd.pinned (.plain (OpenSpec.upto shaExpandsSpec)) shaExpandsUptoCard

/-- THE SECOND FORM's CARD OF 'clepsydralaw02.ShaNobody'. -/
def shaNobodyUptoCard : Claim7 := { stood := { row := shaNobodyUptoRow, standIns := [], harness := (true, "756ddd86ea3c962c140c4e725a86db090a64aa718640d7001e1255f4caa8afae"), looks := false }, kinds := [], alts := [], laidByText := true, laidKinds := [.data], laidTests := true, laidLooks := .later }
def ShaNobodyUptoCardSaid : Prop := Claim7.holds Tryd.pinned (.plain (OpenSpec.upto shaNobodySpec)) shaNobodyUptoCard

/-- THE SECOND FORM's CARD OF 'clepsydralaw02.ShaPieces'. -/
def shaPiecesUptoCard : Claim7 := { stood := { row := shaPiecesUptoRow, standIns := [], harness := (true, "756ddd86ea3c962c140c4e725a86db090a64aa718640d7001e1255f4caa8afae"), looks := false }, kinds := [], alts := [], laidByText := true, laidKinds := [.data], laidTests := true, laidLooks := .later }
def ShaPiecesUptoCardSaid : Prop := Claim7.holds Tryd.pinned (.plain (OpenSpec.upto shaPiecesSpec)) shaPiecesUptoCard

/-- THE SECOND FORM's CARD OF 'clepsydralaw02.ShaAsked'. -/
def shaAskedUptoCard : Claim7 := { stood := { row := shaAskedUptoRow, standIns := [], harness := (true, "756ddd86ea3c962c140c4e725a86db090a64aa718640d7001e1255f4caa8afae"), looks := false }, kinds := [], alts := [], laidByText := true, laidKinds := [.data], laidTests := true, laidLooks := .later }
def ShaAskedUptoCardSaid : Prop := Claim7.holds Tryd.pinned (.plain (OpenSpec.upto shaAskedSpec)) shaAskedUptoCard

/-- THE SECOND FORM's CARD OF 'clepsydralaw02.ShaBegins'. -/
def shaBeginsUptoCard : Claim7 := { stood := { row := shaBeginsUptoRow, standIns := [], harness := (true, "756ddd86ea3c962c140c4e725a86db090a64aa718640d7001e1255f4caa8afae"), looks := false }, kinds := [], alts := [], laidByText := true, laidKinds := [.data], laidTests := true, laidLooks := .later }
def ShaBeginsUptoCardSaid : Prop := Claim7.holds Tryd.pinned (.plain (OpenSpec.upto shaBeginsSpec)) shaBeginsUptoCard
end Rows
end Go.Proofs.YtnkkjfkchmlogaaDoor
