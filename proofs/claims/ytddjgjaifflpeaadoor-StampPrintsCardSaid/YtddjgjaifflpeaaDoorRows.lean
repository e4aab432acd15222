/-
  NARROWER THAN 'FOR EVERY INPUT', by the rows' own cells (each row's printed sentence says how): StampMoves: laid · StampExchanges: laid · StampShorts: laid · StampPrints: laid · StampThere: laid · StampBack: laid · StampShifts: laid · StampHalf: laid.
  DERIVED. THE GIVEN ROWS OF THIS SEAT. 8 by the template 'for every input the law returns true; each argument reads behind the call as it read before'; 0 by the template 'total and deterministic' (their statements: YtddjgjaifflpeaaDoorTotals.lean).
  GIVEN WITH THE SEED: the statements are not yours to turn. If you find one false, say at which input.
  Laid BY PROGRAM, IN A SANDBOX (cutbox-rows.mjs): the forced cells as the released guide's own fill.sh prints them over the translation bba1a3e3cfca84f1… (all of the seat's roots in one cut). By AI agents, Wed Nov 11 2026. No macro, syntax, notation, axiom, sorry.
-/
import Derived.Test.YtddjgjaifflpeaaDoorChecked
import GoSem.PinnedTables
import GoSem.Claim
import GoSem.ClaimJoined
import GoSem.ClaimMapViews
import Derived.JoinedTies
import Derived.KernelRfl
namespace Go.Proofs.YtddjgjaifflpeaaDoor
/- THE CELL 'sum', in the pinned program and in every row, IS THE sha256 OF THE DUMP (.gsa) THAT YtddjgjaifflpeaaDoorProg.lean LOADS. Nothing in Lean hashes anything: it is a label: what it is worth is what the hold of that sum in a sandbox is worth. -/
noncomputable def Tryd.pinned : Pinned := { name := "ytddjgjaifflpeaadoor", sum := "bba1a3e3cfca84f16700b1ca63f8eb9c0397eb3230827796f4b99f69e94b63b7", checked := Tryd.checked }
namespace Rows
def none {H : Type} : Left H := { results := [], args := [] }

/- WHAT THE LISTED PACKAGE-LEVEL VARIABLES READ AS WHEN THE CALL BEGINS. Each datum BY PROGRAM (the guide's laid-datum.mjs) off the statement by which the dump's own 'gosem.cut.vars' lays the variable. In a bare row this is a premise. The card (YtddjgjaifflpeaaDoorCards.lean) ties it to the program's text. -/
def laid_unicode_utf8_acceptRanges {H : Type} : DataW H := .agg [.agg [.lit (.int .u8 128), .lit (.int .u8 191)], .agg [.lit (.int .u8 160), .lit (.int .u8 191)], .agg [.lit (.int .u8 128), .lit (.int .u8 159)], .agg [.lit (.int .u8 144), .lit (.int .u8 191)], .agg [.lit (.int .u8 128), .lit (.int .u8 143)], .agg [.lit (.int .u8 0), .lit (.int .u8 0)], .agg [.lit (.int .u8 0), .lit (.int .u8 0)], .agg [.lit (.int .u8 0), .lit (.int .u8 0)], .agg [.lit (.int .u8 0), .lit (.int .u8 0)], .agg [.lit (.int .u8 0), .lit (.int .u8 0)], .agg [.lit (.int .u8 0), .lit (.int .u8 0)], .agg [.lit (.int .u8 0), .lit (.int .u8 0)], .agg [.lit (.int .u8 0), .lit (.int .u8 0)], .agg [.lit (.int .u8 0), .lit (.int .u8 0)], .agg [.lit (.int .u8 0), .lit (.int .u8 0)], .agg [.lit (.int .u8 0), .lit (.int .u8 0)]]
/-- One of Go's own tables, pinned by name: the form's constant. -/
def laid_unicode_utf8_first : DataW Unit := Go.Pinned.utf8First

/-- 'clepsydralaw04.StampMoves': WHATEVER THE INPUT: true; the input reads as it did. -/
def stampMovesSpec : ChangeSpec := { name := "stampMoves", fn := fun _ => fun
  | [d1, d2, d3] => { results := [.lit (.bool true)], args := [d1, d2, d3] }
  | _ => none }
def stampMovesRow : OpenClaim := { program := "ytddjgjaifflpeaadoor", sum := "bba1a3e3cfca84f16700b1ca63f8eb9c0397eb3230827796f4b99f69e94b63b7", func := "clepsydra/clepsydralaw04.StampMoves", spec := "stampMoves", inPlace := ["internal/bytealg.IndexByteString", "internal/bytealg.IndexString"], named := ["internal/bytealg.MaxLen", "unicode/utf8.first", "unicode/utf8.acceptRanges"], apart := false, laid := [("unicode/utf8.acceptRanges", laid_unicode_utf8_acceptRanges), ("unicode/utf8.first", laid_unicode_utf8_first)] }
def StampMovesSaid : Prop := stampMovesRow.holds Tryd.pinned (OpenSpec.ofChange stampMovesSpec)

/-- ITS FALSE NEIGHBOUR: 'it returns false'. Refute it at one input. -/
def stampMovesWrong : ChangeSpec := { name := "stampMoves", fn := fun _ => fun
  | [d1, d2, d3] => { results := [.lit (.bool false)], args := [d1, d2, d3] }
  | _ => none }
def StampMovesWrongFalsely : Prop := stampMovesRow.holds Tryd.pinned (OpenSpec.ofChange stampMovesWrong)

/-- 'clepsydralaw04.StampExchanges': WHATEVER THE INPUT: true; the input reads as it did. -/
def stampExchangesSpec : ChangeSpec := { name := "stampExchanges", fn := fun _ => fun
  | [d1, d2, d3, d4] => { results := [.lit (.bool true)], args := [d1, d2, d3, d4] }
  | _ => none }
def stampExchangesRow : OpenClaim := { program := "ytddjgjaifflpeaadoor", sum := "bba1a3e3cfca84f16700b1ca63f8eb9c0397eb3230827796f4b99f69e94b63b7", func := "clepsydra/clepsydralaw04.StampExchanges", spec := "stampExchanges", inPlace := ["internal/bytealg.IndexByteString", "internal/bytealg.IndexString"], named := ["internal/bytealg.MaxLen", "unicode/utf8.first", "unicode/utf8.acceptRanges"], apart := false, laid := [("unicode/utf8.acceptRanges", laid_unicode_utf8_acceptRanges), ("unicode/utf8.first", laid_unicode_utf8_first)] }
def StampExchangesSaid : Prop := stampExchangesRow.holds Tryd.pinned (OpenSpec.ofChange stampExchangesSpec)

/-- ITS FALSE NEIGHBOUR: 'it returns false'. Refute it at one input. -/
def stampExchangesWrong : ChangeSpec := { name := "stampExchanges", fn := fun _ => fun
  | [d1, d2, d3, d4] => { results := [.lit (.bool false)], args := [d1, d2, d3, d4] }
  | _ => none }
def StampExchangesWrongFalsely : Prop := stampExchangesRow.holds Tryd.pinned (OpenSpec.ofChange stampExchangesWrong)

/-- 'clepsydralaw04.StampShorts': WHATEVER THE INPUT: true; the input reads as it did. -/
def stampShortsSpec : ChangeSpec := { name := "stampShorts", fn := fun _ => fun
  | [d1, d2, d3] => { results := [.lit (.bool true)], args := [d1, d2, d3] }
  | _ => none }
def stampShortsRow : OpenClaim := { program := "ytddjgjaifflpeaadoor", sum := "bba1a3e3cfca84f16700b1ca63f8eb9c0397eb3230827796f4b99f69e94b63b7", func := "clepsydra/clepsydralaw04.StampShorts", spec := "stampShorts", inPlace := ["internal/bytealg.IndexByteString", "internal/bytealg.IndexString"], named := ["internal/bytealg.MaxLen", "unicode/utf8.first", "unicode/utf8.acceptRanges"], apart := false, laid := [("unicode/utf8.acceptRanges", laid_unicode_utf8_acceptRanges), ("unicode/utf8.first", laid_unicode_utf8_first)] }
def StampShortsSaid : Prop := stampShortsRow.holds Tryd.pinned (OpenSpec.ofChange stampShortsSpec)

/-- ITS FALSE NEIGHBOUR: 'it returns false'. Refute it at one input. -/
def stampShortsWrong : ChangeSpec := { name := "stampShorts", fn := fun _ => fun
  | [d1, d2, d3] => { results := [.lit (.bool false)], args := [d1, d2, d3] }
  | _ => none }
def StampShortsWrongFalsely : Prop := stampShortsRow.holds Tryd.pinned (OpenSpec.ofChange stampShortsWrong)

/-- 'clepsydralaw04.StampPrints': WHATEVER THE INPUT: true; the input reads as it did. -/
def stampPrintsSpec : ChangeSpec := { name := "stampPrints", fn := fun _ => fun
  | [d1, d2] => { results := [.lit (.bool true)], args := [d1, d2] }
  | _ => none }
def stampPrintsRow : OpenClaim := { program := "ytddjgjaifflpeaadoor", sum := "bba1a3e3cfca84f16700b1ca63f8eb9c0397eb3230827796f4b99f69e94b63b7", func := "clepsydra/clepsydralaw04.StampPrints", spec := "stampPrints", inPlace := ["internal/bytealg.IndexByteString", "internal/bytealg.IndexString"], recurses := true, named := ["internal/bytealg.MaxLen", "unicode/utf8.first", "unicode/utf8.acceptRanges"], apart := false, laid := [("unicode/utf8.acceptRanges", laid_unicode_utf8_acceptRanges), ("unicode/utf8.first", laid_unicode_utf8_first)] }
def StampPrintsSaid : Prop := stampPrintsRow.holds Tryd.pinned (OpenSpec.ofChange stampPrintsSpec)

/-- ITS FALSE NEIGHBOUR: 'it returns false'. Refute it at one input. -/
def stampPrintsWrong : ChangeSpec := { name := "stampPrints", fn := fun _ => fun
  | [d1, d2] => { results := [.lit (.bool false)], args := [d1, d2] }
  | _ => none }
def StampPrintsWrongFalsely : Prop := stampPrintsRow.holds Tryd.pinned (OpenSpec.ofChange stampPrintsWrong)

/-- 'clepsydralaw04.StampThere': WHATEVER THE INPUT: true; the input reads as it did. -/
def stampThereSpec : ChangeSpec := { name := "stampThere", fn := fun _ => fun
  | [d1, d2, d3] => { results := [.lit (.bool true)], args := [d1, d2, d3] }
  | _ => none }
def stampThereRow : OpenClaim := { program := "ytddjgjaifflpeaadoor", sum := "bba1a3e3cfca84f16700b1ca63f8eb9c0397eb3230827796f4b99f69e94b63b7", func := "clepsydra/clepsydralaw04.StampThere", spec := "stampThere", inPlace := ["internal/bytealg.IndexByteString", "internal/bytealg.IndexString"], named := ["internal/bytealg.MaxLen", "unicode/utf8.first", "unicode/utf8.acceptRanges"], apart := false, laid := [("unicode/utf8.acceptRanges", laid_unicode_utf8_acceptRanges), ("unicode/utf8.first", laid_unicode_utf8_first)] }
def StampThereSaid : Prop := stampThereRow.holds Tryd.pinned (OpenSpec.ofChange stampThereSpec)

/-- ITS FALSE NEIGHBOUR: 'it returns false'. Refute it at one input. -/
def stampThereWrong : ChangeSpec := { name := "stampThere", fn := fun _ => fun
  | [d1, d2, d3] => { results := [.lit (.bool false)], args := [d1, d2, d3] }
  | _ => none }
def StampThereWrongFalsely : Prop := stampThereRow.holds Tryd.pinned (OpenSpec.ofChange stampThereWrong)

/-- 'clepsydralaw04.StampBack': WHATEVER THE INPUT: true; the input reads as it did. -/
def stampBackSpec : ChangeSpec := { name := "stampBack", fn := fun _ => fun
  | [d1, d2] => { results := [.lit (.bool true)], args := [d1, d2] }
  | _ => none }
def stampBackRow : OpenClaim := { program := "ytddjgjaifflpeaadoor", sum := "bba1a3e3cfca84f16700b1ca63f8eb9c0397eb3230827796f4b99f69e94b63b7", func := "clepsydra/clepsydralaw04.StampBack", spec := "stampBack", inPlace := ["internal/bytealg.IndexByteString", "internal/bytealg.IndexString"], named := ["unicode/utf8.first", "unicode/utf8.acceptRanges", "internal/bytealg.MaxLen"], apart := false, laid := [("unicode/utf8.acceptRanges", laid_unicode_utf8_acceptRanges), ("unicode/utf8.first", laid_unicode_utf8_first)] }
def StampBackSaid : Prop := stampBackRow.holds Tryd.pinned (OpenSpec.ofChange stampBackSpec)

/-- ITS FALSE NEIGHBOUR: 'it returns false'. Refute it at one input. -/
def stampBackWrong : ChangeSpec := { name := "stampBack", fn := fun _ => fun
  | [d1, d2] => { results := [.lit (.bool false)], args := [d1, d2] }
  | _ => none }
def StampBackWrongFalsely : Prop := stampBackRow.holds Tryd.pinned (OpenSpec.ofChange stampBackWrong)

/-- 'clepsydralaw04.StampShifts': WHATEVER THE INPUT: true; the input reads as it did. -/
def stampShiftsSpec : ChangeSpec := { name := "stampShifts", fn := fun _ => fun
  | [d1, d2, d3, d4, d5] => { results := [.lit (.bool true)], args := [d1, d2, d3, d4, d5] }
  | _ => none }
def stampShiftsRow : OpenClaim := { program := "ytddjgjaifflpeaadoor", sum := "bba1a3e3cfca84f16700b1ca63f8eb9c0397eb3230827796f4b99f69e94b63b7", func := "clepsydra/clepsydralaw04.StampShifts", spec := "stampShifts", inPlace := ["internal/bytealg.IndexByteString", "internal/bytealg.IndexString"], named := ["internal/bytealg.MaxLen", "unicode/utf8.first", "unicode/utf8.acceptRanges"], apart := false, laid := [("unicode/utf8.acceptRanges", laid_unicode_utf8_acceptRanges), ("unicode/utf8.first", laid_unicode_utf8_first)] }
def StampShiftsSaid : Prop := stampShiftsRow.holds Tryd.pinned (OpenSpec.ofChange stampShiftsSpec)

/-- ITS FALSE NEIGHBOUR: 'it returns false'. Refute it at one input. -/
def stampShiftsWrong : ChangeSpec := { name := "stampShifts", fn := fun _ => fun
  | [d1, d2, d3, d4, d5] => { results := [.lit (.bool false)], args := [d1, d2, d3, d4, d5] }
  | _ => none }
def StampShiftsWrongFalsely : Prop := stampShiftsRow.holds Tryd.pinned (OpenSpec.ofChange stampShiftsWrong)

/-- 'clepsydralaw04.StampHalf': WHATEVER THE INPUT: true; the input reads as it did. -/
def stampHalfSpec : ChangeSpec := { name := "stampHalf", fn := fun _ => fun
  | [d1, d2, d3, d4, d5] => { results := [.lit (.bool true)], args := [d1, d2, d3, d4, d5] }
  | _ => none }
def stampHalfRow : OpenClaim := { program := "ytddjgjaifflpeaadoor", sum := "bba1a3e3cfca84f16700b1ca63f8eb9c0397eb3230827796f4b99f69e94b63b7", func := "clepsydra/clepsydralaw04.StampHalf", spec := "stampHalf", inPlace := ["internal/bytealg.IndexByteString", "internal/bytealg.IndexString"], named := ["internal/bytealg.MaxLen", "unicode/utf8.first", "unicode/utf8.acceptRanges"], apart := false, laid := [("unicode/utf8.acceptRanges", laid_unicode_utf8_acceptRanges), ("unicode/utf8.first", laid_unicode_utf8_first)] }
def StampHalfSaid : Prop := stampHalfRow.holds Tryd.pinned (OpenSpec.ofChange stampHalfSpec)

/-- ITS FALSE NEIGHBOUR: 'it returns false'. Refute it at one input. -/
def stampHalfWrong : ChangeSpec := { name := "stampHalf", fn := fun _ => fun
  | [d1, d2, d3, d4, d5] => { results := [.lit (.bool false)], args := [d1, d2, d3, d4, d5] }
  | _ => none }
def StampHalfWrongFalsely : Prop := stampHalfRow.holds Tryd.pinned (OpenSpec.ofChange stampHalfWrong)

/- THE SECOND FORM. 'bulk': how many values and letters a reading holds, each counted each time it is reached (what is shared counts as often as it is met; a slice's spare places count too). A statement '..UptoSaid' is the law's where the arguments, and the package variables that the reading takes, are together of bulk at most 1048576: NARROWER than '..Said'. Prove '..Said' where nothing that the law and all that it calls make is longer than what came in: it says more and counts as full. Else prove '..UptoSaid'. A law counts once. -/
mutual
def uptoBulk {H : Type} : DataW H → Nat
  | .lit (.string bytes) => bytes.length + 1
  | .lit _ => 1
  | .nil => 1
  | .ptr d => uptoBulk d + 1
  | .slice elems spare => uptoBulkAll elems + uptoBulkAll spare + 1
  | .agg parts => uptoBulkAll parts + 1
  | .iface _ d => uptoBulk d + 1
  | .map entries => uptoBulkEntries entries + 1
  | .held _ => 1
def uptoBulkAll {H : Type} : List (DataW H) → Nat
  | [] => 0
  | d :: r => uptoBulk d + uptoBulkAll r
def uptoBulkEntries {H : Type} : List (Lit × DataW H) → Nat
  | [] => 0
  | x :: r => uptoBulkEntry x + uptoBulkEntries r
def uptoBulkEntry {H : Type} : Lit × DataW H → Nat
  | (.string bytes, d) => bytes.length + uptoBulk d + 1
  | (_, d) => uptoBulk d + 1
 end
def uptoSmall : (H : Type) → List (DataW H) → Bool := fun _ ds => decide (uptoBulkAll ds ≤ 1048576)
def OpenSpec.upto (s : _root_.Go.ChangeSpec) : _root_.Go.OpenSpec := { _root_.Go.OpenSpec.ofChange s with cond := some uptoSmall }

/-- 'clepsydralaw04.StampMoves', WHERE WHAT IT READS IS OF BULK AT MOST 1048576: true; the input reads as it did. -/
def stampMovesUptoRow : OpenClaim := { program := "ytddjgjaifflpeaadoor", sum := "bba1a3e3cfca84f16700b1ca63f8eb9c0397eb3230827796f4b99f69e94b63b7", func := "clepsydra/clepsydralaw04.StampMoves", spec := "stampMoves", inPlace := ["internal/bytealg.IndexByteString", "internal/bytealg.IndexString"], named := ["internal/bytealg.MaxLen", "unicode/utf8.first", "unicode/utf8.acceptRanges"], apart := false, laid := [("unicode/utf8.acceptRanges", laid_unicode_utf8_acceptRanges), ("unicode/utf8.first", laid_unicode_utf8_first)], narrowed := true }
def StampMovesUptoSaid : Prop := stampMovesUptoRow.holds Tryd.pinned (OpenSpec.upto stampMovesSpec)

/-- 'clepsydralaw04.StampExchanges', WHERE WHAT IT READS IS OF BULK AT MOST 1048576: true; the input reads as it did. -/
def stampExchangesUptoRow : OpenClaim := { program := "ytddjgjaifflpeaadoor", sum := "bba1a3e3cfca84f16700b1ca63f8eb9c0397eb3230827796f4b99f69e94b63b7", func := "clepsydra/clepsydralaw04.StampExchanges", spec := "stampExchanges", inPlace := ["internal/bytealg.IndexByteString", "internal/bytealg.IndexString"], named := ["internal/bytealg.MaxLen", "unicode/utf8.first", "unicode/utf8.acceptRanges"], apart := false, laid := [("unicode/utf8.acceptRanges", laid_unicode_utf8_acceptRanges), ("unicode/utf8.first", laid_unicode_utf8_first)], narrowed := true }
def StampExchangesUptoSaid : Prop := stampExchangesUptoRow.holds Tryd.pinned (OpenSpec.upto stampExchangesSpec)

/-- 'clepsydralaw04.StampShorts', WHERE WHAT IT READS IS OF BULK AT MOST 1048576: true; the input reads as it did. -/
def stampShortsUptoRow : OpenClaim := { program := "ytddjgjaifflpeaadoor", sum := "bba1a3e3cfca84f16700b1ca63f8eb9c0397eb3230827796f4b99f69e94b63b7", func := "clepsydra/clepsydralaw04.StampShorts", spec := "stampShorts", inPlace := ["internal/bytealg.IndexByteString", "internal/bytealg.IndexString"], named := ["internal/bytealg.MaxLen", "unicode/utf8.first", "unicode/utf8.acceptRanges"], apart := false, laid := [("unicode/utf8.acceptRanges", laid_unicode_utf8_acceptRanges), ("unicode/utf8.first", laid_unicode_utf8_first)], narrowed := true }
def StampShortsUptoSaid : Prop := stampShortsUptoRow.holds Tryd.pinned (OpenSpec.upto stampShortsSpec)

/-- 'clepsydralaw04.StampPrints', WHERE WHAT IT READS IS OF BULK AT MOST 1048576: true; the input reads as it did. -/
def stampPrintsUptoRow : OpenClaim := { program := "ytddjgjaifflpeaadoor", sum := "bba1a3e3cfca84f16700b1ca63f8eb9c0397eb3230827796f4b99f69e94b63b7", func := "clepsydra/clepsydralaw04.StampPrints", spec := "stampPrints", inPlace := ["internal/bytealg.IndexByteString", "internal/bytealg.IndexString"], recurses := true, named := ["internal/bytealg.MaxLen", "unicode/utf8.first", "unicode/utf8.acceptRanges"], apart := false, laid := [("unicode/utf8.acceptRanges", laid_unicode_utf8_acceptRanges), ("unicode/utf8.first", laid_unicode_utf8_first)], narrowed := true }
def StampPrintsUptoSaid : Prop := stampPrintsUptoRow.holds Tryd.pinned (OpenSpec.upto stampPrintsSpec)

/-- 'clepsydralaw04.StampThere', WHERE WHAT IT READS IS OF BULK AT MOST 1048576: true; the input reads as it did. -/
def stampThereUptoRow : OpenClaim := { program := "ytddjgjaifflpeaadoor", sum := "bba1a3e3cfca84f16700b1ca63f8eb9c0397eb3230827796f4b99f69e94b63b7", func := "clepsydra/clepsydralaw04.StampThere", spec := "stampThere", inPlace := ["internal/bytealg.IndexByteString", "internal/bytealg.IndexString"], named := ["internal/bytealg.MaxLen", "unicode/utf8.first", "unicode/utf8.acceptRanges"], apart := false, laid := [("unicode/utf8.acceptRanges", laid_unicode_utf8_acceptRanges), ("unicode/utf8.first", laid_unicode_utf8_first)], narrowed := true }
def StampThereUptoSaid : Prop := stampThereUptoRow.holds Tryd.pinned (OpenSpec.upto stampThereSpec)

/-- 'clepsydralaw04.StampBack', WHERE WHAT IT READS IS OF BULK AT MOST 1048576: true; the input reads as it did. -/
def stampBackUptoRow : OpenClaim := { program := "ytddjgjaifflpeaadoor", sum := "bba1a3e3cfca84f16700b1ca63f8eb9c0397eb3230827796f4b99f69e94b63b7", func := "clepsydra/clepsydralaw04.StampBack", spec := "stampBack", inPlace := ["internal/bytealg.IndexByteString", "internal/bytealg.IndexString"], named := ["unicode/utf8.first", "unicode/utf8.acceptRanges", "internal/bytealg.MaxLen"], apart := false, laid := [("unicode/utf8.acceptRanges", laid_unicode_utf8_acceptRanges), ("unicode/utf8.first", laid_unicode_utf8_first)], narrowed := true }
def StampBackUptoSaid : Prop := stampBackUptoRow.holds Tryd.pinned (OpenSpec.upto stampBackSpec)

/-- 'clepsydralaw04.StampShifts', WHERE WHAT IT READS IS OF BULK AT MOST 1048576: true; the input reads as it did. -/
def stampShiftsUptoRow : OpenClaim := { program := "ytddjgjaifflpeaadoor", sum := "bba1a3e3cfca84f16700b1ca63f8eb9c0397eb3230827796f4b99f69e94b63b7", func := "clepsydra/clepsydralaw04.StampShifts", spec := "stampShifts", inPlace := ["internal/bytealg.IndexByteString", "internal/bytealg.IndexString"], named := ["internal/bytealg.MaxLen", "unicode/utf8.first", "unicode/utf8.acceptRanges"], apart := false, laid := [("unicode/utf8.acceptRanges", laid_unicode_utf8_acceptRanges), ("unicode/utf8.first", laid_unicode_utf8_first)], narrowed := true }
def StampShiftsUptoSaid : Prop := stampShiftsUptoRow.holds Tryd.pinned (OpenSpec.upto stampShiftsSpec)

/-- 'clepsydralaw04.StampHalf', WHERE WHAT IT READS IS OF BULK AT MOST 1048576: true; the input reads as it did. -/
def stampHalfUptoRow : OpenClaim := { program := "ytddjgjaifflpeaadoor", sum := "bba1a3e3cfca84f16700b1ca63f8eb9c0397eb3230827796f4b99f69e94b63b7", func := "clepsydra/clepsydralaw04.StampHalf", spec := "stampHalf", inPlace := ["internal/bytealg.IndexByteString", "internal/bytealg.IndexString"], named := ["internal/bytealg.MaxLen", "unicode/utf8.first", "unicode/utf8.acceptRanges"], apart := false, laid := [("unicode/utf8.acceptRanges", laid_unicode_utf8_acceptRanges), ("unicode/utf8.first", laid_unicode_utf8_first)], narrowed := true }
def StampHalfUptoSaid : Prop := stampHalfUptoRow.holds Tryd.pinned (OpenSpec.upto stampHalfSpec)

end Rows
end Go.Proofs.YtddjgjaifflpeaaDoor
