/-
  No cell of these rows narrows 'for every input' (looked for: loops, veiled, ifaces, maps, wideKeys, modest, calm, conditions, laid).
  DERIVED. THE GIVEN ROWS OF THIS SEAT. 5 by the template 'for every input the law returns true; each argument reads behind the call as it read before'; 0 by the template 'total and deterministic' (their statements: YtofieoklcegddaaTotals.lean).
  GIVEN WITH THE SEED: the statements are not yours to turn. If you find one false, say at which input.
  Laid BY PROGRAM, IN A SANDBOX (cutbox-rows.mjs): the forced cells as the released guide's own fill.sh prints them over the translation 3ce93c978384c651… (all of the seat's roots in one cut). By AI agents, Wed Nov 11 2026. No macro, syntax, notation, axiom, sorry.
-/
import Derived.Test.YtofieoklcegddaaChecked
import GoSem.Claim
import GoSem.ClaimJoined
import GoSem.ClaimMapViews
import Derived.JoinedTies
import Derived.KernelRfl
namespace Go.Proofs.Ytofieoklcegddaa
/- THE CELL 'sum', in the pinned program and in every row, IS THE sha256 OF THE DUMP (.gsa) THAT YtofieoklcegddaaProg.lean LOADS. Nothing in Lean hashes anything: it is a label: what it is worth is what the hold of that sum in a sandbox is worth. -/
noncomputable def Try.pinned : Pinned := { name := "ytofieoklcegddaa", sum := "3ce93c978384c651ab48175fb6746aec4dc6d178bad4e2366cfa3026240105ca", checked := Try.checked }
namespace Rows
def none {H : Type} : Left H := { results := [], args := [] }

/-- 'clepsydralaw14.FilterTells': WHATEVER THE INPUT: true; the input reads as it did. -/
def filterTellsSpec : ChangeSpec := { name := "filterTells", fn := fun _ => fun
  | [d1, d2, d3] => { results := [.lit (.bool true)], args := [d1, d2, d3] }
  | _ => none }
def filterTellsRow : OpenClaim := { program := "ytofieoklcegddaa", sum := "3ce93c978384c651ab48175fb6746aec4dc6d178bad4e2366cfa3026240105ca", func := "clepsydra/clepsydralaw14.FilterTells", spec := "filterTells", unfollowed := true, recurses := true, apart := false }
def FilterTellsSaid : Prop := filterTellsRow.holds Try.pinned (OpenSpec.ofChange filterTellsSpec)

/-- ITS FALSE NEIGHBOUR: 'it returns false'. Refute it at one input. -/
def filterTellsWrong : ChangeSpec := { name := "filterTells", fn := fun _ => fun
  | [d1, d2, d3] => { results := [.lit (.bool false)], args := [d1, d2, d3] }
  | _ => none }
def FilterTellsWrongFalsely : Prop := filterTellsRow.holds Try.pinned (OpenSpec.ofChange filterTellsWrong)

/-- 'clepsydralaw14.FilterForgets': WHATEVER THE INPUT: true; the input reads as it did. -/
def filterForgetsSpec : ChangeSpec := { name := "filterForgets", fn := fun _ => fun
  | [d1, d2, d3, d4] => { results := [.lit (.bool true)], args := [d1, d2, d3, d4] }
  | _ => none }
def filterForgetsRow : OpenClaim := { program := "ytofieoklcegddaa", sum := "3ce93c978384c651ab48175fb6746aec4dc6d178bad4e2366cfa3026240105ca", func := "clepsydra/clepsydralaw14.FilterForgets", spec := "filterForgets", unfollowed := true, recurses := true, apart := false }
def FilterForgetsSaid : Prop := filterForgetsRow.holds Try.pinned (OpenSpec.ofChange filterForgetsSpec)

/-- ITS FALSE NEIGHBOUR: 'it returns false'. Refute it at one input. -/
def filterForgetsWrong : ChangeSpec := { name := "filterForgets", fn := fun _ => fun
  | [d1, d2, d3, d4] => { results := [.lit (.bool false)], args := [d1, d2, d3, d4] }
  | _ => none }
def FilterForgetsWrongFalsely : Prop := filterForgetsRow.holds Try.pinned (OpenSpec.ofChange filterForgetsWrong)

/-- 'clepsydralaw14.FilterLeast': WHATEVER THE INPUT: true; the input reads as it did. -/
def filterLeastSpec : ChangeSpec := { name := "filterLeast", fn := fun _ => fun
  | [d1, d2] => { results := [.lit (.bool true)], args := [d1, d2] }
  | _ => none }
def filterLeastRow : OpenClaim := { program := "ytofieoklcegddaa", sum := "3ce93c978384c651ab48175fb6746aec4dc6d178bad4e2366cfa3026240105ca", func := "clepsydra/clepsydralaw14.FilterLeast", spec := "filterLeast", unfollowed := true, recurses := true, apart := false }
def FilterLeastSaid : Prop := filterLeastRow.holds Try.pinned (OpenSpec.ofChange filterLeastSpec)

/-- ITS FALSE NEIGHBOUR: 'it returns false'. Refute it at one input. -/
def filterLeastWrong : ChangeSpec := { name := "filterLeast", fn := fun _ => fun
  | [d1, d2] => { results := [.lit (.bool false)], args := [d1, d2] }
  | _ => none }
def FilterLeastWrongFalsely : Prop := filterLeastRow.holds Try.pinned (OpenSpec.ofChange filterLeastWrong)

/-- 'clepsydralaw14.FilterTrue': WHATEVER THE INPUT: true; the input reads as it did. -/
def filterTrueSpec : ChangeSpec := { name := "filterTrue", fn := fun _ => fun
  | [d1, d2, d3] => { results := [.lit (.bool true)], args := [d1, d2, d3] }
  | _ => none }
def filterTrueRow : OpenClaim := { program := "ytofieoklcegddaa", sum := "3ce93c978384c651ab48175fb6746aec4dc6d178bad4e2366cfa3026240105ca", func := "clepsydra/clepsydralaw14.FilterTrue", spec := "filterTrue", unfollowed := true, recurses := true, apart := false }
def FilterTrueSaid : Prop := filterTrueRow.holds Try.pinned (OpenSpec.ofChange filterTrueSpec)

/-- ITS FALSE NEIGHBOUR: 'it returns false'. Refute it at one input. -/
def filterTrueWrong : ChangeSpec := { name := "filterTrue", fn := fun _ => fun
  | [d1, d2, d3] => { results := [.lit (.bool false)], args := [d1, d2, d3] }
  | _ => none }
def FilterTrueWrongFalsely : Prop := filterTrueRow.holds Try.pinned (OpenSpec.ofChange filterTrueWrong)

/-- 'clepsydralaw14.FilterLives': WHATEVER THE INPUT: true; the input reads as it did. -/
def filterLivesSpec : ChangeSpec := { name := "filterLives", fn := fun _ => fun
  | [d1, d2, d3] => { results := [.lit (.bool true)], args := [d1, d2, d3] }
  | _ => none }
def filterLivesRow : OpenClaim := { program := "ytofieoklcegddaa", sum := "3ce93c978384c651ab48175fb6746aec4dc6d178bad4e2366cfa3026240105ca", func := "clepsydra/clepsydralaw14.FilterLives", spec := "filterLives", unfollowed := true, recurses := true, apart := false }
def FilterLivesSaid : Prop := filterLivesRow.holds Try.pinned (OpenSpec.ofChange filterLivesSpec)

/-- ITS FALSE NEIGHBOUR: 'it returns false'. Refute it at one input. -/
def filterLivesWrong : ChangeSpec := { name := "filterLives", fn := fun _ => fun
  | [d1, d2, d3] => { results := [.lit (.bool false)], args := [d1, d2, d3] }
  | _ => none }
def FilterLivesWrongFalsely : Prop := filterLivesRow.holds Try.pinned (OpenSpec.ofChange filterLivesWrong)

/- THE SECOND FORM. 'bulk': how many values and letters a reading holds, each counted each time it is reached (what is shared counts as often as it is met; a slice's spare places count too). A statement '..UptoSaid' is the law's where the arguments, and the package variables that the reading takes, are together of bulk at most 1048576: NARROWER than '..Said'. Prove '..Said' where nothing that the law and all that it calls make is longer than what came in: it says more and counts as full. Else prove '..UptoSaid'. A law counts once. -/
mutual
def uptoBulk {H : Type} : DataW H → Nat
  | .lit (.string bytes) => bytes.length + 1
  | .lit _ => 1
  | .nil => 1
  | .ptr d => uptoBulk d + 1
  | .slice elems spare => uptoBulkAll elems + uptoBulkAll spare + 1
  | .agg parts => uptoBulkAll parts + 1
  | .iface _ d => uptoBulk d + 1
  | .map entries => uptoBulkEntries entries + 1
  | .held _ => 1
def uptoBulkAll {H : Type} : List (DataW H) → Nat
  | [] => 0
  | d :: r => uptoBulk d + uptoBulkAll r
def uptoBulkEntries {H : Type} : List (Lit × DataW H) → Nat
  | [] => 0
  | x :: r => uptoBulkEntry x + uptoBulkEntries r
def uptoBulkEntry {H : Type} : Lit × DataW H → Nat
  | (.string bytes, d) => bytes.length + uptoBulk d + 1
  | (_, d) => uptoBulk d + 1
 end
def uptoSmall : (H : Type) → List (DataW H) → Bool := fun _ ds => decide (uptoBulkAll ds ≤ 1048576)
def OpenSpec.upto (s : _root_.Go.ChangeSpec) : _root_.Go.OpenSpec := { _root_.Go.OpenSpec.ofChange s with cond := some uptoSmall }

/-- 'clepsydralaw14.FilterTells', WHERE WHAT IT READS IS OF BULK AT MOST 1048576: true; the input reads as it did. -/
def filterTellsUptoRow : OpenClaim := { program := "ytofieoklcegddaa", sum := "3ce93c978384c651ab48175fb6746aec4dc6d178bad4e2366cfa3026240105ca", func := "clepsydra/clepsydralaw14.FilterTells", spec := "filterTells", unfollowed := true, recurses := true, apart := false, narrowed := true }
def FilterTellsUptoSaid : Prop := filterTellsUptoRow.holds Try.pinned (OpenSpec.upto filterTellsSpec)

/-- 'clepsydralaw14.FilterForgets', WHERE WHAT IT READS IS OF BULK AT MOST 1048576: true; the input reads as it did. -/
def filterForgetsUptoRow : OpenClaim := { program := "ytofieoklcegddaa", sum := "3ce93c978384c651ab48175fb6746aec4dc6d178bad4e2366cfa3026240105ca", func := "clepsydra/clepsydralaw14.FilterForgets", spec := "filterForgets", unfollowed := true, recurses := true, apart := false, narrowed := true }
def FilterForgetsUptoSaid : Prop := filterForgetsUptoRow.holds Try.pinned (OpenSpec.upto filterForgetsSpec)

/-- 'clepsydralaw14.FilterLeast', WHERE WHAT IT READS IS OF BULK AT MOST 1048576: true; the input reads as it did. -/
def filterLeastUptoRow : OpenClaim := { program := "ytofieoklcegddaa", sum := "3ce93c978384c651ab48175fb6746aec4dc6d178bad4e2366cfa3026240105ca", func := "clepsydra/clepsydralaw14.FilterLeast", spec := "filterLeast", unfollowed := true, recurses := true, apart := false, narrowed := true }
def FilterLeastUptoSaid : Prop := filterLeastUptoRow.holds Try.pinned (OpenSpec.upto filterLeastSpec)

/-- 'clepsydralaw14.FilterTrue', WHERE WHAT IT READS IS OF BULK AT MOST 1048576: true; the input reads as it did. -/
def filterTrueUptoRow : OpenClaim := { program := "ytofieoklcegddaa", sum := "3ce93c978384c651ab48175fb6746aec4dc6d178bad4e2366cfa3026240105ca", func := "clepsydra/clepsydralaw14.FilterTrue", spec := "filterTrue", unfollowed := true, recurses := true, apart := false, narrowed := true }
def FilterTrueUptoSaid : Prop := filterTrueUptoRow.holds Try.pinned (OpenSpec.upto filterTrueSpec)

/-- 'clepsydralaw14.FilterLives', WHERE WHAT IT READS IS OF BULK AT MOST 1048576: true; the input reads as it did. -/
def filterLivesUptoRow : OpenClaim := { program := "ytofieoklcegddaa", sum := "3ce93c978384c651ab48175fb6746aec4dc6d178bad4e2366cfa3026240105ca", func := "clepsydra/clepsydralaw14.FilterLives", spec := "filterLives", unfollowed := true, recurses := true, apart := false, narrowed := true }
def FilterLivesUptoSaid : Prop := filterLivesUptoRow.holds Try.pinned (OpenSpec.upto filterLivesSpec)

end Rows
end Go.Proofs.Ytofieoklcegddaa
