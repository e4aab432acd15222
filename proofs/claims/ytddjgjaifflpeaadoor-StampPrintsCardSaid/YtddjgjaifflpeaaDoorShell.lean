/- What the statements' frames share. -/
import Derived.Test.YtddjgjaifflpeaaDoorRows
import Derived.Test.YtddjgjaifflpeaaDoorCards
import Derived.Test.YtddjgjaifflpeaaDoorTie
import Derived.Test.YtddjgjaifflpeaaDoorAlive
import Derived.ProofKit
import Derived.LaidMore
import Derived.Lay
import Derived.OpenShut
import Derived.ShutString
import Derived.ChangeOld
import Derived.Stop.Joined
import Derived.SevenTiedAt
import Derived.SizedLaws
namespace Go.Proofs.YtddjgjaifflpeaaDoor
open Go.ChangeShapes Go.WideShapes Go.ChangeAt Go.RowKit
set_option linter.unusedVariables false
set_option maxRecDepth 100000

theorem own : ownKnob Tryd.prog.godebug = none := by kernel_rfl
theorem laidOut : laidOutB Tryd.prog = true := by kernel_rfl
end Go.Proofs.YtddjgjaifflpeaaDoor
