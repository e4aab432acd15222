/- A region whose first operations are calls: the rest by the library's walk for large frames. -/
import Derived.Test.YtnkkjfkchmlogaaDoorText
import Derived.BigRegion
namespace Go.Proofs.YtnkkjfkchmlogaaDoor
open Lean Elab Tactic Meta in
/-- From a goal 'wpAny ..' of a region whose first k operations have come up: the large frame's walk over the rest. -/
elab "go_big_rest " k:num : tactic => withMainContext do
  let g ← getMainGoal
  let t := (← instantiateMVars (← g.getType)).consumeMData
  unless t.isAppOfArity ``wpAny 8 do throwError "go_big_rest: no wpAny"
  let args := t.getAppArgs
  let (P, md, ops, Q, a, w) := (args[0]!, args[1]!, args[2]!, args[3]!, args[6]!, args[7]!)
  let some opsL := Go.listElems (ops.getArg! 1) | throwError "go_big_rest: the region is not written out"
  let R : BigFrame.RegionAt := { P, md, ops, Q, opsL := opsL.toArray, opsV := ← BigFrame.opsValue ops, blind := true, seen := ← IO.mkRef {} }
  let n := opsL.length
  let mut listed := Array.replicate n false
  for i in [0:k.getNat] do listed := listed.setIfInBounds i true
  let h ← mkFreshExprSyntheticOpaqueMVar (← BigFrame.goalAt R (n - k.getNat) listed a w) (← g.getTag)
  g.assign (← mkExpectedTypeHint h t)
  let gs ← BigFrame.regionWalk' R h.mvarId! (n - k.getNat) listed a w
  replaceMainGoal gs

end Go.Proofs.YtnkkjfkchmlogaaDoor
