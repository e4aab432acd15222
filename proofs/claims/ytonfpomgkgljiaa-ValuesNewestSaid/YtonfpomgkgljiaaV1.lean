/- A map of one sort or none: what look-ups and stores do. -/
import Derived.Test.YtonfpomgkgljiaaProg
import Derived.WalkKit
import Derived.Below
import Derived.Laws.CopyOwn
import Derived.Deep.QuietTactic
import Derived.BigQuiet
import Derived.Lib.Hide
import Derived.RangeFuncBox
namespace Go.Proofs.Ytonfpomgkgljiaa
open Go.RowKit
set_option linter.unusedVariables false
set_option linter.unusedSimpArgs false
set_option maxRecDepth 100000

def zeroV : Value := .agg #[.int .u32 0, .int .u32 0, .slice none 0 0, .slice none 0 0]
theorem run_getObj {P : Program} {w : World} {m : Nat} {es : Array MapEntry} {c : Nat} (h : w.heap[m]? = some (.map es c)) : (getObj m).run P w = .ok (.map es c) w := by simp [getObj, Sem.run, h]
theorem run_setObj {P : Program} {w : World} {m : Nat} {es : Array MapEntry} {c : Nat} (o' : Obj) (h : w.heap[m]? = some (.map es c)) : (setObj m o').run P w = .ok () (w.putObj m o') := by simp [setObj, Sem.run, h, World.putObj]
theorem run_zero33 (w : World) : (zeroValue 33).run Try.prog w = .ok zeroV w := by kernel_rfl
theorem run_check (b : Bool) (k : Int) (w : World) : (Instr.checkKey b 10000 3 (.int .i64 k)).run Try.prog w = .ok () w := by
  unfold Instr.checkKey
  simp only [Sem.run_bind, run_underlying Try.underlying3, Result.andThen]
  rfl
theorem look_empty {w : World} {m c : Nat} (h : w.heap[m]? = some (.map #[] c)) (k : Int) : (Instr.lookup 49 (.map (some m)) (.int .i64 k) true).run Try.prog w = .ok (.tuple #[zeroV, .bool false]) w := by
  simp only [Instr.lookup, Sem.run_bind, run_underlying Try.underlying49, Result.andThen, run_getObj h, Sem.run_pure, run_check, Instr.findKey, run_underlying Try.underlying3, Instr.findNow, run_zero33, if_true]
theorem look_one {w : World} {m c b : Nat} {k0 : Int} {v : Value} (h : w.heap[m]? = some (.map #[⟨.int .i64 k0, v, b⟩] c)) (k : Int) : (Instr.lookup 49 (.map (some m)) (.int .i64 k) true).run Try.prog w = .ok (if k = k0 then .tuple #[v, .bool true] else .tuple #[zeroV, .bool false]) w := by
  by_cases hk : k = k0
  · subst hk
    simp [Instr.lookup, Sem.run_bind, run_underlying Try.underlying49, Result.andThen, run_getObj h, Sem.run_pure, run_check, Instr.findKey, run_underlying Try.underlying3, Instr.findNow, Instr.sameNow]
  · have hb : (k == k0) = false := by simp [hk]
    simp [Instr.lookup, Sem.run_bind, run_underlying Try.underlying49, Result.andThen, run_getObj h, run_check, Instr.findKey, run_underlying Try.underlying3, Instr.findNow, Instr.sameNow, hb, hk, zeroV]
theorem put_empty {w : World} {m c : Nat} (h : w.heap[m]? = some (.map #[] c)) (k : Int) (v : Value) : (Instr.mapUpdate 49 (.map (some m)) (.int .i64 k) v).run Try.prog w = .ok () (w.putObj m (.map #[⟨.int .i64 k, v, c⟩] (c + 1))) := by
  simp [Instr.mapUpdate, Sem.run_bind, run_underlying Try.underlying49, Result.andThen, run_getObj h, run_setObj _ h, run_check, Instr.findKey, run_underlying Try.underlying3, Instr.findNow]
theorem put_one {w : World} {m c b : Nat} {k : Int} {v0 : Value} (h : w.heap[m]? = some (.map #[⟨.int .i64 k, v0, b⟩] c)) (v : Value) : (Instr.mapUpdate 49 (.map (some m)) (.int .i64 k) v).run Try.prog w = .ok () (w.putObj m (.map #[⟨.int .i64 k, v, b⟩] c)) := by
  simp [Instr.mapUpdate, Sem.run_bind, run_underlying Try.underlying49, Result.andThen, run_getObj h, run_setObj _ h, run_check, Instr.findKey, run_underlying Try.underlying3, Instr.findNow, Instr.sameNow, Instr.keyThatStays, Instr.sameBits]
end Go.Proofs.Ytonfpomgkgljiaa
