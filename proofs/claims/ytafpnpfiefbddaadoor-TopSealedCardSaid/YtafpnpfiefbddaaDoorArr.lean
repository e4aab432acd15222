/- A whole array that is read out of a block, or stored into one. -/
import Derived.Test.YtafpnpfiefbddaaDoorWords
import Derived.Laws.CopyRow
import Derived.Laws.Rows
namespace Go.Proofs.YtafpnpfiefbddaaDoor
set_option linter.unusedSimpArgs false
set_option linter.unusedVariables false
open Go.RowKit
set_option linter.unusedVariables false

theorem run_storeVar_row {P : Program} (w : World) (g : Nat) (ty : TypeId) (cs : List Value) (t : TypeId) (cur : Array Value) (hg : w.heap[g]? = some (.cells cur t (0, 0)))
    (h1 : ∀ v ∈ cs, v.oneCell' = true) (hs : cs.length = cur.size) (hi : (P.info? ty).map (·.size) = some cs.length) :
    (storeVar ty ⟨g, 0, none⟩ (.agg cs.toArray)).run P w = .ok () (w.setRow g cs.toArray) := by
  cases hq : P.info? ty with
  | none => simp [hq] at hi
  | some i =>
    have hsz : i.size = cs.length := by simpa [hq] using hi
    have hst := run_storeCells_at (P := P) g 0 t cs 0 cur w hg (by omega) h1
    have e : (List.take (0 + 0) cur.toList ++ cs ++ List.drop (0 + 0 + cs.length) cur.toList).toArray = cs.toArray := by
      rw [List.drop_eq_nil_of_le (by simp; omega)]; simp
    rw [e] at hst
    simp [storeVar, Sem.run_bind, sizeOf, typeInfo, hq, hsz, Value.cells, hst]
theorem wpList_store_row {P : Program} {ops : Array Oper} {rest : List Oper} {o : Oper} {a : Act} {w : World} {Q : Exit → Act → World → Prop} (hgd : o.guard = none) (hd : o.dst = none) (ty : TypeId) (x v : Operand) (ho : o.op = .store ty x v)
    (g : Nat) (hx : a.eval x = .pointer (some ⟨g, 0, none⟩)) (cs : List Value) (hv : a.eval v = .agg cs.toArray) (t : TypeId) (cur : Array Value) (hg : w.heap[g]? = some (.cells cur t (0, 0)))
    (h1 : ∀ v ∈ cs, v.oneCell' = true) (hs : cs.length = cur.size) (hi : (P.info? ty).map (·.size) = some cs.length)
    (h : wpList P ops Q rest a (w.setRow g cs.toArray)) : wpList P ops Q (o :: rest) a w := by
  refine wpList_plain hgd fun K hK => ?_
  unfold Oper.wp execOp
  simp only [ho, hx, hv, Instr.storeAt, Instr.sureAddr, Sem.run_bind, Sem.run_pure, Result.andThen_ok, run_storeVar_row w g ty cs t cur hg h1 hs hi]
  have := hK _ _ h
  simpa [Oper.upon, hd, Act.put] using this
end Go.Proofs.YtafpnpfiefbddaaDoor
