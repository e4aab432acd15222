/- wire: the two boxes of a packet that was read; guarded loads of structs. -/
import Derived.Test.YthflafcjinpmnaaR16
import Derived.Test.YthflafcjinpmnaaR13
import Derived.Test.YthflafcjinpmnaaS4
import Derived.Laws.StructEq
namespace Go.Proofs.Ythflafcjinpmnaa
open Go.RowKit
set_option linter.unusedVariables false
set_option maxRecDepth 100000
theorem bx_x (w : World) : ((w.alloc (.cells #[.int .i64 0, .int .i64 0, .int .i64 0, .int .i64 0, .int .i64 0, .int .i64 0, .int .u32 0, .int .u32 0, .int .u32 0, .int .u64 0, .int .u64 0, .int .u64 0, .int .u64 0, .slice none 0 0, .bool false, .int .u32 0, .slice none 0 0] 29)).alloc (.cells #[.int .i64 0, .int .i64 0] 39)).heap[w.heap.size]? = some (.cells (pkC pk0) 29 (0, 0)) := (Below.heap_alloc _ _ _ (by simp)).trans (heap_alloc_new w _)
theorem bx_y (w : World) (p : Pk) : (((w.alloc (.cells #[.int .i64 0, .int .i64 0, .int .i64 0, .int .i64 0, .int .i64 0, .int .i64 0, .int .u32 0, .int .u32 0, .int .u32 0, .int .u64 0, .int .u64 0, .int .u64 0, .int .u64 0, .slice none 0 0, .bool false, .int .u32 0, .slice none 0 0] 29)).alloc (.cells #[.int .i64 0, .int .i64 0] 39)).setRow w.heap.size (pkC p)).heap[w.heap.size + 1]? = some (.cells (flC 0 0) 39 (0, 0)) := by
  refine (setRow_other _ _ _ _ (by omega)).trans ?_
  have h := heap_alloc_new (w.alloc (.cells #[.int .i64 0, .int .i64 0, .int .i64 0, .int .i64 0, .int .i64 0, .int .i64 0, .int .u32 0, .int .u32 0, .int .u32 0, .int .u64 0, .int .u64 0, .int .u64 0, .int .u64 0, .slice none 0 0, .bool false, .int .u32 0, .slice none 0 0] 29)) (.cells #[.int .i64 0, .int .i64 0] 39)
  rw [show (w.alloc (.cells #[.int .i64 0, .int .i64 0, .int .i64 0, .int .i64 0, .int .i64 0, .int .i64 0, .int .u32 0, .int .u32 0, .int .u32 0, .int .u64 0, .int .u64 0, .int .u64 0, .int .u64 0, .slice none 0 0, .bool false, .int .u32 0, .slice none 0 0] 29)).heap.size = w.heap.size + 1 by simp] at h
  exact h
/-- the world behind the boxes of what was read -/
def bx (w : World) (p : Pk) (a k : Nat) : World := (((w.alloc (.cells #[.int .i64 0, .int .i64 0, .int .i64 0, .int .i64 0, .int .i64 0, .int .i64 0, .int .u32 0, .int .u32 0, .int .u32 0, .int .u64 0, .int .u64 0, .int .u64 0, .int .u64 0, .slice none 0 0, .bool false, .int .u32 0, .slice none 0 0] 29)).alloc (.cells #[.int .i64 0, .int .i64 0] 39)).setRow w.heap.size (pkC p)).setRow (w.heap.size + 1) (flC a k)
theorem bx_def (w : World) (p : Pk) (a k : Nat) : (((w.alloc (.cells #[.int .i64 0, .int .i64 0, .int .i64 0, .int .i64 0, .int .i64 0, .int .i64 0, .int .u32 0, .int .u32 0, .int .u32 0, .int .u64 0, .int .u64 0, .int .u64 0, .int .u64 0, .slice none 0 0, .bool false, .int .u32 0, .slice none 0 0] 29)).alloc (.cells #[.int .i64 0, .int .i64 0] 39)).setRow w.heap.size (pkC p)).setRow (w.heap.size + 1) (flC a k) = bx w p a k := rfl
theorem bx_at (w : World) (p : Pk) (a k : Nat) : PBox (bx w p a k) w.heap.size p ∧ (bx w p a k).heap[w.heap.size + 1]? = some (.cells (flC a k) 39 (0, 0)) ∧ RowKit.Below w.heap.size w (bx w p a k) ∧ (bx w p a k).heap.size = w.heap.size + 2 := by
  refine ⟨?_, ?_, ?_, ?_⟩
  · exact (setRow_other _ _ _ _ (by omega)).trans (setRow_heap _ _ _ _ _ _ (bx_x w))
  · exact setRow_heap _ _ _ _ _ _ (bx_y w p)
  · exact below_setRow (below_setRow (((Below.refl _ _).alloc (Nat.le_refl _) _).alloc (by simp) _) (Nat.le_refl _) _) (by omega) _
  · simp [bx, World.setRow]
theorem fl_cells {w : World} {g : Nat} {a k : Nat} (h : w.heap[g]? = some (.cells (flC a k) 39 (0, 0))) : w.cell? ⟨g, 0, none⟩ = some (.int .i64 a) ∧ w.cell? ⟨g, 1, none⟩ = some (.int .i64 k) :=
  ⟨by rw [cell_of_row w g 0 _ 39 (0, 0) h]; rfl, by rw [cell_of_row w g 1 _ 39 (0, 0) h]; rfl⟩
theorem wpList_load_row_g {P : Program} {ops : Array Oper} {rest : List Oper} {o : Oper} {a : Act} {w : World} {Q : Exit → Act → World → Prop} (hw : Region.wanted o (yielded ops a.tmps) = true) (ty : TypeId) (x : Operand) (ho : o.op = .load ty x)
    (g : Nat) (hx : a.eval x = .pointer (some ⟨g, 0, none⟩)) (t : TypeId) (cs : Array Value) (fr : Nat × Nat) (d : TypeDesc) (hg : w.heap[g]? = some (.cells cs t fr))
    (hu : P.underlying ty = some d) (hd : (match d with | .struct _ | .array _ _ => true | _ => false) = true) (hi : (P.info? ty).map (·.size) = some cs.size)
    (h : wpList P ops Q rest (a.put o.dst (.agg cs)) w) : wpList P ops Q (o :: rest) a w :=
  wpList_step fun _ hK => by rw [if_pos hw]; exact wp_load_row ty x ho g hx t cs fr d hg hu hd hi (hK _ _ h)
theorem equal39 (a k b j : Int) (w : World) : (Op.equalIn 10000 39 (flV a k) (flV b j)).run Try.prog w = .ok (a == b && k == j) w := by
  have u3 := Try.underlying3
  have a3 := Try.isAgg3
  have z3 := Try.sizeOf3
  have u33 := Try.underlying33
  have a33 := Try.isAgg33
  have z33 := Try.sizeOf33
  have hS : Try.prog.underlying 39 = some (.struct (Try.prog.fieldsOf 39)) := by kernel_rfl
  have hp : Try.prog.stoodInHeld 39 = false := by kernel_rfl
  rw [show (10000 : Nat) = 9999 + 1 from rfl, run_equalIn_agg w 9999 39 _ _ hS hp]
  simp only [Program.fieldsOf, Try.underlying39]
  go_simp
  by_cases h1 : a = b <;> by_cases h2 : k = j <;> simp [h1, h2]
theorem guard39 : Try.prog.eqGuardType Try.prog.depth 39 = false := by kernel_rfl
theorem run_guard39 (op : BinOp) (a b : Operand) (xs ys : Array Value) (w : World) : (eqGuard op 39 a b (.agg xs) (.agg ys)).run Try.prog w = .ok () w := run_eqGuard_agg w op 39 a b xs ys guard39
end Go.Proofs.Ythflafcjinpmnaa
