/- filter: the insertion sort of the library, laid at this program; samples held against each other. -/
import Derived.Test.YtbkcoijcoacbaaaFiF6
import Derived.Shelf.SlSortCmp.InsertionK
namespace Go.Proofs.Ytbkcoijcoacbaaa.Fi
open Go.RowKit Go.Sort Go.Shelf Go.Lib
set_option linter.unusedVariables false
set_option linter.unusedSimpArgs false
set_option maxRecDepth 100000

def insRen : Ren := ⟨fun | 20 => 70 | n => n, fun | 24 => 34 | 22 => 72 | 25 => 95 | n => n, fun n => n⟩
theorem insLaid : SlLaysF0.n20 Try.prog insRen :=
  { mixed := by kernel_rfl
    f20 := ⟨Try.f70.name, by decide, Try.func70.trans (congrArg some (by kernel_rfl))⟩
    t0 := Try.underlying0, a0 := Try.isAgg0, z0 := Try.sizeOf0, v0 := Try.zeroValue0, t3 := Try.underlying3
    a3 := Try.isAgg3, z3 := Try.sizeOf3, v3 := Try.zeroValue3, t4 := Try.underlying4, a4 := Try.isAgg4, z4 := Try.sizeOf4
    v4 := Try.zeroValue4, t22 := Try.underlying72, a22 := Try.isAgg72, z22 := Try.sizeOf72, v22 := Try.zeroValue72
    t25 := Try.underlying95, a25 := Try.isAgg95, z25 := Try.sizeOf95, v25 := Try.zeroValue95 }
/-- samples by their distances -/
def cfS (now : Int) (x y : S4) : Int := cmpI (x.dist now) (y.dist now)
theorem compare_grow (x y : Int) (w : World) : Calls Try.prog 47 #[.int .i64 x, .int .i64 y] w fun e w' => e = .returned (.int .i64 (cmpI x y)) ∧ ∃ q os', w' = grow (w.drewN q) os' := by
  refine (compare_any x y w).mono ?_
  rintro e w ⟨rfl, rfl⟩
  exact ⟨rfl, 0, #[], by rw [grow_empty]; rfl⟩
set_option maxHeartbeats 2000000 in
theorem closure_any {bn : Nat} {now : Int} (x y : S4) (W : World) (hn : W.cell? ⟨bn, 0, none⟩ = some (.int .i64 now)) (hb : bn < W.heap.size) :
    Calls Try.prog 46 #[x.val, y.val, .pointer (some ⟨bn, 0, none⟩)] W fun e w' => e = .returned (.int .i64 (cfS now x y)) ∧ ∃ q os', w' = grow (W.drewN q) os' := by
  obtain ⟨w1, hw1⟩ : ∃ w1, w1 = W.alloc (.cells #[.int .i64 x.o, .int .i64 x.d, .int .i64 x.p, .int .i64 x.a] 34) := ⟨_, rfl⟩
  have x1 : Box w1 W.heap.size x := by rw [hw1]; exact World.alloc_heap_new W _
  obtain ⟨w2, hw2⟩ : ∃ w2, w2 = w1.alloc (.cells #[.int .i64 y.o, .int .i64 y.d, .int .i64 y.p, .int .i64 y.a] 34) := ⟨_, rfl⟩
  have x2 : Box w2 W.heap.size x := by rw [hw2]; exact (Below.heap_alloc _ _ _ x1.lt).trans x1
  have y2 : Box w2 (W.heap.size + 1) y := by rw [hw2, show W.heap.size + 1 = w1.heap.size by rw [hw1]; simp]; exact World.alloc_heap_new w1 _
  have n2 : w2.cell? ⟨bn, 0, none⟩ = some (.int .i64 now) := by
    rw [hw2, hw1]
    have e : ((W.alloc (.cells #[.int .i64 x.o, .int .i64 x.d, .int .i64 x.p, .int .i64 x.a] 34)).alloc (.cells #[.int .i64 y.o, .int .i64 y.d, .int .i64 y.p, .int .i64 y.a] 34)).heap[bn]? = W.heap[bn]? := (Below.heap_alloc _ _ _ (by simp; omega)).trans (Below.heap_alloc _ _ _ hb)
    exact (World.cell?_of_block e).trans hn
  have hb2 : bn < w2.heap.size := by rw [hw2, hw1]; simp; omega
  have hx := fun (n : Nat) (os : Array Obj) => (x2.grown n os).cells
  have hy := fun (n : Nat) (os : Array Obj) => (y2.grown n os).cells
  have c0 := fun n os => (hx n os).1
  have c1 := fun n os => (hx n os).2.1
  have c2 := fun n os => (hx n os).2.2.1
  have c3 := fun n os => (hx n os).2.2.2
  have d0 := fun n os => (hy n os).1
  have d1 := fun n os => (hy n os).2.1
  have d2 := fun n os => (hy n os).2.2.1
  have d3 := fun n os => (hy n os).2.2.2
  have nn := fun (n : Nat) (os : Array Obj) => cell_grown (w := w2) (a := ⟨bn, 0, none⟩) hb2 n2 n os
  have HX := Lib.hid (fun w => dist_any x now w)
  have HY := Lib.hid (fun w => dist_any y now w)
  have HC := Lib.hid (fun w => compare_grow (x.dist now) (y.dist now) w)
  have HW := Lib.hid (show ∃ os, w2 = grow W os from ⟨_, by rw [hw2, hw1, alloc_eq_grow, alloc_eq_grow, grow_grow]⟩)
  have HWw := Lib.hid (show w2 = (W.alloc (.cells #[.int .i64 x.o, .int .i64 x.d, .int .i64 x.p, .int .i64 x.a] 34)).alloc (.cells #[.int .i64 y.o, .int .i64 y.d, .int .i64 y.p, .int .i64 y.a] 34) by rw [hw2, hw1])
  clear hx hy hw1 hw2 x1 x2 y2 n2 hb2 hn hb
  unfold cfS
  unfold S4.val at HX HY ⊢
  generalize x.dist now = dx at *
  generalize y.dist now = dy at *
  generalize cmpI dx dy = r at *
  have mixed : Try.prog.follows .mixedOrders = true := by kernel_rfl
  go_enter Try.func46, Try.ntmps46
  go_upto_region 1 with fail
  rw [← HWw.out]
  go_quiet_grown (first
    | (go_at_call 48; with_reducible exact Calls.grown_of (HX.out _))
    | (go_at_call 48; with_reducible exact Calls.grown_of (HY.out _))
    | (go_at_call 47; with_reducible exact Calls.grown_of (HC.out _)))
  all_goals go_wp2_with fail
  all_goals go_ret
  obtain ⟨os, ho⟩ := HW.out
  refine ⟨rfl, nq, os ++ osq, ?_⟩
  rw [ho]
  exact grow_grow (W.drewN nq) os osq
end Go.Proofs.Ytbkcoijcoacbaaa.Fi
