/- filter: the insertion sort of the library, laid at this program; samples held against each other. -/
import Derived.Test.YtofieoklcegddaaF6
import Derived.Shelf.SlSortCmp.InsertionK
namespace Go.Proofs.Ytofieoklcegddaa
open Go.RowKit Go.Sort Go.Shelf Go.Lib
set_option linter.unusedVariables false
set_option linter.unusedSimpArgs false
set_option maxRecDepth 100000

def insRen : Ren := ⟨fun | 20 => 41 | n => n, fun | 24 => 23 | 22 => 36 | 25 => 59 | n => n, fun n => n⟩
theorem insLaid : SlLaysF0.n20 Try.prog insRen :=
  { mixed := by kernel_rfl
    f20 := ⟨Try.f41.name, by decide, Try.func41.trans (congrArg some (by kernel_rfl))⟩
    t0 := Try.underlying0, a0 := Try.isAgg0, z0 := Try.sizeOf0, v0 := Try.zeroValue0, t3 := Try.underlying3
    a3 := Try.isAgg3, z3 := Try.sizeOf3, v3 := Try.zeroValue3, t4 := Try.underlying4, a4 := Try.isAgg4, z4 := Try.sizeOf4
    v4 := Try.zeroValue4, t22 := Try.underlying36, a22 := Try.isAgg36, z22 := Try.sizeOf36, v22 := Try.zeroValue36
    t25 := Try.underlying59, a25 := Try.isAgg59, z25 := Try.sizeOf59, v25 := Try.zeroValue59 }
/-- samples by their distances -/
def cfS (now : Int) (x y : S4) : Int := cmpI (x.dist now) (y.dist now)
theorem compare_grow (x y : Int) (w : World) : Calls Try.prog 36 #[.int .i64 x, .int .i64 y] w fun e w' => e = .returned (.int .i64 (cmpI x y)) ∧ ∃ q os', w' = grow (w.drewN q) os' := by
  refine (compare_any x y w).mono ?_
  rintro e w ⟨rfl, rfl⟩
  exact ⟨rfl, 0, #[], by rw [grow_empty]; rfl⟩
set_option maxHeartbeats 2000000 in
theorem closure_any {bn : Nat} {now : Int} (x y : S4) (W : World) (hn : W.cell? ⟨bn, 0, none⟩ = some (.int .i64 now)) (hb : bn < W.heap.size) :
    Calls Try.prog 35 #[x.val, y.val, .pointer (some ⟨bn, 0, none⟩)] W fun e w' => e = .returned (.int .i64 (cfS now x y)) ∧ ∃ q os', w' = grow (W.drewN q) os' := by
  obtain ⟨w1, hw1⟩ : ∃ w1, w1 = W.alloc (.cells #[.int .i64 x.o, .int .i64 x.d, .int .i64 x.p, .int .i64 x.a] 23) := ⟨_, rfl⟩
  have x1 : Box w1 W.heap.size x := by rw [hw1]; exact World.alloc_heap_new W _
  obtain ⟨w2, hw2⟩ : ∃ w2, w2 = w1.alloc (.cells #[.int .i64 y.o, .int .i64 y.d, .int .i64 y.p, .int .i64 y.a] 23) := ⟨_, rfl⟩
  have x2 : Box w2 W.heap.size x := by rw [hw2]; exact (Below.heap_alloc _ _ _ x1.lt).trans x1
  have y2 : Box w2 (W.heap.size + 1) y := by rw [hw2, show W.heap.size + 1 = w1.heap.size by rw [hw1]; simp]; exact World.alloc_heap_new w1 _
  have n2 : w2.cell? ⟨bn, 0, none⟩ = some (.int .i64 now) := by
    rw [hw2, hw1]
    have e : ((W.alloc (.cells #[.int .i64 x.o, .int .i64 x.d, .int .i64 x.p, .int .i64 x.a] 23)).alloc (.cells #[.int .i64 y.o, .int .i64 y.d, .int .i64 y.p, .int .i64 y.a] 23)).heap[bn]? = W.heap[bn]? := (Below.heap_alloc _ _ _ (by simp; omega)).trans (Below.heap_alloc _ _ _ hb)
    exact (World.cell?_of_block e).trans hn
  have hb2 : bn < w2.heap.size := by rw [hw2, hw1]; simp; omega
  have hx := fun (n : Nat) (os : Array Obj) => (x2.grown n os).cells
  have hy := fun (n : Nat) (os : Array Obj) => (y2.grown n os).cells
  have c0 := fun n os => (hx n os).1
  have c1 := fun n os => (hx n os).2.1
  have c2 := fun n os => (hx n os).2.2.1
  have c3 := fun n os => (hx n os).2.2.2
  have d0 := fun n os => (hy n os).1
  have d1 := fun n os => (hy n os).2.1
  have d2 := fun n os => (hy n os).2.2.1
  have d3 := fun n os => (hy n os).2.2.2
  have nn := fun (n : Nat) (os : Array Obj) => cell_grown (w := w2) (a := ⟨bn, 0, none⟩) hb2 n2 n os
  have HX := Lib.hid (fun w => dist_any x now w)
  have HY := Lib.hid (fun w => dist_any y now w)
  have HC := Lib.hid (fun w => compare_grow (x.dist now) (y.dist now) w)
  have HW := Lib.hid (show ∃ os, w2 = grow W os from ⟨_, by rw [hw2, hw1, alloc_eq_grow, alloc_eq_grow, grow_grow]⟩)
  have HWw := Lib.hid (show w2 = (W.alloc (.cells #[.int .i64 x.o, .int .i64 x.d, .int .i64 x.p, .int .i64 x.a] 23)).alloc (.cells #[.int .i64 y.o, .int .i64 y.d, .int .i64 y.p, .int .i64 y.a] 23) by rw [hw2, hw1])
  clear hx hy hw1 hw2 x1 x2 y2 n2 hb2 hn hb
  unfold cfS
  unfold S4.val at HX HY ⊢
  generalize x.dist now = dx at *
  generalize y.dist now = dy at *
  generalize cmpI dx dy = r at *
  have mixed : Try.prog.follows .mixedOrders = true := by kernel_rfl
  go_enter Try.func35, Try.ntmps35
  go_upto_region 1 with fail
  rw [← HWw.out]
  go_quiet_grown (first
    | (go_at_call 10; with_reducible exact Calls.grown_of (HX.out _))
    | (go_at_call 10; with_reducible exact Calls.grown_of (HY.out _))
    | (go_at_call 36; with_reducible exact Calls.grown_of (HC.out _)))
  all_goals go_wp2_with fail
  all_goals go_ret
  obtain ⟨os, ho⟩ := HW.out
  refine ⟨rfl, nq, os ++ osq, ?_⟩
  rw [ho]
  exact grow_grow (W.drewN nq) os osq
end Go.Proofs.Ytofieoklcegddaa
