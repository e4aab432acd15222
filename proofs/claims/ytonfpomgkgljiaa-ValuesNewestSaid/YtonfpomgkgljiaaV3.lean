/- Put on a shelf that is full. -/
import Derived.Test.YtonfpomgkgljiaaV2
namespace Go.Proofs.Ytonfpomgkgljiaa
open Go.RowKit
set_option linter.unusedVariables false
set_option maxRecDepth 100000

theorem Shelf1.grown {w w' : World} {g m : Nat} {es : Array MapEntry} {c : Nat} (h : Shelf1 w g m es c) (q : w.grownBy w' none) : Shelf1 w' g m es c := by
  have hg := World.block_lt_of_cell? w _ h.c0
  exact ⟨(cell_block (q.block g hg (by simp))).trans h.c0, (cell_block (q.block g hg (by simp))).trans h.c1, (q.block m (Array.getElem?_eq_some_iff.1 h.hm).1 (by simp)).trans h.hm⟩
set_option maxHeartbeats 1000000 in
theorem put_b {w : World} {g m : Nat} (k0 ts0 : Nat) (h : Shelf1 w g m #[⟨.int .i64 (k0 : Int), Vz ts0, 0⟩] 1) (k ts : Nat) (hk : k ≤ 1000) (hne : k ≠ k0) :
    Calls Try.prog 12 #[.pointer (some ⟨g, 0, none⟩), .int .i64 (k : Int), .agg #[.int .u32 (ts : Int), .int .u32 0, .slice none 0 0, .slice none 0 0]] w fun e w' => e = .returned (.int .i64 5) ∧ w.grownBy w' none := by
  have c0 := h.c0
  have c1 := h.c1
  have c01 := fun X => cell_more c0 X
  have c11 := fun X => cell_more c1 X
  have c02 := fun X Y => cell_more (cell_more c0 X) Y
  have c12 := fun X Y => cell_more (cell_more c1 X) Y
  have c03 := fun X Y Z => cell_more (cell_more (cell_more c0 X) Y) Z
  have c13 := fun X Y Z => cell_more (cell_more (cell_more c1 X) Y) Z
  have hl := fun X Y => look_one (heap_two h.hm X Y) (k : Int)
  have hne' : ¬ ((k : Int) = (k0 : Int)) := by omega
  simp only [hne', if_false] at hl
  unfold zeroV at hl
  go_enter Try.func12, Try.ntmps12
  go_wp2
  obtain ⟨w3, hw3⟩ : ∃ w3, w3 = ((w.alloc (.cells #[.int .u32 (ts : Int), .int .u32 0, .slice none 0 0, .slice none 0 0] 33)).alloc (.cells #[.int .u32 (ts : Int), .int .u32 0, .slice none 0 0, .slice none 0 0] 33)).alloc (.cells #[.int .u32 0, .int .u32 0, .slice none 0 0, .slice none 0 0] 33) := ⟨_, rfl⟩
  have d0 : w3.cell? ⟨g, 0, none⟩ = some (.int .i64 1) := by rw [hw3]; exact c03 _ _ _
  have d1 : w3.cell? ⟨g, 1, none⟩ = some (.map (some m)) := by rw [hw3]; exact c13 _ _ _
  have d2 : w3.heap[m]? = some (.map #[⟨.int .i64 (k0 : Int), Vz ts0, 0⟩] 1) := by
    have hlm := (Array.getElem?_eq_some_iff.1 h.hm).1
    rw [hw3]; exact (Below.heap_alloc _ _ _ (by simp; omega)).trans (heap_two h.hm _ _)
  have q3 : w.grownBy w3 none := by rw [hw3]; exact ⟨rfl, rfl, rfl, by simp; omega, fun k hk _ => ((Below.heap_alloc _ _ _ (by simp; omega)).trans (Below.heap_alloc _ _ _ (by simp; omega))).trans (Below.heap_alloc _ _ _ hk)⟩
  rw [← hw3]
  clear c01 c11 c02 c12 c03 c13 hl hw3 c0 c1
  have e0 : w3.drew.cell? ⟨g, 0, none⟩ = some (.int .i64 1) := d0
  have e1 : w3.drew.cell? ⟨g, 1, none⟩ = some (.map (some m)) := d1
  have e2 : (Builtin.len_ #[49] 3 #[.map (some m)]).run Try.prog w3.drew = .ok (.int .i64 1) w3.drew := len_map (w := w3.drew) d2 3
  go_region_held (fun w' => w'.cell? ⟨g, 0, none⟩ = some (.int .i64 1) ∧ w'.cell? ⟨g, 1, none⟩ = some (.map (some m)) ∧ (Builtin.len_ #[49] 3 #[.map (some m)]).run Try.prog w' = .ok (.int .i64 1) w')
    (exact ⟨e0, e1, e2⟩) (fail)
  go_wp2
  go_ret
  exact ⟨rfl, ⟨q3.os, q3.tape, q3.output, q3.size, fun k hk hn => q3.block k hk hn⟩⟩
set_option maxHeartbeats 1000000 in
theorem put_c {w : World} {g m : Nat} (k ts : Nat) (h : Shelf1 w g m #[⟨.int .i64 (k : Int), Vz ts, 0⟩] 1) (hk : k ≤ 1000) :
    Calls Try.prog 12 #[.pointer (some ⟨g, 0, none⟩), .int .i64 (k : Int), .agg #[.int .u32 (ts : Int), .int .u32 0, .slice none 0 0, .slice none 0 0]] w fun e w' => e = .returned (.int .i64 120) ∧ w.grownBy w' none := by
  have c0 := h.c0
  have c1 := h.c1
  have c01 := fun X => cell_more c0 X
  have c11 := fun X => cell_more c1 X
  have c02 := fun X Y => cell_more (cell_more c0 X) Y
  have c12 := fun X Y => cell_more (cell_more c1 X) Y
  have hl := fun X Y => look_one (heap_two h.hm X Y) (k : Int)
  simp only [if_true] at hl
  unfold Vz at hl
  go_enter Try.func12, Try.ntmps12
  go_wp2
  go_ret
  refine ⟨rfl, ⟨rfl, rfl, rfl, by simp; omega, fun k hk _ => ?_⟩⟩
  exact ((((Below.heap_alloc _ _ _ (by simp; omega)).trans (Below.heap_alloc _ _ _ (by simp; omega))).trans (Below.heap_alloc _ _ _ (by simp; omega))).trans (Below.heap_alloc _ _ _ (by simp; omega))).trans (Below.heap_alloc _ _ _ hk)
end Go.Proofs.Ytonfpomgkgljiaa
