/- clepsydralaw14.alive: the fixed calls. -/
import Derived.Test.YtofieoklcegddaaF9
namespace Go.Proofs.Ytofieoklcegddaa
open Go.RowKit Go.Sort Go.Shelf Go.Lib
set_option linter.unusedVariables false
set_option linter.unusedSimpArgs false
set_option maxRecDepth 100000

def Yes (w : World) (e : Ending) (w' : World) : Prop := e = .returned (.bool true) ∧ RowKit.Below w.heap.size w w'
def sA : S4 := ⟨3, 7, 2, 0⟩
theorem sA_may : sA.may := by decide
theorem sorted_one (now : Int) (s : S4) : sorted now [s] = [s] := by
  have := (sorted_facts now [s]).2.1
  exact List.perm_singleton.1 this
theorem only_below {w0 w w' : World} {B g : Nat} (h : RowKit.Below B w0 w) (k : w.grownBy w' (some g)) (hB : B ≤ w.heap.size) (hg : B ≤ g) : RowKit.Below B w0 w' := h.grown k hB (fun j hj => by cases hj; exact hg)
theorem below_of_grow {w w' : World} {B : Nat} (hB : B ≤ w.heap.size) {n : Nat} {os : Array Obj} (h : w' = grow (w.drewN n) os) : RowKit.Below B w w' := by
  subst h
  refine ⟨rfl, rfl, rfl, by show _ ≤ (grow _ os).heap.size; rw [size_grow]; show w.heap.size ≤ w.heap.size + _; omega, fun k hk => ?_⟩
  show (grow (w.drewN n) os).heap[k]? = _
  rw [heap_grow_old (w.drewN n) os (by show k < w.heap.size; omega)]
  rfl
set_option maxHeartbeats 4000000 in
theorem alive_any (w : World) : Calls Try.prog 9 #[] w (Yes w) := by
  go_enter Try.func9, Try.ntmps9
  go_wp2_with fail
  refine (new_any w).mono ?_
  rintro e w1 ⟨rfl, hf1, hw1⟩
  have b1 : RowKit.Below w.heap.size w w1 := by rw [hw1]; exact (Below.refl _ _).alloc (Nat.le_refl _) _
  have l1 : w.heap.size < w1.heap.size := hf1.lt
  have HB1 := Lib.hid (best_any 0 (.inr ⟨w.heap.size, rfl, hf1⟩ : Pf w1 (some ⟨w.heap.size, 0, none⟩) []))
  rw [sorted_nil] at HB1
  have HF1 := Lib.hid hf1
  have B1 := Lib.hid b1
  have L1 := Lib.hid l1
  clear hw1 hf1 b1 l1
  go_wp2_with fail
  refine HB1.out.mono ?_
  rintro e w2 ⟨rfl, hb⟩
  rw [show (headS []).val = .agg #[.int .i64 0, .int .i64 0, .int .i64 0, .int .i64 0] from rfl]
  obtain ⟨w3, hw3⟩ : ∃ w3, w3 = w2.alloc (.cells #[.int .i64 0, .int .i64 0, .int .i64 0, .int .i64 0] 23) := ⟨_, rfl⟩
  have b3 : RowKit.Below w1.heap.size w1 w3 := by rw [hw3]; exact hb.alloc (by have := hb.size; omega) _
  have HF3 := Lib.hid (HF1.out.below b3 L1.out)
  have HA := Lib.hid (add_any sA_may HF3.out)
  have HB3 := Lib.hid (B1.out.trans (b3.mono (by have := L1.out; omega)))
  have L3 := Lib.hid (show w.heap.size < w3.heap.size from Nat.lt_of_lt_of_le L1.out b3.size)
  have HW3 := Lib.hid hw3
  clear hb b3 HB1 hw3
  go_wp2_with fail
  rw [← HW3.out]
  refine HA.out.mono ?_
  rintro e w4 ⟨rfl, hf4, ho4⟩
  rw [show push sA [] = [sA] from rfl] at hf4
  have hb4 := only_below HB3.out ho4 (by have := L3.out; omega) (Nat.le_refl _)
  have HB := Lib.hid (best_any 65536 (.inr ⟨w.heap.size, rfl, hf4⟩ : Pf w4 (some ⟨w.heap.size, 0, none⟩) [sA]))
  rw [sorted_one, show (if [sA] = [] then (4 : Int) else 0) = 0 from rfl] at HB
  have HF4 := Lib.hid hf4
  have HB4 := Lib.hid hb4
  have L4 := Lib.hid hf4.lt
  clear HA HB3 HF3 L3 HW3 hf4 ho4 hb4 HF1 B1 L1
  go_wp2_with fail
  refine HB.out.mono ?_
  rintro e w5 ⟨rfl, hb5⟩
  rw [show (headS [sA]).val = .agg #[.int .i64 3, .int .i64 7, .int .i64 2, .int .i64 0] from rfl]
  obtain ⟨w6, hw6⟩ : ∃ w6, w6 = w5.alloc (.cells #[.int .i64 3, .int .i64 7, .int .i64 2, .int .i64 0] 23) := ⟨_, rfl⟩
  have b6 : RowKit.Below w4.heap.size w4 w6 := by rw [hw6]; exact hb5.alloc (by have := hb5.size; omega) _
  have x6 : Box w6 w5.heap.size sA := by rw [hw6]; exact World.alloc_heap_new w5 _
  have HF6 := Lib.hid (HF4.out.below b6 L4.out)
  have B6 := Lib.hid (HB4.out.trans (b6.mono (by have := L4.out; omega)))
  obtain ⟨c0, c1, c2, c3⟩ := x6.cells
  have HW6 := Lib.hid hw6
  have HN := Lib.hid (fun w => dist_any sA 65536 w)
  rw [show sA.dist 65536 = 6 by decide +kernel, show sA.val = .agg #[.int .i64 3, .int .i64 7, .int .i64 2, .int .i64 0] from rfl] at HN
  have c0' : w6.cell? ⟨w5.heap.size, 0, none⟩ = some (.int .i64 3) := c0
  have c1' : w6.cell? ⟨w5.heap.size, 1, none⟩ = some (.int .i64 7) := c1
  have c2' : w6.cell? ⟨w5.heap.size, 2, none⟩ = some (.int .i64 2) := c2
  have c3' : w6.cell? ⟨w5.heap.size, 3, none⟩ = some (.int .i64 0) := c3
  have HL := Lib.hid (len_any HF6.out)
  rw [show (([sA].length : Nat) : Int) = 1 from rfl] at HL
  clear hw6 b6 x6 c0 c1 c2 c3 hb5 HF4 HB4 L4 HB
  go_upto_region 7 with fail
  rw [← HW6.out]
  go_wp2_with fail
  refine HL.out.mono ?_
  rintro e w7 ⟨rfl, hw7⟩
  subst hw7
  go_wp2_with fail
  refine (HN.out _).mono ?_
  rintro e w8 ⟨rfl, q, os, hw8⟩
  have B8 := Lib.hid (B6.out.trans (below_of_grow B6.out.size hw8))
  clear hw8 B6
  go_wp2_with fail
  refine (root_any 17 (by omega) _).mono ?_
  rintro e w9 ⟨⟨r, rfl, hr, hr2⟩, hw9⟩
  subst hw9
  have hr4 : r = 4 := hr.eq ⟨by omega, by omega⟩
  subst hr4
  clear hr hr2
  go_wp2_with fail
  go_ret
  exact ⟨rfl, B8.out⟩
end Go.Proofs.Ytofieoklcegddaa
