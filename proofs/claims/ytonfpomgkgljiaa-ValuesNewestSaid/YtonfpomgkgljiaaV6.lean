/- clepsydralaw12.alive: the fixed calls. -/
import Derived.Test.YtonfpomgkgljiaaV5
namespace Go.Proofs.Ytonfpomgkgljiaa
open Go.RowKit
set_option linter.unusedVariables false
set_option maxRecDepth 100000

def Yes (w : World) (e : Ending) (w' : World) : Prop := e = .returned (.bool true) ∧ Below w.heap.size w w'
theorem below_of_grown {B : Nat} {w0 w w' : World} {r : Option Nat} (h : Below B w0 w) (q : w.grownBy w' r) (hB : B ≤ w.heap.size) (hr : ∀ k, r = some k → B ≤ k) : Below B w0 w' := h.grown q hB hr
theorem new_one (w : World) : Calls Try.prog 7 #[.int .i64 1] w fun e w' => e = .returned (.tuple #[.pointer (some ⟨w.heap.size + 1, 0, none⟩), .int .i64 0]) ∧ Below w.heap.size w w' ∧ w'.heap.size = w.heap.size + 2 ∧ Shelf1 w' (w.heap.size + 1) w.heap.size #[] 0 := by
  have hmm := @run_makeMap Try.prog
  obtain ⟨w2, hw2⟩ : ∃ w2, w2 = (w.alloc (.map #[] 0)).alloc (.cells #[.int .i64 1, .map (some w.heap.size)] 51) := ⟨_, rfl⟩
  have b2 : Below w.heap.size w w2 := by rw [hw2]; exact ((Below.refl _ _).alloc (Nat.le_refl _) _).alloc (by simp) _
  have s2 : w2.heap.size = w.heap.size + 2 := by rw [hw2]; simp
  have h2 : Shelf1 w2 (w.heap.size + 1) w.heap.size #[] 0 := by
    have a0 := World.alloc_heap_new (w.alloc (.map #[] 0)) (.cells #[.int .i64 1, .map (some w.heap.size)] 51)
    rw [World.size_alloc] at a0
    have a1 : ((w.alloc (.map #[] 0)).alloc (.cells #[.int .i64 1, .map (some w.heap.size)] 51)).heap[w.heap.size]? = some (.map #[] 0) := (Below.heap_alloc _ _ _ (by simp)).trans (World.alloc_heap_new w _)
    rw [hw2]
    exact ⟨by unfold World.cell?; rw [a0]; rfl, by unfold World.cell?; rw [a0]; rfl, a1⟩
  have HW := Lib.hid hw2
  have Hf := Lib.hid (show Below w.heap.size w w2 ∧ w2.heap.size = w.heap.size + 2 ∧ Shelf1 w2 (w.heap.size + 1) w.heap.size #[] 0 from ⟨b2, s2, h2⟩)
  clear hw2 b2 s2 h2
  go_enter Try.func7, Try.ntmps7
  go_wp2
  change bodyPost _ _ _ _ _ ((w.alloc (.map #[] 0)).alloc (.cells #[.int .i64 1, .map (some w.heap.size)] 51))
  rw [← HW.out]
  go_ret2
  exact ⟨rfl, Hf.out⟩
set_option maxHeartbeats 4000000 in
theorem alive_any (w : World) : Calls Try.prog 10 #[] w (Yes w) := by
  have HQ := Lib.hid (fun (w' : World) (g : Nat) (hx : Bb w' g 68 (by4 1 ++ by4 2)) => pairOf_eight (w := w') (g := g) (o := 0) (c := 8) (by omega) (by omega) (fun j => (by4 1 ++ by4 2).getD j 0) (fun j hj => by
    rw [Nat.zero_add]
    have hl : j < (by4 1 ++ by4 2).length := hj
    exact hx.cell (by simp [List.getD, List.getElem?_eq_getElem hl])) (fun j => by
    by_cases hj : j < 8
    · have : j = 0 ∨ j = 1 ∨ j = 2 ∨ j = 3 ∨ j = 4 ∨ j = 5 ∨ j = 6 ∨ j = 7 := by omega
      rcases this with rfl | rfl | rfl | rfl | rfl | rfl | rfl | rfl <;> decide
    · have : (by4 1 ++ by4 2)[j]? = none := List.getElem?_eq_none (by simp [by4]; omega)
      simp [List.getD, this]))
  go_enter Try.func10, Try.ntmps10
  go_wp2_with fail
  refine (new_one w).mono ?_
  rintro e w1 ⟨rfl, b1, s1, h1⟩
  go_wp2_with fail
  refine (put_a h1 5 1 (by omega)).mono ?_
  rintro e w2 ⟨rfl, h2, q2⟩
  have B2 := below_of_grown b1 q2 (by omega) (fun k e => by cases e; exact Nat.le_refl _)
  have z2 := q2.size
  clear h1 b1 q2
  go_wp2_with fail
  refine (put_b 5 1 h2 6 1 (by omega) (by omega)).mono ?_
  rintro e w3 ⟨rfl, q3⟩
  have h3 := h2.grown q3
  have B3 := below_of_grown B2 q3 (by omega) (fun k e => by cases e)
  have z3 := q3.size
  clear h2 B2 q3
  go_wp2_with fail
  refine (put_c 5 1 h3 (by omega)).mono ?_
  rintro e w4 ⟨rfl, q4⟩
  have B4 := below_of_grown B3 q4 (by omega) (fun k e => by cases e)
  have z4 := q4.size
  clear h3 B3 q4
  go_wp2_with fail
  refine (pair_any 1 2 (by omega) (by omega) w4).mono ?_
  rintro e w5 ⟨g, rfl, x5, b5⟩
  have B5 := B4.trans (b5.mono (by omega))
  have HQ5 := Lib.hid (HQ.out w5 g x5)
  have z5 := b5.size
  clear B4 b5 x5 HQ
  go_wp2_with fail
  refine HQ5.out.mono ?_
  rintro e w6 ⟨rfl, b6⟩
  rw [show word ((by4 1 ++ by4 2).getD 0 0) ((by4 1 ++ by4 2).getD 1 0) ((by4 1 ++ by4 2).getD 2 0) ((by4 1 ++ by4 2).getD 3 0) = 1 from rfl, show word ((by4 1 ++ by4 2).getD 4 0) ((by4 1 ++ by4 2).getD 5 0) ((by4 1 ++ by4 2).getD 6 0) ((by4 1 ++ by4 2).getD 7 0) = 2 from rfl]
  have B6 := B5.trans (b6.mono (by omega))
  have z6 := b6.size
  clear B5 b6 HQ5
  go_wp2_with fail
  refine (signed_nil w6).mono ?_
  rintro e w7 ⟨⟨A, c, rfl⟩, b7⟩
  have B7 := B6.trans (b7.mono (by omega))
  clear B6 b7
  go_wp2_with fail
  go_ret
  exact ⟨rfl, B7⟩
end Go.Proofs.Ytonfpomgkgljiaa
