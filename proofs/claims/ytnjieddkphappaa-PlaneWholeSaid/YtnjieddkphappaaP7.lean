/- plane: clepsydralaw13.alive. -/
import Derived.Test.YtnjieddkphappaaP6
namespace Go.Proofs.Ytnjieddkphappaa
open Go.RowKit
set_option maxRecDepth 100000
set_option linter.unusedVariables false
theorem okF_eq {r c : Nat} (h : okF r c) (g : ¬ isN c) : r = c := by
  rcases h.2 with rfl | ⟨_, x⟩
  · rfl
  · exact absurd x g
theorem k_mean1 : meanC [floatOfInt .f64 1, floatOfInt .f64 3] = 4611686018427387904 := by decide +kernel
theorem k_mean2 : meanC [floatOfInt .f64 2, floatOfInt .f64 4] = 4613937818241073152 := by decide +kernel
theorem k_far : farC 0 0 (floatOfInt .f64 3) (floatOfInt .f64 (-4)) = 4616189618054758400 := by decide +kernel
theorem k_n1 : ¬ isN 4611686018427387904 := by decide +kernel
theorem k_n2 : ¬ isN 4613937818241073152 := by decide +kernel
theorem k_n3 : ¬ isN 4616189618054758400 := by decide +kernel
theorem k_s1 : (od 4611686018427387904 (floatOfInt .f64 2) == some .eq && od 4613937818241073152 (floatOfInt .f64 3) == some .eq) = true := by decide +kernel
theorem k_s2 : (od (Op.negFloat .f64 (floatOfInt .f64 2)) (floatOfInt .f64 (-2)) == some .eq && od (floatOfInt .f64 1) (floatOfInt .f64 1) == some .eq) = true := by decide +kernel
theorem k_o : FloatKind.f64.format.order 4616189618054758400 4616189618054758400 = some .eq := by decide +kernel
theorem row2 (w : World) (a b c d : Nat) (t : TypeId) : Cx (w.alloc (Obj.cells #[Value.complex .f64 a b, Value.complex .f64 c d] t)) (w.heap.size + 1) (some ⟨w.heap.size, 0, none⟩) 2 [(a, b), (c, d)] := by
  refine ⟨rfl, .inr ⟨w.heap.size, 0, rfl, by omega, ?_⟩⟩
  have h : (w.alloc (Obj.cells #[Value.complex .f64 a b, Value.complex .f64 c d] t)).heap[w.heap.size]? = some (.cells #[Value.complex .f64 a b, Value.complex .f64 c d] t (0, 0)) := World.alloc_heap_new w _
  intro i z hz
  have : i = 0 ∨ i = 1 := by
    have := (List.getElem?_eq_some_iff.1 hz).1
    simp at this; omega
  rcases this with rfl | rfl
  · simp at hz; subst hz; simp only [World.cell?, h]; rfl
  · simp at hz; subst hz; simp only [World.cell?, h]; rfl
theorem alive_any (w : World) : Calls Try.prog 15 #[] w fun e w' => e = .returned (.bool true) ∧ RowKit.Below w.heap.size w w' := by
  have K1 := Lib.hid k_s1
  have K2 := Lib.hid k_s2
  go_enter Try.func15, Try.ntmps15
  go_wp2_with fail
  refine (point_any _ _ _).mono ?_
  rintro e w1 ⟨rfl, rfl⟩
  go_wp2_with fail
  refine (point_any _ _ _).mono ?_
  rintro e w1 ⟨rfl, rfl⟩
  go_wp2_with fail
  have hx := row2 w1 (floatOfInt .f64 1) (floatOfInt .f64 2) (floatOfInt .f64 3) (floatOfInt .f64 4) 23
  have e1 : (w1.alloc (Obj.cells #[Value.complex FloatKind.f64 (floatOfInt FloatKind.f64 1) (floatOfInt FloatKind.f64 2), Value.complex FloatKind.f64 (floatOfInt FloatKind.f64 3) (floatOfInt FloatKind.f64 4)] 23)).heap.size = w1.heap.size + 1 := by show (w1.heap.push _).size = _; simp
  have b1 : RowKit.Below w1.heap.size w1 (w1.alloc (Obj.cells #[Value.complex FloatKind.f64 (floatOfInt FloatKind.f64 1) (floatOfInt FloatKind.f64 2), Value.complex FloatKind.f64 (floatOfInt FloatKind.f64 3) (floatOfInt FloatKind.f64 4)] 23)) := (Below.refl _ _).alloc (Nat.le_refl _) _
  refine (mean_yes hx (by omega) rfl).mono ?_
  rintro e w2 ⟨⟨r, s, rfl, hr, hs⟩, hb⟩
  have hr2 := okF_eq hr (by show ¬ isN (meanC [floatOfInt .f64 1, floatOfInt .f64 3]); rw [k_mean1]; exact k_n1)
  have hs2 := okF_eq hs (by show ¬ isN (meanC [floatOfInt .f64 2, floatOfInt .f64 4]); rw [k_mean2]; exact k_n2)
  have hr3 : r = 4611686018427387904 := hr2.trans k_mean1
  have hs3 : s = 4613937818241073152 := hs2.trans k_mean2
  subst hr3 hs3
  have HB := Lib.hid (b1.trans (hb.mono (by omega)))
  clear hx e1 b1 hr hs hb hr2 hs2
  go_wp2_with fail
  refine (mean_no (A := none) (n := 0) (c := 0) (by decide) (by omega) w2).mono ?_
  rintro e w3 ⟨rfl, rfl⟩
  rw [show fitE 0 = 4 from rfl]
  go_wp2_with fail
  refine (point_any _ _ _).mono ?_
  rintro e w4 ⟨rfl, rfl⟩
  go_wp2_with fail
  refine (same_any _ _ _ _ _).mono ?_
  rintro e w5 ⟨rfl, rfl⟩
  rw [K1.out]
  go_wp2_with fail
  refine (point_any _ _ _).mono ?_
  rintro e w4 ⟨rfl, rfl⟩
  go_wp2_with fail
  refine (far_any _ _ _ _ _).mono ?_
  rintro e w5 ⟨⟨r, rfl, hr, ha⟩, k, rfl⟩
  have hr3 : r = 4616189618054758400 := (okF_eq ⟨hr, ha⟩ (by rw [k_far]; exact k_n3)).trans k_far
  subst hr3
  clear hr ha
  have HB2 := Lib.hid (below_drewN HB.out k)
  have K3 := k_o
  go_wp2_with fail
  refine (point_any _ _ _).mono ?_
  rintro e w5 ⟨rfl, rfl⟩
  go_wp2_with fail
  refine (turn_any _ _ _).mono ?_
  rintro e w5 ⟨rfl, rfl⟩
  go_wp2_with fail
  refine (point_any _ _ _).mono ?_
  rintro e w5 ⟨rfl, rfl⟩
  go_wp2_with fail
  refine (same_any _ _ _ _ _).mono ?_
  rintro e w5 ⟨rfl, rfl⟩
  rw [K2.out]
  go_wp2_with fail
  go_ret
  exact ⟨rfl, HB2.out⟩
end Go.Proofs.Ytnjieddkphappaa
