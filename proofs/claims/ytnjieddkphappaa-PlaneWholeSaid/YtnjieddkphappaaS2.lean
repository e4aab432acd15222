/- plane: the spread of points. -/
import Derived.Test.YtnjieddkphappaaS1
namespace Go.Proofs.Ytnjieddkphappaa
open Go.RowKit
set_option maxRecDepth 100000
set_option linter.unusedVariables false
theorem spread_no {A : Option Addr} {n c : Nat} (h : fitE n ≠ 0) (hn : n ≤ 1099511627776) (w : World) :
    Calls Try.prog 24 #[.slice A n c] w fun e w' => e = .returned (.tuple #[.float .f64 0, .int .i64 (fitE n)]) ∧ RowKit.Below w.heap.size w w' := by
  obtain ⟨q, hq⟩ : ∃ q, q = fitE n := ⟨_, rfl⟩
  have HM := Lib.hid (fun w => mean_no (A := A) (c := c) h hn w)
  rw [← hq] at h HM ⊢
  clear hq
  go_enter Try.func24, Try.ntmps24
  go_wp2_with fail
  refine (HM.out _).mono ?_
  rintro e w1 ⟨rfl, rfl⟩
  have h' : (q == 0) = false := by simpa using h
  have b0 : RowKit.Below w1.heap.size w1 (w1.alloc (Obj.cells #[Value.complex FloatKind.f64 0 0] 23)) := (Below.refl _ _).alloc (Nat.le_refl _) _
  have HB := Lib.hid b0
  clear b0
  go_wp2_with fail
  go_ret2
  exact ⟨rfl, HB.out⟩
theorem spread_yes {w : World} {B n c : Nat} {A : Option Addr} {xs : List (Nat × Nat)} (h : Cx w B A n xs) (hB : B ≤ w.heap.size) (hf : fitE n = 0) :
    Calls Try.prog 24 #[.slice A n c] w fun e w' => (∃ r, e = .returned (.tuple #[.float .f64 r, .int .i64 0]) ∧ okF r (fc .quo (spC xs (meanC (xs.map (·.1)), meanC (xs.map (·.2)))) (floatOfInt .f64 xs.length))) ∧ RowKit.Below w.heap.size w w' := by
  have HH := Lib.hid h
  obtain ⟨hn0, hn1⟩ := fit_le hf
  have HF := Lib.hid hf
  clear h hf
  go_enter Try.func24, Try.ntmps24
  go_wp2_with fail
  refine (mean_yes HH.out hB HF.out).mono ?_
  rintro e w1 ⟨⟨m1, m2, rfl, hr, hs⟩, hb⟩
  have HR := Lib.hid hr
  have HS := Lib.hid hs
  have HB := Lib.hid hb
  clear hr hs hb
  go_wp2_with fail
  have b0 : RowKit.Below w1.heap.size w1 (w1.alloc (Obj.cells #[Value.complex FloatKind.f64 m1 m2] 23)) := (Below.refl _ _).alloc (Nat.le_refl _) _
  have e1 : (w1.alloc (Obj.cells #[Value.complex FloatKind.f64 m1 m2] 23)).heap.size = w1.heap.size + 1 := by show (w1.heap.push _).size = _; simp
  have b1 := b0.alloc (by omega) (Obj.cells #[Value.float FloatKind.f64 0] 24)
  have x1 : Boxed ((w1.alloc (Obj.cells #[Value.complex FloatKind.f64 m1 m2] 23)).alloc (Obj.cells #[Value.float FloatKind.f64 0] 24)) w1.heap.size 23 (.complex .f64 m1 m2) := (Boxed.new w1 23 _).alloc _
  have x2 : Boxed ((w1.alloc (Obj.cells #[Value.complex FloatKind.f64 m1 m2] 23)).alloc (Obj.cells #[Value.float FloatKind.f64 0] 24)) (w1.heap.size + 1) 24 (.float .f64 0) := by
    have := Boxed.new (w1.alloc (Obj.cells #[Value.complex FloatKind.f64 m1 m2] 23)) 24 (.float .f64 0)
    rwa [e1] at this
  have hl := HH.out.1
  refine (each_two 41 _ _ (fun j w' => RowKit.Below w1.heap.size w1 w' ∧ Boxed w' w1.heap.size 23 (.complex .f64 m1 m2) ∧ ∃ s', Boxed w' (w1.heap.size + 1) 24 (.float .f64 s') ∧ okF s' (spC (xs.take j) (meanC (xs.map (·.1)), meanC (xs.map (·.2))))) (xs := xs) (B := B) enter41 ?_ ?_ (by omega) _ ⟨b1, x1, 0, x2, ⟨by omega, .inl rfl⟩⟩).mono ?_
  · rintro j z w' hz ⟨g1, g2, s', g3, g4⟩
    rw [spC_take _ _ hz]
    exact spread1_any j z.1 z.2 (Nat.le_refl _) (by omega) (by omega) g1 g2 g3 HR.out.2 HS.out.2 g4
  · rintro j w' ⟨g1, _⟩
    exact (HH.out.below HB.out hB).below g1 (by have := HB.out.size; omega)
  rintro e w2 ⟨rfl, hb, y1, s, y2, hs⟩
  rw [List.take_of_length_le (by omega)] at hs
  have HT := Lib.hid hs
  have HB2 := Lib.hid (HB.out.trans (hb.mono HB.out.size))
  have c2 := y2.cell
  clear hs hb x1 x2 b0 b1 y1 y2 e1
  go_wp2_with fail
  go_ret2
  refine ⟨⟨_, rfl, ?_⟩, below_drewN HB2.out _⟩
  rw [hl]
  exact okF_step _ HT.out _
end Go.Proofs.Ytnjieddkphappaa
