/- top08: what an exchange tells, walked. -/
import Derived.Test.YtbkcoijcoacbaaaT0
import Derived.Deep.QuietTactic
import Derived.BigQuiet
import Derived.RangeFuncBox
import Derived.Laws.Rows
import Derived.StillTailTactics
import Derived.Test.YtbkcoijcoacbaaaFiF9
namespace Go.Proofs.Ytbkcoijcoacbaaa
open Go.RowKit
set_option linter.unusedVariables false
set_option maxRecDepth 100000
theorem below_drewN' {w0 w : World} {B : Nat} (h : RowKit.Below B w0 w) (n : Nat) : RowKit.Below B w0 (w.drewN n) := ⟨h.os, h.tape, h.output, h.size, h.block⟩
set_option maxHeartbeats 1000000 in
theorem sample_any (t o a b c : Int) (ho : -68719476736 ≤ o) (ho2 : o ≤ 68719476736) (w : World) :
    Calls Try.prog 10 #[.int .u64 t, .int .i64 o, .agg #[.int .i64 a, .int .i64 b, .int .i64 c]] w fun e w' => e = .returned (.agg #[.int .i64 ((2 * o + a % 68719476736 - c % 68719476736) / 2), .int .i64 (a % 68719476736 + c % 68719476736), .int .i64 0, .int .i64 0]) ∧ RowKit.Below w.heap.size w w' := by
  have HF := Lib.hid (ex_off (t := t) (a := a) (b := b) (c := c) ho ho2)
  have HD := Lib.hid (ex_del (t := t) (a := a) (b := b) (c := c) ho ho2)
  have HN := Lib.hid (show wrap64 (-o) = -o by unfold wrap64; omega)
  clear ho ho2
  go_enter Try.func10, Try.ntmps10
  go_wp2_with fail
  refine (some_same _ _).mono ?_
  rintro e w1 ⟨rfl, rfl⟩
  go_wp2_with fail
  refine (move_same _ _ _).mono ?_
  rintro e w1 ⟨rfl, rfl⟩
  go_wp2_with fail
  refine (move_same _ _ _).mono ?_
  rintro e w1 ⟨rfl, rfl⟩
  go_wp2_with fail
  obtain ⟨W, hW⟩ : ∃ W, W = ((w.alloc (Obj.cells #[Value.int IntKind.i64 a, Value.int IntKind.i64 b, Value.int IntKind.i64 c] 37)).alloc (Obj.cells #[Value.int IntKind.i64 0, Value.int IntKind.i64 0, Value.int IntKind.i64 0, Value.int IntKind.i64 0] 34)) := ⟨_, rfl⟩
  have es : (w.alloc (Obj.cells #[Value.int IntKind.i64 a, Value.int IntKind.i64 b, Value.int IntKind.i64 c] 37)).heap.size = w.heap.size + 1 := by show (w.heap.push _).size = _; simp
  have hB : RowKit.Below w.heap.size w W := by rw [hW]; exact ((Below.refl _ _).alloc (Nat.le_refl _) _).alloc (by omega) _
  have h1 : W.heap[w.heap.size]? = some (.cells #[.int .i64 a, .int .i64 b, .int .i64 c] 37 (0, 0)) := by
    rw [hW]
    exact ((World.grownBy_alloc (w.alloc (Obj.cells #[Value.int IntKind.i64 a, Value.int IntKind.i64 b, Value.int IntKind.i64 c] 37)) _ none).block w.heap.size (by omega) (by simp)).trans (World.alloc_heap_new w _)
  have h2 : Fi.Box W (w.heap.size + 1) ⟨0, 0, 0, 0⟩ := by
    rw [hW, ← es]; exact World.alloc_heap_new _ _
  rw [← hW]
  clear hW es
  have c2 : W.cell? ⟨w.heap.size, 2, none⟩ = some (.int .i64 c) := by simp [World.cell?, h1]
  have HB := Lib.hid hB
  have H2 := Lib.hid h2
  obtain ⟨k0, k1, k2, k3⟩ := h2.cells
  have f0 := h2.fr 0
  have f1 := h2.fr 1
  have f2 := h2.fr 2
  have f3 := h2.fr 3
  clear h1 h2 hB
  refine (some_same _ _).mono ?_
  rintro e w1 ⟨rfl, rfl⟩
  go_wp2_with fail
  refine (move_same _ _ _).mono ?_
  rintro e w1 ⟨rfl, rfl⟩
  go_wp2_with fail
  go_quiet ((first
    | (go_at_call 14; exact Calls.quiet_of_same (move_same _ _ _))
    | (go_at_call 13; exact Calls.quiet_of_same (some_same _ _))))
  go_wp2_with fail
  rw [HN.out]
  refine ((St.offset_any _ _ _ _ _).mono fun _ _ ⟨he, hw⟩ => (⟨he, hw.symm⟩ : _ ∧ _)).mono ?_
  rintro e w2 ⟨rfl, rfl⟩
  rw [HF.out]
  go_wp2_with fail
  refine ((St.delay_any _ _ _ _ _).mono fun _ _ ⟨he, hw⟩ => (⟨he, hw.symm⟩ : _ ∧ _)).mono ?_
  rintro e w2 ⟨rfl, rfl⟩
  rw [HD.out]
  have H3 : Fi.Box (w1.drewN nq) (w.heap.size + 1) ⟨0, 0, 0, 0⟩ := H2.out
  have H4 := Lib.hid (Fi.Box.put H3 ⟨(2 * o + a % 68719476736 - c % 68719476736) / 2, a % 68719476736 + c % 68719476736, 0, 0⟩)
  clear H3
  go_wp2_with fail
  exact bodyPost_ret (v := .agg #[.int .i64 ((2 * o + a % 68719476736 - c % 68719476736) / 2), .int .i64 (a % 68719476736 + c % 68719476736), .int .i64 0, .int .i64 0])
    (results_cell_row rfl _ _ (w.heap.size + 1) 34 _ (0, 0) _ rfl H4.out Try.underlying34 rfl (by kernel_rfl)) rfl
    ⟨rfl, Fi.below_put4 (below_drewN' HB.out nq) (by omega) ⟨(2 * o + a % 68719476736 - c % 68719476736) / 2, a % 68719476736 + c % 68719476736, 0, 0⟩⟩
end Go.Proofs.Ytbkcoijcoacbaaa
