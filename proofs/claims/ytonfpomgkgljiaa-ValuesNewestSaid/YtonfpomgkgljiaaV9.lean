/- The reference's Pair and PairOf; shelves that no call made. -/
import Derived.Test.YtonfpomgkgljiaaV8
import Derived.Laws.ResultCell
namespace Go.Proofs.Ytonfpomgkgljiaa
open Go.RowKit
set_option linter.unusedVariables false
set_option maxRecDepth 100000

theorem far_ {W w w' : World} (B : Below W.heap.size W w) (b : Below w.heap.size w w') : Below W.heap.size W w' := B.trans (b.mono B.size)
theorem rpair_any (a b : Nat) (ha : a < 4294967296) (hb : b < 4294967296) (w : World) : Calls Try.prog 23 #[.int .u32 (a : Int), .int .u32 (b : Int)] w fun e w' => ∃ A c, e = .returned (.slice A 8 c) ∧ Nb w' w'.heap.size A 8 c (by4 a ++ by4 b) ∧ Below w.heap.size w w' := by
  have H1 := Lib.hid (four_any a ha)
  have H2 := Lib.hid (four_any b hb)
  have L : Lim 256 (by4 a ++ by4 b) := Lim.append (by4_lim a) (by4_lim b)
  clear ha hb
  go_enter Try.func23, Try.ntmps23
  go_wp2_with fail
  refine (H1.out _).mono ?_
  rintro e w1 ⟨A1, c1, rfl, n1, b1⟩
  go_wp2_with fail
  refine (H2.out _).mono ?_
  rintro e w2 ⟨A2, c2, rfl, n2, b2⟩
  have n1' := n1.far b2
  have B2 := far_ b1 b2
  clear n1 b1 b2
  go_wp2_with fail
  refine (join_any n1' n2 (by omega)).mono ?_
  rintro e w3 ⟨A3, c3, rfl, g3, b3⟩
  have n3 := g3.nb L
  have B3 := far_ B2 b3
  clear n1' n2 g3 B2 b3
  go_wp2_with fail
  go_ret
  exact ⟨_, _, rfl, n3, B3⟩
theorem rpairOf_bad (A : Option Addr) (n c : Nat) (hn : n ≠ 8) (hl : n ≤ 140737488351232) (w : World) : Calls Try.prog 21 #[.slice A n c] w fun e w' => e = .returned (.tuple #[.int .u32 0, .int .u32 0, .int .i64 3]) ∧ w = w' := by
  have h : ¬ ((n : Int) = 8) := by omega
  go_enter Try.func21, Try.ntmps21
  go_wp2
  go_ret3
  exact ⟨rfl, rfl⟩
set_option maxHeartbeats 2000000 in
theorem rpairOf_eight {w : World} {g o c : Nat} (hc : 8 ≤ c) (hcm : c ≤ 9223372036854775807) (x : Nat → Nat) (hx : ∀ j, j < 8 → w.cell? ⟨g, o + j, none⟩ = some (.int .u8 ((x j : Nat) : Int))) (hl : ∀ j, x j < 256) :
    Calls Try.prog 21 #[.slice (some ⟨g, o, none⟩) 8 c] w fun e w' => e = .returned (.tuple #[.int .u32 ((word (x 0) (x 1) (x 2) (x 3) : Nat) : Int), .int .u32 ((word (x 4) (x 5) (x 6) (x 7) : Nat) : Int), .int .i64 0]) ∧ Below w.heap.size w w' := by
  have a0 := hx 0 (by omega)
  have a1 := hx 1 (by omega)
  have a2 := hx 2 (by omega)
  have a3 := hx 3 (by omega)
  have a4 := hx 4 (by omega)
  have a5 := hx 5 (by omega)
  have a6 := hx 6 (by omega)
  have a7 := hx 7 (by omega)
  have l0 := hl 0
  have l1 := hl 1
  have l2 := hl 2
  have l3 := hl 3
  have l4 := hl 4
  have l5 := hl 5
  have l6 := hl 6
  have l7 := hl 7
  have Hw := Lib.hid (show word (x 0) (x 1) (x 2) (x 3) = 256 * (256 * (256 * x 0 + x 1) + x 2) + x 3 by unfold word; omega)
  have Hv := Lib.hid (show word (x 4) (x 5) (x 6) (x 7) = 256 * (256 * (256 * x 4 + x 5) + x 6) + x 7 by unfold word; omega)
  generalize word (x 0) (x 1) (x 2) (x 3) = u at *
  generalize word (x 4) (x 5) (x 6) (x 7) = v at *
  generalize x 0 = x0 at *
  generalize x 1 = x1 at *
  generalize x 2 = x2 at *
  generalize x 3 = x3 at *
  generalize x 4 = x4 at *
  generalize x 5 = x5 at *
  generalize x 6 = x6 at *
  generalize x 7 = x7 at *
  rw [Nat.add_zero] at a0
  clear hx hl
  go_enter Try.func21, Try.ntmps21
  go_wp2
  refine wp_loop_rounds 5 ?_
  rw [rounds_succ]; go_wp2
  rw [rounds_succ]; go_wp2
  rw [rounds_succ]; go_wp2
  rw [rounds_succ]; go_wp2
  rw [rounds_succ]; go_wp2
  go_ret3
  refine ⟨?_, Below.refl _ _⟩
  have hu := Hw.out
  have hv := Hv.out
  have e1 : (256 * (256 * (256 * (x0 : Int) + x1) + x2) + x3) = (u : Int) := by omega
  have e2 : (256 * (256 * (256 * (x4 : Int) + x5) + x6) + x7) = (v : Int) := by omega
  rw [← e1, ← e2]
  rfl
theorem get_ret {w : World} {g : Nat} (h : BoxV w g 0) {fn : Func} (hf : fn.results = #[.cell 4 33, .tmp 5]) (tmps : Array Value) (hp : tmps.getD 4 undef = .pointer (some ⟨g, 0, none⟩)) (hq : tmps.getD 5 undef = .int .i64 6) :
    (results fn tmps).run Try.prog w = .ok (.tuple #[zeroV, .int .i64 6]) w := by
  rw [results_cell_tmp hf]
  have hl := run_loadVar_row (P := Try.prog) w g 33 33 #[.int .u32 0, .int .u32 0, .slice none 0 0, .slice none 0 0] (0, 0) _ h.at_ Try.underlying33 rfl (by kernel_rfl)
  rw [hp, hq]
  simp [asAddr, Result.andThen, hl, zeroV]
theorem get_nil (k : Int) (w : World) : Calls Try.prog 14 #[.pointer none, .int .i64 k] w fun e w' => e = .returned (.tuple #[zeroV, .int .i64 6]) ∧ Below w.heap.size w w' := by
  go_enter Try.func14, Try.ntmps14
  go_wp2
  exact bodyPost_ret (get_ret (BoxV.new w 0) rfl _ rfl rfl) rfl ⟨rfl, (Below.refl _ _).alloc (Nat.le_refl _) _⟩
/-- a shelf that no call made -/
structure Shelf0 (w : World) (g : Nat) : Prop where
  c0 : w.cell? ⟨g, 0, none⟩ = some (.int .i64 0)
theorem Shelf0.below {w w' : World} {g : Nat} (h : Shelf0 w g) (b : Below w.heap.size w w') : Shelf0 w' g := ⟨(b.cell (p := ⟨g, 0, none⟩) (World.block_lt_of_cell? w _ h.c0)).trans h.c0⟩
theorem get_zero {w : World} {g : Nat} (h : Shelf0 w g) (k : Int) : Calls Try.prog 14 #[.pointer (some ⟨g, 0, none⟩), .int .i64 k] w fun e w' => e = .returned (.tuple #[zeroV, .int .i64 6]) ∧ Below w.heap.size w w' := by
  have c0 := h.c0
  have c01 := fun X => cell_more c0 X
  go_enter Try.func14, Try.ntmps14
  go_wp2
  exact bodyPost_ret (get_ret (BoxV.new w 0) rfl _ rfl rfl) rfl ⟨rfl, (Below.refl _ _).alloc (Nat.le_refl _) _⟩
theorem put_nil (k : Int) (w : World) : Calls Try.prog 12 #[.pointer none, .int .i64 k, .agg #[.int .u32 0, .int .u32 0, .slice none 0 0, .slice none 0 0]] w fun e w' => e = .returned (.int .i64 6) ∧ Below w.heap.size w w' := by
  go_enter Try.func12, Try.ntmps12
  go_wp2
  go_ret
  exact ⟨rfl, (Below.refl _ _).alloc (Nat.le_refl _) _⟩
theorem put_zero {w : World} {g : Nat} (h : Shelf0 w g) (k : Int) : Calls Try.prog 12 #[.pointer (some ⟨g, 0, none⟩), .int .i64 k, .agg #[.int .u32 0, .int .u32 0, .slice none 0 0, .slice none 0 0]] w fun e w' => e = .returned (.int .i64 6) ∧ Below w.heap.size w w' := by
  have c0 := h.c0
  have c01 := fun X => cell_more c0 X
  go_enter Try.func12, Try.ntmps12
  go_wp2
  go_ret
  exact ⟨rfl, (Below.refl _ _).alloc (Nat.le_refl _) _⟩
theorem sorts_nil (w : World) : Calls Try.prog 18 #[.pointer none] w fun e w' => e = .returned (.slice none 0 0) ∧ Below w.heap.size w w' := by
  go_enter Try.func18, Try.ntmps18
  go_wp2
  go_ret
  exact ⟨rfl, Below.refl _ _⟩
theorem sorts_zero {w : World} {g : Nat} (h : Shelf0 w g) : Calls Try.prog 18 #[.pointer (some ⟨g, 0, none⟩)] w fun e w' => e = .returned (.slice none 0 0) ∧ Below w.heap.size w w' := by
  have c0 := h.c0
  go_enter Try.func18, Try.ntmps18
  go_wp2
  go_ret
  exact ⟨rfl, Below.refl _ _⟩
end Go.Proofs.Ytonfpomgkgljiaa
