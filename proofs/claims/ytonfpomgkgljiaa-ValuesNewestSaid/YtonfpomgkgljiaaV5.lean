/- values.numberOf, values.PairOf; what is signed of a value without bytes. -/
import Derived.Test.YtonfpomgkgljiaaV4
import Derived.Laws.BitsAllLaws
import Derived.OwnWalk
namespace Go.Proofs.Ytonfpomgkgljiaa
open Go.RowKit
set_option linter.unusedVariables false
set_option maxRecDepth 100000

def wo (a b : Nat) : Nat := (bits .or .u32 (a : Int) (b : Int)).toNat
theorem wrap_u32_nonneg' (n : Int) : 0 ≤ IntKind.u32.wrap n := by rw [IntKind.wrap_u32']; omega
theorem bits_u32_nonneg (o : BinOp) (h : o = .xor ∨ o = .and ∨ o = .or) (a b : Int) : 0 ≤ bits o .u32 a b := by
  rcases h with rfl | rfl | rfl <;> exact wrap_u32_nonneg' _
theorem bits_u32_lt (o : BinOp) (h : o = .xor ∨ o = .and ∨ o = .or) (a b : Int) : bits o .u32 a b < 4294967296 := by
  have : ∀ n : Int, IntKind.u32.wrap n < 4294967296 := fun n => by rw [IntKind.wrap_u32']; omega
  rcases h with rfl | rfl | rfl <;> exact this _
theorem bits_wo (a b : Nat) : bits .or .u32 (a : Int) (b : Int) = (wo a b : Int) := by
  have := bits_u32_nonneg .or (by simp) (a : Int) (b : Int); unfold wo; omega
theorem wo_nat {a b : Nat} (ha : a < 4294967296) (hb : b < 4294967296) : wo a b = a ||| b := by
  unfold wo; rw [u32_or_nat a b ha hb]; rfl
theorem or_add {a b n : Nat} (hb : b < 2 ^ n) : a * 2 ^ n ||| b = a * 2 ^ n + b := by
  rw [Nat.mul_comm, ← Nat.two_pow_add_eq_or_of_lt hb]
def word (a b c d : Nat) : Nat := ((a * 256 + b) * 256 + c) * 256 + d
theorem Try.info5' : (Try.prog.info? 5).map (fun i => (i.zero, i.size, i.bytes)) = some (some (.int .u8 0), 1, 1) := by kernel_rfl
theorem then_ {W w w' : World} (B : Below W.heap.size W w) (b : Below w.heap.size w w') : Below W.heap.size W w' := B.trans (b.mono B.size)
theorem or_byte {n c : Nat} (hn : n < 16777216) (hc : c < 256) : bits .or .u32 ((n : Int) * 256) (c : Int) = ((n * 256 + c : Nat) : Int) := by
  rw [show ((n : Int) * 256) = ((n * 256 : Nat) : Int) by omega, bits_wo, wo_nat (by omega) (by omega), or_add (n := 8) (by omega)]
theorem or_zero (c : Nat) (hc : c < 256) : bits .or .u32 0 (c : Int) = (c : Int) := by
  have := or_byte (n := 0) (c := c) (by omega) hc
  simpa using this
set_option maxHeartbeats 1000000 in
theorem numberOf_any (x0 x1 x2 x3 : Nat) (h0 : x0 < 256) (h1 : x1 < 256) (h2 : x2 < 256) (h3 : x3 < 256) (w : World) :
    Calls Try.prog 32 #[.agg #[.int .u8 (x0 : Int), .int .u8 (x1 : Int), .int .u8 (x2 : Int), .int .u8 (x3 : Int)]] w fun e w' => e = .returned (.int .u32 ((word x0 x1 x2 x3 : Nat) : Int)) ∧ Below w.heap.size w w' := by
  have o0 := or_zero x0 h0
  have o1 := or_byte (n := x0) (c := x1) (by omega) h1
  obtain ⟨p2, e2⟩ : ∃ p2, x0 * 256 + x1 = p2 := ⟨_, rfl⟩
  rw [e2] at o1
  have l2 : p2 < 65536 := by omega
  have o2 := or_byte (n := p2) (c := x2) (by omega) h2
  obtain ⟨p3, e3⟩ : ∃ p3, p2 * 256 + x2 = p3 := ⟨_, rfl⟩
  rw [e3] at o2
  have l3 : p3 < 16777216 := by omega
  have o3 := or_byte (n := p3) (c := x3) (by omega) h3
  obtain ⟨p4, e4⟩ : ∃ p4, p3 * 256 + x3 = p4 := ⟨_, rfl⟩
  rw [e4] at o3
  have Hw := Lib.hid (show word x0 x1 x2 x3 = p4 by unfold word; omega)
  obtain ⟨w1, hw1⟩ : ∃ w1, w1 = w.alloc (.cells #[.int .u8 (x0 : Int), .int .u8 (x1 : Int), .int .u8 (x2 : Int), .int .u8 (x3 : Int)] 67) := ⟨_, rfl⟩
  have b1 : Below w.heap.size w w1 := by rw [hw1]; exact (Below.refl _ _).alloc (Nat.le_refl _) _
  have HW := Lib.hid hw1
  have i0 : ∀ W : World, (Instr.index 67 (.agg #[.int .u8 (x0 : Int), .int .u8 (x1 : Int), .int .u8 (x2 : Int), .int .u8 (x3 : Int)]) (.int .i64 0)).run Try.prog W = .ok (.int .u8 (x0 : Int)) W := fun W => by rfl
  have i1 : ∀ W : World, (Instr.index 67 (.agg #[.int .u8 (x0 : Int), .int .u8 (x1 : Int), .int .u8 (x2 : Int), .int .u8 (x3 : Int)]) (.int .i64 1)).run Try.prog W = .ok (.int .u8 (x1 : Int)) W := fun W => by rfl
  have i2 : ∀ W : World, (Instr.index 67 (.agg #[.int .u8 (x0 : Int), .int .u8 (x1 : Int), .int .u8 (x2 : Int), .int .u8 (x3 : Int)]) (.int .i64 2)).run Try.prog W = .ok (.int .u8 (x2 : Int)) W := fun W => by rfl
  have i3 : ∀ W : World, (Instr.index 67 (.agg #[.int .u8 (x0 : Int), .int .u8 (x1 : Int), .int .u8 (x2 : Int), .int .u8 (x3 : Int)]) (.int .i64 3)).run Try.prog W = .ok (.int .u8 (x3 : Int)) W := fun W => by rfl
  clear hw1 e2 e3 e4
  go_enter Try.func32, Try.ntmps32
  go_wp2
  refine wp_loop_rounds 5 ?_
  rw [rounds_succ]; go_wp2
  rw [rounds_succ]; go_wp2
  rw [rounds_succ]; go_wp2
  rw [rounds_succ]; go_wp2
  rw [rounds_succ]; go_wp2
  change bodyPost _ _ _ _ _ (w.alloc (.cells #[.int .u8 (x0 : Int), .int .u8 (x1 : Int), .int .u8 (x2 : Int), .int .u8 (x3 : Int)] 67))
  rw [← HW.out, Hw.out]
  go_ret
  exact ⟨rfl, b1⟩
set_option maxHeartbeats 1000000 in
theorem pairOf_bad (A : Option Addr) (n c : Nat) (hn : n ≠ 8) (hl : n ≤ 140737488351232) (w : World) : Calls Try.prog 20 #[.slice A n c] w fun e w' => e = .returned (.tuple #[.int .u32 0, .int .u32 0, .int .i64 3]) ∧ w = w' := by
  have h : ¬ ((n : Int) = 8) := by omega
  go_enter Try.func20, Try.ntmps20
  go_wp2
  go_ret3
  exact ⟨rfl, rfl⟩
set_option maxHeartbeats 2000000 in
theorem pairOf_eight {w : World} {g o c : Nat} (hc : 8 ≤ c) (hcm : c ≤ 9223372036854775807) (x : Nat → Nat) (hx : ∀ j, j < 8 → w.cell? ⟨g, o + j, none⟩ = some (.int .u8 ((x j : Nat) : Int))) (hl : ∀ j, x j < 256) :
    Calls Try.prog 20 #[.slice (some ⟨g, o, none⟩) 8 c] w fun e w' => e = .returned (.tuple #[.int .u32 ((word (x 0) (x 1) (x 2) (x 3) : Nat) : Int), .int .u32 ((word (x 4) (x 5) (x 6) (x 7) : Nat) : Int), .int .i64 0]) ∧ Below w.heap.size w w' := by
  have a0 := hx 0 (by omega)
  have a1 := hx 1 (by omega)
  have a2 := hx 2 (by omega)
  have a3 := hx 3 (by omega)
  have a4 := hx 4 (by omega)
  have a5 := hx 5 (by omega)
  have a6 := hx 6 (by omega)
  have a7 := hx 7 (by omega)
  have N1 := Lib.hid (numberOf_any (x 0) (x 1) (x 2) (x 3) (hl 0) (hl 1) (hl 2) (hl 3))
  have N2 := Lib.hid (numberOf_any (x 4) (x 5) (x 6) (x 7) (hl 4) (hl 5) (hl 6) (hl 7))
  have hgl : g < w.drew.heap.size := World.block_lt_of_cell? w _ a0
  generalize x 0 = x0 at *
  generalize x 1 = x1 at *
  generalize x 2 = x2 at *
  generalize x 3 = x3 at *
  generalize x 4 = x4 at *
  generalize x 5 = x5 at *
  generalize x 6 = x6 at *
  generalize x 7 = x7 at *
  rw [Nat.add_zero] at a0
  generalize word x0 x1 x2 x3 = u at *
  generalize word x4 x5 x6 x7 = v at *
  clear hx hl
  have d0 : w.drew.cell? ⟨g, o, none⟩ = some (.int .u8 (x0 : Int)) := a0
  have d1 : w.drew.cell? ⟨g, o + 1, none⟩ = some (.int .u8 (x1 : Int)) := a1
  have d2 : w.drew.cell? ⟨g, o + 2, none⟩ = some (.int .u8 (x2 : Int)) := a2
  have d3 : w.drew.cell? ⟨g, o + 3, none⟩ = some (.int .u8 (x3 : Int)) := a3
  have d4 : w.drew.cell? ⟨g, o + 4, none⟩ = some (.int .u8 (x4 : Int)) := a4
  have d5 : w.drew.cell? ⟨g, o + 5, none⟩ = some (.int .u8 (x5 : Int)) := a5
  have d6 : w.drew.cell? ⟨g, o + 6, none⟩ = some (.int .u8 (x6 : Int)) := a6
  have d7 : w.drew.cell? ⟨g, o + 7, none⟩ = some (.int .u8 (x7 : Int)) := a7
  have Bd : Below w.heap.size w w.drew := (Below.refl _ _).drew
  clear a0 a1 a2 a3 a4 a5 a6 a7
  have ar1 : ∀ W : World, (Instr.arrayAt 67 (.slice (some ⟨g, o, none⟩) 8 c)).run Try.prog W = .ok (.pointer (some ⟨g, o, none⟩)) W := fun W => by simp [Instr.arrayAt, run_underlying Try.underlying67]
  have ar2 : ∀ W : World, (Instr.arrayAt 67 (.slice (some ⟨g, o + 4, none⟩) 4 (c - 4))).run Try.prog W = .ok (.pointer (some ⟨g, o + 4, none⟩)) W := fun W => by simp [Instr.arrayAt, run_underlying Try.underlying67]
  go_enter Try.func20, Try.ntmps20
  go_wp2
  go_region_held (fun w' => w'.cell? ⟨g, o, none⟩ = some (.int .u8 (x0 : Int)) ∧ w'.cell? ⟨g, o + 1, none⟩ = some (.int .u8 (x1 : Int)) ∧ w'.cell? ⟨g, o + 2, none⟩ = some (.int .u8 (x2 : Int)) ∧ w'.cell? ⟨g, o + 3, none⟩ = some (.int .u8 (x3 : Int)) ∧ w'.cell? ⟨g, o + 4, none⟩ = some (.int .u8 (x4 : Int)) ∧ w'.cell? ⟨g, o + 5, none⟩ = some (.int .u8 (x5 : Int)) ∧ w'.cell? ⟨g, o + 6, none⟩ = some (.int .u8 (x6 : Int)) ∧ w'.cell? ⟨g, o + 7, none⟩ = some (.int .u8 (x7 : Int)))
    (first | exact ⟨k0, k1, k2, k3, k4, k5, k6, k7⟩ | exact ⟨f0, f1, f2, f3, f4, f5, f6, f7⟩ | exact ⟨d0, d1, d2, d3, d4, d5, d6, d7⟩)
    ((first
    | (go_at_call 32; with_reducible refine (N1.out _).mono ?_; rintro e w5 ⟨rfl, b5⟩
       have f0 := (b5.cell (p := ⟨g, o, none⟩) hgl).trans d0
       have f1 := (b5.cell (p := ⟨g, o + 1, none⟩) hgl).trans d1
       have f2 := (b5.cell (p := ⟨g, o + 2, none⟩) hgl).trans d2
       have f3 := (b5.cell (p := ⟨g, o + 3, none⟩) hgl).trans d3
       have f4 := (b5.cell (p := ⟨g, o + 4, none⟩) hgl).trans d4
       have f5 := (b5.cell (p := ⟨g, o + 5, none⟩) hgl).trans d5
       have f6 := (b5.cell (p := ⟨g, o + 6, none⟩) hgl).trans d6
       have f7 := (b5.cell (p := ⟨g, o + 7, none⟩) hgl).trans d7
       have hg5 : g < w5.heap.size := Nat.lt_of_lt_of_le hgl b5.size)
    | (go_at_call 32; with_reducible refine (N2.out _).mono ?_; rintro e w6 ⟨rfl, b6⟩
       have k0 := (b6.cell (p := ⟨g, o, none⟩) hg5).trans f0
       have k1 := (b6.cell (p := ⟨g, o + 1, none⟩) hg5).trans f1
       have k2 := (b6.cell (p := ⟨g, o + 2, none⟩) hg5).trans f2
       have k3 := (b6.cell (p := ⟨g, o + 3, none⟩) hg5).trans f3
       have k4 := (b6.cell (p := ⟨g, o + 4, none⟩) hg5).trans f4
       have k5 := (b6.cell (p := ⟨g, o + 5, none⟩) hg5).trans f5
       have k6 := (b6.cell (p := ⟨g, o + 6, none⟩) hg5).trans f6
       have k7 := (b6.cell (p := ⟨g, o + 7, none⟩) hg5).trans f7)))
  all_goals go_wp2
  all_goals go_ret3
  all_goals exact ⟨rfl, then_ (then_ Bd b5) b6⟩
set_option maxHeartbeats 2000000 in
/-- what is signed of nothing has twelve bytes -/
theorem signed_nil (w : World) : Calls Try.prog 25 #[.agg #[.int .u32 0, .int .u32 0, .slice none 0 0, .slice none 0 0]] w fun e w' => (∃ A c, e = .returned (.slice A 12 c)) ∧ Below w.heap.size w w' := by
  obtain ⟨w2, hw2⟩ : ∃ w2, w2 = (w.alloc (ObjV 0)).alloc (.cells (bs (List.replicate 12 0)).toArray 71) := ⟨_, rfl⟩
  have b2 : Below w.heap.size w w2 := by rw [hw2]; exact ((Below.refl _ _).alloc (Nat.le_refl _) _).alloc (by simp) _
  have x2 : Bb w2 (w.heap.size + 1) 71 (List.replicate 12 0) := by
    rw [hw2]
    have := World.alloc_heap_new (w.alloc (ObjV 0)) (.cells (bs (List.replicate 12 0)).toArray 71)
    rwa [World.size_alloc] at this
  have v2 : BoxV w2 w.heap.size 0 := by rw [hw2]; exact (BoxV.new w 0).alloc _
  have HP := Lib.hid (fun (w3 : World) (o : Nat) (n : Nat) (c : Nat) (x3 : Bb w3 (w.heap.size + 1) 71 (List.replicate 12 0)) (ho : o + 4 ≤ 12) (hn : 4 ≤ n) => place_any (a := 0) (o := o) (n := n) (c := c) x3 (by omega) hn (by simpa using ho))
  have j0 : ∀ W : World, (Instr.index 72 (.agg #[.int .u32 0, .int .u32 0, .int .u32 0]) (.int .i64 0)).run Try.prog W = .ok (.int .u32 0) W := fun W => by rfl
  have j1 : ∀ W : World, (Instr.index 72 (.agg #[.int .u32 0, .int .u32 0, .int .u32 0]) (.int .i64 1)).run Try.prog W = .ok (.int .u32 0) W := fun W => by rfl
  have j2 : ∀ W : World, (Instr.index 72 (.agg #[.int .u32 0, .int .u32 0, .int .u32 0]) (.int .i64 2)).run Try.prog W = .ok (.int .u32 0) W := fun W => by rfl
  obtain ⟨i5, hi5, hz0, hz1, hz2⟩ := info_parts Try.info5'
  have ap : ∀ W : World, (Builtin.append_ #[31, 31] 31 #[.slice (some ⟨w.heap.size + 1, 0, none⟩) 12 12, .slice none 0 0]).run Try.prog W = .ok (.slice (some ⟨w.heap.size + 1, 0, none⟩) 12 12) W := fun W => by
    simp [Builtin.append_, run_underlying Try.underlying31, sizeOf, typeInfo, hi5, Builtin.lenOf, Builtin.firstCells, storeCells]
  have HW := Lib.hid hw2
  have s2 : w2.heap.size = w.heap.size + 2 := by rw [hw2]; simp
  clear hw2
  go_enter Try.func25, Try.ntmps25
  go_wp2
  change Code.wp _ _ _ _ ((w.alloc (ObjV 0)).alloc (.cells (bs (List.replicate 12 0)).toArray 71))
  rw [← HW.out]
  refine wp_loop_rounds 4 ?_
  rw [rounds_succ]; go_wp2_with fail
  refine (HP.out w2 0 12 12 x2 (by omega) (by omega)).mono ?_
  rintro e w3 ⟨⟨r3, rfl⟩, x3, b3⟩
  rw [show splice (List.replicate 12 0) 0 (by4 0) = List.replicate 12 0 from rfl] at x3
  have c3 := b2.trans (b3.mono (Nat.le_succ _))
  have v3 : BoxV w3 w.heap.size 0 := ⟨(b3.block _ (Nat.lt_succ_self _)).trans v2.at_⟩
  clear b3 x2 b2 v2
  go_wp2_with fail
  rw [rounds_succ]; go_wp2_with fail
  refine (HP.out w3 4 8 8 x3 (by omega) (by omega)).mono ?_
  rintro e w4 ⟨⟨r4, rfl⟩, x4, b4⟩
  rw [show splice (List.replicate 12 0) 4 (by4 0) = List.replicate 12 0 from rfl] at x4
  have c4 := c3.trans (b4.mono (Nat.le_succ _))
  have v4 : BoxV w4 w.heap.size 0 := ⟨(b4.block _ (Nat.lt_succ_self _)).trans v3.at_⟩
  clear b4 x3 c3 v3
  go_wp2_with fail
  rw [rounds_succ]; go_wp2_with fail
  refine (HP.out w4 8 4 4 x4 (by omega) (by omega)).mono ?_
  rintro e w5 ⟨⟨r5, rfl⟩, x5, b5⟩
  rw [show splice (List.replicate 12 0) 8 (by4 0) = List.replicate 12 0 from rfl] at x5
  have c5 := c4.trans (b5.mono (Nat.le_succ _))
  have v5 : BoxV w5 w.heap.size 0 := ⟨(b5.block _ (Nat.lt_succ_self _)).trans v4.at_⟩
  clear b5 x4 c4 v4
  obtain ⟨m0, m1, m2, m3⟩ := v5.cells
  go_wp2_with fail
  rw [rounds_succ]; go_wp2
  have m2' : w5.drew.cell? ⟨w.heap.size, 2, none⟩ = some (.slice none 0 0) := m2
  have c5' : Below w.heap.size w w5.drew := c5.drew
  go_region_held (fun w' => w'.cell? ⟨w.heap.size, 2, none⟩ = some (.slice none 0 0)) (exact m2') (fail)
  go_wp2
  go_ret
  exact ⟨⟨_, _, rfl⟩, c5'⟩
end Go.Proofs.Ytonfpomgkgljiaa
