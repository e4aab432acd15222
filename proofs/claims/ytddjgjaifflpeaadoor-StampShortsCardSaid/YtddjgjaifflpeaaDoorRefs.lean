/- The document's own differences, moves, offsets, delays, short times. -/
import Derived.Test.YtddjgjaifflpeaaDoorReckon
import Derived.Test.YtddjgjaifflpeaaDoorDigits
namespace Go.Proofs.YtddjgjaifflpeaaDoor
open Go.RowKit
set_option linter.unusedVariables false
set_option maxRecDepth 100000

theorem rmake_any (s p : Nat) (hs : s < 4294967296) (hp : p < 4294967296) (w : World) : Calls Tryd.prog 15 #[.int .u32 (s : Int), .int .u32 (p : Int)] w fun e w' => e = .returned (.int .u64 ((s * 4294967296 + p : Nat) : Int)) ∧ w = w' := by
  have h : Hid ((s : Int) * 4294967296 + (p : Int) = ((s * 4294967296 + p : Nat) : Int)) := Lib.hid (by omega)
  go_enter Tryd.func15, Tryd.ntmps15
  go_wp2
  go_ret
  refine ⟨?_, rfl⟩
  rw [← h.out]
  rfl
theorem xor_ones (m : Nat) (h : m < 18446744073709551616) : 18446744073709551615 ^^^ m = 18446744073709551615 - m := by
  have h' : m < 2 ^ 64 := h
  have e : (18446744073709551615 : Nat) = 2 ^ 64 - 1 := by decide
  rw [e, show 2 ^ 64 - 1 - m = 2 ^ 64 - (m + 1) by omega]
  apply Nat.eq_of_testBit_eq
  intro i
  rw [Nat.testBit_xor, Nat.testBit_two_pow_sub_one, Nat.testBit_two_pow_sub_succ h']
  by_cases hi : i < 64
  · simp [hi]
  · have : m.testBit i = false := Nat.testBit_lt_two_pow (Nat.lt_of_lt_of_le h' (Nat.pow_le_pow_right (by omega) (by omega)))
    simp [hi, this]
theorem bits_not (m : Int) (h : 0 ≤ m ∧ m < 18446744073709551616) : bits BinOp.xor IntKind.u64 IntKind.u64.max m = 18446744073709551615 - m := by
  obtain ⟨k, rfl⟩ := Int.eq_ofNat_of_zero_le h.1
  have := u64_xor_nat 18446744073709551615 k (by omega) (by omega)
  rw [xor_ones k (by omega)] at this
  have e : IntKind.u64.max = ((18446744073709551615 : Nat) : Int) := rfl
  rw [e, this]
  omega
theorem rdiff_any (a b : Int) (ha : 0 ≤ a ∧ a < 18446744073709551616) (hb : 0 ≤ b ∧ b < 18446744073709551616) (w : World) : Calls Tryd.prog 17 #[.int .u64 a, .int .u64 b] w fun e w' => e = .returned (.int .i64 (df a b)) ∧ w = w' := by
  obtain ⟨m, hm⟩ : ∃ m, (a - b) % 18446744073709551616 = m := ⟨_, rfl⟩
  have e1 : IntKind.u64.wrap (a - b) = m := by rw [IntKind.wrap_u64]; exact hm
  have bm : 0 ≤ m ∧ m < 18446744073709551616 := by omega
  have hn := Lib.hid (bits_not m bm)
  by_cases hl : m < 9223372036854775808
  · have hd : Hid (df a b = m) := Lib.hid (by unfold df; omega)
    clear hm
    go_enter Tryd.func17, Tryd.ntmps17
    go_wp2
    go_ret
    exact ⟨by rw [hd.out]; rfl, rfl⟩
  · have hd : Hid (df a b = m - 18446744073709551616) := Lib.hid (by unfold df; omega)
    have hw : Hid (wrap64 (wrap64 (-wrap64 (18446744073709551615 - m)) - 1) = m - 18446744073709551616) := Lib.hid (by unfold wrap64; omega)
    clear hm
    go_enter Tryd.func17, Tryd.ntmps17
    go_wp2
    go_ret
    refine ⟨?_, rfl⟩
    show Ending.returned (Value.int IntKind.i64 (wrap64 (wrap64 (-wrap64 (bits BinOp.xor IntKind.u64 IntKind.u64.max m)) - 1))) = _
    rw [hn.out, hw.out, hd.out]
theorem rmove_any (a d : Int) (ha : 0 ≤ a ∧ a < 18446744073709551616) (hd : -9223372036854775808 ≤ d ∧ d < 9223372036854775808) (w : World) : Calls Tryd.prog 19 #[.int .u64 a, .int .i64 d] w fun e w' => e = .returned (.int .u64 (mv a d)) ∧ w = w' := by
  have h1 : Hid (IntKind.u64.wrap (a + d) = mv a d) := Lib.hid (by rw [IntKind.wrap_u64]; rfl)
  have h2 : Hid (IntKind.u64.wrap (IntKind.u64.wrap (a + (d + 1)) - 1) = mv a d) := Lib.hid (by simp only [IntKind.wrap_u64]; unfold mv; omega)
  go_enter Tryd.func19, Tryd.ntmps19
  go_wp2
  · go_ret
    refine ⟨?_, rfl⟩
    rw [← h1.out]
    rfl
  · go_ret
    refine ⟨?_, rfl⟩
    rw [← h2.out]
    rfl
theorem td_pos (x : Int) (h : 0 ≤ x) : x.tdiv 2 = x / 2 := Int.tdiv_eq_ediv_of_nonneg h
theorem td_neg (x : Int) (h : x < 0) : x.tdiv 2 = -((-x) / 2) := by
  have e : x = -(-x) := by omega
  rw [e, Int.neg_tdiv, Int.tdiv_eq_ediv_of_nonneg (by omega)]
  simp
theorem tm_two (x : Int) : x.tmod 2 = x - 2 * x.tdiv 2 := Int.tmod_def x 2
theorem rdown_any (x : Int) (hx : -9223372036854775808 ≤ x ∧ x < 9223372036854775808) (w : World) : Calls Tryd.prog 37 #[.int .i64 x] w fun e w' => e = .returned (.int .i64 (x / 2)) ∧ w = w' := by
  by_cases h0 : 0 ≤ x
  · go_enter Tryd.func37, Tryd.ntmps37
    go_wp2
    go_ret
    exact ⟨rfl, rfl⟩
  · have t1 := td_neg x (by omega)
    have t2 := tm_two x
    rw [t1] at t2
    by_cases hev : x % 2 = 0
    · have e1 : x.tdiv 2 = x / 2 := by rw [t1]; omega
      have e2 : x.tmod 2 = 0 := by rw [t2]; omega
      clear t1 t2 hev
      go_enter Tryd.func37, Tryd.ntmps37
      go_wp2
      all_goals first | (go_ret; exact ⟨rfl, rfl⟩) | (exfalso; simp_all; done)
    · have e1 : x.tdiv 2 = x / 2 + 1 := by rw [t1]; omega
      have e2 : x.tmod 2 = -1 := by rw [t2]; omega
      have e3 : x / 2 + 1 - 1 = x / 2 := by omega
      clear t1 t2 hev
      go_enter Tryd.func37, Tryd.ntmps37
      go_wp2
      all_goals first | (go_ret; exact ⟨rfl, rfl⟩) | (exfalso; simp_all; done)
end Go.Proofs.YtddjgjaifflpeaaDoor
