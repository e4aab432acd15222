/- nat.shiftUp: a number times a power of two. -/
import Derived.Test.YtkhlmcknbangfaaGreatDoorRes
import Derived.Test.YtkhlmcknbangfaaGreatDoorMaths
import Derived.BigRegion
import Derived.Laws.Bits64b
namespace Go.Proofs.YtkhlmcknbangfaaGreatDoor
set_option linter.unusedSimpArgs false
set_option linter.unusedVariables false
open Go.RowKit
set_option linter.unusedVariables false

theorem up_bits {p y : Nat} (x : Nat) (hp : p ≤ 64) (hy : y < 2 ^ p) : bits .or .u64 (y : Int) (IntKind.u64.wrap ((x : Int) * 2 ^ p)) = ((y + x * 2 ^ p % 18446744073709551616 : Nat) : Int) := by
  have e : IntKind.u64.wrap ((x : Int) * 2 ^ p) = ((x * 2 ^ p % 18446744073709551616 : Nat) : Int) := by
    rw [IntKind.wrap_u64]
    have : ((x : Int) * 2 ^ p) = ((x * 2 ^ p : Nat) : Int) := by simp
    rw [this]
    omega
  have hy' : y < 18446744073709551616 := Nat.lt_of_lt_of_le hy (by rw [show (18446744073709551616 : Nat) = 2 ^ 64 from rfl]; exact Nat.pow_le_pow_right (by omega) hp)
  rw [e, bits_or_u64_nat _ _ hy' (Nat.mod_lt _ (by omega)), up_or x hp hy]

theorem up_round {w wr : World} {m q p j t x : Nat} {xs L : List Nat} (hp : p < 64) (hj : j < m) (hx : x < 18446744073709551616) (hxg : xs.getD j 0 = x) (ht : t < 2 ^ p) (hL : Lim 18446744073709551616 L) (hl : L.length = j + q)
    (how : Ow wr w.heap.size (L ++ t :: List.replicate (m - j) 0)) (hbel : Below w.heap.size w wr)
    (hV : val 18446744073709551616 (L ++ [t]) = val 18446744073709551616 (xs.take j) * 2 ^ (64 * q + p)) :
    ∃ (j' : Nat) (L' : List Nat) (t' : Nat), j' ≤ m ∧ Value.int .i64 ((j : Int) + 1) = .int .i64 j' ∧ t' < 2 ^ p ∧ Lim 18446744073709551616 L' ∧ L'.length = j' + q ∧
      Ow ((wr.setCell ⟨w.heap.size, j + q, none⟩ (.int .u64 (bits .or .u64 (t : Int) (IntKind.u64.wrap ((x : Int) * 2 ^ p))))).setCell ⟨w.heap.size, j + q + 1, none⟩ (.int .u64 ((x : Int) / 2 ^ (64 - p)))).drew w.heap.size (L' ++ t' :: List.replicate (m - j') 0) ∧
      Below w.heap.size w ((wr.setCell ⟨w.heap.size, j + q, none⟩ (.int .u64 (bits .or .u64 (t : Int) (IntKind.u64.wrap ((x : Int) * 2 ^ p))))).setCell ⟨w.heap.size, j + q + 1, none⟩ (.int .u64 ((x : Int) / 2 ^ (64 - p)))).drew ∧
      Hid (val 18446744073709551616 (L' ++ [t']) = val 18446744073709551616 (xs.take j') * 2 ^ (64 * q + p)) := by
  refine ⟨j + 1, L ++ [t + x * 2 ^ p % 18446744073709551616], x / 2 ^ (64 - p), hj, by simp, up_top (by omega) hx, hL.append (Lim.one (up_lt x (by omega) ht)), by simp; omega, ?_, ((hbel.setCell (Nat.le_refl _) _).setCell (Nat.le_refl _) _).drew, ?_⟩
  · rw [up_bits x (by omega) ht]
    have e2 : ((x : Int) / 2 ^ (64 - p)) = ((x / 2 ^ (64 - p) : Nat) : Int) := by simp
    rw [e2]
    have h1 := (how.set_ (j + q) (t + x * 2 ^ p % 18446744073709551616)).set_ (j + q + 1) (x / 2 ^ (64 - p))
    have e3 : m - j = (m - (j + 1)) + 1 := by omega
    rw [e3, List.replicate_succ, ← hl] at h1
    have h2 : ((L ++ t :: 0 :: List.replicate (m - (j + 1)) 0).set L.length (t + x * 2 ^ p % 18446744073709551616)).set (L.length + 1) (x / 2 ^ (64 - p)) = (L ++ [t + x * 2 ^ p % 18446744073709551616]) ++ x / 2 ^ (64 - p) :: List.replicate (m - (j + 1)) 0 := by
      simp
    rw [h2, hl] at h1
    exact h1.drew
  · show _ = _
    rw [val_snoc, List.length_append, List.length_singleton, val_snoc, val_take_succ, hxg, Nat.add_mul, Nat.pow_succ, hl]
    rw [val_snoc, hl] at hV
    have := up_step _ _ _ _ _ _ _ _ _ hV (up_sum t x (show p ≤ 64 by omega))
    rw [this]
    congr 1
    rw [two_pow_limb, Nat.pow_add]
    ac_rfl

set_option maxHeartbeats 1000000 in
theorem shiftUp_any {w : World} {A : Option Addr} {m c : Nat} {xs : List Nat} (h : Nt w w.heap.size A m c xs) (hn : m ≤ 1099511627776) (q p : Nat) (hp : p < 64) (hq : q ≤ 1024) (k : Int) (hk : k = ((64 * q + p : Nat) : Int)) :
    Calls Tryz.prog 171 #[.slice A m c, .int .i64 k] w (Ret (val 18446744073709551616 xs * 2 ^ (64 * q + p)) w) := by
  have hr := h.rooms
  by_cases h0 : m = 0
  · subst h0
    have e : xs = [] := List.eq_nil_of_length_eq_zero h.len
    have hz : val 18446744073709551616 xs * 2 ^ (64 * q + p) = 0 := by rw [e]; simp [val]
    have Hz := Lib.hid hz
    clear hz e hk
    go_enter Tryz.func171, Tryz.ntmps171
    go_wp2
    go_ret
    exact ⟨_, _, _, _, rfl, Res.nil Hz.out⟩
  · have h0' : ((m : Int) == 0) = false := by simpa using h0
    have e1 : k / 64 = (q : Int) := by omega
    have e2 : k % 64 = (p : Int) := by omega
    have hk0 : 0 ≤ k := by omega
    have hk1 : k ≤ 65600 := by omega
    clear hk
    have Hlen := Lib.hid h.len
    go_enter Tryz.func171, Tryz.ntmps171
    go_wp2_with (first
      | (refine wpList_make_us _ rfl _ _ rfl _ _ (m + q + 1) rfl rfl (by omega) (by omega) (by omega) ?_; intro w1 hw1 hg1))
    go_loopw [24] (fun i wr => ∃ (j : Nat) (L : List Nat) (t : Nat), j ≤ m ∧ i = .int .i64 j ∧ t < 2 ^ p ∧ Lim 18446744073709551616 L ∧ Hid (L.length = j + q) ∧ Ow wr w.heap.size (L ++ t :: List.replicate (m - j) 0) ∧ Below w.heap.size w wr ∧
        Hid (val 18446744073709551616 (L ++ [t]) = val 18446744073709551616 (xs.take j) * 2 ^ (64 * q + p)))
      (fun i _ => m - (intOf i).toNat)
    case atStart =>
      refine ⟨0, List.replicate q 0, 0, Nat.zero_le _, rfl, Nat.two_pow_pos p, lim_replicate (by omega) q, by simp [Hid], ?_, below_none hg1 (Nat.le_refl _), ?_⟩
      · have e : List.replicate q 0 ++ 0 :: List.replicate (m - 0) 0 = List.replicate (m + q + 1) 0 := by
          rw [← List.replicate_succ, List.replicate_append_replicate]; congr 1; omega
        rw [e]; exact hw1
      · show _ = _
        rw [val_append, val_replicate]; simp [val]
    case round =>
      obtain ⟨j, L, t, hj, rfl, ht, hL, hl, how, hbel, hV⟩ := hrel
      by_cases hlt : j < m
      · obtain ⟨b, off, rfl, hb, hx⟩ := (h.below hbel).at_ hlt
        have hc1 : wr.cell? ⟨w.heap.size, j + q, none⟩ = some (.int .u64 (t : Int)) := how.cell (by have := hl.out; simp [← this])
        have hc2 : wr.cell? ⟨w.heap.size, j + q + 1, none⟩ = some (.int .u64 ((0 : Nat) : Int)) := how.cell (by
          have := hl.out
          rw [show m - j = (m - (j + 1)) + 1 by omega, List.replicate_succ, ← this]
          simp)
        have hf1 := how.frozen (j + q)
        have hf2 := how.frozen (j + q + 1)
        have hxl := h.lim.get (by omega) j
        generalize hxe : xs.getD j 0 = x at *
        have Hxe := Lib.hid hxe
        clear hxe
        go_wp2
        go_region
        all_goals go_wp2
        all_goals go_roundw
        case rel => exact up_round hp hlt hxl Hxe.out ht hL hl.out how hbel hV.out
        case measure => simp [intOf]; omega
      · obtain rfl : j = m := by omega
        have hll : (L ++ [t]).length = j + q + 1 := by have := hl.out; simp [this]
        have hlim : Lim 18446744073709551616 (L ++ [t]) := hL.append (Lim.one (Nat.lt_of_lt_of_le ht (by rw [show (18446744073709551616 : Nat) = 2 ^ 64 from rfl]; exact Nat.pow_le_pow_right (by omega) (by omega))))
        have hv := hV.out
        rw [List.take_of_length_le (by rw [h.len]; exact Nat.le_refl _)] at hv
        have how' : Ow wr w.heap.size (L ++ [t]) := by simpa using how
        have Hcut := Lib.hid (cut_res how' (Nat.le_refl _) hbel (by rw [hll]; unfold maxLen; omega) hlim hll.symm hv)
        clear hll hv
        go_wp2_with (go_at_call 82; refine Hcut.out.mono ?_; rintro e w' ⟨A', n', c', xs', rfl, hres⟩)
        go_ret
        exact ⟨_, _, _, _, rfl, hres⟩
end Go.Proofs.YtkhlmcknbangfaaGreatDoor
