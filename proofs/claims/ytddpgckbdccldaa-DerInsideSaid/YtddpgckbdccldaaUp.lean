/- nat.shiftUp: a number times a power of two. -/
import Derived.Test.YtddpgckbdccldaaRes
import Derived.Test.YtddpgckbdccldaaMathB
import Derived.BigRegion
import Derived.Laws.Bits64b
namespace Go.Proofs.Ytddpgckbdccldaa
set_option linter.unusedSimpArgs false
set_option linter.unusedVariables false
open Go.RowKit

theorem up_bits {p y : Nat} (x : Nat) (hp : p ≤ 64) (hy : y < 2 ^ p) : bits .or .u64 (y : Int) (IntKind.u64.wrap ((x : Int) * 2 ^ p)) = ((y + x * 2 ^ p % 18446744073709551616 : Nat) : Int) := by
  have e : IntKind.u64.wrap ((x : Int) * 2 ^ p) = ((x * 2 ^ p % 18446744073709551616 : Nat) : Int) := by
    rw [IntKind.wrap_u64]
    have : ((x : Int) * 2 ^ p) = ((x * 2 ^ p : Nat) : Int) := by simp
    rw [this]
    omega
  have hy' : y < 18446744073709551616 := Nat.lt_of_lt_of_le hy (by rw [show (18446744073709551616 : Nat) = 2 ^ 64 from rfl]; exact Nat.pow_le_pow_right (by omega) hp)
  rw [e, bits_or_u64_nat _ _ hy' (Nat.mod_lt _ (by omega)), up_or x hp hy]

theorem up_round {w wr : World} {m q p j t x : Nat} {xs L : List Nat} (hp : p < 64) (hj : j < m) (hx : x < 18446744073709551616) (hxg : xs.getD j 0 = x) (ht : t < 2 ^ p) (hL : Lim 18446744073709551616 L) (hl : L.length = j + q)
    (how : Ow wr w.heap.size (L ++ t :: List.replicate (m - j) 0)) (hbel : Below w.heap.size w wr)
    (hV : val 18446744073709551616 (L ++ [t]) = val 18446744073709551616 (xs.take j) * 2 ^ (64 * q + p)) :
    ∃ (j' : Nat) (L' : List Nat) (t' : Nat), j' ≤ m ∧ Value.int .i64 ((j : Int) + 1) = .int .i64 j' ∧ t' < 2 ^ p ∧ Lim 18446744073709551616 L' ∧ L'.length = j' + q ∧
      Ow ((wr.setCell ⟨w.heap.size, j + q, none⟩ (.int .u64 (bits .or .u64 (t : Int) (IntKind.u64.wrap ((x : Int) * 2 ^ p))))).setCell ⟨w.heap.size, j + q + 1, none⟩ (.int .u64 ((x : Int) / 2 ^ (64 - p)))).drew w.heap.size (L' ++ t' :: List.replicate (m - j') 0) ∧
      Below w.heap.size w ((wr.setCell ⟨w.heap.size, j + q, none⟩ (.int .u64 (bits .or .u64 (t : Int) (IntKind.u64.wrap ((x : Int) * 2 ^ p))))).setCell ⟨w.heap.size, j + q + 1, none⟩ (.int .u64 ((x : Int) / 2 ^ (64 - p)))).drew ∧
      Hid (val 18446744073709551616 (L' ++ [t']) = val 18446744073709551616 (xs.take j') * 2 ^ (64 * q + p)) := by
  refine ⟨j + 1, L ++ [t + x * 2 ^ p % 18446744073709551616], x / 2 ^ (64 - p), hj, by simp, up_top (by omega) hx, hL.append (Lim.one (up_lt x (by omega) ht)), by simp; omega, ?_, ((hbel.setCell (Nat.le_refl _) _).setCell (Nat.le_refl _) _).drew, ?_⟩
  · rw [up_bits x (by omega) ht]
    have e2 : ((x : Int) / 2 ^ (64 - p)) = ((x / 2 ^ (64 - p) : Nat) : Int) := by simp
    rw [e2]
    have h1 := (how.set_ (j + q) (t + x * 2 ^ p % 18446744073709551616)).set_ (j + q + 1) (x / 2 ^ (64 - p))
    have e3 : m - j = (m - (j + 1)) + 1 := by omega
    rw [e3, List.replicate_succ, ← hl] at h1
    have h2 : ((L ++ t :: 0 :: List.replicate (m - (j + 1)) 0).set L.length (t + x * 2 ^ p % 18446744073709551616)).set (L.length + 1) (x / 2 ^ (64 - p)) = (L ++ [t + x * 2 ^ p % 18446744073709551616]) ++ x / 2 ^ (64 - p) :: List.replicate (m - (j + 1)) 0 := by
      simp
    rw [h2, hl] at h1
    exact h1.drew
  · show _ = _
    rw [val_snoc, List.length_append, List.length_singleton, val_snoc, val_take_succ, hxg, Nat.add_mul, Nat.pow_succ, hl]
    rw [val_snoc, hl] at hV
    have := up_step _ _ _ _ _ _ _ _ _ hV (up_sum t x (show p ≤ 64 by omega))
    rw [this]
    congr 1
    rw [two_pow_limb, Nat.pow_add]
    ac_rfl


end Go.Proofs.Ytddpgckbdccldaa
