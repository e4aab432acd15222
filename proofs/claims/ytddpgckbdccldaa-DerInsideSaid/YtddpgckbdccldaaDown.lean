/- nat.shiftDown: the whole part of a number by a power of two. -/
import Derived.Test.YtddpgckbdccldaaUp
namespace Go.Proofs.Ytddpgckbdccldaa
set_option linter.unusedSimpArgs false
set_option linter.unusedVariables false
open Go.RowKit

theorem down_bits {p x : Nat} (y : Nat) (hp : p ≤ 64) (hx : x < 18446744073709551616) : bits .or .u64 ((x : Int) / 2 ^ p) (IntKind.u64.wrap ((y : Int) * 2 ^ (64 - p))) = ((x / 2 ^ p + 2 ^ (64 - p) * (y % 2 ^ p) : Nat) : Int) := by
  have e : IntKind.u64.wrap ((y : Int) * 2 ^ (64 - p)) = ((y * 2 ^ (64 - p) % 18446744073709551616 : Nat) : Int) := by
    rw [IntKind.wrap_u64]
    have : ((y : Int) * 2 ^ (64 - p)) = ((y * 2 ^ (64 - p) : Nat) : Int) := by simp
    rw [this]
    omega
  have e2 : ((x : Int) / 2 ^ p) = ((x / 2 ^ p : Nat) : Int) := by simp
  have hx' : x / 2 ^ p < 18446744073709551616 := Nat.lt_of_le_of_lt (Nat.div_le_self _ _) hx
  rw [e, e2, bits_or_u64_nat _ _ hx' (Nat.mod_lt _ (by omega)), down_or y hp hx]

theorem down_round {w wr : World} {m q p x y : Nat} {ys done : List Nat} (hp : p < 64) (hj : done.length < m - q) (hx : x < 18446744073709551616) (hxg : ys.getD done.length 0 = x) (hyg : ys.getD (done.length + 1) 0 = y) (hL : Lim 18446744073709551616 done)
    (how : Ow wr w.heap.size (done ++ List.replicate (m - q - done.length) 0)) (hbel : Below w.heap.size w wr)
    (hV : val 18446744073709551616 done * 2 ^ p + ys.getD 0 0 % 2 ^ p = val 18446744073709551616 (ys.take done.length) + 18446744073709551616 ^ done.length * (ys.getD done.length 0 % 2 ^ p)) :
    ∃ (done' : List Nat), done'.length ≤ m - q ∧ Value.int .i64 ((done.length : Int) + 1) = .int .i64 done'.length ∧ Lim 18446744073709551616 done' ∧
      Ow (wr.setCell ⟨w.heap.size, done.length, none⟩ (.int .u64 (bits .or .u64 ((x : Int) / 2 ^ p) (IntKind.u64.wrap ((y : Int) * 2 ^ (64 - p)))))).drew w.heap.size (done' ++ List.replicate (m - q - done'.length) 0) ∧
      Below w.heap.size w (wr.setCell ⟨w.heap.size, done.length, none⟩ (.int .u64 (bits .or .u64 ((x : Int) / 2 ^ p) (IntKind.u64.wrap ((y : Int) * 2 ^ (64 - p)))))).drew ∧
      Hid (val 18446744073709551616 done' * 2 ^ p + ys.getD 0 0 % 2 ^ p = val 18446744073709551616 (ys.take done'.length) + 18446744073709551616 ^ done'.length * (ys.getD done'.length 0 % 2 ^ p)) := by
  refine ⟨done ++ [x / 2 ^ p + 2 ^ (64 - p) * (y % 2 ^ p)], by simp; omega, by simp, hL.append (Lim.one (down_digit_lt y (by omega) hx)), ?_, (hbel.setCell (Nat.le_refl _) _).drew, ?_⟩
  · rw [down_bits y (by omega) hx]
    have h1 := how.set_ done.length (x / 2 ^ p + 2 ^ (64 - p) * (y % 2 ^ p))
    have e3 : m - q - done.length = (m - q - (done ++ [x / 2 ^ p + 2 ^ (64 - p) * (y % 2 ^ p)]).length) + 1 := by simp; omega
    rw [e3, List.replicate_succ] at h1
    have h2 : ((done ++ 0 :: List.replicate (m - q - (done ++ [x / 2 ^ p + 2 ^ (64 - p) * (y % 2 ^ p)]).length) 0).set done.length (x / 2 ^ p + 2 ^ (64 - p) * (y % 2 ^ p))) = (done ++ [x / 2 ^ p + 2 ^ (64 - p) * (y % 2 ^ p)]) ++ List.replicate (m - q - (done ++ [x / 2 ^ p + 2 ^ (64 - p) * (y % 2 ^ p)]).length) 0 := by
      simp
    rw [h2] at h1
    exact h1.drew
  · show _ = _
    rw [val_snoc, List.length_append, List.length_singleton, val_take_succ, hxg, hyg, Nat.pow_succ]
    rw [hxg] at hV
    exact down_step _ _ _ _ _ _ _ _ _ _ hV (down_sum y (by omega))


end Go.Proofs.Ytddpgckbdccldaa
