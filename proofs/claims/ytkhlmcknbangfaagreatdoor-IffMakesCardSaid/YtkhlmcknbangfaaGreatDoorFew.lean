/- Small words on results and powers of a limb. -/
import Derived.Test.YtkhlmcknbangfaaGreatDoorBase
namespace Go.Proofs.YtkhlmcknbangfaaGreatDoor
set_option linter.unusedSimpArgs false
set_option linter.unusedVariables false
open Go.RowKit
set_option linter.unusedVariables false
theorem Res.le {w w' : World} {N k n c : Nat} {A : Option Addr} {xs : List Nat} (h : Res w w' N A n c xs) (hN : N < 18446744073709551616 ^ k) : n ≤ k := by
  rw [← h.nt.len]
  exact length_of_val (β := 18446744073709551616) (by omega) h.trm (by rw [h.is]; exact hN)
theorem Res.same {w1 w1' w2 w2' : World} {N n c n2 c2 : Nat} {A A2 : Option Addr} {xs ys : List Nat} (h : Res w1 w1' N A n c xs) (h2 : Res w2 w2' N A2 n2 c2 ys) : xs = ys :=
  trm_unique (β := 18446744073709551616) (by omega) h.nt.lim h2.nt.lim h.trm h2.trm (by rw [h.is, h2.is])
theorem Nt.lt_pow {w : World} {B n c : Nat} {A : Option Addr} {xs : List Nat} (h : Nt w B A n c xs) (hn : n ≤ 12) : val 18446744073709551616 xs < 18446744073709551616 ^ 12 := by
  have h1 := val_lt h.lim
  rw [h.len] at h1
  exact Nat.lt_of_lt_of_le h1 (Nat.pow_le_pow_right (by omega) hn)
theorem add_pow {x y i : Nat} (hx : x < 18446744073709551616 ^ i) (hy : y < 18446744073709551616 ^ i) : x + y < 18446744073709551616 ^ (i + 1) := by
  rw [Nat.pow_succ]; omega
theorem mul_pow {x y i j : Nat} (hx : x < 18446744073709551616 ^ i) (hy : y < 18446744073709551616 ^ j) : x * y < 18446744073709551616 ^ (i + j) := by
  rw [Nat.pow_add]
  exact Nat.mul_lt_mul'' hx hy
theorem more_pow {x i j : Nat} (hx : x < 18446744073709551616 ^ i) (h : i ≤ j) : x < 18446744073709551616 ^ j := Nat.lt_of_lt_of_le hx (Nat.pow_le_pow_right (by omega) h)
end Go.Proofs.YtkhlmcknbangfaaGreatDoor
