/- modn: Mod, Mul, isNought, Gcd. -/
import Derived.Test.YtkhlmcknbangfaaGreatDoorCases
namespace Go.Proofs.YtkhlmcknbangfaaGreatDoor
set_option linter.unusedSimpArgs false
set_option linter.unusedVariables false
open Go.RowKit
set_option linter.unusedVariables false

/-- what a call hands back: a row without noughts at its end, of a known value -/
structure Rs (w w' : World) (N : Nat) (A : Option Addr) (n c : Nat) (xs : List Nat) : Prop where
  nt : Nt w' w'.heap.size A n c xs
  trm : Trm xs
  is : val 18446744073709551616 xs = N
  bel : Below w.heap.size w w'
theorem Res.rs {w w' : World} {N : Nat} {A : Option Addr} {n c : Nat} {xs : List Nat} (h : Res w w' N A n c xs) : Rs w w' N A n c xs := ⟨h.nt, h.trm, h.is, h.bel⟩
theorem Rs.le {w w' : World} {N k n c : Nat} {A : Option Addr} {xs : List Nat} (h : Rs w w' N A n c xs) (hN : N < 18446744073709551616 ^ k) : n ≤ k := by
  rw [← h.nt.len]
  exact length_of_val (β := 18446744073709551616) (by omega) h.trm (by rw [h.is]; exact hN)
theorem trm_same {xs ys : List Nat} (h : Trm xs) (k : Trm ys) (hl : Lim 18446744073709551616 xs) (kl : Lim 18446744073709551616 ys) (e : val 18446744073709551616 xs = val 18446744073709551616 ys) : xs = ys :=
  trm_unique (β := 18446744073709551616) (by omega) hl kl h k e
/-- a number of up to so many limbs has a value below that power -/
theorem Nt.below_pow {w : World} {B n c k : Nat} {A : Option Addr} {xs : List Nat} (h : Nt w B A n c xs) (hn : n ≤ k) : val 18446744073709551616 xs < 18446744073709551616 ^ k := by
  have h1 := val_lt h.lim
  rw [h.len] at h1
  exact Nat.lt_of_lt_of_le h1 (Nat.pow_le_pow_right (by omega) hn)
def RetS (N : Nat) (w : World) (e : Ending) (w' : World) : Prop := ∃ A n c xs, e = .returned (.slice A n c) ∧ Rs w w' N A n c xs
def RetT (N : Nat) (w : World) (e : Ending) (w' : World) : Prop := ∃ A n c xs, e = .returned (.tuple #[.slice A n c, .int .i64 0]) ∧ Rs w w' N A n c xs
def RetBad (k : Int) (w : World) (e : Ending) (w' : World) : Prop := e = .returned (.tuple #[.slice none 0 0, .int .i64 k]) ∧ Below w.heap.size w w'

set_option maxHeartbeats 1000000 in
theorem mod_pos {w : World} {A A2 : Option Addr} {n c n2 c2 : Nat} {xs ys : List Nat} (h : Nt w w.heap.size A n c xs) (h2 : Nt w w.heap.size A2 n2 c2 ys) (hn : n ≤ 1099511627776) (hb : 0 < val 18446744073709551616 ys) :
    Calls Tryz.prog 66 #[.slice A n c, .slice A2 n2 c2] w (RetT (val 18446744073709551616 xs % val 18446744073709551616 ys) w) := by
  go_enter Tryz.func66, Tryz.ntmps66
  go_wp2_with fail
  refine (div_pos h h2 hn hb).mono ?_
  rintro e w1 ⟨A1, n1, c1, q, A3, n3, c3, r, rfl, q1, q2, q3, r1, r2, r3, b1⟩
  go_wp2_with fail
  go_ret2
  exact ⟨_, _, _, _, rfl, r1, r2, r3, b1⟩
set_option maxHeartbeats 1000000 in
theorem mod_nil {w : World} {A A2 : Option Addr} {n c n2 c2 : Nat} {xs ys : List Nat} (h : Nt w w.heap.size A n c xs) (h2 : Nt w w.heap.size A2 n2 c2 ys) (hn : n ≤ 1099511627776) (hb : val 18446744073709551616 ys = 0) :
    Calls Tryz.prog 66 #[.slice A n c, .slice A2 n2 c2] w (RetBad 11 w) := by
  go_enter Tryz.func66, Tryz.ntmps66
  go_wp2_with fail
  refine (div_nil h h2 hn hb).mono ?_
  rintro e w1 ⟨rfl, b1⟩
  go_wp2_with fail
  go_ret2
  exact ⟨rfl, b1⟩

set_option maxHeartbeats 1000000 in
theorem mmul_pos {w : World} {A A2 A3 : Option Addr} {n c n2 c2 n3 c3 : Nat} {xs ys zs : List Nat} (h : Nt w w.heap.size A n c xs) (h2 : Nt w w.heap.size A2 n2 c2 ys) (h3 : Nt w w.heap.size A3 n3 c3 zs)
    (hn : n ≤ 1099511627) (hn2 : n2 ≤ 1099511627) (hn3 : n3 ≤ 1099511627) (hb : 0 < val 18446744073709551616 zs) :
    Calls Tryz.prog 114 #[.slice A n c, .slice A2 n2 c2, .slice A3 n3 c3] w (RetT (val 18446744073709551616 xs * val 18446744073709551616 ys % val 18446744073709551616 zs) w) := by
  go_enter Tryz.func114, Tryz.ntmps114
  go_wp2_with fail
  refine (mod_pos h h3 (by omega) hb).mono ?_
  rintro e w1 ⟨A4, n4, c4, x4, rfl, r4⟩
  have k2 := h2.up r4.bel
  have k3 := h3.up r4.bel
  go_wp2_with fail
  refine (mod_pos k2 k3 (by omega) hb).mono ?_
  rintro e w2 ⟨A5, n5, c5, x5, rfl, r5⟩
  have j3 := k3.up r5.bel
  have j4 := r4.nt.up r5.bel
  have l4 : n4 ≤ n3 := by
    have := val_lt h3.lim
    rw [h3.len] at this
    exact r4.le (Nat.lt_trans (Nat.mod_lt _ hb) this)
  have l5 : n5 ≤ n3 := by
    have := val_lt h3.lim
    rw [h3.len] at this
    exact r5.le (Nat.lt_trans (Nat.mod_lt _ hb) this)
  go_wp2_with fail
  refine (mul_any j4 r5.nt (by omega) (by omega)).mono ?_
  rintro e w3 ⟨A6, n6, c6, x6, rfl, r6⟩
  have i3 := j3.up r6.bel
  have v4 := r4.is
  have v5 := r5.is
  have l6 : n6 ≤ n3 + n3 := by
    have := val_lt h3.lim
    rw [h3.len] at this
    refine r6.le ?_
    rw [v4, v5, Nat.pow_add]
    exact Nat.mul_lt_mul'' (Nat.lt_trans (Nat.mod_lt _ hb) this) (Nat.lt_trans (Nat.mod_lt _ hb) this)
  go_wp2_with fail
  refine (mod_pos r6.nt i3 (by omega) hb).mono ?_
  rintro e w4 ⟨A7, n7, c7, x7, rfl, r7⟩
  go_wp2_with fail
  go_ret2
  have v6 := r6.is
  have v7 := r7.is
  rw [v6, v4, v5, ← Nat.mul_mod] at v7
  exact ⟨_, _, _, _, rfl, r7.nt, r7.trm, v7, bthen (bthen (bthen r4.bel r5.bel) r6.bel) r7.bel⟩
set_option maxHeartbeats 1000000 in
theorem mmul_nil {w : World} {A A2 A3 : Option Addr} {n c n2 c2 n3 c3 : Nat} {xs zs : List Nat} (h : Nt w w.heap.size A n c xs) (h3 : Nt w w.heap.size A3 n3 c3 zs)
    (hn : n ≤ 1099511627) (hb : val 18446744073709551616 zs = 0) :
    Calls Tryz.prog 114 #[.slice A n c, .slice A2 n2 c2, .slice A3 n3 c3] w (RetBad 11 w) := by
  go_enter Tryz.func114, Tryz.ntmps114
  go_wp2_with fail
  refine (mod_nil h h3 (by omega) hb).mono ?_
  rintro e w1 ⟨rfl, b1⟩
  go_wp2_with fail
  go_ret2
  exact ⟨rfl, b1⟩
end Go.Proofs.YtkhlmcknbangfaaGreatDoor
