/- How a slice of limbs that came in is read, and small words for the statements' walks. -/
import Derived.Test.YtddpgckbdccldaaSum
import Derived.Test.YtddpgckbdccldaaMathD
import Derived.Test.YtddpgckbdccldaaOf
import Derived.ProofKit
import Derived.OpenShut
import Derived.ShutString
import Derived.ChangeOld
namespace Go.Proofs.Ytddpgckbdccldaa
set_option linter.unusedSimpArgs false
set_option linter.unusedVariables false
open Go.ChangeShapes Go.WideShapes Go.ChangeAt Go.RowKit

theorem bthen {w w1 w2 : World} (h : Below w.heap.size w w1) (k : Below w1.heap.size w1 w2) : Below w.heap.size w w2 := h.trans (k.mono h.size)
theorem own : ownKnob Try.prog.godebug = none := by kernel_rfl
theorem laidOut : laidOutB Try.prog = true := by kernel_rfl

theorem nt_of_row {W : World} {x : Addr} {len cap : Nat} {zs : List Int} (hl : len ≤ cap) (hm : cap ≤ maxLen) (hz : zs.length = cap) (hcell : ∀ i, i < zs.length → W.cell? (x.add i) = some (.int .u64 (zs.getD i 0))) (hwz : ∀ n ∈ zs, (Lit.int .u64 n).wf = true) :
    Nt W W.heap.size (some x) len cap ((zs.take len).map Int.toNat) := by
  have hb : ∀ n ∈ zs, 0 ≤ n ∧ n ≤ 18446744073709551615 := fun n hn => bounds_u64 (hwz n hn)
  refine ⟨by simp; omega, hl, hm, ?_, ?_⟩
  · intro y hy
    simp only [List.mem_map] at hy
    obtain ⟨n, hn, rfl⟩ := hy
    have := hb n (List.mem_of_mem_take hn)
    omega
  · intro h0
    have hc := hcell 0 (by omega)
    obtain ⟨b, off, spot⟩ := x
    have hspot : spot = none := by simpa [Addr.add] using World.cell?_spot hc
    subst hspot
    have hlt := World.block_lt_of_cell? W _ hc
    refine ⟨b, off, rfl, by simpa [Addr.add] using hlt, fun j y hj => ?_⟩
    simp only [List.getElem?_map, Option.map_eq_some_iff, List.getElem?_take] at hj
    obtain ⟨n, hn, rfl⟩ := hj
    split at hn
    · have hj2 : j < zs.length := by
        rcases Nat.lt_or_ge j zs.length with h | h
        · exact h
        · rw [List.getElem?_eq_none h] at hn; cases hn
      have h1 := hcell j hj2
      have h2 : zs.getD j 0 = n := by simp [List.getD, hn]
      rw [h2] at h1
      have h3 := hb n (List.mem_of_getElem? hn)
      rw [show ((n.toNat : Nat) : Int) = n by omega]
      by_cases hj0 : j = 0
      · subst hj0; simpa [Addr.add] using h1
      · simpa [Addr.add, hj0] using h1
    · cases hn

theorem Res.le {w w' : World} {N k n c : Nat} {A : Option Addr} {xs : List Nat} (h : Res w w' N A n c xs) (hN : N < 18446744073709551616 ^ k) : n ≤ k := by
  rw [← h.nt.len]
  exact length_of_val (β := 18446744073709551616) (by omega) h.trm (by rw [h.is]; exact hN)
theorem Res.same {w1 w1' w2 w2' : World} {N n c n2 c2 : Nat} {A A2 : Option Addr} {xs ys : List Nat} (h : Res w1 w1' N A n c xs) (h2 : Res w2 w2' N A2 n2 c2 ys) : xs = ys :=
  trm_unique (β := 18446744073709551616) (by omega) h.nt.lim h2.nt.lim h.trm h2.trm (by rw [h.is, h2.is])
theorem Nt.lt_pow {w : World} {B n c : Nat} {A : Option Addr} {xs : List Nat} (h : Nt w B A n c xs) (hn : n ≤ 12) : val 18446744073709551616 xs < 18446744073709551616 ^ 12 := by
  have h1 := val_lt h.lim
  rw [h.len] at h1
  exact Nat.lt_of_lt_of_le h1 (Nat.pow_le_pow_right (by omega) hn)
theorem add_pow {x y i : Nat} (hx : x < 18446744073709551616 ^ i) (hy : y < 18446744073709551616 ^ i) : x + y < 18446744073709551616 ^ (i + 1) := by
  rw [Nat.pow_succ]; omega
theorem mul_pow {x y i j : Nat} (hx : x < 18446744073709551616 ^ i) (hy : y < 18446744073709551616 ^ j) : x * y < 18446744073709551616 ^ (i + j) := by
  rw [Nat.pow_add]
  exact Nat.mul_lt_mul'' hx hy
theorem more_pow {x i j : Nat} (hx : x < 18446744073709551616 ^ i) (h : i ≤ j) : x < 18446744073709551616 ^ j := Nat.lt_of_lt_of_le hx (Nat.pow_le_pow_right (by omega) h)
end Go.Proofs.Ytddpgckbdccldaa
