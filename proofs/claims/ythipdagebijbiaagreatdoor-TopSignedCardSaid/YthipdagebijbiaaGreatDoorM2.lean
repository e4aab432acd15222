/- modn: Gcd, factorOf, Inverse. -/
import Derived.Test.YthipdagebijbiaaGreatDoorM1
import Derived.Test.YthipdagebijbiaaGreatDoorMaths
namespace Go.Proofs.YthipdagebijbiaaGreatDoor
set_option linter.unusedSimpArgs false
set_option linter.unusedVariables false
open Go.RowKit

/-- the limbs that a slice value reads as -/
def rdU (w : World) : Value → List Nat
  | .slice (some a) n _ => (List.range n).map fun j => match w.cell? ⟨a.block, a.off + j, none⟩ with
    | some (.int _ x) => x.toNat
    | _ => 0
  | _ => []
theorem Nt.rd {w : World} {B n c : Nat} {A : Option Addr} {xs : List Nat} (h : Nt w B A n c xs) : rdU w (.slice A n c) = xs := by
  by_cases h0 : n = 0
  · subst h0
    rw [List.eq_nil_of_length_eq_zero h.len]
    cases A <;> rfl
  · obtain ⟨b, off, rfl, _, hc⟩ := h.cell (by omega)
    apply List.ext_getElem?
    intro j
    simp only [rdU, List.getElem?_map]
    by_cases hj : j < n
    · have hl : j < xs.length := by rw [h.len]; exact hj
      rw [List.getElem?_range hj, Option.map_some, hc j xs[j] (List.getElem?_eq_getElem hl), List.getElem?_eq_getElem hl]
      simp
    · rw [List.getElem?_eq_none (by simp; omega), List.getElem?_eq_none (by rw [h.len]; omega)]
      rfl
/-- the number that a slice value reads as -/
def rdN (w : World) (v : Value) : Nat := val 18446744073709551616 (rdU w v)
theorem Nt.rdn {w : World} {B n c : Nat} {A : Option Addr} {xs : List Nat} (h : Nt w B A n c xs) : rdN w (.slice A n c) = val 18446744073709551616 xs := by unfold rdN; rw [h.rd]

set_option maxHeartbeats 1000000 in
theorem nought_yes {w : World} {A : Option Addr} {n c : Nat} {xs : List Nat} (h : Nt w w.heap.size A n c xs) (hn : n ≤ 1099511627776) (h0 : val 18446744073709551616 xs = 0) :
    Calls Tryz.prog 114 #[.slice A n c] w fun e w' => e = .returned (.bool true) ∧ w = w' := by
  have hb := bits_any h hn
  rw [h0] at hb
  go_enter Tryz.func114, Tryz.ntmps114
  go_wp2_with fail
  refine hb.mono ?_
  rintro e w1 ⟨rfl, rfl⟩
  go_wp2_with fail
  go_ret
  exact ⟨rfl, rfl⟩
theorem bl_pos {v : Nat} (h : 0 < v) : 0 < bl v := by unfold bl; rw [if_neg (by omega)]; omega
set_option maxHeartbeats 1000000 in
theorem nought_no {w : World} {A : Option Addr} {n c : Nat} {xs : List Nat} (h : Nt w w.heap.size A n c xs) (hn : n ≤ 1099511627776) (h0 : 0 < val 18446744073709551616 xs) :
    Calls Tryz.prog 114 #[.slice A n c] w fun e w' => e = .returned (.bool false) ∧ w = w' := by
  have hb := bits_any h hn
  have hp := bl_pos h0
  generalize bl (val 18446744073709551616 xs) = k at *
  have hk : ((k : Int) == 0) = false := by simp; omega
  go_enter Tryz.func114, Tryz.ntmps114
  go_wp2_with fail
  refine hb.mono ?_
  rintro e w1 ⟨rfl, rfl⟩
  go_wp2_with fail
  go_ret
  exact ⟨rfl, rfl⟩

/-- a number at a loop's head -/
structure At (w0 w : World) (v : Value) (N M : Nat) : Prop where
  ex : ∃ A n c xs, v = .slice A n c ∧ Nt w w.heap.size A n c xs ∧ Trm xs ∧ val 18446744073709551616 xs = N ∧ n ≤ M
  bel : Below w0.heap.size w0 w
theorem At.up {w0 w w' : World} {v : Value} {N M : Nat} (h : At w0 w v N M) (hb : Below w.heap.size w w') : At w0 w' v N M := by
  obtain ⟨⟨A, n, c, xs, rfl, hN, ht, hv, hm⟩, hbel⟩ := h
  exact ⟨⟨A, n, c, xs, rfl, hN.up hb, ht, hv, hm⟩, hbel.trans (hb.mono hbel.size)⟩
theorem At.rd {w0 w : World} {v : Value} {N M : Nat} (h : At w0 w v N M) : rdN w v = N := by
  obtain ⟨⟨A, n, c, xs, rfl, hN, ht, hv, hm⟩, hbel⟩ := h
  rw [hN.rdn, hv]
theorem Rs.at_ {w0 w w' : World} {N n c M : Nat} {A : Option Addr} {xs : List Nat} (h : Rs w w' N A n c xs) (hb : Below w0.heap.size w0 w) (hm : n ≤ M) : At w0 w' (.slice A n c) N M :=
  ⟨⟨A, n, c, xs, rfl, h.nt, h.trm, h.is, hm⟩, hb.trans (h.bel.mono hb.size)⟩

end Go.Proofs.YthipdagebijbiaaGreatDoor
