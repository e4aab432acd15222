/- modn: Gcd, factorOf, Inverse. -/
import Derived.Test.YtkhlmcknbangfaaGreatDoorM1
import Derived.Test.YtkhlmcknbangfaaGreatDoorMaths
namespace Go.Proofs.YtkhlmcknbangfaaGreatDoor
set_option linter.unusedSimpArgs false
set_option linter.unusedVariables false
open Go.RowKit
set_option linter.unusedVariables false

/-- the limbs that a slice value reads as -/
def rdU (w : World) : Value → List Nat
  | .slice (some a) n _ => (List.range n).map fun j => match w.cell? ⟨a.block, a.off + j, none⟩ with
    | some (.int _ x) => x.toNat
    | _ => 0
  | _ => []
theorem Nt.rd {w : World} {B n c : Nat} {A : Option Addr} {xs : List Nat} (h : Nt w B A n c xs) : rdU w (.slice A n c) = xs := by
  by_cases h0 : n = 0
  · subst h0
    rw [List.eq_nil_of_length_eq_zero h.len]
    cases A <;> rfl
  · obtain ⟨b, off, rfl, _, hc⟩ := h.cell (by omega)
    apply List.ext_getElem?
    intro j
    simp only [rdU, List.getElem?_map]
    by_cases hj : j < n
    · have hl : j < xs.length := by rw [h.len]; exact hj
      rw [List.getElem?_range hj, Option.map_some, hc j xs[j] (List.getElem?_eq_getElem hl), List.getElem?_eq_getElem hl]
      simp
    · rw [List.getElem?_eq_none (by simp; omega), List.getElem?_eq_none (by rw [h.len]; omega)]
      rfl
/-- the number that a slice value reads as -/
def rdN (w : World) (v : Value) : Nat := val 18446744073709551616 (rdU w v)
theorem Nt.rdn {w : World} {B n c : Nat} {A : Option Addr} {xs : List Nat} (h : Nt w B A n c xs) : rdN w (.slice A n c) = val 18446744073709551616 xs := by unfold rdN; rw [h.rd]

set_option maxHeartbeats 1000000 in
theorem nought_yes {w : World} {A : Option Addr} {n c : Nat} {xs : List Nat} (h : Nt w w.heap.size A n c xs) (hn : n ≤ 1099511627776) (h0 : val 18446744073709551616 xs = 0) :
    Calls Tryz.prog 141 #[.slice A n c] w fun e w' => e = .returned (.bool true) ∧ w = w' := by
  have hb := bits_any h hn
  rw [h0] at hb
  go_enter Tryz.func141, Tryz.ntmps141
  go_wp2_with fail
  refine hb.mono ?_
  rintro e w1 ⟨rfl, rfl⟩
  go_wp2_with fail
  go_ret
  exact ⟨rfl, rfl⟩
theorem bl_pos {v : Nat} (h : 0 < v) : 0 < bl v := by unfold bl; rw [if_neg (by omega)]; omega
set_option maxHeartbeats 1000000 in
theorem nought_no {w : World} {A : Option Addr} {n c : Nat} {xs : List Nat} (h : Nt w w.heap.size A n c xs) (hn : n ≤ 1099511627776) (h0 : 0 < val 18446744073709551616 xs) :
    Calls Tryz.prog 141 #[.slice A n c] w fun e w' => e = .returned (.bool false) ∧ w = w' := by
  have hb := bits_any h hn
  have hp := bl_pos h0
  generalize bl (val 18446744073709551616 xs) = k at *
  have hk : ((k : Int) == 0) = false := by simp; omega
  go_enter Tryz.func141, Tryz.ntmps141
  go_wp2_with fail
  refine hb.mono ?_
  rintro e w1 ⟨rfl, rfl⟩
  go_wp2_with fail
  go_ret
  exact ⟨rfl, rfl⟩

/-- a number at a loop's head -/
structure At (w0 w : World) (v : Value) (N M : Nat) : Prop where
  ex : ∃ A n c xs, v = .slice A n c ∧ Nt w w.heap.size A n c xs ∧ Trm xs ∧ val 18446744073709551616 xs = N ∧ n ≤ M
  bel : Below w0.heap.size w0 w
theorem At.up {w0 w w' : World} {v : Value} {N M : Nat} (h : At w0 w v N M) (hb : Below w.heap.size w w') : At w0 w' v N M := by
  obtain ⟨⟨A, n, c, xs, rfl, hN, ht, hv, hm⟩, hbel⟩ := h
  exact ⟨⟨A, n, c, xs, rfl, hN.up hb, ht, hv, hm⟩, hbel.trans (hb.mono hbel.size)⟩
theorem At.rd {w0 w : World} {v : Value} {N M : Nat} (h : At w0 w v N M) : rdN w v = N := by
  obtain ⟨⟨A, n, c, xs, rfl, hN, ht, hv, hm⟩, hbel⟩ := h
  rw [hN.rdn, hv]
theorem Rs.at_ {w0 w w' : World} {N n c M : Nat} {A : Option Addr} {xs : List Nat} (h : Rs w w' N A n c xs) (hb : Below w0.heap.size w0 w) (hm : n ≤ M) : At w0 w' (.slice A n c) N M :=
  ⟨⟨A, n, c, xs, rfl, h.nt, h.trm, h.is, hm⟩, hb.trans (h.bel.mono hb.size)⟩

set_option maxHeartbeats 4000000 in
theorem mgcd_any {w : World} {A A2 : Option Addr} {n c n2 c2 : Nat} {xs ys : List Nat} (h : Nt w w.heap.size A n c xs) (h2 : Nt w w.heap.size A2 n2 c2 ys) (hn : n ≤ 1099511627) (hn2 : n2 ≤ 1099511627) :
    Calls Tryz.prog 109 #[.slice A n c, .slice A2 n2 c2] w (RetS (Nat.gcd (val 18446744073709551616 xs) (val 18446744073709551616 ys)) w) := by
  obtain ⟨M, hM, hnM, hn2M⟩ : ∃ M, M ≤ 1099511627 ∧ n ≤ M ∧ n2 ≤ M := ⟨max n n2, by omega, by omega, by omega⟩
  have pa := h.below_pow hnM
  have pb := h2.below_pow hn2M
  generalize ha : val 18446744073709551616 xs = a at *
  generalize hb : val 18446744073709551616 ys = b at *
  have Ha := Lib.hid ha
  have Hb := Lib.hid hb
  clear ha hb
  go_enter Tryz.func109, Tryz.ntmps109
  go_wp2_with fail
  refine (trim_any h (by omega)).mono ?_
  rintro e w1 ⟨A1, n1, c1, x1, rfl, r1⟩
  rw [Ha.out] at r1
  have k2 := h2.up r1.bel
  have b1 := r1.bel
  go_wp2_with fail
  refine (trim_any k2 (by omega)).mono ?_
  rintro e w2 ⟨A2, n2, c2, x2, rfl, r2⟩
  rw [Hb.out] at r2
  have b2 := bthen b1 r2.bel
  have S1 : At w w2 (.slice A1 n1 c1) a M := (r1.rs.at_ (Below.refl _ _) (r1.le pa)).up r2.bel
  have S2 : At w w2 (.slice A2 n2 c2) b M := r2.rs.at_ b1 (r2.le pb)
  go_wp2_with fail
  go_loopw [0, 1] (fun u v wr => ∃ a1 b1, Hid (At w wr u a1 M) ∧ Hid (At w wr v b1 M) ∧ Hid (Nat.gcd a1 b1 = Nat.gcd a b)) (fun _ v wr => rdN wr v)
  case atStart => exact ⟨a, b, S1, S2, rfl⟩
  case round =>
    obtain ⟨a1, b1, T1, T2, hg⟩ := hrel
    obtain ⟨⟨A3, n3, c3, x3, rfl, N3, t3, v3, l3⟩, B3⟩ := T1.out
    obtain ⟨⟨A4, n4, c4, x4, rfl, N4, t4, v4, l4⟩, B4⟩ := T2.out
    rcases Nat.eq_zero_or_pos b1 with h0 | h0
    · go_wp2_with fail
      refine (nought_yes N4 (by omega) (by omega)).mono ?_
      rintro e w5 ⟨rfl, rfl⟩
      go_wp2_with fail
      go_ret
      have hg' := hg.out
      rw [h0, Nat.gcd_zero_right] at hg'
      exact ⟨_, _, _, _, rfl, N3, t3, v3.trans hg', B3⟩
    · go_wp2_with fail
      refine (nought_no N4 (by omega) (by omega)).mono ?_
      rintro e w5 ⟨rfl, rfl⟩
      go_wp2_with fail
      refine (mod_pos N3 N4 (by omega) (by omega)).mono ?_
      rintro e w6 ⟨A6, n6, c6, x6, rfl, r6⟩
      rw [v3, v4] at r6
      have hlt := Nat.mod_lt a1 h0
      have l6 : n6 ≤ M := by
        have := N4.below_pow l4
        rw [v4] at this
        exact r6.le (by omega)
      have U1 : At w w6 (.slice A4 n4 c4) b1 M := T2.out.up r6.bel
      have U2 : At w w6 (.slice A6 n6 c6) (a1 % b1) M := r6.at_ B3 l6
      have hm1 := T2.out.rd
      have hm2 := U2.rd
      go_wp2_with fail
      go_roundw
      case rel => exact ⟨b1, a1 % b1, U1, U2, by
        show _ = _
        rw [← hg.out, Nat.gcd_comm a1 b1, Nat.gcd_rec b1 a1, Nat.gcd_comm]⟩
      case measure => rw [hm1, hm2]; exact hlt
end Go.Proofs.YtkhlmcknbangfaaGreatDoor
