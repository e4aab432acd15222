/- nat.Cmp and nat.Sub where it is known which number is greater. -/
import Derived.Test.YtkhlmcknbangfaaGreatDoorFew
namespace Go.Proofs.YtkhlmcknbangfaaGreatDoor
set_option linter.unusedSimpArgs false
set_option linter.unusedVariables false
open Go.RowKit
set_option linter.unusedVariables false

theorem cmp_lt {w : World} {B : Nat} {A A2 : Option Addr} {n c n2 c2 : Nat} {xs ys : List Nat} (h : Nt w B A n c xs) (h2 : Nt w B A2 n2 c2 ys) (hv : val 18446744073709551616 xs < val 18446744073709551616 ys) :
    Calls Tryz.prog 26 #[.slice A n c, .slice A2 n2 c2] w fun e w' => e = .returned (.int .i64 (-1)) ∧ ∃ d, w' = w.drewN d := by
  have := cmp_any h h2
  rwa [sgn_lt hv] at this
theorem cmp_gt {w : World} {B : Nat} {A A2 : Option Addr} {n c n2 c2 : Nat} {xs ys : List Nat} (h : Nt w B A n c xs) (h2 : Nt w B A2 n2 c2 ys) (hv : val 18446744073709551616 ys < val 18446744073709551616 xs) :
    Calls Tryz.prog 26 #[.slice A n c, .slice A2 n2 c2] w fun e w' => e = .returned (.int .i64 1) ∧ ∃ d, w' = w.drewN d := by
  have := cmp_any h h2
  rwa [sgn_gt hv] at this
theorem cmp_eq {w : World} {B : Nat} {A A2 : Option Addr} {n c n2 c2 : Nat} {xs ys : List Nat} (h : Nt w B A n c xs) (h2 : Nt w B A2 n2 c2 ys) (hv : val 18446744073709551616 xs = val 18446744073709551616 ys) :
    Calls Tryz.prog 26 #[.slice A n c, .slice A2 n2 c2] w fun e w' => e = .returned (.int .i64 0) ∧ ∃ d, w' = w.drewN d := by
  have := cmp_any h h2
  rwa [hv, sgn_self] at this
theorem sub_ok {w : World} {A A2 : Option Addr} {n c n2 c2 : Nat} {xs ys : List Nat} (h : Nt w w.heap.size A n c xs) (h2 : Nt w w.heap.size A2 n2 c2 ys) (hn : n ≤ 1099511627776) (hv : val 18446744073709551616 ys ≤ val 18446744073709551616 xs) :
    Calls Tryz.prog 90 #[.slice A n c, .slice A2 n2 c2] w fun e w' => ∃ A n c q, e = .returned (.tuple #[.slice A n c, .int .i64 0]) ∧ Res w w' (val 18446744073709551616 xs - val 18446744073709551616 ys) A n c q :=
  (sub_any h h2 hn).mono fun e w' hd => by
    rcases hd with ⟨h0, _⟩ | ⟨_, hd⟩
    · omega
    · exact hd
theorem sub_no {w : World} {A A2 : Option Addr} {n c n2 c2 : Nat} {xs ys : List Nat} (h : Nt w w.heap.size A n c xs) (h2 : Nt w w.heap.size A2 n2 c2 ys) (hn : n ≤ 1099511627776) (hv : val 18446744073709551616 xs < val 18446744073709551616 ys) :
    Calls Tryz.prog 90 #[.slice A n c, .slice A2 n2 c2] w fun e w' => e = .returned (.tuple #[.slice none 0 0, .int .i64 10]) ∧ Below w.heap.size w w' :=
  (sub_any h h2 hn).mono fun e w' hd => by
    rcases hd with ⟨_, he, hb⟩ | ⟨h0, _⟩
    · exact ⟨he, hb⟩
    · omega
end Go.Proofs.YtkhlmcknbangfaaGreatDoor
