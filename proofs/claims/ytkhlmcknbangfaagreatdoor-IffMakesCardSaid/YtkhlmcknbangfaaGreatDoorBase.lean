/- What the statements share: Same, divisions; words for what a world keeps. -/
import Derived.Test.YtkhlmcknbangfaaGreatDoorDiv
import Derived.Test.YtkhlmcknbangfaaGreatDoorOf
import Derived.Test.YtkhlmcknbangfaaGreatDoorMul
import Derived.Test.YtkhlmcknbangfaaGreatDoorSub
import Derived.Test.YtkhlmcknbangfaaGreatDoorAdd
namespace Go.Proofs.YtkhlmcknbangfaaGreatDoor
set_option linter.unusedSimpArgs false
set_option linter.unusedVariables false
open Go.RowKit
set_option linter.unusedVariables false

theorem Nt.up {w w' : World} {A : Option Addr} {n c : Nat} {xs : List Nat} (h : Nt w w.heap.size A n c xs) (hb : Below w.heap.size w w') : Nt w' w'.heap.size A n c xs := h.bel hb (Nat.le_refl _)
theorem Nt.dr {w : World} {A : Option Addr} {n c : Nat} {xs : List Nat} (h : Nt w w.heap.size A n c xs) (d : Nat) : Nt (w.drewN d) (w.drewN d).heap.size A n c xs := h.drewN d
theorem bthen {w w1 w2 : World} (h : Below w.heap.size w w1) (k : Below w1.heap.size w1 w2) : Below w.heap.size w w2 := h.trans (k.mono h.size)
theorem bdr {w w1 : World} (h : Below w.heap.size w w1) (d : Nat) : Below w.heap.size w (w1.drewN d) := below_drewN h d

set_option maxHeartbeats 1000000 in
theorem same_yes {w : World} {B : Nat} {A A2 : Option Addr} {n c n2 c2 : Nat} {xs ys : List Nat} (h : Nt w B A n c xs) (h2 : Nt w B A2 n2 c2 ys) (he : xs = ys) :
    Calls Tryz.prog 24 #[.slice A n c, .slice A2 n2 c2] w fun e w' => e = .returned (.bool true) ∧ ∃ d, w' = w.drewN d := by
  subst he
  obtain rfl : n = n2 := h.len.symm.trans h2.len
  have hr := h.rooms
  go_enter Tryz.func24, Tryz.ntmps24
  go_wp2
  go_loopw [5] (fun i wr => ∃ k d : Nat, k ≤ n ∧ i = .int .i64 k ∧ Hid (wr = w.drewN d)) (fun i _ => n - (intOf i).toNat)
  case atStart => exact ⟨0, 0, Nat.zero_le _, rfl, rfl⟩
  case round =>
    obtain ⟨k, d, hk, rfl, hW⟩ := hrel
    have hNr : Nt wr B A n c xs := by rw [hW.out]; exact h.drewN d
    have hNr2 : Nt wr B A2 n c2 xs := by rw [hW.out]; exact h2.drewN d
    by_cases hlt : k < n
    · obtain ⟨b, off, rfl, hb, hx⟩ := hNr.at_ hlt
      obtain ⟨b2, off2, rfl, hb2, hy⟩ := hNr2.at_ hlt
      generalize xs.getD k 0 = x at *
      have ht : ((x : Int) != (x : Int)) = false := by simp
      have s1 : (0 : Int) ≤ (k : Int) := by omega
      have s2 : (k : Int) < (n : Int) := by omega
      go_wp2
      go_quiet (fail)
      go_wp2
      go_roundw
      case rel => exact ⟨k + 1, d + nq, by omega, by go_num, by show _ = _; rw [hW.out, World.drewN_drewN]⟩
      case measure => simp [intOf]; omega
    · go_wp2
      go_ret
      exact ⟨rfl, d, hW.out⟩

theorem len_one {xs : List Nat} {n : Nat} (ht : Trm xs) (hL : Lim 18446744073709551616 xs) (hv : val 18446744073709551616 xs = n) (h0 : 0 < n) (hn : n < 18446744073709551616) : xs = [n] := by
  refine trm_unique (β := 18446744073709551616) (by omega) hL (Lim.one hn) ht ?_ (by rw [hv, val_one])
  intro ys x e
  have : ys = [] ∧ x = n := by
    cases ys with
    | nil => simpa using e.symm
    | cons y ys => simp at e
  omega

theorem sgn_self (x : Int) : sgn x x = 0 := by unfold sgn; rw [if_neg (by omega), if_neg (by omega)]

def Yes (w : World) (e : Ending) (w' : World) : Prop := e = .returned (.bool true) ∧ Below w.heap.size w w'

theorem div_pos {w : World} {A A2 : Option Addr} {n c n2 c2 : Nat} {xs ys : List Nat} (h : Nt w w.heap.size A n c xs) (h2 : Nt w w.heap.size A2 n2 c2 ys) (hn : n ≤ 1099511627776) (hb : 0 < val 18446744073709551616 ys) :
    Calls Tryz.prog 118 #[.slice A n c, .slice A2 n2 c2] w fun e w' => ∃ A n c q A2 n2 c2 r, e = .returned (.tuple #[.slice A n c, .slice A2 n2 c2, .int .i64 0]) ∧ Nt w' w'.heap.size A n c q ∧ Trm q ∧ val 18446744073709551616 q = val 18446744073709551616 xs / val 18446744073709551616 ys ∧
      Nt w' w'.heap.size A2 n2 c2 r ∧ Trm r ∧ val 18446744073709551616 r = val 18446744073709551616 xs % val 18446744073709551616 ys ∧ Below w.heap.size w w' :=
  (div_any h h2 hn).mono fun e w' hd => by
    rcases hd with ⟨h0, _⟩ | ⟨_, hd⟩
    · omega
    · exact hd
theorem div_nil {w : World} {A A2 : Option Addr} {n c n2 c2 : Nat} {xs ys : List Nat} (h : Nt w w.heap.size A n c xs) (h2 : Nt w w.heap.size A2 n2 c2 ys) (hn : n ≤ 1099511627776) (hb : val 18446744073709551616 ys = 0) :
    Calls Tryz.prog 118 #[.slice A n c, .slice A2 n2 c2] w fun e w' => e = .returned (.tuple #[.slice none 0 0, .slice none 0 0, .int .i64 11]) ∧ Below w.heap.size w w' :=
  (div_any h h2 hn).mono fun e w' hd => by
    rcases hd with ⟨_, he, hb⟩ | ⟨h0, _⟩
    · exact ⟨he, hb⟩
    · omega
theorem nt_nil (w : World) (B : Nat) : Nt w B none 0 0 [] := ⟨rfl, Nat.le_refl _, Nat.zero_le _, Lim.nil _, fun h => absurd h (Nat.lt_irrefl _)⟩

end Go.Proofs.YtkhlmcknbangfaaGreatDoor
