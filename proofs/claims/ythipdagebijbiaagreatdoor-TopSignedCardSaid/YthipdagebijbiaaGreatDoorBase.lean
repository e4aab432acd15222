/- What the statements share: Same, divisions; words for what a world keeps. -/
import Derived.Test.YthipdagebijbiaaGreatDoorDiv
import Derived.Test.YthipdagebijbiaaGreatDoorOf
import Derived.Test.YthipdagebijbiaaGreatDoorMul
import Derived.Test.YthipdagebijbiaaGreatDoorSub
import Derived.Test.YthipdagebijbiaaGreatDoorAdd
namespace Go.Proofs.YthipdagebijbiaaGreatDoor
set_option linter.unusedSimpArgs false
set_option linter.unusedVariables false
open Go.RowKit

theorem Nt.up {w w' : World} {A : Option Addr} {n c : Nat} {xs : List Nat} (h : Nt w w.heap.size A n c xs) (hb : Below w.heap.size w w') : Nt w' w'.heap.size A n c xs := h.bel hb (Nat.le_refl _)
theorem Nt.dr {w : World} {A : Option Addr} {n c : Nat} {xs : List Nat} (h : Nt w w.heap.size A n c xs) (d : Nat) : Nt (w.drewN d) (w.drewN d).heap.size A n c xs := h.drewN d
theorem bthen {w w1 w2 : World} (h : Below w.heap.size w w1) (k : Below w1.heap.size w1 w2) : Below w.heap.size w w2 := h.trans (k.mono h.size)
theorem bdr {w w1 : World} (h : Below w.heap.size w w1) (d : Nat) : Below w.heap.size w (w1.drewN d) := below_drewN h d


theorem len_one {xs : List Nat} {n : Nat} (ht : Trm xs) (hL : Lim 18446744073709551616 xs) (hv : val 18446744073709551616 xs = n) (h0 : 0 < n) (hn : n < 18446744073709551616) : xs = [n] := by
  refine trm_unique (β := 18446744073709551616) (by omega) hL (Lim.one hn) ht ?_ (by rw [hv, val_one])
  intro ys x e
  have : ys = [] ∧ x = n := by
    cases ys with
    | nil => simpa using e.symm
    | cons y ys => simp at e
  omega

theorem sgn_self (x : Int) : sgn x x = 0 := by unfold sgn; rw [if_neg (by omega), if_neg (by omega)]

def Yes (w : World) (e : Ending) (w' : World) : Prop := e = .returned (.bool true) ∧ Below w.heap.size w w'

theorem div_pos {w : World} {A A2 : Option Addr} {n c n2 c2 : Nat} {xs ys : List Nat} (h : Nt w w.heap.size A n c xs) (h2 : Nt w w.heap.size A2 n2 c2 ys) (hn : n ≤ 1099511627776) (hb : 0 < val 18446744073709551616 ys) :
    Calls Tryz.prog 113 #[.slice A n c, .slice A2 n2 c2] w fun e w' => ∃ A n c q A2 n2 c2 r, e = .returned (.tuple #[.slice A n c, .slice A2 n2 c2, .int .i64 0]) ∧ Nt w' w'.heap.size A n c q ∧ Trm q ∧ val 18446744073709551616 q = val 18446744073709551616 xs / val 18446744073709551616 ys ∧
      Nt w' w'.heap.size A2 n2 c2 r ∧ Trm r ∧ val 18446744073709551616 r = val 18446744073709551616 xs % val 18446744073709551616 ys ∧ Below w.heap.size w w' :=
  (div_any h h2 hn).mono fun e w' hd => by
    rcases hd with ⟨h0, _⟩ | ⟨_, hd⟩
    · omega
    · exact hd
theorem div_nil {w : World} {A A2 : Option Addr} {n c n2 c2 : Nat} {xs ys : List Nat} (h : Nt w w.heap.size A n c xs) (h2 : Nt w w.heap.size A2 n2 c2 ys) (hn : n ≤ 1099511627776) (hb : val 18446744073709551616 ys = 0) :
    Calls Tryz.prog 113 #[.slice A n c, .slice A2 n2 c2] w fun e w' => e = .returned (.tuple #[.slice none 0 0, .slice none 0 0, .int .i64 11]) ∧ Below w.heap.size w w' :=
  (div_any h h2 hn).mono fun e w' hd => by
    rcases hd with ⟨_, he, hb⟩ | ⟨h0, _⟩
    · exact ⟨he, hb⟩
    · omega
theorem nt_nil (w : World) (B : Nat) : Nt w B none 0 0 [] := ⟨rfl, Nat.le_refl _, Nat.zero_le _, Lim.nil _, fun h => absurd h (Nat.lt_irrefl _)⟩

end Go.Proofs.YthipdagebijbiaaGreatDoor
