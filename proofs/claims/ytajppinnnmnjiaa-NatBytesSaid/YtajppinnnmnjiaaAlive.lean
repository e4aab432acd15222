/- What the statements share: heavy, Same, alive; words for what a world keeps. -/
import Derived.Test.YtajppinnnmnjiaaDiv
import Derived.Test.YtajppinnnmnjiaaOf
import Derived.Test.YtajppinnnmnjiaaMul
import Derived.Test.YtajppinnnmnjiaaSub
import Derived.Test.YtajppinnnmnjiaaAdd
namespace Go.Proofs.Ytajppinnnmnjiaa
open Go.RowKit

theorem Nt.up {w w' : World} {A : Option Addr} {n c : Nat} {xs : List Nat} (h : Nt w w.heap.size A n c xs) (hb : Below w.heap.size w w') : Nt w' w'.heap.size A n c xs := h.bel hb (Nat.le_refl _)
theorem Nt.dr {w : World} {A : Option Addr} {n c : Nat} {xs : List Nat} (h : Nt w w.heap.size A n c xs) (d : Nat) : Nt (w.drewN d) (w.drewN d).heap.size A n c xs := h.drewN d
theorem bthen {w w1 w2 : World} (h : Below w.heap.size w w1) (k : Below w1.heap.size w1 w2) : Below w.heap.size w w2 := h.trans (k.mono h.size)
theorem bdr {w w1 : World} (h : Below w.heap.size w w1) (d : Nat) : Below w.heap.size w (w1.drewN d) := below_drewN h d

theorem heavy_yes (A : Option Addr) (n c : Nat) (h : 12 < n) (h2 : n ≤ 9223372036854775807) (w : World) : Calls Try.prog 12 #[.slice A n c] w fun e w' => e = .returned (.bool true) ∧ w = w' := by
  have h' : (12 : Int) < (n : Int) := by omega
  go_enter Try.func12, Try.ntmps12
  go_wp2
  go_ret
  exact ⟨by simp, rfl⟩
theorem heavy_no (A : Option Addr) (n c : Nat) (h : n ≤ 12) (w : World) : Calls Try.prog 12 #[.slice A n c] w fun e w' => e = .returned (.bool false) ∧ w = w' := by
  have h' : (n : Int) ≤ 12 := by omega
  go_enter Try.func12, Try.ntmps12
  go_wp2
  go_ret
  exact ⟨by simp; omega, rfl⟩

set_option maxHeartbeats 1000000 in
theorem same_yes {w : World} {B : Nat} {A A2 : Option Addr} {n c n2 c2 : Nat} {xs ys : List Nat} (h : Nt w B A n c xs) (h2 : Nt w B A2 n2 c2 ys) (he : xs = ys) :
    Calls Try.prog 20 #[.slice A n c, .slice A2 n2 c2] w fun e w' => e = .returned (.bool true) ∧ ∃ d, w' = w.drewN d := by
  subst he
  obtain rfl : n = n2 := h.len.symm.trans h2.len
  have hr := h.rooms
  go_enter Try.func20, Try.ntmps20
  go_wp2
  go_loopw [5] (fun i wr => ∃ k d : Nat, k ≤ n ∧ i = .int .i64 k ∧ Hid (wr = w.drewN d)) (fun i _ => n - (intOf i).toNat)
  case atStart => exact ⟨0, 0, Nat.zero_le _, rfl, rfl⟩
  case round =>
    obtain ⟨k, d, hk, rfl, hW⟩ := hrel
    have hNr : Nt wr B A n c xs := by rw [hW.out]; exact h.drewN d
    have hNr2 : Nt wr B A2 n c2 xs := by rw [hW.out]; exact h2.drewN d
    by_cases hlt : k < n
    · obtain ⟨b, off, rfl, hb, hx⟩ := hNr.at_ hlt
      obtain ⟨b2, off2, rfl, hb2, hy⟩ := hNr2.at_ hlt
      generalize xs.getD k 0 = x at *
      have ht : ((x : Int) != (x : Int)) = false := by simp
      have s1 : (0 : Int) ≤ (k : Int) := by omega
      have s2 : (k : Int) < (n : Int) := by omega
      go_wp2
      go_quiet (fail)
      go_wp2
      go_roundw
      case rel => exact ⟨k + 1, d + nq, by omega, by go_num, by show _ = _; rw [hW.out, World.drewN_drewN]⟩
      case measure => simp [intOf]; omega
    · go_wp2
      go_ret
      exact ⟨rfl, d, hW.out⟩

theorem len_one {xs : List Nat} {n : Nat} (ht : Trm xs) (hL : Lim 18446744073709551616 xs) (hv : val 18446744073709551616 xs = n) (h0 : 0 < n) (hn : n < 18446744073709551616) : xs = [n] := by
  refine trm_unique (β := 18446744073709551616) (by omega) hL (Lim.one hn) ht ?_ (by rw [hv, val_one])
  intro ys x e
  have : ys = [] ∧ x = n := by
    cases ys with
    | nil => simpa using e.symm
    | cons y ys => simp at e
  omega

theorem sgn_self (x : Int) : sgn x x = 0 := by unfold sgn; rw [if_neg (by omega), if_neg (by omega)]

def Yes (w : World) (e : Ending) (w' : World) : Prop := e = .returned (.bool true) ∧ Below w.heap.size w w'

theorem div_pos {w : World} {A A2 : Option Addr} {n c n2 c2 : Nat} {xs ys : List Nat} (h : Nt w w.heap.size A n c xs) (h2 : Nt w w.heap.size A2 n2 c2 ys) (hn : n ≤ 1099511627776) (hb : 0 < val 18446744073709551616 ys) :
    Calls Try.prog 24 #[.slice A n c, .slice A2 n2 c2] w fun e w' => ∃ A n c q A2 n2 c2 r, e = .returned (.tuple #[.slice A n c, .slice A2 n2 c2, .int .i64 0]) ∧ Nt w' w'.heap.size A n c q ∧ Trm q ∧ val 18446744073709551616 q = val 18446744073709551616 xs / val 18446744073709551616 ys ∧
      Nt w' w'.heap.size A2 n2 c2 r ∧ Trm r ∧ val 18446744073709551616 r = val 18446744073709551616 xs % val 18446744073709551616 ys ∧ Below w.heap.size w w' :=
  (div_any h h2 hn).mono fun e w' hd => by
    rcases hd with ⟨h0, _⟩ | ⟨_, hd⟩
    · omega
    · exact hd
theorem div_nil {w : World} {A A2 : Option Addr} {n c n2 c2 : Nat} {xs ys : List Nat} (h : Nt w w.heap.size A n c xs) (h2 : Nt w w.heap.size A2 n2 c2 ys) (hn : n ≤ 1099511627776) (hb : val 18446744073709551616 ys = 0) :
    Calls Try.prog 24 #[.slice A n c, .slice A2 n2 c2] w fun e w' => e = .returned (.tuple #[.slice none 0 0, .slice none 0 0, .int .i64 11]) ∧ Below w.heap.size w w' :=
  (div_any h h2 hn).mono fun e w' hd => by
    rcases hd with ⟨_, he, hb⟩ | ⟨h0, _⟩
    · exact ⟨he, hb⟩
    · omega
theorem write_ok {w : World} {A : Option Addr} {n c : Nat} {xs : List Nat} (h : Nt w w.heap.size A n c xs) (hn : n ≤ 1099511627776) (k : Nat) (x : Int) (hx : x = (k : Int)) (hk : k ≤ 65536) (hb : bl (val 18446744073709551616 xs) ≤ 8 * k) :
    Calls Try.prog 34 #[.slice A n c, .int .i64 x] w fun e w' => e = .returned (.tuple #[.slice (some ⟨w.heap.size, 0, none⟩) k k, .int .i64 0]) ∧ Ob w' w.heap.size (bts (val 18446744073709551616 xs) k) ∧ Below w.heap.size w w' := by
  subst hx
  exact (write_any h hn (k : Int) (by omega) (by omega)).mono fun e w' hd => by
    rcases hd with ⟨h0, _⟩ | ⟨h0, _⟩ | ⟨_, he, ho, hbl⟩
    · omega
    · omega
    · rw [Int.toNat_natCast] at he ho
      exact ⟨he, ho, hbl⟩
theorem nt_nil (w : World) (B : Nat) : Nt w B none 0 0 [] := ⟨rfl, Nat.le_refl _, Nat.zero_le _, Lim.nil _, fun h => absurd h (Nat.lt_irrefl _)⟩

set_option maxHeartbeats 4000000 in
theorem alive_any (w : World) : Calls Try.prog 13 #[] w (Yes w) := by
  go_enter Try.func13, Try.ntmps13
  go_wp2_with fail
  refine (of_any 7 _ rfl (by omega) _).mono ?_
  rintro e w1 ⟨A1, n1, c1, x1, rfl, r1⟩
  go_wp2_with fail
  refine (of_any 2 _ rfl (by omega) _).mono ?_
  rintro e w2 ⟨A2, n2, c2, x2, rfl, r2⟩
  have l1 := len_one r1.trm r1.nt.lim r1.is (by omega) (by omega)
  have l2 := len_one r2.trm r2.nt.lim r2.is (by omega) (by omega)
  subst l1
  subst l2
  have k1 := r1.nt.up r2.bel
  have k2 := r2.nt
  have b2 := bthen r1.bel r2.bel
  have hn1 : n1 = 1 := k1.len.symm
  have hn2 : n2 = 1 := k2.len.symm
  subst hn1
  subst hn2
  clear r1 r2
  go_wp2_with fail
  refine (div_pos k1 k2 (by omega) (by rw [val_one]; omega)).mono ?_
  rintro e w3 ⟨A3, n3, c3, q, A4, n4, c4, r, rfl, q1, q2, q3, r1, r2, r3, b3⟩
  rw [val_one, val_one] at q3 r3
  have lq := len_one (n := 3) q2 q1.lim q3 (by omega) (by omega)
  have lr := len_one (n := 1) r2 r1.lim r3 (by omega) (by omega)
  subst lq
  subst lr
  have hn3 : n3 = 1 := q1.len.symm
  have hn4 : n4 = 1 := r1.len.symm
  subst hn3
  subst hn4
  have b3' := bthen b2 b3
  clear q2 q3 r2 r3 b2 b3 k1 k2
  go_wp2_with fail
  refine (div_nil (nt_nil _ _) (nt_nil _ _) (by omega) rfl).mono ?_
  rintro e w4 ⟨rfl, b4⟩
  have q4 := q1.up b4
  have r4 := r1.up b4
  have b4' := bthen b3' b4
  clear q1 r1 b3' b4
  go_wp2_with fail
  refine (of_any 9223372036854775808 _ rfl (by omega) _).mono ?_
  rintro e w5 ⟨A5, n5, c5, x5, rfl, s5⟩
  have q5 := q4.up s5.bel
  have r5 := r4.up s5.bel
  have b5 := bthen b4' s5.bel
  clear q4 r4 b4'
  go_wp2_with fail
  refine (of_any 6 _ rfl (by omega) _).mono ?_
  rintro e w6 ⟨A6, n6, c6, x6, rfl, s6⟩
  have l5 := len_one s5.trm s5.nt.lim s5.is (by omega) (by omega)
  have l6 := len_one s6.trm s6.nt.lim s6.is (by omega) (by omega)
  subst l5
  subst l6
  have q6 := q5.up s6.bel
  have r6 := r5.up s6.bel
  have m5 := s5.nt.up s6.bel
  have m6 := s6.nt
  have b6 := bthen b5 s6.bel
  have hn5 : n5 = 1 := m5.len.symm
  have hn6 : n6 = 1 := m6.len.symm
  subst hn5
  subst hn6
  clear q5 r5 b5 s5 s6
  go_wp2_with fail
  refine (mul_any m5 m6 (by omega) (by omega)).mono ?_
  rintro e w7 ⟨A7, n7, c7, x7, rfl, s7⟩
  have v7 := s7.is
  rw [val_one, val_one] at v7
  have hl7 : n7 ≤ 1099511627776 := by
    rw [← s7.nt.len]
    exact Nat.le_trans (length_of_val (β := 18446744073709551616) (k := 2) (by omega) s7.trm (by rw [v7]; decide)) (by omega)
  have q7 := q6.up s7.bel
  have r7 := r6.up s7.bel
  have b7 := bthen b6 s7.bel
  have m7 := s7.nt
  clear q6 r6 b6 m5 m6 s7
  go_wp2_with fail
  refine (write_ok m7 hl7 9 _ rfl (by omega) (by rw [v7, bl_of (k := 65) (by decide) (by decide)]; omega)).mono ?_
  rintro e w8 ⟨rfl, o8, b8⟩
  rw [v7] at o8
  have c80 : w8.cell? ⟨w7.heap.size, 0, none⟩ = some (.int .u8 ((3 : Nat) : Int)) := o8.cell (by decide +kernel)
  have c81 : w8.cell? ⟨w7.heap.size, 1, none⟩ = some (.int .u8 ((0 : Nat) : Int)) := o8.cell (by decide +kernel)
  have s8 : w7.heap.size < w8.heap.size := o8.lt
  have q8 := q7.up b8
  have r8 := r7.up b8
  have b8' := bthen b7 b8
  clear q7 r7 b7 b8 m7 v7 o8
  go_wp2_with fail
  refine (of_any 3 _ rfl (by omega) _).mono ?_
  rintro e w9 ⟨A9, n9, c9, x9, rfl, s9⟩
  have v9 := s9.is
  have q9 := q8.up s9.bel
  have r9 := r8.up s9.bel
  have c90 := (s9.bel.cell (p := ⟨w7.heap.size, 0, none⟩) s8).trans c80
  have c91 := (s9.bel.cell (p := ⟨w7.heap.size, 1, none⟩) s8).trans c81
  have b9 := bthen b8' s9.bel
  have m9 := s9.nt
  clear q8 r8 b8' c80 c81 s9 s8
  have hcmp := cmp_any q9 m9
  rw [val_one, v9, sgn_self] at hcmp
  have Hcmp := Lib.hid hcmp
  clear hcmp v9
  obtain ⟨br, offr, rfl, hbr, cr9⟩ := r9.at_ (k := 0) (by omega)
  have cr9' : w9.cell? ⟨br, offr, none⟩ = some (.int .u64 ((1 : Nat) : Int)) := by simpa using cr9
  go_wp2_with fail
  refine Hcmp.out.mono ?_
  rintro e w10 ⟨rfl, d, rfl⟩
  have b10 := bdr b9 d
  clear cr9
  go_wp2_with fail
  go_ret
  exact ⟨rfl, b10⟩
end Go.Proofs.Ytajppinnnmnjiaa
