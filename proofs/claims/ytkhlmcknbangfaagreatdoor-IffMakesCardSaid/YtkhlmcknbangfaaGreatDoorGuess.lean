/- nat.guess: a digit that is not too small. -/
import Derived.Test.YtkhlmcknbangfaaGreatDoorDiv64
import Derived.Test.YtkhlmcknbangfaaGreatDoorTake
namespace Go.Proofs.YtkhlmcknbangfaaGreatDoor
set_option linter.unusedSimpArgs false
set_option linter.unusedVariables false
open Go.RowKit
set_option linter.unusedVariables false

set_option maxHeartbeats 1000000 in
theorem div64_zero (lo y : Nat) (hlo : lo < 18446744073709551616) (hy : 0 < y) (w : World) :
    Calls Tryz.prog 184 #[.int .u64 ((0 : Nat) : Int), .int .u64 (lo : Int), .int .u64 (y : Int)] w (Quo 0 lo y w) := by
  have b1 : (lo : Int) / (y : Int) = ((lo / y : Nat) : Int) := by simp
  have b2 : (lo : Int) % (y : Int) = ((lo % y : Nat) : Int) := by simp
  have b3 : ((y : Int) == 0) = false := by simp; omega
  have hq : lo < (lo / y + 1) * y := by
    have := Nat.lt_mul_div_succ lo hy
    rw [Nat.mul_comm] at this
    exact this
  have hql : lo / y ≤ lo := Nat.div_le_self _ _
  have hrl : lo % y ≤ lo := Nat.mod_le _ _
  generalize lo / y = q at *
  generalize lo % y = r at *
  have hq' : q < 18446744073709551616 := by omega
  have hr' : r < 18446744073709551616 := by omega
  have hy' : (0 : Int) < (y : Int) := by omega
  have Hq := Lib.hid hq
  clear hq hql hrl
  go_enter Tryz.func184, Tryz.ntmps184
  go_wp2
  go_quiet (fail)
  go_wp2
  go_ret2
  exact ⟨q, _, _, rfl, hq', by rw [Nat.zero_mul, Nat.zero_add]; exact Hq.out, rfl⟩

theorem div64_all (hi lo y : Nat) (hlo : lo < 18446744073709551616) (hy : 9223372036854775808 ≤ y) (hy' : y < 18446744073709551616) (hhi : hi < y) (w : World) :
    Calls Tryz.prog 184 #[.int .u64 (hi : Int), .int .u64 (lo : Int), .int .u64 (y : Int)] w (Quo hi lo y w) := by
  rcases Nat.eq_zero_or_pos hi with h0 | h0
  · subst h0; exact div64_zero lo y hlo (by omega) w
  · exact div64_any hi lo y (y / 4294967296) (y % 4294967296) (lo / 4294967296) (lo % 4294967296) (by omega) (by omega) (by omega) (by omega) (by omega) hhi h0 (by omega) (by omega) w

/-- a part of a block, read -/
theorem Ow.part {w : World} {g n c : Nat} {A : Option Addr} {pre U post : List Nat} (h : Ow w g (pre ++ U ++ post)) (hA : 0 < n → A = some ⟨g, pre.length, none⟩) (hn : U.length = n) (hc : n ≤ c) (hr : c ≤ maxLen) (hU : Lim 18446744073709551616 U) : Nt w (g + 1) A n c U :=
  ⟨hn, hc, hr, hU, fun h0 => ⟨g, pre.length, hA h0, by omega, fun j x hj => h.cell (by
    have hl : j < U.length := by
      rcases Nat.lt_or_ge j U.length with h | h
      · exact h
      · rw [List.getElem?_eq_none h] at hj; cases hj
    rw [List.getElem?_append_left (by simp; omega), List.getElem?_append_right (by omega)]
    simpa using hj)⟩⟩

/-- what guess leaves -/
def Guess (U V : Nat) (w : World) (e : Ending) (w' : World) : Prop := ∃ q d : Nat, e = .returned (.int .u64 (q : Int)) ∧ q < 18446744073709551616 ∧ U < (q + 1) * V ∧ w' = w.drewN d

theorem guess_val {U V : List Nat} {m u2 u1 v q : Nat} (hU : U.length = m + 2) (hV : V.length = m + 1) (hUL : Lim 18446744073709551616 U) (e2 : U.getD (m + 1) 0 = u2) (e1 : U.getD m 0 = u1) (ev : V.getD m 0 = v) (h : u2 * 18446744073709551616 + u1 < (q + 1) * v) :
    val 18446744073709551616 U < (q + 1) * val 18446744073709551616 V := by
  have a1 := val_take_succ 18446744073709551616 U (m + 1)
  rw [List.take_of_length_le (by omega), val_take_succ, e1, e2, Nat.pow_succ] at a1
  have a2 := val_take_succ 18446744073709551616 V m
  rw [List.take_of_length_le (by omega), ev] at a2
  have a3 := val_lt (hUL.take m)
  rw [List.length_take, Nat.min_eq_left (by omega)] at a3
  refine guess_ok (P := 18446744073709551616 ^ m) (lowU := val 18446744073709551616 (U.take m)) (lowV := val 18446744073709551616 (V.take m)) (u2 := u2) (u1 := u1) (v := v) (β := 18446744073709551616) ?_ a3 ?_ h
  · rw [a1, Nat.add_mul]
    have e3 : u2 * 18446744073709551616 * 18446744073709551616 ^ m = 18446744073709551616 ^ m * 18446744073709551616 * u2 := by ac_rfl
    have e4 : u1 * 18446744073709551616 ^ m = 18446744073709551616 ^ m * u1 := Nat.mul_comm _ _
    omega
  · rw [a2, Nat.mul_comm v]; omega

set_option maxHeartbeats 2000000 in
theorem guess_any {w : World} {B B2 n nu c c2 m : Nat} {A A2 : Option Addr} {U V : List Nat} (hu : Nt w B A nu c U) (hv : Nt w B2 A2 n c2 V) (hn : n = m + 1) (hnu : nu = m + 2) (htop : 9223372036854775808 ≤ V.getD m 0) (hlt : val 18446744073709551616 U < val 18446744073709551616 V * 18446744073709551616) :
    Calls Tryz.prog 173 #[.slice A nu c, .slice A2 n c2] w (Guess (val 18446744073709551616 U) (val 18446744073709551616 V) w) := by
  have hr := hu.rooms
  have hr2 := hv.rooms
  obtain ⟨b, off, rfl, hb, hx2⟩ := hu.at_ (k := n) (by omega)
  obtain ⟨b', off', e', hb', hx1⟩ := hu.at_ (k := m) (by omega)
  cases e'
  obtain ⟨b2, off2, rfl, hb2, hxv⟩ := hv.at_ (k := m) (by omega)
  have l2 := hu.lim.get (by omega) n
  have l1 := hu.lim.get (by omega) m
  have lv := hv.lim.get (by omega) m
  have s1 : IntKind.i64.wrap ((n : Int) - 1) = (m : Int) := by rw [IntWalk.i64_in _ (by omega)]; omega
  have s1' : (n : Int) - 1 = (m : Int) := by omega
  have s1'' : IntKind.i64.wrap (m : Int) = (m : Int) := IntWalk.i64_in _ (by omega)
  have s2 : (n : Int) < (nu : Int) := by omega
  have s3 : (m : Int) < (nu : Int) := by omega
  have s4 : (m : Int) < (n : Int) := by omega
  have hmn : m < nu := by omega
  have hmn' : n < nu := by omega
  have hmn2 : m < n := by omega
  generalize eu2 : U.getD n 0 = u2 at *
  generalize eu1 : U.getD m 0 = u1 at *
  generalize ev : V.getD m 0 = v at *
  rw [hn] at eu2
  have hUl : U.length = m + 2 := by rw [hu.len, hnu]
  have hVl : V.length = m + 1 := by rw [hv.len, hn]
  have hfin : ∀ q, u2 * 18446744073709551616 + u1 < (q + 1) * v → val 18446744073709551616 U < (q + 1) * val 18446744073709551616 V := fun q h => guess_val hUl hVl hu.lim eu2 eu1 ev h
  have Hfin := Lib.hid hfin
  have Hlt := Lib.hid hlt
  clear hfin hlt hUl hVl eu2 eu1 ev hn hnu
  by_cases hbig : v ≤ u2
  · have t : (v : Int) ≤ (u2 : Int) := by omega
    go_enter Tryz.func173, Tryz.ntmps173
    go_wp2
    go_quiet (fail)
    go_wp2
    go_ret
    exact ⟨18446744073709551615, _, rfl, by omega, guess_max Hlt.out (by omega), rfl⟩
  · have t : (u2 : Int) < (v : Int) := by omega
    have hd := fun W => div64_all u2 u1 v l1 htop lv (by omega) W
    have Hd := Lib.hid hd
    clear hd
    go_enter Tryz.func173, Tryz.ntmps173
    go_wp2
    go_quiet (fail)
    go_wp2
    go_region_with (go_at_call 184; refine (Hd.out _).mono ?_; rintro e w2 ⟨q, R, d, rfl, hq, hqq, hw2⟩; have Hqq := Lib.hid hqq; clear hqq; have Hw2 := Lib.hid hw2; clear hw2)
    all_goals
      go_wp2
      go_ret
      refine ⟨q, nq + 1 + d, rfl, hq, Hfin.out q Hqq.out, ?_⟩
      rw [Hw2.out]
      simp only [← World.drewN_drewN]
end Go.Proofs.YtkhlmcknbangfaaGreatDoor
