/- modn: squaresTo, twosOf, Sure. -/
import Derived.Test.YtkhlmcknbangfaaGreatDoorM10
import Derived.Test.YtkhlmcknbangfaaGreatDoorMaths
namespace Go.Proofs.YtkhlmcknbangfaaGreatDoor
set_option linter.unusedSimpArgs false
set_option linter.unusedVariables false
open Go.RowKit
set_option linter.unusedVariables false
set_option maxRecDepth 100000

theorem sgn_ne {x y : Nat} (h : x ≠ y) : sgn (x : Int) (y : Int) ≠ 0 := by
  unfold sgn
  split
  · decide
  · split
    · decide
    · omega
/-- nat.Cmp tells whether two numbers are the same -/
theorem cmp_same {w : World} {B : Nat} {A A2 : Option Addr} {n c n2 c2 : Nat} {xs ys : List Nat} (h : Nt w B A n c xs) (h2 : Nt w B A2 n2 c2 ys) :
    Calls Tryz.prog 26 #[.slice A n c, .slice A2 n2 c2] w fun e w' => ∃ (s : Int), e = .returned (.int .i64 s) ∧ (s = 0 ↔ val 18446744073709551616 xs = val 18446744073709551616 ys) ∧ ∃ d, w' = w.drewN d :=
  (cmp_any h h2).mono fun e w' ⟨he, hd⟩ => ⟨_, he, by
    constructor
    · intro h0
      rcases Nat.lt_trichotomy (val 18446744073709551616 xs) (val 18446744073709551616 ys) with h1 | h1 | h1
      · exact absurd h0 (sgn_ne (by omega))
      · exact h1
      · exact absurd h0 (sgn_ne (by omega))
    · intro h0
      rw [h0, sgn_self], hd⟩

theorem among_succ (x n w k : Nat) : among x n w (k + 1) = (among x n w k || (sqs x n k == w)) := by
  unfold among
  rw [List.range_succ, List.any_append]
  simp

set_option maxHeartbeats 4000000 in
theorem squares_any {w : World} {A1 A2 A3 : Option Addr} {n1 c1 n2 c2 n3 c3 : Nat} {xs ws ns : List Nat} (h1 : Nt w w.heap.size A1 n1 c1 xs) (h2 : Nt w w.heap.size A2 n2 c2 ws) (h3 : Nt w w.heap.size A3 n3 c3 ns)
    (hn1 : n1 ≤ n3) (hn3 : n3 ≤ 1099511) (hpos : 0 < val 18446744073709551616 ns) (t : Nat) (ht : t ≤ 1099511627776) :
    Calls Tryz.prog 179 #[.slice A1 n1 c1, .slice A2 n2 c2, .slice A3 n3 c3, .int .i64 (t : Int)] w fun e w' => e = .returned (.bool (among (val 18446744073709551616 xs) (val 18446744073709551616 ns) (val 18446744073709551616 ws) t)) ∧ Below w.heap.size w w' := by
  have pn := h3.below_pow (Nat.le_refl _)
  obtain ⟨x, hx⟩ : ∃ x, val 18446744073709551616 xs = x := ⟨_, rfl⟩
  obtain ⟨v, hv⟩ : ∃ v, val 18446744073709551616 ws = v := ⟨_, rfl⟩
  obtain ⟨N, hN⟩ : ∃ N, val 18446744073709551616 ns = N := ⟨_, rfl⟩
  rw [hx, hv, hN]
  rw [hN] at hpos pn
  go_enter Tryz.func179, Tryz.ntmps179
  go_wp2_with fail
  go_loopw [0, 10] (fun u i wr => ∃ (k : Nat) (A : Option Addr) (n c : Nat) (ys : List Nat), k ≤ t ∧ i = .int .i64 (k : Int) ∧ u = .slice A n c ∧ Nt wr wr.heap.size A n c ys ∧ n ≤ n3 ∧ Hid (val 18446744073709551616 ys = sqs x N k) ∧ Hid (among x N v k = false) ∧ Below w.heap.size w wr) (fun _ i _ => t - (intOf i).toNat)
  case atStart => exact ⟨0, A1, n1, c1, xs, Nat.zero_le _, rfl, rfl, h1, hn1, hx, rfl, Below.refl _ _⟩
  case round =>
    obtain ⟨k, A, n, c, ys, hk, rfl, rfl, N0, l0, hs, ha, B0⟩ := hrel
    by_cases hlt : k < t
    · go_wp2_with fail
      refine (cmp_same N0 (h2.up B0)).mono ?_
      rintro e w1 ⟨s, rfl, hs0, d, rfl⟩
      rw [hs.out, hv] at hs0
      by_cases he : sqs x N k = v
      · have hs1 : s = 0 := hs0.2 he
        subst hs1
        have hres : among x N v t = true := by
          unfold among
          rw [List.any_eq_true]
          exact ⟨k, List.mem_range.2 hlt, by simp [he]⟩
        go_wp2_with fail
        go_ret
        rw [hres]
        exact ⟨rfl, bdr B0 d⟩
      · have hs1 : (s == 0) = false := by
          have : s ≠ 0 := fun h => he (hs0.1 h)
          simpa using this
        have B1 := bdr B0 d
        have N0' := N0.dr d
        go_wp2_with fail
        refine (mmul_pos N0' N0' (h3.up B1) (by omega) (by omega) (by omega) (by omega)).mono ?_
        rintro e w2 ⟨A5, n5, c5, x5, rfl, r5⟩
        rw [hs.out, hN] at r5
        have B2 := bthen B1 r5.bel
        have l5 : n5 ≤ n3 := r5.le (Nat.lt_trans (Nat.mod_lt _ hpos) pn)
        have HA : Hid (among x N v (k + 1) = false) := by
          show _ = _
          rw [among_succ, ha.out]
          simpa using he
        have HS : Hid (val 18446744073709551616 x5 = sqs x N (k + 1)) := r5.is
        go_wp2_with fail
        go_roundw
        case rel => exact ⟨k + 1, _, _, _, x5, by omega, by simp, rfl, r5.nt, l5, HS, HA, B2⟩
        case measure => simp [intOf]; omega
    · have hkt : k = t := by omega
      subst hkt
      go_wp2_with fail
      go_ret
      rw [ha.out]
      exact ⟨rfl, B0⟩

/-- how often 2 parts a number above 0 -/
def tzF : Nat → Nat → Nat
  | 0, _ => 0
  | f + 1, a => if a % 2 = 0 then tzF f (a / 2) + 1 else 0
def tz (a : Nat) : Nat := tzF (bl a) a
theorem tzF_spec : ∀ f a, 0 < a → a < 2 ^ f → a % 2 ^ tzF f a = 0 ∧ a / 2 ^ tzF f a % 2 = 1 := by
  intro f
  induction f with
  | zero => intro a h0 h1; simp at h1; omega
  | succ f ih =>
    intro a h0 h1
    rw [Nat.pow_succ] at h1
    unfold tzF
    split
    · rename_i he
      obtain ⟨i1, i2⟩ := ih (a / 2) (by omega) (by omega)
      rw [Nat.pow_succ, Nat.mul_comm, ← Nat.div_div_eq_div_mul, Nat.mod_mul, i1]
      exact ⟨by omega, i2⟩
    · exact ⟨by simp [Nat.mod_one], by simp; omega⟩
theorem tz_spec {a : Nat} (h : 0 < a) : a % 2 ^ tz a = 0 ∧ a / 2 ^ tz a % 2 = 1 := tzF_spec _ _ h (lt_bl a)
theorem tz_unique {a s : Nat} (h : 0 < a) (h1 : a % 2 ^ s = 0) (h2 : a / 2 ^ s % 2 = 1) : s = tz a := by
  obtain ⟨k1, k2⟩ := tz_spec h
  rcases Nat.lt_trichotomy s (tz a) with hl | hl | hl
  · exfalso
    obtain ⟨u, hu⟩ : ∃ u, tz a = s + (u + 1) := ⟨tz a - s - 1, by omega⟩
    rw [hu, Nat.pow_add, Nat.mod_mul, h1, Nat.zero_add] at k1
    have h3 : a / 2 ^ s % 2 ^ (u + 1) = 0 := by
      rcases Nat.mul_eq_zero.1 k1 with h | h
      · have := Nat.two_pow_pos s; omega
      · exact h
    rw [Nat.pow_succ, Nat.mul_comm, Nat.mod_mul] at h3
    omega
  · exact hl
  · exfalso
    obtain ⟨u, hu⟩ : ∃ u, s = tz a + (u + 1) := ⟨s - tz a - 1, by omega⟩
    rw [hu, Nat.pow_add, Nat.mod_mul, k1, Nat.zero_add] at h1
    have h3 : a / 2 ^ tz a % 2 ^ (u + 1) = 0 := by
      rcases Nat.mul_eq_zero.1 h1 with h | h
      · have := Nat.two_pow_pos (tz a); omega
      · exact h
    rw [Nat.pow_succ, Nat.mul_comm, Nat.mod_mul] at h3
    omega

set_option maxHeartbeats 4000000 in
theorem twosOf_any {w : World} {B : Nat} {A : Option Addr} {n c : Nat} {xs : List Nat} (h : Nt w B A n c xs) (hn : n ≤ 1099511627) (hpos : 0 < val 18446744073709551616 xs) :
    Calls Tryz.prog 177 #[.slice A n c] w fun e w' => e = .returned (.int .i64 ((tz (val 18446744073709551616 xs) : Nat) : Int)) ∧ w = w' := by
  have pn := h.below_pow (Nat.le_refl _)
  rw [base_pow] at pn
  have hbit := fun i hi => bit_any h i hi
  obtain ⟨a, ha⟩ : ∃ a, val 18446744073709551616 xs = a := ⟨_, rfl⟩
  rw [ha] at pn hpos hbit
  rw [ha]
  have Hbit := Lib.hid hbit
  have Hpn := Lib.hid pn
  clear hbit pn
  have hle : ∀ k, a % 2 ^ k = 0 → k < 64 * n := fun k hk => by
    have h1 := Nat.le_of_dvd hpos (Nat.dvd_of_mod_eq_zero hk)
    have h2 : 2 ^ k < 2 ^ (64 * n) := Nat.lt_of_le_of_lt h1 Hpn.out
    exact (Nat.pow_lt_pow_iff_right (by omega)).1 h2
  have Hle := Lib.hid hle
  clear hle
  go_enter Tryz.func177, Tryz.ntmps177
  go_wp2_with fail
  go_loop [3] (fun i => ∃ k : Nat, i = .int .i64 (k : Int) ∧ Hid (a % 2 ^ k = 0)) (fun i => 64 * n - (intOf i).toNat)
  case atStart => exact ⟨0, rfl, by show _ = _; simp [Nat.mod_one]⟩
  case round =>
    obtain ⟨k, rfl, hk⟩ := hrel
    have hlt := Hle.out k hk.out
    go_wp2_with fail
    refine (Hbit.out (k : Int) (by omega)).mono ?_
    rintro e w1 ⟨rfl, rfl⟩
    rw [btN_of rfl]
    rcases Nat.mod_two_eq_zero_or_one (a / 2 ^ k) with hb | hb
    · rw [hb]
      have HK : Hid (a % 2 ^ (k + 1) = 0) := by
        show _ = _
        rw [Nat.pow_succ, Nat.mod_mul, hk.out, hb]; simp
      go_wp2_with fail
      go_round
      case rel => exact ⟨k + 1, by simp, HK⟩
      case measure => simp [intOf]; omega
    · have hu := tz_unique hpos hk.out hb
      rw [hb]
      go_wp2_with fail
      go_ret
      rw [← hu]
      exact ⟨rfl, rfl⟩

/-- is it a prime -/
def isP (n : Nat) : Bool := decide (2 ≤ n ∧ ∀ d, d < n → 2 ≤ d → ¬ n % d = 0)
theorem isP_prm {n : Nat} : isP n = true ↔ Prm n := by
  unfold isP Prm
  rw [decide_eq_true_iff]
  constructor
  · rintro ⟨h, k⟩
    refine ⟨h, fun m hm => ?_⟩
    by_cases h1 : m = 1
    · exact .inl h1
    · right
      have hle := Nat.le_of_dvd (by omega) hm
      have h0 : m ≠ 0 := by rintro rfl; have := Nat.eq_zero_of_zero_dvd hm; omega
      rcases Nat.lt_or_ge m n with hl | hl
      · exact absurd (Nat.mod_eq_zero_of_dvd hm) (k m hl (by omega))
      · omega
  · rintro ⟨h, k⟩
    refine ⟨h, fun d hd h2 h0 => ?_⟩
    rcases k d (Nat.dvd_of_mod_eq_zero h0) with e | e <;> omega
theorem isP_no {n d : Nat} (hd : 2 ≤ d) (hle : d ≤ n / d) (h0 : n % d = 0) : isP n = false := by
  unfold isP
  rw [decide_eq_false_iff_not]
  rintro ⟨h, k⟩
  have h1 : d * d ≤ n := Nat.le_trans (Nat.mul_le_mul_left d hle) (Nat.mul_div_le n d)
  have h2 : d * 2 ≤ d * d := Nat.mul_le_mul_left d hd
  exact k d (by omega) hd h0
theorem isP_yes {n d : Nat} (hd : 2 ≤ d) (hgt : n / d < d) (h : ∀ e, 2 ≤ e → e < d → ¬ n % e = 0) : isP n = decide (2 ≤ n) := by
  unfold isP
  by_cases h2 : 2 ≤ n
  · rw [decide_eq_true h2, decide_eq_true_iff]
    refine ⟨h2, fun e he he2 h0 => ?_⟩
    rcases Nat.lt_or_ge e d with hl | hl
    · exact h e he2 hl h0
    · have hne : n = e * (n / e) := (Nat.mul_div_cancel' (Nat.dvd_of_mod_eq_zero h0)).symm
      have hq : n / e < d := Nat.lt_of_le_of_lt (Nat.div_le_div_left hl (by omega)) hgt
      have hq2 : 2 ≤ n / e := by
        generalize n / e = q at *
        rcases (show q = 0 ∨ q = 1 ∨ 2 ≤ q by omega) with e0 | e0 | e0
        · rw [e0] at hne; omega
        · rw [e0] at hne; omega
        · exact e0
      exact h _ hq2 hq (Nat.mod_eq_zero_of_dvd ⟨e, by rw [Nat.mul_comm]; exact hne⟩)
  · rw [decide_eq_false h2, decide_eq_false_iff_not]
    rintro ⟨h3, _⟩
    exact h2 h3


end Go.Proofs.YtkhlmcknbangfaaGreatDoor
