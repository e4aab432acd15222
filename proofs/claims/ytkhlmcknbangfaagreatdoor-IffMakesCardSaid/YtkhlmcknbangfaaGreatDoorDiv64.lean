/- math/bits.Div64 for a divisor whose highest digit is set: a quotient that is not too small. -/
import Derived.Test.YtkhlmcknbangfaaGreatDoorSum
import Derived.Test.YtkhlmcknbangfaaGreatDoorMaths
namespace Go.Proofs.YtkhlmcknbangfaaGreatDoor
set_option linter.unusedSimpArgs false
set_option linter.unusedVariables false
open Go.RowKit
set_option linter.unusedVariables false

theorem maskD (a : Nat) (ha : a < 18446744073709551616) : bits .and .u64 (a : Int) 4294967295 = ((a % 4294967296 : Nat) : Int) := by
  have h := bits_and_u64_nat a 4294967295 ha (by omega)
  have e : a &&& 4294967295 = a % 4294967296 := Nat.and_two_pow_sub_one_eq_mod a 32
  rw [e] at h
  exact h
theorem or_zero (a : Nat) (ha : a < 18446744073709551616) : bits .or .u64 (a : Int) 0 = (a : Int) := by
  have h := bits_or_u64_nat a 0 ha (by omega)
  rw [Nat.or_zero] at h
  exact h
theorem lz_zero {y : Nat} (h : 9223372036854775808 ≤ y) (h2 : y < 18446744073709551616) : lz y = 0 := by
  have hb := bitLen_bounds 64 y (Nat.le_refl _) h2 (by omega)
  have hle : Lib.bitLen y ≤ 64 := Lib.bitLen_le y 64 (Nat.le_refl _) h2
  unfold lz
  rcases Nat.lt_or_ge (Lib.bitLen y) 64 with hlt | hge
  · exfalso
    have : 2 ^ Lib.bitLen y ≤ 2 ^ 63 := Nat.pow_le_pow_right (by omega) (by omega)
    have e : (2 : Nat) ^ 63 = 9223372036854775808 := by decide
    omega
  · omega
theorem rest_eq {hi q y u s : Nat} (h : hi * 4294967296 + u = q * y + s) (hs : s < 18446744073709551616) :
    IntKind.u64.wrap (IntKind.u64.wrap (IntKind.u64.wrap ((hi : Int) * 4294967296) + (u : Int)) - IntKind.u64.wrap ((q : Int) * (y : Int))) = (s : Int) := by
  have e : (q : Int) * (y : Int) = ((q * y : Nat) : Int) := by simp
  rw [IntKind.wrap_u64, IntKind.wrap_u64, IntKind.wrap_u64, IntKind.wrap_u64, e]
  obtain ⟨p, hp⟩ : ∃ p, p = q * y := ⟨_, rfl⟩
  rw [← hp] at h ⊢
  clear hp e
  omega

/-- what Div64 leaves -/
def Quo (hi lo y : Nat) (w : World) (e : Ending) (w' : World) : Prop :=
  ∃ (q : Nat) (R : Int) (d : Nat), e = .returned (.tuple #[.int .u64 (q : Int), .int .u64 R]) ∧ q < 18446744073709551616 ∧ hi * 18446744073709551616 + lo < (q + 1) * y ∧ w' = w.drewN d

/-- half a digit's state -/
def Half (hi y1 y0 y u q r : Nat) : Prop := hi = q * y1 + r ∧ hi * 4294967296 + u < (q + 1) * y ∧ y = y1 * 4294967296 + y0 ∧ hi < y
def Done (hi y u q s : Nat) : Prop := hi * 4294967296 + u = q * y + s ∧ s < y ∧ q < 4294967296

theorem Half.start {hi y1 y0 y u : Nat} (hy1 : 2147483648 ≤ y1) (hy0 : y0 < 4294967296) (hu : u < 4294967296) (ey : y = y1 * 4294967296 + y0) (hh : hi < y) : Half hi y1 y0 y u (hi / y1) (hi % y1) ∧ hi / y1 ≤ 4294967297 ∧ hi % y1 < y1 := by
  refine ⟨⟨?_, ?_, ey, hh⟩, ?_, Nat.mod_lt _ (by omega)⟩
  · rw [Nat.mul_comm]; exact (Nat.div_add_mod hi y1).symm
  · rw [ey]; exact half_start (by omega) hu
  · exact half_most (ey ▸ hh) hy0 (by omega)
theorem Half.done_false {hi y1 y0 y u q r : Nat} (h : Half hi y1 y0 y u q r) (hu : u < 4294967296) (hc : q * y0 ≤ 4294967296 * r + u) : ∃ s, Done hi y u q s := by
  obtain ⟨a, b, c, d⟩ := h
  obtain ⟨e, s, f, g⟩ := half_done (by rw [c]; exact half_false a hc) b d hu
  exact ⟨s, f, g, e⟩
theorem Half.down {hi y1 y0 y u q r : Nat} (h : Half hi y1 y0 y u (q + 1) r) (hu : u < 4294967296) (hc : 4294967296 ≤ q + 1 ∨ 4294967296 * r + u < (q + 1) * y0) : Half hi y1 y0 y u q (r + y1) := by
  obtain ⟨a, b, c, d⟩ := h
  exact ⟨by rw [a, Nat.add_mul]; omega, by rw [c]; exact half_true a (c ▸ d) hu hc, c, d⟩
theorem Half.done_break {hi y1 y0 y u q r : Nat} (h : Half hi y1 y0 y u q (r + y1)) (hu : u < 4294967296) (hy0 : y0 < 4294967296) (hq : q ≤ 4294967296) (hr : 4294967296 ≤ r + y1) : ∃ s, Done hi y u q s := by
  refine h.done_false hu ?_
  have h1 : q * y0 ≤ 4294967296 * 4294967296 := Nat.mul_le_mul hq (Nat.le_of_lt hy0)
  omega

theorem ret2_int {a b R : Int} (h : a = b) : Ending.returned (.tuple #[.int .u64 a, .int .u64 R]) = .returned (.tuple #[.int .u64 b, .int .u64 R]) := by rw [h]
theorem Half.facts {hi y1 y0 y u : Nat} (hy1 : 2147483648 ≤ y1) (hy0 : y0 < 4294967296) (hu : u < 4294967296) (ey : y = y1 * 4294967296 + y0) (hh : hi < y) :
    ∃ q r : Nat, (hi : Int) / (y1 : Int) = (q : Int) ∧ (hi : Int) - (q : Int) * (y1 : Int) = (r : Int) ∧ (0 : Int) ≤ (q : Int) * (y1 : Int) ∧ (q : Int) * (y1 : Int) ≤ (hi : Int) ∧ q ≤ 4294967297 ∧ r < y1 ∧ Hid (Half hi y1 y0 y u q r) := by
  obtain ⟨hH, hq, hr⟩ := Half.start hy1 hy0 hu ey hh
  have h1 := hH.1
  refine ⟨hi / y1, hi % y1, by simp, ?_, Int.mul_nonneg (Int.natCast_nonneg _) (Int.natCast_nonneg _), ?_, hq, hr, hH⟩
  · rw [← Int.natCast_mul]; generalize hi / y1 * y1 = p at *; omega
  · rw [← Int.natCast_mul]; generalize hi / y1 * y1 = p at *; omega
theorem prod_small {q y0 : Nat} (hq : q < 4294967296) (hy : y0 < 4294967296) : ∃ p : Nat, (q : Int) * (y0 : Int) = (p : Int) ∧ q * y0 = p ∧ p < 18446744073709551616 := by
  refine ⟨q * y0, by simp, rfl, ?_⟩
  have := Nat.mul_le_mul (show q ≤ 4294967295 by omega) (show y0 ≤ 4294967295 by omega)
  omega
theorem Quo.mk_ {hi lo y u1 u0 q1 q0 s s0 : Nat} (el : lo = u1 * 4294967296 + u0) (h1 : Done hi y u1 q1 s) (h2 : Done s y u0 q0 s0) : q1 * 4294967296 + q0 < 18446744073709551616 ∧ hi * 18446744073709551616 + lo < (q1 * 4294967296 + q0 + 1) * y := by
  obtain ⟨a, b, c⟩ := h1
  obtain ⟨d, e, f⟩ := h2
  refine ⟨by omega, ?_⟩
  have := half_all (u0 := u0) (q0 := q0) a (by rw [d, Nat.add_mul]; omega)
  have e : hi * 18446744073709551616 + lo = (hi * 4294967296 + u1) * 4294967296 + u0 := by
    rw [el, Nat.add_mul, Nat.mul_assoc, Nat.add_assoc]
  rw [e]
  exact this

theorem rest_eqI {hi y u s : Nat} {q : Int} (h0 : 0 ≤ q) (h : hi * 4294967296 + u = q.toNat * y + s) (hs : s < 18446744073709551616) :
    IntKind.u64.wrap (IntKind.u64.wrap (IntKind.u64.wrap ((hi : Int) * 4294967296) + (u : Int)) - IntKind.u64.wrap (q * (y : Int))) = (s : Int) := by
  obtain ⟨n, rfl⟩ := Int.eq_ofNat_of_zero_le h0
  exact rest_eq h hs
theorem prod_smallI {q : Int} {y0 : Nat} (h0 : 0 ≤ q) (hq : q < 4294967296) (hy : y0 < 4294967296) : ∃ p : Int, q * (y0 : Int) = p ∧ 0 ≤ p ∧ p < 18446744073709551616 ∧ p = ((q.toNat * y0 : Nat) : Int) := by
  obtain ⟨n, rfl⟩ := Int.eq_ofNat_of_zero_le h0
  obtain ⟨p, e1, e2, e3⟩ := prod_small (q := n) (y0 := y0) (by omega) hy
  exact ⟨p, e1, by omega, by omega, by rw [Int.toNat_natCast, e2]⟩
theorem Half.downI {hi y1 y0 y u : Nat} {q r : Int} (h1 : 1 ≤ q) (hr : 0 ≤ r) (h : Half hi y1 y0 y u q.toNat r.toNat) (hu : u < 4294967296) (hc : 4294967296 ≤ q ∨ 4294967296 * r + (u : Int) < ((q.toNat * y0 : Nat) : Int)) : Half hi y1 y0 y u (q - 1).toNat (r + (y1 : Int)).toNat := by
  obtain ⟨n, hn⟩ : ∃ n : Nat, q.toNat = n + 1 := ⟨q.toNat - 1, by omega⟩
  obtain ⟨m, rfl⟩ := Int.eq_ofNat_of_zero_le hr
  rw [show (q - 1).toNat = n by omega, show ((m : Int) + (y1 : Int)).toNat = m + y1 by omega]
  rw [hn, Int.toNat_natCast] at h
  refine h.down hu ?_
  rcases hc with hc | hc
  · left; omega
  · right
    rw [hn] at hc
    generalize (n + 1) * y0 = p at *
    omega
theorem Half.breakI {hi y1 y0 y u : Nat} {q r : Int} (h1 : 1 ≤ q) (hr : 0 ≤ r) (h : Half hi y1 y0 y u (q - 1).toNat (r + (y1 : Int)).toNat) (hu : u < 4294967296) (hy0 : y0 < 4294967296) (hq : q ≤ 4294967297) (hB : 4294967296 ≤ r + (y1 : Int)) : ∃ s, Done hi y u (q - 1).toNat s := by
  obtain ⟨m, rfl⟩ := Int.eq_ofNat_of_zero_le hr
  rw [show ((m : Int) + (y1 : Int)).toNat = m + y1 by omega] at h
  exact h.done_break hu hy0 (by omega) (by omega)
theorem Half.falseI {hi y1 y0 y u : Nat} {q r : Int} (hr : 0 ≤ r) (h : Half hi y1 y0 y u q.toNat r.toNat) (hu : u < 4294967296) (hc : ((q.toNat * y0 : Nat) : Int) ≤ 4294967296 * r + (u : Int)) : ∃ s, Done hi y u q.toNat s := by
  obtain ⟨m, rfl⟩ := Int.eq_ofNat_of_zero_le hr
  refine h.done_false hu ?_
  rw [Int.toNat_natCast]
  generalize q.toNat * y0 = p at *
  omega
theorem Half.posI {y0 u : Nat} {q r : Int} (h0 : 0 ≤ q) (hr : 0 ≤ r) (hc : 4294967296 * r + (u : Int) < ((q.toNat * y0 : Nat) : Int)) : 1 ≤ q := by
  rcases Int.lt_or_le q 1 with h | h
  · exfalso
    obtain rfl : q = 0 := by omega
    simp at hc
    omega
  · exact h
theorem Quo.mkI {hi lo y u1 u0 s s0 : Nat} {q1 q0 : Int} (h1 : 0 ≤ q1) (h0 : 0 ≤ q0) (el : lo = u1 * 4294967296 + u0) (d1 : Done hi y u1 q1.toNat s) (d2 : Done s y u0 q0.toNat s0) (w : World) (R : Int) :
    Quo hi lo y w (.returned (.tuple #[.int .u64 (q1 * 4294967296 + q0), .int .u64 R])) w := by
  obtain ⟨n, rfl⟩ := Int.eq_ofNat_of_zero_le h1
  obtain ⟨m, rfl⟩ := Int.eq_ofNat_of_zero_le h0
  have hz := Quo.mk_ el d1 d2
  exact ⟨n * 4294967296 + m, R, 0, ret2_int (by simp), hz.1, hz.2, rfl⟩

set_option maxHeartbeats 4000000 in
set_option maxRecDepth 100000 in
theorem div64_any (hi lo y y1 y0 u1 u0 : Nat) (hy1 : 2147483648 ≤ y1) (hy1' : y1 < 4294967296) (hy0 : y0 < 4294967296) (hu1 : u1 < 4294967296) (hu0 : u0 < 4294967296) (hhi : hi < y) (hpos : 0 < hi)
    (ey : y = y1 * 4294967296 + y0) (el : lo = u1 * 4294967296 + u0) (w : World) :
    Calls Tryz.prog 184 #[.int .u64 (hi : Int), .int .u64 (lo : Int), .int .u64 (y : Int)] w (Quo hi lo y w) := by
  have hlz : lz y = 0 := lz_zero (by omega) (by omega)
  have hc := lz_any y (by omega) (by omega) w
  rw [hlz] at hc
  have Hc := Lib.hid hc
  have b1 : (y : Int) / 4294967296 = (y1 : Int) := by omega
  have b2 : bits .and .u64 (y : Int) 4294967295 = (y0 : Int) := by rw [maskD _ (by omega)]; omega
  have b3 : (lo : Int) / 4294967296 = (u1 : Int) := by omega
  have b4 : bits .and .u64 (lo : Int) 4294967295 = (u0 : Int) := by rw [maskD _ (by omega)]; omega
  have b5 : ((y : Int) == 0) = false := by simp; omega
  have b6 : ((hi : Int) == 0) = false := by simp; omega
  have b7 : ¬ ((y : Int) ≤ (hi : Int)) := by omega
  have b8 : (hi : Int) < (y : Int) := by omega
  have b9 : (y : Int) < 18446744073709551616 := by omega
  have b10 : (lo : Int) < 18446744073709551616 := by omega
  have b11 : (lo : Int) / 18446744073709551616 = 0 := by omega
  have b12 := or_zero hi (by omega)
  have b17 : 0 < y1 := by omega
  obtain ⟨q0, r0, b13, b14, b15, b16, hq, hr, HH⟩ := Half.facts hy1 hy0 hu1 ey hhi
  have Hey := Lib.hid ey
  have Hel := Lib.hid el
  clear hlz hc ey el
  go_enter Tryz.func184, Tryz.ntmps184
  go_wp2_with (go_at_call 122; refine Hc.out.mono ?_; rintro e w' ⟨rfl, rfl⟩)
  go_loop [15, 16] (fun qv rv => ∃ q r : Int, qv = .int .u64 q ∧ rv = .int .u64 r ∧ 0 ≤ q ∧ 0 ≤ r ∧ r < 4294967296 ∧ q ≤ 4294967297 ∧ Hid (Half hi y1 y0 y u1 q.toNat r.toNat)) (fun qv _ => (intOf qv).toNat)
  case atStart => exact ⟨q0, r0, rfl, rfl, by omega, by omega, by omega, by omega, HH⟩
  case round =>
    clear b13 b14 b15 b16 hq hr HH b1 b2 b3 b4 b5 b6 b7 b10 b11 b12
    obtain ⟨q, r, rfl, rfl, hq0u1, hr0u1, hrbu1, hqbu1, hh⟩ := hrel
    by_cases hAu1 : 4294967296 ≤ q
    · have hpu1 : 1 ≤ q := by omega
      have hdnu1 := Half.downI hpu1 hr0u1 hh.out hu1 (.inl hAu1)
      by_cases hBu1 : 4294967296 ≤ r + (y1 : Int)
      · obtain ⟨su1, hdu1⟩ := Half.breakI hpu1 hr0u1 hdnu1 hu1 hy0 hqbu1 hBu1
        have hq1u1 : 0 ≤ q - 1 := by omega
        have hqb1 : (q - 1) < 4294967296 := by have := hdu1.2.2; omega
        have fe := rest_eqI hq1u1 hdu1.1 (by have := hdu1.2.1; omega)
        have hs1 : su1 < y := hdu1.2.1
        obtain ⟨q2, r2, c13, c14, c15, c16, hq2, hr2, HH2⟩ := Half.facts hy1 hy0 hu0 Hey.out hs1
        have Hdu1 := Lib.hid hdu1
        clear hdu1
        go_wp2
        go_loop [18, 16] (fun qv rv => ∃ q r : Int, qv = .int .u64 q ∧ rv = .int .u64 r ∧ 0 ≤ q ∧ 0 ≤ r ∧ r < 4294967296 ∧ q ≤ 4294967297 ∧ Hid (Half su1 y1 y0 y u0 q.toNat r.toNat)) (fun qv _ => (intOf qv).toNat)
        case atStart => exact ⟨q2, r2, rfl, rfl, by omega, by omega, by omega, by omega, HH2⟩
        case round =>
          clear c13 c14 c15 c16 hq2 hr2 HH2 fe
          obtain ⟨qq, rr, rfl, rfl, hq0u0, hr0u0, hrbu0, hqbu0, hh2⟩ := hrel
          by_cases hAu0 : 4294967296 ≤ qq
          · have hpu0 : 1 ≤ qq := by omega
            have hdnu0 := Half.downI hpu0 hr0u0 hh2.out hu0 (.inl hAu0)
            by_cases hBu0 : 4294967296 ≤ rr + (y1 : Int)
            · obtain ⟨su0, hdu0⟩ := Half.breakI hpu0 hr0u0 hdnu0 hu0 hy0 hqbu0 hBu0
              have hq1u0 : 0 ≤ qq - 1 := by omega
              have hqq : (qq - 1) < 4294967296 := by have := hdu0.2.2; omega
              have Hdu0 := Lib.hid hdu0
              clear hdu0
              go_wp2
              go_ret2
              exact Quo.mkI hq1u1 hq1u0 Hel.out Hdu1.out Hdu0.out _ _
            · have Hdnu0 := Lib.hid hdnu0
              clear hdnu0
              go_wp2
              go_round
              case rel => exact ⟨qq - 1, rr + (y1 : Int), rfl, rfl, by omega, by omega, by omega, by omega, Hdnu0.out⟩
              case measure => simp [intOf]; omega
          · have hAdu0 : decide ((4294967296 : Int) ≤ qq) = false := by simp; omega
            have hAnu0 : qq < 4294967296 := by omega
            clear hAu0
            obtain ⟨pru0, e1u0, e2u0, e3u0, e4u0⟩ := prod_smallI hq0u0 (by omega) hy0
            by_cases hCu0 : pru0 ≤ 4294967296 * rr + (u0 : Int)
            · obtain ⟨su0, hdu0⟩ := Half.falseI hr0u0 hh2.out hu0 (e4u0 ▸ hCu0)
              have hCdu0 : decide (4294967296 * rr + (u0 : Int) < pru0) = false := by simp; omega
              clear e4u0 hCu0
              have hq1u0 : 0 ≤ qq := hq0u0
              have hqq : qq < 4294967296 := by have := hdu0.2.2; omega
              have Hdu0 := Lib.hid hdu0
              clear hdu0
              go_wp2
              go_ret2
              exact Quo.mkI hq1u1 hq1u0 Hel.out Hdu1.out Hdu0.out _ _
            · have hC'u0 : 4294967296 * rr + (u0 : Int) < pru0 := by omega
              have hpu0 : 1 ≤ qq := Half.posI (u := u0) hq0u0 hr0u0 (e4u0 ▸ hC'u0)
              have hdnu0 := Half.downI hpu0 hr0u0 hh2.out hu0 (.inr (e4u0 ▸ hC'u0))
              clear e4u0
              by_cases hBu0 : 4294967296 ≤ rr + (y1 : Int)
              · obtain ⟨su0, hdu0⟩ := Half.breakI hpu0 hr0u0 hdnu0 hu0 hy0 hqbu0 hBu0
                have hq1u0 : 0 ≤ qq - 1 := by omega
                have hqq : (qq - 1) < 4294967296 := by have := hdu0.2.2; omega
                have Hdu0 := Lib.hid hdu0
                clear hdu0
                go_wp2
                go_ret2
                exact Quo.mkI hq1u1 hq1u0 Hel.out Hdu1.out Hdu0.out _ _
              · have Hdnu0 := Lib.hid hdnu0
                clear hdnu0
                go_wp2
                go_round
                case rel => exact ⟨qq - 1, rr + (y1 : Int), rfl, rfl, by omega, by omega, by omega, by omega, Hdnu0.out⟩
                case measure => simp [intOf]; omega
      · have Hdnu1 := Lib.hid hdnu1
        clear hdnu1
        go_wp2
        go_round
        case rel => exact ⟨q - 1, r + (y1 : Int), rfl, rfl, by omega, by omega, by omega, by omega, Hdnu1.out⟩
        case measure => simp [intOf]; omega
    · have hAdu1 : decide ((4294967296 : Int) ≤ q) = false := by simp; omega
      have hAnu1 : q < 4294967296 := by omega
      clear hAu1
      obtain ⟨pru1, e1u1, e2u1, e3u1, e4u1⟩ := prod_smallI hq0u1 (by omega) hy0
      by_cases hCu1 : pru1 ≤ 4294967296 * r + (u1 : Int)
      · obtain ⟨su1, hdu1⟩ := Half.falseI hr0u1 hh.out hu1 (e4u1 ▸ hCu1)
        have hCdu1 : decide (4294967296 * r + (u1 : Int) < pru1) = false := by simp; omega
        clear e4u1 hCu1
        have hq1u1 : 0 ≤ q := hq0u1
        have hqb1 : q < 4294967296 := by have := hdu1.2.2; omega
        have fe := rest_eqI hq1u1 hdu1.1 (by have := hdu1.2.1; omega)
        have hs1 : su1 < y := hdu1.2.1
        obtain ⟨q2, r2, c13, c14, c15, c16, hq2, hr2, HH2⟩ := Half.facts hy1 hy0 hu0 Hey.out hs1
        have Hdu1 := Lib.hid hdu1
        clear hdu1
        go_wp2
        go_loop [18, 16] (fun qv rv => ∃ q r : Int, qv = .int .u64 q ∧ rv = .int .u64 r ∧ 0 ≤ q ∧ 0 ≤ r ∧ r < 4294967296 ∧ q ≤ 4294967297 ∧ Hid (Half su1 y1 y0 y u0 q.toNat r.toNat)) (fun qv _ => (intOf qv).toNat)
        case atStart => exact ⟨q2, r2, rfl, rfl, by omega, by omega, by omega, by omega, HH2⟩
        case round =>
          clear c13 c14 c15 c16 hq2 hr2 HH2 fe
          obtain ⟨qq, rr, rfl, rfl, hq0u0, hr0u0, hrbu0, hqbu0, hh2⟩ := hrel
          by_cases hAu0 : 4294967296 ≤ qq
          · have hpu0 : 1 ≤ qq := by omega
            have hdnu0 := Half.downI hpu0 hr0u0 hh2.out hu0 (.inl hAu0)
            by_cases hBu0 : 4294967296 ≤ rr + (y1 : Int)
            · obtain ⟨su0, hdu0⟩ := Half.breakI hpu0 hr0u0 hdnu0 hu0 hy0 hqbu0 hBu0
              have hq1u0 : 0 ≤ qq - 1 := by omega
              have hqq : (qq - 1) < 4294967296 := by have := hdu0.2.2; omega
              have Hdu0 := Lib.hid hdu0
              clear hdu0
              go_wp2
              go_ret2
              exact Quo.mkI hq1u1 hq1u0 Hel.out Hdu1.out Hdu0.out _ _
            · have Hdnu0 := Lib.hid hdnu0
              clear hdnu0
              go_wp2
              go_round
              case rel => exact ⟨qq - 1, rr + (y1 : Int), rfl, rfl, by omega, by omega, by omega, by omega, Hdnu0.out⟩
              case measure => simp [intOf]; omega
          · have hAdu0 : decide ((4294967296 : Int) ≤ qq) = false := by simp; omega
            have hAnu0 : qq < 4294967296 := by omega
            clear hAu0
            obtain ⟨pru0, e1u0, e2u0, e3u0, e4u0⟩ := prod_smallI hq0u0 (by omega) hy0
            by_cases hCu0 : pru0 ≤ 4294967296 * rr + (u0 : Int)
            · obtain ⟨su0, hdu0⟩ := Half.falseI hr0u0 hh2.out hu0 (e4u0 ▸ hCu0)
              have hCdu0 : decide (4294967296 * rr + (u0 : Int) < pru0) = false := by simp; omega
              clear e4u0 hCu0
              have hq1u0 : 0 ≤ qq := hq0u0
              have hqq : qq < 4294967296 := by have := hdu0.2.2; omega
              have Hdu0 := Lib.hid hdu0
              clear hdu0
              go_wp2
              go_ret2
              exact Quo.mkI hq1u1 hq1u0 Hel.out Hdu1.out Hdu0.out _ _
            · have hC'u0 : 4294967296 * rr + (u0 : Int) < pru0 := by omega
              have hpu0 : 1 ≤ qq := Half.posI (u := u0) hq0u0 hr0u0 (e4u0 ▸ hC'u0)
              have hdnu0 := Half.downI hpu0 hr0u0 hh2.out hu0 (.inr (e4u0 ▸ hC'u0))
              clear e4u0
              by_cases hBu0 : 4294967296 ≤ rr + (y1 : Int)
              · obtain ⟨su0, hdu0⟩ := Half.breakI hpu0 hr0u0 hdnu0 hu0 hy0 hqbu0 hBu0
                have hq1u0 : 0 ≤ qq - 1 := by omega
                have hqq : (qq - 1) < 4294967296 := by have := hdu0.2.2; omega
                have Hdu0 := Lib.hid hdu0
                clear hdu0
                go_wp2
                go_ret2
                exact Quo.mkI hq1u1 hq1u0 Hel.out Hdu1.out Hdu0.out _ _
              · have Hdnu0 := Lib.hid hdnu0
                clear hdnu0
                go_wp2
                go_round
                case rel => exact ⟨qq - 1, rr + (y1 : Int), rfl, rfl, by omega, by omega, by omega, by omega, Hdnu0.out⟩
                case measure => simp [intOf]; omega
      · have hC'u1 : 4294967296 * r + (u1 : Int) < pru1 := by omega
        have hpu1 : 1 ≤ q := Half.posI (u := u1) hq0u1 hr0u1 (e4u1 ▸ hC'u1)
        have hdnu1 := Half.downI hpu1 hr0u1 hh.out hu1 (.inr (e4u1 ▸ hC'u1))
        clear e4u1
        by_cases hBu1 : 4294967296 ≤ r + (y1 : Int)
        · obtain ⟨su1, hdu1⟩ := Half.breakI hpu1 hr0u1 hdnu1 hu1 hy0 hqbu1 hBu1
          have hq1u1 : 0 ≤ q - 1 := by omega
          have hqb1 : (q - 1) < 4294967296 := by have := hdu1.2.2; omega
          have fe := rest_eqI hq1u1 hdu1.1 (by have := hdu1.2.1; omega)
          have hs1 : su1 < y := hdu1.2.1
          obtain ⟨q2, r2, c13, c14, c15, c16, hq2, hr2, HH2⟩ := Half.facts hy1 hy0 hu0 Hey.out hs1
          have Hdu1 := Lib.hid hdu1
          clear hdu1
          go_wp2
          go_loop [18, 16] (fun qv rv => ∃ q r : Int, qv = .int .u64 q ∧ rv = .int .u64 r ∧ 0 ≤ q ∧ 0 ≤ r ∧ r < 4294967296 ∧ q ≤ 4294967297 ∧ Hid (Half su1 y1 y0 y u0 q.toNat r.toNat)) (fun qv _ => (intOf qv).toNat)
          case atStart => exact ⟨q2, r2, rfl, rfl, by omega, by omega, by omega, by omega, HH2⟩
          case round =>
            clear c13 c14 c15 c16 hq2 hr2 HH2 fe
            obtain ⟨qq, rr, rfl, rfl, hq0u0, hr0u0, hrbu0, hqbu0, hh2⟩ := hrel
            by_cases hAu0 : 4294967296 ≤ qq
            · have hpu0 : 1 ≤ qq := by omega
              have hdnu0 := Half.downI hpu0 hr0u0 hh2.out hu0 (.inl hAu0)
              by_cases hBu0 : 4294967296 ≤ rr + (y1 : Int)
              · obtain ⟨su0, hdu0⟩ := Half.breakI hpu0 hr0u0 hdnu0 hu0 hy0 hqbu0 hBu0
                have hq1u0 : 0 ≤ qq - 1 := by omega
                have hqq : (qq - 1) < 4294967296 := by have := hdu0.2.2; omega
                have Hdu0 := Lib.hid hdu0
                clear hdu0
                go_wp2
                go_ret2
                exact Quo.mkI hq1u1 hq1u0 Hel.out Hdu1.out Hdu0.out _ _
              · have Hdnu0 := Lib.hid hdnu0
                clear hdnu0
                go_wp2
                go_round
                case rel => exact ⟨qq - 1, rr + (y1 : Int), rfl, rfl, by omega, by omega, by omega, by omega, Hdnu0.out⟩
                case measure => simp [intOf]; omega
            · have hAdu0 : decide ((4294967296 : Int) ≤ qq) = false := by simp; omega
              have hAnu0 : qq < 4294967296 := by omega
              clear hAu0
              obtain ⟨pru0, e1u0, e2u0, e3u0, e4u0⟩ := prod_smallI hq0u0 (by omega) hy0
              by_cases hCu0 : pru0 ≤ 4294967296 * rr + (u0 : Int)
              · obtain ⟨su0, hdu0⟩ := Half.falseI hr0u0 hh2.out hu0 (e4u0 ▸ hCu0)
                have hCdu0 : decide (4294967296 * rr + (u0 : Int) < pru0) = false := by simp; omega
                clear e4u0 hCu0
                have hq1u0 : 0 ≤ qq := hq0u0
                have hqq : qq < 4294967296 := by have := hdu0.2.2; omega
                have Hdu0 := Lib.hid hdu0
                clear hdu0
                go_wp2
                go_ret2
                exact Quo.mkI hq1u1 hq1u0 Hel.out Hdu1.out Hdu0.out _ _
              · have hC'u0 : 4294967296 * rr + (u0 : Int) < pru0 := by omega
                have hpu0 : 1 ≤ qq := Half.posI (u := u0) hq0u0 hr0u0 (e4u0 ▸ hC'u0)
                have hdnu0 := Half.downI hpu0 hr0u0 hh2.out hu0 (.inr (e4u0 ▸ hC'u0))
                clear e4u0
                by_cases hBu0 : 4294967296 ≤ rr + (y1 : Int)
                · obtain ⟨su0, hdu0⟩ := Half.breakI hpu0 hr0u0 hdnu0 hu0 hy0 hqbu0 hBu0
                  have hq1u0 : 0 ≤ qq - 1 := by omega
                  have hqq : (qq - 1) < 4294967296 := by have := hdu0.2.2; omega
                  have Hdu0 := Lib.hid hdu0
                  clear hdu0
                  go_wp2
                  go_ret2
                  exact Quo.mkI hq1u1 hq1u0 Hel.out Hdu1.out Hdu0.out _ _
                · have Hdnu0 := Lib.hid hdnu0
                  clear hdnu0
                  go_wp2
                  go_round
                  case rel => exact ⟨qq - 1, rr + (y1 : Int), rfl, rfl, by omega, by omega, by omega, by omega, Hdnu0.out⟩
                  case measure => simp [intOf]; omega
        · have Hdnu1 := Lib.hid hdnu1
          clear hdnu1
          go_wp2
          go_round
          case rel => exact ⟨q - 1, r + (y1 : Int), rfl, rfl, by omega, by omega, by omega, by omega, Hdnu1.out⟩
          case measure => simp [intOf]; omega
end Go.Proofs.YtkhlmcknbangfaaGreatDoor
