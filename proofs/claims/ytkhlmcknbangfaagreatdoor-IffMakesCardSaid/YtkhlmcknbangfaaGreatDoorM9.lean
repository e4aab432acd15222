/- modn: Pow's closure; power, by the closure and by odd.times; Pow. -/
import Derived.Test.YtkhlmcknbangfaaGreatDoorM8
namespace Go.Proofs.YtkhlmcknbangfaaGreatDoor
set_option linter.unusedSimpArgs false
set_option linter.unusedVariables false
open Go.RowKit
set_option linter.unusedVariables false
set_option maxRecDepth 100000

theorem pow_step {E d k : Nat} (hk : k < d) : E / 2 ^ (d - (k + 1)) = 2 * (E / 2 ^ (d - k)) + E / 2 ^ (d - 1 - k) % 2 := by
  have e1 : d - k = (d - 1 - k) + 1 := by omega
  have e2 : d - (k + 1) = d - 1 - k := by omega
  rw [e1, e2, Nat.pow_succ, ← Nat.div_div_eq_div_mul]
  omega
theorem btN_of {E i : Nat} {x : Int} (h : x = (i : Int)) : btN E x = E / 2 ^ i % 2 := by
  subst h
  unfold btN
  rw [if_neg (by omega), Int.toNat_natCast]

set_option maxHeartbeats 4000000 in
theorem pow1_any {w : World} {bn nn cn n c n2 c2 : Nat} {An A A2 : Option Addr} {N xs ys : List Nat} (hb : w.cell? ⟨bn, 0, none⟩ = some (.slice An nn cn)) (hbn : bn < w.heap.size) (hN : Nt w w.heap.size An nn cn N) (h : Nt w w.heap.size A n c xs) (h2 : Nt w w.heap.size A2 n2 c2 ys)
    (hnn : n ≤ 1099511) (hn2 : n2 ≤ 1099511) (hpos : 0 < val 18446744073709551616 N) :
    Calls Tryz.prog 77 #[.slice A n c, .slice A2 n2 c2, .pointer (some ⟨bn, 0, none⟩)] w (RetS (val 18446744073709551616 xs * val 18446744073709551616 ys % val 18446744073709551616 N) w) := by
  have hNr := hN.rooms
  have hbd : w.drew.cell? ⟨bn, 0, none⟩ = some (.slice An nn cn) := hb
  have hN' := hN.drew
  have h' := h.drew
  have h2' := h2.drew
  have hP := mul_pow (h.below_pow (Nat.le_refl _)) (h2.below_pow (Nat.le_refl _))
  have hbn' : bn < w.drew.heap.size := hbn
  go_enter Tryz.func77, Tryz.ntmps77
  go_wp2_with fail
  go_region_held3 (fun w' => w'.cell? ⟨bn, 0, none⟩ = some (Value.slice An nn cn))
    (first | exact d2 | exact d1 | exact hbd)
    ((first
    | (go_at_call 31; refine (mul_any h' h2' (by omega) (by omega)).mono ?_; rintro e w1 ⟨A1, n1, c1, x1, rfl, r1⟩
       have d1 := (r1.bel.cell (p := ⟨bn, 0, none⟩) hbn').trans hbd
       have l1 := r1.le hP
       have s1 : bn < w1.heap.size := Nat.lt_of_lt_of_le hbn' r1.bel.size)
    | (go_at_call 66; refine (mod_pos r1.nt (hN'.up r1.bel) (by omega) hpos).mono ?_; rintro e w2 ⟨A2, n2, c2, x2, rfl, r2⟩
       have d2 := (r2.bel.cell (p := ⟨bn, 0, none⟩) s1).trans d1)))
  all_goals
    go_wp2
    go_ret
    have e1 := r2.is
    rw [r1.is] at e1
    exact ⟨_, _, _, _, rfl, r2.nt, r2.trm, e1, ((Below.refl _ w).drew.trans r1.bel).trans (r2.bel.mono r1.bel.size)⟩

/-- a number modulo n, without noughts at its end -/
structure RepC (n v : Nat) (xs : List Nat) : Prop where
  trm : Trm xs
  is : val 18446744073709551616 xs = v % n
theorem RepC.mul {n v u : Nat} {xs ys zs : List Nat} (h : RepC n v xs) (k : RepC n u ys) (ht : Trm zs) (hz : val 18446744073709551616 zs = val 18446744073709551616 xs * val 18446744073709551616 ys % n) : RepC n (v * u) zs :=
  ⟨ht, by rw [hz, h.is, k.is, ← Nat.mul_mod]⟩
theorem RepC.len {w w2 : World} {B B2 n c nn cn v : Nat} {A An : Option Addr} {xs N : List Nat} (h : RepC (val 18446744073709551616 N) v xs) (hx : Nt w B A n c xs) (hN : Nt w2 B2 An nn cn N) (hpos : 0 < val 18446744073709551616 N := by assumption) : n ≤ nn := by
  rw [← hx.len]
  exact length_of_val (β := 18446744073709551616) (by omega) h.trm (by rw [h.is]; exact Nat.lt_trans (Nat.mod_lt _ hpos) (hN.below_pow (Nat.le_refl _)))
/-- a number modulo an odd one, in Montgomery's way -/
structure RepM (N L v : Nat) (xs : List Nat) : Prop where
  len : xs.length = L
  is : Stands N (18446744073709551616 ^ L) v (val 18446744073709551616 xs)
theorem timesM {w wr : World} {oA A A2 : Option Addr} {L oc m n c n2 c2 v u : Nat} {N xs ys : List Nat} (hN : Nt w w.heap.size oA L oc N) (hL0 : 1 ≤ L) (hL : L ≤ 1099511627776) (hm : m < 18446744073709551616) (hmn : (N.getD 0 0 * m + 1) % 18446744073709551616 = 0)
    (hR : 4 * val 18446744073709551616 N ≤ 18446744073709551616 ^ L) (hodd : val 18446744073709551616 N % 2 = 1) (hB : Below w.heap.size w wr) (hx : Nt wr wr.heap.size A n c xs) (kx : RepM (val 18446744073709551616 N) L v xs) (hy : Nt wr wr.heap.size A2 n2 c2 ys) (ky : RepM (val 18446744073709551616 N) L u ys) :
    Calls Tryz.prog 81 #[.agg #[.slice oA L oc, .int .u64 (m : Int)], .slice A n c, .slice A2 n2 c2] wr fun e w' => ∃ A n c zs, e = .returned (.slice A n c) ∧ Nt w' w'.heap.size A n c zs ∧ RepM (val 18446744073709551616 N) L (v * u) zs ∧ Below wr.heap.size wr w' := by
  obtain rfl : n = L := hx.len.symm.trans kx.len
  obtain rfl : n2 = n := hy.len.symm.trans ky.len
  refine (times_any hx (hN.up hB) hy hL0 hL hL hm hmn kx.is.1 hR).mono ?_
  rintro e w' ⟨g, out, rfl, hg, hb, how, hl, hlim, K, hK, hv⟩
  exact ⟨_, _, _, out, rfl, (how.whole (by rw [hl]; unfold maxLen; omega) hlim hl.symm).more how.lt, ⟨hl, stands_times (coprime_base hodd _) kx.is ky.is hv hK hR⟩, hb⟩

set_option maxHeartbeats 4000000 in
theorem power_c {w : World} {bn nn cn : Nat} {An : Option Addr} {N : List Nat} (hb : w.cell? ⟨bn, 0, none⟩ = some (.slice An nn cn)) (hbs : bn < w.heap.size) (hN : Nt w w.heap.size An nn cn N) (hnn : nn ≤ 1099511) (hpos : 0 < val 18446744073709551616 N) {A1 A2 A3 : Option Addr} {n1 c1 n2 c2 n3 c3 a0 : Nat} {x1 x2 xe : List Nat}
    (h1 : Nt w w.heap.size A1 n1 c1 x1) (k1 : RepC (val 18446744073709551616 N) 1 x1) (h2 : Nt w w.heap.size A2 n2 c2 x2) (k2 : RepC (val 18446744073709551616 N) a0 x2) (h3 : Nt w w.heap.size A3 n3 c3 xe) (hn3 : n3 ≤ 1099511) :
    Calls Tryz.prog 76 #[.slice A1 n1 c1, .slice A2 n2 c2, .slice A3 n3 c3, .func (.func 77) #[] #[.pointer (some ⟨bn, 0, none⟩)]] w fun e w' => ∃ A n c xs, e = .returned (.slice A n c) ∧ Nt w' w'.heap.size A n c xs ∧ RepC (val 18446744073709551616 N) (a0 ^ val 18446744073709551616 xe) xs ∧ Below w.heap.size w w' := by
  have hbn := bl_le (v := val 18446744073709551616 xe) (k := 64 * n3) (by rw [← base_pow]; exact h3.below_pow (Nat.le_refl _))
  obtain ⟨E, hE⟩ : ∃ E, val 18446744073709551616 xe = E := ⟨_, rfl⟩
  have hlt := lt_bl E
  have hbits := fun W (k : Nt W W.heap.size A3 n3 c3 xe) => bits_any k (by omega)
  have hbit := fun W (k : Nt W W.heap.size A3 n3 c3 xe) i hi => bit_any k i hi
  rw [hE] at hbits hbit hbn
  rw [hE]
  obtain ⟨d, hd⟩ : ∃ d, bl E = d := ⟨_, rfl⟩
  rw [hd] at hbits hlt hbn
  have Hlt := Lib.hid hlt
  have Hbits := Lib.hid hbits
  have Hbit := Lib.hid hbit
  clear hlt hbits hbit

  have hE0 : E / 2 ^ d = 0 := Nat.div_eq_of_lt Hlt.out
  go_enter Tryz.func76, Tryz.ntmps76
  go_wp2_with fail
  refine (Hbits.out _ h3).mono ?_
  rintro e w' ⟨rfl, rfl⟩
  go_wp2_with fail
  go_loopw [10, 16] (fun v i wr => ∃ (k : Nat) (A : Option Addr) (n c : Nat) (xs : List Nat), k ≤ d ∧ i = .int .i64 (k : Int) ∧ v = .slice A n c ∧ Nt wr wr.heap.size A n c xs ∧ Hid (RepC (val 18446744073709551616 N) (a0 ^ (E / 2 ^ (d - k))) xs) ∧ Below w.heap.size w wr) (fun _ i _ => d - (intOf i).toNat)
  case atStart => exact ⟨0, A1, n1, c1, x1, Nat.zero_le _, rfl, rfl, h1, by show RepC (val 18446744073709551616 N) (a0 ^ (E / 2 ^ (d - 0))) x1; rw [Nat.sub_zero, hE0, Nat.pow_zero]; exact k1, Below.refl _ _⟩
  case round =>
    obtain ⟨k, A, n, c, xs, hk, rfl, rfl, N0, K0, B0⟩ := hrel
    by_cases hlt : k < d
    · have hst := pow_step (E := E) hlt
      have hi : (d : Int) - 1 - (k : Int) = ((d - 1 - k : Nat) : Int) := by omega
      go_wp2_with fail
      refine (pow1_any (((B0).cell (p := ⟨bn, 0, none⟩) hbs).trans hb) (Nat.lt_of_lt_of_le hbs (B0).size) (hN.up B0) N0 N0 (by have := (K0.out).len N0 hN; omega) (by have := (K0.out).len N0 hN; omega) hpos).mono ?_
      rintro e w1 ⟨Ar1, m1, cr1, y1, rfl, rr1⟩
      have q1 := RepC.mul (K0.out) (K0.out) rr1.trm rr1.is
      have N1 := rr1.nt
      have b1 := rr1.bel
      have B1 := B0.trans (b1.mono B0.size)
      go_wp2_with fail
      refine (Hbit.out _ (h3.up B1) ((d - 1 - k : Nat) : Int) (by omega)).mono ?_
      rintro e w2 ⟨rfl, rfl⟩
      rw [btN_of rfl]
      rcases (show E / 2 ^ (d - 1 - k) % 2 = 0 ∨ E / 2 ^ (d - 1 - k) % 2 = 1 by omega) with hbt | hbt
      · rw [hbt] at hst
        rw [hbt]
        have KE : Hid (RepC (val 18446744073709551616 N) (a0 ^ (E / 2 ^ (d - (k + 1)))) y1) := by
          show RepC (val 18446744073709551616 N) (a0 ^ (E / 2 ^ (d - (k + 1)))) y1
          rw [hst, Nat.add_zero, Nat.two_mul, Nat.pow_add]
          exact q1
        go_wp2_with fail
        go_roundw
        case rel => exact ⟨k + 1, _, _, _, y1, by omega, by simp, rfl, N1, KE, B1⟩
        case measure => simp [intOf]; omega
      · rw [hbt] at hst
        rw [hbt]
        go_wp2_with fail
        refine (pow1_any (((B1).cell (p := ⟨bn, 0, none⟩) hbs).trans hb) (Nat.lt_of_lt_of_le hbs (B1).size) (hN.up B1) N1 (h2.up B1) (by have := (q1).len N1 hN; omega) (by have := (k2).len (h2.up B1) hN; omega) hpos).mono ?_
        rintro e w2 ⟨Ar2, m2, cr2, y2, rfl, rr2⟩
        have q2 := RepC.mul (q1) (k2) rr2.trm rr2.is
        have N2 := rr2.nt
        have b2 := rr2.bel
        have B2 := B1.trans (b2.mono B1.size)
        have KE : Hid (RepC (val 18446744073709551616 N) (a0 ^ (E / 2 ^ (d - (k + 1)))) y2) := by
          show RepC (val 18446744073709551616 N) (a0 ^ (E / 2 ^ (d - (k + 1)))) y2
          rw [hst, Nat.pow_succ, Nat.two_mul, Nat.pow_add]
          exact q2
        go_wp2_with fail
        go_roundw
        case rel => exact ⟨k + 1, _, _, _, y2, by omega, by simp, rfl, N2, KE, B2⟩
        case measure => simp [intOf]; omega
    · have hkd : k = d := by omega
      subst hkd
      have K0' := K0.out
      rw [Nat.sub_self, Nat.pow_zero, Nat.div_one] at K0'
      go_wp2_with fail
      go_ret
      exact ⟨_, _, _, _, rfl, N0, K0', B0⟩

set_option maxHeartbeats 4000000 in
theorem power_m {w : World} {L oc m : Nat} {oA : Option Addr} {N : List Nat} (hN : Nt w w.heap.size oA L oc N) (hL0 : 1 ≤ L) (hL : L ≤ 1099511627776) (hm : m < 18446744073709551616) (hmn : (N.getD 0 0 * m + 1) % 18446744073709551616 = 0) (hR : 4 * val 18446744073709551616 N ≤ 18446744073709551616 ^ L) (hodd : val 18446744073709551616 N % 2 = 1) {A1 A2 A3 : Option Addr} {n1 c1 n2 c2 n3 c3 a0 : Nat} {x1 x2 xe : List Nat}
    (h1 : Nt w w.heap.size A1 n1 c1 x1) (k1 : RepM (val 18446744073709551616 N) L 1 x1) (h2 : Nt w w.heap.size A2 n2 c2 x2) (k2 : RepM (val 18446744073709551616 N) L a0 x2) (h3 : Nt w w.heap.size A3 n3 c3 xe) (hn3 : n3 ≤ 1099511) :
    Calls Tryz.prog 76 #[.slice A1 n1 c1, .slice A2 n2 c2, .slice A3 n3 c3, .func (.func 81) #[.agg #[.slice oA L oc, .int .u64 (m : Int)]] #[]] w fun e w' => ∃ A n c xs, e = .returned (.slice A n c) ∧ Nt w' w'.heap.size A n c xs ∧ RepM (val 18446744073709551616 N) L (a0 ^ val 18446744073709551616 xe) xs ∧ Below w.heap.size w w' := by
  have hbn := bl_le (v := val 18446744073709551616 xe) (k := 64 * n3) (by rw [← base_pow]; exact h3.below_pow (Nat.le_refl _))
  obtain ⟨E, hE⟩ : ∃ E, val 18446744073709551616 xe = E := ⟨_, rfl⟩
  have hlt := lt_bl E
  have hbits := fun W (k : Nt W W.heap.size A3 n3 c3 xe) => bits_any k (by omega)
  have hbit := fun W (k : Nt W W.heap.size A3 n3 c3 xe) i hi => bit_any k i hi
  rw [hE] at hbits hbit hbn
  rw [hE]
  obtain ⟨d, hd⟩ : ∃ d, bl E = d := ⟨_, rfl⟩
  rw [hd] at hbits hlt hbn
  have Hlt := Lib.hid hlt
  have Hbits := Lib.hid hbits
  have Hbit := Lib.hid hbit
  clear hlt hbits hbit

  have hE0 : E / 2 ^ d = 0 := Nat.div_eq_of_lt Hlt.out
  go_enter Tryz.func76, Tryz.ntmps76
  go_wp2_with fail
  refine (Hbits.out _ h3).mono ?_
  rintro e w' ⟨rfl, rfl⟩
  go_wp2_with fail
  go_loopw [10, 16] (fun v i wr => ∃ (k : Nat) (A : Option Addr) (n c : Nat) (xs : List Nat), k ≤ d ∧ i = .int .i64 (k : Int) ∧ v = .slice A n c ∧ Nt wr wr.heap.size A n c xs ∧ Hid (RepM (val 18446744073709551616 N) L (a0 ^ (E / 2 ^ (d - k))) xs) ∧ Below w.heap.size w wr) (fun _ i _ => d - (intOf i).toNat)
  case atStart => exact ⟨0, A1, n1, c1, x1, Nat.zero_le _, rfl, rfl, h1, by show RepM (val 18446744073709551616 N) L (a0 ^ (E / 2 ^ (d - 0))) x1; rw [Nat.sub_zero, hE0, Nat.pow_zero]; exact k1, Below.refl _ _⟩
  case round =>
    obtain ⟨k, A, n, c, xs, hk, rfl, rfl, N0, K0, B0⟩ := hrel
    by_cases hlt : k < d
    · have hst := pow_step (E := E) hlt
      have hi : (d : Int) - 1 - (k : Int) = ((d - 1 - k : Nat) : Int) := by omega
      go_wp2_with fail
      refine (timesM hN hL0 hL hm hmn hR hodd B0 N0 (K0.out) N0 (K0.out)).mono ?_
      rintro e w1 ⟨Ar1, m1, cr1, y1, rfl, N1, q1, b1⟩
      have B1 := B0.trans (b1.mono B0.size)
      go_wp2_with fail
      refine (Hbit.out _ (h3.up B1) ((d - 1 - k : Nat) : Int) (by omega)).mono ?_
      rintro e w2 ⟨rfl, rfl⟩
      rw [btN_of rfl]
      rcases (show E / 2 ^ (d - 1 - k) % 2 = 0 ∨ E / 2 ^ (d - 1 - k) % 2 = 1 by omega) with hbt | hbt
      · rw [hbt] at hst
        rw [hbt]
        have KE : Hid (RepM (val 18446744073709551616 N) L (a0 ^ (E / 2 ^ (d - (k + 1)))) y1) := by
          show RepM (val 18446744073709551616 N) L (a0 ^ (E / 2 ^ (d - (k + 1)))) y1
          rw [hst, Nat.add_zero, Nat.two_mul, Nat.pow_add]
          exact q1
        go_wp2_with fail
        go_roundw
        case rel => exact ⟨k + 1, _, _, _, y1, by omega, by simp, rfl, N1, KE, B1⟩
        case measure => simp [intOf]; omega
      · rw [hbt] at hst
        rw [hbt]
        go_wp2_with fail
        refine (timesM hN hL0 hL hm hmn hR hodd B1 N1 (q1) (h2.up B1) (k2)).mono ?_
        rintro e w2 ⟨Ar2, m2, cr2, y2, rfl, N2, q2, b2⟩
        have B2 := B1.trans (b2.mono B1.size)
        have KE : Hid (RepM (val 18446744073709551616 N) L (a0 ^ (E / 2 ^ (d - (k + 1)))) y2) := by
          show RepM (val 18446744073709551616 N) L (a0 ^ (E / 2 ^ (d - (k + 1)))) y2
          rw [hst, Nat.pow_succ, Nat.two_mul, Nat.pow_add]
          exact q2
        go_wp2_with fail
        go_roundw
        case rel => exact ⟨k + 1, _, _, _, y2, by omega, by simp, rfl, N2, KE, B2⟩
        case measure => simp [intOf]; omega
    · have hkd : k = d := by omega
      subst hkd
      have K0' := K0.out
      rw [Nat.sub_self, Nat.pow_zero, Nat.div_one] at K0'
      go_wp2_with fail
      go_ret
      exact ⟨_, _, _, _, rfl, N0, K0', B0⟩
end Go.Proofs.YtkhlmcknbangfaaGreatDoor
