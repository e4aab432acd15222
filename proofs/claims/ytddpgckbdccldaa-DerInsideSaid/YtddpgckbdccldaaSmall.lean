/- nat.Shift, nat.Bits, nat.Bit. -/
import Derived.Test.YtddpgckbdccldaaDown
import Derived.Test.YtddpgckbdccldaaLen64
namespace Go.Proofs.Ytddpgckbdccldaa
set_option linter.unusedSimpArgs false
set_option linter.unusedVariables false
open Go.RowKit

theorem lz_any (x : Nat) (h0 : 0 < x) (hx : x < 18446744073709551616) (w : World) :
    Calls Try.prog 61 #[.int .u64 (x : Int)] w fun e w' => e = .returned (.int .i64 ((lz x : Nat) : Int)) ∧ w = w' := by
  have hl := bitLen_bounds 64 x (Nat.le_refl _) hx h0
  have hl2 : Lib.bitLen x ≤ 64 := Lib.bitLen_le x 64 (Nat.le_refl _) hx
  have hc := len64_any (x : Int) w (by omega) (by omega)
  have e : ((x : Int)).toNat = x := Int.toNat_natCast x
  rw [e] at hc
  unfold lz
  have e2 : ((64 - Lib.bitLen x : Nat) : Int) = 64 - (Lib.bitLen x : Int) := by omega
  rw [e2]
  generalize Lib.bitLen x = l at *
  have Hc := Lib.hid hc
  clear hc e e2 hl
  go_enter Try.func61, Try.ntmps61
  go_wp2_with (go_at_call 59; refine Hc.out.mono ?_; rintro e w' ⟨rfl, hw⟩; rw [hw])
  go_ret
  exact ⟨rfl, rfl⟩

/-- a number moved up, or down -/
def shN (v : Nat) (n : Int) : Nat := if 0 ≤ n then v * 2 ^ (min n.toNat 65536) else v / 2 ^ (-n).toNat


/-- how many binary digits -/
def bl (v : Nat) : Nat := if v = 0 then 0 else Nat.log2 v + 1
theorem bl_of {v k : Nat} (h1 : 2 ^ k ≤ v) (h2 : v < 2 ^ (k + 1)) : bl v = k + 1 := by
  have h0 : v ≠ 0 := by have := Nat.two_pow_pos k; omega
  unfold bl
  rw [if_neg h0]
  have := (Nat.log2_eq_iff h0).2 ⟨h1, h2⟩
  omega
theorem bl_top {xs : List Nat} {k x : Nat} (hl : xs.length = k + 1) (hL : Lim 18446744073709551616 xs) (hx : xs.getD k 0 = x) (h0 : 0 < x) (hx' : x < 18446744073709551616) : bl (val 18446744073709551616 xs) = (k + 1) * 64 - lz x := by
  have e := val_take_succ 18446744073709551616 xs k
  rw [List.take_of_length_le (by omega), hx] at e
  have h1 := val_lt (hL.take k)
  rw [List.length_take, Nat.min_eq_left (by omega)] at h1
  have hz := lz_lt h0 hx'
  obtain ⟨t1, t2⟩ := lz_top h0 hx'
  have ep : (18446744073709551616 : Nat) ^ k = 2 ^ (64 * k) := by rw [show (18446744073709551616 : Nat) = 2 ^ 64 from rfl, ← Nat.pow_mul]
  have p1 : 2 ^ (63 - lz x) * 2 ^ lz x = 9223372036854775808 := by rw [← Nat.pow_add, show 63 - lz x + lz x = 63 by omega]
  have p2 : 2 ^ (64 - lz x) * 2 ^ lz x = 18446744073709551616 := by rw [← Nat.pow_add, show 64 - lz x + lz x = 64 by omega]
  have q1 : 2 ^ (63 - lz x) ≤ x := Nat.le_of_mul_le_mul_right (by rw [p1]; exact t1) (Nat.two_pow_pos (lz x))
  have q2 : x < 2 ^ (64 - lz x) := Nat.lt_of_mul_lt_mul_right (a := 2 ^ lz x) (by rw [p2]; exact t2)
  have r := bl_of (v := val 18446744073709551616 xs) (k := 64 * k + (63 - lz x)) (by
    rw [Nat.pow_add, ← ep, e]
    have := Nat.mul_le_mul_left (18446744073709551616 ^ k) q1
    omega) (by
    rw [show 64 * k + (63 - lz x) + 1 = 64 * k + (64 - lz x) by omega, Nat.pow_add, ← ep, e]
    have := Nat.mul_le_mul_left (18446744073709551616 ^ k) q2
    rw [Nat.succ_eq_add_one, Nat.mul_add] at this
    omega)
  rw [r]
  omega

theorem trm_top {xs : List Nat} (ht : Trm xs) {k : Nat} (hl : xs.length = k + 1) : 0 < xs.getD k 0 := by
  have hne : xs ≠ [] := by intro e; subst e; simp at hl
  have e := (List.dropLast_concat_getLast hne).symm
  have hx := ht _ _ e
  have : xs.getD k 0 = xs.getLast hne := by
    rw [List.getLast_eq_getElem]
    have hk : k < xs.length := by omega
    simp only [List.getD, List.getElem?_eq_getElem hk, Option.getD_some]
    congr 1; omega
  omega

set_option maxHeartbeats 1000000 in
theorem bits_any {w : World} {A : Option Addr} {n c : Nat} {xs : List Nat} (h : Nt w w.heap.size A n c xs) (hn : n ≤ 1099511627776) :
    Calls Try.prog 43 #[.slice A n c] w fun e w' => e = .returned (.int .i64 ((bl (val 18446744073709551616 xs) : Nat) : Int)) ∧ w = w' := by
  rw [← val_cutL 18446744073709551616 xs]
  have ht := trm_cutL xs
  obtain ⟨m, hm⟩ : ∃ m, m = tl xs n := ⟨_, rfl⟩
  have hmn : m ≤ n := by rw [hm]; exact tl_le _ _
  have hcut := cut_any h
  rw [← hm] at hcut
  have Hcut := Lib.hid hcut
  have hlen : (cutL xs).length = m := by rw [length_cutL, h.len, hm]
  have hL := lim_cutL h.lim
  have hcell : ∀ k, k < m → ∃ b off, A = some ⟨b, off, none⟩ ∧ w.cell? ⟨b, off + k, none⟩ = some (.int .u64 (((cutL xs).getD k 0 : Nat) : Int)) := by
    intro k hk
    obtain ⟨b, off, e, _, hc⟩ := h.at_ (k := k) (by omega)
    refine ⟨b, off, e, ?_⟩
    rw [hc]
    unfold cutL
    rw [h.len, ← hm]
    simp [List.getD, hk]
  clear hcut hm
  generalize cutL xs = ys at *
  by_cases h0 : m = 0
  · subst h0
    obtain rfl : ys = [] := List.eq_nil_of_length_eq_zero hlen
    have e : bl (val 18446744073709551616 []) = 0 := by simp [val, bl]
    rw [e]
    clear hcell
    go_enter Try.func43, Try.ntmps43
    go_wp2_with (go_at_call 60; refine Hcut.out.mono ?_; rintro e w' ⟨rfl, rfl⟩)
    go_ret
    exact ⟨rfl, rfl⟩
  · obtain ⟨k, rfl⟩ : ∃ k, m = k + 1 := ⟨m - 1, by omega⟩
    obtain ⟨b, off, rfl, hx⟩ := hcell k (by omega)
    have hx0 := trm_top ht hlen
    have hxl := hL.get (by omega) k
    generalize hxe : ys.getD k 0 = x at *
    have hbl := bl_top hlen hL hxe hx0 hxl
    have hz := lz_lt hx0 hxl
    have e : ((bl (val 18446744073709551616 ys) : Nat) : Int) = ((k : Int) + 1) * 64 - (lz x : Int) := by rw [hbl]; omega
    rw [e]
    have hne : (((k : Int) + 1) == 0) = false := by simp; omega
    clear hcell hxe hbl e hlen
    go_enter Try.func43, Try.ntmps43
    go_wp2_with (first
      | (go_at_call 60; refine Hcut.out.mono ?_; rintro e w' ⟨rfl, rfl⟩)
      | (go_at_call 61; refine (lz_any x hx0 hxl _).mono ?_; rintro e w' ⟨rfl, rfl⟩))
    go_ret
    exact ⟨rfl, rfl⟩

/-- one binary digit -/
theorem digit_of {xs : List Nat} (hL : Lim 18446744073709551616 xs) (k p : Nat) (hp : p < 64) : val 18446744073709551616 xs / 2 ^ (64 * k + p) % 2 = xs.getD k 0 / 2 ^ p % 2 := by
  rw [two_pow_limb, Nat.mul_comm, ← Nat.div_div_eq_div_mul]
  by_cases hk : k ≤ xs.length
  · rw [val_div_pow hL (by omega) k hk]
    by_cases hk2 : k < xs.length
    · rw [List.drop_eq_getElem_cons hk2]
      simp only [val]
      have e : xs.getD k 0 = xs[k] := by simp [List.getD, List.getElem?_eq_getElem hk2]
      rw [e, show (18446744073709551616 : Nat) = 2 ^ p * (2 * 2 ^ (63 - p)) by rw [← Nat.mul_assoc, Nat.mul_comm (2 ^ p) 2, ← Nat.pow_succ', ← Nat.pow_add, show p.succ + (63 - p) = 64 by omega], Nat.mul_assoc, Nat.add_mul_div_left _ _ (Nat.two_pow_pos p), Nat.mul_assoc, Nat.add_mul_mod_self_left]
    · rw [List.drop_eq_nil_of_le (by omega)]
      simp [val, List.getD, List.getElem?_eq_none (show xs.length ≤ k by omega)]
  · have h1 := val_lt hL
    have h2 : (18446744073709551616 : Nat) ^ xs.length ≤ 18446744073709551616 ^ k := Nat.pow_le_pow_right (by omega) (by omega)
    rw [Nat.div_eq_of_lt (show val 18446744073709551616 xs < 18446744073709551616 ^ k by omega)]
    simp [List.getD, List.getElem?_eq_none (show xs.length ≤ k by omega)]
theorem and_one (x p : Nat) (hx : x < 18446744073709551616) : wrap64 (bits .and .u64 ((x : Int) / 2 ^ p) 1) = ((x / 2 ^ p % 2 : Nat) : Int) := by
  have e2 : ((x : Int) / 2 ^ p) = ((x / 2 ^ p : Nat) : Int) := by simp
  have hx' : x / 2 ^ p < 18446744073709551616 := Nat.lt_of_le_of_lt (Nat.div_le_self _ _) hx
  have := bits_and_u64_nat (x / 2 ^ p) 1 hx' (by omega)
  rw [Nat.and_one_is_mod] at this
  rw [e2]
  rw [show ((1 : Int)) = ((1 : Nat) : Int) from rfl, this]
  unfold wrap64
  omega

/-- the binary digit that counts 2 to the i -/
def btN (v : Nat) (i : Int) : Nat := if i < 0 then 0 else v / 2 ^ i.toNat % 2

end Go.Proofs.Ytddpgckbdccldaa
