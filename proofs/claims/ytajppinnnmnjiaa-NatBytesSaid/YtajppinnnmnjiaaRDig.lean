/- clepsydraref01.Trim, Bits, Bit, Shift. -/
import Derived.Test.YtajppinnnmnjiaaRMul
namespace Go.Proofs.Ytajppinnnmnjiaa
open Go.RowKit

theorem rtrim_any {w : World} {A : Option Addr} {n c : Nat} {xs : List Nat} (h : Nt w w.heap.size A n c xs) (hn : n ≤ 1000000) :
    Calls Try.prog 27 #[.slice A n c] w (RetN (val 18446744073709551616 xs) w) := by
  go_enter Try.func27, Try.ntmps27
  go_wp2_with fail
  refine (digits_any h (by omega)).mono ?_
  rintro e w1 ⟨Ax, nx, cx, xb, rfl, hx1, tx, vx, bx⟩
  have hnx : nx ≤ 64000000 := by
    have := len_bits tx h.lim vx
    rw [hx1.len, h.len] at this
    omega
  have Vx := Lib.hid vx
  clear vx tx
  go_wp2_with fail
  refine (number_any hx1 (by omega)).mono ?_
  rintro e w5 ⟨A5, n5, c5, x5, rfl, h5, t5, v5, b5⟩
  go_wp2_with fail
  go_ret
  exact ⟨_, _, _, _, rfl, h5, t5, by rw [v5, Vx.out], bthen bx b5⟩

theorem bl_len {ds : List Nat} (ht : Trm ds) (hL : Lim 2 ds) : ds.length = bl (val 2 ds) := by
  rcases Nat.eq_zero_or_pos ds.length with h | h
  · rw [List.eq_nil_of_length_eq_zero h]; simp [val, bl]
  · have h1 := val_ge (β := 2) ht h
    have h2 := val_lt hL
    rw [bl_of (k := ds.length - 1) h1 (by rw [show ds.length - 1 + 1 = ds.length by omega]; exact h2)]
    omega
theorem rbits_any {w : World} {A : Option Addr} {n c : Nat} {xs : List Nat} (h : Nt w w.heap.size A n c xs) (hn : n ≤ 1000000) :
    Calls Try.prog 29 #[.slice A n c] w fun e w' => e = .returned (.int .i64 ((bl (val 18446744073709551616 xs) : Nat) : Int)) ∧ Below w.heap.size w w' := by
  go_enter Try.func29, Try.ntmps29
  go_wp2_with fail
  refine (digits_any h (by omega)).mono ?_
  rintro e w1 ⟨Ax, nx, cx, xb, rfl, hx1, tx, vx, bx⟩
  have hl := bl_len tx hx1.lim
  rw [vx, hx1.len] at hl
  have Hl := Lib.hid hl
  clear hl vx tx
  go_wp2_with fail
  go_ret
  refine ⟨?_, bx⟩
  show Ending.returned (.int .i64 (nx : Int)) = _
  rw [Hl.out]
theorem rbit_any {w : World} {A : Option Addr} {n c : Nat} {xs : List Nat} (h : Nt w w.heap.size A n c xs) (hn : n ≤ 1000000) (i : Int) :
    Calls Try.prog 31 #[.slice A n c, .int .i64 i] w fun e w' => e = .returned (.int .i64 ((btN (val 18446744073709551616 xs) i : Nat) : Int)) ∧ Below w.heap.size w w' := by
  go_enter Try.func31, Try.ntmps31
  go_wp2_with fail
  refine (digits_any h (by omega)).mono ?_
  rintro e w1 ⟨Ax, nx, cx, xb, rfl, hx1, tx, vx, bx⟩
  have hat := rat_any hx1 i
  have e1 : (if i < 0 then 0 else xb.getD i.toNat 0) = btN (val 18446744073709551616 xs) i := by
    unfold btN
    rw [← vx]
    split
    · rfl
    · exact limb_of (by omega) hx1.lim _
  rw [e1] at hat
  have Hat := Lib.hid hat
  clear hat e1 vx tx
  go_wp2_with fail
  refine Hat.out.mono ?_
  rintro e w' ⟨rfl, rfl⟩
  go_wp2_with fail
  go_ret
  exact ⟨rfl, bx⟩

theorem Ni.cut {w : World} {B n c k : Nat} {A : Option Addr} {xs : List Nat} (h : Ni w B A n c xs) (hk : k ≤ n) : Ni w B (if c = k then A else A.map fun a => a.add k) (n - k) (c - k) (xs.drop k) := by
  have hc := h.cap
  refine ⟨by rw [List.length_drop, h.len], by omega, Nat.le_trans (Nat.sub_le _ _) h.room, h.lim.drop k, fun h0 => ?_⟩
  obtain ⟨b, off, rfl, hb, hcell⟩ := h.cell (by omega)
  rw [if_neg (by omega)]
  refine ⟨b, off + k, ?_, hb, fun j x hj => ?_⟩
  · by_cases hk0 : k = 0
    · subst hk0; simp [Addr.add]
    · simp [Addr.add, hk0]
  · rw [List.getElem?_drop] at hj
    have := hcell (k + j) x hj
    rwa [show off + k + j = off + (k + j) by omega]

set_option maxHeartbeats 800000 in
theorem rshift_any {w : World} {A : Option Addr} {n c : Nat} {xs : List Nat} (h : Nt w w.heap.size A n c xs) (hn : n ≤ 1000000) (k : Int) (hk0 : -9223372036854775808 ≤ k) (hk1 : k ≤ 65536) :
    Calls Try.prog 33 #[.slice A n c, .int .i64 k] w (RetN (shN (val 18446744073709551616 xs) k) w) := by
  by_cases h0 : 0 ≤ k
  · obtain ⟨m, rfl⟩ := Int.eq_ofNat_of_zero_le h0
    have hs : shN (val 18446744073709551616 xs) (m : Int) = val 18446744073709551616 xs * 2 ^ m := by
      unfold shN
      rw [if_pos h0, Int.toNat_natCast, Nat.min_eq_left (by omega)]
    rw [hs]
    clear hs
    go_enter Try.func33, Try.ntmps33
    go_wp2_with fail
    refine (digits_any h (by omega)).mono ?_
    rintro e w1 ⟨Ax, nx, cx, xb, rfl, hx1, tx, vx, bx⟩
    have hnx : nx ≤ 64000000 := by
      have := len_bits tx h.lim vx
      rw [hx1.len, h.len] at this
      omega
    have Vx := Lib.hid vx
    clear vx tx
    go_wp2_with fail
    refine (moved_any hx1 (by omega) m (by omega)).mono ?_
    rintro e w3 ⟨A3, n3, c3, ms, rfl, hn3, hm3, vm, b3⟩
    have Vm := Lib.hid vm
    clear vm
    go_wp2_with fail
    refine (number_any hm3 (by omega)).mono ?_
    rintro e w5 ⟨A5, n5, c5, x5, rfl, h5, t5, v5, b5⟩
    go_wp2_with fail
    go_ret
    exact ⟨_, _, _, _, rfl, h5, t5, by rw [v5, Vm.out, Vx.out], bthen (bthen bx b3) b5⟩
  · have h0' : k < 0 := by omega
    obtain ⟨m, hm⟩ : ∃ m : Nat, -k = (m : Int) := ⟨(-k).toNat, by omega⟩
    have hs : shN (val 18446744073709551616 xs) k = val 18446744073709551616 xs / 2 ^ m := by
      unfold shN
      rw [if_neg h0, show (-k).toNat = m by omega]
    rw [hs]
    have Hm := Lib.hid hm
    have hmk : (m : Int) ≤ -k := by omega
    have hmk2 : -k ≤ (m : Int) := by omega
    clear hs hm h0
    go_enter Try.func33, Try.ntmps33
    go_wp2_with fail
    refine (digits_any h (by omega)).mono ?_
    rintro e w1 ⟨Ax, nx, cx, xb, rfl, hx1, tx, vx, bx⟩
    have hnx : nx ≤ 64000000 := by
      have := len_bits tx h.lim vx
      rw [hx1.len, h.len] at this
      omega
    have Vx := Lib.hid vx
    have hr := hx1.rooms
    by_cases hb : k < -(nx : Int)
    · have hz : val 18446744073709551616 xs / 2 ^ m = 0 := by
        apply Nat.div_eq_of_lt
        rw [← vx]
        have h1 := val_lt hx1.lim
        rw [hx1.len] at h1
        exact Nat.lt_of_lt_of_le h1 (Nat.pow_le_pow_right (by omega) (by omega))
      have Hz := Lib.hid hz
      clear hz vx tx
      go_wp2_with fail
      go_ret
      exact ⟨none, 0, 0, [], rfl, nt_nil _ _, trm_nil, by rw [Hz.out]; rfl, bx⟩
    · have hb' : -(nx : Int) ≤ k := by omega
      have hmn : m ≤ nx := by omega
      have hd := val_div_pow (β := 2) hx1.lim (by omega) m (by rw [hx1.len]; exact hmn)
      rw [vx] at hd
      have Hd := Lib.hid hd
      have hcut := hx1.cut hmn
      have ek : -k = (m : Int) := Hm.out
      clear hd vx tx hb
      by_cases hcm : cx = m
      · rw [if_pos hcm] at hcut
        have hcut' := number_any hcut (by omega)
        rw [show cx - m = 0 by omega] at hcut'
        have Hcut := Lib.hid hcut'
        clear hcut hcut'
        go_wp2_with fail
        refine Hcut.out.mono ?_
        rintro e w5 ⟨A5, n5, c5, x5, rfl, h5, t5, v5, b5⟩
        go_wp2_with fail
        go_ret
        exact ⟨_, _, _, _, rfl, h5, t5, by rw [v5, ← Hd.out], bthen bx b5⟩
      · rw [if_neg hcm] at hcut
        have hcut' := number_any hcut (by omega)
        have Hcut := Lib.hid hcut'
        clear hcut hcut'
        go_wp2_with fail
        refine Hcut.out.mono ?_
        rintro e w5 ⟨A5, n5, c5, x5, rfl, h5, t5, v5, b5⟩
        go_wp2_with fail
        go_ret
        exact ⟨_, _, _, _, rfl, h5, t5, by rw [v5, ← Hd.out], bthen bx b5⟩
end Go.Proofs.Ytajppinnnmnjiaa
