/- clepsydraref01.Trim, Bits, Bit, Shift. -/
import Derived.Test.YtddpgckbdccldaaRMul
namespace Go.Proofs.Ytddpgckbdccldaa
set_option linter.unusedSimpArgs false
set_option linter.unusedVariables false
open Go.RowKit

theorem rtrim_any {w : World} {A : Option Addr} {n c : Nat} {xs : List Nat} (h : Nt w w.heap.size A n c xs) (hn : n ≤ 1000000) :
    Calls Try.prog 31 #[.slice A n c] w (RetN (val 18446744073709551616 xs) w) := by
  go_enter Try.func31, Try.ntmps31
  go_wp2_with fail
  refine (digits_any h (by omega)).mono ?_
  rintro e w1 ⟨Ax, nx, cx, xb, rfl, hx1, tx, vx, bx⟩
  have hnx : nx ≤ 64000000 := by
    have := len_bits tx h.lim vx
    rw [hx1.len, h.len] at this
    omega
  have Vx := Lib.hid vx
  clear vx tx
  go_wp2_with fail
  refine (number_any hx1 (by omega)).mono ?_
  rintro e w5 ⟨A5, n5, c5, x5, rfl, h5, t5, v5, b5⟩
  go_wp2_with fail
  go_ret
  exact ⟨_, _, _, _, rfl, h5, t5, by rw [v5, Vx.out], bthen bx b5⟩

theorem bl_len {ds : List Nat} (ht : Trm ds) (hL : Lim 2 ds) : ds.length = bl (val 2 ds) := by
  rcases Nat.eq_zero_or_pos ds.length with h | h
  · rw [List.eq_nil_of_length_eq_zero h]; simp [val, bl]
  · have h1 := val_ge (β := 2) ht h
    have h2 := val_lt hL
    rw [bl_of (k := ds.length - 1) h1 (by rw [show ds.length - 1 + 1 = ds.length by omega]; exact h2)]
    omega


theorem Ni.cut {w : World} {B n c k : Nat} {A : Option Addr} {xs : List Nat} (h : Ni w B A n c xs) (hk : k ≤ n) : Ni w B (if c = k then A else A.map fun a => a.add k) (n - k) (c - k) (xs.drop k) := by
  have hc := h.cap
  refine ⟨by rw [List.length_drop, h.len], by omega, Nat.le_trans (Nat.sub_le _ _) h.room, h.lim.drop k, fun h0 => ?_⟩
  obtain ⟨b, off, rfl, hb, hcell⟩ := h.cell (by omega)
  rw [if_neg (by omega)]
  refine ⟨b, off + k, ?_, hb, fun j x hj => ?_⟩
  · by_cases hk0 : k = 0
    · subst hk0; simp [Addr.add]
    · simp [Addr.add, hk0]
  · rw [List.getElem?_drop] at hj
    have := hcell (k + j) x hj
    rwa [show off + k + j = off + (k + j) by omega]


end Go.Proofs.Ytddpgckbdccldaa
