/- clepsydraref01.Mul, Add. -/
import Derived.Test.YtajppinnnmnjiaaApp
namespace Go.Proofs.Ytajppinnnmnjiaa
open Go.RowKit

theorem len_bits {ds xs : List Nat} (ht : Trm ds) (hL : Lim 18446744073709551616 xs) (hv : val 2 ds = val 18446744073709551616 xs) : ds.length ≤ 64 * xs.length := by
  refine length_of_val (β := 2) (by omega) ht ?_
  rw [hv, Nat.pow_mul]
  exact val_lt hL

set_option maxHeartbeats 1600000 in
theorem rmul_any {w : World} {A A2 : Option Addr} {n c n2 c2 : Nat} {xs ys : List Nat} (h : Nt w w.heap.size A n c xs) (h2 : Nt w w.heap.size A2 n2 c2 ys) (hn : n ≤ 1000000) (hn2 : n2 ≤ 1000000) :
    Calls Try.prog 23 #[.slice A n c, .slice A2 n2 c2] w (RetN (val 18446744073709551616 xs * val 18446744073709551616 ys) w) := by
  go_enter Try.func23, Try.ntmps23
  go_wp2_with fail
  refine (digits_any h (by omega)).mono ?_
  rintro e w1 ⟨Ax, nx, cx, xb, rfl, hx1, tx, vx, bx⟩
  have h2' := h2.up bx
  have hnx : nx ≤ 64000000 := by
    have := len_bits tx h.lim vx
    rw [hx1.len, h.len] at this
    omega
  have Vx := Lib.hid vx
  clear vx tx
  go_wp2_with fail
  refine (digits_any h2' (by omega)).mono ?_
  rintro e w2 ⟨Ay, ny, cy, yb, rfl, hy2, ty, vy, by2⟩
  have hx2 := hx1.up by2
  have hb2 := bthen bx by2
  have hny : ny ≤ 64000000 := by
    have := len_bits ty h2.lim vy
    rw [hy2.len, h2.len] at this
    omega
  have Vy := Lib.hid vy
  have Hly := Lib.hid hy2.len
  have hr := hx2.rooms
  have hry := hy2.rooms
  clear vy ty hx1 h2'
  go_wp2
  go_loopw [7, 8] (fun v i wr => ∃ (j : Nat) (A' : Option Addr) (n' c' : Nat) (ds : List Nat), j ≤ ny ∧ i = .int .i64 j ∧ v = .slice A' n' c' ∧ n' ≤ nx + ny + j ∧ Ni wr wr.heap.size A' n' c' ds ∧ Below w2.heap.size w2 wr ∧
      Hid (val 2 ds = val 2 xb * val 2 (yb.take j))) (fun _ i _ => ny - (intOf i).toNat)
  case atStart => exact ⟨0, none, 0, 0, [], Nat.zero_le _, rfl, rfl, by omega, ⟨rfl, Nat.le_refl _, Nat.zero_le _, Lim.nil _, fun h => absurd h (Nat.lt_irrefl _)⟩, Below.refl _ _, by simp [Hid, val]⟩
  case round =>
    obtain ⟨j, A', n', c', ds, hj, rfl, rfl, hn', hN, hB, hV⟩ := hrel
    by_cases hlt : j < ny
    · obtain ⟨b, off, rfl, hb, hcell⟩ := (hy2.below hB).at_ hlt
      have hd2 := hy2.lim.get (by omega) j
      obtain ⟨d, hd⟩ : ∃ d, yb.getD j 0 = d := ⟨_, rfl⟩
      rw [hd] at hcell hd2
      have Hd := Lib.hid hd
      have hxr := hx2.up hB
      clear hd
      rcases (show d = 0 ∨ d = 1 by omega) with rfl | rfl
      · go_wp2
        go_roundw
        case rel => exact ⟨j + 1, A', n', c', ds, by omega, by go_num, rfl, by omega, hN, hB, by show _ = _; rw [hV.out, val_take_succ, Hd.out]; simp⟩
        case measure => simp [intOf]; omega
      · go_wp2_with fail
        refine (moved_any hxr (by omega) j (by omega)).mono ?_
        rintro e w3 ⟨A3, n3, c3, ms, rfl, hn3, hm3, vm, b3⟩
        have hN3 := hN.up b3
        have hB3 := bthen hB b3
        have Vm := Lib.hid vm
        clear vm
        go_wp2_with fail
        refine (rsum_any (L := nx + ny + j) hN3 hm3 (by omega) (by omega) (by omega)).mono ?_
        rintro e w4 ⟨A4, n4, c4, ss, rfl, hn4, hm4, vs4, b4⟩
        have hB4 := bthen hB3 b4
        have Vs := Lib.hid vs4
        clear vs4 hN3 hm3 b3 hB3
        go_wp2
        go_roundw
        case rel => exact ⟨j + 1, A4, n4, c4, ss, by omega, by go_num, rfl, by omega, hm4, hB4, by show _ = _; rw [Vs.out, Vm.out, hV.out, val_take_succ, Hd.out, Nat.mul_one, Nat.mul_add]⟩
        case measure => simp [intOf]; omega
    · have hjn : j = ny := by omega
      have hv := hV.out
      rw [hjn, List.take_of_length_le (by rw [Hly.out]; exact Nat.le_refl _), Vx.out, Vy.out] at hv
      have Hv := Lib.hid hv
      have hb0 := bthen hb2 hB
      clear hv hjn
      go_wp2_with fail
      refine (number_any hN (by omega)).mono ?_
      rintro e w5 ⟨A5, n5, c5, x5, rfl, h5, t5, v5, b5⟩
      go_wp2_with fail
      go_ret
      exact ⟨_, _, _, _, rfl, h5, t5, by rw [v5, Hv.out], bthen hb0 b5⟩

theorem radd_any {w : World} {A A2 : Option Addr} {n c n2 c2 : Nat} {xs ys : List Nat} (h : Nt w w.heap.size A n c xs) (h2 : Nt w w.heap.size A2 n2 c2 ys) (hn : n ≤ 1000000) (hn2 : n2 ≤ 1000000) :
    Calls Try.prog 21 #[.slice A n c, .slice A2 n2 c2] w (RetN (val 18446744073709551616 xs + val 18446744073709551616 ys) w) := by
  go_enter Try.func21, Try.ntmps21
  go_wp2_with fail
  refine (digits_any h (by omega)).mono ?_
  rintro e w1 ⟨Ax, nx, cx, xb, rfl, hx1, tx, vx, bx⟩
  have h2' := h2.up bx
  have hnx : nx ≤ 64000000 := by
    have := len_bits tx h.lim vx
    rw [hx1.len, h.len] at this
    omega
  have Vx := Lib.hid vx
  clear vx tx
  go_wp2_with fail
  refine (digits_any h2' (by omega)).mono ?_
  rintro e w2 ⟨Ay, ny, cy, yb, rfl, hy2, ty, vy, by2⟩
  have hx2 := hx1.up by2
  have hb2 := bthen bx by2
  have hny : ny ≤ 64000000 := by
    have := len_bits ty h2.lim vy
    rw [hy2.len, h2.len] at this
    omega
  have Vy := Lib.hid vy
  clear vy ty hx1 h2'
  go_wp2_with fail
  refine (rsum_any (L := 64000000) hx2 hy2 hnx hny (by omega)).mono ?_
  rintro e w3 ⟨A3, n3, c3, ss, rfl, hn3, hs3, vs3, b3⟩
  have hb3 := bthen hb2 b3
  have Vs := Lib.hid vs3
  clear vs3
  go_wp2_with fail
  refine (number_any hs3 (by omega)).mono ?_
  rintro e w5 ⟨A5, n5, c5, x5, rfl, h5, t5, v5, b5⟩
  go_wp2_with fail
  go_ret
  exact ⟨_, _, _, _, rfl, h5, t5, by rw [v5, Vs.out, Vx.out, Vy.out], bthen hb3 b5⟩
end Go.Proofs.Ytajppinnnmnjiaa
