/- clepsydraref01.digits: the binary digits of a number. -/
import Derived.Test.YtddpgckbdccldaaRows2
namespace Go.Proofs.Ytddpgckbdccldaa
set_option linter.unusedSimpArgs false
set_option linter.unusedVariables false
open Go.RowKit

theorem cell_new (w : World) (v : Value) (t : TypeId) : (w.alloc (.cells #[v] t)).cell? ⟨w.heap.size, 0, none⟩ = some v := by
  rw [cell_of_row _ _ _ _ _ _ (heap_alloc_new w _)]
  rfl
theorem Gi.alloc {w : World} {base n c : Nat} {A : Option Addr} {xs : List Nat} (h : Gi w base A n c xs) (o : Obj) : Gi (w.alloc o) base A n c xs := ⟨h.1, h.2.alloc o⟩
theorem Gu.alloc {w : World} {base n c : Nat} {A : Option Addr} {xs : List Nat} (h : Gu w base A n c xs) (o : Obj) : Gu (w.alloc o) base A n c xs := ⟨h.1, h.2.alloc o⟩

/-- what a row of digits hands back -/
def RetI (N : Nat) (w : World) (e : Ending) (w' : World) : Prop := ∃ A n c ds, e = .returned (.slice A n c) ∧ Ni w' w'.heap.size A n c ds ∧ Trm ds ∧ val 2 ds = N ∧ Below w.heap.size w w'

set_option maxHeartbeats 2000000 in
theorem digits_any {w : World} {A : Option Addr} {n c : Nat} {xs : List Nat} (h : Nt w w.heap.size A n c xs) (hn : n ≤ 1099511627) : Calls Try.prog 47 #[.slice A n c] w (RetI (val 18446744073709551616 xs) w) := by
  have hr := h.rooms
  have Hlen := Lib.hid h.len
  go_enter Try.func47, Try.ntmps47
  go_wp2
  go_loopw [3, 4] (fun v i wr => ∃ (j : Nat) (A' : Option Addr) (n' c' : Nat) (ds : List Nat), j ≤ n ∧ i = .int .i64 j ∧ v = .slice A' n' c' ∧ Hid (n' = 64 * j) ∧ Gi wr w.heap.size A' n' c' ds ∧ Lim 2 ds ∧ Below w.heap.size w wr ∧ Hid (val 2 ds = val 18446744073709551616 (xs.take j))) (fun _ i _ => n - (intOf i).toNat)
  case atStart => exact ⟨0, none, 0, 0, [], Nat.zero_le _, rfl, rfl, rfl, Gi.nil _ _, Lim.nil _, Below.refl _ _, by simp [Hid, val]⟩
  case round =>
    obtain ⟨j, A', n', c', ds, hj, rfl, rfl, hn', hG, hL, hB, hV⟩ := hrel
    by_cases hlt : j < n
    · obtain ⟨wo, rfl⟩ : ∃ wo : World, wo = wr := ⟨_, rfl⟩
      have hxl := h.lim.get (by omega) j
      have hxe : xs.getD j 0 = xs.getD j 0 := rfl
      obtain ⟨x, hx⟩ : ∃ x, xs.getD j 0 = x := ⟨_, rfl⟩
      have Hx := Lib.hid hx
      rw [hx] at hxl
      clear hx hxe
      go_wp2
      go_loopw [3, 5] (fun v i wi => ∃ (k : Nat) (A2 : Option Addr) (n2 c2 : Nat), k ≤ 64 ∧ i = .int .i64 k ∧ v = .slice A2 n2 c2 ∧ Hid (n2 = 64 * j + k) ∧ Gi wi w.heap.size A2 n2 c2 (ds ++ lbits x k) ∧ Below w.heap.size w wi) (fun _ i _ => 64 - (intOf i).toNat)
      case atStart => exact ⟨0, A', n', c', Nat.zero_le _, rfl, rfl, hn'.out, by simpa [lbits] using hG, hB⟩
      case round =>
        obtain ⟨k, A2, n2, c2, hk, rfl, rfl, hn2, hG2, hB2⟩ := hrel
        by_cases hlk : k < 64
        · obtain ⟨b, off, rfl, hb, hcell⟩ := (h.below hB2).at_ hlt
          rw [Hx.out] at hcell
          obtain ⟨y, hy⟩ : ∃ y, x / 2 ^ k % 2 = y := ⟨_, rfl⟩
          have ho := and_one x k hxl
          rw [hy] at ho
          have Hy := Lib.hid hy
          have hs := hB2.size
          have hn2b : n2 ≤ 1099511627776 := by have := hn2.out; omega
          clear hy
          go_wp2_with (refine wpList_app_i _ rfl _ _ rfl rfl (hG2.alloc _) rfl (cell_new _ _ _) hn2b (hB2.alloc hs _) (by simp; omega) ?_; intro A3 c3 w3 hG3 hB3)
          go_roundw
          case rel => exact ⟨k + 1, A3, n2 + 1, c3, by omega, by go_num, rfl, by show _ = _; have := hn2.out; omega, by rw [lbits, Hy.out, ← List.append_assoc]; exact hG3, hB3⟩
          case measure => simp [intOf]; omega
        · obtain rfl : k = 64 := by omega
          go_wp2
          go_roundw
          case rel =>
            refine ⟨j + 1, A2, n2, c2, ds ++ lbits x 64, by omega, by go_num, rfl, by show _ = _; have := hn2.out; omega, hG2, hL.append (lim_lbits x 64), hB2, ?_⟩
            show _ = _
            have hl : ds.length = 64 * j := by rw [hG.1]; exact hn'.out
            rw [val_append, val_lbits, hV.out, val_take_succ, Hx.out, hl, show (2 : Nat) ^ 64 = 18446744073709551616 from rfl, Nat.mod_eq_of_lt hxl, show (2 : Nat) ^ (64 * j) = 18446744073709551616 ^ j by rw [show (18446744073709551616 : Nat) = 2 ^ 64 from rfl, ← Nat.pow_mul]]
          case measure => simp [intOf]; omega
    · have hjn : j = n := by omega
      have hv := hV.out
      rw [hjn, List.take_of_length_le (by rw [Hlen.out]; exact Nat.le_refl _)] at hv
      have Hv := Lib.hid hv
      clear hv hjn
      go_wp2_with (go_at_call 66; refine (rcut_ni (hG.ni hL)).mono ?_; rintro e w' ⟨m, rfl, rfl, hm, hN⟩)
      go_ret
      exact ⟨_, _, _, _, rfl, hN, trm_cutL ds, by rw [val_cutL]; exact Hv.out, hB⟩
end Go.Proofs.Ytddpgckbdccldaa
