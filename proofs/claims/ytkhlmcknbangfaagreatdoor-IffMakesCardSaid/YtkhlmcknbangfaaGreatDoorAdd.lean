/- nat.Add. -/
import Derived.Test.YtkhlmcknbangfaaGreatDoorSum
namespace Go.Proofs.YtkhlmcknbangfaaGreatDoor
set_option linter.unusedSimpArgs false
set_option linter.unusedVariables false
open Go.RowKit
set_option linter.unusedVariables false

/-- 'out' with noughts behind, raised by 'b' -/
theorem add_end {k va vb n : Nat} {U' : List Nat} (hV : val 18446744073709551616 U' + k * 18446744073709551616 ^ n = va + vb) (hlt : va + vb < 18446744073709551616 ^ n) : k = 0 ∧ val 18446744073709551616 U' = va + vb := by
  have : k = 0 := by
    rcases Nat.eq_zero_or_pos k with h | h
    · exact h
    · have : 1 * 18446744073709551616 ^ n ≤ k * 18446744073709551616 ^ n := Nat.mul_le_mul_right _ h
      omega
  subst this
  exact ⟨rfl, by omega⟩
theorem add_room {xs ys : List Nat} (hx : Lim 18446744073709551616 xs) (hy : Lim 18446744073709551616 ys) (h : xs.length ≤ ys.length) : val 18446744073709551616 ys + val 18446744073709551616 xs < 18446744073709551616 ^ (ys.length + 1) := by
  have h1 := val_lt hx
  have h2 := val_lt hy
  have h3 : (18446744073709551616 : Nat) ^ xs.length ≤ 18446744073709551616 ^ ys.length := Nat.pow_le_pow_right (by omega) h
  rw [Nat.pow_succ]
  omega

set_option maxHeartbeats 1000000 in
theorem add_any {w : World} {A A2 : Option Addr} {n c n2 c2 : Nat} {xs ys : List Nat} (h : Nt w w.heap.size A n c xs) (h2 : Nt w w.heap.size A2 n2 c2 ys) (hn : n ≤ 1099511627776) (hn2 : n2 ≤ 1099511627776) :
    Calls Tryz.prog 55 #[.slice A n c, .slice A2 n2 c2] w (Ret (val 18446744073709551616 xs + val 18446744073709551616 ys) w) := by
  rw [← val_cutL 18446744073709551616 xs, ← val_cutL 18446744073709551616 ys]
  obtain ⟨m, hm, hN, Hc⟩ := cut_ex h
  obtain ⟨m2, hm2, hN2, Hc2⟩ := cut_ex h2
  have hr := hN.rooms
  have hr2 := hN2.rooms
  generalize cutL xs = us at *
  generalize cutL ys = vs at *
  rcases Nat.lt_or_ge m m2 with hlt | hge
  · have hroom := add_room hN.lim hN2.lim (by rw [hN.len, hN2.len]; omega)
    rw [hN2.len] at hroom
    rw [Nat.add_comm (val 18446744073709551616 us)]
    have Hl2 := Lib.hid hN2.len
    have Hroom := Lib.hid hroom
    clear hroom
    go_enter Tryz.func55, Tryz.ntmps55
    go_wp2_with (first
      | (go_at_call_of 82 (Value.slice A n c); refine Hc.out.mono ?_; rintro e w' ⟨rfl, rfl⟩)
      | (go_at_call_of 82 (Value.slice A2 n2 c2); refine Hc2.out.mono ?_; rintro e w' ⟨rfl, rfl⟩)
      | (refine wpList_make_us _ rfl _ _ rfl _ _ (m2 + 1) rfl rfl (by omega) (by omega) (by omega) ?_; intro w1 hw1 hg1)
      | (refine wpList_copy_us rfl _ _ rfl rfl rfl hw1 (by simp) (hN2.below (below_none hg1 (Nat.le_refl _))) (by omega) ?_; intro w2 hw2 hg2; have hb2 := (below_none hg1 (Nat.le_refl _)).grown hg2 hg1.size (fun k hk => by cases hk; exact Nat.le_refl _); have hw2' : Ow w2 w.heap.size ([] ++ (vs ++ [0]) ++ []) := by simpa using hw2)
      | (go_at_call 117; refine (addTo_any hw2' (fun _ => rfl) (by simp [Hl2.out]) (Nat.le_refl _) (by unfold maxLen; omega) (hN2.lim.append (Lim.one (by omega))) (hN.below hb2) (Nat.le_refl _) (by omega)).mono ?_; rintro e w3 ⟨U', k, rfl, hw3, hl3, hL3, hk3, hV3, hg3⟩))
    have hl3' : U'.length = m2 + 1 := by rw [hl3]; simp [Hl2.out]
    have hv3 : val 18446744073709551616 U' + k * 18446744073709551616 ^ (m2 + 1) = val 18446744073709551616 vs + val 18446744073709551616 us := by
      have := hV3
      rw [List.length_append, List.length_singleton, Hl2.out, val_append, val_one, Nat.mul_zero, Nat.add_zero] at this
      exact this
    have hv := (add_end hv3 Hroom.out).2
    have hb3 := hb2.grown hg3 hb2.size (fun k hk => by cases hk; exact Nat.le_refl _)
    have hw3' : Ow w3 w.heap.size U' := by simpa using hw3
    have Hcut := Lib.hid (cut_res hw3' (Nat.le_refl _) hb3 (by rw [hl3']; unfold maxLen; omega) hL3 hl3'.symm hv)
    clear hl3' hv3 hv hl3 hV3
    refine Hcut.out.mono ?_
    rintro e w4 ⟨A', n', c', xs', rfl, hres⟩
    go_wp2
    go_ret
    exact ⟨_, _, _, _, rfl, hres⟩
  · have hroom := add_room hN2.lim hN.lim (by rw [hN.len, hN2.len]; omega)
    rw [hN.len] at hroom
    have Hl := Lib.hid hN.len
    have Hroom := Lib.hid hroom
    clear hroom
    go_enter Tryz.func55, Tryz.ntmps55
    go_wp2_with (first
      | (go_at_call_of 82 (Value.slice A n c); refine Hc.out.mono ?_; rintro e w' ⟨rfl, rfl⟩)
      | (go_at_call_of 82 (Value.slice A2 n2 c2); refine Hc2.out.mono ?_; rintro e w' ⟨rfl, rfl⟩)
      | (refine wpList_make_us _ rfl _ _ rfl _ _ (m + 1) rfl rfl (by omega) (by omega) (by omega) ?_; intro w1 hw1 hg1)
      | (refine wpList_copy_us rfl _ _ rfl rfl rfl hw1 (by simp) (hN.below (below_none hg1 (Nat.le_refl _))) (by omega) ?_; intro w2 hw2 hg2; have hb2 := (below_none hg1 (Nat.le_refl _)).grown hg2 hg1.size (fun k hk => by cases hk; exact Nat.le_refl _); have hw2' : Ow w2 w.heap.size ([] ++ (us ++ [0]) ++ []) := by simpa using hw2)
      | (go_at_call 117; refine (addTo_any hw2' (fun _ => rfl) (by simp [Hl.out]) (Nat.le_refl _) (by unfold maxLen; omega) (hN.lim.append (Lim.one (by omega))) (hN2.below hb2) (Nat.le_refl _) (by omega)).mono ?_; rintro e w3 ⟨U', k, rfl, hw3, hl3, hL3, hk3, hV3, hg3⟩))
    have hl3' : U'.length = m + 1 := by rw [hl3]; simp [Hl.out]
    have hv3 : val 18446744073709551616 U' + k * 18446744073709551616 ^ (m + 1) = val 18446744073709551616 us + val 18446744073709551616 vs := by
      have := hV3
      rw [List.length_append, List.length_singleton, Hl.out, val_append, val_one, Nat.mul_zero, Nat.add_zero] at this
      exact this
    have hv := (add_end hv3 Hroom.out).2
    have hb3 := hb2.grown hg3 hb2.size (fun k hk => by cases hk; exact Nat.le_refl _)
    have hw3' : Ow w3 w.heap.size U' := by simpa using hw3
    have Hcut := Lib.hid (cut_res hw3' (Nat.le_refl _) hb3 (by rw [hl3']; unfold maxLen; omega) hL3 hl3'.symm hv)
    clear hl3' hv3 hv hl3 hV3
    refine Hcut.out.mono ?_
    rintro e w4 ⟨A', n', c', xs', rfl, hres⟩
    go_wp2
    go_ret
    exact ⟨_, _, _, _, rfl, hres⟩
end Go.Proofs.YtkhlmcknbangfaaGreatDoor
