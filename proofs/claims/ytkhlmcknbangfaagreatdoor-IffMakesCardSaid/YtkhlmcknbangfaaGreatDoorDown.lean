/- nat.shiftDown: the whole part of a number by a power of two. -/
import Derived.Test.YtkhlmcknbangfaaGreatDoorUp
namespace Go.Proofs.YtkhlmcknbangfaaGreatDoor
set_option linter.unusedSimpArgs false
set_option linter.unusedVariables false
open Go.RowKit
set_option linter.unusedVariables false

theorem down_bits {p x : Nat} (y : Nat) (hp : p ≤ 64) (hx : x < 18446744073709551616) : bits .or .u64 ((x : Int) / 2 ^ p) (IntKind.u64.wrap ((y : Int) * 2 ^ (64 - p))) = ((x / 2 ^ p + 2 ^ (64 - p) * (y % 2 ^ p) : Nat) : Int) := by
  have e : IntKind.u64.wrap ((y : Int) * 2 ^ (64 - p)) = ((y * 2 ^ (64 - p) % 18446744073709551616 : Nat) : Int) := by
    rw [IntKind.wrap_u64]
    have : ((y : Int) * 2 ^ (64 - p)) = ((y * 2 ^ (64 - p) : Nat) : Int) := by simp
    rw [this]
    omega
  have e2 : ((x : Int) / 2 ^ p) = ((x / 2 ^ p : Nat) : Int) := by simp
  have hx' : x / 2 ^ p < 18446744073709551616 := Nat.lt_of_le_of_lt (Nat.div_le_self _ _) hx
  rw [e, e2, bits_or_u64_nat _ _ hx' (Nat.mod_lt _ (by omega)), down_or y hp hx]

theorem down_round {w wr : World} {m q p x y : Nat} {ys done : List Nat} (hp : p < 64) (hj : done.length < m - q) (hx : x < 18446744073709551616) (hxg : ys.getD done.length 0 = x) (hyg : ys.getD (done.length + 1) 0 = y) (hL : Lim 18446744073709551616 done)
    (how : Ow wr w.heap.size (done ++ List.replicate (m - q - done.length) 0)) (hbel : Below w.heap.size w wr)
    (hV : val 18446744073709551616 done * 2 ^ p + ys.getD 0 0 % 2 ^ p = val 18446744073709551616 (ys.take done.length) + 18446744073709551616 ^ done.length * (ys.getD done.length 0 % 2 ^ p)) :
    ∃ (done' : List Nat), done'.length ≤ m - q ∧ Value.int .i64 ((done.length : Int) + 1) = .int .i64 done'.length ∧ Lim 18446744073709551616 done' ∧
      Ow (wr.setCell ⟨w.heap.size, done.length, none⟩ (.int .u64 (bits .or .u64 ((x : Int) / 2 ^ p) (IntKind.u64.wrap ((y : Int) * 2 ^ (64 - p)))))).drew w.heap.size (done' ++ List.replicate (m - q - done'.length) 0) ∧
      Below w.heap.size w (wr.setCell ⟨w.heap.size, done.length, none⟩ (.int .u64 (bits .or .u64 ((x : Int) / 2 ^ p) (IntKind.u64.wrap ((y : Int) * 2 ^ (64 - p)))))).drew ∧
      Hid (val 18446744073709551616 done' * 2 ^ p + ys.getD 0 0 % 2 ^ p = val 18446744073709551616 (ys.take done'.length) + 18446744073709551616 ^ done'.length * (ys.getD done'.length 0 % 2 ^ p)) := by
  refine ⟨done ++ [x / 2 ^ p + 2 ^ (64 - p) * (y % 2 ^ p)], by simp; omega, by simp, hL.append (Lim.one (down_digit_lt y (by omega) hx)), ?_, (hbel.setCell (Nat.le_refl _) _).drew, ?_⟩
  · rw [down_bits y (by omega) hx]
    have h1 := how.set_ done.length (x / 2 ^ p + 2 ^ (64 - p) * (y % 2 ^ p))
    have e3 : m - q - done.length = (m - q - (done ++ [x / 2 ^ p + 2 ^ (64 - p) * (y % 2 ^ p)]).length) + 1 := by simp; omega
    rw [e3, List.replicate_succ] at h1
    have h2 : ((done ++ 0 :: List.replicate (m - q - (done ++ [x / 2 ^ p + 2 ^ (64 - p) * (y % 2 ^ p)]).length) 0).set done.length (x / 2 ^ p + 2 ^ (64 - p) * (y % 2 ^ p))) = (done ++ [x / 2 ^ p + 2 ^ (64 - p) * (y % 2 ^ p)]) ++ List.replicate (m - q - (done ++ [x / 2 ^ p + 2 ^ (64 - p) * (y % 2 ^ p)]).length) 0 := by
      simp
    rw [h2] at h1
    exact h1.drew
  · show _ = _
    rw [val_snoc, List.length_append, List.length_singleton, val_take_succ, hxg, hyg, Nat.pow_succ]
    rw [hxg] at hV
    exact down_step _ _ _ _ _ _ _ _ _ _ hV (down_sum y (by omega))

set_option maxHeartbeats 2000000 in
theorem shiftDown_any {w : World} {A : Option Addr} {m c : Nat} {xs : List Nat} (h : Nt w w.heap.size A m c xs) (hn : m ≤ 1099511627776) (q p : Nat) (hp : p < 64) (hq : q < m) (k : Int) (hk : k = ((64 * q + p : Nat) : Int)) :
    Calls Tryz.prog 172 #[.slice A m c, .int .i64 k] w (Ret (val 18446744073709551616 xs / 2 ^ (64 * q + p)) w) := by
  have hr := h.rooms
  have e1 : k / 64 = (q : Int) := by omega
  have e2 : k % 64 = (p : Int) := by omega
  have hk0 : 0 ≤ k := by omega
  have hk1 : k ≤ 70368744177664 := by omega
  clear hk
  obtain ⟨ys, hys⟩ : ∃ ys, ys = xs.drop q := ⟨_, rfl⟩
  have hyl : ys.length = m - q := by rw [hys, List.length_drop, h.len]
  have hyL : Lim 18446744073709551616 ys := by rw [hys]; exact h.lim.drop q
  have hyg : ∀ i, ys.getD i 0 = xs.getD (i + q) 0 := by intro i; rw [hys]; simp [List.getD, Nat.add_comm]
  have hdiv : val 18446744073709551616 xs / 2 ^ (64 * q + p) = val 18446744073709551616 ys / 2 ^ p := by
    rw [two_pow_limb, Nat.mul_comm, ← Nat.div_div_eq_div_mul, val_div_pow h.lim (by omega) q (by rw [h.len]; omega), hys]
  have Hyg := Lib.hid hyg
  have Hyl := Lib.hid hyl
  rw [hdiv]
  clear hys hyg hdiv hyl
  go_enter Tryz.func172, Tryz.ntmps172
  go_wp2_with (first
    | (refine wpList_make_us _ rfl _ _ rfl _ _ (m - q) rfl rfl (by omega) (by omega) (by omega) ?_; intro w1 hw1 hg1))
  go_loopw [20] (fun i wr => ∃ (done : List Nat), done.length ≤ m - q ∧ i = .int .i64 done.length ∧ Lim 18446744073709551616 done ∧ Ow wr w.heap.size (done ++ List.replicate (m - q - done.length) 0) ∧ Below w.heap.size w wr ∧
      Hid (val 18446744073709551616 done * 2 ^ p + ys.getD 0 0 % 2 ^ p = val 18446744073709551616 (ys.take done.length) + 18446744073709551616 ^ done.length * (ys.getD done.length 0 % 2 ^ p)))
    (fun i _ => m - q - (intOf i).toNat)
  case atStart =>
    refine ⟨[], Nat.zero_le _, rfl, Lim.nil _, by simpa using hw1, below_none hg1 (Nat.le_refl _), ?_⟩
    simp [Hid, val]
  case round =>
    obtain ⟨done, hj, rfl, hL, how, hbel, hV⟩ := hrel
    by_cases hlt : done.length < m - q
    · have hlt' : done.length + q < m := by omega
      have hb1 : (done.length : Int) + (q : Int) < (m : Int) := by omega
      have hb2 : (0 : Int) ≤ (done.length : Int) + (q : Int) := by omega
      have hb3 : (done.length : Int) < ((m - q : Nat) : Int) := by omega
      have hbr := h.below hbel
      obtain ⟨b, off, rfl, hb, hx⟩ := hbr.at_ (show done.length + q < m by omega)
      have hcl := how.cell (j := done.length) (x := 0) (by rw [show m - q - done.length = (m - q - done.length - 1) + 1 by omega, List.replicate_succ]; simp)
      have hf1 := how.frozen done.length
      have hxl := hyL.get (by omega) done.length
      have Hx := Lib.hid (Hyg.out done.length)
      have Hy := Lib.hid (Hyg.out (done.length + 1))
      have hlim := limb_any hbr.drew ((done.length : Int) + (q : Int) + 1) (by omega)
      have ey : ((done.length : Int) + (q : Int) + 1).toNat = done.length + 1 + q := by omega
      rw [ey] at hlim
      clear ey
      rw [← Hyg.out] at hx hlim
      generalize hxe : ys.getD done.length 0 = x at *
      generalize hye : ys.getD (done.length + 1) 0 = y at *
      have Hxe := Lib.hid hxe
      have Hye := Lib.hid hye
      have Hlim := Lib.hid hlim
      clear hxe hye hlim
      have s1 : IntKind.i64.wrap ((done.length : Int) + (q : Int)) = (done.length : Int) + (q : Int) := IntWalk.i64_in _ (by omega)
      have s2 : IntKind.i64.wrap ((done.length : Int) + (q : Int) + 1) = (done.length : Int) + (q : Int) + 1 := IntWalk.i64_in _ (by omega)
      have s3 : IntKind.i64.wrap (64 - (p : Int)) = 64 - (p : Int) := IntWalk.i64_in _ (by omega)
      have s4 : ((done.length : Int) + (q : Int)).toNat = done.length + q := by omega
      have s5 : (64 - (p : Int)).toNat = 64 - p := by omega
      have s6 : (0 : Int) ≤ 64 - (p : Int) := by omega
      go_wp2
      go_region_with (go_at_call 131; refine Hlim.out.mono ?_; rintro e w' ⟨rfl, rfl⟩)
      all_goals
        clear s1 s2 s3 s4 s5
        go_wp2
        go_roundw
        case rel => exact down_round hp hlt hxl Hxe.out Hye.out hL how hbel (by rw [Hxe.out]; exact hV.out)
        case measure => simp [intOf]; omega
    · have hll : done.length = m - q := by omega
      have hv := hV.out
      have e0 : ys.getD done.length 0 = 0 := by simp [List.getD, List.getElem?_eq_none (show ys.length ≤ done.length by rw [Hyl.out]; omega)]
      rw [List.take_of_length_le (by rw [Hyl.out]; omega), e0, Nat.zero_mod, Nat.mul_zero, Nat.add_zero] at hv
      have hv2 : val 18446744073709551616 done = val 18446744073709551616 ys / 2 ^ p := by
        rw [← hv, Nat.mul_comm, Nat.mul_add_div (Nat.two_pow_pos p), Nat.div_eq_of_lt (Nat.mod_lt _ (Nat.two_pow_pos p)), Nat.add_zero]
      have how' : Ow wr w.heap.size done := by
        have := how
        rw [show m - q - done.length = 0 by omega] at this
        simpa using this
      have Hcut := Lib.hid (cut_res how' (Nat.le_refl _) hbel (by rw [hll]; unfold maxLen; omega) hL hll.symm hv2)
      clear hll hv hv2 e0
      go_wp2_with (go_at_call 82; refine Hcut.out.mono ?_; rintro e w' ⟨A', n', c', xs', rfl, hres⟩)
      go_ret
      exact ⟨_, _, _, _, rfl, hres⟩
end Go.Proofs.YtkhlmcknbangfaaGreatDoor
