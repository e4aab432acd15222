/- nat.Mul. -/
import Derived.Test.YtkhlmcknbangfaaGreatDoorSum
import Derived.Test.YtkhlmcknbangfaaGreatDoorAddTimes
namespace Go.Proofs.YtkhlmcknbangfaaGreatDoor
set_option linter.unusedSimpArgs false
set_option linter.unusedVariables false
open Go.RowKit
set_option linter.unusedVariables false

theorem mul_cell {T U : List Nat} {k m2 m : Nat} (hT : T.length = k) (hU : U.length = m2) (hk : k < m) : (T ++ U ++ List.replicate (m - k) 0)[k + m2]? = some 0 := by
  rw [show m - k = (m - k - 1) + 1 by omega, List.replicate_succ, List.getElem?_append_right (by simp [hT, hU])]
  simp [hT, hU]
theorem mul_round {w w2 : World} {k m m2 x ov : Nat} {us vs L U' : List Nat} (hlt : k < m) (hLl : L.length = k + m2) (hLL : Lim 18446744073709551616 L) (hbel : Below w.heap.size w w2) (hxe : us.getD k 0 = x) (hpl : (L.take k).length = k) (hUl : (L.drop k).length = m2)
    (how2 : Ow w2 w.heap.size (L.take k ++ U' ++ List.replicate (m - k) 0)) (hU'l : U'.length = (L.drop k).length) (hU'L : Lim 18446744073709551616 U') (hov : ov < 18446744073709551616)
    (hV : val 18446744073709551616 L = val 18446744073709551616 (us.take k) * val 18446744073709551616 vs)
    (hV' : val 18446744073709551616 U' + ov * 18446744073709551616 ^ (L.drop k).length = val 18446744073709551616 (L.drop k) + x * val 18446744073709551616 vs) :
    ∃ (k' : Nat) (L' : List Nat), k' ≤ m ∧ Value.int .i64 ((k : Int) + 1) = .int .i64 k' ∧ Hid (L'.length = k' + m2) ∧ Lim 18446744073709551616 L' ∧ Ow (w2.setCell ⟨w.heap.size, k + m2, none⟩ (.int .u64 (ov : Int))) w.heap.size (L' ++ List.replicate (m - k') 0) ∧ Below w.heap.size w (w2.setCell ⟨w.heap.size, k + m2, none⟩ (.int .u64 (ov : Int))) ∧
      Hid (val 18446744073709551616 L' = val 18446744073709551616 (us.take k') * val 18446744073709551616 vs) := by
  rw [hUl] at hU'l hV'
  refine ⟨k + 1, L.take k ++ U' ++ [ov], hlt, by simp, ?_, ((hLL.take k).append hU'L).append (Lim.one hov), ?_, hbel.setCell (Nat.le_refl _) _, ?_⟩
  · show _ = _
    rw [List.length_append, List.length_append, hpl, hU'l, List.length_singleton]
    omega
  · have h1 := how2.set_ (k + m2) ov
    have e : m - k = (m - (k + 1)) + 1 := by omega
    rw [e, List.replicate_succ, show k + m2 = (L.take k).length + U'.length by rw [hpl, hU'l]] at h1
    have h2 : (L.take k ++ U' ++ 0 :: List.replicate (m - (k + 1)) 0).set ((L.take k).length + U'.length) ov = L.take k ++ U' ++ [ov] ++ List.replicate (m - (k + 1)) 0 := by
      rw [← List.length_append]
      simp
    rw [h2, hpl, hU'l] at h1
    exact h1
  · show _ = _
    rw [val_snoc, val_append, List.length_append, hpl, hU'l, val_take_succ, hxe, Nat.add_mul, ← hV, val_take_drop _ L k (by omega)]
    have e1 : 18446744073709551616 ^ k * (val 18446744073709551616 U' + ov * 18446744073709551616 ^ m2) = 18446744073709551616 ^ k * (val 18446744073709551616 (L.drop k) + x * val 18446744073709551616 vs) := by rw [hV']
    rw [Nat.mul_add, Nat.mul_add] at e1
    rw [Nat.pow_add]
    have e2 : 18446744073709551616 ^ k * (ov * 18446744073709551616 ^ m2) = 18446744073709551616 ^ k * 18446744073709551616 ^ m2 * ov := by ac_rfl
    have e3 : 18446744073709551616 ^ k * (x * val 18446744073709551616 vs) = 18446744073709551616 ^ k * x * val 18446744073709551616 vs := by ac_rfl
    omega

set_option maxHeartbeats 2000000 in
theorem mul_any {w : World} {A A2 : Option Addr} {n c n2 c2 : Nat} {xs ys : List Nat} (h : Nt w w.heap.size A n c xs) (h2 : Nt w w.heap.size A2 n2 c2 ys) (hn : n ≤ 1099511627776) (hn2 : n2 ≤ 1099511627776) :
    Calls Tryz.prog 31 #[.slice A n c, .slice A2 n2 c2] w (Ret (val 18446744073709551616 xs * val 18446744073709551616 ys) w) := by
  rw [← val_cutL 18446744073709551616 xs, ← val_cutL 18446744073709551616 ys]
  obtain ⟨m, hm, hN, Hc⟩ := cut_ex h
  obtain ⟨m2, hm2, hN2, Hc2⟩ := cut_ex h2
  have hr := hN.rooms
  have hr2 := hN2.rooms
  generalize cutL xs = us at *
  generalize cutL ys = vs at *
  have Hul := Lib.hid hN.len
  have Hvl := Lib.hid hN2.len
  go_enter Tryz.func31, Tryz.ntmps31
  go_wp2_with (first
    | (go_at_call_of 82 (Value.slice A n c); refine Hc.out.mono ?_; rintro e w' ⟨rfl, rfl⟩)
    | (go_at_call_of 82 (Value.slice A2 n2 c2); refine Hc2.out.mono ?_; rintro e w' ⟨rfl, rfl⟩)
    | (refine wpList_make_us _ rfl _ _ rfl _ _ (m + m2) rfl rfl (by omega) (by omega) (by omega) ?_; intro w1 hw1 hg1))
  go_loopw [19] (fun i wr => ∃ (k : Nat) (L : List Nat), k ≤ m ∧ i = .int .i64 k ∧ Hid (L.length = k + m2) ∧ Lim 18446744073709551616 L ∧ Ow wr w.heap.size (L ++ List.replicate (m - k) 0) ∧ Below w.heap.size w wr ∧
      Hid (val 18446744073709551616 L = val 18446744073709551616 (us.take k) * val 18446744073709551616 vs))
    (fun i _ => m - (intOf i).toNat)
  case atStart =>
    refine ⟨0, List.replicate m2 0, Nat.zero_le _, rfl, by simp [Hid], lim_replicate (by omega) _, ?_, below_none hg1 (Nat.le_refl _), by simp [Hid, val, val_replicate]⟩
    rw [Nat.sub_zero, List.replicate_append_replicate, Nat.add_comm]
    exact hw1
  case round =>
    obtain ⟨k, L, hk, rfl, hLl, hLL, how, hbel, hV⟩ := hrel
    by_cases hlt : k < m
    · obtain ⟨b, off, rfl, hb, hx⟩ := (hN.below hbel).at_ hlt
      have hxl := hN.lim.get (by omega) k
      have hNr2 := (hN2.below hbel).drew
      have hLd : L = L.take k ++ L.drop k := (List.take_append_drop k L).symm
      have hpl : (L.take k).length = k := by rw [List.length_take, hLl.out]; omega
      have hUl : (L.drop k).length = m2 := by rw [List.length_drop, hLl.out]; omega
      have how' : Ow wr.drew w.heap.size (L.take k ++ L.drop k ++ List.replicate (m - k) 0) := by rw [← hLd]; exact how.drew
      generalize hxe : us.getD k 0 = x at *
      have hcall := @addTimes_any wr.drew w.heap.size w.heap.size m2 (m + m2 - k) m2 m2 x (some ⟨w.heap.size, k, none⟩) A2 (L.take k) (L.drop k) (List.replicate (m - k) 0) vs how' (fun _ => by rw [hpl]) hUl.symm (by omega) (by unfold maxLen; omega) (hLL.drop k) hNr2 (Nat.le_refl _) rfl hxl
      have Hcall := Lib.hid hcall
      have Hxe := Lib.hid hxe
      have Hpl := Lib.hid hpl
      have HUl := Lib.hid hUl
      clear hcall hxe hpl hUl hLd how'
      have s1 : IntKind.i64.wrap ((k : Int) + (m2 : Int)) = (k : Int) + (m2 : Int) := IntWalk.i64_in _ (by omega)
      have s2 : ((k : Int) + (m2 : Int)).toNat = k + m2 := by omega
      have s3 : (0 : Int) ≤ (k : Int) + (m2 : Int) := by omega
      have s4 : (k : Int) + (m2 : Int) < ((m + m2 : Nat) : Int) := by omega
      have s5 : (k : Int) + (m2 : Int) ≤ ((m + m2 : Nat) : Int) := by omega
      have s6 : k ≤ k + m2 := by omega
      have s7 : k + m2 ≤ m + m2 := by omega
      have s8 : ¬ m + m2 = k := by omega
      have s9 : k + m2 - k = m2 := by omega
      go_wp2
      go_region_with (go_at_call 89; refine Hcall.out.mono ?_; rintro e w2 ⟨U', ov, rfl, how2, hU'l, hU'L, hov, hV', hg2⟩; have hc2 := how2.cell (mul_cell Hpl.out (hU'l.trans HUl.out) hlt); have hf2 := how2.frozen (k + m2); have hbel2 := hbel.drew.grown hg2 hbel.size (fun j hj => by cases hj; exact Nat.le_refl _); have HU'l := Lib.hid hU'l; clear hU'l; have HV' := Lib.hid hV'; clear hV')
      all_goals
        clear s1 s2 s5 s9
        go_wp2
        go_roundw
        case rel => exact mul_round hlt hLl.out hLL hbel2 Hxe.out Hpl.out HUl.out how2 HU'l.out hU'L hov hV.out HV'.out
        case measure => simp [intOf]; omega
    · obtain rfl : k = m := by omega
      have hv := hV.out
      rw [List.take_of_length_le (by rw [Hul.out]; exact Nat.le_refl _)] at hv
      have how' : Ow wr w.heap.size L := by
        have := how
        rw [Nat.sub_self] at this
        simpa using this
      have Hcut := Lib.hid (cut_res how' (Nat.le_refl _) hbel (by rw [hLl.out]; unfold maxLen; omega) hLL hLl.out.symm hv)
      clear hv
      go_wp2_with (go_at_call 82; refine Hcut.out.mono ?_; rintro e w' ⟨A', n', c', xs', rfl, hres⟩)
      go_ret
      exact ⟨_, _, _, _, rfl, hres⟩
end Go.Proofs.YtkhlmcknbangfaaGreatDoor
