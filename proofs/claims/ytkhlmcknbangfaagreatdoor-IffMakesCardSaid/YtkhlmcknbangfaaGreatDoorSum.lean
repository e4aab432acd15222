/- nat.Cmp, nat.Add. -/
import Derived.Test.YtkhlmcknbangfaaGreatDoorSmall
import Derived.Test.YtkhlmcknbangfaaGreatDoorCmp
import Derived.Test.YtkhlmcknbangfaaGreatDoorAddTo
namespace Go.Proofs.YtkhlmcknbangfaaGreatDoor
set_option linter.unusedSimpArgs false
set_option linter.unusedVariables false
open Go.RowKit
set_option linter.unusedVariables false

theorem cut_ex {w : World} {B : Nat} {A : Option Addr} {n c : Nat} {xs : List Nat} (h : Nt w B A n c xs) :
    ∃ m, m ≤ n ∧ Nt w B A m m (cutL xs) ∧ Hid (Calls Tryz.prog 82 #[.slice A n c] w fun e w' => e = .returned (.slice A m m) ∧ w = w') := by
  refine ⟨tl xs n, tl_le _ _, ?_, cut_any h⟩
  have hl := h.len
  have ht := tl_le xs n
  refine ⟨by rw [length_cutL, hl], Nat.le_refl _, Nat.le_trans ht (Nat.le_trans h.cap h.room), lim_cutL h.lim, fun h0 => ?_⟩
  obtain ⟨b, off, e, hb, hcell⟩ := h.cell (by omega)
  refine ⟨b, off, e, hb, fun j x hx => hcell j x ?_⟩
  unfold cutL at hx
  rw [List.getElem?_take] at hx
  split at hx
  · exact hx
  · cases hx

theorem quiet_left {P : Program} {f : FuncId} {args : Array Value} {w : World} {n : Nat} {v : Value}
    (h : Calls P f args (w.drewN n) fun e w' => e = .returned v ∧ w.drewN n = w') : Calls P f args (w.drewN n) fun e w'' => e = .returned v ∧ ∃ m, w'' = w.drewN m :=
  h.mono fun _ _ ⟨he, hm⟩ => ⟨he, n, hm.symm⟩
theorem quiet_add_left {P : Program} {f : FuncId} {args : Array Value} {w : World} {a n : Nat} {v : Value}
    (h : Calls P f args (w.drewN (a + n)) fun e w' => e = .returned v ∧ w.drewN (a + n) = w') :
    Calls P f args (w.drewN (a + n)) fun e w'' => e = .returned v ∧ ∃ m, w'' = w.drewN (a + m) :=
  h.mono fun _ _ ⟨he, hm⟩ => ⟨he, n, hm.symm⟩

theorem sgn_lt {x y : Nat} (h : x < y) : sgn (x : Int) (y : Int) = -1 := by unfold sgn; rw [if_pos (by omega)]
theorem sgn_gt {x y : Nat} (h : y < x) : sgn (x : Int) (y : Int) = 1 := by unfold sgn; rw [if_neg (by omega), if_pos (by omega)]
theorem sgn_eq (x : Nat) : sgn (x : Int) (x : Int) = 0 := by unfold sgn; rw [if_neg (by omega), if_neg (by omega)]
theorem val_len_lt {β : Nat} (hβ : 0 < β) {xs ys : List Nat} (hx : Lim β xs) (ty : Trm ys) (h : xs.length < ys.length) : val β xs < val β ys := by
  have h1 := val_lt hx
  have h2 := val_ge (β := β) ty (by omega)
  have h3 : β ^ xs.length ≤ β ^ (ys.length - 1) := Nat.pow_le_pow_right hβ (by omega)
  omega
theorem val_top_lt {β : Nat} {xs ys : List Nat} {k x y : Nat} (hx : Lim β xs) (hkx : k < xs.length) (hl : xs.length = ys.length) (hd : xs.drop (k + 1) = ys.drop (k + 1)) (ex : xs.getD k 0 = x) (ey : ys.getD k 0 = y) (h : x < y) : val β xs < val β ys := by
  rw [val_take_drop β xs (k + 1) (by omega), val_take_drop β ys (k + 1) (by omega), hd, val_take_succ, val_take_succ, ex, ey]
  have h1 := val_lt (hx.take k)
  rw [List.length_take, Nat.min_eq_left (by omega)] at h1
  have h2 : β ^ k * (x + 1) ≤ β ^ k * y := Nat.mul_le_mul_left _ h
  rw [Nat.mul_add] at h2
  omega
theorem sgn_len {xs ys : List Nat} (hx : Lim 18446744073709551616 xs) (hy : Lim 18446744073709551616 ys) (tx : Trm xs) (ty : Trm ys) (h : xs.length ≠ ys.length) :
    sgn (xs.length : Int) (ys.length : Int) = sgn (val 18446744073709551616 xs : Int) (val 18446744073709551616 ys : Int) := by
  rcases Nat.lt_or_gt_of_ne h with hlt | hgt
  · rw [sgn_lt hlt, sgn_lt (val_len_lt (by omega) hx ty hlt)]
  · rw [sgn_gt hgt, sgn_gt (val_len_lt (by omega) hy tx hgt)]
theorem sgn_top {xs ys : List Nat} {k x y : Nat} (hx : Lim 18446744073709551616 xs) (hy : Lim 18446744073709551616 ys) (hkx : k < xs.length) (hl : xs.length = ys.length) (hd : xs.drop (k + 1) = ys.drop (k + 1)) (ex : xs.getD k 0 = x) (ey : ys.getD k 0 = y) (h : x ≠ y) :
    sgn (x : Int) (y : Int) = sgn (val 18446744073709551616 xs : Int) (val 18446744073709551616 ys : Int) := by
  rcases Nat.lt_or_gt_of_ne h with hlt | hgt
  · rw [sgn_lt hlt, sgn_lt (val_top_lt hx hkx hl hd ex ey hlt)]
  · rw [sgn_gt hgt, sgn_gt (val_top_lt hy (by omega) hl.symm hd.symm ey ex hgt)]
theorem drop_back {xs ys : List Nat} {k : Nat} (hl : xs.length = ys.length) (hk : k < xs.length) (hd : xs.drop (k + 1) = ys.drop (k + 1)) (h : xs.getD k 0 = ys.getD k 0) : xs.drop k = ys.drop k := by
  rw [List.drop_eq_getElem_cons hk, List.drop_eq_getElem_cons (show k < ys.length by omega), hd]
  congr 1
  simpa [List.getD, List.getElem?_eq_getElem hk, List.getElem?_eq_getElem (show k < ys.length by omega)] using h

set_option maxHeartbeats 1000000 in
theorem cmp_any {w : World} {B : Nat} {A A2 : Option Addr} {n c n2 c2 : Nat} {xs ys : List Nat} (h : Nt w B A n c xs) (h2 : Nt w B A2 n2 c2 ys) :
    Calls Tryz.prog 26 #[.slice A n c, .slice A2 n2 c2] w fun e w' => e = .returned (.int .i64 (sgn (val 18446744073709551616 xs : Int) (val 18446744073709551616 ys : Int))) ∧ ∃ d, w' = w.drewN d := by
  rw [← val_cutL 18446744073709551616 xs, ← val_cutL 18446744073709551616 ys]
  obtain ⟨m, hm, hN, Hc⟩ := cut_ex h
  obtain ⟨m2, hm2, hN2, Hc2⟩ := cut_ex h2
  have tx := trm_cutL xs
  have ty := trm_cutL ys
  have hr := hN.rooms
  have hr2 := hN2.rooms
  generalize cutL xs = us at *
  generalize cutL ys = vs at *
  by_cases he : m = m2
  · subst he
    have hll : us.length = vs.length := hN.len.trans hN2.len.symm
    have Hll := Lib.hid hll
    have Hul := Lib.hid hN.len
    clear hll
    go_enter Tryz.func26, Tryz.ntmps26
    go_wp2_with (first
      | (go_at_call_of 82 (Value.slice A n c); refine Hc.out.mono ?_; rintro e w' ⟨rfl, rfl⟩)
      | (go_at_call_of 82 (Value.slice A2 n2 c2); refine Hc2.out.mono ?_; rintro e w' ⟨rfl, rfl⟩))
    go_loopw [23] (fun i wr => ∃ k d : Nat, k ≤ m ∧ i = .int .i64 k ∧ Hid (us.drop (m - k) = vs.drop (m - k)) ∧ Hid (wr = w.drewN d)) (fun i _ => m - (intOf i).toNat)
    case atStart => exact ⟨0, 0, Nat.zero_le _, rfl, by show _ = _; rw [List.drop_eq_nil_of_le (by rw [Hul.out]; omega), List.drop_eq_nil_of_le (by rw [← Hll.out, Hul.out]; omega)], rfl⟩
    case round =>
      obtain ⟨k, d, hk, rfl, hD, hW⟩ := hrel
      have hNr : Nt wr B A m m us := by rw [hW.out]; exact hN.drewN d
      have hNr2 : Nt wr B A2 m m vs := by rw [hW.out]; exact hN2.drewN d
      by_cases hlt : k < m
      · obtain ⟨t, rfl⟩ : ∃ t, m = t + 1 + k := ⟨m - 1 - k, by omega⟩
        obtain ⟨b, off, rfl, hb, hx⟩ := hNr.at_ (show t < t + 1 + k by omega)
        obtain ⟨b2, off2, rfl, hb2, hy⟩ := hNr2.at_ (show t < t + 1 + k by omega)
        have hD' : us.drop (t + 1) = vs.drop (t + 1) := by
          have := hD.out
          rwa [show t + 1 + k - k = t + 1 by omega] at this
        have ei : (t : Int) + 1 + (k : Int) - 1 - (k : Int) = (t : Int) := by omega
        generalize hxe : us.getD t 0 = x at *
        generalize hye : vs.getD t 0 = y at *
        have HD := Lib.hid hD'
        have Hxe := Lib.hid hxe
        have Hye := Lib.hid hye
        clear hD' hxe hye
        have b1 : (0 : Int) ≤ (t : Int) := by omega
        have b2' : (t : Int) < ((t + 1 + k : Nat) : Int) := by omega
        by_cases hxy : x = y
        · subst hxy
          have ht : ((x : Int) != (x : Int)) = false := by simp
          go_wp2
          go_quiet (fail)
          go_wp2
          go_roundw
          case rel =>
            refine ⟨k + 1, d + nq, by omega, by go_num, ?_, by show _ = _; rw [hW.out, World.drewN_drewN]⟩
            show _ = _
            rw [show t + 1 + k - (k + 1) = t by omega]
            exact drop_back Hll.out (by rw [Hul.out]; omega) HD.out (by rw [Hxe.out, Hye.out])
          case measure => simp [intOf]; omega
        · have ht : ((x : Int) != (y : Int)) = true := by simp; omega
          have hs := sgn_top hN.lim hN2.lim (by rw [Hul.out]; omega) Hll.out HD.out Hxe.out Hye.out hxy
          have Hs := Lib.hid hs
          clear hs hxy
          go_wp2
          go_quiet (fail)
          go_wp2
          go_quiet ((go_at_call 87; first | exact quiet_add_left (cmpU_any _ _ _) | exact quiet_left (cmpU_any _ _ _)))
          go_wp2
          go_ret
          refine ⟨?_, ?_⟩
          · show Ending.returned (.int .i64 (sgn (x : Int) (y : Int))) = _
            rw [Hs.out]
          · rw [hW.out]; exact ⟨_, by rw [World.drewN_drewN, World.drewN_drewN]⟩
      · have hkm : k = m := by omega
        have hz : us = vs := by
          have := hD.out
          rw [hkm, Nat.sub_self] at this
          simpa using this
        have Hz := Lib.hid hz
        clear hz hkm
        go_wp2
        go_ret
        refine ⟨?_, d, hW.out⟩
        show Ending.returned (.int .i64 0) = _
        rw [Hz.out, sgn_eq]
  · have hne : ((m : Int) != (m2 : Int)) = true := by simp; omega
    have hs := sgn_len hN.lim hN2.lim tx ty (by rw [hN.len, hN2.len]; exact he)
    rw [hN.len, hN2.len] at hs
    have Hs := Lib.hid hs
    clear hs he
    go_enter Tryz.func26, Tryz.ntmps26
    go_wp2_with (first
      | (go_at_call_of 82 (Value.slice A n c); refine Hc.out.mono ?_; rintro e w' ⟨rfl, rfl⟩)
      | (go_at_call_of 82 (Value.slice A2 n2 c2); refine Hc2.out.mono ?_; rintro e w' ⟨rfl, rfl⟩)
      | (go_at_call 86; refine (cmpI_any _ _ _).mono ?_; rintro e w' ⟨rfl, rfl⟩))
    go_ret
    refine ⟨?_, 0, rfl⟩
    show Ending.returned (.int .i64 (sgn (m : Int) (m2 : Int))) = _
    rw [Hs.out]

end Go.Proofs.YtkhlmcknbangfaaGreatDoor
