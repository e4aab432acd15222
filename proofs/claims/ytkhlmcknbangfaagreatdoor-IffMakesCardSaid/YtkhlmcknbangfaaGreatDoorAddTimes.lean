/- nat.addTimes: u is raised by b times a digit; the digit that leaves it is handed back. -/
import Derived.Test.YtkhlmcknbangfaaGreatDoorMul64
namespace Go.Proofs.YtkhlmcknbangfaaGreatDoor
set_option linter.unusedSimpArgs false
set_option linter.unusedVariables false
open Go.RowKit
set_option linter.unusedVariables false

theorem mul_dig {x y : Nat} : mlo x y + mhi x y * 18446744073709551616 = x * y := by
  unfold mlo mhi
  have := Nat.mod_add_div (x * y) 18446744073709551616
  rw [Nat.mul_comm (x * y / 18446744073709551616)]
  exact this
theorem mlo_lt (x y : Nat) : mlo x y < 18446744073709551616 := by unfold mlo; omega
theorem prod_le {x y : Nat} (hx : x < 18446744073709551616) (hy : y < 18446744073709551616) : ∃ p, x * y = p ∧ p ≤ 340282366920938463426481119284349108225 :=
  ⟨_, rfl, Nat.le_trans (Nat.mul_le_mul (show x ≤ 18446744073709551615 by omega) (show y ≤ 18446744073709551615 by omega)) (by decide)⟩
theorem mhi_lt {x y : Nat} (hx : x < 18446744073709551616) (hy : y < 18446744073709551616) : mhi x y < 18446744073709551615 := by
  obtain ⟨p, hp, hl⟩ := prod_le hx hy
  unfold mhi
  rw [hp]
  omega
/-- u + y * d + over, in two digits -/
theorem times_sum (u y d ov : Nat) : sm (sm u (mlo y d) 0) ov 0 + (mhi y d + cr u (mlo y d) 0 + cr (sm u (mlo y d) 0) ov 0) * 18446744073709551616 = u + y * d + ov :=
  sum_in_two _ _ _ _ _ _ _ _ _ _ (sm_cr u (mlo y d) 0) (sm_cr (sm u (mlo y d) 0) ov 0) mul_dig
theorem times_top {u y d ov : Nat} (hu : u < 18446744073709551616) (hy : y < 18446744073709551616) (hd : d < 18446744073709551616) (ho : ov < 18446744073709551616) :
    mhi y d + cr u (mlo y d) 0 + cr (sm u (mlo y d) 0) ov 0 < 18446744073709551616 := by
  obtain ⟨p, hp, hl⟩ := prod_le hy hd
  exact top_of_sum _ _ _ _ _ (times_sum u y d ov) hu ho (hp ▸ hl)

/-- what addTimes leaves -/
def AddTimes (g : Nat) (pre U bs post : List Nat) (d : Nat) (w : World) (e : Ending) (w' : World) : Prop :=
  ∃ (U' : List Nat) (k : Nat), e = .returned (.int .u64 (k : Int)) ∧ Ow w' g (pre ++ U' ++ post) ∧ U'.length = U.length ∧ Lim 18446744073709551616 U' ∧ k < 18446744073709551616 ∧
    val 18446744073709551616 U' + k * 18446744073709551616 ^ U.length = val 18446744073709551616 U + d * val 18446744073709551616 bs ∧ w.grownBy w' (some g)

theorem addTimes_step {w wr : World} {g n : Nat} {pre U bs post done : List Nat} {x y d ov : Nat} (hl : done.length < U.length) (hn : n = U.length) (hov : ov < 18446744073709551616) (hd : d < 18446744073709551616) (hlim : Lim 18446744073709551616 done)
    (hxl : x < 18446744073709551616) (hyl : y < 18446744073709551616) (hy : bs.getD done.length 0 = y)
    (how : Ow wr g (pre ++ (done ++ x :: U.drop (done.length + 1)) ++ post)) (hgr : w.grownBy wr (some g)) (hx : U[done.length] = x)
    (hV : val 18446744073709551616 done + ov * 18446744073709551616 ^ done.length = val 18446744073709551616 (U.take done.length) + d * val 18446744073709551616 (bs.take done.length)) :
    ∃ (done' : List Nat) (ov' : Nat), done'.length ≤ n ∧ Value.int .i64 ((done.length : Int) + 1) = .int .i64 done'.length ∧ Value.int .u64 ((mhi y d : Int) + (cr x (mlo y d) 0 : Int) + (cr (sm x (mlo y d) 0) ov 0 : Int)) = .int .u64 (ov' : Int) ∧ ov' < 18446744073709551616 ∧ Lim 18446744073709551616 done' ∧
      Ow (wr.setCell ⟨g, pre.length + done.length, none⟩ (.int .u64 ((sm (sm x (mlo y d) 0) ov 0 : Nat) : Int))) g (pre ++ (done' ++ U.drop done'.length) ++ post) ∧ w.grownBy (wr.setCell ⟨g, pre.length + done.length, none⟩ (.int .u64 ((sm (sm x (mlo y d) 0) ov 0 : Nat) : Int))) (some g) ∧
      Hid (val 18446744073709551616 done' + ov' * 18446744073709551616 ^ done'.length = val 18446744073709551616 (U.take done'.length) + d * val 18446744073709551616 (bs.take done'.length)) := by
  have hxg : U.getD done.length 0 = x := by simp [List.getD, List.getElem?_eq_getElem hl, hx]
  refine ⟨done ++ [sm (sm x (mlo y d) 0) ov 0], mhi y d + cr x (mlo y d) 0 + cr (sm x (mlo y d) 0) ov 0, by simp; omega, by simp, by simp, times_top hxl hyl hd hov, hlim.append (Lim.one (sm_lt _ _ _)), ?_, only_setCell hgr (.inl rfl) _, ?_⟩
  · have := how.set_ (pre.length + done.length) (sm (sm x (mlo y d) 0) ov 0)
    rw [set_mid] at this
    simpa using this
  · show _ = _
    rw [List.length_append, List.length_singleton, val_snoc, val_take_succ, val_take_succ, hxg, hy, Nat.pow_succ]
    exact times_step _ _ _ _ _ _ _ _ _ _ _ (times_sum x y d ov) hV

set_option maxHeartbeats 1000000 in
theorem addTimes_any {w : World} {B g n c bn bc d : Nat} {A bA : Option Addr} {pre U post bs : List Nat} (ho : Ow w g (pre ++ U ++ post)) (hA : 0 < n → A = some ⟨g, pre.length, none⟩) (hn : n = U.length)
    (hc : n ≤ c) (hc' : c ≤ maxLen) (hU : Lim 18446744073709551616 U) (hb : Nt w B bA bn bc bs) (hBg : B ≤ g) (hle : bn = n) (hd : d < 18446744073709551616) :
    Calls Tryz.prog 89 #[.slice A n c, .slice bA bn bc, .int .u64 (d : Int)] w (AddTimes g pre U bs post d w) := by
  have hg := ho.lt
  subst hle
  unfold maxLen at hc'
  have Hn := Lib.hid hn
  clear hn
  go_enter Tryz.func89, Tryz.ntmps89
  go_wp2
  go_loopw [7, 15] (fun cv i wr => ∃ (done : List Nat) (ov : Nat), done.length ≤ bn ∧ i = .int .i64 done.length ∧ cv = .int .u64 (ov : Int) ∧ ov < 18446744073709551616 ∧ Lim 18446744073709551616 done ∧
      Ow wr g (pre ++ (done ++ U.drop done.length) ++ post) ∧ w.grownBy wr (some g) ∧
      Hid (val 18446744073709551616 done + ov * 18446744073709551616 ^ done.length = val 18446744073709551616 (U.take done.length) + d * val 18446744073709551616 (bs.take done.length)))
    (fun _ i _ => bn - (intOf i).toNat)
  case atStart => exact ⟨[], 0, Nat.zero_le _, rfl, rfl, by omega, Lim.nil _, by simpa using ho, World.grownBy.refl w _, by simp [Hid, val]⟩
  case round =>
    obtain ⟨done, ov, hdn, rfl, rfl, hov, hlim, how, hgr, hV⟩ := hrel
    by_cases hlt : done.length < bn
    · obtain rfl := hA (by omega)
      have hl : done.length < U.length := by have := Hn.out; omega
      have how' : Ow wr g (pre ++ (done ++ U[done.length] :: U.drop (done.length + 1)) ++ post) := by rw [← List.drop_eq_getElem_cons hl]; exact how
      have hx : wr.cell? ⟨g, pre.length + done.length, none⟩ = some (.int .u64 ((U[done.length] : Nat) : Int)) := how'.cell (get_mid _ _ _ _ _)
      have hf : wr.frozen? ⟨g, pre.length + done.length, none⟩ = false := how.frozen _
      obtain ⟨b, off, rfl, hbB, hby⟩ := (hb.only hgr hBg (by omega)).at_ hlt
      have hyl := hb.lim.get (by omega) done.length
      have hxl : U[done.length] < 18446744073709551616 := hU _ (List.getElem_mem hl)
      generalize hxe : U[done.length] = x at *
      generalize hye : bs.getD done.length 0 = y at *
      have Hxe := Lib.hid hxe
      have Hye := Lib.hid hye
      clear hxe how hye
      have t1 := mhi_lt hyl hd
      have t2 := cr_le hxl (mlo_lt y d) (Nat.zero_le 1)
      have t3 := times_top hxl hyl hd hov
      go_wp2_with (go_at_call 142; refine (mul64_any _ _ hyl hd _).mono ?_; rintro e w' ⟨rfl, rfl⟩)
      go_roundw
      case rel => exact addTimes_step hl Hn.out hov hd hlim hxl hyl Hye.out how' hgr Hxe.out hV.out
      case measure => simp [intOf]; omega
    · have hd' : bn ≤ done.length := by omega
      go_wp2
      go_ret
      have e : done.length = U.length := by have := Hn.out; omega
      refine ⟨done, ov, rfl, ?_, e, hlim, hov, ?_, hgr⟩
      · simpa [e] using how
      · have := hV.out
        rw [e, List.take_length, List.take_of_length_le (by have := hb.len; have := Hn.out; omega)] at this
        exact this
end Go.Proofs.YtkhlmcknbangfaaGreatDoor
