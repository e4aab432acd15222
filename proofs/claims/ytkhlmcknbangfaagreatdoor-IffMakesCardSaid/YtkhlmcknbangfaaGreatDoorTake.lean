/- nat.takeTimes: v times a digit is taken from u; what is borrowed above u is handed back. -/
import Derived.Test.YtkhlmcknbangfaaGreatDoorAddTimes
namespace Go.Proofs.YtkhlmcknbangfaaGreatDoor
set_option linter.unusedSimpArgs false
set_option linter.unusedVariables false
open Go.RowKit
set_option linter.unusedVariables false

theorem take_low {y d ov : Nat} : sm (mlo y d) ov 0 + (mhi y d + cr (mlo y d) ov 0) * 18446744073709551616 = y * d + ov :=
  low_in_two _ _ _ _ _ _ _ (sm_cr (mlo y d) ov 0) mul_dig
theorem take_top {y d ov : Nat} (hy : y < 18446744073709551616) (hd : d < 18446744073709551616) (ho : ov < 18446744073709551616) : mhi y d + cr (mlo y d) ov 0 < 18446744073709551616 := by
  obtain ⟨p, hp, hl⟩ := prod_le hy hd
  have h : sm (mlo y d) ov 0 + (mhi y d + cr (mlo y d) ov 0) * 18446744073709551616 = 0 + y * d + ov := by rw [Nat.zero_add]; exact take_low
  exact top_of_sum _ _ _ _ _ h (by decide) ho (hp ▸ hl)
/-- what takeTimes leaves -/
def TakeTimes (g : Nat) (pre U vs post : List Nat) (d : Nat) (w : World) (e : Ending) (w' : World) : Prop :=
  ∃ (U' : List Nat) (k : Nat), e = .returned (.int .u64 (k : Int)) ∧ Ow w' g (pre ++ U' ++ post) ∧ U'.length = U.length ∧ Lim 18446744073709551616 U' ∧ k ≤ 1 ∧
    val 18446744073709551616 U' + d * val 18446744073709551616 vs = val 18446744073709551616 U + k * 18446744073709551616 ^ U.length ∧ w.grownBy w' (some g)

theorem takeTimes_step {w wr : World} {g n : Nat} {pre U vs post done : List Nat} {x y d ov b : Nat} (hl : done.length < U.length) (hn : done.length < n) (hov : ov < 18446744073709551616) (hb : b ≤ 1) (hd : d < 18446744073709551616) (hlim : Lim 18446744073709551616 done)
    (hxl : x < 18446744073709551616) (hyl : y < 18446744073709551616) (hy : vs.getD done.length 0 = y)
    (how : Ow wr g (pre ++ (done ++ x :: U.drop (done.length + 1)) ++ post)) (hgr : w.grownBy wr (some g)) (hx : U[done.length] = x)
    (hV : val 18446744073709551616 done + d * val 18446744073709551616 (vs.take done.length) = val 18446744073709551616 (U.take done.length) + (b + ov) * 18446744073709551616 ^ done.length) :
    ∃ (done' : List Nat) (ov' b' : Nat), done'.length ≤ n ∧ Value.int .i64 ((done.length : Int) + 1) = .int .i64 done'.length ∧ Value.int .u64 ((mhi y d : Int) + (cr (mlo y d) ov 0 : Int)) = .int .u64 (ov' : Int) ∧
      Value.int .u64 ((bo x (sm (mlo y d) ov 0) b : Nat) : Int) = .int .u64 (b' : Int) ∧ ov' < 18446744073709551616 ∧ b' ≤ 1 ∧ Lim 18446744073709551616 done' ∧
      Ow (wr.setCell ⟨g, pre.length + done.length, none⟩ (.int .u64 ((df x (sm (mlo y d) ov 0) b : Nat) : Int))) g (pre ++ (done' ++ U.drop done'.length) ++ post) ∧ w.grownBy (wr.setCell ⟨g, pre.length + done.length, none⟩ (.int .u64 ((df x (sm (mlo y d) ov 0) b : Nat) : Int))) (some g) ∧
      Hid (val 18446744073709551616 done' + d * val 18446744073709551616 (vs.take done'.length) = val 18446744073709551616 (U.take done'.length) + (b' + ov') * 18446744073709551616 ^ done'.length) := by
  have hxg : U.getD done.length 0 = x := by simp [List.getD, List.getElem?_eq_getElem hl, hx]
  refine ⟨done ++ [df x (sm (mlo y d) ov 0) b], mhi y d + cr (mlo y d) ov 0, bo x (sm (mlo y d) ov 0) b, by simp; omega, by simp, by simp, rfl, take_top hyl hd hov, bo_le _ _ _, hlim.append (Lim.one (df_lt _ _ _)), ?_, only_setCell hgr (.inl rfl) _, ?_⟩
  · have := how.set_ (pre.length + done.length) (df x (sm (mlo y d) ov 0) b)
    rw [set_mid] at this
    simpa using this
  · show _ = _
    rw [List.length_append, List.length_singleton, val_snoc, val_take_succ, val_take_succ, hxg, hy, Nat.pow_succ]
    exact takes_step _ _ _ _ _ _ _ _ _ _ _ _ _ _ (df_bo hxl (sm_lt _ _ _) hb) take_low hV

theorem takeTimes_end {w wr : World} {g : Nat} {pre U vs post done : List Nat} {x d ov b : Nat} (hl : done.length + 1 = U.length) (hvs : vs.length = done.length) (hov : ov < 18446744073709551616) (hb : b ≤ 1) (hlim : Lim 18446744073709551616 done)
    (hxl : x < 18446744073709551616)
    (how : Ow wr g (pre ++ (done ++ x :: U.drop (done.length + 1)) ++ post)) (hgr : w.grownBy wr (some g)) (hx : U.getD done.length 0 = x)
    (hV : val 18446744073709551616 done + d * val 18446744073709551616 (vs.take done.length) = val 18446744073709551616 (U.take done.length) + (b + ov) * 18446744073709551616 ^ done.length) :
    TakeTimes g pre U vs post d w (.returned (.int .u64 ((bo x ov b : Nat) : Int))) (wr.setCell ⟨g, pre.length + done.length, none⟩ (.int .u64 ((df x ov b : Nat) : Int))) := by
  refine ⟨done ++ [df x ov b], bo x ov b, rfl, ?_, by simp [hl], hlim.append (Lim.one (df_lt _ _ _)), bo_le _ _ _, ?_, only_setCell hgr (.inl rfl) _⟩
  · have := how.set_ (pre.length + done.length) (df x ov b)
    rw [set_mid, show U.drop (done.length + 1) = [] from List.drop_eq_nil_of_le (by omega)] at this
    simpa using this
  · have e := val_take_succ 18446744073709551616 U done.length
    rw [List.take_of_length_le (by omega), hx] at e
    rw [List.take_of_length_le (l := vs) (by omega)] at hV
    rw [val_snoc, e, ← hl, Nat.pow_succ]
    have h1 := df_bo hxl hov hb
    have f : 18446744073709551616 ^ done.length * (df x ov b + ov + b) = 18446744073709551616 ^ done.length * (x + bo x ov b * 18446744073709551616) := by rw [h1]
    simp only [Nat.mul_add, Nat.add_mul] at f hV ⊢
    have f1 : 18446744073709551616 ^ done.length * (bo x ov b * 18446744073709551616) = bo x ov b * (18446744073709551616 ^ done.length * 18446744073709551616) := by ac_rfl
    have f2 : 18446744073709551616 ^ done.length * b = b * 18446744073709551616 ^ done.length := Nat.mul_comm _ _
    have f3 : 18446744073709551616 ^ done.length * ov = ov * 18446744073709551616 ^ done.length := Nat.mul_comm _ _
    omega

set_option maxHeartbeats 1000000 in
theorem takeTimes_any {w : World} {B g n c bn bc d : Nat} {A bA : Option Addr} {pre U post vs : List Nat} (ho : Ow w g (pre ++ U ++ post)) (hA : A = some ⟨g, pre.length, none⟩) (hn : n = U.length)
    (hc : n ≤ c) (hc' : c ≤ maxLen) (hU : Lim 18446744073709551616 U) (hb : Nt w B bA bn bc vs) (hBg : B ≤ g) (hle : n = bn + 1) (hd : d < 18446744073709551616) :
    Calls Tryz.prog 174 #[.slice A n c, .slice bA bn bc, .int .u64 (d : Int)] w (TakeTimes g pre U vs post d w) := by
  have hg := ho.lt
  subst hA
  subst hle
  unfold maxLen at hc'
  have Hn := Lib.hid hn
  clear hn
  go_enter Tryz.func174, Tryz.ntmps174
  go_wp2
  go_loopw [7, 8, 16] (fun cv bv i wr => ∃ (done : List Nat) (ov bb : Nat), done.length ≤ bn ∧ i = .int .i64 done.length ∧ cv = .int .u64 (ov : Int) ∧ bv = .int .u64 (bb : Int) ∧ ov < 18446744073709551616 ∧ bb ≤ 1 ∧ Lim 18446744073709551616 done ∧
      Ow wr g (pre ++ (done ++ U.drop done.length) ++ post) ∧ w.grownBy wr (some g) ∧
      Hid (val 18446744073709551616 done + d * val 18446744073709551616 (vs.take done.length) = val 18446744073709551616 (U.take done.length) + (bb + ov) * 18446744073709551616 ^ done.length))
    (fun _ _ i _ => bn - (intOf i).toNat)
  case atStart => exact ⟨[], 0, 0, Nat.zero_le _, rfl, rfl, rfl, by omega, by omega, Lim.nil _, by simpa using ho, World.grownBy.refl w _, by simp [Hid, val]⟩
  case round =>
    obtain ⟨done, ov, bb, hdn, rfl, rfl, rfl, hov, hbb, hlim, how, hgr, hV⟩ := hrel
    have hl : done.length < U.length := by have := Hn.out; omega
    have how' : Ow wr g (pre ++ (done ++ U[done.length] :: U.drop (done.length + 1)) ++ post) := by rw [← List.drop_eq_getElem_cons hl]; exact how
    have hx : wr.cell? ⟨g, pre.length + done.length, none⟩ = some (.int .u64 ((U[done.length] : Nat) : Int)) := how'.cell (get_mid _ _ _ _ _)
    have hf : wr.frozen? ⟨g, pre.length + done.length, none⟩ = false := how.frozen _
    have hxl : U[done.length] < 18446744073709551616 := hU _ (List.getElem_mem hl)
    have hxg : U.getD done.length 0 = U[done.length] := by simp [List.getD, List.getElem?_eq_getElem hl]
    generalize hxe : U[done.length] = x at *
    have Hxe := Lib.hid hxe
    have Hxg := Lib.hid hxg
    clear hxe how hxg
    by_cases hlt : done.length < bn
    · obtain ⟨b, off, rfl, hbB, hby⟩ := (hb.only hgr hBg (by omega)).at_ hlt
      have hyl := hb.lim.get (by omega) done.length
      generalize hye : vs.getD done.length 0 = y at *
      have Hye := Lib.hid hye
      clear hye
      have t3 := take_top hyl hd hov
      go_wp2_with (go_at_call 142; refine (mul64_any _ _ hyl hd _).mono ?_; rintro e w' ⟨rfl, rfl⟩)
      go_roundw
      case rel => exact takeTimes_step hl hlt hov hbb hd hlim hxl hyl Hye.out how' hgr Hxe.out hV.out
      case measure => simp [intOf]; omega
    · obtain rfl : bn = done.length := by omega
      go_wp2
      go_ret
      exact takeTimes_end (by have := Hn.out; omega) hb.len hov hbb hlim hxl how' hgr Hxg.out hV.out
end Go.Proofs.YtkhlmcknbangfaaGreatDoor
