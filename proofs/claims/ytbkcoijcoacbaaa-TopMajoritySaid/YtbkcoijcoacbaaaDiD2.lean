/- disc: what an offset tells of the rate. -/
import Derived.Test.YtbkcoijcoacbaaaDiD1
namespace Go.Proofs.Ytbkcoijcoacbaaa.Di
open Go.RowKit
set_option linter.unusedVariables false
set_option linter.unusedSimpArgs false
set_option maxRecDepth 100000
theorem box_new {w w1 : World} {c : Ck} (h : w1 = w.alloc (.cells #[.int .i64 c.f, .int .i64 c.l, .int .i64 c.a, .int .i64 c.p, .bool c.s] 45)) : Box w1 w.heap.size c := by rw [h]; exact World.alloc_heap_new w _
/-- a poll's time constant -/
def tc (p : Int) : Int := 16 * 2 ^ p.toNat
theorem tc_lim {p : Int} (h : 0 ≤ p) (h2 : p ≤ 17) : 16 ≤ tc p ∧ tc p ≤ 2097152 := by
  obtain ⟨n, rfl⟩ : ∃ n : Nat, p = (n : Int) := ⟨p.toNat, by omega⟩
  unfold tc
  rw [Int.toNat_natCast]
  have hn : n ≤ 17 := by omega
  have : ∀ n : Fin 18, (16 : Int) ≤ 16 * 2 ^ n.val ∧ (16 : Int) * 2 ^ n.val ≤ 2097152 := by decide +kernel
  exact this ⟨n, by omega⟩
def secs (a at' p : Int) : Int := min ((at' - a) / 4294967296) (tc p)
def drift (c : Ck) (off at' : Int) : Int := ((off * secs c.a at' c.p).tdiv (tc c.p)).tdiv (tc c.p)
theorem wrap64_eq {x : Int} (h : -9223372036854775808 ≤ x) (h2 : x ≤ 9223372036854775807) : wrap64 x = x := by
  unfold wrap64
  omega
theorem shift_w {p : Int} (h : 0 ≤ p) (h2 : p ≤ 17) : wrap64 (16 * 2 ^ p.toNat) = tc p := by
  have := tc_lim h h2
  exact wrap64_eq (by unfold tc at this; omega) (by unfold tc at this; omega)
theorem tdiv_lim {x t B : Int} (h : -B ≤ x) (h2 : x ≤ B) (ht : 1 ≤ t) : -B ≤ x.tdiv t ∧ x.tdiv t ≤ B := by
  have h1 : x.tdiv t ≤ x.natAbs := by
    have := Int.natAbs_tdiv_le_natAbs x t
    omega
  have h3 : -(x.natAbs : Int) ≤ x.tdiv t := by
    have := Int.natAbs_tdiv_le_natAbs x t
    omega
  omega
theorem prod_lim {off s : Int} (ho : inB 549755814 off) (h0 : 0 ≤ s) (h1 : s ≤ 2097152) : -1152921504606846976 ≤ off * s ∧ off * s ≤ 1152921504606846976 := by
  unfold inB at ho
  have a : off * s ≤ 549755814 * s := Int.mul_le_mul_of_nonneg_right ho.2 h0
  have b : -549755814 * s ≤ off * s := Int.mul_le_mul_of_nonneg_right ho.1 h0
  omega
theorem drift_lim {off s t : Int} (ho : inB 549755814 off) (h0 : 0 ≤ s) (h1 : s ≤ 2097152) (ht : 1 ≤ t) : -1152921504606846976 ≤ ((off * s).tdiv t).tdiv t ∧ ((off * s).tdiv t).tdiv t ≤ 1152921504606846976 := by
  have a := prod_lim ho h0 h1
  have b := tdiv_lim (B := 1152921504606846976) a.1 a.2 ht
  exact tdiv_lim b.1 b.2 ht
set_option maxHeartbeats 1000000 in
theorem drift_any (c : Ck) (off at' : Int) (hm : c.may) (ho : inB 549755814 off) (ha : c.a ≤ at') (ha2 : inB 1152921504606846976 at') (w : World) :
    Calls Try.prog 34 #[c.val, .int .i64 off, .int .i64 at'] w fun e w' => e = .returned (.int .i64 (drift c off at')) ∧ w' = w.alloc (.cells #[.int .i64 c.f, .int .i64 c.l, .int .i64 c.a, .int .i64 c.p, .bool c.s] 45) := by
  obtain ⟨w1, hw1⟩ : ∃ w1, w1 = w.alloc (.cells #[.int .i64 c.f, .int .i64 c.l, .int .i64 c.a, .int .i64 c.p, .bool c.s] 45) := ⟨_, rfl⟩
  have x1 := box_new hw1
  obtain ⟨c0, c1, c2, c3, c4⟩ := x1.cells
  have HW := Lib.hid hw1
  clear hw1 x1
  unfold Ck.val
  have HM := Lib.hid hm
  have h1 := hm.2.2.1
  have h3 := hm.2.2.2
  unfold inB at h1 ha2
  clear hm
  have hsh := shift_w h3.1 h3.2
  have ht := tc_lim h3.1 h3.2
  have HD := Lib.hid (show drift c off at' = ((off * min ((at' - c.a) / 4294967296) (tc c.p)).tdiv (tc c.p)).tdiv (tc c.p) from rfl)
  obtain ⟨d, hd⟩ : ∃ d, d = drift c off at' := ⟨_, rfl⟩
  rw [← hd] at HD ⊢
  clear hd
  obtain ⟨t, e⟩ : ∃ t, t = tc c.p := ⟨_, rfl⟩
  rw [← e] at hsh ht HD
  clear e
  obtain ⟨s, hs⟩ : ∃ s, s = min ((at' - c.a) / 4294967296) t := ⟨_, rfl⟩
  rw [← hs] at HD
  have hs0 : 0 ≤ s := by omega
  have hs1 : s ≤ 2097152 := by omega
  have hp := prod_lim ho hs0 hs1
  have hp1 := tdiv_lim (B := 1152921504606846976) (t := t) hp.1 hp.2 (by omega)
  have hp2 := tdiv_lim (B := 1152921504606846976) (t := t) hp1.1 hp1.2 (by omega)
  have k1 : wrap64 (off * s) = off * s := wrap64_eq (by omega) (by omega)
  have k2 : wrap64 ((off * s).tdiv t) = (off * s).tdiv t := wrap64_eq (by omega) (by omega)
  have k3 : wrap64 (((off * s).tdiv t).tdiv t) = d := by rw [HD.out]; exact wrap64_eq (by omega) (by omega)
  have HO := Lib.hid ho
  clear hp hp1 hp2 ho
  have ht0 : (t = 0) = False := by simp only [eq_iff_iff, iff_false]; omega
  by_cases hc : t < (at' - c.a) / 4294967296
  · have es : s = t := by omega
    subst es
    clear hs
    have e1 : (off * s).tdiv s = off := Int.mul_tdiv_cancel _ (by omega)
    rw [e1] at k2 k3
    clear e1
    go_enter Try.func34, Try.ntmps34
    go_upto_region 1 with fail
    rw [← HW.out]
    go_wp2_with fail
    go_ret
    refine ⟨?_, HW.out⟩
    first | rfl | (show Ending.returned (.int .i64 (wrap64 (off.tdiv s))) = _; rw [k3])
  · have es : s = (at' - c.a) / 4294967296 := by omega
    subst es
    clear hs
    have hc' : (t < (at' - c.a) / 4294967296) = False := by simp only [hc]
    go_enter Try.func34, Try.ntmps34
    go_upto_region 1 with fail
    rw [← HW.out]
    go_wp2_with fail
    go_ret
    exact ⟨rfl, HW.out⟩
end Go.Proofs.Ytbkcoijcoacbaaa.Di
