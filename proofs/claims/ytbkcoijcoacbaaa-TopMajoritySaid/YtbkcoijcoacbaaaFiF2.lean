/- filter: how much a sample has aged, its distance; comparing. -/
import Derived.Test.YtbkcoijcoacbaaaFiF1
import Derived.Shelf.SlSortCmp.QuietGrown
namespace Go.Proofs.Ytbkcoijcoacbaaa.Fi
open Go.RowKit Go.Sort
set_option linter.unusedVariables false
set_option linter.unusedSimpArgs false
set_option maxRecDepth 100000

def agedI (a now : Int) : Int := max (clamp now 1152921504606846976 - a) 0 / 65536
def S4.dist (now : Int) (s : S4) : Int := if s.may then s.d / 2 + s.p + agedI s.a now else -1
theorem clamp_lim (n : Int) : -1152921504606846976 ≤ clamp n 1152921504606846976 ∧ clamp n 1152921504606846976 ≤ 1152921504606846976 := by
  unfold clamp; omega
theorem aged_lim {a now : Int} (h : inB a) : 0 ≤ agedI a now ∧ agedI a now ≤ 35184372088832 := by
  have := clamp_lim now
  unfold inB at h
  unfold agedI
  omega
/-- a call that reads, may draw and may lay blocks of its own -/
def GrowB (w w' : World) : Prop := ∃ n os, w' = grow (w.drewN n) os
set_option maxHeartbeats 1000000 in
theorem aged_any (s : S4) (now : Int) (h : inB s.a) (w : World) :
    Calls Try.prog 65 #[s.val, .int .i64 now] w fun e w' => e = .returned (.int .i64 (agedI s.a now)) ∧ ∃ q os', w' = grow (w.drewN q) os' := by
  obtain ⟨w1, hw1⟩ : ∃ w1, w1 = w.alloc (.cells #[.int .i64 s.o, .int .i64 s.d, .int .i64 s.p, .int .i64 s.a] 34) := ⟨_, rfl⟩
  have x1 : Box w1 w.heap.size s := by rw [hw1]; exact World.alloc_heap_new w _
  obtain ⟨c0, c1, c2, c3⟩ := x1.cells
  have HW := Lib.hid hw1
  have hl := clamp_lim now
  have HC := Lib.hid (show agedI s.a now = max (clamp now 1152921504606846976 - s.a) 0 / 65536 from rfl)
  have CW := Lib.hid (fun w => within_any now 1152921504606846976 (by omega) (by omega) w)
  unfold inB at h
  clear hw1 x1
  unfold S4.val
  generalize clamp now 1152921504606846976 = m at *
  generalize s.a = a at *
  go_enter Try.func65, Try.ntmps65
  go_upto_region 1 with fail
  rw [← HW.out]
  go_quiet ((go_at_call 61; exact Calls.quiet_of_same (CW.out _)))
  all_goals go_wp2_with fail
  all_goals go_ret
  all_goals (
  refine ⟨?_, nq, _, by rw [HW.out, alloc_eq_grow]; rfl⟩
  rw [HC.out]
  have hg : ∀ x : Int, x = max (m - a) 0 / 65536 → Ending.returned (Value.int .i64 x) = Ending.returned (Value.int .i64 (max (m - a) 0 / 65536)) := fun x hx => by rw [hx]
  refine hg _ ?_
  omega)
theorem wr_i64 {n : Int} (h0 : -9223372036854775808 ≤ n) (h1 : n ≤ 9223372036854775807) : IntKind.i64.wrap n = n := by rw [IntKind.wrap_i64]; omega
theorem dist_wrap {d p m : Int} (hd : 0 ≤ d) (hd2 : d ≤ 1152921504606846976) (hp : 0 ≤ p) (hp2 : p ≤ 1152921504606846976) (hm : 0 ≤ m) (hm2 : m ≤ 35184372088832) :
    IntKind.i64.wrap (IntKind.i64.wrap (IntKind.i64.wrap (d.tdiv 2) + p) + m) = d / 2 + p + m := by
  rw [Int.tdiv_eq_ediv_of_nonneg hd, wr_i64 (n := d / 2) (by omega) (by omega), wr_i64 (n := d / 2 + p) (by omega) (by omega), wr_i64 (by omega) (by omega)]
theorem may_grow (s : S4) (w : World) :
    Calls Try.prog 24 #[s.val] w fun e w' => e = .returned (.bool (decide s.may)) ∧ ∃ q os', w' = grow (w.drewN q) os' := by
  refine (may_any s w).mono ?_
  rintro e w1 ⟨rfl, rfl⟩
  exact ⟨rfl, 0, _, by rw [alloc_eq_grow]; rfl⟩
theorem Box.grown {w : World} {g : Nat} {s : S4} (h : Box w g s) (n : Nat) (os : Array Obj) : Box (grow (w.drewN n) os) g s := by
  have h' : w.heap[g]? = _ := h
  show (grow (w.drewN n) os).heap[g]? = _
  rw [heap_grow_old (w.drewN n) os h.lt]
  exact h'
set_option maxHeartbeats 2000000 in
theorem dist_any (s : S4) (now : Int) (w : World) :
    Calls Try.prog 48 #[s.val, .int .i64 now] w fun e w' => e = .returned (.int .i64 (s.dist now)) ∧ ∃ q os', w' = grow (w.drewN q) os' := by
  obtain ⟨w1, hw1⟩ : ∃ w1, w1 = w.alloc (.cells #[.int .i64 s.o, .int .i64 s.d, .int .i64 s.p, .int .i64 s.a] 34) := ⟨_, rfl⟩
  have x1 : Box w1 w.heap.size s := by rw [hw1]; exact World.alloc_heap_new w _
  have HX := Lib.hid x1
  obtain ⟨c0, c1, c2, c3⟩ := x1.cells
  have HW := Lib.hid hw1
  have HM := Lib.hid (fun w => may_any s w)
  clear hw1 x1
  by_cases hm : s.may
  · have hd : s.dist now = s.d / 2 + s.p + agedI s.a now := by unfold S4.dist; rw [if_pos hm]
    rw [hd, ]
    have hl := aged_lim (now := now) hm.2.1
    have HA := Lib.hid (fun w => aged_any s now hm.2.1 w)
    have hb1 := hm.2.2.1
    have hb2 := hm.2.2.2.1
    have hb3 := hm.2.2.2.2.1
    have hb4 := hm.2.2.2.2.2
    unfold inB at hb1 hb3
    rw [decide_eq_true hm] at HM
    clear hm hd
    unfold S4.val at HA HM ⊢
    obtain ⟨o, d, p, a⟩ := s
    dsimp only at *
    have HXc := Lib.hid (fun (w2 : World) (x2 : Box w2 w.heap.size ⟨o, d, p, a⟩) (n : Nat) (os : Array Obj) => (x2.grown n os).cells)
    dsimp only at HXc
    generalize agedI a now = m at *
    go_enter Try.func48, Try.ntmps48
    go_upto_region 1 with fail
    rw [← HW.out]
    go_upto_region 3 with (go_at_call 24; refine (HM.out _).mono ?_; rintro e w2 ⟨rfl, hw2⟩; have HW2 := Lib.hid hw2; clear hw2)
    have x2 : Box w2 w.heap.size ⟨o, d, p, a⟩ := by rw [HW2.out, alloc_eq_grow]; exact HX.out.grown 0 _
    have hx := HXc.out w2 x2
    have d0 := fun n os => (hx n os).1
    have d1 := fun n os => (hx n os).2.1
    have d2 := fun n os => (hx n os).2.2.1
    have d3 := fun n os => (hx n os).2.2.2
    clear hx x2
    have mixed : Try.prog.follows .mixedOrders = true := by kernel_rfl
    go_quiet_grown ((go_at_call 65; exact Calls.grown_of (HA.out _)))
    all_goals go_wp2_with fail
    all_goals go_ret
    have hv := dist_wrap hb2 hb1.2 hb4 hb3.2 hl.1 hl.2
    refine ⟨by rw [← hv]; rfl, nq, #[_, _] ++ osq, by rw [HW2.out, HW.out, alloc_eq_grow, alloc_eq_grow, grow_grow]; show grow (grow (w.drewN nq) _) osq = _; rw [grow_grow]; rfl⟩
  · have hd : s.dist now = -1 := by unfold S4.dist; rw [if_neg hm]
    rw [hd]
    rw [decide_eq_false hm] at HM
    clear hm hd
    unfold S4.val at HM ⊢
    go_enter Try.func48, Try.ntmps48
    go_upto_region 1 with fail
    rw [← HW.out]
    go_wp2_with (go_at_call 24; refine (HM.out _).mono ?_; rintro e w2 ⟨rfl, hw2⟩; have HW2 := Lib.hid hw2; clear hw2)
    go_ret
    exact ⟨rfl, 0, #[_, _], by rw [HW2.out, HW.out, alloc_eq_grow, alloc_eq_grow, grow_grow]; rfl⟩
theorem isNaN_any (n : Int) (w : World) : Calls Try.prog 64 #[.int .i64 n] w fun e w' => e = .returned (.bool false) ∧ w' = w := by
  go_enter Try.func64, Try.ntmps64
  go_wp2_with fail
  go_ret
  exact ⟨rfl, rfl⟩
def cmpI (x y : Int) : Int := if x < y then -1 else if y < x then 1 else 0
theorem compare_any (x y : Int) (w : World) : Calls Try.prog 47 #[.int .i64 x, .int .i64 y] w fun e w' => e = .returned (.int .i64 (cmpI x y)) ∧ w' = w := by
  obtain ⟨r, hr⟩ : ∃ r, r = cmpI x y := ⟨_, rfl⟩
  rw [← hr]
  unfold cmpI at hr
  rcases Int.lt_trichotomy x y with h | h | h
  · rw [if_pos h] at hr
    subst hr
    go_enter Try.func47, Try.ntmps47
    go_wp2_with (go_at_call 64; refine (isNaN_any _ _).mono ?_; rintro e w2 ⟨rfl, rfl⟩)
    all_goals go_ret
    all_goals exact ⟨rfl, rfl⟩
  · rw [if_neg (by omega), if_neg (by omega)] at hr
    subst hr
    subst h
    go_enter Try.func47, Try.ntmps47
    go_wp2_with (go_at_call 64; refine (isNaN_any _ _).mono ?_; rintro e w2 ⟨rfl, rfl⟩)
    all_goals go_ret
    all_goals exact ⟨rfl, rfl⟩
  · rw [if_neg (by omega), if_pos h] at hr
    subst hr
    have h2 : (x < y) = False := by simp only [eq_iff_iff, iff_false]; omega
    go_enter Try.func47, Try.ntmps47
    go_wp2_with (go_at_call 64; refine (isNaN_any _ _).mono ?_; rintro e w2 ⟨rfl, rfl⟩)
    all_goals go_ret
    all_goals exact ⟨rfl, rfl⟩
end Go.Proofs.Ytbkcoijcoacbaaa.Fi
