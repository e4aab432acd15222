/- filter: the reference's distance. -/
import Derived.Test.YtofieoklcegddaaF3
namespace Go.Proofs.Ytofieoklcegddaa
open Go.RowKit Go.Sort
set_option linter.unusedVariables false
set_option linter.unusedSimpArgs false
set_option maxRecDepth 100000

def inL (x lo : Int) : Prop := lo ≤ x ∧ x ≤ 1152921504606846976
instance (x lo : Int) : Decidable (inL x lo) := by unfold inL; exact inferInstance
theorem rwithin_any (x lo : Int) (w : World) : Calls Try.prog 37 #[.int .i64 x, .int .i64 lo] w fun e w' => e = .returned (.bool (decide (inL x lo))) ∧ w' = w := by
  obtain ⟨q, hq⟩ : ∃ q, q = decide (inL x lo) := ⟨_, rfl⟩
  rw [← hq]
  have HQ := Lib.hid hq
  clear hq
  by_cases h1 : lo ≤ x
  · by_cases h2 : x ≤ 1152921504606846976
    · go_enter Try.func37, Try.ntmps37
      go_wp2_with fail
      go_ret
      exact ⟨by rw [HQ.out, decide_eq_true (show inL x lo from ⟨h1, h2⟩)]; rfl, rfl⟩
    · have h2' : (x ≤ 1152921504606846976) = False := by simp only [h2]
      go_enter Try.func37, Try.ntmps37
      go_wp2_with fail
      go_ret
      exact ⟨by rw [HQ.out, decide_eq_false (show ¬ inL x lo from fun h => by have := h.2; omega)]; rfl, rfl⟩
  · have h1' : (lo ≤ x) = False := by simp only [h1]
    go_enter Try.func37, Try.ntmps37
    go_wp2_with fail
    go_ret
    exact ⟨by rw [HQ.out, decide_eq_false (show ¬ inL x lo from fun h => by have := h.1; omega)]; rfl, rfl⟩
theorem rw_yes {x lo : Int} (h : inL x lo) (w : World) : Calls Try.prog 37 #[.int .i64 x, .int .i64 lo] w fun e w' => e = .returned (.bool true) ∧ w' = w := by
  refine (rwithin_any x lo w).mono ?_
  rintro e w1 ⟨rfl, rfl⟩
  exact ⟨by rw [decide_eq_true h], rfl⟩
theorem rw_no {x lo : Int} (h : ¬ inL x lo) (w : World) : Calls Try.prog 37 #[.int .i64 x, .int .i64 lo] w fun e w' => e = .returned (.bool false) ∧ w' = w := by
  refine (rwithin_any x lo w).mono ?_
  rintro e w1 ⟨rfl, rfl⟩
  exact ⟨by rw [decide_eq_false h], rfl⟩
theorem may_rest (s : S4) : s.may = (inL s.o (-1152921504606846976) ∧ inL s.d 0 ∧ inL s.p 0 ∧ inL s.a (-1152921504606846976)) := by
  unfold S4.may inB inL
  rw [eq_iff_iff]
  constructor
  · rintro ⟨h1, h2, h3, h4, h5, h6⟩
    omega
  · rintro ⟨h1, h2, h3, h4⟩
    omega
set_option maxHeartbeats 1000000 in
theorem rmay_any (s : S4) (w : World) :
    Calls Try.prog 21 #[s.val] w fun e w' => e = .returned (.bool (decide s.may)) ∧ w' = w.alloc (.cells #[.int .i64 s.o, .int .i64 s.d, .int .i64 s.p, .int .i64 s.a] 23) := by
  obtain ⟨w1, hw1⟩ : ∃ w1, w1 = w.alloc (.cells #[.int .i64 s.o, .int .i64 s.d, .int .i64 s.p, .int .i64 s.a] 23) := ⟨_, rfl⟩
  have x1 : Box w1 w.heap.size s := by rw [hw1]; exact World.alloc_heap_new w _
  obtain ⟨c0, c1, c2, c3⟩ := x1.cells
  have HW := Lib.hid hw1
  clear hw1 x1
  have HM := Lib.hid (may_rest s)
  unfold S4.val
  obtain ⟨q, hq⟩ : ∃ q, q = decide s.may := ⟨_, rfl⟩
  rw [← hq]
  have HQ := Lib.hid hq
  clear hq
  go_enter Try.func21, Try.ntmps21
  go_upto_region 1 with fail
  rw [← HW.out]
  by_cases h1 : inL s.o (-1152921504606846976)
  · by_cases h2 : inL s.d 0
    · by_cases h3 : inL s.p 0
      · by_cases h4 : inL s.a (-1152921504606846976)
        · go_wp2_with ((go_at_call 37; (first | refine (rw_yes (by assumption) _).mono ?_ | refine (rw_no (by assumption) _).mono ?_); rintro e w2 ⟨rfl, hw2⟩; subst hw2))
          go_ret
          exact ⟨by first | (rw [HQ.out]; simp only [HM.out]; simp [*]; done) | (rw [HQ.out, decide_eq_false (by rw [HM.out]; simp [*])]), by rw [HW.out]⟩
        · go_wp2_with ((go_at_call 37; (first | refine (rw_yes (by assumption) _).mono ?_ | refine (rw_no (by assumption) _).mono ?_); rintro e w2 ⟨rfl, hw2⟩; subst hw2))
          go_ret
          exact ⟨by first | (rw [HQ.out]; simp only [HM.out]; simp [*]; done) | (rw [HQ.out, decide_eq_false (by rw [HM.out]; simp [*])]), by rw [HW.out]⟩
      · go_wp2_with ((go_at_call 37; (first | refine (rw_yes (by assumption) _).mono ?_ | refine (rw_no (by assumption) _).mono ?_); rintro e w2 ⟨rfl, hw2⟩; subst hw2))
        go_ret
        exact ⟨by first | (rw [HQ.out]; simp only [HM.out]; simp [*]; done) | (rw [HQ.out, decide_eq_false (by rw [HM.out]; simp [*])]), by rw [HW.out]⟩
    · go_wp2_with ((go_at_call 37; (first | refine (rw_yes (by assumption) _).mono ?_ | refine (rw_no (by assumption) _).mono ?_); rintro e w2 ⟨rfl, hw2⟩; subst hw2))
      go_ret
      exact ⟨by first | (rw [HQ.out]; simp only [HM.out]; simp [*]; done) | (rw [HQ.out, decide_eq_false (by rw [HM.out]; simp [*])]), by rw [HW.out]⟩
  · go_wp2_with ((go_at_call 37; (first | refine (rw_yes (by assumption) _).mono ?_ | refine (rw_no (by assumption) _).mono ?_); rintro e w2 ⟨rfl, hw2⟩; subst hw2))
    go_ret
    exact ⟨by first | (rw [HQ.out]; simp only [HM.out]; simp [*]; done) | (rw [HQ.out, decide_eq_false (by rw [HM.out]; simp [*])]), by rw [HW.out]⟩
set_option maxHeartbeats 1000000 in
theorem raged_any (s : S4) (now : Int) (h : inB s.a) (w : World) :
    Calls Try.prog 31 #[s.val, .int .i64 now] w fun e w' => e = .returned (.int .i64 (agedI s.a now)) ∧ ∃ q os', w' = grow (w.drewN q) os' := by
  obtain ⟨w1, hw1⟩ : ∃ w1, w1 = w.alloc (.cells #[.int .i64 s.o, .int .i64 s.d, .int .i64 s.p, .int .i64 s.a] 23) := ⟨_, rfl⟩
  have x1 : Box w1 w.heap.size s := by rw [hw1]; exact World.alloc_heap_new w _
  obtain ⟨c0, c1, c2, c3⟩ := x1.cells
  have HW := Lib.hid hw1
  obtain ⟨r, hr⟩ : ∃ r, r = agedI s.a now := ⟨_, rfl⟩
  rw [← hr]
  unfold agedI clamp at hr
  have HR := Lib.hid hr
  unfold inB at h
  obtain ⟨ha1, ha2⟩ := h
  clear hw1 x1 hr
  unfold S4.val
  generalize s.a = a at *
  have hend : ∀ x : Int, x = r → Ending.returned (Value.int .i64 x) = Ending.returned (Value.int .i64 r) := fun x hx => by rw [hx]
  have HE := Lib.hid hend
  clear hend
  have hfin : ∃ q os', w1 = grow (w.drewN q) os' := ⟨0, #[_], by rw [HW.out, alloc_eq_grow]; rfl⟩
  have HF := Lib.hid hfin
  clear hfin
  by_cases h1 : 1152921504606846976 < now
  · have e1 : ((1152921504606846976 : Int) < a) = False := by simp only [eq_iff_iff, iff_false]; omega
    go_enter Try.func31, Try.ntmps31
    go_upto_region 1 with fail
    rw [← HW.out]
    go_wp2_with fail
    all_goals go_ret
    exact ⟨HE.out _ (by have := HR.out; omega), HF.out⟩
  · have h1' : (1152921504606846976 < now) = False := by simp only [h1]
    have h1i : now ≤ 1152921504606846976 := by omega
    by_cases h2 : now < -1152921504606846976
    · go_enter Try.func31, Try.ntmps31
      go_upto_region 1 with fail
      rw [← HW.out]
      go_wp2_with fail
      all_goals go_ret
      exact ⟨HE.out _ (by have := HR.out; omega), HF.out⟩
    · have h2' : (now < -1152921504606846976) = False := by simp only [h2]
      by_cases h3 : now < a
      · go_enter Try.func31, Try.ntmps31
        go_upto_region 1 with fail
        rw [← HW.out]
        go_wp2_with fail
        all_goals go_ret
        exact ⟨HE.out _ (by have := HR.out; omega), HF.out⟩
      · have h3' : (now < a) = False := by simp only [h3]
        have h3i : a ≤ now := by omega
        have h2i : -1152921504606846976 ≤ now := by omega
        go_enter Try.func31, Try.ntmps31
        go_upto_region 1 with fail
        rw [← HW.out]
        go_wp2_with fail
        all_goals go_ret
        exact ⟨HE.out _ (by have := HR.out; omega), HF.out⟩
set_option maxHeartbeats 2000000 in
theorem rdist_any (s : S4) (now : Int) (w : World) :
    Calls Try.prog 11 #[s.val, .int .i64 now] w fun e w' => e = .returned (.int .i64 (s.dist now)) ∧ ∃ q os', w' = grow (w.drewN q) os' := by
  obtain ⟨w1, hw1⟩ : ∃ w1, w1 = w.alloc (.cells #[.int .i64 s.o, .int .i64 s.d, .int .i64 s.p, .int .i64 s.a] 23) := ⟨_, rfl⟩
  have x1 : Box w1 w.heap.size s := by rw [hw1]; exact World.alloc_heap_new w _
  have HX := Lib.hid x1
  obtain ⟨c0, c1, c2, c3⟩ := x1.cells
  have HW := Lib.hid hw1
  have HM := Lib.hid (fun w => rmay_any s w)
  clear hw1 x1
  by_cases hm : s.may
  · have hd : s.dist now = s.d / 2 + s.p + agedI s.a now := by unfold S4.dist; rw [if_pos hm]
    rw [hd, ]
    have hl := aged_lim (now := now) hm.2.1
    have HA := Lib.hid (fun w => raged_any s now hm.2.1 w)
    have hb1 := hm.2.2.1
    have hb2 := hm.2.2.2.1
    have hb3 := hm.2.2.2.2.1
    have hb4 := hm.2.2.2.2.2
    unfold inB at hb1 hb3
    rw [decide_eq_true hm] at HM
    clear hm hd
    unfold S4.val at HA HM ⊢
    obtain ⟨o, d, p, a⟩ := s
    dsimp only at *
    have HXc := Lib.hid (fun (w2 : World) (x2 : Box w2 w.heap.size ⟨o, d, p, a⟩) (n : Nat) (os : Array Obj) => (x2.grown n os).cells)
    dsimp only at HXc
    generalize agedI a now = m at *
    go_enter Try.func11, Try.ntmps11
    go_upto_region 1 with fail
    rw [← HW.out]
    go_upto_region 3 with (go_at_call 21; refine (HM.out _).mono ?_; rintro e w2 ⟨rfl, hw2⟩; have HW2 := Lib.hid hw2; clear hw2)
    have x2 : Box w2 w.heap.size ⟨o, d, p, a⟩ := by rw [HW2.out, alloc_eq_grow]; exact HX.out.grown 0 _
    have hx := HXc.out w2 x2
    have d0 := fun n os => (hx n os).1
    have d1 := fun n os => (hx n os).2.1
    have d2 := fun n os => (hx n os).2.2.1
    have d3 := fun n os => (hx n os).2.2.2
    clear hx x2
    have mixed : Try.prog.follows .mixedOrders = true := by kernel_rfl
    go_quiet_grown ((go_at_call 31; exact Calls.grown_of (HA.out _)))
    all_goals go_wp2_with fail
    all_goals go_ret
    have hv := dist_wrap hb2 hb1.2 hb4 hb3.2 hl.1 hl.2
    refine ⟨by rw [← hv]; rfl, nq, #[_, _] ++ osq, by rw [HW2.out, HW.out, alloc_eq_grow, alloc_eq_grow, grow_grow]; show grow (grow (w.drewN nq) _) osq = _; rw [grow_grow]; rfl⟩
  · have hd : s.dist now = -1 := by unfold S4.dist; rw [if_neg hm]
    rw [hd]
    rw [decide_eq_false hm] at HM
    clear hm hd
    unfold S4.val at HM ⊢
    go_enter Try.func11, Try.ntmps11
    go_upto_region 1 with fail
    rw [← HW.out]
    go_wp2_with (go_at_call 21; refine (HM.out _).mono ?_; rintro e w2 ⟨rfl, hw2⟩; have HW2 := Lib.hid hw2; clear hw2)
    go_ret
    exact ⟨rfl, 0, #[_, _], by rw [HW2.out, HW.out, alloc_eq_grow, alloc_eq_grow, grow_grow]; rfl⟩
end Go.Proofs.Ytofieoklcegddaa
