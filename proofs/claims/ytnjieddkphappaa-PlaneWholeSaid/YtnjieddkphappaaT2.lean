/- plane: PlaneTurns' walk. -/
import Derived.Test.YtnjieddkphappaaT1
namespace Go.Proofs.Ytnjieddkphappaa
open Go.RowKit
set_option maxRecDepth 100000
set_option linter.unusedVariables false
theorem order_swap {a b : Ieee.Datum} : b.order a = (a.order b).map Ordering.swap := by
  cases a <;> cases b <;> simp only [Ieee.Datum.order, Option.map_none, Option.map_some]
  · rename_i s m i t n j
    rw [Int.min_comm j i, Int.compare_swap]
  · rename_i s m i t
    cases t <;> rfl
  · rename_i s t n j
    cases s <;> rfl
  · rw [Nat.compare_swap]
theorem od_swap (x y : Nat) : od y x = (od x y).map Ordering.swap := order_swap
theorem order_some {a b : Ieee.Datum} (ha : ¬ a.isNaN = true) (hb : ¬ b.isNaN = true) : ∃ o, a.order b = some o := by
  cases a <;> cases b <;> simp [Ieee.Datum.isNaN, Ieee.Datum.order] at ha hb ⊢
theorem od_some {x y : Nat} (hx : ¬ isN x) (hy : ¬ isN y) : ∃ o, od x y = some o := order_some hx hy
theorem max_nn {p q : Nat} (hp : ¬ isN p) (hq : ¬ isN q) : ¬ isN (if od p q = some .gt then p else q) := by split <;> assumption
theorem max_comm {p q : Nat} (hp : ¬ isN p) (hq : ¬ isN q) : od (if od q p = some .gt then q else p) (if od p q = some .gt then p else q) = some .eq := by
  obtain ⟨o, ho⟩ := od_some hp hq
  have h2 := od_swap p q
  rw [ho] at h2
  rw [h2, ho]
  cases o
  · simpa [Ordering.swap] using od_self_eq.2 hq
  · simpa [Ordering.swap] using ho
  · simpa [Ordering.swap] using od_self_eq.2 hp
theorem neg_neg_eq {x : Nat} (h : x < 18446744073709551616) : Op.negFloat .f64 (Op.negFloat .f64 x) = x := by
  have h1 := neg_eq h
  have h2 : Op.negFloat .f64 x < 18446744073709551616 := by rw [h1]; split <;> omega
  rw [neg_eq h2, h1]
  split
  · rw [if_neg (by omega)]; omega
  · rw [if_pos (by omega)]; omega
theorem ofInt_lt (n : Int) : floatOfInt .f64 n < 18446744073709551616 := by
  have := floatOfInt_wf .f64 n
  simpa [Lit.wf] using this
theorem near_lt (n : Int) : (n.tmod 1099511627776).natAbs < 1099511627776 := by
  rw [Int.natAbs_tmod]
  exact Nat.mod_lt _ (by decide)
/-- a float of a whole number that is near -/
def nf (n : Int) : Nat := floatOfInt .f64 (n.tmod 1099511627776)
theorem nf_fin (n : Int) : isF (nf n) := ofInt_fin (near_lt n)
theorem nf_lt (n : Int) : nf n < 18446744073709551616 := ofInt_lt _
theorem far_nn {a b c d : Nat} (ha : isF a) (hb : isF b) (hc : isF c) (hd : isF d) : ¬ isN (farC a b c d) := max_nn (dist_nn ha hc) (dist_nn hb hd)
theorem far_turn {a b c d : Nat} (ha : isF a) (hb : isF b) (hc : isF c) (hd : isF d) (lb : b < 18446744073709551616) (ld : d < 18446744073709551616) :
    od (farC (Op.negFloat .f64 b) a (Op.negFloat .f64 d) c) (farC a b c d) = some .eq := by
  unfold farC
  rw [dist_neg lb ld hb hd]
  exact max_comm (dist_nn ha hc) (dist_nn hb hd)
theorem far_comm {a b c d : Nat} (ha : isF a) (hb : isF b) (hc : isF c) (hd : isF d) : farC c d a b = farC a b c d := by
  unfold farC
  rw [dist_comm ha hc, dist_comm hb hd]
theorem far_self {a b : Nat} (ha : isF a) (hb : isF b) : farC a b a b = 0 := by
  unfold farC
  rw [dist_self ha, dist_self hb]; simp
theorem neg_fin {x : Nat} (h : x < 18446744073709551616) (g : isF x) : isF (Op.negFloat .f64 x) := by
  rw [neg_eq h]; unfold isF at g ⊢; split <;> omega
/-- far, where nothing is no number -/
theorem far_fin_any {a b c d : Nat} (ha : isF a) (hb : isF b) (hc : isF c) (hd : isF d) (w : World) :
    Calls Try.prog 16 #[.complex .f64 a b, .complex .f64 c d] w fun e w' => e = .returned (.float .f64 (farC a b c d)) ∧ ∃ k, w' = w.drewN k := by
  refine (far_any a b c d w).mono ?_
  rintro e w' ⟨⟨r, rfl, h1, h2⟩, k, rfl⟩
  rw [okF_eq ⟨h1, h2⟩ (far_nn ha hb hc hd)]
  exact ⟨rfl, k, rfl⟩
theorem turns_law (a b c d : Int) (w : World) :
    Calls Try.prog 6 #[.int .i64 a, .int .i64 b, .int .i64 c, .int .i64 d] w fun e w' => e = .returned (.bool true) ∧ RowKit.Below w.heap.size w w' := by
  go_enter Try.func6, Try.ntmps6
  go_wp2_with fail
  refine (near_any _ _).mono ?_
  rintro e w1 ⟨rfl, rfl⟩
  go_wp2_with fail
  refine (near_any _ _).mono ?_
  rintro e w1 ⟨rfl, rfl⟩
  go_wp2_with fail
  refine (point_any _ _ _).mono ?_
  rintro e w1 ⟨rfl, rfl⟩
  go_wp2_with fail
  refine (near_any _ _).mono ?_
  rintro e w1 ⟨rfl, rfl⟩
  go_wp2_with fail
  refine (near_any _ _).mono ?_
  rintro e w1 ⟨rfl, rfl⟩
  go_wp2_with fail
  refine (point_any _ _ _).mono ?_
  rintro e w1 ⟨rfl, rfl⟩
  obtain ⟨x, hx⟩ : ∃ x, x = nf a := ⟨_, rfl⟩
  obtain ⟨y, hy⟩ : ∃ x, x = nf b := ⟨_, rfl⟩
  obtain ⟨u, hu⟩ : ∃ x, x = nf c := ⟨_, rfl⟩
  obtain ⟨v, hv⟩ : ∃ x, x = nf d := ⟨_, rfl⟩
  rw [show floatOfInt FloatKind.f64 (a.tmod 1099511627776) = x from hx.symm, show floatOfInt FloatKind.f64 (b.tmod 1099511627776) = y from hy.symm, show floatOfInt FloatKind.f64 (c.tmod 1099511627776) = u from hu.symm, show floatOfInt FloatKind.f64 (d.tmod 1099511627776) = v from hv.symm]
  have FX := Lib.hid (show isF x ∧ x < 18446744073709551616 by rw [hx]; exact ⟨nf_fin a, nf_lt a⟩)
  have FY := Lib.hid (show isF y ∧ y < 18446744073709551616 by rw [hy]; exact ⟨nf_fin b, nf_lt b⟩)
  have FU := Lib.hid (show isF u ∧ u < 18446744073709551616 by rw [hu]; exact ⟨nf_fin c, nf_lt c⟩)
  have FV := Lib.hid (show isF v ∧ v < 18446744073709551616 by rw [hv]; exact ⟨nf_fin d, nf_lt d⟩)
  clear hx hy hu hv
  go_wp2_with fail
  refine (turn_any _ _ _).mono ?_
  rintro e w2 ⟨rfl, rfl⟩
  go_wp2_with fail
  refine (turn_any _ _ _).mono ?_
  rintro e w2 ⟨rfl, rfl⟩
  go_wp2_with fail
  refine (turn_any _ _ _).mono ?_
  rintro e w2 ⟨rfl, rfl⟩
  go_wp2_with fail
  refine (turn_any _ _ _).mono ?_
  rintro e w2 ⟨rfl, rfl⟩
  go_wp2_with fail
  refine (alive_any _).mono ?_
  rintro e w2 ⟨rfl, h2⟩
  have H2 := Lib.hid h2
  clear h2
  go_wp2_with fail
  refine (same_any2 _ _ _ _ _).mono ?_
  rintro e w3 ⟨rfl, rfl⟩
  rw [neg_neg_eq FX.out.2, neg_neg_eq FY.out.2]
  have SX : FloatKind.f64.format.order x x = some .eq := od_self_eq.2 (isF_nn FX.out.1)
  have SY : FloatKind.f64.format.order y y = some .eq := od_self_eq.2 (isF_nn FY.out.1)
  rw [SX, SY]
  clear SX SY
  go_wp2_with fail
  refine (turn_any _ _ _).mono ?_
  rintro e w2 ⟨rfl, rfl⟩
  go_wp2_with fail
  refine (turn_any _ _ _).mono ?_
  rintro e w2 ⟨rfl, rfl⟩
  go_wp2_with fail
  refine (far_fin_any (neg_fin FY.out.2 FY.out.1) FX.out.1 (neg_fin FV.out.2 FV.out.1) FU.out.1 _).mono ?_
  rintro e w4 ⟨rfl, k1, rfl⟩
  go_wp2_with fail
  refine (far_fin_any FX.out.1 FY.out.1 FU.out.1 FV.out.1 _).mono ?_
  rintro e w4 ⟨rfl, k2, rfl⟩
  have E1 : FloatKind.f64.format.order (farC (Op.negFloat .f64 y) x (Op.negFloat .f64 v) u) (farC x y u v) = some .eq := far_turn FX.out.1 FY.out.1 FU.out.1 FV.out.1 FY.out.2 FV.out.2
  go_wp2_with fail
  refine (far_fin_any FX.out.1 FY.out.1 FU.out.1 FV.out.1 _).mono ?_
  rintro e w4 ⟨rfl, k3, rfl⟩
  go_wp2_with fail
  refine (far_fin_any FU.out.1 FV.out.1 FX.out.1 FY.out.1 _).mono ?_
  rintro e w4 ⟨rfl, k4, rfl⟩
  rw [far_comm FX.out.1 FY.out.1 FU.out.1 FV.out.1]
  have E2 : FloatKind.f64.format.order (farC x y u v) (farC x y u v) = some .eq := od_self_eq.2 (far_nn FX.out.1 FY.out.1 FU.out.1 FV.out.1)
  clear E1
  go_wp2_with fail
  refine (far_fin_any FX.out.1 FY.out.1 FX.out.1 FY.out.1 _).mono ?_
  rintro e w4 ⟨rfl, k5, rfl⟩
  rw [far_self FX.out.1 FY.out.1]
  clear E2
  have E3 : FloatKind.f64.format.order 0 0 = some .eq := by decide +kernel
  go_wp2_with fail
  go_ret
  refine ⟨rfl, ?_⟩
  repeat refine below_drewN ?_ _
  exact H2.out
end Go.Proofs.Ytnjieddkphappaa
