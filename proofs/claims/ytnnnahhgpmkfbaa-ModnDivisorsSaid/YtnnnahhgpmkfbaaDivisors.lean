/- For every two rows of limbs the Go function ModnDivisors returns true and leaves its arguments as they were. No condition. -/
import Derived.Test.YtnnnahhgpmkfbaaAlive
import Derived.Test.YtnnnahhgpmkfbaaRef
namespace Go.Proofs.Ytnnnahhgpmkfbaa.modnDivisorsP
open Go.ChangeShapes Go.WideShapes Go.ChangeAt Go.RowKit
set_option linter.unusedVariables false

theorem gcd_less {a b X : Nat} (ha : a < X) (hb : b < X) : Nat.gcd a b < X := by
  rcases Nat.eq_zero_or_pos a with rfl | h
  · rw [Nat.gcd_zero_left]; exact hb
  · exact Nat.lt_of_le_of_lt (Nat.le_of_dvd h (Nat.gcd_dvd_left a b)) ha
theorem rinv_no {w : World} {A A2 : Option Addr} {n c n2 c2 : Nat} {xs ys : List Nat} (h : Nt w w.heap.size A n c xs) (h2 : Nt w w.heap.size A2 n2 c2 ys) (hn : n ≤ 100000) (hn2 : n2 ≤ 100000) (hb : 0 < val 18446744073709551616 ys) (hg : Nat.gcd (val 18446744073709551616 xs) (val 18446744073709551616 ys) ≠ 1) :
    Calls Try.prog 21 #[.slice A n c, .slice A2 n2 c2] w (RetBad 30 w) := (rinv_any h h2 hn hn2 hb).mono fun e w' hr => hr.1 hg
theorem rinv_yes {w : World} {A A2 : Option Addr} {n c n2 c2 : Nat} {xs ys : List Nat} (h : Nt w w.heap.size A n c xs) (h2 : Nt w w.heap.size A2 n2 c2 ys) (hn : n ≤ 100000) (hn2 : n2 ≤ 100000) (hb : 0 < val 18446744073709551616 ys) (hg : Nat.gcd (val 18446744073709551616 xs) (val 18446744073709551616 ys) = 1) :
    Calls Try.prog 21 #[.slice A n c, .slice A2 n2 c2] w fun e w' => ∃ f, f < val 18446744073709551616 ys ∧ val 18446744073709551616 xs * f % val 18446744073709551616 ys = 1 % val 18446744073709551616 ys ∧ RetT f w e w' := (rinv_any h h2 hn hn2 hb).mono fun e w' hr => hr.2 hg
set_option maxRecDepth 100000
set_option maxHeartbeats 8000000 in
theorem law_any {w : World} {A E : Option Addr} {na ca nn cn : Nat} {x1 x5 : List Nat} (ha : Nt w w.heap.size A na ca x1) (hn : Nt w w.heap.size E nn cn x5) :
    Calls Try.prog 5 #[.slice A na ca, .slice E nn cn] w (Yes w) := by
  have hra := ha.rooms
  have hrn := hn.rooms
  by_cases ya : 5 < na
  · go_enter Try.func5, Try.ntmps5
    go_wp2_with fail
    refine (heavy_yes A na ca (by omega) (by omega) _).mono ?_
    rintro e W1 ⟨rfl, rfl⟩
    go_wp2_with fail
    refine (alive_any _).mono ?_
    rintro e W2 ⟨rfl, b2⟩
    have B2 := b2
    go_wp2_with fail
    go_ret
    exact ⟨rfl, B2⟩
  by_cases yn : 5 < nn
  · go_enter Try.func5, Try.ntmps5
    go_wp2_with fail
    refine (heavy_no A na ca (by omega) _).mono ?_
    rintro e W1 ⟨rfl, rfl⟩
    go_wp2_with fail
    refine (heavy_yes E nn cn (by omega) (by omega) _).mono ?_
    rintro e W2 ⟨rfl, rfl⟩
    go_wp2_with fail
    refine (alive_any _).mono ?_
    rintro e W3 ⟨rfl, b3⟩
    have B3 := b3
    go_wp2_with fail
    go_ret
    exact ⟨rfl, B3⟩
  have pn := hn.below_pow (k := 5) (by omega)
  have pa := ha.below_pow (k := 5) (by omega)
  obtain ⟨a, ea⟩ : ∃ a, val 18446744073709551616 x1 = a := ⟨_, rfl⟩
  obtain ⟨N, en⟩ : ∃ N, val 18446744073709551616 x5 = N := ⟨_, rfl⟩
  rw [en] at pn
  rw [ea] at pa
  have pg := gcd_less pa pn
  have Pg := Lib.hid pg
  clear pg
  rcases Nat.eq_zero_or_pos N with hn0 | hn0
  · go_enter Try.func5, Try.ntmps5
    go_wp2_with fail
    refine (heavy_no A na ca (by omega) _).mono ?_
    rintro e W1 ⟨rfl, rfl⟩
    go_wp2_with fail
    refine (heavy_no E nn cn (by omega) _).mono ?_
    rintro e W2 ⟨rfl, rfl⟩
    go_wp2_with fail
    refine (inverse_nil ha hn (by omega) (by rw [en]; exact hn0)).mono ?_
    rintro e W3 ⟨rfl, b3⟩
    have N3a := ha.up b3
    have N3n := hn.up b3
    have B3 := b3
    go_wp2_with fail
    refine (rinv_nil N3a N3n (by omega) (by rw [en]; exact hn0)).mono ?_
    rintro e W4 ⟨rfl, b4⟩
    have N4a := N3a.up b4
    have N4n := N3n.up b4
    have B4 := bthen B3 b4
    go_wp2_with fail
    refine (alive_any _).mono ?_
    rintro e W5 ⟨rfl, b5⟩
    have N5a := N4a.up b5
    have N5n := N4n.up b5
    have B5 := bthen B4 b5
    go_wp2_with fail
    refine (mgcd_any N5a N5n (by omega) (by omega)).mono ?_
    rintro e W6 ⟨A6, n6, c6, x6, rfl, r6⟩
    rw [ea, en] at r6
    have l6 := r6.le (k := 5) (Pg.out)
    have v6 := r6.is
    have t6 := r6.trm
    have N6a := N5a.up r6.bel
    have N6n := N5n.up r6.bel
    have B6 := bthen B5 r6.bel
    go_wp2_with fail
    refine (rGcd_any N6a N6n (by omega) (by omega)).mono ?_
    rintro e W7 ⟨A7, n7, c7, x7, rfl, r7⟩
    rw [ea, en] at r7
    have l7 := r7.le (k := 5) (Pg.out)
    have v7 := r7.is
    have t7 := r7.trm
    have N7a := N6a.up r7.bel
    have N7n := N6n.up r7.bel
    have N7g := r6.nt.up r7.bel
    have B7 := bthen B6 r7.bel
    go_wp2_with fail
    refine (same_yes N7g r7.nt (trm_same t6 t7 N7g.lim r7.nt.lim (by rw [v6, v7]))).mono ?_
    rintro e W8 ⟨rfl, d8, rfl⟩
    have N8a := N7a.dr d8
    have N8n := N7n.dr d8
    have N8g := N7g.dr d8
    have N8k := r7.nt.dr d8
    have B8 := bdr B7 d8
    go_wp2_with fail
    refine (same_yes (nt_nil _ 0) (nt_nil _ 0) rfl).mono ?_
    rintro e W9 ⟨rfl, d9, rfl⟩
    have N9a := N7a.dr (d8 + d9)
    have N9n := N7n.dr (d8 + d9)
    have N9g := N7g.dr (d8 + d9)
    have N9k := r7.nt.dr (d8 + d9)
    have B9 := bdr B7 (d8 + d9)
    go_wp2_with fail
    go_ret
    exact ⟨rfl, B9⟩
  by_cases hg : Hid (Nat.gcd a N ≠ 1)
  · go_enter Try.func5, Try.ntmps5
    go_wp2_with fail
    refine (heavy_no A na ca (by omega) _).mono ?_
    rintro e W1 ⟨rfl, rfl⟩
    go_wp2_with fail
    refine (heavy_no E nn cn (by omega) _).mono ?_
    rintro e W2 ⟨rfl, rfl⟩
    go_wp2_with fail
    refine (inverse_no ha hn (by omega) (by omega) (by rw [en]; exact hn0) (by rw [ea, en]; exact hg.out)).mono ?_
    rintro e W3 ⟨rfl, b3⟩
    have N3a := ha.up b3
    have N3n := hn.up b3
    have B3 := b3
    go_wp2_with fail
    refine (rinv_no N3a N3n (by omega) (by omega) (by rw [en]; exact hn0) (by rw [ea, en]; exact hg.out)).mono ?_
    rintro e W4 ⟨rfl, b4⟩
    have N4a := N3a.up b4
    have N4n := N3n.up b4
    have B4 := bthen B3 b4
    go_wp2_with fail
    refine (alive_any _).mono ?_
    rintro e W5 ⟨rfl, b5⟩
    have N5a := N4a.up b5
    have N5n := N4n.up b5
    have B5 := bthen B4 b5
    go_wp2_with fail
    refine (mgcd_any N5a N5n (by omega) (by omega)).mono ?_
    rintro e W6 ⟨A6, n6, c6, x6, rfl, r6⟩
    rw [ea, en] at r6
    have l6 := r6.le (k := 5) (Pg.out)
    have v6 := r6.is
    have t6 := r6.trm
    have N6a := N5a.up r6.bel
    have N6n := N5n.up r6.bel
    have B6 := bthen B5 r6.bel
    go_wp2_with fail
    refine (rGcd_any N6a N6n (by omega) (by omega)).mono ?_
    rintro e W7 ⟨A7, n7, c7, x7, rfl, r7⟩
    rw [ea, en] at r7
    have l7 := r7.le (k := 5) (Pg.out)
    have v7 := r7.is
    have t7 := r7.trm
    have N7a := N6a.up r7.bel
    have N7n := N6n.up r7.bel
    have N7g := r6.nt.up r7.bel
    have B7 := bthen B6 r7.bel
    go_wp2_with fail
    refine (same_yes N7g r7.nt (trm_same t6 t7 N7g.lim r7.nt.lim (by rw [v6, v7]))).mono ?_
    rintro e W8 ⟨rfl, d8, rfl⟩
    have N8a := N7a.dr d8
    have N8n := N7n.dr d8
    have N8g := N7g.dr d8
    have N8k := r7.nt.dr d8
    have B8 := bdr B7 d8
    go_wp2_with fail
    refine (same_yes (nt_nil _ 0) (nt_nil _ 0) rfl).mono ?_
    rintro e W9 ⟨rfl, d9, rfl⟩
    have N9a := N7a.dr (d8 + d9)
    have N9n := N7n.dr (d8 + d9)
    have N9g := N7g.dr (d8 + d9)
    have N9k := r7.nt.dr (d8 + d9)
    have B9 := bdr B7 (d8 + d9)
    go_wp2_with fail
    go_ret
    exact ⟨rfl, B9⟩
  have hg1 : Nat.gcd a N = 1 := by
    by_cases h : Nat.gcd a N = 1
    · exact h
    · exact absurd (Lib.hid h) hg
  have Hg := Lib.hid hg1
  clear hg hg1
  go_enter Try.func5, Try.ntmps5
  go_wp2_with fail
  refine (heavy_no A na ca (by omega) _).mono ?_
  rintro e W1 ⟨rfl, rfl⟩
  go_wp2_with fail
  refine (heavy_no E nn cn (by omega) _).mono ?_
  rintro e W2 ⟨rfl, rfl⟩
  go_wp2_with fail
  refine (inverse_yes ha hn (by omega) (by omega) (by rw [en]; exact hn0) (by rw [ea, en]; exact Hg.out)).mono ?_
  rintro e W3 ⟨f, hf, hfe, A3, n3, c3, x3, rfl, r3⟩
  have l3 := r3.le (k := 5) (by rw [en] at hf; omega)
  have v3 := r3.is
  have t3 := r3.trm
  have N3a := ha.up r3.bel
  have N3n := hn.up r3.bel
  have B3 := r3.bel
  rw [en] at hf hfe
  rw [ea] at hfe
  have Hfe := Lib.hid hfe
  clear hfe
  go_wp2_with fail
  refine (rinv_yes N3a N3n (by omega) (by omega) (by rw [en]; exact hn0) (by rw [ea, en]; exact Hg.out)).mono ?_
  rintro e W4 ⟨f2, hf2, hfe2, A4, n4, c4, x4, rfl, r4⟩
  have l4 := r4.le (k := 5) (by rw [en] at hf2; omega)
  have v4 := r4.is
  have t4 := r4.trm
  have N4a := N3a.up r4.bel
  have N4n := N3n.up r4.bel
  have N4x := r3.nt.up r4.bel
  have B4 := bthen B3 r4.bel
  rw [en] at hf2 hfe2
  rw [ea] at hfe2
  have Hff := Lib.hid (inv_one hf hf2 Hfe.out hfe2)
  clear hfe2
  go_wp2_with fail
  refine (alive_any _).mono ?_
  rintro e W5 ⟨rfl, b5⟩
  have N5a := N4a.up b5
  have N5n := N4n.up b5
  have N5x := N4x.up b5
  have N5y := r4.nt.up b5
  have B5 := bthen B4 b5
  go_wp2_with fail
  refine (mgcd_any N5a N5n (by omega) (by omega)).mono ?_
  rintro e W6 ⟨A6, n6, c6, x6, rfl, r6⟩
  rw [ea, en] at r6
  have l6 := r6.le (k := 5) (Pg.out)
  have v6 := r6.is
  have t6 := r6.trm
  have N6a := N5a.up r6.bel
  have N6n := N5n.up r6.bel
  have N6x := N5x.up r6.bel
  have N6y := N5y.up r6.bel
  have B6 := bthen B5 r6.bel
  go_wp2_with fail
  refine (rGcd_any N6a N6n (by omega) (by omega)).mono ?_
  rintro e W7 ⟨A7, n7, c7, x7, rfl, r7⟩
  rw [ea, en] at r7
  have l7 := r7.le (k := 5) (Pg.out)
  have v7 := r7.is
  have t7 := r7.trm
  have N7a := N6a.up r7.bel
  have N7n := N6n.up r7.bel
  have N7x := N6x.up r7.bel
  have N7y := N6y.up r7.bel
  have N7g := r6.nt.up r7.bel
  have B7 := bthen B6 r7.bel
  go_wp2_with fail
  refine (same_yes N7g r7.nt (trm_same t6 t7 N7g.lim r7.nt.lim (by rw [v6, v7]))).mono ?_
  rintro e W8 ⟨rfl, d8, rfl⟩
  have N8a := N7a.dr d8
  have N8n := N7n.dr d8
  have N8x := N7x.dr d8
  have N8y := N7y.dr d8
  have N8g := N7g.dr d8
  have N8k := r7.nt.dr d8
  have B8 := bdr B7 d8
  go_wp2_with fail
  refine (same_yes N8x N8y (trm_same t3 t4 N8x.lim N8y.lim (by rw [v3, v4, Hff.out]))).mono ?_
  rintro e W9 ⟨rfl, d9, rfl⟩
  have N9a := N7a.dr (d8 + d9)
  have N9n := N7n.dr (d8 + d9)
  have N9x := N7x.dr (d8 + d9)
  have N9y := N7y.dr (d8 + d9)
  have N9g := N7g.dr (d8 + d9)
  have N9k := r7.nt.dr (d8 + d9)
  have B9 := bdr B7 (d8 + d9)
  go_wp2_with fail
  go_ret
  exact ⟨rfl, B9⟩

set_option maxRecDepth 100000 in
theorem lifted (os : Os) (started : os.Started) (H : Type) (enc : TypeId × Value → H) :
    ReturnsInHanded {} Try.checked os 5 .any (Rows.modnDivisorsSpec.pre6 enc Try.prog Try.f5 Rows.modnDivisorsRow.domain false) (Rows.modnDivisorsSpec.post enc Try.prog Try.f5 false true false false) := by
  refine returnsInHanded_of_change (C := Try.checked) own started (by kernel_rfl) Try.func5
    (ChangeSpec.witness6 (enc := enc) (C := Try.checked) false ⟨#[], #[.slice none 0 0, .slice none 0 0], []⟩ 8 (by kernel_rfl) (by kernel_rfl) (by kernel_rfl) (by kernel_rfl)) ?_
  intro W base args ds gs before hval0 hW hcnd _
  have hval : ∀ (j : Nat) t v, Try.f5.params[j]? = some t → args[j]? = some v → Value.okWide Try.prog W .any base t v := hval0
  have hW' := hW
  obtain ⟨p, q, hA0, hV, rfl, hfz, hnd⟩ := hW
  have hA : DataW.TrodAll enc Try.prog W 0 (fun _ => true) true Try.f5.params.toList args.toList ds p := hA0
  rw [Try.params5] at hA hval
  obtain ⟨v0, vs0, d0, ds0, p0, q0, hargs, rfl, rfl, h0, r0⟩ := trodAll_cons hA
  obtain ⟨v1, vs1, d1, ds1, p1, q1, rfl, rfl, rfl, h1, r1⟩ := trodAll_cons r0
  obtain ⟨rfl, rfl, rfl⟩ := trodAll_nil r1
  obtain rfl : args = #[v0, v1] := by cases args; simp_all
  obtain ⟨rfl, rfl⟩ := trodVars_none hV
  obtain ⟨a0, len0, cap0, rfl⟩ := okWide_slice Try.underlying22 (hval 0 22 v0 rfl rfl)
  have k0 := h0
  have lt0 : ∀ x ∈ p0, x.block < W.heap.size := by obtain ⟨m, hm⟩ := k0; exact DataW.trod_lt m _ _ _ hm
  obtain ⟨z0, w0⟩ : ∃ zs, Nt W W.heap.size a0 len0 cap0 zs := by
    obtain ⟨fuel, hf⟩ := h0
    rcases open_ints Try.underlying22 Try.underlying34 (by kernel_rfl) hf with ⟨hcs, _⟩ | ⟨x, l, c, zs, hcs, _, hl, hm, hz, _, hcell, hwz⟩
    · simp [Value.cells] at hcs
      obtain ⟨rfl, rfl, rfl⟩ := hcs
      exact ⟨[], nt_nil _ _⟩
    · simp [Value.cells] at hcs
      obtain ⟨rfl, rfl, rfl⟩ := hcs
      exact ⟨_, nt_of_row hl hm (by simpa using hz) hcell hwz⟩
  obtain ⟨a1, len1, cap1, rfl⟩ := okWide_slice Try.underlying22 (hval 1 22 v1 rfl rfl)
  have k1 := h1
  have lt1 : ∀ x ∈ p1, x.block < W.heap.size := by obtain ⟨m, hm⟩ := k1; exact DataW.trod_lt m _ _ _ hm
  obtain ⟨z1, w1⟩ : ∃ zs, Nt W W.heap.size a1 len1 cap1 zs := by
    obtain ⟨fuel, hf⟩ := h1
    rcases open_ints Try.underlying22 Try.underlying34 (by kernel_rfl) hf with ⟨hcs, _⟩ | ⟨x, l, c, zs, hcs, _, hl, hm, hz, _, hcell, hwz⟩
    · simp [Value.cells] at hcs
      obtain ⟨rfl, rfl, rfl⟩ := hcs
      exact ⟨[], nt_nil _ _⟩
    · simp [Value.cells] at hcs
      obtain ⟨rfl, rfl, rfl⟩ := hcs
      exact ⟨_, nt_of_row hl hm (by simpa using hz) hcell hwz⟩
  clear hA0 hval0
  refine (law_any w0 w1).mono fun e W' ⟨he, bel⟩ => ?_
  subst he
  exact ⟨_, rfl, _, _, _, [], _, [], hW', trodAll_mk1 (shut_bool Try.underlying4 _), (trodAll_cons_mk (Below.trod laidOut (by kernel_rfl) (of_decide_eq_true (by kernel_rfl)) k0 bel lt0) (trodAll_cons_mk (Below.trod laidOut (by kernel_rfl) (of_decide_eq_true (by kernel_rfl)) k1 bel lt1) trodAll_mk0)), rfl, bel.frame _, fun h => by cases h⟩

theorem modnDivisors_holds : Rows.ModnDivisorsSaid :=
  OpenClaim.holds_of_wide 5 Try.f5 rfl rfl rfl rfl rfl rfl rfl ⟨rfl, rfl, rfl, rfl, rfl⟩ rfl rfl rfl rfl rfl (by kernel_rfl) Try.func5 (by kernel_rfl)
    (of_decide_eq_true (by kernel_rfl)) (by unfold Func.isWrapper; first | (rw [if_pos (by decide +kernel)]; kernel_rfl) | (rw [if_neg (by decide +kernel)]; exact ⟨rfl, rfl⟩))
    (fun os started H enc _ => lifted os started H enc)
#print axioms modnDivisors_holds
end Go.Proofs.Ytnnnahhgpmkfbaa.modnDivisorsP
