/- For every row of limbs and every two ints the Go function NatDigits returns true and leaves its arguments as they were. No condition. -/
import Derived.Test.YtajppinnnmnjiaaCases
import Derived.Test.YtajppinnnmnjiaaRDig
namespace Go.Proofs.Ytajppinnnmnjiaa.natDigitsP
open Go.ChangeShapes Go.WideShapes Go.ChangeAt Go.RowKit
set_option linter.unusedVariables false

theorem res_same_n {w1 w1' : World} {N n c : Nat} {A : Option Addr} {xs ys : List Nat} (h : Res w1 w1' N A n c xs) (hL : Lim 18446744073709551616 ys) (ht : Trm ys) (hv : val 18446744073709551616 ys = N) : xs = ys :=
  trm_unique (β := 18446744073709551616) (by omega) h.nt.lim hL h.trm ht (by rw [h.is, hv])
theorem two_lt_pow {n j : Nat} (h : n < 64 * j) : 2 ^ n < 18446744073709551616 ^ j := by
  rw [show (18446744073709551616 : Nat) = 2 ^ 64 from rfl, ← Nat.pow_mul]
  exact Nat.pow_lt_pow_right (by omega) h
theorem shN_lt {a : Nat} {n : Int} (pa : a < 18446744073709551616 ^ 12) (hn : n ≤ 2000) : shN a n < 18446744073709551616 ^ 60 := by
  unfold shN
  split
  · exact mul_pow pa (two_lt_pow (n := min n.toNat 65536) (j := 48) (by omega))
  · exact Nat.lt_of_le_of_lt (Nat.div_le_self _ _) (more_pow pa (by omega))

set_option maxHeartbeats 4000000 in
theorem law_any {w : World} {A : Option Addr} {na ca : Nat} {x : List Nat} (ha : Nt w w.heap.size A na ca x) (i : Int) (hi : (Lit.int .i64 i).wf = true) (n : Int) (hn : (Lit.int .i64 n).wf = true) :
    Calls Try.prog 6 #[.slice A na ca, .int .i64 i, .int .i64 n] w (Yes w) := by
  have bi := bounds_i64 hi
  have bn := bounds_i64 hn
  by_cases y0 : 12 < na
  · have hr := ha.rooms
    go_enter Try.func6, Try.ntmps6
    go_wp2_with fail
    refine (heavy_yes A na ca y0 hr.1 _).mono ?_
    rintro e w' ⟨rfl, rfl⟩
    go_wp2_with fail
    refine (alive_any _).mono ?_
    rintro e w1 ⟨rfl, b1⟩
    go_wp2_with fail
    go_ret
    exact ⟨rfl, b1⟩
  have pa := ha.lt_pow (by omega)
  obtain ⟨a, ea⟩ : ∃ a, val 18446744073709551616 x = a := ⟨_, rfl⟩
  rw [ea] at pa
  have Ea := Lib.hid ea
  clear ea
  by_cases g1 : 2000 < n
  · by_cases g2 : n ≤ 65536
    · go_enter Try.func6, Try.ntmps6
      go_wp2_with fail
      refine (heavy_no A na ca (by omega) _).mono ?_
      rintro e w' ⟨rfl, rfl⟩
      go_wp2_with fail
      refine (alive_any _).mono ?_
      rintro e w1 ⟨rfl, b1⟩
      go_wp2_with fail
      go_ret
      exact ⟨rfl, b1⟩
    have g3 : 65536 < n := by omega
    clear g2
    go_enter Try.func6, Try.ntmps6
    go_wp2_with fail
    refine (heavy_no A na ca (by omega) _).mono ?_
    rintro e w' ⟨rfl, rfl⟩
    go_wp2_with fail
    refine (copied_any ha (by omega)).mono ?_
    rintro e W1 ⟨A1, c1, rfl, t1, v1⟩
    have N1a := ha.up v1
    have B1 := v1
    go_wp2_with fail
    refine (alive_any _).mono ?_
    rintro e W2 ⟨rfl, v2⟩
    have N2a := N1a.up v2
    have N2x := t1.up v2
    have B2 := bthen B1 v2
    go_wp2_with fail
    refine (trim_any N2x (by omega)).mono ?_
    rintro e W3 ⟨A3, n3, c3, x3, rfl, r3⟩
    rw [Ea.out] at r3
    have z3 : n3 ≤ 64 := r3.le (more_pow (pa) (by omega))
    have N3a := N2a.up r3.bel
    have N3x := N2x.up r3.bel
    have B3 := bthen B2 r3.bel
    go_wp2_with fail
    refine (rtrim_any N3a (by omega)).mono ?_
    rintro e W4 ⟨A4, n4, c4, x4, rfl, t4, tr4, vl4, v4⟩
    rw [Ea.out] at vl4
    have Vl4 := Lib.hid vl4
    clear vl4
    have N4a := N3a.up v4
    have N4x := N3x.up v4
    have N4t := r3.nt.up v4
    have B4 := bthen B3 v4
    go_wp2_with fail
    refine (same_yes N4t t4 (res_same_n r3 t4.lim tr4 Vl4.out)).mono ?_
    rintro e W5 ⟨rfl, d5, rfl⟩
    have N5a := N4a.dr d5
    have N5x := N4x.dr d5
    have N5t := N4t.dr d5
    have N5rt := t4.dr d5
    have B5 := bdr B4 d5
    go_wp2_with fail
    refine (bits_any N5x (by omega)).mono ?_
    rintro e w' ⟨rfl, rfl⟩
    go_wp2_with fail
    refine (rbits_any N5a (by omega)).mono ?_
    rintro e W6 ⟨rfl, v6⟩
    have N6a := N5a.up v6
    have N6x := N5x.up v6
    have B6 := bthen B5 v6
    go_wp2_with fail
    refine (bit_any N6x i (by omega)).mono ?_
    rintro e w' ⟨rfl, rfl⟩
    go_wp2_with fail
    refine (rbit_any N6a (by omega) i).mono ?_
    rintro e W7 ⟨rfl, v7⟩
    have N7a := N6a.up v7
    have N7x := N6x.up v7
    have B7 := bthen B6 v7
    go_wp2_with fail
    refine (same_yes N7x N7a (rfl)).mono ?_
    rintro e W8 ⟨rfl, d8, rfl⟩
    have N8a := N7a.dr d8
    have N8x := N7x.dr d8
    have B8 := bdr B7 d8
    go_wp2_with fail
    go_ret
    exact ⟨rfl, B8⟩
  · have g3 : n ≤ 2000 := by omega
    clear g1
    have psh := shN_lt pa g3
    go_enter Try.func6, Try.ntmps6
    go_wp2_with fail
    refine (heavy_no A na ca (by omega) _).mono ?_
    rintro e w' ⟨rfl, rfl⟩
    go_wp2_with fail
    refine (copied_any ha (by omega)).mono ?_
    rintro e W1 ⟨A1, c1, rfl, t1, v1⟩
    have N1a := ha.up v1
    have B1 := v1
    go_wp2_with fail
    refine (alive_any _).mono ?_
    rintro e W2 ⟨rfl, v2⟩
    have N2a := N1a.up v2
    have N2x := t1.up v2
    have B2 := bthen B1 v2
    go_wp2_with fail
    refine (trim_any N2x (by omega)).mono ?_
    rintro e W3 ⟨A3, n3, c3, x3, rfl, r3⟩
    rw [Ea.out] at r3
    have z3 : n3 ≤ 64 := r3.le (more_pow (pa) (by omega))
    have N3a := N2a.up r3.bel
    have N3x := N2x.up r3.bel
    have B3 := bthen B2 r3.bel
    go_wp2_with fail
    refine (rtrim_any N3a (by omega)).mono ?_
    rintro e W4 ⟨A4, n4, c4, x4, rfl, t4, tr4, vl4, v4⟩
    rw [Ea.out] at vl4
    have Vl4 := Lib.hid vl4
    clear vl4
    have N4a := N3a.up v4
    have N4x := N3x.up v4
    have N4t := r3.nt.up v4
    have B4 := bthen B3 v4
    go_wp2_with fail
    refine (same_yes N4t t4 (res_same_n r3 t4.lim tr4 Vl4.out)).mono ?_
    rintro e W5 ⟨rfl, d5, rfl⟩
    have N5a := N4a.dr d5
    have N5x := N4x.dr d5
    have N5t := N4t.dr d5
    have N5rt := t4.dr d5
    have B5 := bdr B4 d5
    go_wp2_with fail
    refine (bits_any N5x (by omega)).mono ?_
    rintro e w' ⟨rfl, rfl⟩
    go_wp2_with fail
    refine (rbits_any N5a (by omega)).mono ?_
    rintro e W6 ⟨rfl, v6⟩
    have N6a := N5a.up v6
    have N6x := N5x.up v6
    have B6 := bthen B5 v6
    go_wp2_with fail
    refine (bit_any N6x i (by omega)).mono ?_
    rintro e w' ⟨rfl, rfl⟩
    go_wp2_with fail
    refine (rbit_any N6a (by omega) i).mono ?_
    rintro e W7 ⟨rfl, v7⟩
    have N7a := N6a.up v7
    have N7x := N6x.up v7
    have B7 := bthen B6 v7
    go_wp2_with fail
    refine (shift_any N7x (by omega) n (by omega) (by omega)).mono ?_
    rintro e W8 ⟨A8, n8, c8, x8, rfl, r8⟩
    rw [Ea.out] at r8
    have z8 : n8 ≤ 64 := r8.le (more_pow (psh) (by omega))
    have N8a := N7a.up r8.bel
    have N8x := N7x.up r8.bel
    have B8 := bthen B7 r8.bel
    go_wp2_with fail
    refine (rshift_any N8a (by omega) n (by omega) (by omega)).mono ?_
    rintro e W9 ⟨A9, n9, c9, x9, rfl, t9, tr9, vl9, v9⟩
    rw [Ea.out] at vl9
    have Vl9 := Lib.hid vl9
    clear vl9
    have N9a := N8a.up v9
    have N9x := N8x.up v9
    have N9sh := r8.nt.up v9
    have B9 := bthen B8 v9
    go_wp2_with fail
    refine (same_yes N9sh t9 (res_same_n r8 t9.lim tr9 Vl9.out)).mono ?_
    rintro e W10 ⟨rfl, d10, rfl⟩
    have N10a := N9a.dr d10
    have N10x := N9x.dr d10
    have N10sh := N9sh.dr d10
    have N10rsh := t9.dr d10
    have B10 := bdr B9 d10
    go_wp2_with fail
    refine (same_yes N10x N10a (rfl)).mono ?_
    rintro e W11 ⟨rfl, d11, rfl⟩
    have N11a := N9a.dr (d10 + d11)
    have N11x := N9x.dr (d10 + d11)
    have B11 := bdr B9 (d10 + d11)
    go_wp2_with fail
    go_ret
    exact ⟨rfl, B11⟩

set_option maxRecDepth 100000 in
theorem lifted (os : Os) (started : os.Started) (H : Type) (enc : TypeId × Value → H) :
    ReturnsInHanded {} Try.checked os 6 .any (Rows.natDigitsSpec.pre6 enc Try.prog Try.f6 Rows.natDigitsRow.domain false) (Rows.natDigitsSpec.post enc Try.prog Try.f6 false true false false) := by
  refine returnsInHanded_of_change (C := Try.checked) own started (by kernel_rfl) Try.func6
    (ChangeSpec.witness6 (enc := enc) (C := Try.checked) false ⟨#[], #[.slice none 0 0, .int .i64 0, .int .i64 0], []⟩ 8 (by kernel_rfl) (by kernel_rfl) (by kernel_rfl) (by kernel_rfl)) ?_
  intro W base args ds gs before hval0 hW hcnd _
  have hval : ∀ (j : Nat) t v, Try.f6.params[j]? = some t → args[j]? = some v → Value.okWide Try.prog W .any base t v := hval0
  have hW' := hW
  obtain ⟨p, q, hA0, hV, rfl, hfz, hnd⟩ := hW
  have hA : DataW.TrodAll enc Try.prog W 0 (fun _ => true) true Try.f6.params.toList args.toList ds p := hA0
  rw [Try.params6] at hA hval
  obtain ⟨v0, vs0, d0, ds0, p0, q0, hargs, rfl, rfl, h0, r0⟩ := trodAll_cons hA
  obtain ⟨v1, vs1, d1, ds1, p1, q1, rfl, rfl, rfl, h1, r1⟩ := trodAll_cons r0
  obtain ⟨v2, vs2, d2, ds2, p2, q2, rfl, rfl, rfl, h2, r2⟩ := trodAll_cons r1
  obtain ⟨rfl, rfl, rfl⟩ := trodAll_nil r2
  obtain rfl : args = #[v0, v1, v2] := by cases args; simp_all
  obtain ⟨rfl, rfl⟩ := trodVars_none hV
  obtain ⟨a0, len0, cap0, rfl⟩ := okWide_slice Try.underlying22 (hval 0 22 v0 rfl rfl)
  have k0 := h0
  have lt0 : ∀ x ∈ p0, x.block < W.heap.size := by obtain ⟨m, hm⟩ := k0; exact DataW.trod_lt m _ _ _ hm
  obtain ⟨z0, w0⟩ : ∃ zs, Nt W W.heap.size a0 len0 cap0 zs := by
    obtain ⟨fuel, hf⟩ := h0
    rcases open_ints Try.underlying22 Try.underlying32 (by kernel_rfl) hf with ⟨hcs, _⟩ | ⟨x, l, c, zs, hcs, _, hl, hm, hz, _, hcell, hwz⟩
    · simp [Value.cells] at hcs
      obtain ⟨rfl, rfl, rfl⟩ := hcs
      exact ⟨[], nt_nil _ _⟩
    · simp [Value.cells] at hcs
      obtain ⟨rfl, rfl, rfl⟩ := hcs
      exact ⟨_, nt_of_row hl hm (by simpa using hz) hcell hwz⟩
  obtain ⟨a1, rfl, rfl, rfl, w1⟩ := open_int Try.underlying3 (hval 1 3 v1 rfl rfl) h1
  obtain ⟨a2, rfl, rfl, rfl, w2⟩ := open_int Try.underlying3 (hval 2 3 v2 rfl rfl) h2
  clear hA0 hval0
  refine (law_any w0 a1 w1 a2 w2).mono fun e W' ⟨he, bel⟩ => ?_
  subst he
  exact ⟨_, rfl, _, _, _, [], _, [], hW', trodAll_mk1 (shut_bool Try.underlying4 _), (trodAll_cons_mk (Below.trod laidOut (by kernel_rfl) (of_decide_eq_true (by kernel_rfl)) k0 bel lt0) (trodAll_cons_mk (shut_int Try.underlying3 w1) (trodAll_cons_mk (shut_int Try.underlying3 w2) trodAll_mk0))), rfl, bel.frame _, fun h => by cases h⟩

theorem natDigits_holds : Rows.NatDigitsSaid :=
  OpenClaim.holds_of_wide 6 Try.f6 rfl rfl rfl rfl rfl rfl rfl ⟨rfl, rfl, rfl, rfl, rfl⟩ rfl rfl rfl rfl rfl (by kernel_rfl) Try.func6 (by kernel_rfl)
    (of_decide_eq_true (by kernel_rfl)) (by unfold Func.isWrapper; first | (rw [if_pos (by decide +kernel)]; kernel_rfl) | (rw [if_neg (by decide +kernel)]; exact ⟨rfl, rfl⟩))
    (fun os started H enc _ => lifted os started H enc)
#print axioms natDigits_holds
end Go.Proofs.Ytajppinnnmnjiaa.natDigitsP
