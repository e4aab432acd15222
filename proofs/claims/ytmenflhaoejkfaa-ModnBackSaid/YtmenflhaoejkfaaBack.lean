/- For every two rows of limbs the Go function ModnBack returns true and leaves its arguments as they were. No condition. -/
import Derived.Test.YtmenflhaoejkfaaAlive
namespace Go.Proofs.Ytmenflhaoejkfaa.modnBackP
open Go.ChangeShapes Go.WideShapes Go.ChangeAt Go.RowKit
set_option linter.unusedVariables false

set_option maxRecDepth 100000
set_option maxHeartbeats 4000000 in
theorem law_any {w : World} {A B : Option Addr} {na ca nb cb : Nat} {x y : List Nat} (ha : Nt w w.heap.size A na ca x) (hb : Nt w w.heap.size B nb cb y) :
    Calls Try.prog 8 #[.slice A na ca, .slice B nb cb] w (Yes w) := by
  have hra := ha.rooms
  have hrb := hb.rooms
  by_cases y0 : 5 < na
  · go_enter Try.func8, Try.ntmps8
    go_wp2_with fail
    refine (heavy_yes A na ca (by omega) (by omega) _).mono ?_
    rintro e W1 ⟨rfl, rfl⟩
    go_wp2_with fail
    refine (alive_any _).mono ?_
    rintro e W2 ⟨rfl, b2⟩
    have B2 := b2
    go_wp2_with fail
    go_ret
    exact ⟨rfl, B2⟩
  by_cases y1 : 5 < nb
  · go_enter Try.func8, Try.ntmps8
    go_wp2_with fail
    refine (heavy_no A na ca (by omega) _).mono ?_
    rintro e W1 ⟨rfl, rfl⟩
    go_wp2_with fail
    refine (heavy_yes B nb cb (by omega) (by omega) _).mono ?_
    rintro e W2 ⟨rfl, rfl⟩
    go_wp2_with fail
    refine (alive_any _).mono ?_
    rintro e W3 ⟨rfl, b3⟩
    have B3 := b3
    go_wp2_with fail
    go_ret
    exact ⟨rfl, B3⟩
  have pa := ha.below_pow (k := 5) (by omega)
  have pb := hb.below_pow (k := 5) (by omega)
  obtain ⟨a, ea⟩ : ∃ a, val 18446744073709551616 x = a := ⟨_, rfl⟩
  obtain ⟨b, eb⟩ : ∃ b, val 18446744073709551616 y = b := ⟨_, rfl⟩
  rw [ea] at pa
  rw [eb] at pb
  have hbits := fun W (k : Nt W W.heap.size B nb cb y) => bits_any k (by omega)
  rw [eb] at hbits
  rcases Nat.eq_zero_or_pos b with hb0 | hb0
  · go_enter Try.func8, Try.ntmps8
    go_wp2_with fail
    refine (heavy_no A na ca (by omega) _).mono ?_
    rintro e W1 ⟨rfl, rfl⟩
    go_wp2_with fail
    refine (heavy_no B nb cb (by omega) _).mono ?_
    rintro e W2 ⟨rfl, rfl⟩
    go_wp2_with fail
    have hbz := hbits _ hb
    rw [hb0, show bl 0 = 0 by decide] at hbz
    refine (hbz).mono ?_
    rintro e W3 ⟨rfl, rfl⟩
    go_wp2_with fail
    refine (alive_any _).mono ?_
    rintro e W4 ⟨rfl, b4⟩
    have N4a := ha.up b4
    have N4n := hb.up b4
    have B4 := b4
    go_wp2_with fail
    go_ret
    exact ⟨rfl, B4⟩
  by_cases hg : Hid (Nat.gcd a b ≠ 1)
  · go_enter Try.func8, Try.ntmps8
    go_wp2_with fail
    refine (heavy_no A na ca (by omega) _).mono ?_
    rintro e W1 ⟨rfl, rfl⟩
    go_wp2_with fail
    refine (heavy_no B nb cb (by omega) _).mono ?_
    rintro e W2 ⟨rfl, rfl⟩
    go_wp2_with fail
    have hp := bl_pos hb0
    have hbz := hbits _ hb
    generalize bl b = k at *
    have hk : ((k : Int) == 0) = false := by simp; omega
    refine (hbz).mono ?_
    rintro e W3 ⟨rfl, rfl⟩
    go_wp2_with fail
    refine (inverse_no ha hb (by omega) (by omega) (by rw [eb]; omega) (by rw [ea, eb]; exact hg.out)).mono ?_
    rintro e W4 ⟨rfl, b4⟩
    have N4a := ha.up b4
    have N4n := hb.up b4
    have B4 := b4
    go_wp2_with fail
    refine (of_any 1 _ rfl (by omega) _).mono ?_
    rintro e W5 ⟨A5, n5, c5, x5, rfl, r5⟩
    have l5 := r5.le (k := 1) (by omega)
    have v5 := r5.is
    have t5 := r5.trm
    have N5a := N4a.up r5.bel
    have N5n := N4n.up r5.bel
    have B5 := bthen B4 r5.bel
    go_wp2_with fail
    refine (mgcd_any N5a N5n (by omega) (by omega)).mono ?_
    rintro e W6 ⟨A6, n6, c6, x6, rfl, r6⟩
    rw [ea, eb] at r6
    have l6 := r6.le (k := 5) (by exact Nat.lt_of_le_of_lt (Nat.le_of_dvd hb0 (Nat.gcd_dvd_right a b)) pb)
    have v6 := r6.is
    have t6 := r6.trm
    have N6a := N5a.up r6.bel
    have N6n := N5n.up r6.bel
    have N6one := r5.nt.up r6.bel
    have B6 := bthen B5 r6.bel
    go_wp2_with fail
    refine (cmp_same r6.nt N6one).mono ?_
    rintro e W7 ⟨t, rfl, ht, d7, rfl⟩
    rw [v6, v5] at ht
    have ht0 : (t != 0) = true := by
      have : t ≠ 0 := fun h => hg.out (ht.1 h)
      simpa using this
    clear ht
    have N7a := N6a.dr d7
    have N7n := N6n.dr d7
    have N7one := N6one.dr d7
    have N7g := r6.nt.dr d7
    have B7 := bdr B6 d7
    go_wp2_with fail
    refine (alive_any _).mono ?_
    rintro e W8 ⟨rfl, b8⟩
    have N8a := N7a.up b8
    have N8n := N7n.up b8
    have N8one := N7one.up b8
    have N8g := N7g.up b8
    have B8 := bthen B7 b8
    go_wp2_with fail
    go_ret
    exact ⟨rfl, B8⟩
  have hg1 : Nat.gcd a b = 1 := by
    by_cases h : Nat.gcd a b = 1
    · exact h
    · exact absurd (Lib.hid h) hg
  have Hg := Lib.hid hg1
  clear hg hg1
  go_enter Try.func8, Try.ntmps8
  go_wp2_with fail
  refine (heavy_no A na ca (by omega) _).mono ?_
  rintro e W1 ⟨rfl, rfl⟩
  go_wp2_with fail
  refine (heavy_no B nb cb (by omega) _).mono ?_
  rintro e W2 ⟨rfl, rfl⟩
  go_wp2_with fail
  have hp := bl_pos hb0
  have hbz := hbits _ hb
  generalize bl b = k at *
  have hk : ((k : Int) == 0) = false := by simp; omega
  refine (hbz).mono ?_
  rintro e W3 ⟨rfl, rfl⟩
  go_wp2_with fail
  refine (inverse_yes ha hb (by omega) (by omega) (by rw [eb]; omega) (by rw [ea, eb]; exact Hg.out)).mono ?_
  rintro e W4 ⟨f, hf, hfe, A4, n4, c4, x4, rfl, r4⟩
  have l4 := r4.le (k := 5) (by rw [eb] at hf; omega)
  have v4 := r4.is
  have t4 := r4.trm
  have N4a := ha.up r4.bel
  have N4n := hb.up r4.bel
  have B4 := r4.bel
  rw [eb] at hf hfe
  rw [ea] at hfe
  have Hfe := Lib.hid hfe
  clear hfe
  go_wp2_with fail
  refine (of_any 1 _ rfl (by omega) _).mono ?_
  rintro e W5 ⟨A5, n5, c5, x5, rfl, r5⟩
  have l5 := r5.le (k := 1) (by omega)
  have v5 := r5.is
  have t5 := r5.trm
  have N5a := N4a.up r5.bel
  have N5n := N4n.up r5.bel
  have N5x := r4.nt.up r5.bel
  have B5 := bthen B4 r5.bel
  go_wp2_with fail
  refine (mgcd_any N5a N5n (by omega) (by omega)).mono ?_
  rintro e W6 ⟨A6, n6, c6, x6, rfl, r6⟩
  rw [ea, eb, Hg.out] at r6
  have l6 := r6.le (k := 1) (by omega)
  have v6 := r6.is
  have t6 := r6.trm
  have N6a := N5a.up r6.bel
  have N6n := N5n.up r6.bel
  have N6x := N5x.up r6.bel
  have N6one := r5.nt.up r6.bel
  have B6 := bthen B5 r6.bel
  go_wp2_with fail
  refine (cmp_eq r6.nt N6one (by rw [v6, v5])).mono ?_
  rintro e W7 ⟨rfl, d7, rfl⟩
  have N7a := N6a.dr d7
  have N7n := N6n.dr d7
  have N7x := N6x.dr d7
  have N7one := N6one.dr d7
  have N7g := r6.nt.dr d7
  have B7 := bdr B6 d7
  go_wp2_with fail
  refine (mmul_pos N7a N7x N7n (by omega) (by omega) (by omega) (by rw [eb]; omega)).mono ?_
  rintro e W8 ⟨A8, n8, c8, x8, rfl, r8⟩
  rw [ea, eb, v4, Hfe.out] at r8
  have l8 := r8.le (k := 5) (by exact Nat.lt_trans (Nat.mod_lt _ hb0) pb)
  have v8 := r8.is
  have t8 := r8.trm
  have N8a := N7a.up r8.bel
  have N8n := N7n.up r8.bel
  have N8x := N7x.up r8.bel
  have N8one := N7one.up r8.bel
  have B8 := bthen B7 r8.bel
  go_wp2_with fail
  refine (mod_pos N8one N8n (by omega) (by rw [eb]; omega)).mono ?_
  rintro e W9 ⟨A9, n9, c9, x9, rfl, r9⟩
  rw [eb, v5] at r9
  have l9 := r9.le (k := 5) (by exact Nat.lt_trans (Nat.mod_lt _ hb0) pb)
  have v9 := r9.is
  have t9 := r9.trm
  have N9a := N8a.up r9.bel
  have N9n := N8n.up r9.bel
  have N9x := N8x.up r9.bel
  have N9one := N8one.up r9.bel
  have N9p := r8.nt.up r9.bel
  have B9 := bthen B8 r9.bel
  go_wp2_with fail
  refine (alive_any _).mono ?_
  rintro e W10 ⟨rfl, b10⟩
  have N10a := N9a.up b10
  have N10n := N9n.up b10
  have N10x := N9x.up b10
  have N10one := N9one.up b10
  have N10p := N9p.up b10
  have N10q := r9.nt.up b10
  have B10 := bthen B9 b10
  go_wp2_with fail
  refine (cmp_lt N10x N10n (by rw [v4, eb]; exact hf)).mono ?_
  rintro e W11 ⟨rfl, d11, rfl⟩
  have N11a := N10a.dr d11
  have N11n := N10n.dr d11
  have N11x := N10x.dr d11
  have N11one := N10one.dr d11
  have N11p := N10p.dr d11
  have N11q := N10q.dr d11
  have B11 := bdr B10 d11
  go_wp2_with fail
  refine (same_yes N11p N11q (trm_same t8 t9 N11p.lim N11q.lim (by rw [v8, v9]))).mono ?_
  rintro e W12 ⟨rfl, d12, rfl⟩
  have N12a := N10a.dr (d11 + d12)
  have N12n := N10n.dr (d11 + d12)
  have N12x := N10x.dr (d11 + d12)
  have N12one := N10one.dr (d11 + d12)
  have N12p := N10p.dr (d11 + d12)
  have N12q := N10q.dr (d11 + d12)
  have B12 := bdr B10 (d11 + d12)
  go_wp2_with fail
  go_ret
  exact ⟨rfl, B12⟩

set_option maxRecDepth 100000 in
theorem lifted (os : Os) (started : os.Started) (H : Type) (enc : TypeId × Value → H) :
    ReturnsInHanded {} Try.checked os 8 .any (Rows.modnBackSpec.pre6 enc Try.prog Try.f8 Rows.modnBackRow.domain false) (Rows.modnBackSpec.post enc Try.prog Try.f8 false true false false) := by
  refine returnsInHanded_of_change (C := Try.checked) own started (by kernel_rfl) Try.func8
    (ChangeSpec.witness6 (enc := enc) (C := Try.checked) false ⟨#[], #[.slice none 0 0, .slice none 0 0], []⟩ 8 (by kernel_rfl) (by kernel_rfl) (by kernel_rfl) (by kernel_rfl)) ?_
  intro W base args ds gs before hval0 hW hcnd _
  have hval : ∀ (j : Nat) t v, Try.f8.params[j]? = some t → args[j]? = some v → Value.okWide Try.prog W .any base t v := hval0
  have hW' := hW
  obtain ⟨p, q, hA0, hV, rfl, hfz, hnd⟩ := hW
  have hA : DataW.TrodAll enc Try.prog W 0 (fun _ => true) true Try.f8.params.toList args.toList ds p := hA0
  rw [Try.params8] at hA hval
  obtain ⟨v0, vs0, d0, ds0, p0, q0, hargs, rfl, rfl, h0, r0⟩ := trodAll_cons hA
  obtain ⟨v1, vs1, d1, ds1, p1, q1, rfl, rfl, rfl, h1, r1⟩ := trodAll_cons r0
  obtain ⟨rfl, rfl, rfl⟩ := trodAll_nil r1
  obtain rfl : args = #[v0, v1] := by cases args; simp_all
  obtain ⟨rfl, rfl⟩ := trodVars_none hV
  obtain ⟨a0, len0, cap0, rfl⟩ := okWide_slice Try.underlying22 (hval 0 22 v0 rfl rfl)
  have k0 := h0
  have lt0 : ∀ x ∈ p0, x.block < W.heap.size := by obtain ⟨m, hm⟩ := k0; exact DataW.trod_lt m _ _ _ hm
  obtain ⟨z0, w0⟩ : ∃ zs, Nt W W.heap.size a0 len0 cap0 zs := by
    obtain ⟨fuel, hf⟩ := h0
    rcases open_ints Try.underlying22 Try.underlying34 (by kernel_rfl) hf with ⟨hcs, _⟩ | ⟨x, l, c, zs, hcs, _, hl, hm, hz, _, hcell, hwz⟩
    · simp [Value.cells] at hcs
      obtain ⟨rfl, rfl, rfl⟩ := hcs
      exact ⟨[], nt_nil _ _⟩
    · simp [Value.cells] at hcs
      obtain ⟨rfl, rfl, rfl⟩ := hcs
      exact ⟨_, nt_of_row hl hm (by simpa using hz) hcell hwz⟩
  obtain ⟨a1, len1, cap1, rfl⟩ := okWide_slice Try.underlying22 (hval 1 22 v1 rfl rfl)
  have k1 := h1
  have lt1 : ∀ x ∈ p1, x.block < W.heap.size := by obtain ⟨m, hm⟩ := k1; exact DataW.trod_lt m _ _ _ hm
  obtain ⟨z1, w1⟩ : ∃ zs, Nt W W.heap.size a1 len1 cap1 zs := by
    obtain ⟨fuel, hf⟩ := h1
    rcases open_ints Try.underlying22 Try.underlying34 (by kernel_rfl) hf with ⟨hcs, _⟩ | ⟨x, l, c, zs, hcs, _, hl, hm, hz, _, hcell, hwz⟩
    · simp [Value.cells] at hcs
      obtain ⟨rfl, rfl, rfl⟩ := hcs
      exact ⟨[], nt_nil _ _⟩
    · simp [Value.cells] at hcs
      obtain ⟨rfl, rfl, rfl⟩ := hcs
      exact ⟨_, nt_of_row hl hm (by simpa using hz) hcell hwz⟩
  clear hA0 hval0
  refine (law_any w0 w1).mono fun e W' ⟨he, bel⟩ => ?_
  subst he
  exact ⟨_, rfl, _, _, _, [], _, [], hW', trodAll_mk1 (shut_bool Try.underlying4 _), (trodAll_cons_mk (Below.trod laidOut (by kernel_rfl) (of_decide_eq_true (by kernel_rfl)) k0 bel lt0) (trodAll_cons_mk (Below.trod laidOut (by kernel_rfl) (of_decide_eq_true (by kernel_rfl)) k1 bel lt1) trodAll_mk0)), rfl, bel.frame _, fun h => by cases h⟩

theorem modnBack_holds : Rows.ModnBackSaid :=
  OpenClaim.holds_of_wide 8 Try.f8 rfl rfl rfl rfl rfl rfl rfl ⟨rfl, rfl, rfl, rfl, rfl⟩ rfl rfl rfl rfl rfl (by kernel_rfl) Try.func8 (by kernel_rfl)
    (of_decide_eq_true (by kernel_rfl)) (by unfold Func.isWrapper; first | (rw [if_pos (by decide +kernel)]; kernel_rfl) | (rw [if_neg (by decide +kernel)]; exact ⟨rfl, rfl⟩))
    (fun os started H enc _ => lifted os started H enc)
#print axioms modnBack_holds
end Go.Proofs.Ytmenflhaoejkfaa.modnBackP
