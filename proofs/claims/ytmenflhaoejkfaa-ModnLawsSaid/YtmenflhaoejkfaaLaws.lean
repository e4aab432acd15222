/- For every five rows of limbs the Go function ModnLaws returns true and leaves its arguments as they were. No condition. -/
import Derived.Test.YtmenflhaoejkfaaAlive
namespace Go.Proofs.Ytmenflhaoejkfaa.modnLawsP
open Go.ChangeShapes Go.WideShapes Go.ChangeAt Go.RowKit
set_option linter.unusedVariables false

set_option maxRecDepth 100000
set_option maxHeartbeats 8000000 in
theorem law_any {w : World} {A B C D E : Option Addr} {na ca nb cb ne ce nf cf nn cn : Nat} {x1 x2 x3 x4 x5 : List Nat} (ha : Nt w w.heap.size A na ca x1) (hb : Nt w w.heap.size B nb cb x2) (he : Nt w w.heap.size C ne ce x3) (hf : Nt w w.heap.size D nf cf x4) (hn : Nt w w.heap.size E nn cn x5) :
    Calls Try.prog 7 #[.slice A na ca, .slice B nb cb, .slice C ne ce, .slice D nf cf, .slice E nn cn] w (Yes w) := by
  have hra := ha.rooms
  have hrb := hb.rooms
  have hre := he.rooms
  have hrf := hf.rooms
  have hrn := hn.rooms
  by_cases ya : 5 < na
  · go_enter Try.func7, Try.ntmps7
    go_wp2_with fail
    refine (heavy_yes A na ca (by omega) (by omega) _).mono ?_
    rintro e W1 ⟨rfl, rfl⟩
    go_wp2_with fail
    refine (alive_any _).mono ?_
    rintro e W2 ⟨rfl, b2⟩
    have B2 := b2
    go_wp2_with fail
    go_ret
    exact ⟨rfl, B2⟩
  by_cases yb : 5 < nb
  · go_enter Try.func7, Try.ntmps7
    go_wp2_with fail
    refine (heavy_no A na ca (by omega) _).mono ?_
    rintro e W1 ⟨rfl, rfl⟩
    go_wp2_with fail
    refine (heavy_yes B nb cb (by omega) (by omega) _).mono ?_
    rintro e W2 ⟨rfl, rfl⟩
    go_wp2_with fail
    refine (alive_any _).mono ?_
    rintro e W3 ⟨rfl, b3⟩
    have B3 := b3
    go_wp2_with fail
    go_ret
    exact ⟨rfl, B3⟩
  by_cases yn : 5 < nn
  · go_enter Try.func7, Try.ntmps7
    go_wp2_with fail
    refine (heavy_no A na ca (by omega) _).mono ?_
    rintro e W1 ⟨rfl, rfl⟩
    go_wp2_with fail
    refine (heavy_no B nb cb (by omega) _).mono ?_
    rintro e W2 ⟨rfl, rfl⟩
    go_wp2_with fail
    refine (heavy_yes E nn cn (by omega) (by omega) _).mono ?_
    rintro e W3 ⟨rfl, rfl⟩
    go_wp2_with fail
    refine (alive_any _).mono ?_
    rintro e W4 ⟨rfl, b4⟩
    have B4 := b4
    go_wp2_with fail
    go_ret
    exact ⟨rfl, B4⟩
  by_cases ye : 2 < ne
  · have ge : decide ((2 : Int) < (ne : Int)) = true := by simp; omega
    go_enter Try.func7, Try.ntmps7
    go_wp2_with fail
    refine (heavy_no A na ca (by omega) _).mono ?_
    rintro e W1 ⟨rfl, rfl⟩
    go_wp2_with fail
    refine (heavy_no B nb cb (by omega) _).mono ?_
    rintro e W2 ⟨rfl, rfl⟩
    go_wp2_with fail
    refine (heavy_no E nn cn (by omega) _).mono ?_
    rintro e W3 ⟨rfl, rfl⟩
    go_wp2_with fail
    refine (alive_any _).mono ?_
    rintro e W4 ⟨rfl, b4⟩
    have B4 := b4
    go_wp2_with fail
    go_ret
    exact ⟨rfl, B4⟩
  by_cases yf : 2 < nf
  · have gf : decide ((2 : Int) < (nf : Int)) = true := by simp; omega
    have ge : decide ((2 : Int) < (ne : Int)) = false := by simp; omega
    go_enter Try.func7, Try.ntmps7
    go_wp2_with fail
    refine (heavy_no A na ca (by omega) _).mono ?_
    rintro e W1 ⟨rfl, rfl⟩
    go_wp2_with fail
    refine (heavy_no B nb cb (by omega) _).mono ?_
    rintro e W2 ⟨rfl, rfl⟩
    go_wp2_with fail
    refine (heavy_no E nn cn (by omega) _).mono ?_
    rintro e W3 ⟨rfl, rfl⟩
    go_wp2_with fail
    refine (alive_any _).mono ?_
    rintro e W4 ⟨rfl, b4⟩
    have B4 := b4
    go_wp2_with fail
    go_ret
    exact ⟨rfl, B4⟩
  have ge : decide ((2 : Int) < (ne : Int)) = false := by simp; omega
  have gf : decide ((2 : Int) < (nf : Int)) = false := by simp; omega
  have pa := ha.below_pow (k := 5) (by omega)
  have pb := hb.below_pow (k := 5) (by omega)
  have pn := hn.below_pow (k := 5) (by omega)
  have pe := he.below_pow (k := 2) (by omega)
  have pf := hf.below_pow (k := 2) (by omega)
  obtain ⟨a, ea⟩ : ∃ a, val 18446744073709551616 x1 = a := ⟨_, rfl⟩
  obtain ⟨b, eb⟩ : ∃ b, val 18446744073709551616 x2 = b := ⟨_, rfl⟩
  obtain ⟨p, ee⟩ : ∃ p, val 18446744073709551616 x3 = p := ⟨_, rfl⟩
  obtain ⟨q, ef⟩ : ∃ q, val 18446744073709551616 x4 = q := ⟨_, rfl⟩
  obtain ⟨N, en⟩ : ∃ N, val 18446744073709551616 x5 = N := ⟨_, rfl⟩
  rw [ea] at pa
  rw [eb] at pb
  rw [ee] at pe
  rw [ef] at pf
  rw [en] at pn
  have Psum := Lib.hid (add_pow pe pf)
  have Pprod := Lib.hid (mul_pow pa pb)
  clear pa pb pe pf
  have hbits := fun W (k : Nt W W.heap.size E nn cn x5) => bits_any k (by omega)
  rw [en] at hbits
  rcases Nat.eq_zero_or_pos N with hn0 | hn0
  · go_enter Try.func7, Try.ntmps7
    go_wp2_with fail
    refine (heavy_no A na ca (by omega) _).mono ?_
    rintro e W1 ⟨rfl, rfl⟩
    go_wp2_with fail
    refine (heavy_no B nb cb (by omega) _).mono ?_
    rintro e W2 ⟨rfl, rfl⟩
    go_wp2_with fail
    refine (heavy_no E nn cn (by omega) _).mono ?_
    rintro e W3 ⟨rfl, rfl⟩
    go_wp2_with fail
    have hbz := hbits _ hn
    rw [hn0, show bl 0 = 0 by decide] at hbz
    refine (hbz).mono ?_
    rintro e W4 ⟨rfl, rfl⟩
    go_wp2_with fail
    refine (alive_any _).mono ?_
    rintro e W5 ⟨rfl, b5⟩
    have N5a := ha.up b5
    have N5b := hb.up b5
    have N5e := he.up b5
    have N5f := hf.up b5
    have N5n := hn.up b5
    have B5 := b5
    go_wp2_with fail
    go_ret
    exact ⟨rfl, B5⟩
  · go_enter Try.func7, Try.ntmps7
    go_wp2_with fail
    refine (heavy_no A na ca (by omega) _).mono ?_
    rintro e W1 ⟨rfl, rfl⟩
    go_wp2_with fail
    refine (heavy_no B nb cb (by omega) _).mono ?_
    rintro e W2 ⟨rfl, rfl⟩
    go_wp2_with fail
    refine (heavy_no E nn cn (by omega) _).mono ?_
    rintro e W3 ⟨rfl, rfl⟩
    go_wp2_with fail
    have hp := bl_pos hn0
    have hbz := hbits _ hn
    generalize bl N = k at *
    have hk : ((k : Int) == 0) = false := by simp; omega
    have Pm : Hid (∀ t, t % N < 18446744073709551616 ^ 5) := fun t => Nat.lt_trans (Nat.mod_lt _ hn0) pn
    refine (hbz).mono ?_
    rintro e W4 ⟨rfl, rfl⟩
    go_wp2_with fail
    refine (mpow_pos ha he hn (by omega) (by omega) (by omega) (by rw [en]; exact hn0)).mono ?_
    rintro e W5 ⟨A5, n5, c5, x5, rfl, r5⟩
    rw [ea, ee, en] at r5
    have l5 := r5.le (k := 5) (Pm.out _)
    have v5 := r5.is
    have t5 := r5.trm
    have N5a := ha.up r5.bel
    have N5b := hb.up r5.bel
    have N5e := he.up r5.bel
    have N5f := hf.up r5.bel
    have N5n := hn.up r5.bel
    have B5 := r5.bel
    go_wp2_with fail
    refine (mpow_pos N5a N5f N5n (by omega) (by omega) (by omega) (by rw [en]; exact hn0)).mono ?_
    rintro e W6 ⟨A6, n6, c6, x6, rfl, r6⟩
    rw [ea, ef, en] at r6
    have l6 := r6.le (k := 5) (Pm.out _)
    have v6 := r6.is
    have t6 := r6.trm
    have N6a := N5a.up r6.bel
    have N6b := N5b.up r6.bel
    have N6e := N5e.up r6.bel
    have N6f := N5f.up r6.bel
    have N6n := N5n.up r6.bel
    have N6x := r5.nt.up r6.bel
    have B6 := bthen B5 r6.bel
    go_wp2_with fail
    refine (add_any N6e N6f (by omega) (by omega)).mono ?_
    rintro e W7 ⟨A7, n7, c7, x7, rfl, r7⟩
    rw [ee, ef] at r7
    have l7 := r7.le (k := 3) (Psum.out)
    have v7 := r7.is
    have t7 := r7.trm
    have N7a := N6a.up r7.bel
    have N7b := N6b.up r7.bel
    have N7e := N6e.up r7.bel
    have N7f := N6f.up r7.bel
    have N7n := N6n.up r7.bel
    have N7x := N6x.up r7.bel
    have N7y := r6.nt.up r7.bel
    have B7 := bthen B6 r7.bel
    go_wp2_with fail
    refine (mpow_pos N7a r7.nt N7n (by omega) (by omega) (by omega) (by rw [en]; exact hn0)).mono ?_
    rintro e W8 ⟨A8, n8, c8, x8, rfl, r8⟩
    rw [ea, v7, en] at r8
    have l8 := r8.le (k := 5) (Pm.out _)
    have v8 := r8.is
    have t8 := r8.trm
    have N8a := N7a.up r8.bel
    have N8b := N7b.up r8.bel
    have N8e := N7e.up r8.bel
    have N8f := N7f.up r8.bel
    have N8n := N7n.up r8.bel
    have N8x := N7x.up r8.bel
    have N8y := N7y.up r8.bel
    have N8ef := r7.nt.up r8.bel
    have B8 := bthen B7 r8.bel
    go_wp2_with fail
    refine (mmul_pos N8x N8y N8n (by omega) (by omega) (by omega) (by rw [en]; exact hn0)).mono ?_
    rintro e W9 ⟨A9, n9, c9, x9, rfl, r9⟩
    rw [v5, v6, en, ← Nat.mul_mod, ← Nat.pow_add] at r9
    have l9 := r9.le (k := 5) (Pm.out _)
    have v9 := r9.is
    have t9 := r9.trm
    have N9a := N8a.up r9.bel
    have N9b := N8b.up r9.bel
    have N9e := N8e.up r9.bel
    have N9f := N8f.up r9.bel
    have N9n := N8n.up r9.bel
    have N9x := N8x.up r9.bel
    have N9y := N8y.up r9.bel
    have N9ef := N8ef.up r9.bel
    have N9both := r8.nt.up r9.bel
    have B9 := bthen B8 r9.bel
    go_wp2_with fail
    refine (mpow_pos N9b N9e N9n (by omega) (by omega) (by omega) (by rw [en]; exact hn0)).mono ?_
    rintro e W10 ⟨A10, n10, c10, x10, rfl, r10⟩
    rw [eb, ee, en] at r10
    have l10 := r10.le (k := 5) (Pm.out _)
    have v10 := r10.is
    have t10 := r10.trm
    have N10a := N9a.up r10.bel
    have N10b := N9b.up r10.bel
    have N10e := N9e.up r10.bel
    have N10f := N9f.up r10.bel
    have N10n := N9n.up r10.bel
    have N10x := N9x.up r10.bel
    have N10y := N9y.up r10.bel
    have N10ef := N9ef.up r10.bel
    have N10both := N9both.up r10.bel
    have N10xy := r9.nt.up r10.bel
    have B10 := bthen B9 r10.bel
    go_wp2_with fail
    refine (mmul_pos N10x r10.nt N10n (by omega) (by omega) (by omega) (by rw [en]; exact hn0)).mono ?_
    rintro e W11 ⟨A11, n11, c11, x11, rfl, r11⟩
    rw [v5, v10, en, ← Nat.mul_mod, ← Nat.mul_pow] at r11
    have l11 := r11.le (k := 5) (Pm.out _)
    have v11 := r11.is
    have t11 := r11.trm
    have N11a := N10a.up r11.bel
    have N11b := N10b.up r11.bel
    have N11e := N10e.up r11.bel
    have N11f := N10f.up r11.bel
    have N11n := N10n.up r11.bel
    have N11x := N10x.up r11.bel
    have N11y := N10y.up r11.bel
    have N11ef := N10ef.up r11.bel
    have N11both := N10both.up r11.bel
    have N11xy := N10xy.up r11.bel
    have N11z := r10.nt.up r11.bel
    have B11 := bthen B10 r11.bel
    go_wp2_with fail
    refine (mul_any N11a N11b (by omega) (by omega)).mono ?_
    rintro e W12 ⟨A12, n12, c12, x12, rfl, r12⟩
    rw [ea, eb] at r12
    have l12 := r12.le (k := 10) (Pprod.out)
    have v12 := r12.is
    have t12 := r12.trm
    have N12a := N11a.up r12.bel
    have N12b := N11b.up r12.bel
    have N12e := N11e.up r12.bel
    have N12f := N11f.up r12.bel
    have N12n := N11n.up r12.bel
    have N12x := N11x.up r12.bel
    have N12y := N11y.up r12.bel
    have N12ef := N11ef.up r12.bel
    have N12both := N11both.up r12.bel
    have N12xy := N11xy.up r12.bel
    have N12z := N11z.up r12.bel
    have N12xz := r11.nt.up r12.bel
    have B12 := bthen B11 r12.bel
    go_wp2_with fail
    refine (mpow_pos r12.nt N12e N12n (by omega) (by omega) (by omega) (by rw [en]; exact hn0)).mono ?_
    rintro e W13 ⟨A13, n13, c13, x13, rfl, r13⟩
    rw [v12, ee, en] at r13
    have l13 := r13.le (k := 5) (Pm.out _)
    have v13 := r13.is
    have t13 := r13.trm
    have N13a := N12a.up r13.bel
    have N13b := N12b.up r13.bel
    have N13e := N12e.up r13.bel
    have N13f := N12f.up r13.bel
    have N13n := N12n.up r13.bel
    have N13x := N12x.up r13.bel
    have N13y := N12y.up r13.bel
    have N13ef := N12ef.up r13.bel
    have N13both := N12both.up r13.bel
    have N13xy := N12xy.up r13.bel
    have N13z := N12z.up r13.bel
    have N13xz := N12xz.up r13.bel
    have N13ab := r12.nt.up r13.bel
    have B13 := bthen B12 r13.bel
    go_wp2_with fail
    refine (alive_any _).mono ?_
    rintro e W14 ⟨rfl, b14⟩
    have N14a := N13a.up b14
    have N14b := N13b.up b14
    have N14e := N13e.up b14
    have N14f := N13f.up b14
    have N14n := N13n.up b14
    have N14x := N13x.up b14
    have N14y := N13y.up b14
    have N14ef := N13ef.up b14
    have N14both := N13both.up b14
    have N14xy := N13xy.up b14
    have N14z := N13z.up b14
    have N14xz := N13xz.up b14
    have N14ab := N13ab.up b14
    have N14prod := r13.nt.up b14
    have B14 := bthen B13 b14
    go_wp2_with fail
    refine (same_yes N14xy N14both (trm_same t9 t8 N14xy.lim N14both.lim (by rw [v9, v8]))).mono ?_
    rintro e W15 ⟨rfl, d15, rfl⟩
    have N15a := N14a.dr d15
    have N15b := N14b.dr d15
    have N15e := N14e.dr d15
    have N15f := N14f.dr d15
    have N15n := N14n.dr d15
    have N15x := N14x.dr d15
    have N15y := N14y.dr d15
    have N15ef := N14ef.dr d15
    have N15both := N14both.dr d15
    have N15xy := N14xy.dr d15
    have N15z := N14z.dr d15
    have N15xz := N14xz.dr d15
    have N15ab := N14ab.dr d15
    have N15prod := N14prod.dr d15
    have B15 := bdr B14 d15
    go_wp2_with fail
    refine (same_yes N15xz N15prod (trm_same t11 t13 N15xz.lim N15prod.lim (by rw [v11, v13]))).mono ?_
    rintro e W16 ⟨rfl, d16, rfl⟩
    have N16a := N14a.dr (d15 + d16)
    have N16b := N14b.dr (d15 + d16)
    have N16e := N14e.dr (d15 + d16)
    have N16f := N14f.dr (d15 + d16)
    have N16n := N14n.dr (d15 + d16)
    have N16x := N14x.dr (d15 + d16)
    have N16y := N14y.dr (d15 + d16)
    have N16ef := N14ef.dr (d15 + d16)
    have N16both := N14both.dr (d15 + d16)
    have N16xy := N14xy.dr (d15 + d16)
    have N16z := N14z.dr (d15 + d16)
    have N16xz := N14xz.dr (d15 + d16)
    have N16ab := N14ab.dr (d15 + d16)
    have N16prod := N14prod.dr (d15 + d16)
    have B16 := bdr B14 (d15 + d16)
    go_wp2_with fail
    go_ret
    exact ⟨rfl, B16⟩

set_option maxRecDepth 100000 in
theorem lifted (os : Os) (started : os.Started) (H : Type) (enc : TypeId × Value → H) :
    ReturnsInHanded {} Try.checked os 7 .any (Rows.modnLawsSpec.pre6 enc Try.prog Try.f7 Rows.modnLawsRow.domain false) (Rows.modnLawsSpec.post enc Try.prog Try.f7 false true false false) := by
  refine returnsInHanded_of_change (C := Try.checked) own started (by kernel_rfl) Try.func7
    (ChangeSpec.witness6 (enc := enc) (C := Try.checked) false ⟨#[], #[.slice none 0 0, .slice none 0 0, .slice none 0 0, .slice none 0 0, .slice none 0 0], []⟩ 8 (by kernel_rfl) (by kernel_rfl) (by kernel_rfl) (by kernel_rfl)) ?_
  intro W base args ds gs before hval0 hW hcnd _
  have hval : ∀ (j : Nat) t v, Try.f7.params[j]? = some t → args[j]? = some v → Value.okWide Try.prog W .any base t v := hval0
  have hW' := hW
  obtain ⟨p, q, hA0, hV, rfl, hfz, hnd⟩ := hW
  have hA : DataW.TrodAll enc Try.prog W 0 (fun _ => true) true Try.f7.params.toList args.toList ds p := hA0
  rw [Try.params7] at hA hval
  obtain ⟨v0, vs0, d0, ds0, p0, q0, hargs, rfl, rfl, h0, r0⟩ := trodAll_cons hA
  obtain ⟨v1, vs1, d1, ds1, p1, q1, rfl, rfl, rfl, h1, r1⟩ := trodAll_cons r0
  obtain ⟨v2, vs2, d2, ds2, p2, q2, rfl, rfl, rfl, h2, r2⟩ := trodAll_cons r1
  obtain ⟨v3, vs3, d3, ds3, p3, q3, rfl, rfl, rfl, h3, r3⟩ := trodAll_cons r2
  obtain ⟨v4, vs4, d4, ds4, p4, q4, rfl, rfl, rfl, h4, r4⟩ := trodAll_cons r3
  obtain ⟨rfl, rfl, rfl⟩ := trodAll_nil r4
  obtain rfl : args = #[v0, v1, v2, v3, v4] := by cases args; simp_all
  obtain ⟨rfl, rfl⟩ := trodVars_none hV
  obtain ⟨a0, len0, cap0, rfl⟩ := okWide_slice Try.underlying22 (hval 0 22 v0 rfl rfl)
  have k0 := h0
  have lt0 : ∀ x ∈ p0, x.block < W.heap.size := by obtain ⟨m, hm⟩ := k0; exact DataW.trod_lt m _ _ _ hm
  obtain ⟨z0, w0⟩ : ∃ zs, Nt W W.heap.size a0 len0 cap0 zs := by
    obtain ⟨fuel, hf⟩ := h0
    rcases open_ints Try.underlying22 Try.underlying34 (by kernel_rfl) hf with ⟨hcs, _⟩ | ⟨x, l, c, zs, hcs, _, hl, hm, hz, _, hcell, hwz⟩
    · simp [Value.cells] at hcs
      obtain ⟨rfl, rfl, rfl⟩ := hcs
      exact ⟨[], nt_nil _ _⟩
    · simp [Value.cells] at hcs
      obtain ⟨rfl, rfl, rfl⟩ := hcs
      exact ⟨_, nt_of_row hl hm (by simpa using hz) hcell hwz⟩
  obtain ⟨a1, len1, cap1, rfl⟩ := okWide_slice Try.underlying22 (hval 1 22 v1 rfl rfl)
  have k1 := h1
  have lt1 : ∀ x ∈ p1, x.block < W.heap.size := by obtain ⟨m, hm⟩ := k1; exact DataW.trod_lt m _ _ _ hm
  obtain ⟨z1, w1⟩ : ∃ zs, Nt W W.heap.size a1 len1 cap1 zs := by
    obtain ⟨fuel, hf⟩ := h1
    rcases open_ints Try.underlying22 Try.underlying34 (by kernel_rfl) hf with ⟨hcs, _⟩ | ⟨x, l, c, zs, hcs, _, hl, hm, hz, _, hcell, hwz⟩
    · simp [Value.cells] at hcs
      obtain ⟨rfl, rfl, rfl⟩ := hcs
      exact ⟨[], nt_nil _ _⟩
    · simp [Value.cells] at hcs
      obtain ⟨rfl, rfl, rfl⟩ := hcs
      exact ⟨_, nt_of_row hl hm (by simpa using hz) hcell hwz⟩
  obtain ⟨a2, len2, cap2, rfl⟩ := okWide_slice Try.underlying22 (hval 2 22 v2 rfl rfl)
  have k2 := h2
  have lt2 : ∀ x ∈ p2, x.block < W.heap.size := by obtain ⟨m, hm⟩ := k2; exact DataW.trod_lt m _ _ _ hm
  obtain ⟨z2, w2⟩ : ∃ zs, Nt W W.heap.size a2 len2 cap2 zs := by
    obtain ⟨fuel, hf⟩ := h2
    rcases open_ints Try.underlying22 Try.underlying34 (by kernel_rfl) hf with ⟨hcs, _⟩ | ⟨x, l, c, zs, hcs, _, hl, hm, hz, _, hcell, hwz⟩
    · simp [Value.cells] at hcs
      obtain ⟨rfl, rfl, rfl⟩ := hcs
      exact ⟨[], nt_nil _ _⟩
    · simp [Value.cells] at hcs
      obtain ⟨rfl, rfl, rfl⟩ := hcs
      exact ⟨_, nt_of_row hl hm (by simpa using hz) hcell hwz⟩
  obtain ⟨a3, len3, cap3, rfl⟩ := okWide_slice Try.underlying22 (hval 3 22 v3 rfl rfl)
  have k3 := h3
  have lt3 : ∀ x ∈ p3, x.block < W.heap.size := by obtain ⟨m, hm⟩ := k3; exact DataW.trod_lt m _ _ _ hm
  obtain ⟨z3, w3⟩ : ∃ zs, Nt W W.heap.size a3 len3 cap3 zs := by
    obtain ⟨fuel, hf⟩ := h3
    rcases open_ints Try.underlying22 Try.underlying34 (by kernel_rfl) hf with ⟨hcs, _⟩ | ⟨x, l, c, zs, hcs, _, hl, hm, hz, _, hcell, hwz⟩
    · simp [Value.cells] at hcs
      obtain ⟨rfl, rfl, rfl⟩ := hcs
      exact ⟨[], nt_nil _ _⟩
    · simp [Value.cells] at hcs
      obtain ⟨rfl, rfl, rfl⟩ := hcs
      exact ⟨_, nt_of_row hl hm (by simpa using hz) hcell hwz⟩
  obtain ⟨a4, len4, cap4, rfl⟩ := okWide_slice Try.underlying22 (hval 4 22 v4 rfl rfl)
  have k4 := h4
  have lt4 : ∀ x ∈ p4, x.block < W.heap.size := by obtain ⟨m, hm⟩ := k4; exact DataW.trod_lt m _ _ _ hm
  obtain ⟨z4, w4⟩ : ∃ zs, Nt W W.heap.size a4 len4 cap4 zs := by
    obtain ⟨fuel, hf⟩ := h4
    rcases open_ints Try.underlying22 Try.underlying34 (by kernel_rfl) hf with ⟨hcs, _⟩ | ⟨x, l, c, zs, hcs, _, hl, hm, hz, _, hcell, hwz⟩
    · simp [Value.cells] at hcs
      obtain ⟨rfl, rfl, rfl⟩ := hcs
      exact ⟨[], nt_nil _ _⟩
    · simp [Value.cells] at hcs
      obtain ⟨rfl, rfl, rfl⟩ := hcs
      exact ⟨_, nt_of_row hl hm (by simpa using hz) hcell hwz⟩
  clear hA0 hval0
  refine (law_any w0 w1 w2 w3 w4).mono fun e W' ⟨he, bel⟩ => ?_
  subst he
  exact ⟨_, rfl, _, _, _, [], _, [], hW', trodAll_mk1 (shut_bool Try.underlying4 _), (trodAll_cons_mk (Below.trod laidOut (by kernel_rfl) (of_decide_eq_true (by kernel_rfl)) k0 bel lt0) (trodAll_cons_mk (Below.trod laidOut (by kernel_rfl) (of_decide_eq_true (by kernel_rfl)) k1 bel lt1) (trodAll_cons_mk (Below.trod laidOut (by kernel_rfl) (of_decide_eq_true (by kernel_rfl)) k2 bel lt2) (trodAll_cons_mk (Below.trod laidOut (by kernel_rfl) (of_decide_eq_true (by kernel_rfl)) k3 bel lt3) (trodAll_cons_mk (Below.trod laidOut (by kernel_rfl) (of_decide_eq_true (by kernel_rfl)) k4 bel lt4) trodAll_mk0))))), rfl, bel.frame _, fun h => by cases h⟩

theorem modnLaws_holds : Rows.ModnLawsSaid :=
  OpenClaim.holds_of_wide 7 Try.f7 rfl rfl rfl rfl rfl rfl rfl ⟨rfl, rfl, rfl, rfl, rfl⟩ rfl rfl rfl rfl rfl (by kernel_rfl) Try.func7 (by kernel_rfl)
    (of_decide_eq_true (by kernel_rfl)) (by unfold Func.isWrapper; first | (rw [if_pos (by decide +kernel)]; kernel_rfl) | (rw [if_neg (by decide +kernel)]; exact ⟨rfl, rfl⟩))
    (fun os started H enc _ => lifted os started H enc)
#print axioms modnLaws_holds
end Go.Proofs.Ytmenflhaoejkfaa.modnLawsP
