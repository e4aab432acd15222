/- For every three rows of limbs the Go function ModnCommon returns true and leaves its arguments as they were. No condition. -/
import Derived.Test.YtmenflhaoejkfaaAlive
namespace Go.Proofs.Ytmenflhaoejkfaa.modnCommonP
open Go.ChangeShapes Go.WideShapes Go.ChangeAt Go.RowKit
set_option linter.unusedVariables false

theorem gcd_less {a b X : Nat} (ha : a < X) (hb : b < X) : Nat.gcd a b < X := by
  rcases Nat.eq_zero_or_pos a with rfl | h
  · rw [Nat.gcd_zero_left]; exact hb
  · exact Nat.lt_of_le_of_lt (Nat.le_of_dvd h (Nat.gcd_dvd_left a b)) ha
set_option maxRecDepth 100000
set_option maxHeartbeats 4000000 in
theorem law_any {w : World} {A B C : Option Addr} {na ca nb cb nc cc : Nat} {x y z : List Nat} (ha : Nt w w.heap.size A na ca x) (hb : Nt w w.heap.size B nb cb y) (hc : Nt w w.heap.size C nc cc z) :
    Calls Try.prog 9 #[.slice A na ca, .slice B nb cb, .slice C nc cc] w (Yes w) := by
  have hra := ha.rooms
  have hrb := hb.rooms
  have hrc := hc.rooms
  by_cases y0 : 5 < na
  · go_enter Try.func9, Try.ntmps9
    go_wp2_with fail
    refine (heavy_yes A na ca (by omega) (by omega) _).mono ?_
    rintro e W1 ⟨rfl, rfl⟩
    go_wp2_with fail
    refine (alive_any _).mono ?_
    rintro e W2 ⟨rfl, b2⟩
    have B2 := b2
    go_wp2_with fail
    go_ret
    exact ⟨rfl, B2⟩
  by_cases y1 : 5 < nb
  · go_enter Try.func9, Try.ntmps9
    go_wp2_with fail
    refine (heavy_no A na ca (by omega) _).mono ?_
    rintro e W1 ⟨rfl, rfl⟩
    go_wp2_with fail
    refine (heavy_yes B nb cb (by omega) (by omega) _).mono ?_
    rintro e W2 ⟨rfl, rfl⟩
    go_wp2_with fail
    refine (alive_any _).mono ?_
    rintro e W3 ⟨rfl, b3⟩
    have B3 := b3
    go_wp2_with fail
    go_ret
    exact ⟨rfl, B3⟩
  by_cases y2 : 5 < nc
  · go_enter Try.func9, Try.ntmps9
    go_wp2_with fail
    refine (heavy_no A na ca (by omega) _).mono ?_
    rintro e W1 ⟨rfl, rfl⟩
    go_wp2_with fail
    refine (heavy_no B nb cb (by omega) _).mono ?_
    rintro e W2 ⟨rfl, rfl⟩
    go_wp2_with fail
    refine (heavy_yes C nc cc (by omega) (by omega) _).mono ?_
    rintro e W3 ⟨rfl, rfl⟩
    go_wp2_with fail
    refine (alive_any _).mono ?_
    rintro e W4 ⟨rfl, b4⟩
    have B4 := b4
    go_wp2_with fail
    go_ret
    exact ⟨rfl, B4⟩
  have pa := ha.below_pow (k := 5) (by omega)
  have pb := hb.below_pow (k := 5) (by omega)
  have pc := hc.below_pow (k := 5) (by omega)
  obtain ⟨a, ea⟩ : ∃ a, val 18446744073709551616 x = a := ⟨_, rfl⟩
  obtain ⟨b, eb⟩ : ∃ b, val 18446744073709551616 y = b := ⟨_, rfl⟩
  obtain ⟨c, ec⟩ : ∃ c, val 18446744073709551616 z = c := ⟨_, rfl⟩
  rw [ea] at pa
  rw [eb] at pb
  rw [ec] at pc
  have pg := gcd_less pa pb
  have pac := mul_pow pa pc
  have pbc := mul_pow pb pc
  have pgc := mul_pow pg pc
  have hcomm := Nat.gcd_comm b a
  have hmul := Nat.gcd_mul_right a c b
  have da := Nat.mod_eq_zero_of_dvd (Nat.gcd_dvd_left a b)
  have db := Nat.mod_eq_zero_of_dvd (Nat.gcd_dvd_right a b)
  obtain ⟨g, hg⟩ : ∃ g, Nat.gcd a b = g := ⟨_, rfl⟩
  rw [hg] at pg pgc hcomm hmul da db
  have Hcomm := Lib.hid hcomm
  have Hmul := Lib.hid hmul
  have Hda := Lib.hid da
  have Hdb := Lib.hid db
  have Hg := Lib.hid hg
  have Pgc := Lib.hid pgc
  have Pac := Lib.hid pac
  have Pbc := Lib.hid pbc
  clear hcomm hmul da db hg pgc pac pbc
  rcases Nat.eq_zero_or_pos g with hg0 | hg0
  · go_enter Try.func9, Try.ntmps9
    go_wp2_with fail
    refine (heavy_no A na ca (by omega) _).mono ?_
    rintro e W1 ⟨rfl, rfl⟩
    go_wp2_with fail
    refine (heavy_no B nb cb (by omega) _).mono ?_
    rintro e W2 ⟨rfl, rfl⟩
    go_wp2_with fail
    refine (heavy_no C nc cc (by omega) _).mono ?_
    rintro e W3 ⟨rfl, rfl⟩
    go_wp2_with fail
    refine (mgcd_any ha hb (by omega) (by omega)).mono ?_
    rintro e W4 ⟨A4, n4, c4, x4, rfl, r4⟩
    rw [ea, eb, Hg.out] at r4
    have l4 := r4.le (k := 5) (pg)
    have v4 := r4.is
    have t4 := r4.trm
    have N4a := ha.up r4.bel
    have N4b := hb.up r4.bel
    have N4c := hc.up r4.bel
    have B4 := r4.bel
    go_wp2_with fail
    have hbz := bits_any r4.nt (by omega)
    rw [v4] at hbz
    rw [hg0, show bl 0 = 0 by decide] at hbz
    refine (hbz).mono ?_
    rintro e W5 ⟨rfl, rfl⟩
    go_wp2_with fail
    refine (alive_any _).mono ?_
    rintro e W6 ⟨rfl, b6⟩
    have N6a := N4a.up b6
    have N6b := N4b.up b6
    have N6c := N4c.up b6
    have N6g := r4.nt.up b6
    have B6 := bthen B4 b6
    go_wp2_with fail
    refine (mul_any N6a N6c (by omega) (by omega)).mono ?_
    rintro e W7 ⟨A7, n7, c7, x7, rfl, r7⟩
    rw [ea, ec] at r7
    have l7 := r7.le (k := 10) (Pac.out)
    have v7 := r7.is
    have t7 := r7.trm
    have N7a := N6a.up r7.bel
    have N7b := N6b.up r7.bel
    have N7c := N6c.up r7.bel
    have N7g := N6g.up r7.bel
    have B7 := bthen B6 r7.bel
    go_wp2_with fail
    refine (mul_any N7b N7c (by omega) (by omega)).mono ?_
    rintro e W8 ⟨A8, n8, c8, x8, rfl, r8⟩
    rw [eb, ec] at r8
    have l8 := r8.le (k := 10) (Pbc.out)
    have v8 := r8.is
    have t8 := r8.trm
    have N8a := N7a.up r8.bel
    have N8b := N7b.up r8.bel
    have N8c := N7c.up r8.bel
    have N8g := N7g.up r8.bel
    have N8ac := r7.nt.up r8.bel
    have B8 := bthen B7 r8.bel
    go_wp2_with fail
    refine (mgcd_any N8ac r8.nt (by omega) (by omega)).mono ?_
    rintro e W9 ⟨A9, n9, c9, x9, rfl, r9⟩
    rw [v7, v8, Hmul.out] at r9
    have l9 := r9.le (k := 10) (Pgc.out)
    have v9 := r9.is
    have t9 := r9.trm
    have N9a := N8a.up r9.bel
    have N9b := N8b.up r9.bel
    have N9c := N8c.up r9.bel
    have N9g := N8g.up r9.bel
    have N9ac := N8ac.up r9.bel
    have N9bc := r8.nt.up r9.bel
    have B9 := bthen B8 r9.bel
    go_wp2_with fail
    refine (mul_any N9g N9c (by omega) (by omega)).mono ?_
    rintro e W10 ⟨A10, n10, c10, x10, rfl, r10⟩
    rw [v4, ec] at r10
    have l10 := r10.le (k := 10) (Pgc.out)
    have v10 := r10.is
    have t10 := r10.trm
    have N10a := N9a.up r10.bel
    have N10b := N9b.up r10.bel
    have N10c := N9c.up r10.bel
    have N10g := N9g.up r10.bel
    have N10ac := N9ac.up r10.bel
    have N10bc := N9bc.up r10.bel
    have N10G := r9.nt.up r10.bel
    have B10 := bthen B9 r10.bel
    go_wp2_with fail
    refine (same_yes N10G r10.nt (trm_same t9 t10 N10G.lim r10.nt.lim (by rw [v9, v10]))).mono ?_
    rintro e W11 ⟨rfl, d11, rfl⟩
    have N11a := N10a.dr d11
    have N11b := N10b.dr d11
    have N11c := N10c.dr d11
    have N11g := N10g.dr d11
    have N11ac := N10ac.dr d11
    have N11bc := N10bc.dr d11
    have N11G := N10G.dr d11
    have N11H := r10.nt.dr d11
    have B11 := bdr B10 d11
    go_wp2_with fail
    refine (mgcd_any N11b N11a (by omega) (by omega)).mono ?_
    rintro e W12 ⟨A12, n12, c12, x12, rfl, r12⟩
    rw [ea, eb, Hcomm.out] at r12
    have l12 := r12.le (k := 5) (pg)
    have v12 := r12.is
    have t12 := r12.trm
    have N12a := N11a.up r12.bel
    have N12b := N11b.up r12.bel
    have N12c := N11c.up r12.bel
    have N12g := N11g.up r12.bel
    have B12 := bthen B11 r12.bel
    go_wp2_with fail
    refine (same_yes r12.nt N12g (trm_same t12 t4 r12.nt.lim N12g.lim (by rw [v12, v4]))).mono ?_
    rintro e W13 ⟨rfl, d13, rfl⟩
    have N13a := N12a.dr d13
    have N13b := N12b.dr d13
    have N13c := N12c.dr d13
    have N13g := N12g.dr d13
    have N13k := r12.nt.dr d13
    have B13 := bdr B12 d13
    go_wp2_with fail
    go_ret
    exact ⟨rfl, B13⟩
  · go_enter Try.func9, Try.ntmps9
    go_wp2_with fail
    refine (heavy_no A na ca (by omega) _).mono ?_
    rintro e W1 ⟨rfl, rfl⟩
    go_wp2_with fail
    refine (heavy_no B nb cb (by omega) _).mono ?_
    rintro e W2 ⟨rfl, rfl⟩
    go_wp2_with fail
    refine (heavy_no C nc cc (by omega) _).mono ?_
    rintro e W3 ⟨rfl, rfl⟩
    go_wp2_with fail
    refine (mgcd_any ha hb (by omega) (by omega)).mono ?_
    rintro e W4 ⟨A4, n4, c4, x4, rfl, r4⟩
    rw [ea, eb, Hg.out] at r4
    have l4 := r4.le (k := 5) (pg)
    have v4 := r4.is
    have t4 := r4.trm
    have N4a := ha.up r4.bel
    have N4b := hb.up r4.bel
    have N4c := hc.up r4.bel
    have B4 := r4.bel
    go_wp2_with fail
    have hbz := bits_any r4.nt (by omega)
    rw [v4] at hbz
    have hp := bl_pos hg0
    generalize bl g = k at *
    have hk : decide ((0 : Int) < (k : Int)) = true := by simp; omega
    refine (hbz).mono ?_
    rintro e W5 ⟨rfl, rfl⟩
    go_wp2_with fail
    refine (mod_pos N4a r4.nt (by omega) (by rw [v4]; exact hg0)).mono ?_
    rintro e W6 ⟨A6, n6, c6, x6, rfl, r6⟩
    rw [ea, v4, Hda.out] at r6
    obtain rfl : n6 = 0 := by have := r6.le (k := 0) (by omega); omega
    have N6a := N4a.up r6.bel
    have N6b := N4b.up r6.bel
    have N6c := N4c.up r6.bel
    have N6g := r4.nt.up r6.bel
    have B6 := bthen B4 r6.bel
    go_wp2_with fail
    refine (mod_pos N6b N6g (by omega) (by rw [v4]; exact hg0)).mono ?_
    rintro e W7 ⟨A7, n7, c7, x7, rfl, r7⟩
    rw [eb, v4, Hdb.out] at r7
    obtain rfl : n7 = 0 := by have := r7.le (k := 0) (by omega); omega
    have N7a := N6a.up r7.bel
    have N7b := N6b.up r7.bel
    have N7c := N6c.up r7.bel
    have N7g := N6g.up r7.bel
    have B7 := bthen B6 r7.bel
    go_wp2_with fail
    refine (alive_any _).mono ?_
    rintro e W8 ⟨rfl, b8⟩
    have N8a := N7a.up b8
    have N8b := N7b.up b8
    have N8c := N7c.up b8
    have N8g := N7g.up b8
    have B8 := bthen B7 b8
    go_wp2_with fail
    refine (mul_any N8a N8c (by omega) (by omega)).mono ?_
    rintro e W9 ⟨A9, n9, c9, x9, rfl, r9⟩
    rw [ea, ec] at r9
    have l9 := r9.le (k := 10) (Pac.out)
    have v9 := r9.is
    have t9 := r9.trm
    have N9a := N8a.up r9.bel
    have N9b := N8b.up r9.bel
    have N9c := N8c.up r9.bel
    have N9g := N8g.up r9.bel
    have B9 := bthen B8 r9.bel
    go_wp2_with fail
    refine (mul_any N9b N9c (by omega) (by omega)).mono ?_
    rintro e W10 ⟨A10, n10, c10, x10, rfl, r10⟩
    rw [eb, ec] at r10
    have l10 := r10.le (k := 10) (Pbc.out)
    have v10 := r10.is
    have t10 := r10.trm
    have N10a := N9a.up r10.bel
    have N10b := N9b.up r10.bel
    have N10c := N9c.up r10.bel
    have N10g := N9g.up r10.bel
    have N10ac := r9.nt.up r10.bel
    have B10 := bthen B9 r10.bel
    go_wp2_with fail
    refine (mgcd_any N10ac r10.nt (by omega) (by omega)).mono ?_
    rintro e W11 ⟨A11, n11, c11, x11, rfl, r11⟩
    rw [v9, v10, Hmul.out] at r11
    have l11 := r11.le (k := 10) (Pgc.out)
    have v11 := r11.is
    have t11 := r11.trm
    have N11a := N10a.up r11.bel
    have N11b := N10b.up r11.bel
    have N11c := N10c.up r11.bel
    have N11g := N10g.up r11.bel
    have N11ac := N10ac.up r11.bel
    have N11bc := r10.nt.up r11.bel
    have B11 := bthen B10 r11.bel
    go_wp2_with fail
    refine (mul_any N11g N11c (by omega) (by omega)).mono ?_
    rintro e W12 ⟨A12, n12, c12, x12, rfl, r12⟩
    rw [v4, ec] at r12
    have l12 := r12.le (k := 10) (Pgc.out)
    have v12 := r12.is
    have t12 := r12.trm
    have N12a := N11a.up r12.bel
    have N12b := N11b.up r12.bel
    have N12c := N11c.up r12.bel
    have N12g := N11g.up r12.bel
    have N12ac := N11ac.up r12.bel
    have N12bc := N11bc.up r12.bel
    have N12G := r11.nt.up r12.bel
    have B12 := bthen B11 r12.bel
    go_wp2_with fail
    refine (same_yes N12G r12.nt (trm_same t11 t12 N12G.lim r12.nt.lim (by rw [v11, v12]))).mono ?_
    rintro e W13 ⟨rfl, d13, rfl⟩
    have N13a := N12a.dr d13
    have N13b := N12b.dr d13
    have N13c := N12c.dr d13
    have N13g := N12g.dr d13
    have N13ac := N12ac.dr d13
    have N13bc := N12bc.dr d13
    have N13G := N12G.dr d13
    have N13H := r12.nt.dr d13
    have B13 := bdr B12 d13
    go_wp2_with fail
    refine (mgcd_any N13b N13a (by omega) (by omega)).mono ?_
    rintro e W14 ⟨A14, n14, c14, x14, rfl, r14⟩
    rw [ea, eb, Hcomm.out] at r14
    have l14 := r14.le (k := 5) (pg)
    have v14 := r14.is
    have t14 := r14.trm
    have N14a := N13a.up r14.bel
    have N14b := N13b.up r14.bel
    have N14c := N13c.up r14.bel
    have N14g := N13g.up r14.bel
    have B14 := bthen B13 r14.bel
    go_wp2_with fail
    refine (same_yes r14.nt N14g (trm_same t14 t4 r14.nt.lim N14g.lim (by rw [v14, v4]))).mono ?_
    rintro e W15 ⟨rfl, d15, rfl⟩
    have N15a := N14a.dr d15
    have N15b := N14b.dr d15
    have N15c := N14c.dr d15
    have N15g := N14g.dr d15
    have N15k := r14.nt.dr d15
    have B15 := bdr B14 d15
    go_wp2_with fail
    go_ret
    exact ⟨rfl, B15⟩

set_option maxRecDepth 100000 in
theorem lifted (os : Os) (started : os.Started) (H : Type) (enc : TypeId × Value → H) :
    ReturnsInHanded {} Try.checked os 9 .any (Rows.modnCommonSpec.pre6 enc Try.prog Try.f9 Rows.modnCommonRow.domain false) (Rows.modnCommonSpec.post enc Try.prog Try.f9 false true false false) := by
  refine returnsInHanded_of_change (C := Try.checked) own started (by kernel_rfl) Try.func9
    (ChangeSpec.witness6 (enc := enc) (C := Try.checked) false ⟨#[], #[.slice none 0 0, .slice none 0 0, .slice none 0 0], []⟩ 8 (by kernel_rfl) (by kernel_rfl) (by kernel_rfl) (by kernel_rfl)) ?_
  intro W base args ds gs before hval0 hW hcnd _
  have hval : ∀ (j : Nat) t v, Try.f9.params[j]? = some t → args[j]? = some v → Value.okWide Try.prog W .any base t v := hval0
  have hW' := hW
  obtain ⟨p, q, hA0, hV, rfl, hfz, hnd⟩ := hW
  have hA : DataW.TrodAll enc Try.prog W 0 (fun _ => true) true Try.f9.params.toList args.toList ds p := hA0
  rw [Try.params9] at hA hval
  obtain ⟨v0, vs0, d0, ds0, p0, q0, hargs, rfl, rfl, h0, r0⟩ := trodAll_cons hA
  obtain ⟨v1, vs1, d1, ds1, p1, q1, rfl, rfl, rfl, h1, r1⟩ := trodAll_cons r0
  obtain ⟨v2, vs2, d2, ds2, p2, q2, rfl, rfl, rfl, h2, r2⟩ := trodAll_cons r1
  obtain ⟨rfl, rfl, rfl⟩ := trodAll_nil r2
  obtain rfl : args = #[v0, v1, v2] := by cases args; simp_all
  obtain ⟨rfl, rfl⟩ := trodVars_none hV
  obtain ⟨a0, len0, cap0, rfl⟩ := okWide_slice Try.underlying22 (hval 0 22 v0 rfl rfl)
  have k0 := h0
  have lt0 : ∀ x ∈ p0, x.block < W.heap.size := by obtain ⟨m, hm⟩ := k0; exact DataW.trod_lt m _ _ _ hm
  obtain ⟨z0, w0⟩ : ∃ zs, Nt W W.heap.size a0 len0 cap0 zs := by
    obtain ⟨fuel, hf⟩ := h0
    rcases open_ints Try.underlying22 Try.underlying34 (by kernel_rfl) hf with ⟨hcs, _⟩ | ⟨x, l, c, zs, hcs, _, hl, hm, hz, _, hcell, hwz⟩
    · simp [Value.cells] at hcs
      obtain ⟨rfl, rfl, rfl⟩ := hcs
      exact ⟨[], nt_nil _ _⟩
    · simp [Value.cells] at hcs
      obtain ⟨rfl, rfl, rfl⟩ := hcs
      exact ⟨_, nt_of_row hl hm (by simpa using hz) hcell hwz⟩
  obtain ⟨a1, len1, cap1, rfl⟩ := okWide_slice Try.underlying22 (hval 1 22 v1 rfl rfl)
  have k1 := h1
  have lt1 : ∀ x ∈ p1, x.block < W.heap.size := by obtain ⟨m, hm⟩ := k1; exact DataW.trod_lt m _ _ _ hm
  obtain ⟨z1, w1⟩ : ∃ zs, Nt W W.heap.size a1 len1 cap1 zs := by
    obtain ⟨fuel, hf⟩ := h1
    rcases open_ints Try.underlying22 Try.underlying34 (by kernel_rfl) hf with ⟨hcs, _⟩ | ⟨x, l, c, zs, hcs, _, hl, hm, hz, _, hcell, hwz⟩
    · simp [Value.cells] at hcs
      obtain ⟨rfl, rfl, rfl⟩ := hcs
      exact ⟨[], nt_nil _ _⟩
    · simp [Value.cells] at hcs
      obtain ⟨rfl, rfl, rfl⟩ := hcs
      exact ⟨_, nt_of_row hl hm (by simpa using hz) hcell hwz⟩
  obtain ⟨a2, len2, cap2, rfl⟩ := okWide_slice Try.underlying22 (hval 2 22 v2 rfl rfl)
  have k2 := h2
  have lt2 : ∀ x ∈ p2, x.block < W.heap.size := by obtain ⟨m, hm⟩ := k2; exact DataW.trod_lt m _ _ _ hm
  obtain ⟨z2, w2⟩ : ∃ zs, Nt W W.heap.size a2 len2 cap2 zs := by
    obtain ⟨fuel, hf⟩ := h2
    rcases open_ints Try.underlying22 Try.underlying34 (by kernel_rfl) hf with ⟨hcs, _⟩ | ⟨x, l, c, zs, hcs, _, hl, hm, hz, _, hcell, hwz⟩
    · simp [Value.cells] at hcs
      obtain ⟨rfl, rfl, rfl⟩ := hcs
      exact ⟨[], nt_nil _ _⟩
    · simp [Value.cells] at hcs
      obtain ⟨rfl, rfl, rfl⟩ := hcs
      exact ⟨_, nt_of_row hl hm (by simpa using hz) hcell hwz⟩
  clear hA0 hval0
  refine (law_any w0 w1 w2).mono fun e W' ⟨he, bel⟩ => ?_
  subst he
  exact ⟨_, rfl, _, _, _, [], _, [], hW', trodAll_mk1 (shut_bool Try.underlying4 _), (trodAll_cons_mk (Below.trod laidOut (by kernel_rfl) (of_decide_eq_true (by kernel_rfl)) k0 bel lt0) (trodAll_cons_mk (Below.trod laidOut (by kernel_rfl) (of_decide_eq_true (by kernel_rfl)) k1 bel lt1) (trodAll_cons_mk (Below.trod laidOut (by kernel_rfl) (of_decide_eq_true (by kernel_rfl)) k2 bel lt2) trodAll_mk0))), rfl, bel.frame _, fun h => by cases h⟩

theorem modnCommon_holds : Rows.ModnCommonSaid :=
  OpenClaim.holds_of_wide 9 Try.f9 rfl rfl rfl rfl rfl rfl rfl ⟨rfl, rfl, rfl, rfl, rfl⟩ rfl rfl rfl rfl rfl (by kernel_rfl) Try.func9 (by kernel_rfl)
    (of_decide_eq_true (by kernel_rfl)) (by unfold Func.isWrapper; first | (rw [if_pos (by decide +kernel)]; kernel_rfl) | (rw [if_neg (by decide +kernel)]; exact ⟨rfl, rfl⟩))
    (fun os started H enc _ => lifted os started H enc)
#print axioms modnCommon_holds
end Go.Proofs.Ytmenflhaoejkfaa.modnCommonP
