/- For every three rows of limbs the Go function ModnReckons returns true and leaves its arguments as they were. No condition. -/
import Derived.Test.YtnnnahhgpmkfbaaAlive
import Derived.Test.YtnnnahhgpmkfbaaRef
namespace Go.Proofs.Ytnnnahhgpmkfbaa.modnReckonsP
open Go.ChangeShapes Go.WideShapes Go.ChangeAt Go.RowKit
set_option linter.unusedVariables false

set_option maxRecDepth 100000
set_option maxHeartbeats 8000000 in
theorem law_any {w : World} {A B E : Option Addr} {na ca nb cb nn cn : Nat} {x1 x2 x5 : List Nat} (ha : Nt w w.heap.size A na ca x1) (hb : Nt w w.heap.size B nb cb x2) (hn : Nt w w.heap.size E nn cn x5) :
    Calls Try.prog 3 #[.slice A na ca, .slice B nb cb, .slice E nn cn] w (Yes w) := by
  have hra := ha.rooms
  have hrb := hb.rooms
  have hrn := hn.rooms
  by_cases ya : 5 < na
  · go_enter Try.func3, Try.ntmps3
    go_wp2_with fail
    refine (heavy_yes A na ca (by omega) (by omega) _).mono ?_
    rintro e W1 ⟨rfl, rfl⟩
    go_wp2_with fail
    refine (alive_any _).mono ?_
    rintro e W2 ⟨rfl, b2⟩
    have B2 := b2
    go_wp2_with fail
    go_ret
    exact ⟨rfl, B2⟩
  by_cases yb : 5 < nb
  · go_enter Try.func3, Try.ntmps3
    go_wp2_with fail
    refine (heavy_no A na ca (by omega) _).mono ?_
    rintro e W1 ⟨rfl, rfl⟩
    go_wp2_with fail
    refine (heavy_yes B nb cb (by omega) (by omega) _).mono ?_
    rintro e W2 ⟨rfl, rfl⟩
    go_wp2_with fail
    refine (alive_any _).mono ?_
    rintro e W3 ⟨rfl, b3⟩
    have B3 := b3
    go_wp2_with fail
    go_ret
    exact ⟨rfl, B3⟩
  by_cases yn : 5 < nn
  · go_enter Try.func3, Try.ntmps3
    go_wp2_with fail
    refine (heavy_no A na ca (by omega) _).mono ?_
    rintro e W1 ⟨rfl, rfl⟩
    go_wp2_with fail
    refine (heavy_no B nb cb (by omega) _).mono ?_
    rintro e W2 ⟨rfl, rfl⟩
    go_wp2_with fail
    refine (heavy_yes E nn cn (by omega) (by omega) _).mono ?_
    rintro e W3 ⟨rfl, rfl⟩
    go_wp2_with fail
    refine (alive_any _).mono ?_
    rintro e W4 ⟨rfl, b4⟩
    have B4 := b4
    go_wp2_with fail
    go_ret
    exact ⟨rfl, B4⟩
  have pn := hn.below_pow (k := 5) (by omega)
  obtain ⟨a, ea⟩ : ∃ a, val 18446744073709551616 x1 = a := ⟨_, rfl⟩
  obtain ⟨b, eb⟩ : ∃ b, val 18446744073709551616 x2 = b := ⟨_, rfl⟩
  obtain ⟨N, en⟩ : ∃ N, val 18446744073709551616 x5 = N := ⟨_, rfl⟩
  rw [en] at pn
  rcases Nat.eq_zero_or_pos N with hn0 | hn0
  · go_enter Try.func3, Try.ntmps3
    go_wp2_with fail
    refine (heavy_no A na ca (by omega) _).mono ?_
    rintro e W1 ⟨rfl, rfl⟩
    go_wp2_with fail
    refine (heavy_no B nb cb (by omega) _).mono ?_
    rintro e W2 ⟨rfl, rfl⟩
    go_wp2_with fail
    refine (heavy_no E nn cn (by omega) _).mono ?_
    rintro e W3 ⟨rfl, rfl⟩
    go_wp2_with fail
    refine (mod_nil ha hn (by omega) (by rw [en]; exact hn0)).mono ?_
    rintro e W4 ⟨rfl, b4⟩
    have N4a := ha.up b4
    have N4b := hb.up b4
    have N4n := hn.up b4
    have B4 := b4
    go_wp2_with fail
    refine (rmod_nil N4a N4n (by omega) (by rw [en]; exact hn0)).mono ?_
    rintro e W5 ⟨rfl, b5⟩
    have N5a := N4a.up b5
    have N5b := N4b.up b5
    have N5n := N4n.up b5
    have B5 := bthen B4 b5
    go_wp2_with fail
    refine (mmul_nil N5a N5n (by omega) (by rw [en]; exact hn0)).mono ?_
    rintro e W6 ⟨rfl, b6⟩
    have N6a := N5a.up b6
    have N6b := N5b.up b6
    have N6n := N5n.up b6
    have B6 := bthen B5 b6
    go_wp2_with fail
    refine (rmul_nil N6a N6b N6n (by omega) (by rw [en]; exact hn0)).mono ?_
    rintro e W7 ⟨rfl, b7⟩
    have N7a := N6a.up b7
    have N7b := N6b.up b7
    have N7n := N6n.up b7
    have B7 := bthen B6 b7
    go_wp2_with fail
    refine (alive_any _).mono ?_
    rintro e W8 ⟨rfl, b8⟩
    have N8a := N7a.up b8
    have N8b := N7b.up b8
    have N8n := N7n.up b8
    have B8 := bthen B7 b8
    go_wp2_with fail
    refine (same_yes (nt_nil _ 0) (nt_nil _ 0) rfl).mono ?_
    rintro e W9 ⟨rfl, d9, rfl⟩
    have N9a := N8a.dr d9
    have N9b := N8b.dr d9
    have N9n := N8n.dr d9
    have B9 := bdr B8 d9
    go_wp2_with fail
    refine (same_yes (nt_nil _ 0) (nt_nil _ 0) rfl).mono ?_
    rintro e W10 ⟨rfl, d10, rfl⟩
    have N10a := N8a.dr (d9 + d10)
    have N10b := N8b.dr (d9 + d10)
    have N10n := N8n.dr (d9 + d10)
    have B10 := bdr B8 (d9 + d10)
    go_wp2_with fail
    go_ret
    exact ⟨rfl, B10⟩
  · go_enter Try.func3, Try.ntmps3
    go_wp2_with fail
    refine (heavy_no A na ca (by omega) _).mono ?_
    rintro e W1 ⟨rfl, rfl⟩
    go_wp2_with fail
    refine (heavy_no B nb cb (by omega) _).mono ?_
    rintro e W2 ⟨rfl, rfl⟩
    go_wp2_with fail
    refine (heavy_no E nn cn (by omega) _).mono ?_
    rintro e W3 ⟨rfl, rfl⟩
    go_wp2_with fail
    have Pm : Hid (∀ t, t % N < 18446744073709551616 ^ 5) := fun t => Nat.lt_trans (Nat.mod_lt _ hn0) pn
    refine (mod_pos ha hn (by omega) (by rw [en]; exact hn0)).mono ?_
    rintro e W4 ⟨A4, n4, c4, x4, rfl, r4⟩
    rw [ea, en] at r4
    have l4 := r4.le (k := 5) (Pm.out _)
    have v4 := r4.is
    have t4 := r4.trm
    have N4a := ha.up r4.bel
    have N4b := hb.up r4.bel
    have N4n := hn.up r4.bel
    have B4 := r4.bel
    go_wp2_with fail
    refine (rmod_pos N4a N4n (by omega) (by omega) (by rw [en]; exact hn0)).mono ?_
    rintro e W5 ⟨A5, n5, c5, x5, rfl, r5⟩
    rw [ea, en] at r5
    have l5 := r5.le (k := 5) (Pm.out _)
    have v5 := r5.is
    have t5 := r5.trm
    have N5a := N4a.up r5.bel
    have N5b := N4b.up r5.bel
    have N5n := N4n.up r5.bel
    have N5x := r4.nt.up r5.bel
    have B5 := bthen B4 r5.bel
    go_wp2_with fail
    refine (mmul_pos N5a N5b N5n (by omega) (by omega) (by omega) (by rw [en]; exact hn0)).mono ?_
    rintro e W6 ⟨A6, n6, c6, x6, rfl, r6⟩
    rw [ea, eb, en] at r6
    have l6 := r6.le (k := 5) (Pm.out _)
    have v6 := r6.is
    have t6 := r6.trm
    have N6a := N5a.up r6.bel
    have N6b := N5b.up r6.bel
    have N6n := N5n.up r6.bel
    have N6x := N5x.up r6.bel
    have N6y := r5.nt.up r6.bel
    have B6 := bthen B5 r6.bel
    go_wp2_with fail
    refine (rmul_pos N6a N6b N6n (by omega) (by omega) (by omega) (by rw [en]; exact hn0)).mono ?_
    rintro e W7 ⟨A7, n7, c7, x7, rfl, r7⟩
    rw [ea, eb, en] at r7
    have l7 := r7.le (k := 5) (Pm.out _)
    have v7 := r7.is
    have t7 := r7.trm
    have N7a := N6a.up r7.bel
    have N7b := N6b.up r7.bel
    have N7n := N6n.up r7.bel
    have N7x := N6x.up r7.bel
    have N7y := N6y.up r7.bel
    have N7z := r6.nt.up r7.bel
    have B7 := bthen B6 r7.bel
    go_wp2_with fail
    refine (alive_any _).mono ?_
    rintro e W8 ⟨rfl, b8⟩
    have N8a := N7a.up b8
    have N8b := N7b.up b8
    have N8n := N7n.up b8
    have N8x := N7x.up b8
    have N8y := N7y.up b8
    have N8z := N7z.up b8
    have N8u := r7.nt.up b8
    have B8 := bthen B7 b8
    go_wp2_with fail
    refine (same_yes N8x N8y (trm_same t4 t5 N8x.lim N8y.lim (by rw [v4, v5]))).mono ?_
    rintro e W9 ⟨rfl, d9, rfl⟩
    have N9a := N8a.dr d9
    have N9b := N8b.dr d9
    have N9n := N8n.dr d9
    have N9x := N8x.dr d9
    have N9y := N8y.dr d9
    have N9z := N8z.dr d9
    have N9u := N8u.dr d9
    have B9 := bdr B8 d9
    go_wp2_with fail
    refine (same_yes N9z N9u (trm_same t6 t7 N9z.lim N9u.lim (by rw [v6, v7]))).mono ?_
    rintro e W10 ⟨rfl, d10, rfl⟩
    have N10a := N8a.dr (d9 + d10)
    have N10b := N8b.dr (d9 + d10)
    have N10n := N8n.dr (d9 + d10)
    have N10x := N8x.dr (d9 + d10)
    have N10y := N8y.dr (d9 + d10)
    have N10z := N8z.dr (d9 + d10)
    have N10u := N8u.dr (d9 + d10)
    have B10 := bdr B8 (d9 + d10)
    go_wp2_with fail
    go_ret
    exact ⟨rfl, B10⟩

set_option maxRecDepth 100000 in
theorem lifted (os : Os) (started : os.Started) (H : Type) (enc : TypeId × Value → H) :
    ReturnsInHanded {} Try.checked os 3 .any (Rows.modnReckonsSpec.pre6 enc Try.prog Try.f3 Rows.modnReckonsRow.domain false) (Rows.modnReckonsSpec.post enc Try.prog Try.f3 false true false false) := by
  refine returnsInHanded_of_change (C := Try.checked) own started (by kernel_rfl) Try.func3
    (ChangeSpec.witness6 (enc := enc) (C := Try.checked) false ⟨#[], #[.slice none 0 0, .slice none 0 0, .slice none 0 0], []⟩ 8 (by kernel_rfl) (by kernel_rfl) (by kernel_rfl) (by kernel_rfl)) ?_
  intro W base args ds gs before hval0 hW hcnd _
  have hval : ∀ (j : Nat) t v, Try.f3.params[j]? = some t → args[j]? = some v → Value.okWide Try.prog W .any base t v := hval0
  have hW' := hW
  obtain ⟨p, q, hA0, hV, rfl, hfz, hnd⟩ := hW
  have hA : DataW.TrodAll enc Try.prog W 0 (fun _ => true) true Try.f3.params.toList args.toList ds p := hA0
  rw [Try.params3] at hA hval
  obtain ⟨v0, vs0, d0, ds0, p0, q0, hargs, rfl, rfl, h0, r0⟩ := trodAll_cons hA
  obtain ⟨v1, vs1, d1, ds1, p1, q1, rfl, rfl, rfl, h1, r1⟩ := trodAll_cons r0
  obtain ⟨v2, vs2, d2, ds2, p2, q2, rfl, rfl, rfl, h2, r2⟩ := trodAll_cons r1
  obtain ⟨rfl, rfl, rfl⟩ := trodAll_nil r2
  obtain rfl : args = #[v0, v1, v2] := by cases args; simp_all
  obtain ⟨rfl, rfl⟩ := trodVars_none hV
  obtain ⟨a0, len0, cap0, rfl⟩ := okWide_slice Try.underlying22 (hval 0 22 v0 rfl rfl)
  have k0 := h0
  have lt0 : ∀ x ∈ p0, x.block < W.heap.size := by obtain ⟨m, hm⟩ := k0; exact DataW.trod_lt m _ _ _ hm
  obtain ⟨z0, w0⟩ : ∃ zs, Nt W W.heap.size a0 len0 cap0 zs := by
    obtain ⟨fuel, hf⟩ := h0
    rcases open_ints Try.underlying22 Try.underlying34 (by kernel_rfl) hf with ⟨hcs, _⟩ | ⟨x, l, c, zs, hcs, _, hl, hm, hz, _, hcell, hwz⟩
    · simp [Value.cells] at hcs
      obtain ⟨rfl, rfl, rfl⟩ := hcs
      exact ⟨[], nt_nil _ _⟩
    · simp [Value.cells] at hcs
      obtain ⟨rfl, rfl, rfl⟩ := hcs
      exact ⟨_, nt_of_row hl hm (by simpa using hz) hcell hwz⟩
  obtain ⟨a1, len1, cap1, rfl⟩ := okWide_slice Try.underlying22 (hval 1 22 v1 rfl rfl)
  have k1 := h1
  have lt1 : ∀ x ∈ p1, x.block < W.heap.size := by obtain ⟨m, hm⟩ := k1; exact DataW.trod_lt m _ _ _ hm
  obtain ⟨z1, w1⟩ : ∃ zs, Nt W W.heap.size a1 len1 cap1 zs := by
    obtain ⟨fuel, hf⟩ := h1
    rcases open_ints Try.underlying22 Try.underlying34 (by kernel_rfl) hf with ⟨hcs, _⟩ | ⟨x, l, c, zs, hcs, _, hl, hm, hz, _, hcell, hwz⟩
    · simp [Value.cells] at hcs
      obtain ⟨rfl, rfl, rfl⟩ := hcs
      exact ⟨[], nt_nil _ _⟩
    · simp [Value.cells] at hcs
      obtain ⟨rfl, rfl, rfl⟩ := hcs
      exact ⟨_, nt_of_row hl hm (by simpa using hz) hcell hwz⟩
  obtain ⟨a2, len2, cap2, rfl⟩ := okWide_slice Try.underlying22 (hval 2 22 v2 rfl rfl)
  have k2 := h2
  have lt2 : ∀ x ∈ p2, x.block < W.heap.size := by obtain ⟨m, hm⟩ := k2; exact DataW.trod_lt m _ _ _ hm
  obtain ⟨z2, w2⟩ : ∃ zs, Nt W W.heap.size a2 len2 cap2 zs := by
    obtain ⟨fuel, hf⟩ := h2
    rcases open_ints Try.underlying22 Try.underlying34 (by kernel_rfl) hf with ⟨hcs, _⟩ | ⟨x, l, c, zs, hcs, _, hl, hm, hz, _, hcell, hwz⟩
    · simp [Value.cells] at hcs
      obtain ⟨rfl, rfl, rfl⟩ := hcs
      exact ⟨[], nt_nil _ _⟩
    · simp [Value.cells] at hcs
      obtain ⟨rfl, rfl, rfl⟩ := hcs
      exact ⟨_, nt_of_row hl hm (by simpa using hz) hcell hwz⟩
  clear hA0 hval0
  refine (law_any w0 w1 w2).mono fun e W' ⟨he, bel⟩ => ?_
  subst he
  exact ⟨_, rfl, _, _, _, [], _, [], hW', trodAll_mk1 (shut_bool Try.underlying4 _), (trodAll_cons_mk (Below.trod laidOut (by kernel_rfl) (of_decide_eq_true (by kernel_rfl)) k0 bel lt0) (trodAll_cons_mk (Below.trod laidOut (by kernel_rfl) (of_decide_eq_true (by kernel_rfl)) k1 bel lt1) (trodAll_cons_mk (Below.trod laidOut (by kernel_rfl) (of_decide_eq_true (by kernel_rfl)) k2 bel lt2) trodAll_mk0))), rfl, bel.frame _, fun h => by cases h⟩

theorem modnReckons_holds : Rows.ModnReckonsSaid :=
  OpenClaim.holds_of_wide 3 Try.f3 rfl rfl rfl rfl rfl rfl rfl ⟨rfl, rfl, rfl, rfl, rfl⟩ rfl rfl rfl rfl rfl (by kernel_rfl) Try.func3 (by kernel_rfl)
    (of_decide_eq_true (by kernel_rfl)) (by unfold Func.isWrapper; first | (rw [if_pos (by decide +kernel)]; kernel_rfl) | (rw [if_neg (by decide +kernel)]; exact ⟨rfl, rfl⟩))
    (fun os started H enc _ => lifted os started H enc)
#print axioms modnReckons_holds
end Go.Proofs.Ytnnnahhgpmkfbaa.modnReckonsP
