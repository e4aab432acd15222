/- For every three rows of limbs the Go function ModnPowers returns true and leaves its arguments as they were. No condition. -/
import Derived.Test.YtnnnahhgpmkfbaaAlive
import Derived.Test.YtnnnahhgpmkfbaaRef
namespace Go.Proofs.Ytnnnahhgpmkfbaa.modnPowersP
open Go.ChangeShapes Go.WideShapes Go.ChangeAt Go.RowKit
set_option linter.unusedVariables false

set_option maxRecDepth 100000
set_option maxHeartbeats 8000000 in
theorem law_any {w : World} {A B E : Option Addr} {na ca nb cb nn cn : Nat} {x1 x2 x5 : List Nat} (ha : Nt w w.heap.size A na ca x1) (he : Nt w w.heap.size B nb cb x2) (hn : Nt w w.heap.size E nn cn x5) :
    Calls Try.prog 4 #[.slice A na ca, .slice B nb cb, .slice E nn cn] w (Yes w) := by
  have hra := ha.rooms
  have hrb := he.rooms
  have hrn := hn.rooms
  by_cases ya : 5 < na
  · go_enter Try.func4, Try.ntmps4
    go_wp2_with fail
    refine (heavy_yes A na ca (by omega) (by omega) _).mono ?_
    rintro e W1 ⟨rfl, rfl⟩
    go_wp2_with fail
    refine (alive_any _).mono ?_
    rintro e W2 ⟨rfl, b2⟩
    have B2 := b2
    go_wp2_with fail
    go_ret
    exact ⟨rfl, B2⟩
  by_cases ye : 2 < nb
  · have ge : decide ((2 : Int) < (nb : Int)) = true := by simp; omega
    go_enter Try.func4, Try.ntmps4
    go_wp2_with fail
    refine (heavy_no A na ca (by omega) _).mono ?_
    rintro e W1 ⟨rfl, rfl⟩
    go_wp2_with fail
    refine (alive_any _).mono ?_
    rintro e W2 ⟨rfl, b2⟩
    have B2 := b2
    go_wp2_with fail
    go_ret
    exact ⟨rfl, B2⟩
  have ge : decide ((2 : Int) < (nb : Int)) = false := by simp; omega
  by_cases yn : 4 < nn
  · have gn : decide ((4 : Int) < (nn : Int)) = true := by simp; omega
    go_enter Try.func4, Try.ntmps4
    go_wp2_with fail
    refine (heavy_no A na ca (by omega) _).mono ?_
    rintro e W1 ⟨rfl, rfl⟩
    go_wp2_with fail
    refine (alive_any _).mono ?_
    rintro e W2 ⟨rfl, b2⟩
    have B2 := b2
    go_wp2_with fail
    go_ret
    exact ⟨rfl, B2⟩
  have gn : decide ((4 : Int) < (nn : Int)) = false := by simp; omega
  have pn := hn.below_pow (k := 5) (by omega)
  obtain ⟨a, ea⟩ : ∃ a, val 18446744073709551616 x1 = a := ⟨_, rfl⟩
  obtain ⟨b, ee⟩ : ∃ b, val 18446744073709551616 x2 = b := ⟨_, rfl⟩
  obtain ⟨N, en⟩ : ∃ N, val 18446744073709551616 x5 = N := ⟨_, rfl⟩
  rw [en] at pn
  rcases Nat.eq_zero_or_pos N with hn0 | hn0
  · go_enter Try.func4, Try.ntmps4
    go_wp2_with fail
    refine (heavy_no A na ca (by omega) _).mono ?_
    rintro e W1 ⟨rfl, rfl⟩
    go_wp2_with fail
    refine (pow_nil ha hn (by omega) (by rw [en]; exact hn0)).mono ?_
    rintro e W2 ⟨rfl, b2⟩
    have N2a := ha.up b2
    have N2e := he.up b2
    have N2n := hn.up b2
    have B2 := b2
    go_wp2_with fail
    refine (rpow_nil N2a N2e N2n (by omega) (by rw [en]; exact hn0)).mono ?_
    rintro e W3 ⟨rfl, b3⟩
    have N3a := N2a.up b3
    have N3e := N2e.up b3
    have N3n := N2n.up b3
    have B3 := bthen B2 b3
    go_wp2_with fail
    refine (alive_any _).mono ?_
    rintro e W4 ⟨rfl, b4⟩
    have N4a := N3a.up b4
    have N4e := N3e.up b4
    have N4n := N3n.up b4
    have B4 := bthen B3 b4
    go_wp2_with fail
    refine (same_yes (nt_nil _ 0) (nt_nil _ 0) rfl).mono ?_
    rintro e W5 ⟨rfl, d5, rfl⟩
    have N5a := N4a.dr d5
    have N5e := N4e.dr d5
    have N5n := N4n.dr d5
    have B5 := bdr B4 d5
    go_wp2_with fail
    go_ret
    exact ⟨rfl, B5⟩
  · go_enter Try.func4, Try.ntmps4
    go_wp2_with fail
    refine (heavy_no A na ca (by omega) _).mono ?_
    rintro e W1 ⟨rfl, rfl⟩
    go_wp2_with fail
    have Pm : Hid (∀ t, t % N < 18446744073709551616 ^ 5) := fun t => Nat.lt_trans (Nat.mod_lt _ hn0) pn
    refine (mpow_pos ha he hn (by omega) (by omega) (by omega) (by rw [en]; exact hn0)).mono ?_
    rintro e W2 ⟨A2, n2, c2, x2, rfl, r2⟩
    rw [ea, ee, en] at r2
    have l2 := r2.le (k := 5) (Pm.out _)
    have v2 := r2.is
    have t2 := r2.trm
    have N2a := ha.up r2.bel
    have N2e := he.up r2.bel
    have N2n := hn.up r2.bel
    have B2 := r2.bel
    go_wp2_with fail
    refine (rpow_pos N2a N2e N2n (by omega) (by omega) (by omega) (by rw [en]; exact hn0)).mono ?_
    rintro e W3 ⟨A3, n3, c3, x3, rfl, r3⟩
    rw [ea, ee, en] at r3
    have l3 := r3.le (k := 5) (Pm.out _)
    have v3 := r3.is
    have t3 := r3.trm
    have N3a := N2a.up r3.bel
    have N3e := N2e.up r3.bel
    have N3n := N2n.up r3.bel
    have N3x := r2.nt.up r3.bel
    have B3 := bthen B2 r3.bel
    go_wp2_with fail
    refine (alive_any _).mono ?_
    rintro e W4 ⟨rfl, b4⟩
    have N4a := N3a.up b4
    have N4e := N3e.up b4
    have N4n := N3n.up b4
    have N4x := N3x.up b4
    have N4y := r3.nt.up b4
    have B4 := bthen B3 b4
    go_wp2_with fail
    refine (same_yes N4x N4y (trm_same t2 t3 N4x.lim N4y.lim (by rw [v2, v3]))).mono ?_
    rintro e W5 ⟨rfl, d5, rfl⟩
    have N5a := N4a.dr d5
    have N5e := N4e.dr d5
    have N5n := N4n.dr d5
    have N5x := N4x.dr d5
    have N5y := N4y.dr d5
    have B5 := bdr B4 d5
    go_wp2_with fail
    go_ret
    exact ⟨rfl, B5⟩

set_option maxRecDepth 100000 in
theorem lifted (os : Os) (started : os.Started) (H : Type) (enc : TypeId × Value → H) :
    ReturnsInHanded {} Try.checked os 4 .any (Rows.modnPowersSpec.pre6 enc Try.prog Try.f4 Rows.modnPowersRow.domain false) (Rows.modnPowersSpec.post enc Try.prog Try.f4 false true false false) := by
  refine returnsInHanded_of_change (C := Try.checked) own started (by kernel_rfl) Try.func4
    (ChangeSpec.witness6 (enc := enc) (C := Try.checked) false ⟨#[], #[.slice none 0 0, .slice none 0 0, .slice none 0 0], []⟩ 8 (by kernel_rfl) (by kernel_rfl) (by kernel_rfl) (by kernel_rfl)) ?_
  intro W base args ds gs before hval0 hW hcnd _
  have hval : ∀ (j : Nat) t v, Try.f4.params[j]? = some t → args[j]? = some v → Value.okWide Try.prog W .any base t v := hval0
  have hW' := hW
  obtain ⟨p, q, hA0, hV, rfl, hfz, hnd⟩ := hW
  have hA : DataW.TrodAll enc Try.prog W 0 (fun _ => true) true Try.f4.params.toList args.toList ds p := hA0
  rw [Try.params4] at hA hval
  obtain ⟨v0, vs0, d0, ds0, p0, q0, hargs, rfl, rfl, h0, r0⟩ := trodAll_cons hA
  obtain ⟨v1, vs1, d1, ds1, p1, q1, rfl, rfl, rfl, h1, r1⟩ := trodAll_cons r0
  obtain ⟨v2, vs2, d2, ds2, p2, q2, rfl, rfl, rfl, h2, r2⟩ := trodAll_cons r1
  obtain ⟨rfl, rfl, rfl⟩ := trodAll_nil r2
  obtain rfl : args = #[v0, v1, v2] := by cases args; simp_all
  obtain ⟨rfl, rfl⟩ := trodVars_none hV
  obtain ⟨a0, len0, cap0, rfl⟩ := okWide_slice Try.underlying22 (hval 0 22 v0 rfl rfl)
  have k0 := h0
  have lt0 : ∀ x ∈ p0, x.block < W.heap.size := by obtain ⟨m, hm⟩ := k0; exact DataW.trod_lt m _ _ _ hm
  obtain ⟨z0, w0⟩ : ∃ zs, Nt W W.heap.size a0 len0 cap0 zs := by
    obtain ⟨fuel, hf⟩ := h0
    rcases open_ints Try.underlying22 Try.underlying34 (by kernel_rfl) hf with ⟨hcs, _⟩ | ⟨x, l, c, zs, hcs, _, hl, hm, hz, _, hcell, hwz⟩
    · simp [Value.cells] at hcs
      obtain ⟨rfl, rfl, rfl⟩ := hcs
      exact ⟨[], nt_nil _ _⟩
    · simp [Value.cells] at hcs
      obtain ⟨rfl, rfl, rfl⟩ := hcs
      exact ⟨_, nt_of_row hl hm (by simpa using hz) hcell hwz⟩
  obtain ⟨a1, len1, cap1, rfl⟩ := okWide_slice Try.underlying22 (hval 1 22 v1 rfl rfl)
  have k1 := h1
  have lt1 : ∀ x ∈ p1, x.block < W.heap.size := by obtain ⟨m, hm⟩ := k1; exact DataW.trod_lt m _ _ _ hm
  obtain ⟨z1, w1⟩ : ∃ zs, Nt W W.heap.size a1 len1 cap1 zs := by
    obtain ⟨fuel, hf⟩ := h1
    rcases open_ints Try.underlying22 Try.underlying34 (by kernel_rfl) hf with ⟨hcs, _⟩ | ⟨x, l, c, zs, hcs, _, hl, hm, hz, _, hcell, hwz⟩
    · simp [Value.cells] at hcs
      obtain ⟨rfl, rfl, rfl⟩ := hcs
      exact ⟨[], nt_nil _ _⟩
    · simp [Value.cells] at hcs
      obtain ⟨rfl, rfl, rfl⟩ := hcs
      exact ⟨_, nt_of_row hl hm (by simpa using hz) hcell hwz⟩
  obtain ⟨a2, len2, cap2, rfl⟩ := okWide_slice Try.underlying22 (hval 2 22 v2 rfl rfl)
  have k2 := h2
  have lt2 : ∀ x ∈ p2, x.block < W.heap.size := by obtain ⟨m, hm⟩ := k2; exact DataW.trod_lt m _ _ _ hm
  obtain ⟨z2, w2⟩ : ∃ zs, Nt W W.heap.size a2 len2 cap2 zs := by
    obtain ⟨fuel, hf⟩ := h2
    rcases open_ints Try.underlying22 Try.underlying34 (by kernel_rfl) hf with ⟨hcs, _⟩ | ⟨x, l, c, zs, hcs, _, hl, hm, hz, _, hcell, hwz⟩
    · simp [Value.cells] at hcs
      obtain ⟨rfl, rfl, rfl⟩ := hcs
      exact ⟨[], nt_nil _ _⟩
    · simp [Value.cells] at hcs
      obtain ⟨rfl, rfl, rfl⟩ := hcs
      exact ⟨_, nt_of_row hl hm (by simpa using hz) hcell hwz⟩
  clear hA0 hval0
  refine (law_any w0 w1 w2).mono fun e W' ⟨he, bel⟩ => ?_
  subst he
  exact ⟨_, rfl, _, _, _, [], _, [], hW', trodAll_mk1 (shut_bool Try.underlying4 _), (trodAll_cons_mk (Below.trod laidOut (by kernel_rfl) (of_decide_eq_true (by kernel_rfl)) k0 bel lt0) (trodAll_cons_mk (Below.trod laidOut (by kernel_rfl) (of_decide_eq_true (by kernel_rfl)) k1 bel lt1) (trodAll_cons_mk (Below.trod laidOut (by kernel_rfl) (of_decide_eq_true (by kernel_rfl)) k2 bel lt2) trodAll_mk0))), rfl, bel.frame _, fun h => by cases h⟩

theorem modnPowers_holds : Rows.ModnPowersSaid :=
  OpenClaim.holds_of_wide 4 Try.f4 rfl rfl rfl rfl rfl rfl rfl ⟨rfl, rfl, rfl, rfl, rfl⟩ rfl rfl rfl rfl rfl (by kernel_rfl) Try.func4 (by kernel_rfl)
    (of_decide_eq_true (by kernel_rfl)) (by unfold Func.isWrapper; first | (rw [if_pos (by decide +kernel)]; kernel_rfl) | (rw [if_neg (by decide +kernel)]; exact ⟨rfl, rfl⟩))
    (fun os started H enc _ => lifted os started H enc)
#print axioms modnPowers_holds
end Go.Proofs.Ytnnnahhgpmkfbaa.modnPowersP
