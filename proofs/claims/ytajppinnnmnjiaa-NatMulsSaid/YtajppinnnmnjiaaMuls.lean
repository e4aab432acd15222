/- For every two rows of limbs the Go function NatMuls returns true and leaves its arguments as they were. No condition. -/
import Derived.Test.YtajppinnnmnjiaaCases
import Derived.Test.YtajppinnnmnjiaaRMul
namespace Go.Proofs.Ytajppinnnmnjiaa.natMulsP
open Go.ChangeShapes Go.WideShapes Go.ChangeAt Go.RowKit
set_option linter.unusedVariables false

theorem res_same_n {w1 w1' : World} {N n c : Nat} {A : Option Addr} {xs ys : List Nat} (h : Res w1 w1' N A n c xs) (hL : Lim 18446744073709551616 ys) (ht : Trm ys) (hv : val 18446744073709551616 ys = N) : xs = ys :=
  trm_unique (β := 18446744073709551616) (by omega) h.nt.lim hL h.trm ht (by rw [h.is, hv])

set_option maxHeartbeats 4000000 in
theorem law_any {w : World} {A B : Option Addr} {na ca nb cb : Nat} {x y : List Nat} (ha : Nt w w.heap.size A na ca x) (hb : Nt w w.heap.size B nb cb y) :
    Calls Try.prog 4 #[.slice A na ca, .slice B nb cb] w (Yes w) := by
  by_cases y0 : 12 < na
  · have hr := ha.rooms
    go_enter Try.func4, Try.ntmps4
    go_wp2_with fail
    refine (heavy_yes A na ca y0 hr.1 _).mono ?_
    rintro e w' ⟨rfl, rfl⟩
    go_wp2_with fail
    refine (alive_any _).mono ?_
    rintro e w1 ⟨rfl, b1⟩
    go_wp2_with fail
    go_ret
    exact ⟨rfl, b1⟩
  by_cases y1 : 12 < nb
  · have hr := hb.rooms
    go_enter Try.func4, Try.ntmps4
    go_wp2_with fail
    refine (heavy_no A na ca (by omega) _).mono ?_
    rintro e w' ⟨rfl, rfl⟩
    go_wp2_with fail
    refine (heavy_yes B nb cb y1 hr.1 _).mono ?_
    rintro e w' ⟨rfl, rfl⟩
    go_wp2_with fail
    refine (alive_any _).mono ?_
    rintro e w1 ⟨rfl, b1⟩
    go_wp2_with fail
    go_ret
    exact ⟨rfl, b1⟩
  have pa := ha.lt_pow (by omega)
  have pb := hb.lt_pow (by omega)
  obtain ⟨a, ea⟩ : ∃ a, val 18446744073709551616 x = a := ⟨_, rfl⟩
  obtain ⟨b, eb⟩ : ∃ b, val 18446744073709551616 y = b := ⟨_, rfl⟩
  rw [ea] at pa
  rw [eb] at pb
  have Ea := Lib.hid ea
  have Eb := Lib.hid eb
  clear ea eb
  go_enter Try.func4, Try.ntmps4
  go_wp2_with fail
  refine (heavy_no A na ca (by omega) _).mono ?_
  rintro e w' ⟨rfl, rfl⟩
  go_wp2_with fail
  refine (heavy_no B nb cb (by omega) _).mono ?_
  rintro e w' ⟨rfl, rfl⟩
  go_wp2_with fail
  refine (copied_any ha (by omega)).mono ?_
  rintro e W1 ⟨A1, c1, rfl, t1, v1⟩
  have N1a := ha.up v1
  have N1b := hb.up v1
  have B1 := v1
  go_wp2_with fail
  refine (copied_any N1b (by omega)).mono ?_
  rintro e W2 ⟨A2, c2, rfl, t2, v2⟩
  have N2a := N1a.up v2
  have N2b := N1b.up v2
  have N2x := t1.up v2
  have B2 := bthen B1 v2
  go_wp2_with fail
  refine (alive_any _).mono ?_
  rintro e W3 ⟨rfl, v3⟩
  have N3a := N2a.up v3
  have N3b := N2b.up v3
  have N3x := N2x.up v3
  have N3y := t2.up v3
  have B3 := bthen B2 v3
  go_wp2_with fail
  refine (mul_any N3x N3y (by omega) (by omega)).mono ?_
  rintro e W4 ⟨A4, n4, c4, x4, rfl, r4⟩
  rw [Ea.out, Eb.out] at r4
  have z4 : n4 ≤ 64 := r4.le (more_pow (mul_pow (pa) (pb)) (by omega))
  have N4a := N3a.up r4.bel
  have N4b := N3b.up r4.bel
  have N4x := N3x.up r4.bel
  have N4y := N3y.up r4.bel
  have B4 := bthen B3 r4.bel
  go_wp2_with fail
  refine (rmul_any N4a N4b (by omega) (by omega)).mono ?_
  rintro e W5 ⟨A5, n5, c5, x5, rfl, t5, tr5, vl5, v5⟩
  rw [Ea.out, Eb.out] at vl5
  have Vl5 := Lib.hid vl5
  clear vl5
  have N5a := N4a.up v5
  have N5b := N4b.up v5
  have N5x := N4x.up v5
  have N5y := N4y.up v5
  have N5m := r4.nt.up v5
  have B5 := bthen B4 v5
  go_wp2_with fail
  refine (same_yes N5m t5 (res_same_n r4 t5.lim tr5 Vl5.out)).mono ?_
  rintro e W6 ⟨rfl, d6, rfl⟩
  have N6a := N5a.dr d6
  have N6b := N5b.dr d6
  have N6x := N5x.dr d6
  have N6y := N5y.dr d6
  have N6m := N5m.dr d6
  have N6rm := t5.dr d6
  have B6 := bdr B5 d6
  go_wp2_with fail
  refine (same_yes N6x N6a (rfl)).mono ?_
  rintro e W7 ⟨rfl, d7, rfl⟩
  have N7a := N5a.dr (d6 + d7)
  have N7b := N5b.dr (d6 + d7)
  have N7x := N5x.dr (d6 + d7)
  have N7y := N5y.dr (d6 + d7)
  have B7 := bdr B5 (d6 + d7)
  go_wp2_with fail
  refine (same_yes N7y N7b (rfl)).mono ?_
  rintro e W8 ⟨rfl, d8, rfl⟩
  have N8a := N5a.dr ((d6 + d7) + d8)
  have N8b := N5b.dr ((d6 + d7) + d8)
  have N8x := N5x.dr ((d6 + d7) + d8)
  have N8y := N5y.dr ((d6 + d7) + d8)
  have B8 := bdr B5 ((d6 + d7) + d8)
  go_wp2_with fail
  go_ret
  exact ⟨rfl, B8⟩

set_option maxRecDepth 100000 in
theorem lifted (os : Os) (started : os.Started) (H : Type) (enc : TypeId × Value → H) :
    ReturnsInHanded {} Try.checked os 4 .any (Rows.natMulsSpec.pre6 enc Try.prog Try.f4 Rows.natMulsRow.domain false) (Rows.natMulsSpec.post enc Try.prog Try.f4 false true false false) := by
  refine returnsInHanded_of_change (C := Try.checked) own started (by kernel_rfl) Try.func4
    (ChangeSpec.witness6 (enc := enc) (C := Try.checked) false ⟨#[], #[.slice none 0 0, .slice none 0 0], []⟩ 8 (by kernel_rfl) (by kernel_rfl) (by kernel_rfl) (by kernel_rfl)) ?_
  intro W base args ds gs before hval0 hW hcnd _
  have hval : ∀ (j : Nat) t v, Try.f4.params[j]? = some t → args[j]? = some v → Value.okWide Try.prog W .any base t v := hval0
  have hW' := hW
  obtain ⟨p, q, hA0, hV, rfl, hfz, hnd⟩ := hW
  have hA : DataW.TrodAll enc Try.prog W 0 (fun _ => true) true Try.f4.params.toList args.toList ds p := hA0
  rw [Try.params4] at hA hval
  obtain ⟨v0, vs0, d0, ds0, p0, q0, hargs, rfl, rfl, h0, r0⟩ := trodAll_cons hA
  obtain ⟨v1, vs1, d1, ds1, p1, q1, rfl, rfl, rfl, h1, r1⟩ := trodAll_cons r0
  obtain ⟨rfl, rfl, rfl⟩ := trodAll_nil r1
  obtain rfl : args = #[v0, v1] := by cases args; simp_all
  obtain ⟨rfl, rfl⟩ := trodVars_none hV
  obtain ⟨a0, len0, cap0, rfl⟩ := okWide_slice Try.underlying22 (hval 0 22 v0 rfl rfl)
  have k0 := h0
  have lt0 : ∀ x ∈ p0, x.block < W.heap.size := by obtain ⟨m, hm⟩ := k0; exact DataW.trod_lt m _ _ _ hm
  obtain ⟨z0, w0⟩ : ∃ zs, Nt W W.heap.size a0 len0 cap0 zs := by
    obtain ⟨fuel, hf⟩ := h0
    rcases open_ints Try.underlying22 Try.underlying32 (by kernel_rfl) hf with ⟨hcs, _⟩ | ⟨x, l, c, zs, hcs, _, hl, hm, hz, _, hcell, hwz⟩
    · simp [Value.cells] at hcs
      obtain ⟨rfl, rfl, rfl⟩ := hcs
      exact ⟨[], nt_nil _ _⟩
    · simp [Value.cells] at hcs
      obtain ⟨rfl, rfl, rfl⟩ := hcs
      exact ⟨_, nt_of_row hl hm (by simpa using hz) hcell hwz⟩
  obtain ⟨a1, len1, cap1, rfl⟩ := okWide_slice Try.underlying22 (hval 1 22 v1 rfl rfl)
  have k1 := h1
  have lt1 : ∀ x ∈ p1, x.block < W.heap.size := by obtain ⟨m, hm⟩ := k1; exact DataW.trod_lt m _ _ _ hm
  obtain ⟨z1, w1⟩ : ∃ zs, Nt W W.heap.size a1 len1 cap1 zs := by
    obtain ⟨fuel, hf⟩ := h1
    rcases open_ints Try.underlying22 Try.underlying32 (by kernel_rfl) hf with ⟨hcs, _⟩ | ⟨x, l, c, zs, hcs, _, hl, hm, hz, _, hcell, hwz⟩
    · simp [Value.cells] at hcs
      obtain ⟨rfl, rfl, rfl⟩ := hcs
      exact ⟨[], nt_nil _ _⟩
    · simp [Value.cells] at hcs
      obtain ⟨rfl, rfl, rfl⟩ := hcs
      exact ⟨_, nt_of_row hl hm (by simpa using hz) hcell hwz⟩
  clear hA0 hval0
  refine (law_any w0 w1).mono fun e W' ⟨he, bel⟩ => ?_
  subst he
  exact ⟨_, rfl, _, _, _, [], _, [], hW', trodAll_mk1 (shut_bool Try.underlying4 _), (trodAll_cons_mk (Below.trod laidOut (by kernel_rfl) (of_decide_eq_true (by kernel_rfl)) k0 bel lt0) (trodAll_cons_mk (Below.trod laidOut (by kernel_rfl) (of_decide_eq_true (by kernel_rfl)) k1 bel lt1) trodAll_mk0)), rfl, bel.frame _, fun h => by cases h⟩

theorem natMuls_holds : Rows.NatMulsSaid :=
  OpenClaim.holds_of_wide 4 Try.f4 rfl rfl rfl rfl rfl rfl rfl ⟨rfl, rfl, rfl, rfl, rfl⟩ rfl rfl rfl rfl rfl (by kernel_rfl) Try.func4 (by kernel_rfl)
    (of_decide_eq_true (by kernel_rfl)) (by unfold Func.isWrapper; first | (rw [if_pos (by decide +kernel)]; kernel_rfl) | (rw [if_neg (by decide +kernel)]; exact ⟨rfl, rfl⟩))
    (fun os started H enc _ => lifted os started H enc)
#print axioms natMuls_holds
end Go.Proofs.Ytajppinnnmnjiaa.natMulsP
