/- For every three rows of limbs the Go function NatOrder returns true and leaves its arguments as they were. No condition. -/
import Derived.Test.YtajppinnnmnjiaaCases
namespace Go.Proofs.Ytajppinnnmnjiaa.natOrderP
open Go.ChangeShapes Go.WideShapes Go.ChangeAt Go.RowKit
set_option linter.unusedVariables false


set_option maxHeartbeats 4000000 in
theorem law_any {w : World} {A B C : Option Addr} {na ca nb cb nc cc : Nat} {x y z : List Nat} (ha : Nt w w.heap.size A na ca x) (hb : Nt w w.heap.size B nb cb y) (hc : Nt w w.heap.size C nc cc z) :
    Calls Try.prog 10 #[.slice A na ca, .slice B nb cb, .slice C nc cc] w (Yes w) := by
  by_cases y0 : 12 < na
  · have hr := ha.rooms
    go_enter Try.func10, Try.ntmps10
    go_wp2_with fail
    refine (heavy_yes A na ca y0 hr.1 _).mono ?_
    rintro e w' ⟨rfl, rfl⟩
    go_wp2_with fail
    refine (alive_any _).mono ?_
    rintro e w1 ⟨rfl, b1⟩
    go_wp2_with fail
    go_ret
    exact ⟨rfl, b1⟩
  by_cases y1 : 12 < nb
  · have hr := hb.rooms
    go_enter Try.func10, Try.ntmps10
    go_wp2_with fail
    refine (heavy_no A na ca (by omega) _).mono ?_
    rintro e w' ⟨rfl, rfl⟩
    go_wp2_with fail
    refine (heavy_yes B nb cb y1 hr.1 _).mono ?_
    rintro e w' ⟨rfl, rfl⟩
    go_wp2_with fail
    refine (alive_any _).mono ?_
    rintro e w1 ⟨rfl, b1⟩
    go_wp2_with fail
    go_ret
    exact ⟨rfl, b1⟩
  by_cases y2 : 12 < nc
  · have hr := hc.rooms
    go_enter Try.func10, Try.ntmps10
    go_wp2_with fail
    refine (heavy_no A na ca (by omega) _).mono ?_
    rintro e w' ⟨rfl, rfl⟩
    go_wp2_with fail
    refine (heavy_no B nb cb (by omega) _).mono ?_
    rintro e w' ⟨rfl, rfl⟩
    go_wp2_with fail
    refine (heavy_yes C nc cc y2 hr.1 _).mono ?_
    rintro e w' ⟨rfl, rfl⟩
    go_wp2_with fail
    refine (alive_any _).mono ?_
    rintro e w1 ⟨rfl, b1⟩
    go_wp2_with fail
    go_ret
    exact ⟨rfl, b1⟩
  have pa := ha.lt_pow (by omega)
  have pb := hb.lt_pow (by omega)
  have pc := hc.lt_pow (by omega)
  obtain ⟨a, ea⟩ : ∃ a, val 18446744073709551616 x = a := ⟨_, rfl⟩
  obtain ⟨b, eb⟩ : ∃ b, val 18446744073709551616 y = b := ⟨_, rfl⟩
  obtain ⟨c, ec⟩ : ∃ c, val 18446744073709551616 z = c := ⟨_, rfl⟩
  rw [ea] at pa
  rw [eb] at pb
  rw [ec] at pc
  have Ea := Lib.hid ea
  have Eb := Lib.hid eb
  have Ec := Lib.hid ec
  clear ea eb ec
  rcases Nat.lt_trichotomy (val 18446744073709551616 x) (val 18446744073709551616 y) with hcase' | hcase' | hcase'
  · have hcase := Lib.hid hcase'
    clear hcase'
    go_enter Try.func10, Try.ntmps10
    go_wp2_with fail
    refine (heavy_no A na ca (by omega) _).mono ?_
    rintro e w' ⟨rfl, rfl⟩
    go_wp2_with fail
    refine (heavy_no B nb cb (by omega) _).mono ?_
    rintro e w' ⟨rfl, rfl⟩
    go_wp2_with fail
    refine (heavy_no C nc cc (by omega) _).mono ?_
    rintro e w' ⟨rfl, rfl⟩
    go_wp2_with fail
    refine (cmp_lt ha hb (hcase.out)).mono ?_
    rintro e W1 ⟨rfl, d1, rfl⟩
    have N1a := ha.dr d1
    have N1b := hb.dr d1
    have N1c := hc.dr d1
    have B1 := bdr (w := w) (w1 := w) (Below.refl _ _) d1
    go_wp2_with fail
    refine (sub_no N1a N1b (by omega) (hcase.out)).mono ?_
    rintro e W2 ⟨rfl, v2⟩
    have N2a := N1a.up v2
    have N2b := N1b.up v2
    have N2c := N1c.up v2
    have B2 := bthen B1 v2
    go_wp2_with fail
    refine (alive_any _).mono ?_
    rintro e W3 ⟨rfl, v3⟩
    have N3a := N2a.up v3
    have N3b := N2b.up v3
    have N3c := N2c.up v3
    have B3 := bthen B2 v3
    go_wp2_with fail
    refine (cmp_gt N3b N3a (hcase.out)).mono ?_
    rintro e W4 ⟨rfl, d4, rfl⟩
    have N4a := N3a.dr d4
    have N4b := N3b.dr d4
    have N4c := N3c.dr d4
    have B4 := bdr B3 d4
    go_wp2_with fail
    refine (add_any N4a N4c (by omega) (by omega)).mono ?_
    rintro e W5 ⟨A5, n5, c5, x5, rfl, r5⟩
    rw [Ea.out, Ec.out] at r5
    have z5 : n5 ≤ 64 := r5.le (more_pow (add_pow (more_pow (pa) (show 12 ≤ 12 by omega)) (more_pow (pc) (show 12 ≤ 12 by omega))) (by omega))
    have N5a := N4a.up r5.bel
    have N5b := N4b.up r5.bel
    have N5c := N4c.up r5.bel
    have B5 := bthen B4 r5.bel
    go_wp2_with fail
    refine (add_any N5b N5c (by omega) (by omega)).mono ?_
    rintro e W6 ⟨A6, n6, c6, x6, rfl, r6⟩
    rw [Eb.out, Ec.out] at r6
    have z6 : n6 ≤ 64 := r6.le (more_pow (add_pow (more_pow (pb) (show 12 ≤ 12 by omega)) (more_pow (pc) (show 12 ≤ 12 by omega))) (by omega))
    have N6a := N5a.up r6.bel
    have N6b := N5b.up r6.bel
    have N6c := N5c.up r6.bel
    have N6ac := r5.nt.up r6.bel
    have B6 := bthen B5 r6.bel
    go_wp2_with fail
    refine (cmp_lt N6ac r6.nt (by have := hcase.out; rw [Ea.out, Eb.out] at this; rw [r5.is, r6.is]; omega)).mono ?_
    rintro e W7 ⟨rfl, d7, rfl⟩
    have N7a := N6a.dr d7
    have N7b := N6b.dr d7
    have N7c := N6c.dr d7
    have N7ac := N6ac.dr d7
    have N7bc := r6.nt.dr d7
    have B7 := bdr B6 d7
    go_wp2_with fail
    refine (cmp_eq N7a N7a (rfl)).mono ?_
    rintro e W8 ⟨rfl, d8, rfl⟩
    have N8a := N6a.dr (d7 + d8)
    have N8b := N6b.dr (d7 + d8)
    have N8c := N6c.dr (d7 + d8)
    have N8ac := N6ac.dr (d7 + d8)
    have N8bc := r6.nt.dr (d7 + d8)
    have B8 := bdr B6 (d7 + d8)
    go_wp2_with fail
    go_ret
    exact ⟨rfl, B8⟩
  · have hcase := Lib.hid hcase'
    clear hcase'
    go_enter Try.func10, Try.ntmps10
    go_wp2_with fail
    refine (heavy_no A na ca (by omega) _).mono ?_
    rintro e w' ⟨rfl, rfl⟩
    go_wp2_with fail
    refine (heavy_no B nb cb (by omega) _).mono ?_
    rintro e w' ⟨rfl, rfl⟩
    go_wp2_with fail
    refine (heavy_no C nc cc (by omega) _).mono ?_
    rintro e w' ⟨rfl, rfl⟩
    go_wp2_with fail
    refine (cmp_eq ha hb (hcase.out)).mono ?_
    rintro e W1 ⟨rfl, d1, rfl⟩
    have N1a := ha.dr d1
    have N1b := hb.dr d1
    have N1c := hc.dr d1
    have B1 := bdr (w := w) (w1 := w) (Below.refl _ _) d1
    go_wp2_with fail
    refine (sub_ok N1a N1b (by omega) (by have := hcase.out; omega)).mono ?_
    rintro e W2 ⟨A2, n2, c2, x2, rfl, r2⟩
    have N2a := N1a.up r2.bel
    have N2b := N1b.up r2.bel
    have N2c := N1c.up r2.bel
    have B2 := bthen B1 r2.bel
    go_wp2_with fail
    refine (alive_any _).mono ?_
    rintro e W3 ⟨rfl, v3⟩
    have N3a := N2a.up v3
    have N3b := N2b.up v3
    have N3c := N2c.up v3
    have B3 := bthen B2 v3
    go_wp2_with fail
    refine (cmp_eq N3b N3a (hcase.out.symm)).mono ?_
    rintro e W4 ⟨rfl, d4, rfl⟩
    have N4a := N3a.dr d4
    have N4b := N3b.dr d4
    have N4c := N3c.dr d4
    have B4 := bdr B3 d4
    go_wp2_with fail
    refine (add_any N4a N4c (by omega) (by omega)).mono ?_
    rintro e W5 ⟨A5, n5, c5, x5, rfl, r5⟩
    rw [Ea.out, Ec.out] at r5
    have z5 : n5 ≤ 64 := r5.le (more_pow (add_pow (more_pow (pa) (show 12 ≤ 12 by omega)) (more_pow (pc) (show 12 ≤ 12 by omega))) (by omega))
    have N5a := N4a.up r5.bel
    have N5b := N4b.up r5.bel
    have N5c := N4c.up r5.bel
    have B5 := bthen B4 r5.bel
    go_wp2_with fail
    refine (add_any N5b N5c (by omega) (by omega)).mono ?_
    rintro e W6 ⟨A6, n6, c6, x6, rfl, r6⟩
    rw [Eb.out, Ec.out] at r6
    have z6 : n6 ≤ 64 := r6.le (more_pow (add_pow (more_pow (pb) (show 12 ≤ 12 by omega)) (more_pow (pc) (show 12 ≤ 12 by omega))) (by omega))
    have N6a := N5a.up r6.bel
    have N6b := N5b.up r6.bel
    have N6c := N5c.up r6.bel
    have N6ac := r5.nt.up r6.bel
    have B6 := bthen B5 r6.bel
    go_wp2_with fail
    refine (cmp_eq N6ac r6.nt (by have := hcase.out; rw [Ea.out, Eb.out] at this; rw [r5.is, r6.is]; omega)).mono ?_
    rintro e W7 ⟨rfl, d7, rfl⟩
    have N7a := N6a.dr d7
    have N7b := N6b.dr d7
    have N7c := N6c.dr d7
    have N7ac := N6ac.dr d7
    have N7bc := r6.nt.dr d7
    have B7 := bdr B6 d7
    go_wp2_with fail
    refine (cmp_eq N7a N7a (rfl)).mono ?_
    rintro e W8 ⟨rfl, d8, rfl⟩
    have N8a := N6a.dr (d7 + d8)
    have N8b := N6b.dr (d7 + d8)
    have N8c := N6c.dr (d7 + d8)
    have N8ac := N6ac.dr (d7 + d8)
    have N8bc := r6.nt.dr (d7 + d8)
    have B8 := bdr B6 (d7 + d8)
    go_wp2_with fail
    go_ret
    exact ⟨rfl, B8⟩
  · have hcase := Lib.hid hcase'
    clear hcase'
    go_enter Try.func10, Try.ntmps10
    go_wp2_with fail
    refine (heavy_no A na ca (by omega) _).mono ?_
    rintro e w' ⟨rfl, rfl⟩
    go_wp2_with fail
    refine (heavy_no B nb cb (by omega) _).mono ?_
    rintro e w' ⟨rfl, rfl⟩
    go_wp2_with fail
    refine (heavy_no C nc cc (by omega) _).mono ?_
    rintro e w' ⟨rfl, rfl⟩
    go_wp2_with fail
    refine (cmp_gt ha hb (hcase.out)).mono ?_
    rintro e W1 ⟨rfl, d1, rfl⟩
    have N1a := ha.dr d1
    have N1b := hb.dr d1
    have N1c := hc.dr d1
    have B1 := bdr (w := w) (w1 := w) (Below.refl _ _) d1
    go_wp2_with fail
    refine (sub_ok N1a N1b (by omega) (by have := hcase.out; omega)).mono ?_
    rintro e W2 ⟨A2, n2, c2, x2, rfl, r2⟩
    have N2a := N1a.up r2.bel
    have N2b := N1b.up r2.bel
    have N2c := N1c.up r2.bel
    have B2 := bthen B1 r2.bel
    go_wp2_with fail
    refine (alive_any _).mono ?_
    rintro e W3 ⟨rfl, v3⟩
    have N3a := N2a.up v3
    have N3b := N2b.up v3
    have N3c := N2c.up v3
    have B3 := bthen B2 v3
    go_wp2_with fail
    refine (cmp_lt N3b N3a (hcase.out)).mono ?_
    rintro e W4 ⟨rfl, d4, rfl⟩
    have N4a := N3a.dr d4
    have N4b := N3b.dr d4
    have N4c := N3c.dr d4
    have B4 := bdr B3 d4
    go_wp2_with fail
    refine (add_any N4a N4c (by omega) (by omega)).mono ?_
    rintro e W5 ⟨A5, n5, c5, x5, rfl, r5⟩
    rw [Ea.out, Ec.out] at r5
    have z5 : n5 ≤ 64 := r5.le (more_pow (add_pow (more_pow (pa) (show 12 ≤ 12 by omega)) (more_pow (pc) (show 12 ≤ 12 by omega))) (by omega))
    have N5a := N4a.up r5.bel
    have N5b := N4b.up r5.bel
    have N5c := N4c.up r5.bel
    have B5 := bthen B4 r5.bel
    go_wp2_with fail
    refine (add_any N5b N5c (by omega) (by omega)).mono ?_
    rintro e W6 ⟨A6, n6, c6, x6, rfl, r6⟩
    rw [Eb.out, Ec.out] at r6
    have z6 : n6 ≤ 64 := r6.le (more_pow (add_pow (more_pow (pb) (show 12 ≤ 12 by omega)) (more_pow (pc) (show 12 ≤ 12 by omega))) (by omega))
    have N6a := N5a.up r6.bel
    have N6b := N5b.up r6.bel
    have N6c := N5c.up r6.bel
    have N6ac := r5.nt.up r6.bel
    have B6 := bthen B5 r6.bel
    go_wp2_with fail
    refine (cmp_gt N6ac r6.nt (by have := hcase.out; rw [Ea.out, Eb.out] at this; rw [r5.is, r6.is]; omega)).mono ?_
    rintro e W7 ⟨rfl, d7, rfl⟩
    have N7a := N6a.dr d7
    have N7b := N6b.dr d7
    have N7c := N6c.dr d7
    have N7ac := N6ac.dr d7
    have N7bc := r6.nt.dr d7
    have B7 := bdr B6 d7
    go_wp2_with fail
    refine (cmp_eq N7a N7a (rfl)).mono ?_
    rintro e W8 ⟨rfl, d8, rfl⟩
    have N8a := N6a.dr (d7 + d8)
    have N8b := N6b.dr (d7 + d8)
    have N8c := N6c.dr (d7 + d8)
    have N8ac := N6ac.dr (d7 + d8)
    have N8bc := r6.nt.dr (d7 + d8)
    have B8 := bdr B6 (d7 + d8)
    go_wp2_with fail
    go_ret
    exact ⟨rfl, B8⟩

set_option maxRecDepth 100000 in
theorem lifted (os : Os) (started : os.Started) (H : Type) (enc : TypeId × Value → H) :
    ReturnsInHanded {} Try.checked os 10 .any (Rows.natOrderSpec.pre6 enc Try.prog Try.f10 Rows.natOrderRow.domain false) (Rows.natOrderSpec.post enc Try.prog Try.f10 false true false false) := by
  refine returnsInHanded_of_change (C := Try.checked) own started (by kernel_rfl) Try.func10
    (ChangeSpec.witness6 (enc := enc) (C := Try.checked) false ⟨#[], #[.slice none 0 0, .slice none 0 0, .slice none 0 0], []⟩ 8 (by kernel_rfl) (by kernel_rfl) (by kernel_rfl) (by kernel_rfl)) ?_
  intro W base args ds gs before hval0 hW hcnd _
  have hval : ∀ (j : Nat) t v, Try.f10.params[j]? = some t → args[j]? = some v → Value.okWide Try.prog W .any base t v := hval0
  have hW' := hW
  obtain ⟨p, q, hA0, hV, rfl, hfz, hnd⟩ := hW
  have hA : DataW.TrodAll enc Try.prog W 0 (fun _ => true) true Try.f10.params.toList args.toList ds p := hA0
  rw [Try.params10] at hA hval
  obtain ⟨v0, vs0, d0, ds0, p0, q0, hargs, rfl, rfl, h0, r0⟩ := trodAll_cons hA
  obtain ⟨v1, vs1, d1, ds1, p1, q1, rfl, rfl, rfl, h1, r1⟩ := trodAll_cons r0
  obtain ⟨v2, vs2, d2, ds2, p2, q2, rfl, rfl, rfl, h2, r2⟩ := trodAll_cons r1
  obtain ⟨rfl, rfl, rfl⟩ := trodAll_nil r2
  obtain rfl : args = #[v0, v1, v2] := by cases args; simp_all
  obtain ⟨rfl, rfl⟩ := trodVars_none hV
  obtain ⟨a0, len0, cap0, rfl⟩ := okWide_slice Try.underlying22 (hval 0 22 v0 rfl rfl)
  have k0 := h0
  have lt0 : ∀ x ∈ p0, x.block < W.heap.size := by obtain ⟨m, hm⟩ := k0; exact DataW.trod_lt m _ _ _ hm
  obtain ⟨z0, w0⟩ : ∃ zs, Nt W W.heap.size a0 len0 cap0 zs := by
    obtain ⟨fuel, hf⟩ := h0
    rcases open_ints Try.underlying22 Try.underlying32 (by kernel_rfl) hf with ⟨hcs, _⟩ | ⟨x, l, c, zs, hcs, _, hl, hm, hz, _, hcell, hwz⟩
    · simp [Value.cells] at hcs
      obtain ⟨rfl, rfl, rfl⟩ := hcs
      exact ⟨[], nt_nil _ _⟩
    · simp [Value.cells] at hcs
      obtain ⟨rfl, rfl, rfl⟩ := hcs
      exact ⟨_, nt_of_row hl hm (by simpa using hz) hcell hwz⟩
  obtain ⟨a1, len1, cap1, rfl⟩ := okWide_slice Try.underlying22 (hval 1 22 v1 rfl rfl)
  have k1 := h1
  have lt1 : ∀ x ∈ p1, x.block < W.heap.size := by obtain ⟨m, hm⟩ := k1; exact DataW.trod_lt m _ _ _ hm
  obtain ⟨z1, w1⟩ : ∃ zs, Nt W W.heap.size a1 len1 cap1 zs := by
    obtain ⟨fuel, hf⟩ := h1
    rcases open_ints Try.underlying22 Try.underlying32 (by kernel_rfl) hf with ⟨hcs, _⟩ | ⟨x, l, c, zs, hcs, _, hl, hm, hz, _, hcell, hwz⟩
    · simp [Value.cells] at hcs
      obtain ⟨rfl, rfl, rfl⟩ := hcs
      exact ⟨[], nt_nil _ _⟩
    · simp [Value.cells] at hcs
      obtain ⟨rfl, rfl, rfl⟩ := hcs
      exact ⟨_, nt_of_row hl hm (by simpa using hz) hcell hwz⟩
  obtain ⟨a2, len2, cap2, rfl⟩ := okWide_slice Try.underlying22 (hval 2 22 v2 rfl rfl)
  have k2 := h2
  have lt2 : ∀ x ∈ p2, x.block < W.heap.size := by obtain ⟨m, hm⟩ := k2; exact DataW.trod_lt m _ _ _ hm
  obtain ⟨z2, w2⟩ : ∃ zs, Nt W W.heap.size a2 len2 cap2 zs := by
    obtain ⟨fuel, hf⟩ := h2
    rcases open_ints Try.underlying22 Try.underlying32 (by kernel_rfl) hf with ⟨hcs, _⟩ | ⟨x, l, c, zs, hcs, _, hl, hm, hz, _, hcell, hwz⟩
    · simp [Value.cells] at hcs
      obtain ⟨rfl, rfl, rfl⟩ := hcs
      exact ⟨[], nt_nil _ _⟩
    · simp [Value.cells] at hcs
      obtain ⟨rfl, rfl, rfl⟩ := hcs
      exact ⟨_, nt_of_row hl hm (by simpa using hz) hcell hwz⟩
  clear hA0 hval0
  refine (law_any w0 w1 w2).mono fun e W' ⟨he, bel⟩ => ?_
  subst he
  exact ⟨_, rfl, _, _, _, [], _, [], hW', trodAll_mk1 (shut_bool Try.underlying4 _), (trodAll_cons_mk (Below.trod laidOut (by kernel_rfl) (of_decide_eq_true (by kernel_rfl)) k0 bel lt0) (trodAll_cons_mk (Below.trod laidOut (by kernel_rfl) (of_decide_eq_true (by kernel_rfl)) k1 bel lt1) (trodAll_cons_mk (Below.trod laidOut (by kernel_rfl) (of_decide_eq_true (by kernel_rfl)) k2 bel lt2) trodAll_mk0))), rfl, bel.frame _, fun h => by cases h⟩

theorem natOrder_holds : Rows.NatOrderSaid :=
  OpenClaim.holds_of_wide 10 Try.f10 rfl rfl rfl rfl rfl rfl rfl ⟨rfl, rfl, rfl, rfl, rfl⟩ rfl rfl rfl rfl rfl (by kernel_rfl) Try.func10 (by kernel_rfl)
    (of_decide_eq_true (by kernel_rfl)) (by unfold Func.isWrapper; first | (rw [if_pos (by decide +kernel)]; kernel_rfl) | (rw [if_neg (by decide +kernel)]; exact ⟨rfl, rfl⟩))
    (fun os started H enc _ => lifted os started H enc)
#print axioms natOrder_holds
end Go.Proofs.Ytajppinnnmnjiaa.natOrderP
