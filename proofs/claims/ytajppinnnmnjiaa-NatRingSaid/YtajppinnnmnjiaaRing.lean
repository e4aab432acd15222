/- For every three rows of limbs the Go function NatRing returns true and leaves its arguments as they were. No condition. -/
import Derived.Test.YtajppinnnmnjiaaShell
namespace Go.Proofs.Ytajppinnnmnjiaa.natRingP
open Go.ChangeShapes Go.WideShapes Go.ChangeAt Go.RowKit
set_option linter.unusedVariables false

set_option maxHeartbeats 4000000 in
theorem law_any {w : World} {A B C : Option Addr} {na ca nb cb nc cc : Nat} {x y z : List Nat} (ha : Nt w w.heap.size A na ca x) (hb : Nt w w.heap.size B nb cb y) (hc : Nt w w.heap.size C nc cc z) :
    Calls Try.prog 8 #[.slice A na ca, .slice B nb cb, .slice C nc cc] w (Yes w) := by
  by_cases y0 : 12 < na
  · have hr := ha.rooms
    go_enter Try.func8, Try.ntmps8
    go_wp2_with fail
    refine (heavy_yes A na ca y0 hr.1 _).mono ?_
    rintro e w' ⟨rfl, rfl⟩
    go_wp2_with fail
    refine (alive_any _).mono ?_
    rintro e w1 ⟨rfl, b1⟩
    go_wp2_with fail
    go_ret
    exact ⟨rfl, b1⟩
  by_cases y1 : 12 < nb
  · have hr := hb.rooms
    go_enter Try.func8, Try.ntmps8
    go_wp2_with fail
    refine (heavy_no A na ca (by omega) _).mono ?_
    rintro e w' ⟨rfl, rfl⟩
    go_wp2_with fail
    refine (heavy_yes B nb cb y1 hr.1 _).mono ?_
    rintro e w' ⟨rfl, rfl⟩
    go_wp2_with fail
    refine (alive_any _).mono ?_
    rintro e w1 ⟨rfl, b1⟩
    go_wp2_with fail
    go_ret
    exact ⟨rfl, b1⟩
  by_cases y2 : 12 < nc
  · have hr := hc.rooms
    go_enter Try.func8, Try.ntmps8
    go_wp2_with fail
    refine (heavy_no A na ca (by omega) _).mono ?_
    rintro e w' ⟨rfl, rfl⟩
    go_wp2_with fail
    refine (heavy_no B nb cb (by omega) _).mono ?_
    rintro e w' ⟨rfl, rfl⟩
    go_wp2_with fail
    refine (heavy_yes C nc cc y2 hr.1 _).mono ?_
    rintro e w' ⟨rfl, rfl⟩
    go_wp2_with fail
    refine (alive_any _).mono ?_
    rintro e w1 ⟨rfl, b1⟩
    go_wp2_with fail
    go_ret
    exact ⟨rfl, b1⟩
  have pa := ha.lt_pow (by omega)
  have pb := hb.lt_pow (by omega)
  have pc := hc.lt_pow (by omega)
  obtain ⟨a, ea⟩ : ∃ a, val 18446744073709551616 x = a := ⟨_, rfl⟩
  obtain ⟨b, eb⟩ : ∃ b, val 18446744073709551616 y = b := ⟨_, rfl⟩
  obtain ⟨c, ec⟩ : ∃ c, val 18446744073709551616 z = c := ⟨_, rfl⟩
  rw [ea] at pa
  rw [eb] at pb
  rw [ec] at pc
  have Ea := Lib.hid ea
  have Eb := Lib.hid eb
  have Ec := Lib.hid ec
  clear ea eb ec
  go_enter Try.func8, Try.ntmps8
  go_wp2_with fail
  refine (heavy_no A na ca (by omega) _).mono ?_
  rintro e w' ⟨rfl, rfl⟩
  go_wp2_with fail
  refine (heavy_no B nb cb (by omega) _).mono ?_
  rintro e w' ⟨rfl, rfl⟩
  go_wp2_with fail
  refine (heavy_no C nc cc (by omega) _).mono ?_
  rintro e w' ⟨rfl, rfl⟩
  go_wp2_with fail
  refine (add_any hb hc (by omega) (by omega)).mono ?_
  rintro e W1 ⟨A1, n1, c1, x1, rfl, r1⟩
  rw [Eb.out, Ec.out] at r1
  have z1 : n1 ≤ 64 := r1.le (more_pow (add_pow (more_pow (pb) (show 12 ≤ 12 by omega)) (more_pow (pc) (show 12 ≤ 12 by omega))) (by omega))
  have N1a := ha.up r1.bel
  have N1b := hb.up r1.bel
  have N1c := hc.up r1.bel
  have B1 := r1.bel
  go_wp2_with fail
  refine (mul_any N1a r1.nt (by omega) (by omega)).mono ?_
  rintro e W2 ⟨A2, n2, c2, x2, rfl, r2⟩
  rw [Ea.out, r1.is] at r2
  have z2 : n2 ≤ 64 := r2.le (more_pow (mul_pow (pa) (add_pow (more_pow (pb) (show 12 ≤ 12 by omega)) (more_pow (pc) (show 12 ≤ 12 by omega)))) (by omega))
  have N2a := N1a.up r2.bel
  have N2b := N1b.up r2.bel
  have N2c := N1c.up r2.bel
  have N2bc := r1.nt.up r2.bel
  have B2 := bthen B1 r2.bel
  go_wp2_with fail
  refine (mul_any N2c N2a (by omega) (by omega)).mono ?_
  rintro e W3 ⟨A3, n3, c3, x3, rfl, r3⟩
  rw [Ec.out, Ea.out] at r3
  have z3 : n3 ≤ 64 := r3.le (more_pow (mul_pow (pc) (pa)) (by omega))
  have N3a := N2a.up r3.bel
  have N3b := N2b.up r3.bel
  have N3c := N2c.up r3.bel
  have N3left := r2.nt.up r3.bel
  have B3 := bthen B2 r3.bel
  go_wp2_with fail
  refine (mul_any N3b N3a (by omega) (by omega)).mono ?_
  rintro e W4 ⟨A4, n4, c4, x4, rfl, r4⟩
  rw [Eb.out, Ea.out] at r4
  have z4 : n4 ≤ 64 := r4.le (more_pow (mul_pow (pb) (pa)) (by omega))
  have N4a := N3a.up r4.bel
  have N4b := N3b.up r4.bel
  have N4c := N3c.up r4.bel
  have N4left := N3left.up r4.bel
  have N4ca := r3.nt.up r4.bel
  have B4 := bthen B3 r4.bel
  go_wp2_with fail
  refine (add_any N4ca r4.nt (by omega) (by omega)).mono ?_
  rintro e W5 ⟨A5, n5, c5, x5, rfl, r5⟩
  rw [r3.is, r4.is] at r5
  have z5 : n5 ≤ 64 := r5.le (more_pow (add_pow (more_pow (mul_pow (pc) (pa)) (show 24 ≤ 24 by omega)) (more_pow (mul_pow (pb) (pa)) (show 24 ≤ 24 by omega))) (by omega))
  have N5a := N4a.up r5.bel
  have N5b := N4b.up r5.bel
  have N5c := N4c.up r5.bel
  have N5left := N4left.up r5.bel
  have N5ca := N4ca.up r5.bel
  have N5ba := r4.nt.up r5.bel
  have B5 := bthen B4 r5.bel
  go_wp2_with fail
  refine (add_any N5a N5b (by omega) (by omega)).mono ?_
  rintro e W6 ⟨A6, n6, c6, x6, rfl, r6⟩
  rw [Ea.out, Eb.out] at r6
  have z6 : n6 ≤ 64 := r6.le (more_pow (add_pow (more_pow (pa) (show 12 ≤ 12 by omega)) (more_pow (pb) (show 12 ≤ 12 by omega))) (by omega))
  have N6a := N5a.up r6.bel
  have N6b := N5b.up r6.bel
  have N6c := N5c.up r6.bel
  have N6left := N5left.up r6.bel
  have N6right := r5.nt.up r6.bel
  have B6 := bthen B5 r6.bel
  go_wp2_with fail
  refine (add_any r6.nt N6c (by omega) (by omega)).mono ?_
  rintro e W7 ⟨A7, n7, c7, x7, rfl, r7⟩
  rw [r6.is, Ec.out] at r7
  have z7 : n7 ≤ 64 := r7.le (more_pow (add_pow (more_pow (add_pow (more_pow (pa) (show 12 ≤ 12 by omega)) (more_pow (pb) (show 12 ≤ 12 by omega))) (show 13 ≤ 13 by omega)) (more_pow (pc) (show 12 ≤ 13 by omega))) (by omega))
  have N7a := N6a.up r7.bel
  have N7b := N6b.up r7.bel
  have N7c := N6c.up r7.bel
  have N7left := N6left.up r7.bel
  have N7right := N6right.up r7.bel
  have N7ab := r6.nt.up r7.bel
  have B7 := bthen B6 r7.bel
  go_wp2_with fail
  refine (add_any N7c N7b (by omega) (by omega)).mono ?_
  rintro e W8 ⟨A8, n8, c8, x8, rfl, r8⟩
  rw [Ec.out, Eb.out] at r8
  have z8 : n8 ≤ 64 := r8.le (more_pow (add_pow (more_pow (pc) (show 12 ≤ 12 by omega)) (more_pow (pb) (show 12 ≤ 12 by omega))) (by omega))
  have N8a := N7a.up r8.bel
  have N8b := N7b.up r8.bel
  have N8c := N7c.up r8.bel
  have N8left := N7left.up r8.bel
  have N8right := N7right.up r8.bel
  have N8three := r7.nt.up r8.bel
  have B8 := bthen B7 r8.bel
  go_wp2_with fail
  refine (add_any N8a r8.nt (by omega) (by omega)).mono ?_
  rintro e W9 ⟨A9, n9, c9, x9, rfl, r9⟩
  rw [Ea.out, r8.is] at r9
  have z9 : n9 ≤ 64 := r9.le (more_pow (add_pow (more_pow (pa) (show 12 ≤ 13 by omega)) (more_pow (add_pow (more_pow (pc) (show 12 ≤ 12 by omega)) (more_pow (pb) (show 12 ≤ 12 by omega))) (show 13 ≤ 13 by omega))) (by omega))
  have N9a := N8a.up r9.bel
  have N9b := N8b.up r9.bel
  have N9c := N8c.up r9.bel
  have N9left := N8left.up r9.bel
  have N9right := N8right.up r9.bel
  have N9three := N8three.up r9.bel
  have N9cb := r8.nt.up r9.bel
  have B9 := bthen B8 r9.bel
  go_wp2_with fail
  refine (alive_any _).mono ?_
  rintro e W10 ⟨rfl, v10⟩
  have N10a := N9a.up v10
  have N10b := N9b.up v10
  have N10c := N9c.up v10
  have N10left := N9left.up v10
  have N10right := N9right.up v10
  have N10three := N9three.up v10
  have N10turned := r9.nt.up v10
  have B10 := bthen B9 v10
  go_wp2_with fail
  have e1 : ((c * a) + (b * a)) = (a * (b + c)) := by rw [Nat.mul_add, Nat.mul_comm c a, Nat.mul_comm b a, Nat.add_comm]
  rw [e1] at r5
  clear e1
  refine (same_yes N10left N10right (r2.same r5)).mono ?_
  rintro e W11 ⟨rfl, d11, rfl⟩
  have N11a := N10a.dr d11
  have N11b := N10b.dr d11
  have N11c := N10c.dr d11
  have N11left := N10left.dr d11
  have N11right := N10right.dr d11
  have N11three := N10three.dr d11
  have N11turned := N10turned.dr d11
  have B11 := bdr B10 d11
  go_wp2_with fail
  have e1 : (a + (c + b)) = ((a + b) + c) := by omega
  rw [e1] at r9
  clear e1
  refine (same_yes N11three N11turned (r7.same r9)).mono ?_
  rintro e W12 ⟨rfl, d12, rfl⟩
  have N12a := N10a.dr (d11 + d12)
  have N12b := N10b.dr (d11 + d12)
  have N12c := N10c.dr (d11 + d12)
  have N12three := N10three.dr (d11 + d12)
  have N12turned := N10turned.dr (d11 + d12)
  have B12 := bdr B10 (d11 + d12)
  go_wp2_with fail
  refine (mul_any N12a N12b (by omega) (by omega)).mono ?_
  rintro e W13 ⟨A13, n13, c13, x13, rfl, r13⟩
  rw [Ea.out, Eb.out] at r13
  have z13 : n13 ≤ 64 := r13.le (more_pow (mul_pow (pa) (pb)) (by omega))
  have N13a := N12a.up r13.bel
  have N13b := N12b.up r13.bel
  have N13c := N12c.up r13.bel
  have B13 := bthen B12 r13.bel
  go_wp2_with fail
  refine (mul_any r13.nt N13c (by omega) (by omega)).mono ?_
  rintro e W14 ⟨A14, n14, c14, x14, rfl, r14⟩
  rw [r13.is, Ec.out] at r14
  have z14 : n14 ≤ 64 := r14.le (more_pow (mul_pow (mul_pow (pa) (pb)) (pc)) (by omega))
  have N14a := N13a.up r14.bel
  have N14b := N13b.up r14.bel
  have N14c := N13c.up r14.bel
  have N14ab := r13.nt.up r14.bel
  have B14 := bthen B13 r14.bel
  go_wp2_with fail
  refine (mul_any N14b N14c (by omega) (by omega)).mono ?_
  rintro e W15 ⟨A15, n15, c15, x15, rfl, r15⟩
  rw [Eb.out, Ec.out] at r15
  have z15 : n15 ≤ 64 := r15.le (more_pow (mul_pow (pb) (pc)) (by omega))
  have N15a := N14a.up r15.bel
  have N15b := N14b.up r15.bel
  have N15c := N14c.up r15.bel
  have N15abc := r14.nt.up r15.bel
  have B15 := bthen B14 r15.bel
  go_wp2_with fail
  refine (mul_any N15a r15.nt (by omega) (by omega)).mono ?_
  rintro e W16 ⟨A16, n16, c16, x16, rfl, r16⟩
  rw [Ea.out, r15.is] at r16
  have z16 : n16 ≤ 64 := r16.le (more_pow (mul_pow (pa) (mul_pow (pb) (pc))) (by omega))
  have N16a := N15a.up r16.bel
  have N16b := N15b.up r16.bel
  have N16c := N15c.up r16.bel
  have N16abc := N15abc.up r16.bel
  have N16bc := r15.nt.up r16.bel
  have B16 := bthen B15 r16.bel
  go_wp2_with fail
  have e1 : (a * (b * c)) = ((a * b) * c) := (Nat.mul_assoc a b c).symm
  rw [e1] at r16
  clear e1
  refine (same_yes N16abc r16.nt (r14.same r16)).mono ?_
  rintro e W17 ⟨rfl, d17, rfl⟩
  have N17a := N16a.dr d17
  have N17b := N16b.dr d17
  have N17c := N16c.dr d17
  have N17abc := N16abc.dr d17
  have N17abc2 := r16.nt.dr d17
  have B17 := bdr B16 d17
  go_wp2_with fail
  go_ret
  exact ⟨rfl, B17⟩

set_option maxRecDepth 100000 in
theorem lifted (os : Os) (started : os.Started) (H : Type) (enc : TypeId × Value → H) :
    ReturnsInHanded {} Try.checked os 8 .any (Rows.natRingSpec.pre6 enc Try.prog Try.f8 Rows.natRingRow.domain false) (Rows.natRingSpec.post enc Try.prog Try.f8 false true false false) := by
  refine returnsInHanded_of_change (C := Try.checked) own started (by kernel_rfl) Try.func8
    (ChangeSpec.witness6 (enc := enc) (C := Try.checked) false ⟨#[], #[.slice none 0 0, .slice none 0 0, .slice none 0 0], []⟩ 8 (by kernel_rfl) (by kernel_rfl) (by kernel_rfl) (by kernel_rfl)) ?_
  intro W base args ds gs before hval0 hW hcnd _
  have hval : ∀ (j : Nat) t v, Try.f8.params[j]? = some t → args[j]? = some v → Value.okWide Try.prog W .any base t v := hval0
  have hW' := hW
  obtain ⟨p, q, hA0, hV, rfl, hfz, hnd⟩ := hW
  have hA : DataW.TrodAll enc Try.prog W 0 (fun _ => true) true Try.f8.params.toList args.toList ds p := hA0
  rw [Try.params8] at hA hval
  obtain ⟨v0, vs0, d0, ds0, p0, q0, hargs, rfl, rfl, h0, r0⟩ := trodAll_cons hA
  obtain ⟨v1, vs1, d1, ds1, p1, q1, rfl, rfl, rfl, h1, r1⟩ := trodAll_cons r0
  obtain ⟨v2, vs2, d2, ds2, p2, q2, rfl, rfl, rfl, h2, r2⟩ := trodAll_cons r1
  obtain ⟨rfl, rfl, rfl⟩ := trodAll_nil r2
  obtain rfl : args = #[v0, v1, v2] := by cases args; simp_all
  obtain ⟨rfl, rfl⟩ := trodVars_none hV
  obtain ⟨a0, len0, cap0, rfl⟩ := okWide_slice Try.underlying22 (hval 0 22 v0 rfl rfl)
  have k0 := h0
  have lt0 : ∀ x ∈ p0, x.block < W.heap.size := by obtain ⟨m, hm⟩ := k0; exact DataW.trod_lt m _ _ _ hm
  obtain ⟨z0, w0⟩ : ∃ zs, Nt W W.heap.size a0 len0 cap0 zs := by
    obtain ⟨fuel, hf⟩ := h0
    rcases open_ints Try.underlying22 Try.underlying32 (by kernel_rfl) hf with ⟨hcs, _⟩ | ⟨x, l, c, zs, hcs, _, hl, hm, hz, _, hcell, hwz⟩
    · simp [Value.cells] at hcs
      obtain ⟨rfl, rfl, rfl⟩ := hcs
      exact ⟨[], nt_nil _ _⟩
    · simp [Value.cells] at hcs
      obtain ⟨rfl, rfl, rfl⟩ := hcs
      exact ⟨_, nt_of_row hl hm (by simpa using hz) hcell hwz⟩
  obtain ⟨a1, len1, cap1, rfl⟩ := okWide_slice Try.underlying22 (hval 1 22 v1 rfl rfl)
  have k1 := h1
  have lt1 : ∀ x ∈ p1, x.block < W.heap.size := by obtain ⟨m, hm⟩ := k1; exact DataW.trod_lt m _ _ _ hm
  obtain ⟨z1, w1⟩ : ∃ zs, Nt W W.heap.size a1 len1 cap1 zs := by
    obtain ⟨fuel, hf⟩ := h1
    rcases open_ints Try.underlying22 Try.underlying32 (by kernel_rfl) hf with ⟨hcs, _⟩ | ⟨x, l, c, zs, hcs, _, hl, hm, hz, _, hcell, hwz⟩
    · simp [Value.cells] at hcs
      obtain ⟨rfl, rfl, rfl⟩ := hcs
      exact ⟨[], nt_nil _ _⟩
    · simp [Value.cells] at hcs
      obtain ⟨rfl, rfl, rfl⟩ := hcs
      exact ⟨_, nt_of_row hl hm (by simpa using hz) hcell hwz⟩
  obtain ⟨a2, len2, cap2, rfl⟩ := okWide_slice Try.underlying22 (hval 2 22 v2 rfl rfl)
  have k2 := h2
  have lt2 : ∀ x ∈ p2, x.block < W.heap.size := by obtain ⟨m, hm⟩ := k2; exact DataW.trod_lt m _ _ _ hm
  obtain ⟨z2, w2⟩ : ∃ zs, Nt W W.heap.size a2 len2 cap2 zs := by
    obtain ⟨fuel, hf⟩ := h2
    rcases open_ints Try.underlying22 Try.underlying32 (by kernel_rfl) hf with ⟨hcs, _⟩ | ⟨x, l, c, zs, hcs, _, hl, hm, hz, _, hcell, hwz⟩
    · simp [Value.cells] at hcs
      obtain ⟨rfl, rfl, rfl⟩ := hcs
      exact ⟨[], nt_nil _ _⟩
    · simp [Value.cells] at hcs
      obtain ⟨rfl, rfl, rfl⟩ := hcs
      exact ⟨_, nt_of_row hl hm (by simpa using hz) hcell hwz⟩
  clear hA0 hval0
  refine (law_any w0 w1 w2).mono fun e W' ⟨he, bel⟩ => ?_
  subst he
  exact ⟨_, rfl, _, _, _, [], _, [], hW', trodAll_mk1 (shut_bool Try.underlying4 _), (trodAll_cons_mk (Below.trod laidOut (by kernel_rfl) (of_decide_eq_true (by kernel_rfl)) k0 bel lt0) (trodAll_cons_mk (Below.trod laidOut (by kernel_rfl) (of_decide_eq_true (by kernel_rfl)) k1 bel lt1) (trodAll_cons_mk (Below.trod laidOut (by kernel_rfl) (of_decide_eq_true (by kernel_rfl)) k2 bel lt2) trodAll_mk0))), rfl, bel.frame _, fun h => by cases h⟩

theorem natRing_holds : Rows.NatRingSaid :=
  OpenClaim.holds_of_wide 8 Try.f8 rfl rfl rfl rfl rfl rfl rfl ⟨rfl, rfl, rfl, rfl, rfl⟩ rfl rfl rfl rfl rfl (by kernel_rfl) Try.func8 (by kernel_rfl)
    (of_decide_eq_true (by kernel_rfl)) (by unfold Func.isWrapper; first | (rw [if_pos (by decide +kernel)]; kernel_rfl) | (rw [if_neg (by decide +kernel)]; exact ⟨rfl, rfl⟩))
    (fun os started H enc _ => lifted os started H enc)
#print axioms natRing_holds
end Go.Proofs.Ytajppinnnmnjiaa.natRingP
