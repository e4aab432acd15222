/- For every two rows of limbs the Go function NatBack returns true and leaves its arguments as they were. No condition. -/
import Derived.Test.YtajppinnnmnjiaaCases
namespace Go.Proofs.Ytajppinnnmnjiaa.natBackP
open Go.ChangeShapes Go.WideShapes Go.ChangeAt Go.RowKit
set_option linter.unusedVariables false


set_option maxHeartbeats 4000000 in
theorem law_any {w : World} {A B : Option Addr} {na ca nb cb : Nat} {x y : List Nat} (ha : Nt w w.heap.size A na ca x) (hb : Nt w w.heap.size B nb cb y) :
    Calls Try.prog 9 #[.slice A na ca, .slice B nb cb] w (Yes w) := by
  by_cases y0 : 12 < na
  · have hr := ha.rooms
    go_enter Try.func9, Try.ntmps9
    go_wp2_with fail
    refine (heavy_yes A na ca y0 hr.1 _).mono ?_
    rintro e w' ⟨rfl, rfl⟩
    go_wp2_with fail
    refine (alive_any _).mono ?_
    rintro e w1 ⟨rfl, b1⟩
    go_wp2_with fail
    go_ret
    exact ⟨rfl, b1⟩
  by_cases y1 : 12 < nb
  · have hr := hb.rooms
    go_enter Try.func9, Try.ntmps9
    go_wp2_with fail
    refine (heavy_no A na ca (by omega) _).mono ?_
    rintro e w' ⟨rfl, rfl⟩
    go_wp2_with fail
    refine (heavy_yes B nb cb y1 hr.1 _).mono ?_
    rintro e w' ⟨rfl, rfl⟩
    go_wp2_with fail
    refine (alive_any _).mono ?_
    rintro e w1 ⟨rfl, b1⟩
    go_wp2_with fail
    go_ret
    exact ⟨rfl, b1⟩
  have pa := ha.lt_pow (by omega)
  have pb := hb.lt_pow (by omega)
  obtain ⟨a, ea⟩ : ∃ a, val 18446744073709551616 x = a := ⟨_, rfl⟩
  obtain ⟨b, eb⟩ : ∃ b, val 18446744073709551616 y = b := ⟨_, rfl⟩
  rw [ea] at pa
  rw [eb] at pb
  have Ea := Lib.hid ea
  have Eb := Lib.hid eb
  clear ea eb
  rcases Nat.eq_zero_or_pos b with hb0 | hb0
  · have Hb0 := Lib.hid hb0
    clear hb0
    go_enter Try.func9, Try.ntmps9
    go_wp2_with fail
    refine (heavy_no A na ca (by omega) _).mono ?_
    rintro e w' ⟨rfl, rfl⟩
    go_wp2_with fail
    refine (heavy_no B nb cb (by omega) _).mono ?_
    rintro e w' ⟨rfl, rfl⟩
    go_wp2_with fail
    refine (add_any ha hb (by omega) (by omega)).mono ?_
    rintro e W1 ⟨A1, n1, c1, x1, rfl, r1⟩
    rw [Ea.out, Eb.out] at r1
    have z1 : n1 ≤ 64 := r1.le (more_pow (add_pow (more_pow (pa) (show 12 ≤ 12 by omega)) (more_pow (pb) (show 12 ≤ 12 by omega))) (by omega))
    have N1a := ha.up r1.bel
    have N1b := hb.up r1.bel
    have B1 := r1.bel
    go_wp2_with fail
    refine (sub_ok r1.nt N1b (by omega) (by rw [r1.is, Eb.out]; omega)).mono ?_
    rintro e W2 ⟨A2, n2, c2, x2, rfl, r2⟩
    rw [r1.is, Eb.out, Nat.add_sub_cancel] at r2
    have N2a := N1a.up r2.bel
    have N2b := N1b.up r2.bel
    have N2s := r1.nt.up r2.bel
    have B2 := bthen B1 r2.bel
    go_wp2_with fail
    refine (trim_any N2a (by omega)).mono ?_
    rintro e W3 ⟨A3, n3, c3, x3, rfl, r3⟩
    rw [Ea.out] at r3
    have z3 : n3 ≤ 64 := r3.le (more_pow (pa) (by omega))
    have N3a := N2a.up r3.bel
    have N3b := N2b.up r3.bel
    have N3d := r2.nt.up r3.bel
    have B3 := bthen B2 r3.bel
    go_wp2_with fail
    refine (same_yes N3d r3.nt (r2.same r3)).mono ?_
    rintro e W4 ⟨rfl, d4, rfl⟩
    have N4a := N3a.dr d4
    have N4b := N3b.dr d4
    have N4d := N3d.dr d4
    have N4t := r3.nt.dr d4
    have B4 := bdr B3 d4
    go_wp2_with fail
    refine (div_nil N4a N4b (by omega) (by rw [Eb.out]; exact Hb0.out)).mono ?_
    rintro e W5 ⟨rfl, v5⟩
    have N5a := N4a.up v5
    have N5b := N4b.up v5
    have B5 := bthen B4 v5
    go_wp2_with fail
    refine (trim_any N5b (by omega)).mono ?_
    rintro e W6 ⟨A6, n6, c6, x6, rfl, r6⟩
    rw [Eb.out] at r6
    have z6 : n6 ≤ 64 := r6.le (more_pow (pb) (by omega))
    have N6a := N5a.up r6.bel
    have N6b := N5b.up r6.bel
    have B6 := bthen B5 r6.bel
    have l6 : n6 = 0 := by have := r6.le (k := 0) (by rw [Hb0.out]; decide); omega
    subst l6
    go_wp2_with fail
    refine (alive_any _).mono ?_
    rintro e W7 ⟨rfl, v7⟩
    have N7a := N6a.up v7
    have N7b := N6b.up v7
    have B7 := bthen B6 v7
    go_wp2_with fail
    go_ret
    exact ⟨rfl, B7⟩
  · have hb0' := hb0
    go_enter Try.func9, Try.ntmps9
    go_wp2_with fail
    refine (heavy_no A na ca (by omega) _).mono ?_
    rintro e w' ⟨rfl, rfl⟩
    go_wp2_with fail
    refine (heavy_no B nb cb (by omega) _).mono ?_
    rintro e w' ⟨rfl, rfl⟩
    go_wp2_with fail
    refine (add_any ha hb (by omega) (by omega)).mono ?_
    rintro e W1 ⟨A1, n1, c1, x1, rfl, r1⟩
    rw [Ea.out, Eb.out] at r1
    have z1 : n1 ≤ 64 := r1.le (more_pow (add_pow (more_pow (pa) (show 12 ≤ 12 by omega)) (more_pow (pb) (show 12 ≤ 12 by omega))) (by omega))
    have N1a := ha.up r1.bel
    have N1b := hb.up r1.bel
    have B1 := r1.bel
    go_wp2_with fail
    refine (sub_ok r1.nt N1b (by omega) (by rw [r1.is, Eb.out]; omega)).mono ?_
    rintro e W2 ⟨A2, n2, c2, x2, rfl, r2⟩
    rw [r1.is, Eb.out, Nat.add_sub_cancel] at r2
    have N2a := N1a.up r2.bel
    have N2b := N1b.up r2.bel
    have N2s := r1.nt.up r2.bel
    have B2 := bthen B1 r2.bel
    go_wp2_with fail
    refine (trim_any N2a (by omega)).mono ?_
    rintro e W3 ⟨A3, n3, c3, x3, rfl, r3⟩
    rw [Ea.out] at r3
    have z3 : n3 ≤ 64 := r3.le (more_pow (pa) (by omega))
    have N3a := N2a.up r3.bel
    have N3b := N2b.up r3.bel
    have N3d := r2.nt.up r3.bel
    have B3 := bthen B2 r3.bel
    go_wp2_with fail
    refine (same_yes N3d r3.nt (r2.same r3)).mono ?_
    rintro e W4 ⟨rfl, d4, rfl⟩
    have N4a := N3a.dr d4
    have N4b := N3b.dr d4
    have N4d := N3d.dr d4
    have N4t := r3.nt.dr d4
    have B4 := bdr B3 d4
    go_wp2_with fail
    refine (div_pos N4a N4b (by omega) (by rw [Eb.out]; exact hb0)).mono ?_
    rintro e W5 ⟨A5, n5, c5, x5, A5r, n5r, c5r, x5r, rfl, q1, q2, q3, r1, r2, r3, v5⟩
    rw [Ea.out, Eb.out] at q3 r3
    have pq : a / b < 18446744073709551616 ^ 12 := Nat.lt_of_le_of_lt (Nat.div_le_self a b) pa
    have pr : a % b < 18446744073709551616 ^ 12 := Nat.lt_of_le_of_lt (Nat.mod_le a b) pa
    have zq : n5 ≤ 12 := by rw [← q1.len]; exact length_of_val (β := 18446744073709551616) (by omega) q2 (by rw [q3]; exact pq)
    have zr : n5r ≤ 12 := by rw [← r1.len]; exact length_of_val (β := 18446744073709551616) (by omega) r2 (by rw [r3]; exact pr)
    have Q3 := Lib.hid q3
    have R3 := Lib.hid r3
    clear q3 r3
    have N5a := N4a.up v5
    have N5b := N4b.up v5
    have B5 := bthen B4 v5
    go_wp2_with fail
    refine (trim_any N5b (by omega)).mono ?_
    rintro e W6 ⟨A6, n6, c6, x6, rfl, r6⟩
    rw [Eb.out] at r6
    have z6 : n6 ≤ 64 := r6.le (more_pow (pb) (by omega))
    have N6a := N5a.up r6.bel
    have N6b := N5b.up r6.bel
    have N6q := q1.up r6.bel
    have N6r := r1.up r6.bel
    have B6 := bthen B5 r6.bel
    have l6 : 0 < n6 := by
      rcases Nat.eq_zero_or_pos n6 with h | h
      · exfalso
        have e1 := r6.nt.len
        have e2 := r6.is
        rw [h] at e1
        rw [List.eq_nil_of_length_eq_zero e1] at e2
        simp [val] at e2; omega
      · exact h
    have m6 : ((n6 : Int) == 0) = false := by simp; omega
    go_wp2_with fail
    refine (alive_any _).mono ?_
    rintro e W7 ⟨rfl, v7⟩
    have N7a := N6a.up v7
    have N7b := N6b.up v7
    have N7q := N6q.up v7
    have N7r := N6r.up v7
    have B7 := bthen B6 v7
    go_wp2_with fail
    refine (mul_any N7q N7b (by omega) (by omega)).mono ?_
    rintro e W8 ⟨A8, n8, c8, x8, rfl, r8⟩
    rw [Q3.out, Eb.out] at r8
    have z8 : n8 ≤ 64 := r8.le (more_pow (mul_pow (pq) (pb)) (by omega))
    have N8a := N7a.up r8.bel
    have N8b := N7b.up r8.bel
    have N8q := N7q.up r8.bel
    have N8r := N7r.up r8.bel
    have B8 := bthen B7 r8.bel
    go_wp2_with fail
    refine (add_any r8.nt N8r (by omega) (by omega)).mono ?_
    rintro e W9 ⟨A9, n9, c9, x9, rfl, r9⟩
    rw [r8.is, R3.out] at r9
    have z9 : n9 ≤ 64 := r9.le (more_pow (add_pow (more_pow (mul_pow (pq) (pb)) (show 24 ≤ 24 by omega)) (more_pow (pr) (show 12 ≤ 24 by omega))) (by omega))
    have N9a := N8a.up r9.bel
    have N9b := N8b.up r9.bel
    have N9q := N8q.up r9.bel
    have N9r := N8r.up r9.bel
    have N9qb := r8.nt.up r9.bel
    have B9 := bthen B8 r9.bel
    go_wp2_with fail
    refine (trim_any N9a (by omega)).mono ?_
    rintro e W10 ⟨A10, n10, c10, x10, rfl, r10⟩
    rw [Ea.out] at r10
    have z10 : n10 ≤ 64 := r10.le (more_pow (pa) (by omega))
    have N10a := N9a.up r10.bel
    have N10b := N9b.up r10.bel
    have N10q := N9q.up r10.bel
    have N10r := N9r.up r10.bel
    have N10w2 := r9.nt.up r10.bel
    have B10 := bthen B9 r10.bel
    go_wp2_with fail
    have e1 : (((a / b) * b) + (a % b)) = a := Nat.div_add_mod' a b
    rw [e1] at r9
    clear e1
    refine (same_yes N10w2 r10.nt (r9.same r10)).mono ?_
    rintro e W11 ⟨rfl, d11, rfl⟩
    have N11a := N10a.dr d11
    have N11b := N10b.dr d11
    have N11q := N10q.dr d11
    have N11r := N10r.dr d11
    have N11w2 := N10w2.dr d11
    have N11t := r10.nt.dr d11
    have B11 := bdr B10 d11
    go_wp2_with fail
    refine (cmp_lt N11r N11b (by rw [R3.out, Eb.out]; exact Nat.mod_lt a hb0)).mono ?_
    rintro e W12 ⟨rfl, d12, rfl⟩
    have N12a := N10a.dr (d11 + d12)
    have N12b := N10b.dr (d11 + d12)
    have N12q := N10q.dr (d11 + d12)
    have N12r := N10r.dr (d11 + d12)
    have B12 := bdr B10 (d11 + d12)
    go_wp2_with fail
    go_ret
    exact ⟨rfl, B12⟩

set_option maxRecDepth 100000 in
theorem lifted (os : Os) (started : os.Started) (H : Type) (enc : TypeId × Value → H) :
    ReturnsInHanded {} Try.checked os 9 .any (Rows.natBackSpec.pre6 enc Try.prog Try.f9 Rows.natBackRow.domain false) (Rows.natBackSpec.post enc Try.prog Try.f9 false true false false) := by
  refine returnsInHanded_of_change (C := Try.checked) own started (by kernel_rfl) Try.func9
    (ChangeSpec.witness6 (enc := enc) (C := Try.checked) false ⟨#[], #[.slice none 0 0, .slice none 0 0], []⟩ 8 (by kernel_rfl) (by kernel_rfl) (by kernel_rfl) (by kernel_rfl)) ?_
  intro W base args ds gs before hval0 hW hcnd _
  have hval : ∀ (j : Nat) t v, Try.f9.params[j]? = some t → args[j]? = some v → Value.okWide Try.prog W .any base t v := hval0
  have hW' := hW
  obtain ⟨p, q, hA0, hV, rfl, hfz, hnd⟩ := hW
  have hA : DataW.TrodAll enc Try.prog W 0 (fun _ => true) true Try.f9.params.toList args.toList ds p := hA0
  rw [Try.params9] at hA hval
  obtain ⟨v0, vs0, d0, ds0, p0, q0, hargs, rfl, rfl, h0, r0⟩ := trodAll_cons hA
  obtain ⟨v1, vs1, d1, ds1, p1, q1, rfl, rfl, rfl, h1, r1⟩ := trodAll_cons r0
  obtain ⟨rfl, rfl, rfl⟩ := trodAll_nil r1
  obtain rfl : args = #[v0, v1] := by cases args; simp_all
  obtain ⟨rfl, rfl⟩ := trodVars_none hV
  obtain ⟨a0, len0, cap0, rfl⟩ := okWide_slice Try.underlying22 (hval 0 22 v0 rfl rfl)
  have k0 := h0
  have lt0 : ∀ x ∈ p0, x.block < W.heap.size := by obtain ⟨m, hm⟩ := k0; exact DataW.trod_lt m _ _ _ hm
  obtain ⟨z0, w0⟩ : ∃ zs, Nt W W.heap.size a0 len0 cap0 zs := by
    obtain ⟨fuel, hf⟩ := h0
    rcases open_ints Try.underlying22 Try.underlying32 (by kernel_rfl) hf with ⟨hcs, _⟩ | ⟨x, l, c, zs, hcs, _, hl, hm, hz, _, hcell, hwz⟩
    · simp [Value.cells] at hcs
      obtain ⟨rfl, rfl, rfl⟩ := hcs
      exact ⟨[], nt_nil _ _⟩
    · simp [Value.cells] at hcs
      obtain ⟨rfl, rfl, rfl⟩ := hcs
      exact ⟨_, nt_of_row hl hm (by simpa using hz) hcell hwz⟩
  obtain ⟨a1, len1, cap1, rfl⟩ := okWide_slice Try.underlying22 (hval 1 22 v1 rfl rfl)
  have k1 := h1
  have lt1 : ∀ x ∈ p1, x.block < W.heap.size := by obtain ⟨m, hm⟩ := k1; exact DataW.trod_lt m _ _ _ hm
  obtain ⟨z1, w1⟩ : ∃ zs, Nt W W.heap.size a1 len1 cap1 zs := by
    obtain ⟨fuel, hf⟩ := h1
    rcases open_ints Try.underlying22 Try.underlying32 (by kernel_rfl) hf with ⟨hcs, _⟩ | ⟨x, l, c, zs, hcs, _, hl, hm, hz, _, hcell, hwz⟩
    · simp [Value.cells] at hcs
      obtain ⟨rfl, rfl, rfl⟩ := hcs
      exact ⟨[], nt_nil _ _⟩
    · simp [Value.cells] at hcs
      obtain ⟨rfl, rfl, rfl⟩ := hcs
      exact ⟨_, nt_of_row hl hm (by simpa using hz) hcell hwz⟩
  clear hA0 hval0
  refine (law_any w0 w1).mono fun e W' ⟨he, bel⟩ => ?_
  subst he
  exact ⟨_, rfl, _, _, _, [], _, [], hW', trodAll_mk1 (shut_bool Try.underlying4 _), (trodAll_cons_mk (Below.trod laidOut (by kernel_rfl) (of_decide_eq_true (by kernel_rfl)) k0 bel lt0) (trodAll_cons_mk (Below.trod laidOut (by kernel_rfl) (of_decide_eq_true (by kernel_rfl)) k1 bel lt1) trodAll_mk0)), rfl, bel.frame _, fun h => by cases h⟩

theorem natBack_holds : Rows.NatBackSaid :=
  OpenClaim.holds_of_wide 9 Try.f9 rfl rfl rfl rfl rfl rfl rfl ⟨rfl, rfl, rfl, rfl, rfl⟩ rfl rfl rfl rfl rfl (by kernel_rfl) Try.func9 (by kernel_rfl)
    (of_decide_eq_true (by kernel_rfl)) (by unfold Func.isWrapper; first | (rw [if_pos (by decide +kernel)]; kernel_rfl) | (rw [if_neg (by decide +kernel)]; exact ⟨rfl, rfl⟩))
    (fun os started H enc _ => lifted os started H enc)
#print axioms natBack_holds
end Go.Proofs.Ytajppinnnmnjiaa.natBackP
