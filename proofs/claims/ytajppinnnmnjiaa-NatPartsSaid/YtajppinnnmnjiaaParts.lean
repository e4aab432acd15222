/- For every two rows of limbs the Go function NatParts returns true and leaves its arguments as they were. No condition. -/
import Derived.Test.YtajppinnnmnjiaaCases
import Derived.Test.YtajppinnnmnjiaaRDiv
namespace Go.Proofs.Ytajppinnnmnjiaa.natPartsP
open Go.ChangeShapes Go.WideShapes Go.ChangeAt Go.RowKit
set_option linter.unusedVariables false

theorem same_tt {xs ys : List Nat} {N : Nat} (hx : Lim 18446744073709551616 xs) (tx : Trm xs) (vx : val 18446744073709551616 xs = N) (hy : Lim 18446744073709551616 ys) (ty : Trm ys) (vy : val 18446744073709551616 ys = N) : xs = ys :=
  trm_unique (β := 18446744073709551616) (by omega) hx hy tx ty (by rw [vx, vy])
theorem rdiv_pos {w : World} {A A2 : Option Addr} {n c n2 c2 : Nat} {xs ys : List Nat} (h : Nt w w.heap.size A n c xs) (h2 : Nt w w.heap.size A2 n2 c2 ys) (hn : n ≤ 1000000) (hn2 : n2 ≤ 1000000) (hb : 0 < val 18446744073709551616 ys) :
    Calls Try.prog 25 #[.slice A n c, .slice A2 n2 c2] w fun e w' => ∃ A n c q A2 n2 c2 r, e = .returned (.tuple #[.slice A n c, .slice A2 n2 c2, .int .i64 0]) ∧ Nt w' w'.heap.size A n c q ∧ Trm q ∧ val 18446744073709551616 q = val 18446744073709551616 xs / val 18446744073709551616 ys ∧
      Nt w' w'.heap.size A2 n2 c2 r ∧ Trm r ∧ val 18446744073709551616 r = val 18446744073709551616 xs % val 18446744073709551616 ys ∧ Below w.heap.size w w' :=
  (rdiv_any h h2 hn hn2).mono fun e w' hd => by
    rcases hd with ⟨h0, _⟩ | ⟨_, hd⟩
    · omega
    · exact hd
theorem rdiv_nil {w : World} {A A2 : Option Addr} {n c n2 c2 : Nat} {xs ys : List Nat} (h : Nt w w.heap.size A n c xs) (h2 : Nt w w.heap.size A2 n2 c2 ys) (hn : n ≤ 1000000) (hn2 : n2 ≤ 1000000) (hb : val 18446744073709551616 ys = 0) :
    Calls Try.prog 25 #[.slice A n c, .slice A2 n2 c2] w fun e w' => e = .returned (.tuple #[.slice none 0 0, .slice none 0 0, .int .i64 11]) ∧ Below w.heap.size w w' :=
  (rdiv_any h h2 hn hn2).mono fun e w' hd => by
    rcases hd with ⟨_, hd⟩ | ⟨h0, _⟩
    · exact hd
    · omega

set_option maxHeartbeats 4000000 in
theorem law_any {w : World} {A B : Option Addr} {na ca nb cb : Nat} {x y : List Nat} (ha : Nt w w.heap.size A na ca x) (hb : Nt w w.heap.size B nb cb y) :
    Calls Try.prog 5 #[.slice A na ca, .slice B nb cb] w (Yes w) := by
  by_cases y0 : 12 < na
  · have hr := ha.rooms
    go_enter Try.func5, Try.ntmps5
    go_wp2_with fail
    refine (heavy_yes A na ca y0 hr.1 _).mono ?_
    rintro e w' ⟨rfl, rfl⟩
    go_wp2_with fail
    refine (alive_any _).mono ?_
    rintro e w1 ⟨rfl, b1⟩
    go_wp2_with fail
    go_ret
    exact ⟨rfl, b1⟩
  by_cases y1 : 12 < nb
  · have hr := hb.rooms
    go_enter Try.func5, Try.ntmps5
    go_wp2_with fail
    refine (heavy_no A na ca (by omega) _).mono ?_
    rintro e w' ⟨rfl, rfl⟩
    go_wp2_with fail
    refine (heavy_yes B nb cb y1 hr.1 _).mono ?_
    rintro e w' ⟨rfl, rfl⟩
    go_wp2_with fail
    refine (alive_any _).mono ?_
    rintro e w1 ⟨rfl, b1⟩
    go_wp2_with fail
    go_ret
    exact ⟨rfl, b1⟩
  obtain ⟨a, ea⟩ : ∃ a, val 18446744073709551616 x = a := ⟨_, rfl⟩
  obtain ⟨b, eb⟩ : ∃ b, val 18446744073709551616 y = b := ⟨_, rfl⟩
  have Ea := Lib.hid ea
  have Eb := Lib.hid eb
  clear ea eb
  rcases Nat.eq_zero_or_pos b with hb0 | hb0
  · have Hb0 := Lib.hid hb0
    clear hb0
    go_enter Try.func5, Try.ntmps5
    go_wp2_with fail
    refine (heavy_no A na ca (by omega) _).mono ?_
    rintro e w' ⟨rfl, rfl⟩
    go_wp2_with fail
    refine (heavy_no B nb cb (by omega) _).mono ?_
    rintro e w' ⟨rfl, rfl⟩
    go_wp2_with fail
    refine (copied_any ha (by omega)).mono ?_
    rintro e W1 ⟨A1, c1, rfl, t1, v1⟩
    have N1a := ha.up v1
    have N1b := hb.up v1
    have B1 := v1
    go_wp2_with fail
    refine (copied_any N1b (by omega)).mono ?_
    rintro e W2 ⟨A2, c2, rfl, t2, v2⟩
    have N2a := N1a.up v2
    have N2b := N1b.up v2
    have N2x := t1.up v2
    have B2 := bthen B1 v2
    go_wp2_with fail
    refine (div_nil N2x t2 (by omega) (by rw [Eb.out]; exact Hb0.out)).mono ?_
    rintro e W3 ⟨rfl, v3⟩
    have N3a := N2a.up v3
    have N3b := N2b.up v3
    have N3x := N2x.up v3
    have N3y := t2.up v3
    have B3 := bthen B2 v3
    go_wp2_with fail
    refine (rdiv_nil N3a N3b (by omega) (by omega) (by rw [Eb.out]; exact Hb0.out)).mono ?_
    rintro e W4 ⟨rfl, v4⟩
    have N4a := N3a.up v4
    have N4b := N3b.up v4
    have N4x := N3x.up v4
    have N4y := N3y.up v4
    have B4 := bthen B3 v4
    go_wp2_with fail
    refine (alive_any _).mono ?_
    rintro e W5 ⟨rfl, v5⟩
    have N5a := N4a.up v5
    have N5b := N4b.up v5
    have N5x := N4x.up v5
    have N5y := N4y.up v5
    have B5 := bthen B4 v5
    go_wp2_with fail
    refine (same_yes (nt_nil _ 0) (nt_nil _ 0) rfl).mono ?_
    rintro e W6 ⟨rfl, d6, rfl⟩
    have N6a := N5a.dr d6
    have N6b := N5b.dr d6
    have N6x := N5x.dr d6
    have N6y := N5y.dr d6
    have B6 := bdr B5 d6
    go_wp2_with fail
    refine (same_yes (nt_nil _ 0) (nt_nil _ 0) rfl).mono ?_
    rintro e W7 ⟨rfl, d7, rfl⟩
    have N7a := N5a.dr (d6 + d7)
    have N7b := N5b.dr (d6 + d7)
    have N7x := N5x.dr (d6 + d7)
    have N7y := N5y.dr (d6 + d7)
    have B7 := bdr B5 (d6 + d7)
    go_wp2_with fail
    refine (same_yes N7x N7a (rfl)).mono ?_
    rintro e W8 ⟨rfl, d8, rfl⟩
    have N8a := N5a.dr ((d6 + d7) + d8)
    have N8b := N5b.dr ((d6 + d7) + d8)
    have N8x := N5x.dr ((d6 + d7) + d8)
    have N8y := N5y.dr ((d6 + d7) + d8)
    have B8 := bdr B5 ((d6 + d7) + d8)
    go_wp2_with fail
    refine (same_yes N8y N8b (rfl)).mono ?_
    rintro e W9 ⟨rfl, d9, rfl⟩
    have N9a := N5a.dr (((d6 + d7) + d8) + d9)
    have N9b := N5b.dr (((d6 + d7) + d8) + d9)
    have N9x := N5x.dr (((d6 + d7) + d8) + d9)
    have N9y := N5y.dr (((d6 + d7) + d8) + d9)
    have B9 := bdr B5 (((d6 + d7) + d8) + d9)
    go_wp2_with fail
    go_ret
    exact ⟨rfl, B9⟩
  · have Hb0 := Lib.hid hb0
    clear hb0
    go_enter Try.func5, Try.ntmps5
    go_wp2_with fail
    refine (heavy_no A na ca (by omega) _).mono ?_
    rintro e w' ⟨rfl, rfl⟩
    go_wp2_with fail
    refine (heavy_no B nb cb (by omega) _).mono ?_
    rintro e w' ⟨rfl, rfl⟩
    go_wp2_with fail
    refine (copied_any ha (by omega)).mono ?_
    rintro e W1 ⟨A1, c1, rfl, t1, v1⟩
    have N1a := ha.up v1
    have N1b := hb.up v1
    have B1 := v1
    go_wp2_with fail
    refine (copied_any N1b (by omega)).mono ?_
    rintro e W2 ⟨A2, c2, rfl, t2, v2⟩
    have N2a := N1a.up v2
    have N2b := N1b.up v2
    have N2x := t1.up v2
    have B2 := bthen B1 v2
    go_wp2_with fail
    refine (div_pos N2x t2 (by omega) (by rw [Eb.out]; exact Hb0.out)).mono ?_
    rintro e W3 ⟨A3, n3, c3, x3, A3r, n3r, c3r, x3r, rfl, q31, q32, q33, r31, r32, r33, v3⟩
    rw [Ea.out, Eb.out] at q33 r33
    have Q3 := Lib.hid q33
    have R3 := Lib.hid r33
    clear q33 r33
    have N3a := N2a.up v3
    have N3b := N2b.up v3
    have N3x := N2x.up v3
    have N3y := t2.up v3
    have B3 := bthen B2 v3
    go_wp2_with fail
    refine (rdiv_pos N3a N3b (by omega) (by omega) (by rw [Eb.out]; exact Hb0.out)).mono ?_
    rintro e W4 ⟨A4, n4, c4, x4, A4r, n4r, c4r, x4r, rfl, q41, q42, q43, r41, r42, r43, v4⟩
    rw [Ea.out, Eb.out] at q43 r43
    have Q4 := Lib.hid q43
    have R4 := Lib.hid r43
    clear q43 r43
    have N4a := N3a.up v4
    have N4b := N3b.up v4
    have N4x := N3x.up v4
    have N4y := N3y.up v4
    have N4q := q31.up v4
    have N4r := r31.up v4
    have B4 := bthen B3 v4
    go_wp2_with fail
    refine (alive_any _).mono ?_
    rintro e W5 ⟨rfl, v5⟩
    have N5a := N4a.up v5
    have N5b := N4b.up v5
    have N5x := N4x.up v5
    have N5y := N4y.up v5
    have N5q := N4q.up v5
    have N5r := N4r.up v5
    have N5p := q41.up v5
    have N5s := r41.up v5
    have B5 := bthen B4 v5
    go_wp2_with fail
    refine (same_yes N5q N5p (same_tt q31.lim q32 Q3.out q41.lim q42 Q4.out)).mono ?_
    rintro e W6 ⟨rfl, d6, rfl⟩
    have N6a := N5a.dr d6
    have N6b := N5b.dr d6
    have N6x := N5x.dr d6
    have N6y := N5y.dr d6
    have N6q := N5q.dr d6
    have N6r := N5r.dr d6
    have N6p := N5p.dr d6
    have N6s := N5s.dr d6
    have B6 := bdr B5 d6
    go_wp2_with fail
    refine (same_yes N6r N6s (same_tt r31.lim r32 R3.out r41.lim r42 R4.out)).mono ?_
    rintro e W7 ⟨rfl, d7, rfl⟩
    have N7a := N5a.dr (d6 + d7)
    have N7b := N5b.dr (d6 + d7)
    have N7x := N5x.dr (d6 + d7)
    have N7y := N5y.dr (d6 + d7)
    have N7q := N5q.dr (d6 + d7)
    have N7r := N5r.dr (d6 + d7)
    have N7p := N5p.dr (d6 + d7)
    have N7s := N5s.dr (d6 + d7)
    have B7 := bdr B5 (d6 + d7)
    go_wp2_with fail
    refine (same_yes N7x N7a (rfl)).mono ?_
    rintro e W8 ⟨rfl, d8, rfl⟩
    have N8a := N5a.dr ((d6 + d7) + d8)
    have N8b := N5b.dr ((d6 + d7) + d8)
    have N8x := N5x.dr ((d6 + d7) + d8)
    have N8y := N5y.dr ((d6 + d7) + d8)
    have N8q := N5q.dr ((d6 + d7) + d8)
    have N8r := N5r.dr ((d6 + d7) + d8)
    have N8p := N5p.dr ((d6 + d7) + d8)
    have N8s := N5s.dr ((d6 + d7) + d8)
    have B8 := bdr B5 ((d6 + d7) + d8)
    go_wp2_with fail
    refine (same_yes N8y N8b (rfl)).mono ?_
    rintro e W9 ⟨rfl, d9, rfl⟩
    have N9a := N5a.dr (((d6 + d7) + d8) + d9)
    have N9b := N5b.dr (((d6 + d7) + d8) + d9)
    have N9x := N5x.dr (((d6 + d7) + d8) + d9)
    have N9y := N5y.dr (((d6 + d7) + d8) + d9)
    have N9q := N5q.dr (((d6 + d7) + d8) + d9)
    have N9r := N5r.dr (((d6 + d7) + d8) + d9)
    have N9p := N5p.dr (((d6 + d7) + d8) + d9)
    have N9s := N5s.dr (((d6 + d7) + d8) + d9)
    have B9 := bdr B5 (((d6 + d7) + d8) + d9)
    go_wp2_with fail
    go_ret
    exact ⟨rfl, B9⟩

set_option maxRecDepth 100000 in
theorem lifted (os : Os) (started : os.Started) (H : Type) (enc : TypeId × Value → H) :
    ReturnsInHanded {} Try.checked os 5 .any (Rows.natPartsSpec.pre6 enc Try.prog Try.f5 Rows.natPartsRow.domain false) (Rows.natPartsSpec.post enc Try.prog Try.f5 false true false false) := by
  refine returnsInHanded_of_change (C := Try.checked) own started (by kernel_rfl) Try.func5
    (ChangeSpec.witness6 (enc := enc) (C := Try.checked) false ⟨#[], #[.slice none 0 0, .slice none 0 0], []⟩ 8 (by kernel_rfl) (by kernel_rfl) (by kernel_rfl) (by kernel_rfl)) ?_
  intro W base args ds gs before hval0 hW hcnd _
  have hval : ∀ (j : Nat) t v, Try.f5.params[j]? = some t → args[j]? = some v → Value.okWide Try.prog W .any base t v := hval0
  have hW' := hW
  obtain ⟨p, q, hA0, hV, rfl, hfz, hnd⟩ := hW
  have hA : DataW.TrodAll enc Try.prog W 0 (fun _ => true) true Try.f5.params.toList args.toList ds p := hA0
  rw [Try.params5] at hA hval
  obtain ⟨v0, vs0, d0, ds0, p0, q0, hargs, rfl, rfl, h0, r0⟩ := trodAll_cons hA
  obtain ⟨v1, vs1, d1, ds1, p1, q1, rfl, rfl, rfl, h1, r1⟩ := trodAll_cons r0
  obtain ⟨rfl, rfl, rfl⟩ := trodAll_nil r1
  obtain rfl : args = #[v0, v1] := by cases args; simp_all
  obtain ⟨rfl, rfl⟩ := trodVars_none hV
  obtain ⟨a0, len0, cap0, rfl⟩ := okWide_slice Try.underlying22 (hval 0 22 v0 rfl rfl)
  have k0 := h0
  have lt0 : ∀ x ∈ p0, x.block < W.heap.size := by obtain ⟨m, hm⟩ := k0; exact DataW.trod_lt m _ _ _ hm
  obtain ⟨z0, w0⟩ : ∃ zs, Nt W W.heap.size a0 len0 cap0 zs := by
    obtain ⟨fuel, hf⟩ := h0
    rcases open_ints Try.underlying22 Try.underlying32 (by kernel_rfl) hf with ⟨hcs, _⟩ | ⟨x, l, c, zs, hcs, _, hl, hm, hz, _, hcell, hwz⟩
    · simp [Value.cells] at hcs
      obtain ⟨rfl, rfl, rfl⟩ := hcs
      exact ⟨[], nt_nil _ _⟩
    · simp [Value.cells] at hcs
      obtain ⟨rfl, rfl, rfl⟩ := hcs
      exact ⟨_, nt_of_row hl hm (by simpa using hz) hcell hwz⟩
  obtain ⟨a1, len1, cap1, rfl⟩ := okWide_slice Try.underlying22 (hval 1 22 v1 rfl rfl)
  have k1 := h1
  have lt1 : ∀ x ∈ p1, x.block < W.heap.size := by obtain ⟨m, hm⟩ := k1; exact DataW.trod_lt m _ _ _ hm
  obtain ⟨z1, w1⟩ : ∃ zs, Nt W W.heap.size a1 len1 cap1 zs := by
    obtain ⟨fuel, hf⟩ := h1
    rcases open_ints Try.underlying22 Try.underlying32 (by kernel_rfl) hf with ⟨hcs, _⟩ | ⟨x, l, c, zs, hcs, _, hl, hm, hz, _, hcell, hwz⟩
    · simp [Value.cells] at hcs
      obtain ⟨rfl, rfl, rfl⟩ := hcs
      exact ⟨[], nt_nil _ _⟩
    · simp [Value.cells] at hcs
      obtain ⟨rfl, rfl, rfl⟩ := hcs
      exact ⟨_, nt_of_row hl hm (by simpa using hz) hcell hwz⟩
  clear hA0 hval0
  refine (law_any w0 w1).mono fun e W' ⟨he, bel⟩ => ?_
  subst he
  exact ⟨_, rfl, _, _, _, [], _, [], hW', trodAll_mk1 (shut_bool Try.underlying4 _), (trodAll_cons_mk (Below.trod laidOut (by kernel_rfl) (of_decide_eq_true (by kernel_rfl)) k0 bel lt0) (trodAll_cons_mk (Below.trod laidOut (by kernel_rfl) (of_decide_eq_true (by kernel_rfl)) k1 bel lt1) trodAll_mk0)), rfl, bel.frame _, fun h => by cases h⟩

theorem natParts_holds : Rows.NatPartsSaid :=
  OpenClaim.holds_of_wide 5 Try.f5 rfl rfl rfl rfl rfl rfl rfl ⟨rfl, rfl, rfl, rfl, rfl⟩ rfl rfl rfl rfl rfl (by kernel_rfl) Try.func5 (by kernel_rfl)
    (of_decide_eq_true (by kernel_rfl)) (by unfold Func.isWrapper; first | (rw [if_pos (by decide +kernel)]; kernel_rfl) | (rw [if_neg (by decide +kernel)]; exact ⟨rfl, rfl⟩))
    (fun os started H enc _ => lifted os started H enc)
#print axioms natParts_holds
end Go.Proofs.Ytajppinnnmnjiaa.natPartsP
