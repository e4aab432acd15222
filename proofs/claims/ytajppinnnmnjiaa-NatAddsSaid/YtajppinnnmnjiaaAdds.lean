/- For every two rows of limbs the Go function NatAdds returns true and leaves its arguments as they were. No condition. -/
import Derived.Test.YtajppinnnmnjiaaCases
import Derived.Test.YtajppinnnmnjiaaRCmp
namespace Go.Proofs.Ytajppinnnmnjiaa.natAddsP
open Go.ChangeShapes Go.WideShapes Go.ChangeAt Go.RowKit
set_option linter.unusedVariables false

/-- a row that lies in one new block -/
def Fr (B : Nat) (w : World) (A : Option Addr) (n : Nat) : Prop := 0 < n → ∃ g cur, A = some ⟨g, 0, none⟩ ∧ B ≤ g ∧ Ow w g cur ∧ n ≤ cur.length
theorem Fr.up {B n : Nat} {w w' : World} {A : Option Addr} (h : Fr B w A n) (hb : Below w.heap.size w w') : Fr B w' A n := fun h0 => by
  obtain ⟨g, cur, e, hg, ho, hl⟩ := h h0
  exact ⟨g, cur, e, hg, ho.below hb ho.lt, hl⟩
theorem Fr.dr {B n : Nat} {w : World} {A : Option Addr} (h : Fr B w A n) (d : Nat) : Fr B (w.drewN d) A n := h
theorem res_fr {w w' : World} {N n c : Nat} {A : Option Addr} {xs : List Nat} (h : Res w w' N A n c xs) : Fr w.heap.size w' A n := fun h0 => by
  obtain ⟨g, cur, e, hg, ho, ht⟩ := h.fresh h0
  have := congrArg List.length ht
  rw [h.nt.len, List.length_take] at this
  exact ⟨g, cur, e, hg, ho, by omega⟩
/-- what has come since -/
def Since (w0 w : World) : Prop := Below w0.heap.size w0 w
theorem Since.up {w0 w w' : World} (h : Since w0 w) (hb : Below w.heap.size w w') : Since w0 w' := bthen h hb
theorem Since.dr {w0 w : World} (h : Since w0 w) (d : Nat) : Since w0 (w.drewN d) := bdr h d
theorem res_same_n {w1 w1' : World} {N n c : Nat} {A : Option Addr} {xs ys : List Nat} (h : Res w1 w1' N A n c xs) (hL : Lim 18446744073709551616 ys) (ht : Trm ys) (hv : val 18446744073709551616 ys = N) : xs = ys :=
  trm_unique (β := 18446744073709551616) (by omega) h.nt.lim hL h.trm ht (by rw [h.is, hv])
theorem rsub_ok {w : World} {A A2 : Option Addr} {n c n2 c2 : Nat} {xs ys : List Nat} (h : Nt w w.heap.size A n c xs) (h2 : Nt w w.heap.size A2 n2 c2 ys) (hn : n ≤ 1000000) (hn2 : n2 ≤ 1000000) (hv : val 18446744073709551616 ys ≤ val 18446744073709551616 xs) :
    Calls Try.prog 16 #[.slice A n c, .slice A2 n2 c2] w fun e w' => ∃ A n c q, e = .returned (.tuple #[.slice A n c, .int .i64 0]) ∧ Nt w' w'.heap.size A n c q ∧ Trm q ∧ val 18446744073709551616 q = val 18446744073709551616 xs - val 18446744073709551616 ys ∧ Below w.heap.size w w' :=
  (rsub_any h h2 hn hn2).mono fun e w' hd => by
    rcases hd with ⟨_, hd⟩ | ⟨h0, _⟩
    · exact hd
    · omega
theorem rsub_no {w : World} {A A2 : Option Addr} {n c n2 c2 : Nat} {xs ys : List Nat} (h : Nt w w.heap.size A n c xs) (h2 : Nt w w.heap.size A2 n2 c2 ys) (hn : n ≤ 1000000) (hn2 : n2 ≤ 1000000) (hv : val 18446744073709551616 xs < val 18446744073709551616 ys) :
    Calls Try.prog 16 #[.slice A n c, .slice A2 n2 c2] w fun e w' => e = .returned (.tuple #[.slice none 0 0, .int .i64 10]) ∧ Below w.heap.size w w' :=
  (rsub_any h h2 hn hn2).mono fun e w' hd => by
    rcases hd with ⟨h0, _⟩ | ⟨_, hd⟩
    · omega
    · exact hd

set_option maxHeartbeats 4000000 in
theorem law_any {w : World} {A B : Option Addr} {na ca nb cb : Nat} {x y : List Nat} (ha : Nt w w.heap.size A na ca x) (hb : Nt w w.heap.size B nb cb y) :
    Calls Try.prog 3 #[.slice A na ca, .slice B nb cb] w (Yes w) := by
  by_cases y0 : 12 < na
  · have hr := ha.rooms
    go_enter Try.func3, Try.ntmps3
    go_wp2_with fail
    refine (heavy_yes A na ca y0 hr.1 _).mono ?_
    rintro e w' ⟨rfl, rfl⟩
    go_wp2_with fail
    refine (alive_any _).mono ?_
    rintro e w1 ⟨rfl, b1⟩
    go_wp2_with fail
    go_ret
    exact ⟨rfl, b1⟩
  by_cases y1 : 12 < nb
  · have hr := hb.rooms
    go_enter Try.func3, Try.ntmps3
    go_wp2_with fail
    refine (heavy_no A na ca (by omega) _).mono ?_
    rintro e w' ⟨rfl, rfl⟩
    go_wp2_with fail
    refine (heavy_yes B nb cb y1 hr.1 _).mono ?_
    rintro e w' ⟨rfl, rfl⟩
    go_wp2_with fail
    refine (alive_any _).mono ?_
    rintro e w1 ⟨rfl, b1⟩
    go_wp2_with fail
    go_ret
    exact ⟨rfl, b1⟩
  have pa := ha.lt_pow (by omega)
  have pb := hb.lt_pow (by omega)
  obtain ⟨a, ea⟩ : ∃ a, val 18446744073709551616 x = a := ⟨_, rfl⟩
  obtain ⟨b, eb⟩ : ∃ b, val 18446744073709551616 y = b := ⟨_, rfl⟩
  obtain ⟨t, et⟩ : ∃ t, sgn (a : Int) (b : Int) = t := ⟨_, rfl⟩
  rw [ea] at pa
  rw [eb] at pb
  have Ea := Lib.hid ea
  have Eb := Lib.hid eb
  have Et := Lib.hid et
  clear ea eb et
  rcases Nat.lt_or_ge a b with hab | hab
  · have Hab := Lib.hid hab
    clear hab
    go_enter Try.func3, Try.ntmps3
    go_wp2_with fail
    refine (heavy_no A na ca (by omega) _).mono ?_
    rintro e w' ⟨rfl, rfl⟩
    go_wp2_with fail
    refine (heavy_no B nb cb (by omega) _).mono ?_
    rintro e w' ⟨rfl, rfl⟩
    go_wp2_with fail
    refine (copied_any ha (by omega)).mono ?_
    rintro e W1 ⟨A1, c1, rfl, t1, v1⟩
    have N1a := ha.up v1
    have N1b := hb.up v1
    have B1 := v1
    go_wp2_with fail
    refine (copied_any N1b (by omega)).mono ?_
    rintro e W2 ⟨A2, c2, rfl, t2, v2⟩
    have N2a := N1a.up v2
    have N2b := N1b.up v2
    have N2x := t1.up v2
    have B2 := bthen B1 v2
    go_wp2_with fail
    refine (sub_no N2x t2 (by omega) (by rw [Ea.out, Eb.out]; exact Hab.out)).mono ?_
    rintro e W3 ⟨rfl, v3⟩
    have N3a := N2a.up v3
    have N3b := N2b.up v3
    have N3x := N2x.up v3
    have N3y := t2.up v3
    have B3 := bthen B2 v3
    go_wp2_with fail
    refine (rsub_no N3a N3b (by omega) (by omega) (by rw [Ea.out, Eb.out]; exact Hab.out)).mono ?_
    rintro e W4 ⟨rfl, v4⟩
    have N4a := N3a.up v4
    have N4b := N3b.up v4
    have N4x := N3x.up v4
    have N4y := N3y.up v4
    have B4 := bthen B3 v4
    go_wp2_with fail
    refine (add_any N4x N4y (by omega) (by omega)).mono ?_
    rintro e W5 ⟨A5, n5, c5, x5, rfl, r5⟩
    rw [Ea.out, Eb.out] at r5
    have z5 : n5 ≤ 64 := r5.le (more_pow (add_pow (more_pow (pa) (show 12 ≤ 12 by omega)) (more_pow (pb) (show 12 ≤ 12 by omega))) (by omega))
    have N5a := N4a.up r5.bel
    have N5b := N4b.up r5.bel
    have N5x := N4x.up r5.bel
    have N5y := N4y.up r5.bel
    have B5 := bthen B4 r5.bel
    have Fs := res_fr r5
    have Ss : Since W4 W5 := r5.bel
    go_wp2_with fail
    refine (cmp_any N5x N5y).mono ?_
    rintro e W6 ⟨he6, d6, rfl⟩
    rw [Ea.out, Eb.out, Et.out] at he6
    subst he6
    have N6a := N5a.dr d6
    have N6b := N5b.dr d6
    have N6x := N5x.dr d6
    have N6y := N5y.dr d6
    have N6s := r5.nt.dr d6
    have N6F := Fs.dr d6
    have N6S := Ss.dr d6
    have B6 := bdr B5 d6
    go_wp2_with fail
    refine (rcmp_any N6a N6b (by omega) (by omega)).mono ?_
    rintro e W7 ⟨he7, v7⟩
    rw [Ea.out, Eb.out, Et.out] at he7
    subst he7
    have N7a := N6a.up v7
    have N7b := N6b.up v7
    have N7x := N6x.up v7
    have N7y := N6y.up v7
    have N7s := N6s.up v7
    have N7F := N6F.up v7
    have N7S := N6S.up v7
    have B7 := bthen B6 v7
    go_wp2_with fail
    refine (radd_any N7a N7b (by omega) (by omega)).mono ?_
    rintro e W8 ⟨A8, n8, c8, x8, rfl, t8, tr8, vl8, v8⟩
    rw [Ea.out, Eb.out] at vl8
    have Vl8 := Lib.hid vl8
    clear vl8
    have N8a := N7a.up v8
    have N8b := N7b.up v8
    have N8x := N7x.up v8
    have N8y := N7y.up v8
    have N8s := N7s.up v8
    have N8F := N7F.up v8
    have N8S := N7S.up v8
    have B8 := bthen B7 v8
    go_wp2_with fail
    refine (same_yes N8s t8 (res_same_n r5 t8.lim tr8 Vl8.out)).mono ?_
    rintro e W9 ⟨rfl, d9, rfl⟩
    have N9a := N8a.dr d9
    have N9b := N8b.dr d9
    have N9x := N8x.dr d9
    have N9y := N8y.dr d9
    have N9s := N8s.dr d9
    have N9F := N8F.dr d9
    have N9S := N8S.dr d9
    have N9rs := t8.dr d9
    have B9 := bdr B8 d9
    go_wp2_with fail
    refine (same_yes (nt_nil _ 0) (nt_nil _ 0) rfl).mono ?_
    rintro e W10 ⟨rfl, d10, rfl⟩
    have N10a := N8a.dr (d9 + d10)
    have N10b := N8b.dr (d9 + d10)
    have N10x := N8x.dr (d9 + d10)
    have N10y := N8y.dr (d9 + d10)
    have N10s := N8s.dr (d9 + d10)
    have N10F := N8F.dr (d9 + d10)
    have N10S := N8S.dr (d9 + d10)
    have N10rs := t8.dr (d9 + d10)
    have B10 := bdr B8 (d9 + d10)
    go_wp2_with fail
    go_loopw [12] (fun i wr => ∃ j : Nat, j ≤ n5 ∧ i = .int .i64 j ∧ Fr W4.heap.size wr A5 n5 ∧ Since W4 wr) (fun i _ => n5 - (intOf i).toNat)
    case atStart => exact ⟨0, Nat.zero_le _, rfl, N10F, N10S⟩
    case round =>
      obtain ⟨j, hj, rfl, hF, hS⟩ := hrel
      by_cases hlt : j < n5
      · obtain ⟨g, cur, hge, hg, ho, hl⟩ := hF (by omega)
        rw [hge]
        have hjc : j < cur.length := by omega
        have hcell := ho.cell (j := j) (List.getElem?_eq_getElem hjc)
        have hfz := ho.frozen j
        go_wp2
        go_roundw
        case rel => exact ⟨j + 1, hlt, by go_num, fun _ => ⟨g, cur.set j 9, rfl, hg, ho.set_ j 9, by simpa using hl⟩, hS.setCell (by exact hg) _⟩
        case measure => simp [intOf]; omega
      · go_wp2_with fail
        have La := N4a.up hS
        have Lb := N4b.up hS
        have Lx := N4x.up hS
        have Ly := N4y.up hS
        have LB := bthen B4 hS
        refine (alive_any _).mono ?_
        rintro e W11 ⟨rfl, v11⟩
        have N11a := La.up v11
        have N11b := Lb.up v11
        have N11x := Lx.up v11
        have N11y := Ly.up v11
        have B11 := bthen LB v11
        go_wp2_with fail
        refine (same_yes N11x N11a (rfl)).mono ?_
        rintro e W12 ⟨rfl, d12, rfl⟩
        have N12a := N11a.dr d12
        have N12b := N11b.dr d12
        have N12x := N11x.dr d12
        have N12y := N11y.dr d12
        have B12 := bdr B11 d12
        go_wp2_with fail
        refine (same_yes N12y N12b (rfl)).mono ?_
        rintro e W13 ⟨rfl, d13, rfl⟩
        have N13a := N11a.dr (d12 + d13)
        have N13b := N11b.dr (d12 + d13)
        have N13x := N11x.dr (d12 + d13)
        have N13y := N11y.dr (d12 + d13)
        have B13 := bdr B11 (d12 + d13)
        go_wp2_with fail
        go_ret
        exact ⟨rfl, B13⟩
  · have Hab := Lib.hid hab
    clear hab
    go_enter Try.func3, Try.ntmps3
    go_wp2_with fail
    refine (heavy_no A na ca (by omega) _).mono ?_
    rintro e w' ⟨rfl, rfl⟩
    go_wp2_with fail
    refine (heavy_no B nb cb (by omega) _).mono ?_
    rintro e w' ⟨rfl, rfl⟩
    go_wp2_with fail
    refine (copied_any ha (by omega)).mono ?_
    rintro e W1 ⟨A1, c1, rfl, t1, v1⟩
    have N1a := ha.up v1
    have N1b := hb.up v1
    have B1 := v1
    go_wp2_with fail
    refine (copied_any N1b (by omega)).mono ?_
    rintro e W2 ⟨A2, c2, rfl, t2, v2⟩
    have N2a := N1a.up v2
    have N2b := N1b.up v2
    have N2x := t1.up v2
    have B2 := bthen B1 v2
    go_wp2_with fail
    refine (sub_ok N2x t2 (by omega) (by rw [Ea.out, Eb.out]; exact Hab.out)).mono ?_
    rintro e W3 ⟨A3, n3, c3, x3, rfl, r3⟩
    rw [Ea.out, Eb.out] at r3
    have N3a := N2a.up r3.bel
    have N3b := N2b.up r3.bel
    have N3x := N2x.up r3.bel
    have N3y := t2.up r3.bel
    have B3 := bthen B2 r3.bel
    go_wp2_with fail
    refine (rsub_ok N3a N3b (by omega) (by omega) (by rw [Ea.out, Eb.out]; exact Hab.out)).mono ?_
    rintro e W4 ⟨A4, n4, c4, x4, rfl, t4, tr4, vl4, v4⟩
    rw [Ea.out, Eb.out] at vl4
    have Vl4 := Lib.hid vl4
    clear vl4
    have N4a := N3a.up v4
    have N4b := N3b.up v4
    have N4x := N3x.up v4
    have N4y := N3y.up v4
    have N4c := r3.nt.up v4
    have B4 := bthen B3 v4
    go_wp2_with fail
    refine (add_any N4x N4y (by omega) (by omega)).mono ?_
    rintro e W5 ⟨A5, n5, c5, x5, rfl, r5⟩
    rw [Ea.out, Eb.out] at r5
    have z5 : n5 ≤ 64 := r5.le (more_pow (add_pow (more_pow (pa) (show 12 ≤ 12 by omega)) (more_pow (pb) (show 12 ≤ 12 by omega))) (by omega))
    have N5a := N4a.up r5.bel
    have N5b := N4b.up r5.bel
    have N5x := N4x.up r5.bel
    have N5y := N4y.up r5.bel
    have N5c := N4c.up r5.bel
    have N5d := t4.up r5.bel
    have B5 := bthen B4 r5.bel
    have Fs := res_fr r5
    have Ss : Since W4 W5 := r5.bel
    go_wp2_with fail
    refine (cmp_any N5x N5y).mono ?_
    rintro e W6 ⟨he6, d6, rfl⟩
    rw [Ea.out, Eb.out, Et.out] at he6
    subst he6
    have N6a := N5a.dr d6
    have N6b := N5b.dr d6
    have N6x := N5x.dr d6
    have N6y := N5y.dr d6
    have N6c := N5c.dr d6
    have N6d := N5d.dr d6
    have N6s := r5.nt.dr d6
    have N6F := Fs.dr d6
    have N6S := Ss.dr d6
    have B6 := bdr B5 d6
    go_wp2_with fail
    refine (rcmp_any N6a N6b (by omega) (by omega)).mono ?_
    rintro e W7 ⟨he7, v7⟩
    rw [Ea.out, Eb.out, Et.out] at he7
    subst he7
    have N7a := N6a.up v7
    have N7b := N6b.up v7
    have N7x := N6x.up v7
    have N7y := N6y.up v7
    have N7c := N6c.up v7
    have N7d := N6d.up v7
    have N7s := N6s.up v7
    have N7F := N6F.up v7
    have N7S := N6S.up v7
    have B7 := bthen B6 v7
    go_wp2_with fail
    refine (radd_any N7a N7b (by omega) (by omega)).mono ?_
    rintro e W8 ⟨A8, n8, c8, x8, rfl, t8, tr8, vl8, v8⟩
    rw [Ea.out, Eb.out] at vl8
    have Vl8 := Lib.hid vl8
    clear vl8
    have N8a := N7a.up v8
    have N8b := N7b.up v8
    have N8x := N7x.up v8
    have N8y := N7y.up v8
    have N8c := N7c.up v8
    have N8d := N7d.up v8
    have N8s := N7s.up v8
    have N8F := N7F.up v8
    have N8S := N7S.up v8
    have B8 := bthen B7 v8
    go_wp2_with fail
    refine (same_yes N8s t8 (res_same_n r5 t8.lim tr8 Vl8.out)).mono ?_
    rintro e W9 ⟨rfl, d9, rfl⟩
    have N9a := N8a.dr d9
    have N9b := N8b.dr d9
    have N9x := N8x.dr d9
    have N9y := N8y.dr d9
    have N9c := N8c.dr d9
    have N9d := N8d.dr d9
    have N9s := N8s.dr d9
    have N9F := N8F.dr d9
    have N9S := N8S.dr d9
    have N9rs := t8.dr d9
    have B9 := bdr B8 d9
    go_wp2_with fail
    refine (same_yes N9c N9d (res_same_n r3 t4.lim tr4 Vl4.out)).mono ?_
    rintro e W10 ⟨rfl, d10, rfl⟩
    have N10a := N8a.dr (d9 + d10)
    have N10b := N8b.dr (d9 + d10)
    have N10x := N8x.dr (d9 + d10)
    have N10y := N8y.dr (d9 + d10)
    have N10c := N8c.dr (d9 + d10)
    have N10d := N8d.dr (d9 + d10)
    have N10s := N8s.dr (d9 + d10)
    have N10F := N8F.dr (d9 + d10)
    have N10S := N8S.dr (d9 + d10)
    have N10rs := t8.dr (d9 + d10)
    have B10 := bdr B8 (d9 + d10)
    go_wp2_with fail
    go_loopw [12] (fun i wr => ∃ j : Nat, j ≤ n5 ∧ i = .int .i64 j ∧ Fr W4.heap.size wr A5 n5 ∧ Since W4 wr) (fun i _ => n5 - (intOf i).toNat)
    case atStart => exact ⟨0, Nat.zero_le _, rfl, N10F, N10S⟩
    case round =>
      obtain ⟨j, hj, rfl, hF, hS⟩ := hrel
      by_cases hlt : j < n5
      · obtain ⟨g, cur, hge, hg, ho, hl⟩ := hF (by omega)
        rw [hge]
        have hjc : j < cur.length := by omega
        have hcell := ho.cell (j := j) (List.getElem?_eq_getElem hjc)
        have hfz := ho.frozen j
        go_wp2
        go_roundw
        case rel => exact ⟨j + 1, hlt, by go_num, fun _ => ⟨g, cur.set j 9, rfl, hg, ho.set_ j 9, by simpa using hl⟩, hS.setCell (by exact hg) _⟩
        case measure => simp [intOf]; omega
      · go_wp2_with fail
        have La := N4a.up hS
        have Lb := N4b.up hS
        have Lx := N4x.up hS
        have Ly := N4y.up hS
        have LB := bthen B4 hS
        refine (alive_any _).mono ?_
        rintro e W11 ⟨rfl, v11⟩
        have N11a := La.up v11
        have N11b := Lb.up v11
        have N11x := Lx.up v11
        have N11y := Ly.up v11
        have B11 := bthen LB v11
        go_wp2_with fail
        refine (same_yes N11x N11a (rfl)).mono ?_
        rintro e W12 ⟨rfl, d12, rfl⟩
        have N12a := N11a.dr d12
        have N12b := N11b.dr d12
        have N12x := N11x.dr d12
        have N12y := N11y.dr d12
        have B12 := bdr B11 d12
        go_wp2_with fail
        refine (same_yes N12y N12b (rfl)).mono ?_
        rintro e W13 ⟨rfl, d13, rfl⟩
        have N13a := N11a.dr (d12 + d13)
        have N13b := N11b.dr (d12 + d13)
        have N13x := N11x.dr (d12 + d13)
        have N13y := N11y.dr (d12 + d13)
        have B13 := bdr B11 (d12 + d13)
        go_wp2_with fail
        go_ret
        exact ⟨rfl, B13⟩

set_option maxRecDepth 100000 in
theorem lifted (os : Os) (started : os.Started) (H : Type) (enc : TypeId × Value → H) :
    ReturnsInHanded {} Try.checked os 3 .any (Rows.natAddsSpec.pre6 enc Try.prog Try.f3 Rows.natAddsRow.domain false) (Rows.natAddsSpec.post enc Try.prog Try.f3 false true false false) := by
  refine returnsInHanded_of_change (C := Try.checked) own started (by kernel_rfl) Try.func3
    (ChangeSpec.witness6 (enc := enc) (C := Try.checked) false ⟨#[], #[.slice none 0 0, .slice none 0 0], []⟩ 8 (by kernel_rfl) (by kernel_rfl) (by kernel_rfl) (by kernel_rfl)) ?_
  intro W base args ds gs before hval0 hW hcnd _
  have hval : ∀ (j : Nat) t v, Try.f3.params[j]? = some t → args[j]? = some v → Value.okWide Try.prog W .any base t v := hval0
  have hW' := hW
  obtain ⟨p, q, hA0, hV, rfl, hfz, hnd⟩ := hW
  have hA : DataW.TrodAll enc Try.prog W 0 (fun _ => true) true Try.f3.params.toList args.toList ds p := hA0
  rw [Try.params3] at hA hval
  obtain ⟨v0, vs0, d0, ds0, p0, q0, hargs, rfl, rfl, h0, r0⟩ := trodAll_cons hA
  obtain ⟨v1, vs1, d1, ds1, p1, q1, rfl, rfl, rfl, h1, r1⟩ := trodAll_cons r0
  obtain ⟨rfl, rfl, rfl⟩ := trodAll_nil r1
  obtain rfl : args = #[v0, v1] := by cases args; simp_all
  obtain ⟨rfl, rfl⟩ := trodVars_none hV
  obtain ⟨a0, len0, cap0, rfl⟩ := okWide_slice Try.underlying22 (hval 0 22 v0 rfl rfl)
  have k0 := h0
  have lt0 : ∀ x ∈ p0, x.block < W.heap.size := by obtain ⟨m, hm⟩ := k0; exact DataW.trod_lt m _ _ _ hm
  obtain ⟨z0, w0⟩ : ∃ zs, Nt W W.heap.size a0 len0 cap0 zs := by
    obtain ⟨fuel, hf⟩ := h0
    rcases open_ints Try.underlying22 Try.underlying32 (by kernel_rfl) hf with ⟨hcs, _⟩ | ⟨x, l, c, zs, hcs, _, hl, hm, hz, _, hcell, hwz⟩
    · simp [Value.cells] at hcs
      obtain ⟨rfl, rfl, rfl⟩ := hcs
      exact ⟨[], nt_nil _ _⟩
    · simp [Value.cells] at hcs
      obtain ⟨rfl, rfl, rfl⟩ := hcs
      exact ⟨_, nt_of_row hl hm (by simpa using hz) hcell hwz⟩
  obtain ⟨a1, len1, cap1, rfl⟩ := okWide_slice Try.underlying22 (hval 1 22 v1 rfl rfl)
  have k1 := h1
  have lt1 : ∀ x ∈ p1, x.block < W.heap.size := by obtain ⟨m, hm⟩ := k1; exact DataW.trod_lt m _ _ _ hm
  obtain ⟨z1, w1⟩ : ∃ zs, Nt W W.heap.size a1 len1 cap1 zs := by
    obtain ⟨fuel, hf⟩ := h1
    rcases open_ints Try.underlying22 Try.underlying32 (by kernel_rfl) hf with ⟨hcs, _⟩ | ⟨x, l, c, zs, hcs, _, hl, hm, hz, _, hcell, hwz⟩
    · simp [Value.cells] at hcs
      obtain ⟨rfl, rfl, rfl⟩ := hcs
      exact ⟨[], nt_nil _ _⟩
    · simp [Value.cells] at hcs
      obtain ⟨rfl, rfl, rfl⟩ := hcs
      exact ⟨_, nt_of_row hl hm (by simpa using hz) hcell hwz⟩
  clear hA0 hval0
  refine (law_any w0 w1).mono fun e W' ⟨he, bel⟩ => ?_
  subst he
  exact ⟨_, rfl, _, _, _, [], _, [], hW', trodAll_mk1 (shut_bool Try.underlying4 _), (trodAll_cons_mk (Below.trod laidOut (by kernel_rfl) (of_decide_eq_true (by kernel_rfl)) k0 bel lt0) (trodAll_cons_mk (Below.trod laidOut (by kernel_rfl) (of_decide_eq_true (by kernel_rfl)) k1 bel lt1) trodAll_mk0)), rfl, bel.frame _, fun h => by cases h⟩

theorem natAdds_holds : Rows.NatAddsSaid :=
  OpenClaim.holds_of_wide 3 Try.f3 rfl rfl rfl rfl rfl rfl rfl ⟨rfl, rfl, rfl, rfl, rfl⟩ rfl rfl rfl rfl rfl (by kernel_rfl) Try.func3 (by kernel_rfl)
    (of_decide_eq_true (by kernel_rfl)) (by unfold Func.isWrapper; first | (rw [if_pos (by decide +kernel)]; kernel_rfl) | (rw [if_neg (by decide +kernel)]; exact ⟨rfl, rfl⟩))
    (fun os started H enc _ => lifted os started H enc)
#print axioms natAdds_holds
end Go.Proofs.Ytajppinnnmnjiaa.natAddsP
