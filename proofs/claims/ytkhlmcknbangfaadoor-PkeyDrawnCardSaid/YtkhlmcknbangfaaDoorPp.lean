/- pkey: Make of any two numbers. pkey: what Make makes, and the document's own Make, of any two numbers; keys that are the same. -/
import Derived.Test.YtkhlmcknbangfaaDoorE4
import Derived.Test.YtkhlmcknbangfaaDoorFa
import Derived.Sort.CutIn
namespace Go.Proofs.YtkhlmcknbangfaaDoor
open Go.RowKit
set_option linter.unusedVariables false
set_option linter.unusedSimpArgs false
set_option maxRecDepth 100000
theorem mayPrime_any {w : World} {A : Option Addr} {n c N : Nat} {xs : List Nat} (h : Nt w w.heap.size A n c xs) (hN : val 18446744073709551616 xs = N) (hn : n ≤ 1000) :
    Calls Tryd.prog 30 #[.slice A n c] w fun e w' => e = .returned (.bool (decide (bl N ≤ 512) && primeN N b12)) ∧ Below w.heap.size w w' := by
  by_cases hb : bl N ≤ 512
  · have hpass := passes_any h hN (by omega)
    have hbits := bits_any h (by omega)
    rw [hN] at hbits
    rw [decide_eq_true hb, Bool.true_and]
    have Hbits := Lib.hid hbits
    have Hpass := Lib.hid hpass
    clear hbits hpass
    generalize primeN N b12 = b at *
    generalize bl N = k at *
    have e1 : (k : Int) ≤ 512 := by omega
    go_enter Tryd.func30, Tryd.ntmps30
    go_wp2_with fail
    refine Hbits.out.mono ?_
    rintro e w1 ⟨rfl, rfl⟩
    go_wp2_with fail
    refine Hpass.out.mono ?_
    rintro e w1 ⟨rfl, b1⟩
    go_wp2_with fail
    go_ret
    exact ⟨rfl, b1⟩
  · have hbits := bits_any h (by omega)
    rw [hN] at hbits
    rw [decide_eq_false hb, Bool.false_and]
    have Hbits := Lib.hid hbits
    clear hbits
    generalize bl N = k at *
    have e1 : ((k : Int) ≤ 512) = False := by simp only [eq_iff_iff, iff_false]; omega
    clear hb
    go_enter Tryd.func30, Tryd.ntmps30
    go_wp2_with fail
    refine Hbits.out.mono ?_
    rintro e w1 ⟨rfl, rfl⟩
    go_wp2_with fail
    go_ret
    exact ⟨rfl, Below.refl _ _⟩
theorem mayPower_any (e : Nat) (he : e < 18446744073709551616) (w : World) :
    Calls Tryd.prog 15 #[.int .u64 (e : Int)] w fun r w' => r = .returned (.bool (decide (e % 2 = 1) && decide (3 ≤ e))) ∧ w = w' := by
  by_cases h1 : e % 2 = 1
  · by_cases h2 : 3 ≤ e
    · rw [decide_eq_true h1, decide_eq_true h2]
      exact mayPower_yes e he h1 h2 w
    · rw [decide_eq_false h2, Bool.and_false]
      have : e = 1 := by omega
      subst this
      go_enter Tryd.func15, Tryd.ntmps15
      go_wp2_with fail
      go_ret
      exact ⟨rfl, rfl⟩
  · rw [decide_eq_false h1, Bool.false_and]
    have hm2 : ((e : Int).tmod 2) = 0 := by rw [Int.tmod_eq_emod_of_nonneg (by omega)]; omega
    have hm3 : ((e : Int) % 2) = 0 := by omega
    clear h1
    go_enter Tryd.func15, Tryd.ntmps15
    go_wp2_with fail
    go_ret
    exact ⟨rfl, rfl⟩
/-- a key that was made -/
def MakeIs2 (p q e : Nat) (w : World) (r : Ending) (w' : World) : Prop :=
  ∃ A1 n1 c1 x1 A2 n2 c2 x2 A3 n3 c3 x3 d, r = .returned (.tuple #[.agg #[.slice A1 n1 c1, .slice A2 n2 c2, .slice A3 n3 c3], .int .i64 0]) ∧
    Nt w' w'.heap.size A1 n1 c1 x1 ∧ val 18446744073709551616 x1 = p * q ∧ n1 ≤ 100 ∧ Nt w' w'.heap.size A2 n2 c2 x2 ∧ val 18446744073709551616 x2 = e ∧ n2 ≤ 100 ∧ Nt w' w'.heap.size A3 n3 c3 x3 ∧ val 18446744073709551616 x3 = d ∧ n3 ≤ 100 ∧
    Trm x1 ∧ Trm x2 ∧ Trm x3 ∧ d < (p - 1) * (q - 1) ∧ e * d % ((p - 1) * (q - 1)) = 1 ∧ Below w.heap.size w w'
/-- none was -/
def MakeBad (w : World) (r : Ending) (w' : World) : Prop := r = .returned (.tuple #[.agg #[.slice none 0 0, .slice none 0 0, .slice none 0 0], .int .i64 50]) ∧ Below w.heap.size w w'
set_option maxHeartbeats 8000000 in
theorem make_ok {w : World} {Ap Aq : Option Addr} {np cp nq cq p q : Nat} {xp xq : List Nat} (hp : Nt w w.heap.size Ap np cp xp) (hq : Nt w w.heap.size Aq nq cq xq) (ep : val 18446744073709551616 xp = p) (eq : val 18446744073709551616 xq = q)
    (lp : np ≤ 20) (lq : nq ≤ 20) (e : Nat) (he : e < 18446744073709551616) (bp : bl p ≤ 512) (bq : bl q ≤ 512) (pp : primeN p b12 = true) (pq : primeN q b12 = true) (hne : p ≠ q) (he2 : e % 2 = 1) (he3 : 3 ≤ e)
    (hg : Nat.gcd e ((p - 1) * (q - 1)) = 1) (hphi : 1 < (p - 1) * (q - 1)) (ho : p * q % 2 = 1) (hb1 : 16 ≤ bl (p * q)) (hb2 : bl (p * q) ≤ 1024) (heN : e < p * q) :
    Calls Tryd.prog 11 #[.slice Ap np cp, .slice Aq nq cq, .int .u64 (e : Int)] w (MakeIs2 p q e w) := by
  have hp2 := primeN_two pp
  have hq2 := primeN_two pq
  have Pp := Lib.hid pp
  have Pq := Lib.hid pq
  have Hg := Lib.hid hg
  have Ho := Lib.hid ho
  have Bp := Lib.hid bp
  have Bq := Lib.hid bq
  have Hb1 := Lib.hid hb1
  have Hb2 := Lib.hid hb2
  have hphiN : (p - 1) * (q - 1) ≤ p * q := Nat.mul_le_mul (Nat.sub_le _ _) (Nat.sub_le _ _)
  have fp := hp.below_pow lp
  have fq := hq.below_pow lq
  rw [ep] at fp
  rw [eq] at fq
  have Fp := Lib.hid fp
  have Fq := Lib.hid fq
  have Fn := Lib.hid (mul_pow fp fq)
  have hs : sgn (p : Int) (q : Int) ≠ 0 := sgn_ne hne
  clear pp pq hg ho bp bq hb1 hb2 fp fq
  obtain ⟨φ, hφ⟩ : ∃ φ, (p - 1) * (q - 1) = φ := ⟨_, rfl⟩
  obtain ⟨M, hM⟩ : ∃ M, p * q = M := ⟨_, rfl⟩
  rw [hφ] at Hg hphi hphiN
  rw [hM] at Ho Hb1 Hb2 heN hphiN Fn
  unfold MakeIs2
  rw [hφ, hM]
  have Hφ := Lib.hid hφ
  have HM := Lib.hid hM
  clear hφ hM
  obtain ⟨w0, e0⟩ : ∃ w0, w0 = w.alloc (.cells #[Value.slice none 0 0, .slice none 0 0, .slice none 0 0] 26) := ⟨_, rfl⟩
  have hx0 : w0.heap[w.heap.size]? = some (.cells #[Value.slice none 0 0, .slice none 0 0, .slice none 0 0] 26 (0, 0)) := e0 ▸ heap_alloc_new w _
  have hs0 : w.heap.size < w0.heap.size := by rw [e0]; simp
  have b0 : Below w.heap.size w w0 := e0 ▸ (Below.refl _ w).alloc (Nat.le_refl _) _
  have hp := hp.up b0
  have hq := hq.up b0
  go_enter Tryd.func11, Tryd.ntmps11
  go_wp2_with fail
  rw [← e0]
  clear e0
  refine (mayPrime_yes hp ep (by omega) Bp.out Pp.out).mono ?_
  rintro r w1 ⟨rfl, b1⟩
  go_wp2_with fail
  refine (mayPrime_yes (hq.up b1) eq (by omega) Bq.out Pq.out).mono ?_
  rintro r w2 ⟨rfl, b2⟩
  have B2 := bthen b1 b2
  have hc := cmp_any (hp.up B2) (hq.up B2)
  rw [ep, eq] at hc
  obtain ⟨s, hse⟩ : ∃ s, sgn (p : Int) (q : Int) = s := ⟨_, rfl⟩
  rw [hse] at hs hc
  have hs' : (s == 0) = false := by simpa using hs
  have Hc := Lib.hid hc
  clear hc hse
  go_wp2_with fail
  refine Hc.out.mono ?_
  rintro r w3 ⟨rfl, d3, rfl⟩
  have B3 := bdr B2 d3
  go_wp2_with fail
  refine (mayPower_yes e he he2 he3 _).mono ?_
  rintro r w4 ⟨rfl, rfl⟩
  go_wp2_with fail
  refine (of_any e _ rfl he _).mono ?_
  rintro r w5 ⟨A5, n5, c5, x5, rfl, r5⟩
  have v5 := r5.is
  have l5 : n5 ≤ 1 := r5.le (by omega)
  have B5 := bthen B3 r5.bel
  go_wp2_with fail
  refine (klessOne_any (hp.up B5) ep (by omega) (by omega)).mono ?_
  rintro r w6 ⟨A6, n6, c6, x6, rfl, r6⟩
  have v6 := r6.is
  have l6 : n6 ≤ 20 := r6.le (Nat.lt_of_le_of_lt (Nat.sub_le _ _) Fp.out)
  have B6 := bthen B5 r6.bel
  go_wp2_with fail
  refine (klessOne_any (hq.up B6) eq (by omega) (by omega)).mono ?_
  rintro r w7 ⟨A7, n7, c7, x7, rfl, r7⟩
  have v7 := r7.is
  have l7 : n7 ≤ 20 := r7.le (Nat.lt_of_le_of_lt (Nat.sub_le _ _) Fq.out)
  have B7 := bthen B6 r7.bel
  go_wp2_with fail
  refine (mul_any (r6.nt.up r7.bel) r7.nt (by omega) (by omega)).mono ?_
  rintro r w8 ⟨A8, n8, c8, x8, rfl, r8⟩
  rw [v6, v7, Hφ.out] at r8
  have v8 := r8.is
  have l8 : n8 ≤ 40 := r8.le (Nat.lt_of_le_of_lt hphiN Fn.out)
  have B8 := bthen B7 r8.bel
  have m5 := ((r5.nt.up r6.bel).up r7.bel).up r8.bel
  go_wp2_with fail
  refine (inverse_yes m5 r8.nt (by omega) (by omega) (by rw [v8]; omega) (by rw [v5, v8]; exact Hg.out)).mono ?_
  rintro r w9 ⟨d, hd, hde, A9, n9, c9, x9, rfl, r9⟩
  rw [v8] at hd hde
  rw [v5, Nat.mod_eq_of_lt hphi] at hde
  have Hde := Lib.hid hde
  clear hde
  have v9 := r9.is
  have l9 : n9 ≤ 40 := r9.le (Nat.lt_trans hd (Nat.lt_of_le_of_lt hphiN Fn.out))
  have B9 := bthen B8 r9.bel
  go_wp2_with fail
  refine (mul_any (hp.up B9) (hq.up B9) (by omega) (by omega)).mono ?_
  rintro r w10 ⟨A10, n10, c10, x10, rfl, r10⟩
  rw [ep, eq, HM.out] at r10
  have l10 : n10 ≤ 40 := r10.le Fn.out
  have B10 := bthen B9 r10.bel
  go_wp2_with fail
  refine (of_any e _ rfl he _).mono ?_
  rintro r w11 ⟨A11, n11, c11, x11, rfl, r11⟩
  have l11 : n11 ≤ 1 := r11.le (by omega)
  have B11 := bthen B10 r11.bel
  obtain ⟨w12, e12⟩ : ∃ w12, w12 = w11.alloc (.cells #[Value.slice A10 n10 c10, .slice A11 n11 c11, .slice A9 n9 c9] 26) := ⟨_, rfl⟩
  obtain ⟨hb12, b12'⟩ := box_new e12
  have B12 := bthen B11 b12'
  have t1 := (r10.nt.up r11.bel).up b12'
  have t2 := r11.nt.up b12'
  have t3 := ((r9.nt.up r10.bel).up r11.bel).up b12'
  have hk : Pr w12 (.agg #[.slice A10 n10 c10, .slice A11 n11 c11, .slice A9 n9 c9]) M e d :=
    ⟨_, _, _, _, _, _, _, _, _, _, _, _, rfl, t1, r10.is, by omega, t2, r11.is, by omega, t3, r9.is, by omega⟩
  have hr := kright_any hk Ho.out Hb1.out Hb2.out he2 (by omega) heN (Nat.lt_of_lt_of_le hd hphiN)
  have Hr := Lib.hid hr
  clear hr hk
  go_wp2_with fail
  rw [← e12]
  clear e12
  refine Hr.out.mono ?_
  rintro r w13 ⟨rfl, b13⟩
  have B13 := bthen B12 b13
  have hy := hb12.up b13
  have y0 := hy.c0
  have y1 := hy.c1
  have y2 := hy.c2
  have hx := (B13.block w.heap.size hs0).trans hx0
  obtain ⟨q0, q1, q2, q3, q4, q5⟩ := three_cells hx
  have hs11 := B11.size
  go_wp2_with fail
  have hg2 := three_fin (v1 := .slice A10 n10 c10) (v2 := .slice A11 n11 c11) (v3 := .slice A9 n9 c9) hx
  refine bodyPost_ret (v := .tuple #[.agg #[.slice A10 n10 c10, .slice A11 n11 c11, .slice A9 n9 c9], .int .i64 0]) (by rw [results_cell_tmp rfl]; simp [asAddr, run_loadVar_row _ w.heap.size 26 26 _ (0, 0) _ hg2 Tryd.underlying26 rfl (by kernel_rfl)]) rfl ?_
  have B13' := bthen b0 B13
  have hb := ((B13'.setCell (p := ⟨w.heap.size, 0, none⟩) (by simp) (.slice A10 n10 c10)).setCell (p := ⟨w.heap.size, 1, none⟩) (by simp) (.slice A11 n11 c11)).setCell (p := ⟨w.heap.size, 2, none⟩) (by simp) (.slice A9 n9 c9)
  have z5 := B3.size
  have z9 := B8.size
  have z10 := B9.size
  have z11 := B10.size
  exact ⟨_, _, _, _, _, _, _, _, _, _, _, _, d, rfl, (t1.up b13).away3 (B := 0) (r10.ne (by omega)), r10.is, by omega, (t2.up b13).away3 (B := 0) (r11.ne (by omega)), r11.is, by omega, (t3.up b13).away3 (B := 0) ((t3.up b13).not_in hx), r9.is, by omega, r10.trm, r11.trm, r9.trm, hd, Hde.out, hb⟩
set_option maxHeartbeats 4000000 in
theorem make_b1 {w : World} {Ap Aq : Option Addr} {np cp nq cq p q : Nat} {xp xq : List Nat} (hp : Nt w w.heap.size Ap np cp xp) (hq : Nt w w.heap.size Aq nq cq xq) (ep : val 18446744073709551616 xp = p) (eq : val 18446744073709551616 xq = q)
    (lp : np ≤ 20) (lq : nq ≤ 20) (e : Nat) (he : e < 18446744073709551616) (h1 : (decide (bl p ≤ 512) && primeN p b12) = false) :
    Calls Tryd.prog 11 #[.slice Ap np cp, .slice Aq nq cq, .int .u64 (e : Int)] w (MakeBad w) := by
  obtain ⟨w0, e0⟩ : ∃ w0, w0 = w.alloc (.cells #[Value.slice none 0 0, .slice none 0 0, .slice none 0 0] 26) := ⟨_, rfl⟩
  have hx0 : w0.heap[w.heap.size]? = some (.cells #[Value.slice none 0 0, .slice none 0 0, .slice none 0 0] 26 (0, 0)) := e0 ▸ heap_alloc_new w _
  have hs0 : w.heap.size < w0.heap.size := by rw [e0]; simp
  have b0 : Below w.heap.size w w0 := e0 ▸ (Below.refl _ w).alloc (Nat.le_refl _) _
  have hp := hp.up b0
  have hq := hq.up b0
  have Hm1 := Lib.hid (fun (W : World) (b : Below w0.heap.size w0 W) => mayPrime_any (hp.up b) ep (by omega))
  have Hm2 := Lib.hid (fun (W : World) (b : Below w0.heap.size w0 W) => mayPrime_any (hq.up b) eq (by omega))
  have Hm3 := Lib.hid (fun (W : World) => mayPower_any e he W)
  rw [h1] at Hm1
  clear h1
  go_enter Tryd.func11, Tryd.ntmps11
  go_wp2_with fail
  rw [← e0]
  clear e0
  refine (Hm1.out _ (Below.refl _ _)).mono ?_
  rintro r w1 ⟨rfl, b1⟩
  have hx := ((b1).block w.heap.size hs0).trans hx0
  obtain ⟨q0, q1, q2, q3, q4, q5⟩ := three_cells hx
  have Bz := Lib.hid (bthen b0 (b1))
  go_wp2_with fail
  have hg2 := three_fin (v1 := .slice none 0 0) (v2 := .slice none 0 0) (v3 := .slice none 0 0) hx
  refine bodyPost_ret (v := .tuple #[.agg #[.slice none 0 0, .slice none 0 0, .slice none 0 0], .int .i64 50]) (by rw [results_cell_tmp rfl]; simp [asAddr, run_loadVar_row _ w.heap.size 26 26 _ (0, 0) _ hg2 Tryd.underlying26 rfl (by kernel_rfl)]) rfl ?_
  exact ⟨rfl, ((Bz.out.setCell (p := ⟨w.heap.size, 0, none⟩) (by simp) (.slice none 0 0)).setCell (p := ⟨w.heap.size, 1, none⟩) (by simp) (.slice none 0 0)).setCell (p := ⟨w.heap.size, 2, none⟩) (by simp) (.slice none 0 0)⟩
set_option maxHeartbeats 4000000 in
theorem make_b2 {w : World} {Ap Aq : Option Addr} {np cp nq cq p q : Nat} {xp xq : List Nat} (hp : Nt w w.heap.size Ap np cp xp) (hq : Nt w w.heap.size Aq nq cq xq) (ep : val 18446744073709551616 xp = p) (eq : val 18446744073709551616 xq = q)
    (lp : np ≤ 20) (lq : nq ≤ 20) (e : Nat) (he : e < 18446744073709551616) (h1 : (decide (bl p ≤ 512) && primeN p b12) = true) (h2 : (decide (bl q ≤ 512) && primeN q b12) = false) :
    Calls Tryd.prog 11 #[.slice Ap np cp, .slice Aq nq cq, .int .u64 (e : Int)] w (MakeBad w) := by
  obtain ⟨w0, e0⟩ : ∃ w0, w0 = w.alloc (.cells #[Value.slice none 0 0, .slice none 0 0, .slice none 0 0] 26) := ⟨_, rfl⟩
  have hx0 : w0.heap[w.heap.size]? = some (.cells #[Value.slice none 0 0, .slice none 0 0, .slice none 0 0] 26 (0, 0)) := e0 ▸ heap_alloc_new w _
  have hs0 : w.heap.size < w0.heap.size := by rw [e0]; simp
  have b0 : Below w.heap.size w w0 := e0 ▸ (Below.refl _ w).alloc (Nat.le_refl _) _
  have hp := hp.up b0
  have hq := hq.up b0
  have Hm1 := Lib.hid (fun (W : World) (b : Below w0.heap.size w0 W) => mayPrime_any (hp.up b) ep (by omega))
  have Hm2 := Lib.hid (fun (W : World) (b : Below w0.heap.size w0 W) => mayPrime_any (hq.up b) eq (by omega))
  have Hm3 := Lib.hid (fun (W : World) => mayPower_any e he W)
  rw [h1] at Hm1
  rw [h2] at Hm2
  clear h1 h2
  go_enter Tryd.func11, Tryd.ntmps11
  go_wp2_with fail
  rw [← e0]
  clear e0
  refine (Hm1.out _ (Below.refl _ _)).mono ?_
  rintro r w1 ⟨rfl, b1⟩
  go_wp2_with fail
  refine (Hm2.out _ b1).mono ?_
  rintro r w2 ⟨rfl, b2⟩
  have B2 := bthen b1 b2
  have hx := ((B2).block w.heap.size hs0).trans hx0
  obtain ⟨q0, q1, q2, q3, q4, q5⟩ := three_cells hx
  have Bz := Lib.hid (bthen b0 (B2))
  go_wp2_with fail
  have hg2 := three_fin (v1 := .slice none 0 0) (v2 := .slice none 0 0) (v3 := .slice none 0 0) hx
  refine bodyPost_ret (v := .tuple #[.agg #[.slice none 0 0, .slice none 0 0, .slice none 0 0], .int .i64 50]) (by rw [results_cell_tmp rfl]; simp [asAddr, run_loadVar_row _ w.heap.size 26 26 _ (0, 0) _ hg2 Tryd.underlying26 rfl (by kernel_rfl)]) rfl ?_
  exact ⟨rfl, ((Bz.out.setCell (p := ⟨w.heap.size, 0, none⟩) (by simp) (.slice none 0 0)).setCell (p := ⟨w.heap.size, 1, none⟩) (by simp) (.slice none 0 0)).setCell (p := ⟨w.heap.size, 2, none⟩) (by simp) (.slice none 0 0)⟩
set_option maxHeartbeats 4000000 in
theorem make_b3 {w : World} {Ap Aq : Option Addr} {np cp nq cq p q : Nat} {xp xq : List Nat} (hp : Nt w w.heap.size Ap np cp xp) (hq : Nt w w.heap.size Aq nq cq xq) (ep : val 18446744073709551616 xp = p) (eq : val 18446744073709551616 xq = q)
    (lp : np ≤ 20) (lq : nq ≤ 20) (e : Nat) (he : e < 18446744073709551616) (h1 : (decide (bl p ≤ 512) && primeN p b12) = true) (h2 : (decide (bl q ≤ 512) && primeN q b12) = true) (h3 : p = q) :
    Calls Tryd.prog 11 #[.slice Ap np cp, .slice Aq nq cq, .int .u64 (e : Int)] w (MakeBad w) := by
  obtain ⟨w0, e0⟩ : ∃ w0, w0 = w.alloc (.cells #[Value.slice none 0 0, .slice none 0 0, .slice none 0 0] 26) := ⟨_, rfl⟩
  have hx0 : w0.heap[w.heap.size]? = some (.cells #[Value.slice none 0 0, .slice none 0 0, .slice none 0 0] 26 (0, 0)) := e0 ▸ heap_alloc_new w _
  have hs0 : w.heap.size < w0.heap.size := by rw [e0]; simp
  have b0 : Below w.heap.size w w0 := e0 ▸ (Below.refl _ w).alloc (Nat.le_refl _) _
  have hp := hp.up b0
  have hq := hq.up b0
  have Hm1 := Lib.hid (fun (W : World) (b : Below w0.heap.size w0 W) => mayPrime_any (hp.up b) ep (by omega))
  have Hm2 := Lib.hid (fun (W : World) (b : Below w0.heap.size w0 W) => mayPrime_any (hq.up b) eq (by omega))
  have Hm3 := Lib.hid (fun (W : World) => mayPower_any e he W)
  rw [h1] at Hm1
  rw [h2] at Hm2
  clear h1 h2
  have hs : sgn (p : Int) (q : Int) = 0 := by subst h3; simp [sgn]
  clear h3
  go_enter Tryd.func11, Tryd.ntmps11
  go_wp2_with fail
  rw [← e0]
  clear e0
  refine (Hm1.out _ (Below.refl _ _)).mono ?_
  rintro r w1 ⟨rfl, b1⟩
  go_wp2_with fail
  refine (Hm2.out _ b1).mono ?_
  rintro r w2 ⟨rfl, b2⟩
  have B2 := bthen b1 b2
  have hc := cmp_any (hp.up B2) (hq.up B2)
  rw [ep, eq] at hc
  obtain ⟨s, hse⟩ : ∃ s, sgn (p : Int) (q : Int) = s := ⟨_, rfl⟩
  rw [hse] at hs hc
  have Hc := Lib.hid hc
  clear hc hse
  subst hs
  go_wp2_with fail
  refine Hc.out.mono ?_
  rintro r w3 ⟨rfl, d3, rfl⟩
  have B3 := bdr B2 d3
  have hx := ((B3).block w.heap.size hs0).trans hx0
  obtain ⟨q0, q1, q2, q3, q4, q5⟩ := three_cells hx
  have Bz := Lib.hid (bthen b0 (B3))
  go_wp2_with fail
  have hg2 := three_fin (v1 := .slice none 0 0) (v2 := .slice none 0 0) (v3 := .slice none 0 0) hx
  refine bodyPost_ret (v := .tuple #[.agg #[.slice none 0 0, .slice none 0 0, .slice none 0 0], .int .i64 50]) (by rw [results_cell_tmp rfl]; simp [asAddr, run_loadVar_row _ w.heap.size 26 26 _ (0, 0) _ hg2 Tryd.underlying26 rfl (by kernel_rfl)]) rfl ?_
  exact ⟨rfl, ((Bz.out.setCell (p := ⟨w.heap.size, 0, none⟩) (by simp) (.slice none 0 0)).setCell (p := ⟨w.heap.size, 1, none⟩) (by simp) (.slice none 0 0)).setCell (p := ⟨w.heap.size, 2, none⟩) (by simp) (.slice none 0 0)⟩
set_option maxHeartbeats 4000000 in
theorem make_b4 {w : World} {Ap Aq : Option Addr} {np cp nq cq p q : Nat} {xp xq : List Nat} (hp : Nt w w.heap.size Ap np cp xp) (hq : Nt w w.heap.size Aq nq cq xq) (ep : val 18446744073709551616 xp = p) (eq : val 18446744073709551616 xq = q)
    (lp : np ≤ 20) (lq : nq ≤ 20) (e : Nat) (he : e < 18446744073709551616) (h1 : (decide (bl p ≤ 512) && primeN p b12) = true) (h2 : (decide (bl q ≤ 512) && primeN q b12) = true) (h3 : p ≠ q) (h4 : (decide (e % 2 = 1) && decide (3 ≤ e)) = false) :
    Calls Tryd.prog 11 #[.slice Ap np cp, .slice Aq nq cq, .int .u64 (e : Int)] w (MakeBad w) := by
  obtain ⟨w0, e0⟩ : ∃ w0, w0 = w.alloc (.cells #[Value.slice none 0 0, .slice none 0 0, .slice none 0 0] 26) := ⟨_, rfl⟩
  have hx0 : w0.heap[w.heap.size]? = some (.cells #[Value.slice none 0 0, .slice none 0 0, .slice none 0 0] 26 (0, 0)) := e0 ▸ heap_alloc_new w _
  have hs0 : w.heap.size < w0.heap.size := by rw [e0]; simp
  have b0 : Below w.heap.size w w0 := e0 ▸ (Below.refl _ w).alloc (Nat.le_refl _) _
  have hp := hp.up b0
  have hq := hq.up b0
  have Hm1 := Lib.hid (fun (W : World) (b : Below w0.heap.size w0 W) => mayPrime_any (hp.up b) ep (by omega))
  have Hm2 := Lib.hid (fun (W : World) (b : Below w0.heap.size w0 W) => mayPrime_any (hq.up b) eq (by omega))
  have Hm3 := Lib.hid (fun (W : World) => mayPower_any e he W)
  rw [h1] at Hm1
  rw [h2] at Hm2
  have hs : sgn (p : Int) (q : Int) ≠ 0 := sgn_ne h3
  rw [h4] at Hm3
  clear h1 h2 h3 h4
  go_enter Tryd.func11, Tryd.ntmps11
  go_wp2_with fail
  rw [← e0]
  clear e0
  refine (Hm1.out _ (Below.refl _ _)).mono ?_
  rintro r w1 ⟨rfl, b1⟩
  go_wp2_with fail
  refine (Hm2.out _ b1).mono ?_
  rintro r w2 ⟨rfl, b2⟩
  have B2 := bthen b1 b2
  have hc := cmp_any (hp.up B2) (hq.up B2)
  rw [ep, eq] at hc
  obtain ⟨s, hse⟩ : ∃ s, sgn (p : Int) (q : Int) = s := ⟨_, rfl⟩
  rw [hse] at hs hc
  have Hc := Lib.hid hc
  clear hc hse
  have hs' : (s == 0) = false := by simpa using hs
  go_wp2_with fail
  refine Hc.out.mono ?_
  rintro r w3 ⟨rfl, d3, rfl⟩
  have B3 := bdr B2 d3
  go_wp2_with fail
  refine (Hm3.out _).mono ?_
  rintro r w4 ⟨rfl, rfl⟩
  have hx := ((B3).block w.heap.size hs0).trans hx0
  obtain ⟨q0, q1, q2, q3, q4, q5⟩ := three_cells hx
  have Bz := Lib.hid (bthen b0 (B3))
  go_wp2_with fail
  have hg2 := three_fin (v1 := .slice none 0 0) (v2 := .slice none 0 0) (v3 := .slice none 0 0) hx
  refine bodyPost_ret (v := .tuple #[.agg #[.slice none 0 0, .slice none 0 0, .slice none 0 0], .int .i64 50]) (by rw [results_cell_tmp rfl]; simp [asAddr, run_loadVar_row _ w.heap.size 26 26 _ (0, 0) _ hg2 Tryd.underlying26 rfl (by kernel_rfl)]) rfl ?_
  exact ⟨rfl, ((Bz.out.setCell (p := ⟨w.heap.size, 0, none⟩) (by simp) (.slice none 0 0)).setCell (p := ⟨w.heap.size, 1, none⟩) (by simp) (.slice none 0 0)).setCell (p := ⟨w.heap.size, 2, none⟩) (by simp) (.slice none 0 0)⟩
set_option maxHeartbeats 4000000 in
theorem make_b5 {w : World} {Ap Aq : Option Addr} {np cp nq cq p q : Nat} {xp xq : List Nat} (hp : Nt w w.heap.size Ap np cp xp) (hq : Nt w w.heap.size Aq nq cq xq) (ep : val 18446744073709551616 xp = p) (eq : val 18446744073709551616 xq = q)
    (lp : np ≤ 20) (lq : nq ≤ 20) (e : Nat) (he : e < 18446744073709551616) (h1 : (decide (bl p ≤ 512) && primeN p b12) = true) (h2 : (decide (bl q ≤ 512) && primeN q b12) = true) (h3 : p ≠ q) (h4 : (decide (e % 2 = 1) && decide (3 ≤ e)) = true) (h5 : Nat.gcd e ((p - 1) * (q - 1)) ≠ 1) :
    Calls Tryd.prog 11 #[.slice Ap np cp, .slice Aq nq cq, .int .u64 (e : Int)] w (MakeBad w) := by
  obtain ⟨w0, e0⟩ : ∃ w0, w0 = w.alloc (.cells #[Value.slice none 0 0, .slice none 0 0, .slice none 0 0] 26) := ⟨_, rfl⟩
  have hx0 : w0.heap[w.heap.size]? = some (.cells #[Value.slice none 0 0, .slice none 0 0, .slice none 0 0] 26 (0, 0)) := e0 ▸ heap_alloc_new w _
  have hs0 : w.heap.size < w0.heap.size := by rw [e0]; simp
  have b0 : Below w.heap.size w w0 := e0 ▸ (Below.refl _ w).alloc (Nat.le_refl _) _
  have hp := hp.up b0
  have hq := hq.up b0
  have Hm1 := Lib.hid (fun (W : World) (b : Below w0.heap.size w0 W) => mayPrime_any (hp.up b) ep (by omega))
  have Hm2 := Lib.hid (fun (W : World) (b : Below w0.heap.size w0 W) => mayPrime_any (hq.up b) eq (by omega))
  have Hm3 := Lib.hid (fun (W : World) => mayPower_any e he W)
  rw [h1] at Hm1
  rw [h2] at Hm2
  have hs : sgn (p : Int) (q : Int) ≠ 0 := sgn_ne h3
  rw [h4] at Hm3
  have Hp2 := Lib.hid (primeN_two (by simp only [Bool.and_eq_true] at h1; exact h1.2))
  have Hq2 := Lib.hid (primeN_two (by simp only [Bool.and_eq_true] at h2; exact h2.2))
  have fp := hp.below_pow lp
  have fq := hq.below_pow lq
  rw [ep] at fp
  rw [eq] at fq
  have Fp := Lib.hid fp
  have Fq := Lib.hid fq
  have Fn := Lib.hid (mul_pow fp fq)
  have HphiN := Lib.hid (show (p - 1) * (q - 1) ≤ p * q from Nat.mul_le_mul (Nat.sub_le _ _) (Nat.sub_le _ _))
  have Hphi := Lib.hid (show 0 < (p - 1) * (q - 1) from Nat.mul_pos (by have := Hp2.out; omega) (by have := Hq2.out; omega))
  have Hg := Lib.hid h5
  have Hpw := Lib.hid h4
  clear h1 h2 h3 h4 h5 fp fq
  go_enter Tryd.func11, Tryd.ntmps11
  go_wp2_with fail
  rw [← e0]
  clear e0
  refine (Hm1.out _ (Below.refl _ _)).mono ?_
  rintro r w1 ⟨rfl, b1⟩
  go_wp2_with fail
  refine (Hm2.out _ b1).mono ?_
  rintro r w2 ⟨rfl, b2⟩
  have B2 := bthen b1 b2
  have hc := cmp_any (hp.up B2) (hq.up B2)
  rw [ep, eq] at hc
  obtain ⟨s, hse⟩ : ∃ s, sgn (p : Int) (q : Int) = s := ⟨_, rfl⟩
  rw [hse] at hs hc
  have Hc := Lib.hid hc
  clear hc hse
  have hs' : (s == 0) = false := by simpa using hs
  go_wp2_with fail
  refine Hc.out.mono ?_
  rintro r w3 ⟨rfl, d3, rfl⟩
  have B3 := bdr B2 d3
  go_wp2_with fail
  refine (Hm3.out _).mono ?_
  rintro r w4 ⟨rfl, rfl⟩
  go_wp2_with fail
  refine (of_any e _ rfl he _).mono ?_
  rintro r w5 ⟨A5, n5, c5, x5, rfl, r5⟩
  have v5 := r5.is
  have l5 : n5 ≤ 1 := r5.le (by omega)
  have B5 := bthen B3 r5.bel
  go_wp2_with fail
  refine (klessOne_any (hp.up B5) ep (by omega) (by have := Hp2.out; omega)).mono ?_
  rintro r w6 ⟨A6, n6, c6, x6, rfl, r6⟩
  have v6 := r6.is
  have l6 : n6 ≤ 20 := r6.le (Nat.lt_of_le_of_lt (Nat.sub_le _ _) Fp.out)
  have B6 := bthen B5 r6.bel
  go_wp2_with fail
  refine (klessOne_any (hq.up B6) eq (by omega) (by have := Hq2.out; omega)).mono ?_
  rintro r w7 ⟨A7, n7, c7, x7, rfl, r7⟩
  have v7 := r7.is
  have l7 : n7 ≤ 20 := r7.le (Nat.lt_of_le_of_lt (Nat.sub_le _ _) Fq.out)
  have B7 := bthen B6 r7.bel
  go_wp2_with fail
  refine (mul_any (r6.nt.up r7.bel) r7.nt (by omega) (by omega)).mono ?_
  rintro r w8 ⟨A8, n8, c8, x8, rfl, r8⟩
  rw [v6, v7] at r8
  have v8 := r8.is
  have l8 : n8 ≤ 40 := r8.le (Nat.lt_of_le_of_lt HphiN.out Fn.out)
  have B8 := bthen B7 r8.bel
  have m5 := ((r5.nt.up r6.bel).up r7.bel).up r8.bel
  go_wp2_with fail
  refine (inverse_no m5 r8.nt (by omega) (by omega) (by rw [v8]; exact Hphi.out) (by rw [v5, v8]; exact Hg.out)).mono ?_
  rintro r w9 ⟨rfl, b9⟩
  have B9 := bthen B8 b9
  go_wp2_with fail
  refine (mul_any (hp.up B9) (hq.up B9) (by omega) (by omega)).mono ?_
  rintro r w10 ⟨A10, n10, c10, x10, rfl, r10⟩
  rw [ep, eq] at r10
  have l10 : n10 ≤ 40 := r10.le Fn.out
  have B10 := bthen B9 r10.bel
  go_wp2_with fail
  refine (of_any e _ rfl he _).mono ?_
  rintro r w11 ⟨A11, n11, c11, x11, rfl, r11⟩
  have l11 : n11 ≤ 1 := r11.le (by omega)
  have B11 := bthen B10 r11.bel
  obtain ⟨w12, e12⟩ : ∃ w12, w12 = w11.alloc (.cells #[Value.slice A10 n10 c10, .slice A11 n11 c11, .slice none 0 0] 26) := ⟨_, rfl⟩
  obtain ⟨hb12, b12'⟩ := box_new e12
  have B12 := bthen B11 b12'
  subst e12
  have hx := ((B12).block w.heap.size hs0).trans hx0
  obtain ⟨q0, q1, q2, q3, q4, q5⟩ := three_cells hx
  have Bz := Lib.hid (bthen b0 (B12))
  go_wp2_with fail
  have hg2 := three_fin (v1 := .slice none 0 0) (v2 := .slice none 0 0) (v3 := .slice none 0 0) hx
  refine bodyPost_ret (v := .tuple #[.agg #[.slice none 0 0, .slice none 0 0, .slice none 0 0], .int .i64 50]) (by rw [results_cell_tmp rfl]; simp [asAddr, run_loadVar_row _ w.heap.size 26 26 _ (0, 0) _ hg2 Tryd.underlying26 rfl (by kernel_rfl)]) rfl ?_
  exact ⟨rfl, ((Bz.out.setCell (p := ⟨w.heap.size, 0, none⟩) (by simp) (.slice none 0 0)).setCell (p := ⟨w.heap.size, 1, none⟩) (by simp) (.slice none 0 0)).setCell (p := ⟨w.heap.size, 2, none⟩) (by simp) (.slice none 0 0)⟩
set_option maxHeartbeats 4000000 in
theorem make_b6 {w : World} {Ap Aq : Option Addr} {np cp nq cq p q : Nat} {xp xq : List Nat} (hp : Nt w w.heap.size Ap np cp xp) (hq : Nt w w.heap.size Aq nq cq xq) (ep : val 18446744073709551616 xp = p) (eq : val 18446744073709551616 xq = q)
    (lp : np ≤ 20) (lq : nq ≤ 20) (e : Nat) (he : e < 18446744073709551616) (h1 : (decide (bl p ≤ 512) && primeN p b12) = true) (h2 : (decide (bl q ≤ 512) && primeN q b12) = true) (h3 : p ≠ q) (h4 : (decide (e % 2 = 1) && decide (3 ≤ e)) = true) (h5 : Nat.gcd e ((p - 1) * (q - 1)) = 1) (h6 : rightK (p * q) e 0 = false) :
    Calls Tryd.prog 11 #[.slice Ap np cp, .slice Aq nq cq, .int .u64 (e : Int)] w (MakeBad w) := by
  obtain ⟨w0, e0⟩ : ∃ w0, w0 = w.alloc (.cells #[Value.slice none 0 0, .slice none 0 0, .slice none 0 0] 26) := ⟨_, rfl⟩
  have hx0 : w0.heap[w.heap.size]? = some (.cells #[Value.slice none 0 0, .slice none 0 0, .slice none 0 0] 26 (0, 0)) := e0 ▸ heap_alloc_new w _
  have hs0 : w.heap.size < w0.heap.size := by rw [e0]; simp
  have b0 : Below w.heap.size w w0 := e0 ▸ (Below.refl _ w).alloc (Nat.le_refl _) _
  have hp := hp.up b0
  have hq := hq.up b0
  have Hm1 := Lib.hid (fun (W : World) (b : Below w0.heap.size w0 W) => mayPrime_any (hp.up b) ep (by omega))
  have Hm2 := Lib.hid (fun (W : World) (b : Below w0.heap.size w0 W) => mayPrime_any (hq.up b) eq (by omega))
  have Hm3 := Lib.hid (fun (W : World) => mayPower_any e he W)
  rw [h1] at Hm1
  rw [h2] at Hm2
  have hs : sgn (p : Int) (q : Int) ≠ 0 := sgn_ne h3
  rw [h4] at Hm3
  have Hp2 := Lib.hid (primeN_two (by simp only [Bool.and_eq_true] at h1; exact h1.2))
  have Hq2 := Lib.hid (primeN_two (by simp only [Bool.and_eq_true] at h2; exact h2.2))
  have fp := hp.below_pow lp
  have fq := hq.below_pow lq
  rw [ep] at fp
  rw [eq] at fq
  have Fp := Lib.hid fp
  have Fq := Lib.hid fq
  have Fn := Lib.hid (mul_pow fp fq)
  have HphiN := Lib.hid (show (p - 1) * (q - 1) ≤ p * q from Nat.mul_le_mul (Nat.sub_le _ _) (Nat.sub_le _ _))
  have Hphi := Lib.hid (show 0 < (p - 1) * (q - 1) from Nat.mul_pos (by have := Hp2.out; omega) (by have := Hq2.out; omega))
  have Hg := Lib.hid h5
  have Hpw := Lib.hid h4
  have HR := Lib.hid (fun d (hd : d < p * q) => (show rightK (p * q) e d = false by
    unfold rightK at h6 ⊢
    rw [decide_eq_false_iff_not] at h6 ⊢
    exact fun h => h6 ⟨h.1, h.2.1, h.2.2.1, h.2.2.2.1, h.2.2.2.2.1, h.2.2.2.2.2.1, by omega⟩))
  clear h1 h2 h3 h4 h5 h6 fp fq
  go_enter Tryd.func11, Tryd.ntmps11
  go_wp2_with fail
  rw [← e0]
  clear e0
  refine (Hm1.out _ (Below.refl _ _)).mono ?_
  rintro r w1 ⟨rfl, b1⟩
  go_wp2_with fail
  refine (Hm2.out _ b1).mono ?_
  rintro r w2 ⟨rfl, b2⟩
  have B2 := bthen b1 b2
  have hc := cmp_any (hp.up B2) (hq.up B2)
  rw [ep, eq] at hc
  obtain ⟨s, hse⟩ : ∃ s, sgn (p : Int) (q : Int) = s := ⟨_, rfl⟩
  rw [hse] at hs hc
  have Hc := Lib.hid hc
  clear hc hse
  have hs' : (s == 0) = false := by simpa using hs
  go_wp2_with fail
  refine Hc.out.mono ?_
  rintro r w3 ⟨rfl, d3, rfl⟩
  have B3 := bdr B2 d3
  go_wp2_with fail
  refine (Hm3.out _).mono ?_
  rintro r w4 ⟨rfl, rfl⟩
  go_wp2_with fail
  refine (of_any e _ rfl he _).mono ?_
  rintro r w5 ⟨A5, n5, c5, x5, rfl, r5⟩
  have v5 := r5.is
  have l5 : n5 ≤ 1 := r5.le (by omega)
  have B5 := bthen B3 r5.bel
  go_wp2_with fail
  refine (klessOne_any (hp.up B5) ep (by omega) (by have := Hp2.out; omega)).mono ?_
  rintro r w6 ⟨A6, n6, c6, x6, rfl, r6⟩
  have v6 := r6.is
  have l6 : n6 ≤ 20 := r6.le (Nat.lt_of_le_of_lt (Nat.sub_le _ _) Fp.out)
  have B6 := bthen B5 r6.bel
  go_wp2_with fail
  refine (klessOne_any (hq.up B6) eq (by omega) (by have := Hq2.out; omega)).mono ?_
  rintro r w7 ⟨A7, n7, c7, x7, rfl, r7⟩
  have v7 := r7.is
  have l7 : n7 ≤ 20 := r7.le (Nat.lt_of_le_of_lt (Nat.sub_le _ _) Fq.out)
  have B7 := bthen B6 r7.bel
  go_wp2_with fail
  refine (mul_any (r6.nt.up r7.bel) r7.nt (by omega) (by omega)).mono ?_
  rintro r w8 ⟨A8, n8, c8, x8, rfl, r8⟩
  rw [v6, v7] at r8
  have v8 := r8.is
  have l8 : n8 ≤ 40 := r8.le (Nat.lt_of_le_of_lt HphiN.out Fn.out)
  have B8 := bthen B7 r8.bel
  have m5 := ((r5.nt.up r6.bel).up r7.bel).up r8.bel
  go_wp2_with fail
  refine (inverse_yes m5 r8.nt (by omega) (by omega) (by rw [v8]; exact Hphi.out) (by rw [v5, v8]; exact Hg.out)).mono ?_
  rintro r w9 ⟨d, hd, hde, A9, n9, c9, x9, rfl, r9⟩
  rw [v8] at hd
  have Hd := Lib.hid hd
  clear hde hd
  have v9 := r9.is
  have l9 : n9 ≤ 40 := r9.le (Nat.lt_trans Hd.out (Nat.lt_of_le_of_lt HphiN.out Fn.out))
  have B9 := bthen B8 r9.bel
  go_wp2_with fail
  refine (mul_any (hp.up B9) (hq.up B9) (by omega) (by omega)).mono ?_
  rintro r w10 ⟨A10, n10, c10, x10, rfl, r10⟩
  rw [ep, eq] at r10
  have l10 : n10 ≤ 40 := r10.le Fn.out
  have B10 := bthen B9 r10.bel
  go_wp2_with fail
  refine (of_any e _ rfl he _).mono ?_
  rintro r w11 ⟨A11, n11, c11, x11, rfl, r11⟩
  have l11 : n11 ≤ 1 := r11.le (by omega)
  have B11 := bthen B10 r11.bel
  obtain ⟨w12, e12⟩ : ∃ w12, w12 = w11.alloc (.cells #[Value.slice A10 n10 c10, .slice A11 n11 c11, .slice A9 n9 c9] 26) := ⟨_, rfl⟩
  obtain ⟨hb12, b12'⟩ := box_new e12
  have B12 := bthen B11 b12'
  have t1 := (r10.nt.up r11.bel).up b12'
  have t2 := r11.nt.up b12'
  have t3 := ((r9.nt.up r10.bel).up r11.bel).up b12'
  have hk : Pr w12 (.agg #[.slice A10 n10 c10, .slice A11 n11 c11, .slice A9 n9 c9]) (p * q) e d :=
    ⟨_, _, _, _, _, _, _, _, _, _, _, _, rfl, t1, r10.is, by omega, t2, r11.is, by omega, t3, r9.is, by omega⟩
  have hr := kright_bad hk (HR.out d (Nat.lt_of_lt_of_le Hd.out HphiN.out))
  have Hr := Lib.hid hr
  clear hr hk
  go_wp2_with fail
  rw [← e12]
  clear e12
  refine Hr.out.mono ?_
  rintro r w13 ⟨rfl, b13⟩
  have B13 := bthen B12 b13
  have hx := ((B13).block w.heap.size hs0).trans hx0
  obtain ⟨q0, q1, q2, q3, q4, q5⟩ := three_cells hx
  have Bz := Lib.hid (bthen b0 (B13))
  go_wp2_with fail
  have hg2 := three_fin (v1 := .slice none 0 0) (v2 := .slice none 0 0) (v3 := .slice none 0 0) hx
  refine bodyPost_ret (v := .tuple #[.agg #[.slice none 0 0, .slice none 0 0, .slice none 0 0], .int .i64 50]) (by rw [results_cell_tmp rfl]; simp [asAddr, run_loadVar_row _ w.heap.size 26 26 _ (0, 0) _ hg2 Tryd.underlying26 rfl (by kernel_rfl)]) rfl ?_
  exact ⟨rfl, ((Bz.out.setCell (p := ⟨w.heap.size, 0, none⟩) (by simp) (.slice none 0 0)).setCell (p := ⟨w.heap.size, 1, none⟩) (by simp) (.slice none 0 0)).setCell (p := ⟨w.heap.size, 2, none⟩) (by simp) (.slice none 0 0)⟩
end Go.Proofs.YtkhlmcknbangfaaDoor
namespace Go.Proofs.YtkhlmcknbangfaaDoor
open Go.RowKit
set_option linter.unusedVariables false
set_option linter.unusedSimpArgs false
set_option maxRecDepth 100000
/-- which numbers a key, or none, has -/
def KV (b : Bool) (p q e N E D : Nat) (er : Int) : Prop :=
  (b = true → er = 0 ∧ N = p * q ∧ E = e ∧ D < (p - 1) * (q - 1) ∧ e * D % ((p - 1) * (q - 1)) = 1) ∧ (b = false → er = 50 ∧ N = 0 ∧ E = 0 ∧ D = 0)
theorem KV.same {b : Bool} {p q e N E D N' E' D' : Nat} {er er' : Int} (h : KV b p q e N E D er) (k : KV b p q e N' E' D' er') : N = N' ∧ E = E' ∧ D = D' ∧ er = er' := by
  cases b with
  | false =>
    obtain ⟨a1, a2, a3, a4⟩ := h.2 rfl
    obtain ⟨b1, b2, b3, b4⟩ := k.2 rfl
    exact ⟨a2.trans b2.symm, a3.trans b3.symm, a4.trans b4.symm, a1.trans b1.symm⟩
  | true =>
    obtain ⟨a1, a2, a3, a4, a5⟩ := h.1 rfl
    obtain ⟨b1, b2, b3, b4, b5⟩ := k.1 rfl
    refine ⟨a2.trans b2.symm, a3.trans b3.symm, ?_, a1.trans b1.symm⟩
    generalize (p - 1) * (q - 1) = φ at *
    have hc : Nat.Coprime φ e := by
      have h1 := Nat.div_add_mod (e * D) φ
      rw [a5] at h1
      have g1 := Nat.gcd_dvd_left φ e
      have g2 := Nat.dvd_trans (Nat.gcd_dvd_right φ e) (Nat.dvd_mul_right e D)
      rw [← h1] at g2
      exact Nat.dvd_one.1 ((Nat.dvd_add_right (Nat.dvd_trans g1 (Nat.dvd_mul_right φ _))).1 g2)
    have := cancel (x := D) (y := D') hc (by rw [Nat.mul_comm D, Nat.mul_comm D', a5, b5])
    rwa [Nat.mod_eq_of_lt a4, Nat.mod_eq_of_lt b4] at this
/-- a key that came out, and the error -/
def KeyOf (b : Bool) (p q e : Nat) (w : World) (r : Ending) (w' : World) : Prop :=
  ∃ A1 n1 c1 x1 A2 n2 c2 x2 A3 n3 c3 x3 N E D er, r = .returned (.tuple #[.agg #[.slice A1 n1 c1, .slice A2 n2 c2, .slice A3 n3 c3], .int .i64 er]) ∧
    Nt w' w'.heap.size A1 n1 c1 x1 ∧ val 18446744073709551616 x1 = N ∧ Nt w' w'.heap.size A2 n2 c2 x2 ∧ val 18446744073709551616 x2 = E ∧ Nt w' w'.heap.size A3 n3 c3 x3 ∧ val 18446744073709551616 x3 = D ∧
    Trm x1 ∧ Trm x2 ∧ Trm x3 ∧ Below w.heap.size w w' ∧ KV b p q e N E D er
theorem KeyOf.ok {p q e : Nat} {w w' : World} {r : Ending} (h : MakeIs2 p q e w r w') : KeyOf true p q e w r w' := by
  obtain ⟨A1, n1, c1, x1, A2, n2, c2, x2, A3, n3, c3, x3, d, hr, a1, a2, a3, a4, a5, a6, a7, a8, a9, t1, t2, t3, h1, h2, hb⟩ := h
  exact ⟨A1, n1, c1, x1, A2, n2, c2, x2, A3, n3, c3, x3, _, _, _, 0, hr, a1, rfl, a4, rfl, a7, rfl, t1, t2, t3, hb, fun _ => ⟨rfl, a2, a5, a8.symm ▸ h1, a8.symm ▸ h2⟩, fun h => by cases h⟩
theorem KeyOf.bad {p q e : Nat} {w w' : World} {r : Ending} (h : MakeBad w r w') : KeyOf false p q e w r w' :=
  ⟨none, 0, 0, [], none, 0, 0, [], none, 0, 0, [], 0, 0, 0, 50, h.1, nt_nil _ _, rfl, nt_nil _ _, rfl, nt_nil _ _, rfl, trm_nil, trm_nil, trm_nil, h.2, (fun h => by cases h), fun _ => ⟨rfl, rfl, rfl, rfl⟩⟩
/-- what Make makes of two numbers: a key, or none -/
theorem make_both (p q e : Nat) (he : e < 18446744073709551616) : ∃ b : Bool, ∀ {w : World} {Ap Aq : Option Addr} {np cp nq cq : Nat} {xp xq : List Nat} (hp : Nt w w.heap.size Ap np cp xp) (hq : Nt w w.heap.size Aq nq cq xq) (ep : val 18446744073709551616 xp = p) (eq : val 18446744073709551616 xq = q)
    (lp : np ≤ 20) (lq : nq ≤ 20), Calls Tryd.prog 11 #[.slice Ap np cp, .slice Aq nq cq, .int .u64 (e : Int)] w (KeyOf b p q e w) := by
  by_cases m1 : (decide (bl p ≤ 512) && primeN p b12) = true
  · by_cases m2 : (decide (bl q ≤ 512) && primeN q b12) = true
    · by_cases hne : p = q
      · exact ⟨false, fun hp hq ep eq lp lq => (make_b3 hp hq ep eq lp lq e he m1 m2 hne).mono fun _ _ => KeyOf.bad⟩
      · by_cases m4 : (decide (e % 2 = 1) && decide (3 ≤ e)) = true
        · by_cases hg : Nat.gcd e ((p - 1) * (q - 1)) = 1
          · by_cases hr : rightK (p * q) e 0 = true
            · have m1' := m1
              have m2' := m2
              have m4' := m4
              rw [Bool.and_eq_true, decide_eq_true_iff] at m1' m2'
              rw [Bool.and_eq_true, decide_eq_true_iff, decide_eq_true_iff] at m4'
              have hp2 := primeN_two m1'.2
              have hq2 := primeN_two m2'.2
              have hphi : 1 < (p - 1) * (q - 1) := by
                rcases Nat.lt_or_ge 1 (p - 1) with h | h
                · exact Nat.lt_of_lt_of_le h (Nat.le_mul_of_pos_right _ (by omega))
                · exact Nat.lt_of_lt_of_le (show 1 < q - 1 by omega) (Nat.le_mul_of_pos_left _ (by omega))
              have hR := hr
              unfold rightK at hR
              rw [decide_eq_true_iff] at hR
              exact ⟨true, fun hp hq ep eq lp lq => (make_ok hp hq ep eq lp lq e he m1'.1 m2'.1 m1'.2 m2'.2 hne m4'.1 m4'.2 hg hphi hR.1 hR.2.1 hR.2.2.1 hR.2.2.2.2.2.1).mono fun _ _ => KeyOf.ok⟩
            · have hr' : rightK (p * q) e 0 = false := by simpa using hr
              exact ⟨false, fun hp hq ep eq lp lq => (make_b6 hp hq ep eq lp lq e he m1 m2 hne m4 hg hr').mono fun _ _ => KeyOf.bad⟩
          · exact ⟨false, fun hp hq ep eq lp lq => (make_b5 hp hq ep eq lp lq e he m1 m2 hne m4 hg).mono fun _ _ => KeyOf.bad⟩
        · exact ⟨false, fun hp hq ep eq lp lq => (make_b4 hp hq ep eq lp lq e he m1 m2 hne (by simpa using m4)).mono fun _ _ => KeyOf.bad⟩
    · exact ⟨false, fun hp hq ep eq lp lq => (make_b2 hp hq ep eq lp lq e he m1 (by simpa using m2)).mono fun _ _ => KeyOf.bad⟩
  · exact ⟨false, fun hp hq ep eq lp lq => (make_b1 hp hq ep eq lp lq e he (by simpa using m1)).mono fun _ _ => KeyOf.bad⟩
end Go.Proofs.YtkhlmcknbangfaaDoor
