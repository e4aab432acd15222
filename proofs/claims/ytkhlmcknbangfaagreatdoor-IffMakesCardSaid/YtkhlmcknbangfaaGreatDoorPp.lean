/- pkey: Make of any two numbers. clepsydraref05: Make of any two numbers. pkey: what Make makes, and the document's own Make, of any two numbers; keys that are the same. -/
import Derived.Test.YtkhlmcknbangfaaGreatDoorE4
import Derived.Test.YtkhlmcknbangfaaGreatDoorFa
import Derived.Test.YtkhlmcknbangfaaGreatDoorRf
import Derived.Test.YtkhlmcknbangfaaGreatDoorRn
import Derived.Sort.CutIn
namespace Go.Proofs.YtkhlmcknbangfaaGreatDoor
open Go.RowKit
set_option linter.unusedVariables false
set_option linter.unusedSimpArgs false
set_option maxRecDepth 100000
theorem mayPrime_any {w : World} {A : Option Addr} {n c N : Nat} {xs : List Nat} (h : Nt w w.heap.size A n c xs) (hN : val 18446744073709551616 xs = N) (hn : n ≤ 1000) :
    Calls Tryz.prog 28 #[.slice A n c] w fun e w' => e = .returned (.bool (decide (bl N ≤ 512) && primeN N b12)) ∧ Below w.heap.size w w' := by
  by_cases hb : bl N ≤ 512
  · have hpass := passes_any h hN (by omega)
    have hbits := bits_any h (by omega)
    rw [hN] at hbits
    rw [decide_eq_true hb, Bool.true_and]
    have Hbits := Lib.hid hbits
    have Hpass := Lib.hid hpass
    clear hbits hpass
    generalize primeN N b12 = b at *
    generalize bl N = k at *
    have e1 : (k : Int) ≤ 512 := by omega
    go_enter Tryz.func28, Tryz.ntmps28
    go_wp2_with fail
    refine Hbits.out.mono ?_
    rintro e w1 ⟨rfl, rfl⟩
    go_wp2_with fail
    refine Hpass.out.mono ?_
    rintro e w1 ⟨rfl, b1⟩
    go_wp2_with fail
    go_ret
    exact ⟨rfl, b1⟩
  · have hbits := bits_any h (by omega)
    rw [hN] at hbits
    rw [decide_eq_false hb, Bool.false_and]
    have Hbits := Lib.hid hbits
    clear hbits
    generalize bl N = k at *
    have e1 : ((k : Int) ≤ 512) = False := by simp only [eq_iff_iff, iff_false]; omega
    clear hb
    go_enter Tryz.func28, Tryz.ntmps28
    go_wp2_with fail
    refine Hbits.out.mono ?_
    rintro e w1 ⟨rfl, rfl⟩
    go_wp2_with fail
    go_ret
    exact ⟨rfl, Below.refl _ _⟩
theorem mayPower_any (e : Nat) (he : e < 18446744073709551616) (w : World) :
    Calls Tryz.prog 29 #[.int .u64 (e : Int)] w fun r w' => r = .returned (.bool (decide (e % 2 = 1) && decide (3 ≤ e))) ∧ w = w' := by
  by_cases h1 : e % 2 = 1
  · by_cases h2 : 3 ≤ e
    · rw [decide_eq_true h1, decide_eq_true h2]
      exact mayPower_yes e he h1 h2 w
    · rw [decide_eq_false h2, Bool.and_false]
      have : e = 1 := by omega
      subst this
      go_enter Tryz.func29, Tryz.ntmps29
      go_wp2_with fail
      go_ret
      exact ⟨rfl, rfl⟩
  · rw [decide_eq_false h1, Bool.false_and]
    have hm2 : ((e : Int).tmod 2) = 0 := by rw [Int.tmod_eq_emod_of_nonneg (by omega)]; omega
    have hm3 : ((e : Int) % 2) = 0 := by omega
    clear h1
    go_enter Tryz.func29, Tryz.ntmps29
    go_wp2_with fail
    go_ret
    exact ⟨rfl, rfl⟩
/-- a key that was made -/
def MakeIs2 (p q e : Nat) (w : World) (r : Ending) (w' : World) : Prop :=
  ∃ A1 n1 c1 x1 A2 n2 c2 x2 A3 n3 c3 x3 d, r = .returned (.tuple #[.agg #[.slice A1 n1 c1, .slice A2 n2 c2, .slice A3 n3 c3], .int .i64 0]) ∧
    Nt w' w'.heap.size A1 n1 c1 x1 ∧ val 18446744073709551616 x1 = p * q ∧ n1 ≤ 100 ∧ Nt w' w'.heap.size A2 n2 c2 x2 ∧ val 18446744073709551616 x2 = e ∧ n2 ≤ 100 ∧ Nt w' w'.heap.size A3 n3 c3 x3 ∧ val 18446744073709551616 x3 = d ∧ n3 ≤ 100 ∧
    Trm x1 ∧ Trm x2 ∧ Trm x3 ∧ d < (p - 1) * (q - 1) ∧ e * d % ((p - 1) * (q - 1)) = 1 ∧ Below w.heap.size w w'
/-- none was -/
def MakeBad (w : World) (r : Ending) (w' : World) : Prop := r = .returned (.tuple #[.agg #[.slice none 0 0, .slice none 0 0, .slice none 0 0], .int .i64 50]) ∧ Below w.heap.size w w'
set_option maxHeartbeats 8000000 in
theorem make_ok {w : World} {Ap Aq : Option Addr} {np cp nq cq p q : Nat} {xp xq : List Nat} (hp : Nt w w.heap.size Ap np cp xp) (hq : Nt w w.heap.size Aq nq cq xq) (ep : val 18446744073709551616 xp = p) (eq : val 18446744073709551616 xq = q)
    (lp : np ≤ 20) (lq : nq ≤ 20) (e : Nat) (he : e < 18446744073709551616) (bp : bl p ≤ 512) (bq : bl q ≤ 512) (pp : primeN p b12 = true) (pq : primeN q b12 = true) (hne : p ≠ q) (he2 : e % 2 = 1) (he3 : 3 ≤ e)
    (hg : Nat.gcd e ((p - 1) * (q - 1)) = 1) (hphi : 1 < (p - 1) * (q - 1)) (ho : p * q % 2 = 1) (hb1 : 16 ≤ bl (p * q)) (hb2 : bl (p * q) ≤ 1024) (heN : e < p * q) :
    Calls Tryz.prog 8 #[.slice Ap np cp, .slice Aq nq cq, .int .u64 (e : Int)] w (MakeIs2 p q e w) := by
  have hp2 := primeN_two pp
  have hq2 := primeN_two pq
  have Pp := Lib.hid pp
  have Pq := Lib.hid pq
  have Hg := Lib.hid hg
  have Ho := Lib.hid ho
  have Bp := Lib.hid bp
  have Bq := Lib.hid bq
  have Hb1 := Lib.hid hb1
  have Hb2 := Lib.hid hb2
  have hphiN : (p - 1) * (q - 1) ≤ p * q := Nat.mul_le_mul (Nat.sub_le _ _) (Nat.sub_le _ _)
  have fp := hp.below_pow lp
  have fq := hq.below_pow lq
  rw [ep] at fp
  rw [eq] at fq
  have Fp := Lib.hid fp
  have Fq := Lib.hid fq
  have Fn := Lib.hid (mul_pow fp fq)
  have hs : sgn (p : Int) (q : Int) ≠ 0 := sgn_ne hne
  clear pp pq hg ho bp bq hb1 hb2 fp fq
  obtain ⟨φ, hφ⟩ : ∃ φ, (p - 1) * (q - 1) = φ := ⟨_, rfl⟩
  obtain ⟨M, hM⟩ : ∃ M, p * q = M := ⟨_, rfl⟩
  rw [hφ] at Hg hphi hphiN
  rw [hM] at Ho Hb1 Hb2 heN hphiN Fn
  unfold MakeIs2
  rw [hφ, hM]
  have Hφ := Lib.hid hφ
  have HM := Lib.hid hM
  clear hφ hM
  obtain ⟨w0, e0⟩ : ∃ w0, w0 = w.alloc (.cells #[Value.slice none 0 0, .slice none 0 0, .slice none 0 0] 26) := ⟨_, rfl⟩
  have hx0 : w0.heap[w.heap.size]? = some (.cells #[Value.slice none 0 0, .slice none 0 0, .slice none 0 0] 26 (0, 0)) := e0 ▸ heap_alloc_new w _
  have hs0 : w.heap.size < w0.heap.size := by rw [e0]; simp
  have b0 : Below w.heap.size w w0 := e0 ▸ (Below.refl _ w).alloc (Nat.le_refl _) _
  have hp := hp.up b0
  have hq := hq.up b0
  go_enter Tryz.func8, Tryz.ntmps8
  go_wp2_with fail
  rw [← e0]
  clear e0
  refine (mayPrime_yes hp ep (by omega) Bp.out Pp.out).mono ?_
  rintro r w1 ⟨rfl, b1⟩
  go_wp2_with fail
  refine (mayPrime_yes (hq.up b1) eq (by omega) Bq.out Pq.out).mono ?_
  rintro r w2 ⟨rfl, b2⟩
  have B2 := bthen b1 b2
  have hc := cmp_any (hp.up B2) (hq.up B2)
  rw [ep, eq] at hc
  obtain ⟨s, hse⟩ : ∃ s, sgn (p : Int) (q : Int) = s := ⟨_, rfl⟩
  rw [hse] at hs hc
  have hs' : (s == 0) = false := by simpa using hs
  have Hc := Lib.hid hc
  clear hc hse
  go_wp2_with fail
  refine Hc.out.mono ?_
  rintro r w3 ⟨rfl, d3, rfl⟩
  have B3 := bdr B2 d3
  go_wp2_with fail
  refine (mayPower_yes e he he2 he3 _).mono ?_
  rintro r w4 ⟨rfl, rfl⟩
  go_wp2_with fail
  refine (of_any e _ rfl he _).mono ?_
  rintro r w5 ⟨A5, n5, c5, x5, rfl, r5⟩
  have v5 := r5.is
  have l5 : n5 ≤ 1 := r5.le (by omega)
  have B5 := bthen B3 r5.bel
  go_wp2_with fail
  refine (klessOne_any (hp.up B5) ep (by omega) (by omega)).mono ?_
  rintro r w6 ⟨A6, n6, c6, x6, rfl, r6⟩
  have v6 := r6.is
  have l6 : n6 ≤ 20 := r6.le (Nat.lt_of_le_of_lt (Nat.sub_le _ _) Fp.out)
  have B6 := bthen B5 r6.bel
  go_wp2_with fail
  refine (klessOne_any (hq.up B6) eq (by omega) (by omega)).mono ?_
  rintro r w7 ⟨A7, n7, c7, x7, rfl, r7⟩
  have v7 := r7.is
  have l7 : n7 ≤ 20 := r7.le (Nat.lt_of_le_of_lt (Nat.sub_le _ _) Fq.out)
  have B7 := bthen B6 r7.bel
  go_wp2_with fail
  refine (mul_any (r6.nt.up r7.bel) r7.nt (by omega) (by omega)).mono ?_
  rintro r w8 ⟨A8, n8, c8, x8, rfl, r8⟩
  rw [v6, v7, Hφ.out] at r8
  have v8 := r8.is
  have l8 : n8 ≤ 40 := r8.le (Nat.lt_of_le_of_lt hphiN Fn.out)
  have B8 := bthen B7 r8.bel
  have m5 := ((r5.nt.up r6.bel).up r7.bel).up r8.bel
  go_wp2_with fail
  refine (inverse_yes m5 r8.nt (by omega) (by omega) (by rw [v8]; omega) (by rw [v5, v8]; exact Hg.out)).mono ?_
  rintro r w9 ⟨d, hd, hde, A9, n9, c9, x9, rfl, r9⟩
  rw [v8] at hd hde
  rw [v5, Nat.mod_eq_of_lt hphi] at hde
  have Hde := Lib.hid hde
  clear hde
  have v9 := r9.is
  have l9 : n9 ≤ 40 := r9.le (Nat.lt_trans hd (Nat.lt_of_le_of_lt hphiN Fn.out))
  have B9 := bthen B8 r9.bel
  go_wp2_with fail
  refine (mul_any (hp.up B9) (hq.up B9) (by omega) (by omega)).mono ?_
  rintro r w10 ⟨A10, n10, c10, x10, rfl, r10⟩
  rw [ep, eq, HM.out] at r10
  have l10 : n10 ≤ 40 := r10.le Fn.out
  have B10 := bthen B9 r10.bel
  go_wp2_with fail
  refine (of_any e _ rfl he _).mono ?_
  rintro r w11 ⟨A11, n11, c11, x11, rfl, r11⟩
  have l11 : n11 ≤ 1 := r11.le (by omega)
  have B11 := bthen B10 r11.bel
  obtain ⟨w12, e12⟩ : ∃ w12, w12 = w11.alloc (.cells #[Value.slice A10 n10 c10, .slice A11 n11 c11, .slice A9 n9 c9] 26) := ⟨_, rfl⟩
  obtain ⟨hb12, b12'⟩ := box_new e12
  have B12 := bthen B11 b12'
  have t1 := (r10.nt.up r11.bel).up b12'
  have t2 := r11.nt.up b12'
  have t3 := ((r9.nt.up r10.bel).up r11.bel).up b12'
  have hk : Pr w12 (.agg #[.slice A10 n10 c10, .slice A11 n11 c11, .slice A9 n9 c9]) M e d :=
    ⟨_, _, _, _, _, _, _, _, _, _, _, _, rfl, t1, r10.is, by omega, t2, r11.is, by omega, t3, r9.is, by omega⟩
  have hr := kright_any hk Ho.out Hb1.out Hb2.out he2 (by omega) heN (Nat.lt_of_lt_of_le hd hphiN)
  have Hr := Lib.hid hr
  clear hr hk
  go_wp2_with fail
  rw [← e12]
  clear e12
  refine Hr.out.mono ?_
  rintro r w13 ⟨rfl, b13⟩
  have B13 := bthen B12 b13
  have hy := hb12.up b13
  have y0 := hy.c0
  have y1 := hy.c1
  have y2 := hy.c2
  have hx := (B13.block w.heap.size hs0).trans hx0
  obtain ⟨q0, q1, q2, q3, q4, q5⟩ := three_cells hx
  have hs11 := B11.size
  go_wp2_with fail
  have hg2 := three_fin (v1 := .slice A10 n10 c10) (v2 := .slice A11 n11 c11) (v3 := .slice A9 n9 c9) hx
  refine bodyPost_ret (v := .tuple #[.agg #[.slice A10 n10 c10, .slice A11 n11 c11, .slice A9 n9 c9], .int .i64 0]) (by rw [results_cell_tmp rfl]; simp [asAddr, run_loadVar_row _ w.heap.size 26 26 _ (0, 0) _ hg2 Tryz.underlying26 rfl (by kernel_rfl)]) rfl ?_
  have B13' := bthen b0 B13
  have hb := ((B13'.setCell (p := ⟨w.heap.size, 0, none⟩) (by simp) (.slice A10 n10 c10)).setCell (p := ⟨w.heap.size, 1, none⟩) (by simp) (.slice A11 n11 c11)).setCell (p := ⟨w.heap.size, 2, none⟩) (by simp) (.slice A9 n9 c9)
  have z5 := B3.size
  have z9 := B8.size
  have z10 := B9.size
  have z11 := B10.size
  exact ⟨_, _, _, _, _, _, _, _, _, _, _, _, d, rfl, (t1.up b13).away3 (B := 0) (r10.ne (by omega)), r10.is, by omega, (t2.up b13).away3 (B := 0) (r11.ne (by omega)), r11.is, by omega, (t3.up b13).away3 (B := 0) ((t3.up b13).not_in hx), r9.is, by omega, r10.trm, r11.trm, r9.trm, hd, Hde.out, hb⟩
set_option maxHeartbeats 4000000 in
theorem make_b1 {w : World} {Ap Aq : Option Addr} {np cp nq cq p q : Nat} {xp xq : List Nat} (hp : Nt w w.heap.size Ap np cp xp) (hq : Nt w w.heap.size Aq nq cq xq) (ep : val 18446744073709551616 xp = p) (eq : val 18446744073709551616 xq = q)
    (lp : np ≤ 20) (lq : nq ≤ 20) (e : Nat) (he : e < 18446744073709551616) (h1 : (decide (bl p ≤ 512) && primeN p b12) = false) :
    Calls Tryz.prog 8 #[.slice Ap np cp, .slice Aq nq cq, .int .u64 (e : Int)] w (MakeBad w) := by
  obtain ⟨w0, e0⟩ : ∃ w0, w0 = w.alloc (.cells #[Value.slice none 0 0, .slice none 0 0, .slice none 0 0] 26) := ⟨_, rfl⟩
  have hx0 : w0.heap[w.heap.size]? = some (.cells #[Value.slice none 0 0, .slice none 0 0, .slice none 0 0] 26 (0, 0)) := e0 ▸ heap_alloc_new w _
  have hs0 : w.heap.size < w0.heap.size := by rw [e0]; simp
  have b0 : Below w.heap.size w w0 := e0 ▸ (Below.refl _ w).alloc (Nat.le_refl _) _
  have hp := hp.up b0
  have hq := hq.up b0
  have Hm1 := Lib.hid (fun (W : World) (b : Below w0.heap.size w0 W) => mayPrime_any (hp.up b) ep (by omega))
  have Hm2 := Lib.hid (fun (W : World) (b : Below w0.heap.size w0 W) => mayPrime_any (hq.up b) eq (by omega))
  have Hm3 := Lib.hid (fun (W : World) => mayPower_any e he W)
  rw [h1] at Hm1
  clear h1
  go_enter Tryz.func8, Tryz.ntmps8
  go_wp2_with fail
  rw [← e0]
  clear e0
  refine (Hm1.out _ (Below.refl _ _)).mono ?_
  rintro r w1 ⟨rfl, b1⟩
  have hx := ((b1).block w.heap.size hs0).trans hx0
  obtain ⟨q0, q1, q2, q3, q4, q5⟩ := three_cells hx
  have Bz := Lib.hid (bthen b0 (b1))
  go_wp2_with fail
  have hg2 := three_fin (v1 := .slice none 0 0) (v2 := .slice none 0 0) (v3 := .slice none 0 0) hx
  refine bodyPost_ret (v := .tuple #[.agg #[.slice none 0 0, .slice none 0 0, .slice none 0 0], .int .i64 50]) (by rw [results_cell_tmp rfl]; simp [asAddr, run_loadVar_row _ w.heap.size 26 26 _ (0, 0) _ hg2 Tryz.underlying26 rfl (by kernel_rfl)]) rfl ?_
  exact ⟨rfl, ((Bz.out.setCell (p := ⟨w.heap.size, 0, none⟩) (by simp) (.slice none 0 0)).setCell (p := ⟨w.heap.size, 1, none⟩) (by simp) (.slice none 0 0)).setCell (p := ⟨w.heap.size, 2, none⟩) (by simp) (.slice none 0 0)⟩
set_option maxHeartbeats 4000000 in
theorem make_b2 {w : World} {Ap Aq : Option Addr} {np cp nq cq p q : Nat} {xp xq : List Nat} (hp : Nt w w.heap.size Ap np cp xp) (hq : Nt w w.heap.size Aq nq cq xq) (ep : val 18446744073709551616 xp = p) (eq : val 18446744073709551616 xq = q)
    (lp : np ≤ 20) (lq : nq ≤ 20) (e : Nat) (he : e < 18446744073709551616) (h1 : (decide (bl p ≤ 512) && primeN p b12) = true) (h2 : (decide (bl q ≤ 512) && primeN q b12) = false) :
    Calls Tryz.prog 8 #[.slice Ap np cp, .slice Aq nq cq, .int .u64 (e : Int)] w (MakeBad w) := by
  obtain ⟨w0, e0⟩ : ∃ w0, w0 = w.alloc (.cells #[Value.slice none 0 0, .slice none 0 0, .slice none 0 0] 26) := ⟨_, rfl⟩
  have hx0 : w0.heap[w.heap.size]? = some (.cells #[Value.slice none 0 0, .slice none 0 0, .slice none 0 0] 26 (0, 0)) := e0 ▸ heap_alloc_new w _
  have hs0 : w.heap.size < w0.heap.size := by rw [e0]; simp
  have b0 : Below w.heap.size w w0 := e0 ▸ (Below.refl _ w).alloc (Nat.le_refl _) _
  have hp := hp.up b0
  have hq := hq.up b0
  have Hm1 := Lib.hid (fun (W : World) (b : Below w0.heap.size w0 W) => mayPrime_any (hp.up b) ep (by omega))
  have Hm2 := Lib.hid (fun (W : World) (b : Below w0.heap.size w0 W) => mayPrime_any (hq.up b) eq (by omega))
  have Hm3 := Lib.hid (fun (W : World) => mayPower_any e he W)
  rw [h1] at Hm1
  rw [h2] at Hm2
  clear h1 h2
  go_enter Tryz.func8, Tryz.ntmps8
  go_wp2_with fail
  rw [← e0]
  clear e0
  refine (Hm1.out _ (Below.refl _ _)).mono ?_
  rintro r w1 ⟨rfl, b1⟩
  go_wp2_with fail
  refine (Hm2.out _ b1).mono ?_
  rintro r w2 ⟨rfl, b2⟩
  have B2 := bthen b1 b2
  have hx := ((B2).block w.heap.size hs0).trans hx0
  obtain ⟨q0, q1, q2, q3, q4, q5⟩ := three_cells hx
  have Bz := Lib.hid (bthen b0 (B2))
  go_wp2_with fail
  have hg2 := three_fin (v1 := .slice none 0 0) (v2 := .slice none 0 0) (v3 := .slice none 0 0) hx
  refine bodyPost_ret (v := .tuple #[.agg #[.slice none 0 0, .slice none 0 0, .slice none 0 0], .int .i64 50]) (by rw [results_cell_tmp rfl]; simp [asAddr, run_loadVar_row _ w.heap.size 26 26 _ (0, 0) _ hg2 Tryz.underlying26 rfl (by kernel_rfl)]) rfl ?_
  exact ⟨rfl, ((Bz.out.setCell (p := ⟨w.heap.size, 0, none⟩) (by simp) (.slice none 0 0)).setCell (p := ⟨w.heap.size, 1, none⟩) (by simp) (.slice none 0 0)).setCell (p := ⟨w.heap.size, 2, none⟩) (by simp) (.slice none 0 0)⟩
set_option maxHeartbeats 4000000 in
theorem make_b3 {w : World} {Ap Aq : Option Addr} {np cp nq cq p q : Nat} {xp xq : List Nat} (hp : Nt w w.heap.size Ap np cp xp) (hq : Nt w w.heap.size Aq nq cq xq) (ep : val 18446744073709551616 xp = p) (eq : val 18446744073709551616 xq = q)
    (lp : np ≤ 20) (lq : nq ≤ 20) (e : Nat) (he : e < 18446744073709551616) (h1 : (decide (bl p ≤ 512) && primeN p b12) = true) (h2 : (decide (bl q ≤ 512) && primeN q b12) = true) (h3 : p = q) :
    Calls Tryz.prog 8 #[.slice Ap np cp, .slice Aq nq cq, .int .u64 (e : Int)] w (MakeBad w) := by
  obtain ⟨w0, e0⟩ : ∃ w0, w0 = w.alloc (.cells #[Value.slice none 0 0, .slice none 0 0, .slice none 0 0] 26) := ⟨_, rfl⟩
  have hx0 : w0.heap[w.heap.size]? = some (.cells #[Value.slice none 0 0, .slice none 0 0, .slice none 0 0] 26 (0, 0)) := e0 ▸ heap_alloc_new w _
  have hs0 : w.heap.size < w0.heap.size := by rw [e0]; simp
  have b0 : Below w.heap.size w w0 := e0 ▸ (Below.refl _ w).alloc (Nat.le_refl _) _
  have hp := hp.up b0
  have hq := hq.up b0
  have Hm1 := Lib.hid (fun (W : World) (b : Below w0.heap.size w0 W) => mayPrime_any (hp.up b) ep (by omega))
  have Hm2 := Lib.hid (fun (W : World) (b : Below w0.heap.size w0 W) => mayPrime_any (hq.up b) eq (by omega))
  have Hm3 := Lib.hid (fun (W : World) => mayPower_any e he W)
  rw [h1] at Hm1
  rw [h2] at Hm2
  clear h1 h2
  have hs : sgn (p : Int) (q : Int) = 0 := by subst h3; simp [sgn]
  clear h3
  go_enter Tryz.func8, Tryz.ntmps8
  go_wp2_with fail
  rw [← e0]
  clear e0
  refine (Hm1.out _ (Below.refl _ _)).mono ?_
  rintro r w1 ⟨rfl, b1⟩
  go_wp2_with fail
  refine (Hm2.out _ b1).mono ?_
  rintro r w2 ⟨rfl, b2⟩
  have B2 := bthen b1 b2
  have hc := cmp_any (hp.up B2) (hq.up B2)
  rw [ep, eq] at hc
  obtain ⟨s, hse⟩ : ∃ s, sgn (p : Int) (q : Int) = s := ⟨_, rfl⟩
  rw [hse] at hs hc
  have Hc := Lib.hid hc
  clear hc hse
  subst hs
  go_wp2_with fail
  refine Hc.out.mono ?_
  rintro r w3 ⟨rfl, d3, rfl⟩
  have B3 := bdr B2 d3
  have hx := ((B3).block w.heap.size hs0).trans hx0
  obtain ⟨q0, q1, q2, q3, q4, q5⟩ := three_cells hx
  have Bz := Lib.hid (bthen b0 (B3))
  go_wp2_with fail
  have hg2 := three_fin (v1 := .slice none 0 0) (v2 := .slice none 0 0) (v3 := .slice none 0 0) hx
  refine bodyPost_ret (v := .tuple #[.agg #[.slice none 0 0, .slice none 0 0, .slice none 0 0], .int .i64 50]) (by rw [results_cell_tmp rfl]; simp [asAddr, run_loadVar_row _ w.heap.size 26 26 _ (0, 0) _ hg2 Tryz.underlying26 rfl (by kernel_rfl)]) rfl ?_
  exact ⟨rfl, ((Bz.out.setCell (p := ⟨w.heap.size, 0, none⟩) (by simp) (.slice none 0 0)).setCell (p := ⟨w.heap.size, 1, none⟩) (by simp) (.slice none 0 0)).setCell (p := ⟨w.heap.size, 2, none⟩) (by simp) (.slice none 0 0)⟩
set_option maxHeartbeats 4000000 in
theorem make_b4 {w : World} {Ap Aq : Option Addr} {np cp nq cq p q : Nat} {xp xq : List Nat} (hp : Nt w w.heap.size Ap np cp xp) (hq : Nt w w.heap.size Aq nq cq xq) (ep : val 18446744073709551616 xp = p) (eq : val 18446744073709551616 xq = q)
    (lp : np ≤ 20) (lq : nq ≤ 20) (e : Nat) (he : e < 18446744073709551616) (h1 : (decide (bl p ≤ 512) && primeN p b12) = true) (h2 : (decide (bl q ≤ 512) && primeN q b12) = true) (h3 : p ≠ q) (h4 : (decide (e % 2 = 1) && decide (3 ≤ e)) = false) :
    Calls Tryz.prog 8 #[.slice Ap np cp, .slice Aq nq cq, .int .u64 (e : Int)] w (MakeBad w) := by
  obtain ⟨w0, e0⟩ : ∃ w0, w0 = w.alloc (.cells #[Value.slice none 0 0, .slice none 0 0, .slice none 0 0] 26) := ⟨_, rfl⟩
  have hx0 : w0.heap[w.heap.size]? = some (.cells #[Value.slice none 0 0, .slice none 0 0, .slice none 0 0] 26 (0, 0)) := e0 ▸ heap_alloc_new w _
  have hs0 : w.heap.size < w0.heap.size := by rw [e0]; simp
  have b0 : Below w.heap.size w w0 := e0 ▸ (Below.refl _ w).alloc (Nat.le_refl _) _
  have hp := hp.up b0
  have hq := hq.up b0
  have Hm1 := Lib.hid (fun (W : World) (b : Below w0.heap.size w0 W) => mayPrime_any (hp.up b) ep (by omega))
  have Hm2 := Lib.hid (fun (W : World) (b : Below w0.heap.size w0 W) => mayPrime_any (hq.up b) eq (by omega))
  have Hm3 := Lib.hid (fun (W : World) => mayPower_any e he W)
  rw [h1] at Hm1
  rw [h2] at Hm2
  have hs : sgn (p : Int) (q : Int) ≠ 0 := sgn_ne h3
  rw [h4] at Hm3
  clear h1 h2 h3 h4
  go_enter Tryz.func8, Tryz.ntmps8
  go_wp2_with fail
  rw [← e0]
  clear e0
  refine (Hm1.out _ (Below.refl _ _)).mono ?_
  rintro r w1 ⟨rfl, b1⟩
  go_wp2_with fail
  refine (Hm2.out _ b1).mono ?_
  rintro r w2 ⟨rfl, b2⟩
  have B2 := bthen b1 b2
  have hc := cmp_any (hp.up B2) (hq.up B2)
  rw [ep, eq] at hc
  obtain ⟨s, hse⟩ : ∃ s, sgn (p : Int) (q : Int) = s := ⟨_, rfl⟩
  rw [hse] at hs hc
  have Hc := Lib.hid hc
  clear hc hse
  have hs' : (s == 0) = false := by simpa using hs
  go_wp2_with fail
  refine Hc.out.mono ?_
  rintro r w3 ⟨rfl, d3, rfl⟩
  have B3 := bdr B2 d3
  go_wp2_with fail
  refine (Hm3.out _).mono ?_
  rintro r w4 ⟨rfl, rfl⟩
  have hx := ((B3).block w.heap.size hs0).trans hx0
  obtain ⟨q0, q1, q2, q3, q4, q5⟩ := three_cells hx
  have Bz := Lib.hid (bthen b0 (B3))
  go_wp2_with fail
  have hg2 := three_fin (v1 := .slice none 0 0) (v2 := .slice none 0 0) (v3 := .slice none 0 0) hx
  refine bodyPost_ret (v := .tuple #[.agg #[.slice none 0 0, .slice none 0 0, .slice none 0 0], .int .i64 50]) (by rw [results_cell_tmp rfl]; simp [asAddr, run_loadVar_row _ w.heap.size 26 26 _ (0, 0) _ hg2 Tryz.underlying26 rfl (by kernel_rfl)]) rfl ?_
  exact ⟨rfl, ((Bz.out.setCell (p := ⟨w.heap.size, 0, none⟩) (by simp) (.slice none 0 0)).setCell (p := ⟨w.heap.size, 1, none⟩) (by simp) (.slice none 0 0)).setCell (p := ⟨w.heap.size, 2, none⟩) (by simp) (.slice none 0 0)⟩
set_option maxHeartbeats 4000000 in
theorem make_b5 {w : World} {Ap Aq : Option Addr} {np cp nq cq p q : Nat} {xp xq : List Nat} (hp : Nt w w.heap.size Ap np cp xp) (hq : Nt w w.heap.size Aq nq cq xq) (ep : val 18446744073709551616 xp = p) (eq : val 18446744073709551616 xq = q)
    (lp : np ≤ 20) (lq : nq ≤ 20) (e : Nat) (he : e < 18446744073709551616) (h1 : (decide (bl p ≤ 512) && primeN p b12) = true) (h2 : (decide (bl q ≤ 512) && primeN q b12) = true) (h3 : p ≠ q) (h4 : (decide (e % 2 = 1) && decide (3 ≤ e)) = true) (h5 : Nat.gcd e ((p - 1) * (q - 1)) ≠ 1) :
    Calls Tryz.prog 8 #[.slice Ap np cp, .slice Aq nq cq, .int .u64 (e : Int)] w (MakeBad w) := by
  obtain ⟨w0, e0⟩ : ∃ w0, w0 = w.alloc (.cells #[Value.slice none 0 0, .slice none 0 0, .slice none 0 0] 26) := ⟨_, rfl⟩
  have hx0 : w0.heap[w.heap.size]? = some (.cells #[Value.slice none 0 0, .slice none 0 0, .slice none 0 0] 26 (0, 0)) := e0 ▸ heap_alloc_new w _
  have hs0 : w.heap.size < w0.heap.size := by rw [e0]; simp
  have b0 : Below w.heap.size w w0 := e0 ▸ (Below.refl _ w).alloc (Nat.le_refl _) _
  have hp := hp.up b0
  have hq := hq.up b0
  have Hm1 := Lib.hid (fun (W : World) (b : Below w0.heap.size w0 W) => mayPrime_any (hp.up b) ep (by omega))
  have Hm2 := Lib.hid (fun (W : World) (b : Below w0.heap.size w0 W) => mayPrime_any (hq.up b) eq (by omega))
  have Hm3 := Lib.hid (fun (W : World) => mayPower_any e he W)
  rw [h1] at Hm1
  rw [h2] at Hm2
  have hs : sgn (p : Int) (q : Int) ≠ 0 := sgn_ne h3
  rw [h4] at Hm3
  have Hp2 := Lib.hid (primeN_two (by simp only [Bool.and_eq_true] at h1; exact h1.2))
  have Hq2 := Lib.hid (primeN_two (by simp only [Bool.and_eq_true] at h2; exact h2.2))
  have fp := hp.below_pow lp
  have fq := hq.below_pow lq
  rw [ep] at fp
  rw [eq] at fq
  have Fp := Lib.hid fp
  have Fq := Lib.hid fq
  have Fn := Lib.hid (mul_pow fp fq)
  have HphiN := Lib.hid (show (p - 1) * (q - 1) ≤ p * q from Nat.mul_le_mul (Nat.sub_le _ _) (Nat.sub_le _ _))
  have Hphi := Lib.hid (show 0 < (p - 1) * (q - 1) from Nat.mul_pos (by have := Hp2.out; omega) (by have := Hq2.out; omega))
  have Hg := Lib.hid h5
  have Hpw := Lib.hid h4
  clear h1 h2 h3 h4 h5 fp fq
  go_enter Tryz.func8, Tryz.ntmps8
  go_wp2_with fail
  rw [← e0]
  clear e0
  refine (Hm1.out _ (Below.refl _ _)).mono ?_
  rintro r w1 ⟨rfl, b1⟩
  go_wp2_with fail
  refine (Hm2.out _ b1).mono ?_
  rintro r w2 ⟨rfl, b2⟩
  have B2 := bthen b1 b2
  have hc := cmp_any (hp.up B2) (hq.up B2)
  rw [ep, eq] at hc
  obtain ⟨s, hse⟩ : ∃ s, sgn (p : Int) (q : Int) = s := ⟨_, rfl⟩
  rw [hse] at hs hc
  have Hc := Lib.hid hc
  clear hc hse
  have hs' : (s == 0) = false := by simpa using hs
  go_wp2_with fail
  refine Hc.out.mono ?_
  rintro r w3 ⟨rfl, d3, rfl⟩
  have B3 := bdr B2 d3
  go_wp2_with fail
  refine (Hm3.out _).mono ?_
  rintro r w4 ⟨rfl, rfl⟩
  go_wp2_with fail
  refine (of_any e _ rfl he _).mono ?_
  rintro r w5 ⟨A5, n5, c5, x5, rfl, r5⟩
  have v5 := r5.is
  have l5 : n5 ≤ 1 := r5.le (by omega)
  have B5 := bthen B3 r5.bel
  go_wp2_with fail
  refine (klessOne_any (hp.up B5) ep (by omega) (by have := Hp2.out; omega)).mono ?_
  rintro r w6 ⟨A6, n6, c6, x6, rfl, r6⟩
  have v6 := r6.is
  have l6 : n6 ≤ 20 := r6.le (Nat.lt_of_le_of_lt (Nat.sub_le _ _) Fp.out)
  have B6 := bthen B5 r6.bel
  go_wp2_with fail
  refine (klessOne_any (hq.up B6) eq (by omega) (by have := Hq2.out; omega)).mono ?_
  rintro r w7 ⟨A7, n7, c7, x7, rfl, r7⟩
  have v7 := r7.is
  have l7 : n7 ≤ 20 := r7.le (Nat.lt_of_le_of_lt (Nat.sub_le _ _) Fq.out)
  have B7 := bthen B6 r7.bel
  go_wp2_with fail
  refine (mul_any (r6.nt.up r7.bel) r7.nt (by omega) (by omega)).mono ?_
  rintro r w8 ⟨A8, n8, c8, x8, rfl, r8⟩
  rw [v6, v7] at r8
  have v8 := r8.is
  have l8 : n8 ≤ 40 := r8.le (Nat.lt_of_le_of_lt HphiN.out Fn.out)
  have B8 := bthen B7 r8.bel
  have m5 := ((r5.nt.up r6.bel).up r7.bel).up r8.bel
  go_wp2_with fail
  refine (inverse_no m5 r8.nt (by omega) (by omega) (by rw [v8]; exact Hphi.out) (by rw [v5, v8]; exact Hg.out)).mono ?_
  rintro r w9 ⟨rfl, b9⟩
  have B9 := bthen B8 b9
  go_wp2_with fail
  refine (mul_any (hp.up B9) (hq.up B9) (by omega) (by omega)).mono ?_
  rintro r w10 ⟨A10, n10, c10, x10, rfl, r10⟩
  rw [ep, eq] at r10
  have l10 : n10 ≤ 40 := r10.le Fn.out
  have B10 := bthen B9 r10.bel
  go_wp2_with fail
  refine (of_any e _ rfl he _).mono ?_
  rintro r w11 ⟨A11, n11, c11, x11, rfl, r11⟩
  have l11 : n11 ≤ 1 := r11.le (by omega)
  have B11 := bthen B10 r11.bel
  obtain ⟨w12, e12⟩ : ∃ w12, w12 = w11.alloc (.cells #[Value.slice A10 n10 c10, .slice A11 n11 c11, .slice none 0 0] 26) := ⟨_, rfl⟩
  obtain ⟨hb12, b12'⟩ := box_new e12
  have B12 := bthen B11 b12'
  subst e12
  have hx := ((B12).block w.heap.size hs0).trans hx0
  obtain ⟨q0, q1, q2, q3, q4, q5⟩ := three_cells hx
  have Bz := Lib.hid (bthen b0 (B12))
  go_wp2_with fail
  have hg2 := three_fin (v1 := .slice none 0 0) (v2 := .slice none 0 0) (v3 := .slice none 0 0) hx
  refine bodyPost_ret (v := .tuple #[.agg #[.slice none 0 0, .slice none 0 0, .slice none 0 0], .int .i64 50]) (by rw [results_cell_tmp rfl]; simp [asAddr, run_loadVar_row _ w.heap.size 26 26 _ (0, 0) _ hg2 Tryz.underlying26 rfl (by kernel_rfl)]) rfl ?_
  exact ⟨rfl, ((Bz.out.setCell (p := ⟨w.heap.size, 0, none⟩) (by simp) (.slice none 0 0)).setCell (p := ⟨w.heap.size, 1, none⟩) (by simp) (.slice none 0 0)).setCell (p := ⟨w.heap.size, 2, none⟩) (by simp) (.slice none 0 0)⟩
set_option maxHeartbeats 4000000 in
theorem make_b6 {w : World} {Ap Aq : Option Addr} {np cp nq cq p q : Nat} {xp xq : List Nat} (hp : Nt w w.heap.size Ap np cp xp) (hq : Nt w w.heap.size Aq nq cq xq) (ep : val 18446744073709551616 xp = p) (eq : val 18446744073709551616 xq = q)
    (lp : np ≤ 20) (lq : nq ≤ 20) (e : Nat) (he : e < 18446744073709551616) (h1 : (decide (bl p ≤ 512) && primeN p b12) = true) (h2 : (decide (bl q ≤ 512) && primeN q b12) = true) (h3 : p ≠ q) (h4 : (decide (e % 2 = 1) && decide (3 ≤ e)) = true) (h5 : Nat.gcd e ((p - 1) * (q - 1)) = 1) (h6 : rightK (p * q) e 0 = false) :
    Calls Tryz.prog 8 #[.slice Ap np cp, .slice Aq nq cq, .int .u64 (e : Int)] w (MakeBad w) := by
  obtain ⟨w0, e0⟩ : ∃ w0, w0 = w.alloc (.cells #[Value.slice none 0 0, .slice none 0 0, .slice none 0 0] 26) := ⟨_, rfl⟩
  have hx0 : w0.heap[w.heap.size]? = some (.cells #[Value.slice none 0 0, .slice none 0 0, .slice none 0 0] 26 (0, 0)) := e0 ▸ heap_alloc_new w _
  have hs0 : w.heap.size < w0.heap.size := by rw [e0]; simp
  have b0 : Below w.heap.size w w0 := e0 ▸ (Below.refl _ w).alloc (Nat.le_refl _) _
  have hp := hp.up b0
  have hq := hq.up b0
  have Hm1 := Lib.hid (fun (W : World) (b : Below w0.heap.size w0 W) => mayPrime_any (hp.up b) ep (by omega))
  have Hm2 := Lib.hid (fun (W : World) (b : Below w0.heap.size w0 W) => mayPrime_any (hq.up b) eq (by omega))
  have Hm3 := Lib.hid (fun (W : World) => mayPower_any e he W)
  rw [h1] at Hm1
  rw [h2] at Hm2
  have hs : sgn (p : Int) (q : Int) ≠ 0 := sgn_ne h3
  rw [h4] at Hm3
  have Hp2 := Lib.hid (primeN_two (by simp only [Bool.and_eq_true] at h1; exact h1.2))
  have Hq2 := Lib.hid (primeN_two (by simp only [Bool.and_eq_true] at h2; exact h2.2))
  have fp := hp.below_pow lp
  have fq := hq.below_pow lq
  rw [ep] at fp
  rw [eq] at fq
  have Fp := Lib.hid fp
  have Fq := Lib.hid fq
  have Fn := Lib.hid (mul_pow fp fq)
  have HphiN := Lib.hid (show (p - 1) * (q - 1) ≤ p * q from Nat.mul_le_mul (Nat.sub_le _ _) (Nat.sub_le _ _))
  have Hphi := Lib.hid (show 0 < (p - 1) * (q - 1) from Nat.mul_pos (by have := Hp2.out; omega) (by have := Hq2.out; omega))
  have Hg := Lib.hid h5
  have Hpw := Lib.hid h4
  have HR := Lib.hid (fun d (hd : d < p * q) => (show rightK (p * q) e d = false by
    unfold rightK at h6 ⊢
    rw [decide_eq_false_iff_not] at h6 ⊢
    exact fun h => h6 ⟨h.1, h.2.1, h.2.2.1, h.2.2.2.1, h.2.2.2.2.1, h.2.2.2.2.2.1, by omega⟩))
  clear h1 h2 h3 h4 h5 h6 fp fq
  go_enter Tryz.func8, Tryz.ntmps8
  go_wp2_with fail
  rw [← e0]
  clear e0
  refine (Hm1.out _ (Below.refl _ _)).mono ?_
  rintro r w1 ⟨rfl, b1⟩
  go_wp2_with fail
  refine (Hm2.out _ b1).mono ?_
  rintro r w2 ⟨rfl, b2⟩
  have B2 := bthen b1 b2
  have hc := cmp_any (hp.up B2) (hq.up B2)
  rw [ep, eq] at hc
  obtain ⟨s, hse⟩ : ∃ s, sgn (p : Int) (q : Int) = s := ⟨_, rfl⟩
  rw [hse] at hs hc
  have Hc := Lib.hid hc
  clear hc hse
  have hs' : (s == 0) = false := by simpa using hs
  go_wp2_with fail
  refine Hc.out.mono ?_
  rintro r w3 ⟨rfl, d3, rfl⟩
  have B3 := bdr B2 d3
  go_wp2_with fail
  refine (Hm3.out _).mono ?_
  rintro r w4 ⟨rfl, rfl⟩
  go_wp2_with fail
  refine (of_any e _ rfl he _).mono ?_
  rintro r w5 ⟨A5, n5, c5, x5, rfl, r5⟩
  have v5 := r5.is
  have l5 : n5 ≤ 1 := r5.le (by omega)
  have B5 := bthen B3 r5.bel
  go_wp2_with fail
  refine (klessOne_any (hp.up B5) ep (by omega) (by have := Hp2.out; omega)).mono ?_
  rintro r w6 ⟨A6, n6, c6, x6, rfl, r6⟩
  have v6 := r6.is
  have l6 : n6 ≤ 20 := r6.le (Nat.lt_of_le_of_lt (Nat.sub_le _ _) Fp.out)
  have B6 := bthen B5 r6.bel
  go_wp2_with fail
  refine (klessOne_any (hq.up B6) eq (by omega) (by have := Hq2.out; omega)).mono ?_
  rintro r w7 ⟨A7, n7, c7, x7, rfl, r7⟩
  have v7 := r7.is
  have l7 : n7 ≤ 20 := r7.le (Nat.lt_of_le_of_lt (Nat.sub_le _ _) Fq.out)
  have B7 := bthen B6 r7.bel
  go_wp2_with fail
  refine (mul_any (r6.nt.up r7.bel) r7.nt (by omega) (by omega)).mono ?_
  rintro r w8 ⟨A8, n8, c8, x8, rfl, r8⟩
  rw [v6, v7] at r8
  have v8 := r8.is
  have l8 : n8 ≤ 40 := r8.le (Nat.lt_of_le_of_lt HphiN.out Fn.out)
  have B8 := bthen B7 r8.bel
  have m5 := ((r5.nt.up r6.bel).up r7.bel).up r8.bel
  go_wp2_with fail
  refine (inverse_yes m5 r8.nt (by omega) (by omega) (by rw [v8]; exact Hphi.out) (by rw [v5, v8]; exact Hg.out)).mono ?_
  rintro r w9 ⟨d, hd, hde, A9, n9, c9, x9, rfl, r9⟩
  rw [v8] at hd
  have Hd := Lib.hid hd
  clear hde hd
  have v9 := r9.is
  have l9 : n9 ≤ 40 := r9.le (Nat.lt_trans Hd.out (Nat.lt_of_le_of_lt HphiN.out Fn.out))
  have B9 := bthen B8 r9.bel
  go_wp2_with fail
  refine (mul_any (hp.up B9) (hq.up B9) (by omega) (by omega)).mono ?_
  rintro r w10 ⟨A10, n10, c10, x10, rfl, r10⟩
  rw [ep, eq] at r10
  have l10 : n10 ≤ 40 := r10.le Fn.out
  have B10 := bthen B9 r10.bel
  go_wp2_with fail
  refine (of_any e _ rfl he _).mono ?_
  rintro r w11 ⟨A11, n11, c11, x11, rfl, r11⟩
  have l11 : n11 ≤ 1 := r11.le (by omega)
  have B11 := bthen B10 r11.bel
  obtain ⟨w12, e12⟩ : ∃ w12, w12 = w11.alloc (.cells #[Value.slice A10 n10 c10, .slice A11 n11 c11, .slice A9 n9 c9] 26) := ⟨_, rfl⟩
  obtain ⟨hb12, b12'⟩ := box_new e12
  have B12 := bthen B11 b12'
  have t1 := (r10.nt.up r11.bel).up b12'
  have t2 := r11.nt.up b12'
  have t3 := ((r9.nt.up r10.bel).up r11.bel).up b12'
  have hk : Pr w12 (.agg #[.slice A10 n10 c10, .slice A11 n11 c11, .slice A9 n9 c9]) (p * q) e d :=
    ⟨_, _, _, _, _, _, _, _, _, _, _, _, rfl, t1, r10.is, by omega, t2, r11.is, by omega, t3, r9.is, by omega⟩
  have hr := kright_bad hk (HR.out d (Nat.lt_of_lt_of_le Hd.out HphiN.out))
  have Hr := Lib.hid hr
  clear hr hk
  go_wp2_with fail
  rw [← e12]
  clear e12
  refine Hr.out.mono ?_
  rintro r w13 ⟨rfl, b13⟩
  have B13 := bthen B12 b13
  have hx := ((B13).block w.heap.size hs0).trans hx0
  obtain ⟨q0, q1, q2, q3, q4, q5⟩ := three_cells hx
  have Bz := Lib.hid (bthen b0 (B13))
  go_wp2_with fail
  have hg2 := three_fin (v1 := .slice none 0 0) (v2 := .slice none 0 0) (v3 := .slice none 0 0) hx
  refine bodyPost_ret (v := .tuple #[.agg #[.slice none 0 0, .slice none 0 0, .slice none 0 0], .int .i64 50]) (by rw [results_cell_tmp rfl]; simp [asAddr, run_loadVar_row _ w.heap.size 26 26 _ (0, 0) _ hg2 Tryz.underlying26 rfl (by kernel_rfl)]) rfl ?_
  exact ⟨rfl, ((Bz.out.setCell (p := ⟨w.heap.size, 0, none⟩) (by simp) (.slice none 0 0)).setCell (p := ⟨w.heap.size, 1, none⟩) (by simp) (.slice none 0 0)).setCell (p := ⟨w.heap.size, 2, none⟩) (by simp) (.slice none 0 0)⟩
end Go.Proofs.YtkhlmcknbangfaaGreatDoor
namespace Go.Proofs.YtkhlmcknbangfaaGreatDoor
open Go.RowKit
set_option linter.unusedVariables false
set_option linter.unusedSimpArgs false
set_option maxRecDepth 100000
theorem rmuls_any {w : World} {A A2 : Option Addr} {n c n2 c2 : Nat} {xs ys : List Nat} (h : Nt w w.heap.size A n c xs) (h2 : Nt w w.heap.size A2 n2 c2 ys) (hn : n ≤ 1000) (hn2 : n2 ≤ 1000) :
    Calls Tryz.prog 40 #[.slice A n c, .slice A2 n2 c2] w (RetS (val 18446744073709551616 xs * val 18446744073709551616 ys) w) :=
  (Rn.rmul_any h h2 (by omega) (by omega)).mono fun e w' ⟨A, n, c, xs, he, h1, h2, h3, h4⟩ => ⟨A, n, c, xs, he, ⟨h1, h2, h3, h4⟩⟩
set_option maxHeartbeats 1000000 in
theorem rless05_any {w : World} {A : Option Addr} {n c N : Nat} {xs : List Nat} (h : Nt w w.heap.size A n c xs) (hN : val 18446744073709551616 xs = N) (hn : n ≤ 100000) (h1 : 1 ≤ N) :
    Calls Tryz.prog 41 #[.slice A n c] w (RetS (N - 1) w) := by
  go_enter Tryz.func41, Tryz.ntmps41
  go_wp2_with fail
  refine (rsmall_any 1 (by omega) _).mono ?_
  rintro e w1 ⟨A1, n1, c1, x1, rfl, r1⟩
  have l1 : n1 ≤ 1 := r1.le (by omega)
  have hs := Rn.rsub_any (h.up r1.bel) r1.nt (by omega) (by omega)
  rw [hN, r1.is] at hs
  have Hs := Lib.hid hs
  clear hs
  go_wp2_with fail
  refine Hs.out.mono ?_
  rintro e w2 (⟨_, A2, n2, c2, x2, rfl, k1, k2, k3, k4⟩ | ⟨hlt, _⟩)
  · go_wp2_with fail
    go_ret
    exact ⟨_, _, _, _, rfl, ⟨k1, k2, k3, bthen r1.bel k4⟩⟩
  · omega
set_option maxHeartbeats 4000000 in
theorem rmake_b1 {w : World} {Ap Aq : Option Addr} {np cp nq cq p q : Nat} {xp xq : List Nat} (hp : Nt w w.heap.size Ap np cp xp) (hq : Nt w w.heap.size Aq nq cq xq) (ep : val 18446744073709551616 xp = p) (eq : val 18446744073709551616 xq = q)
    (lp : np ≤ 20) (lq : nq ≤ 20) (e : Nat) (he : e < 18446744073709551616) (h1 : 512 < bl p) :
    Calls Tryz.prog 9 #[.slice Ap np cp, .slice Aq nq cq, .int .u64 (e : Int)] w (MakeBad w) := by
  obtain ⟨w0, e0⟩ : ∃ w0, w0 = w.alloc (.cells #[Value.slice none 0 0, .slice none 0 0, .slice none 0 0] 26) := ⟨_, rfl⟩
  have hx0 : w0.heap[w.heap.size]? = some (.cells #[Value.slice none 0 0, .slice none 0 0, .slice none 0 0] 26 (0, 0)) := e0 ▸ heap_alloc_new w _
  have hs0 : w.heap.size < w0.heap.size := by rw [e0]; simp
  have b0 : Below w.heap.size w w0 := e0 ▸ (Below.refl _ w).alloc (Nat.le_refl _) _
  have hp := hp.up b0
  have hq := hq.up b0
  have hbp := fun (W : World) (b : Below w0.heap.size w0 W) => Rn.rbits_any (hp.up b) (by omega)
  have hbq := fun (W : World) (b : Below w0.heap.size w0 W) => Rn.rbits_any (hq.up b) (by omega)
  rw [ep] at hbp
  rw [eq] at hbq
  have Hbp := Lib.hid hbp
  have Hbq := Lib.hid hbq
  clear hbp hbq
  generalize bl p = kp at *
  generalize bl q = kq at *
  have gp : 512 < (kp : Int) := by omega
  clear h1
  go_enter Tryz.func9, Tryz.ntmps9
  go_wp2_with fail
  rw [← e0]
  clear e0
  refine (Hbp.out _ (Below.refl _ _)).mono ?_
  rintro r w1 ⟨rfl, b1⟩
  have hx := ((b1).block w.heap.size hs0).trans hx0
  obtain ⟨q0, q1, q2, q3, q4, q5⟩ := three_cells hx
  have Bz := Lib.hid (bthen b0 (b1))
  go_wp2_with fail
  have hg2 := three_fin (v1 := .slice none 0 0) (v2 := .slice none 0 0) (v3 := .slice none 0 0) hx
  refine bodyPost_ret (v := .tuple #[.agg #[.slice none 0 0, .slice none 0 0, .slice none 0 0], .int .i64 50]) (by rw [results_cell_tmp rfl]; simp [asAddr, run_loadVar_row _ w.heap.size 26 26 _ (0, 0) _ hg2 Tryz.underlying26 rfl (by kernel_rfl)]) rfl ?_
  exact ⟨rfl, ((Bz.out.setCell (p := ⟨w.heap.size, 0, none⟩) (by simp) (.slice none 0 0)).setCell (p := ⟨w.heap.size, 1, none⟩) (by simp) (.slice none 0 0)).setCell (p := ⟨w.heap.size, 2, none⟩) (by simp) (.slice none 0 0)⟩
set_option maxHeartbeats 4000000 in
theorem rmake_b2 {w : World} {Ap Aq : Option Addr} {np cp nq cq p q : Nat} {xp xq : List Nat} (hp : Nt w w.heap.size Ap np cp xp) (hq : Nt w w.heap.size Aq nq cq xq) (ep : val 18446744073709551616 xp = p) (eq : val 18446744073709551616 xq = q)
    (lp : np ≤ 20) (lq : nq ≤ 20) (e : Nat) (he : e < 18446744073709551616) (h1 : bl p ≤ 512) (h2 : 512 < bl q) :
    Calls Tryz.prog 9 #[.slice Ap np cp, .slice Aq nq cq, .int .u64 (e : Int)] w (MakeBad w) := by
  obtain ⟨w0, e0⟩ : ∃ w0, w0 = w.alloc (.cells #[Value.slice none 0 0, .slice none 0 0, .slice none 0 0] 26) := ⟨_, rfl⟩
  have hx0 : w0.heap[w.heap.size]? = some (.cells #[Value.slice none 0 0, .slice none 0 0, .slice none 0 0] 26 (0, 0)) := e0 ▸ heap_alloc_new w _
  have hs0 : w.heap.size < w0.heap.size := by rw [e0]; simp
  have b0 : Below w.heap.size w w0 := e0 ▸ (Below.refl _ w).alloc (Nat.le_refl _) _
  have hp := hp.up b0
  have hq := hq.up b0
  have hbp := fun (W : World) (b : Below w0.heap.size w0 W) => Rn.rbits_any (hp.up b) (by omega)
  have hbq := fun (W : World) (b : Below w0.heap.size w0 W) => Rn.rbits_any (hq.up b) (by omega)
  rw [ep] at hbp
  rw [eq] at hbq
  have Hbp := Lib.hid hbp
  have Hbq := Lib.hid hbq
  clear hbp hbq
  generalize bl p = kp at *
  generalize bl q = kq at *
  have gp : (512 < (kp : Int)) = False := by simp only [eq_iff_iff, iff_false]; omega
  have gq : 512 < (kq : Int) := by omega
  clear h1 h2
  go_enter Tryz.func9, Tryz.ntmps9
  go_wp2_with fail
  rw [← e0]
  clear e0
  refine (Hbp.out _ (Below.refl _ _)).mono ?_
  rintro r w1 ⟨rfl, b1⟩
  go_wp2_with fail
  refine (Hbq.out _ b1).mono ?_
  rintro r w2 ⟨rfl, b2⟩
  have B2 := bthen b1 b2
  have hx := ((B2).block w.heap.size hs0).trans hx0
  obtain ⟨q0, q1, q2, q3, q4, q5⟩ := three_cells hx
  have Bz := Lib.hid (bthen b0 (B2))
  go_wp2_with fail
  have hg2 := three_fin (v1 := .slice none 0 0) (v2 := .slice none 0 0) (v3 := .slice none 0 0) hx
  refine bodyPost_ret (v := .tuple #[.agg #[.slice none 0 0, .slice none 0 0, .slice none 0 0], .int .i64 50]) (by rw [results_cell_tmp rfl]; simp [asAddr, run_loadVar_row _ w.heap.size 26 26 _ (0, 0) _ hg2 Tryz.underlying26 rfl (by kernel_rfl)]) rfl ?_
  exact ⟨rfl, ((Bz.out.setCell (p := ⟨w.heap.size, 0, none⟩) (by simp) (.slice none 0 0)).setCell (p := ⟨w.heap.size, 1, none⟩) (by simp) (.slice none 0 0)).setCell (p := ⟨w.heap.size, 2, none⟩) (by simp) (.slice none 0 0)⟩
set_option maxHeartbeats 4000000 in
theorem rmake_b3 {w : World} {Ap Aq : Option Addr} {np cp nq cq p q : Nat} {xp xq : List Nat} (hp : Nt w w.heap.size Ap np cp xp) (hq : Nt w w.heap.size Aq nq cq xq) (ep : val 18446744073709551616 xp = p) (eq : val 18446744073709551616 xq = q)
    (lp : np ≤ 20) (lq : nq ≤ 20) (e : Nat) (he : e < 18446744073709551616) (h1 : bl p ≤ 512) (h2 : bl q ≤ 512) (h3 : p = q) :
    Calls Tryz.prog 9 #[.slice Ap np cp, .slice Aq nq cq, .int .u64 (e : Int)] w (MakeBad w) := by
  obtain ⟨w0, e0⟩ : ∃ w0, w0 = w.alloc (.cells #[Value.slice none 0 0, .slice none 0 0, .slice none 0 0] 26) := ⟨_, rfl⟩
  have hx0 : w0.heap[w.heap.size]? = some (.cells #[Value.slice none 0 0, .slice none 0 0, .slice none 0 0] 26 (0, 0)) := e0 ▸ heap_alloc_new w _
  have hs0 : w.heap.size < w0.heap.size := by rw [e0]; simp
  have b0 : Below w.heap.size w w0 := e0 ▸ (Below.refl _ w).alloc (Nat.le_refl _) _
  have hp := hp.up b0
  have hq := hq.up b0
  have hbp := fun (W : World) (b : Below w0.heap.size w0 W) => Rn.rbits_any (hp.up b) (by omega)
  have hbq := fun (W : World) (b : Below w0.heap.size w0 W) => Rn.rbits_any (hq.up b) (by omega)
  rw [ep] at hbp
  rw [eq] at hbq
  have hs : sgn (p : Int) (q : Int) = 0 := by subst h3; simp [sgn]
  clear h3
  have Hbp := Lib.hid hbp
  have Hbq := Lib.hid hbq
  clear hbp hbq
  generalize bl p = kp at *
  generalize bl q = kq at *
  have gp : (512 < (kp : Int)) = False := by simp only [eq_iff_iff, iff_false]; omega
  have gq : (512 < (kq : Int)) = False := by simp only [eq_iff_iff, iff_false]; omega
  clear h1 h2
  go_enter Tryz.func9, Tryz.ntmps9
  go_wp2_with fail
  rw [← e0]
  clear e0
  refine (Hbp.out _ (Below.refl _ _)).mono ?_
  rintro r w1 ⟨rfl, b1⟩
  go_wp2_with fail
  refine (Hbq.out _ b1).mono ?_
  rintro r w2 ⟨rfl, b2⟩
  have B2 := bthen b1 b2
  have hc := Rn.rcmp_any (hp.up B2) (hq.up B2) (by omega) (by omega)
  rw [ep, eq] at hc
  obtain ⟨s, hse⟩ : ∃ s, sgn (p : Int) (q : Int) = s := ⟨_, rfl⟩
  rw [hse] at hs hc
  have Hc := Lib.hid hc
  clear hc hse
  subst hs
  go_wp2_with fail
  refine Hc.out.mono ?_
  rintro r w3 ⟨rfl, b3⟩
  have B3 := bthen B2 b3
  have hx := ((B3).block w.heap.size hs0).trans hx0
  obtain ⟨q0, q1, q2, q3, q4, q5⟩ := three_cells hx
  have Bz := Lib.hid (bthen b0 (B3))
  go_wp2_with fail
  have hg2 := three_fin (v1 := .slice none 0 0) (v2 := .slice none 0 0) (v3 := .slice none 0 0) hx
  refine bodyPost_ret (v := .tuple #[.agg #[.slice none 0 0, .slice none 0 0, .slice none 0 0], .int .i64 50]) (by rw [results_cell_tmp rfl]; simp [asAddr, run_loadVar_row _ w.heap.size 26 26 _ (0, 0) _ hg2 Tryz.underlying26 rfl (by kernel_rfl)]) rfl ?_
  exact ⟨rfl, ((Bz.out.setCell (p := ⟨w.heap.size, 0, none⟩) (by simp) (.slice none 0 0)).setCell (p := ⟨w.heap.size, 1, none⟩) (by simp) (.slice none 0 0)).setCell (p := ⟨w.heap.size, 2, none⟩) (by simp) (.slice none 0 0)⟩
set_option maxHeartbeats 4000000 in
theorem rmake_b4 {w : World} {Ap Aq : Option Addr} {np cp nq cq p q : Nat} {xp xq : List Nat} (hp : Nt w w.heap.size Ap np cp xp) (hq : Nt w w.heap.size Aq nq cq xq) (ep : val 18446744073709551616 xp = p) (eq : val 18446744073709551616 xq = q)
    (lp : np ≤ 20) (lq : nq ≤ 20) (e : Nat) (he : e < 18446744073709551616) (h1 : bl p ≤ 512) (h2 : bl q ≤ 512) (h3 : p ≠ q) (h4 : e % 2 = 0) :
    Calls Tryz.prog 9 #[.slice Ap np cp, .slice Aq nq cq, .int .u64 (e : Int)] w (MakeBad w) := by
  obtain ⟨w0, e0⟩ : ∃ w0, w0 = w.alloc (.cells #[Value.slice none 0 0, .slice none 0 0, .slice none 0 0] 26) := ⟨_, rfl⟩
  have hx0 : w0.heap[w.heap.size]? = some (.cells #[Value.slice none 0 0, .slice none 0 0, .slice none 0 0] 26 (0, 0)) := e0 ▸ heap_alloc_new w _
  have hs0 : w.heap.size < w0.heap.size := by rw [e0]; simp
  have b0 : Below w.heap.size w w0 := e0 ▸ (Below.refl _ w).alloc (Nat.le_refl _) _
  have hp := hp.up b0
  have hq := hq.up b0
  have hbp := fun (W : World) (b : Below w0.heap.size w0 W) => Rn.rbits_any (hp.up b) (by omega)
  have hbq := fun (W : World) (b : Below w0.heap.size w0 W) => Rn.rbits_any (hq.up b) (by omega)
  rw [ep] at hbp
  rw [eq] at hbq
  have hs : sgn (p : Int) (q : Int) ≠ 0 := sgn_ne h3
  have Hbp := Lib.hid hbp
  have Hbq := Lib.hid hbq
  clear hbp hbq
  generalize bl p = kp at *
  generalize bl q = kq at *
  have gp : (512 < (kp : Int)) = False := by simp only [eq_iff_iff, iff_false]; omega
  have gq : (512 < (kq : Int)) = False := by simp only [eq_iff_iff, iff_false]; omega
  clear h1 h2
  have hm2 : ((e : Int).tmod 2) = 0 := by rw [Int.tmod_eq_emod_of_nonneg (by omega)]; omega
  have hm3 : ((e : Int) % 2) = 0 := by omega
  clear h3 h4
  go_enter Tryz.func9, Tryz.ntmps9
  go_wp2_with fail
  rw [← e0]
  clear e0
  refine (Hbp.out _ (Below.refl _ _)).mono ?_
  rintro r w1 ⟨rfl, b1⟩
  go_wp2_with fail
  refine (Hbq.out _ b1).mono ?_
  rintro r w2 ⟨rfl, b2⟩
  have B2 := bthen b1 b2
  have hc := Rn.rcmp_any (hp.up B2) (hq.up B2) (by omega) (by omega)
  rw [ep, eq] at hc
  obtain ⟨s, hse⟩ : ∃ s, sgn (p : Int) (q : Int) = s := ⟨_, rfl⟩
  rw [hse] at hs hc
  have Hc := Lib.hid hc
  clear hc hse
  have hs' : (s == 0) = false := by simpa using hs
  go_wp2_with fail
  refine Hc.out.mono ?_
  rintro r w3 ⟨rfl, b3⟩
  have B3 := bthen B2 b3
  have hx := ((B3).block w.heap.size hs0).trans hx0
  obtain ⟨q0, q1, q2, q3, q4, q5⟩ := three_cells hx
  have Bz := Lib.hid (bthen b0 (B3))
  go_wp2_with fail
  have hg2 := three_fin (v1 := .slice none 0 0) (v2 := .slice none 0 0) (v3 := .slice none 0 0) hx
  refine bodyPost_ret (v := .tuple #[.agg #[.slice none 0 0, .slice none 0 0, .slice none 0 0], .int .i64 50]) (by rw [results_cell_tmp rfl]; simp [asAddr, run_loadVar_row _ w.heap.size 26 26 _ (0, 0) _ hg2 Tryz.underlying26 rfl (by kernel_rfl)]) rfl ?_
  exact ⟨rfl, ((Bz.out.setCell (p := ⟨w.heap.size, 0, none⟩) (by simp) (.slice none 0 0)).setCell (p := ⟨w.heap.size, 1, none⟩) (by simp) (.slice none 0 0)).setCell (p := ⟨w.heap.size, 2, none⟩) (by simp) (.slice none 0 0)⟩
set_option maxHeartbeats 4000000 in
theorem rmake_b5 {w : World} {Ap Aq : Option Addr} {np cp nq cq p q : Nat} {xp xq : List Nat} (hp : Nt w w.heap.size Ap np cp xp) (hq : Nt w w.heap.size Aq nq cq xq) (ep : val 18446744073709551616 xp = p) (eq : val 18446744073709551616 xq = q)
    (lp : np ≤ 20) (lq : nq ≤ 20) (e : Nat) (he : e < 18446744073709551616) (h1 : bl p ≤ 512) (h2 : bl q ≤ 512) (h3 : p ≠ q) (h4 : e % 2 = 1) (h5 : e < 3) :
    Calls Tryz.prog 9 #[.slice Ap np cp, .slice Aq nq cq, .int .u64 (e : Int)] w (MakeBad w) := by
  obtain ⟨w0, e0⟩ : ∃ w0, w0 = w.alloc (.cells #[Value.slice none 0 0, .slice none 0 0, .slice none 0 0] 26) := ⟨_, rfl⟩
  have hx0 : w0.heap[w.heap.size]? = some (.cells #[Value.slice none 0 0, .slice none 0 0, .slice none 0 0] 26 (0, 0)) := e0 ▸ heap_alloc_new w _
  have hs0 : w.heap.size < w0.heap.size := by rw [e0]; simp
  have b0 : Below w.heap.size w w0 := e0 ▸ (Below.refl _ w).alloc (Nat.le_refl _) _
  have hp := hp.up b0
  have hq := hq.up b0
  have hbp := fun (W : World) (b : Below w0.heap.size w0 W) => Rn.rbits_any (hp.up b) (by omega)
  have hbq := fun (W : World) (b : Below w0.heap.size w0 W) => Rn.rbits_any (hq.up b) (by omega)
  rw [ep] at hbp
  rw [eq] at hbq
  have hs : sgn (p : Int) (q : Int) ≠ 0 := sgn_ne h3
  have Hbp := Lib.hid hbp
  have Hbq := Lib.hid hbq
  clear hbp hbq
  generalize bl p = kp at *
  generalize bl q = kq at *
  have gp : (512 < (kp : Int)) = False := by simp only [eq_iff_iff, iff_false]; omega
  have gq : (512 < (kq : Int)) = False := by simp only [eq_iff_iff, iff_false]; omega
  clear h1 h2
  have hm2 : ((e : Int).tmod 2) = 1 := by rw [Int.tmod_eq_emod_of_nonneg (by omega)]; omega
  have hm3 : ((e : Int) % 2) = 1 := by omega
  have h6 : (e : Int) < 3 := by omega
  clear h3 h4 h5
  go_enter Tryz.func9, Tryz.ntmps9
  go_wp2_with fail
  rw [← e0]
  clear e0
  refine (Hbp.out _ (Below.refl _ _)).mono ?_
  rintro r w1 ⟨rfl, b1⟩
  go_wp2_with fail
  refine (Hbq.out _ b1).mono ?_
  rintro r w2 ⟨rfl, b2⟩
  have B2 := bthen b1 b2
  have hc := Rn.rcmp_any (hp.up B2) (hq.up B2) (by omega) (by omega)
  rw [ep, eq] at hc
  obtain ⟨s, hse⟩ : ∃ s, sgn (p : Int) (q : Int) = s := ⟨_, rfl⟩
  rw [hse] at hs hc
  have Hc := Lib.hid hc
  clear hc hse
  have hs' : (s == 0) = false := by simpa using hs
  go_wp2_with fail
  refine Hc.out.mono ?_
  rintro r w3 ⟨rfl, b3⟩
  have B3 := bthen B2 b3
  have hx := ((B3).block w.heap.size hs0).trans hx0
  obtain ⟨q0, q1, q2, q3, q4, q5⟩ := three_cells hx
  have Bz := Lib.hid (bthen b0 (B3))
  go_wp2_with fail
  have hg2 := three_fin (v1 := .slice none 0 0) (v2 := .slice none 0 0) (v3 := .slice none 0 0) hx
  refine bodyPost_ret (v := .tuple #[.agg #[.slice none 0 0, .slice none 0 0, .slice none 0 0], .int .i64 50]) (by rw [results_cell_tmp rfl]; simp [asAddr, run_loadVar_row _ w.heap.size 26 26 _ (0, 0) _ hg2 Tryz.underlying26 rfl (by kernel_rfl)]) rfl ?_
  exact ⟨rfl, ((Bz.out.setCell (p := ⟨w.heap.size, 0, none⟩) (by simp) (.slice none 0 0)).setCell (p := ⟨w.heap.size, 1, none⟩) (by simp) (.slice none 0 0)).setCell (p := ⟨w.heap.size, 2, none⟩) (by simp) (.slice none 0 0)⟩
set_option maxHeartbeats 4000000 in
theorem rmake_b6 {w : World} {Ap Aq : Option Addr} {np cp nq cq p q : Nat} {xp xq : List Nat} (hp : Nt w w.heap.size Ap np cp xp) (hq : Nt w w.heap.size Aq nq cq xq) (ep : val 18446744073709551616 xp = p) (eq : val 18446744073709551616 xq = q)
    (lp : np ≤ 20) (lq : nq ≤ 20) (e : Nat) (he : e < 18446744073709551616) (h1 : bl p ≤ 512) (h2 : bl q ≤ 512) (h3 : p ≠ q) (h4 : e % 2 = 1) (h5 : 3 ≤ e) (h7 : primeN p b12 = false) :
    Calls Tryz.prog 9 #[.slice Ap np cp, .slice Aq nq cq, .int .u64 (e : Int)] w (MakeBad w) := by
  obtain ⟨w0, e0⟩ : ∃ w0, w0 = w.alloc (.cells #[Value.slice none 0 0, .slice none 0 0, .slice none 0 0] 26) := ⟨_, rfl⟩
  have hx0 : w0.heap[w.heap.size]? = some (.cells #[Value.slice none 0 0, .slice none 0 0, .slice none 0 0] 26 (0, 0)) := e0 ▸ heap_alloc_new w _
  have hs0 : w.heap.size < w0.heap.size := by rw [e0]; simp
  have b0 : Below w.heap.size w w0 := e0 ▸ (Below.refl _ w).alloc (Nat.le_refl _) _
  have hp := hp.up b0
  have hq := hq.up b0
  have hbp := fun (W : World) (b : Below w0.heap.size w0 W) => Rn.rbits_any (hp.up b) (by omega)
  have hbq := fun (W : World) (b : Below w0.heap.size w0 W) => Rn.rbits_any (hq.up b) (by omega)
  rw [ep] at hbp
  rw [eq] at hbq
  have hs : sgn (p : Int) (q : Int) ≠ 0 := sgn_ne h3
  have H7 := Lib.hid h7
  clear h7
  have Hbp := Lib.hid hbp
  have Hbq := Lib.hid hbq
  clear hbp hbq
  generalize bl p = kp at *
  generalize bl q = kq at *
  have gp : (512 < (kp : Int)) = False := by simp only [eq_iff_iff, iff_false]; omega
  have gq : (512 < (kq : Int)) = False := by simp only [eq_iff_iff, iff_false]; omega
  clear h1 h2
  have hm2 : ((e : Int).tmod 2) = 1 := by rw [Int.tmod_eq_emod_of_nonneg (by omega)]; omega
  have hm3 : ((e : Int) % 2) = 1 := by omega
  have h6 : ((e : Int) < 3) = False := by simp only [eq_iff_iff, iff_false]; omega
  clear h3 h4 h5
  go_enter Tryz.func9, Tryz.ntmps9
  go_wp2_with fail
  rw [← e0]
  clear e0
  refine (Hbp.out _ (Below.refl _ _)).mono ?_
  rintro r w1 ⟨rfl, b1⟩
  go_wp2_with fail
  refine (Hbq.out _ b1).mono ?_
  rintro r w2 ⟨rfl, b2⟩
  have B2 := bthen b1 b2
  have hc := Rn.rcmp_any (hp.up B2) (hq.up B2) (by omega) (by omega)
  rw [ep, eq] at hc
  obtain ⟨s, hse⟩ : ∃ s, sgn (p : Int) (q : Int) = s := ⟨_, rfl⟩
  rw [hse] at hs hc
  have Hc := Lib.hid hc
  clear hc hse
  have hs' : (s == 0) = false := by simpa using hs
  go_wp2_with fail
  refine Hc.out.mono ?_
  rintro r w3 ⟨rfl, b3⟩
  have B3 := bthen B2 b3
  go_wp2_with fail
  refine (rbases_any _).mono ?_
  rintro r w4 ⟨g4, rfl, hB4, b4⟩
  have B4 := bthen B3 b4
  have hpr := rprime_any (hp.up B4) hB4 (by omega) (by omega)
  rw [ep] at hpr
  have Hpr := Lib.hid hpr
  clear hpr hB4
  rw [H7.out] at Hpr
  go_wp2_with fail
  refine Hpr.out.mono ?_
  rintro r w5 ⟨rfl, b5⟩
  have B5 := bthen B4 b5
  have hx := ((B5).block w.heap.size hs0).trans hx0
  obtain ⟨q0, q1, q2, q3, q4, q5⟩ := three_cells hx
  have Bz := Lib.hid (bthen b0 (B5))
  go_wp2_with fail
  have hg2 := three_fin (v1 := .slice none 0 0) (v2 := .slice none 0 0) (v3 := .slice none 0 0) hx
  refine bodyPost_ret (v := .tuple #[.agg #[.slice none 0 0, .slice none 0 0, .slice none 0 0], .int .i64 50]) (by rw [results_cell_tmp rfl]; simp [asAddr, run_loadVar_row _ w.heap.size 26 26 _ (0, 0) _ hg2 Tryz.underlying26 rfl (by kernel_rfl)]) rfl ?_
  exact ⟨rfl, ((Bz.out.setCell (p := ⟨w.heap.size, 0, none⟩) (by simp) (.slice none 0 0)).setCell (p := ⟨w.heap.size, 1, none⟩) (by simp) (.slice none 0 0)).setCell (p := ⟨w.heap.size, 2, none⟩) (by simp) (.slice none 0 0)⟩
set_option maxHeartbeats 4000000 in
theorem rmake_b7 {w : World} {Ap Aq : Option Addr} {np cp nq cq p q : Nat} {xp xq : List Nat} (hp : Nt w w.heap.size Ap np cp xp) (hq : Nt w w.heap.size Aq nq cq xq) (ep : val 18446744073709551616 xp = p) (eq : val 18446744073709551616 xq = q)
    (lp : np ≤ 20) (lq : nq ≤ 20) (e : Nat) (he : e < 18446744073709551616) (h1 : bl p ≤ 512) (h2 : bl q ≤ 512) (h3 : p ≠ q) (h4 : e % 2 = 1) (h5 : 3 ≤ e) (h7 : primeN p b12 = true) (h8 : primeN q b12 = false) :
    Calls Tryz.prog 9 #[.slice Ap np cp, .slice Aq nq cq, .int .u64 (e : Int)] w (MakeBad w) := by
  obtain ⟨w0, e0⟩ : ∃ w0, w0 = w.alloc (.cells #[Value.slice none 0 0, .slice none 0 0, .slice none 0 0] 26) := ⟨_, rfl⟩
  have hx0 : w0.heap[w.heap.size]? = some (.cells #[Value.slice none 0 0, .slice none 0 0, .slice none 0 0] 26 (0, 0)) := e0 ▸ heap_alloc_new w _
  have hs0 : w.heap.size < w0.heap.size := by rw [e0]; simp
  have b0 : Below w.heap.size w w0 := e0 ▸ (Below.refl _ w).alloc (Nat.le_refl _) _
  have hp := hp.up b0
  have hq := hq.up b0
  have hbp := fun (W : World) (b : Below w0.heap.size w0 W) => Rn.rbits_any (hp.up b) (by omega)
  have hbq := fun (W : World) (b : Below w0.heap.size w0 W) => Rn.rbits_any (hq.up b) (by omega)
  rw [ep] at hbp
  rw [eq] at hbq
  have hs : sgn (p : Int) (q : Int) ≠ 0 := sgn_ne h3
  have H7 := Lib.hid h7
  have H8 := Lib.hid h8
  clear h7 h8
  have Hbp := Lib.hid hbp
  have Hbq := Lib.hid hbq
  clear hbp hbq
  generalize bl p = kp at *
  generalize bl q = kq at *
  have gp : (512 < (kp : Int)) = False := by simp only [eq_iff_iff, iff_false]; omega
  have gq : (512 < (kq : Int)) = False := by simp only [eq_iff_iff, iff_false]; omega
  clear h1 h2
  have hm2 : ((e : Int).tmod 2) = 1 := by rw [Int.tmod_eq_emod_of_nonneg (by omega)]; omega
  have hm3 : ((e : Int) % 2) = 1 := by omega
  have h6 : ((e : Int) < 3) = False := by simp only [eq_iff_iff, iff_false]; omega
  clear h3 h4 h5
  go_enter Tryz.func9, Tryz.ntmps9
  go_wp2_with fail
  rw [← e0]
  clear e0
  refine (Hbp.out _ (Below.refl _ _)).mono ?_
  rintro r w1 ⟨rfl, b1⟩
  go_wp2_with fail
  refine (Hbq.out _ b1).mono ?_
  rintro r w2 ⟨rfl, b2⟩
  have B2 := bthen b1 b2
  have hc := Rn.rcmp_any (hp.up B2) (hq.up B2) (by omega) (by omega)
  rw [ep, eq] at hc
  obtain ⟨s, hse⟩ : ∃ s, sgn (p : Int) (q : Int) = s := ⟨_, rfl⟩
  rw [hse] at hs hc
  have Hc := Lib.hid hc
  clear hc hse
  have hs' : (s == 0) = false := by simpa using hs
  go_wp2_with fail
  refine Hc.out.mono ?_
  rintro r w3 ⟨rfl, b3⟩
  have B3 := bthen B2 b3
  go_wp2_with fail
  refine (rbases_any _).mono ?_
  rintro r w4 ⟨g4, rfl, hB4, b4⟩
  have B4 := bthen B3 b4
  have hpr := rprime_any (hp.up B4) hB4 (by omega) (by omega)
  rw [ep] at hpr
  have Hpr := Lib.hid hpr
  clear hpr hB4
  rw [H7.out] at Hpr
  go_wp2_with fail
  refine Hpr.out.mono ?_
  rintro r w5 ⟨rfl, b5⟩
  have B5 := bthen B4 b5
  go_wp2_with fail
  refine (rbases_any _).mono ?_
  rintro r w6 ⟨g6, rfl, hB6, b6⟩
  have B6 := bthen B5 b6
  have hpr := rprime_any (hq.up B6) hB6 (by omega) (by omega)
  rw [eq] at hpr
  have Hpr2 := Lib.hid hpr
  clear hpr hB6
  rw [H8.out] at Hpr2
  go_wp2_with fail
  refine Hpr2.out.mono ?_
  rintro r w7 ⟨rfl, b7⟩
  have B7 := bthen B6 b7
  have hx := ((B7).block w.heap.size hs0).trans hx0
  obtain ⟨q0, q1, q2, q3, q4, q5⟩ := three_cells hx
  have Bz := Lib.hid (bthen b0 (B7))
  go_wp2_with fail
  have hg2 := three_fin (v1 := .slice none 0 0) (v2 := .slice none 0 0) (v3 := .slice none 0 0) hx
  refine bodyPost_ret (v := .tuple #[.agg #[.slice none 0 0, .slice none 0 0, .slice none 0 0], .int .i64 50]) (by rw [results_cell_tmp rfl]; simp [asAddr, run_loadVar_row _ w.heap.size 26 26 _ (0, 0) _ hg2 Tryz.underlying26 rfl (by kernel_rfl)]) rfl ?_
  exact ⟨rfl, ((Bz.out.setCell (p := ⟨w.heap.size, 0, none⟩) (by simp) (.slice none 0 0)).setCell (p := ⟨w.heap.size, 1, none⟩) (by simp) (.slice none 0 0)).setCell (p := ⟨w.heap.size, 2, none⟩) (by simp) (.slice none 0 0)⟩
set_option maxHeartbeats 4000000 in
theorem rmake_b8 {w : World} {Ap Aq : Option Addr} {np cp nq cq p q : Nat} {xp xq : List Nat} (hp : Nt w w.heap.size Ap np cp xp) (hq : Nt w w.heap.size Aq nq cq xq) (ep : val 18446744073709551616 xp = p) (eq : val 18446744073709551616 xq = q)
    (lp : np ≤ 20) (lq : nq ≤ 20) (e : Nat) (he : e < 18446744073709551616) (h1 : bl p ≤ 512) (h2 : bl q ≤ 512) (h3 : p ≠ q) (h4 : e % 2 = 1) (h5 : 3 ≤ e) (h7 : primeN p b12 = true) (h8 : primeN q b12 = true) (h9 : Nat.gcd e ((p - 1) * (q - 1)) ≠ 1) :
    Calls Tryz.prog 9 #[.slice Ap np cp, .slice Aq nq cq, .int .u64 (e : Int)] w (MakeBad w) := by
  obtain ⟨w0, e0⟩ : ∃ w0, w0 = w.alloc (.cells #[Value.slice none 0 0, .slice none 0 0, .slice none 0 0] 26) := ⟨_, rfl⟩
  have hx0 : w0.heap[w.heap.size]? = some (.cells #[Value.slice none 0 0, .slice none 0 0, .slice none 0 0] 26 (0, 0)) := e0 ▸ heap_alloc_new w _
  have hs0 : w.heap.size < w0.heap.size := by rw [e0]; simp
  have b0 : Below w.heap.size w w0 := e0 ▸ (Below.refl _ w).alloc (Nat.le_refl _) _
  have hp := hp.up b0
  have hq := hq.up b0
  have hbp := fun (W : World) (b : Below w0.heap.size w0 W) => Rn.rbits_any (hp.up b) (by omega)
  have hbq := fun (W : World) (b : Below w0.heap.size w0 W) => Rn.rbits_any (hq.up b) (by omega)
  rw [ep] at hbp
  rw [eq] at hbq
  have hs : sgn (p : Int) (q : Int) ≠ 0 := sgn_ne h3
  have Hp2 := Lib.hid (primeN_two h7)
  have Hq2 := Lib.hid (primeN_two h8)
  have fp := hp.below_pow lp
  have fq := hq.below_pow lq
  rw [ep] at fp
  rw [eq] at fq
  have Fp := Lib.hid fp
  have Fq := Lib.hid fq
  have Fn := Lib.hid (mul_pow fp fq)
  have HphiN := Lib.hid (show (p - 1) * (q - 1) ≤ p * q from Nat.mul_le_mul (Nat.sub_le _ _) (Nat.sub_le _ _))
  have Hphi := Lib.hid (show 0 < (p - 1) * (q - 1) from Nat.mul_pos (by have := Hp2.out; omega) (by have := Hq2.out; omega))
  have Hg := Lib.hid h9
  have H7 := Lib.hid h7
  have H8 := Lib.hid h8
  clear fp fq h7 h8 h9
  have Hbp := Lib.hid hbp
  have Hbq := Lib.hid hbq
  clear hbp hbq
  generalize bl p = kp at *
  generalize bl q = kq at *
  have gp : (512 < (kp : Int)) = False := by simp only [eq_iff_iff, iff_false]; omega
  have gq : (512 < (kq : Int)) = False := by simp only [eq_iff_iff, iff_false]; omega
  clear h1 h2
  have hm2 : ((e : Int).tmod 2) = 1 := by rw [Int.tmod_eq_emod_of_nonneg (by omega)]; omega
  have hm3 : ((e : Int) % 2) = 1 := by omega
  have h6 : ((e : Int) < 3) = False := by simp only [eq_iff_iff, iff_false]; omega
  clear h3 h4 h5
  go_enter Tryz.func9, Tryz.ntmps9
  go_wp2_with fail
  rw [← e0]
  clear e0
  refine (Hbp.out _ (Below.refl _ _)).mono ?_
  rintro r w1 ⟨rfl, b1⟩
  go_wp2_with fail
  refine (Hbq.out _ b1).mono ?_
  rintro r w2 ⟨rfl, b2⟩
  have B2 := bthen b1 b2
  have hc := Rn.rcmp_any (hp.up B2) (hq.up B2) (by omega) (by omega)
  rw [ep, eq] at hc
  obtain ⟨s, hse⟩ : ∃ s, sgn (p : Int) (q : Int) = s := ⟨_, rfl⟩
  rw [hse] at hs hc
  have Hc := Lib.hid hc
  clear hc hse
  have hs' : (s == 0) = false := by simpa using hs
  go_wp2_with fail
  refine Hc.out.mono ?_
  rintro r w3 ⟨rfl, b3⟩
  have B3 := bthen B2 b3
  go_wp2_with fail
  refine (rbases_any _).mono ?_
  rintro r w4 ⟨g4, rfl, hB4, b4⟩
  have B4 := bthen B3 b4
  have hpr := rprime_any (hp.up B4) hB4 (by omega) (by omega)
  rw [ep] at hpr
  have Hpr := Lib.hid hpr
  clear hpr hB4
  rw [H7.out] at Hpr
  go_wp2_with fail
  refine Hpr.out.mono ?_
  rintro r w5 ⟨rfl, b5⟩
  have B5 := bthen B4 b5
  go_wp2_with fail
  refine (rbases_any _).mono ?_
  rintro r w6 ⟨g6, rfl, hB6, b6⟩
  have B6 := bthen B5 b6
  have hpr := rprime_any (hq.up B6) hB6 (by omega) (by omega)
  rw [eq] at hpr
  have Hpr2 := Lib.hid hpr
  clear hpr hB6
  rw [H8.out] at Hpr2
  go_wp2_with fail
  refine Hpr2.out.mono ?_
  rintro r w7 ⟨rfl, b7⟩
  have B7 := bthen B6 b7
  go_wp2_with fail
  refine (rsmall_any e he _).mono ?_
  rintro r w8 ⟨A8, n8, c8, x8, rfl, r8⟩
  have v8 := r8.is
  have l8 : n8 ≤ 1 := r8.le (by omega)
  have B8 := bthen B7 r8.bel
  go_wp2_with fail
  refine (rless05_any (hp.up B8) ep (by omega) (by have := Hp2.out; omega)).mono ?_
  rintro r w9 ⟨A9, n9, c9, x9, rfl, r9⟩
  have v9 := r9.is
  have l9 : n9 ≤ 20 := r9.le (Nat.lt_of_le_of_lt (Nat.sub_le _ _) Fp.out)
  have B9 := bthen B8 r9.bel
  go_wp2_with fail
  refine (rless05_any (hq.up B9) eq (by omega) (by have := Hq2.out; omega)).mono ?_
  rintro r w10 ⟨A10, n10, c10, x10, rfl, r10⟩
  have v10 := r10.is
  have l10 : n10 ≤ 20 := r10.le (Nat.lt_of_le_of_lt (Nat.sub_le _ _) Fq.out)
  have B10 := bthen B9 r10.bel
  go_wp2_with fail
  refine (rmuls_any (r9.nt.up r10.bel) r10.nt (by omega) (by omega)).mono ?_
  rintro r w11 ⟨A11, n11, c11, x11, rfl, r11⟩
  rw [v9, v10] at r11
  have v11 := r11.is
  have l11 : n11 ≤ 40 := r11.le (Nat.lt_of_le_of_lt HphiN.out Fn.out)
  have B11 := bthen B10 r11.bel
  have m8 := ((r8.nt.up r9.bel).up r10.bel).up r11.bel
  go_wp2_with fail
  refine (rinv_any m8 r11.nt (by omega) (by omega) (by rw [v11]; exact Hphi.out)).mono ?_
  rintro r w12 ⟨k1, k2⟩
  rw [v8, v11] at k1 k2
  obtain ⟨rfl, b12⟩ := k1 Hg.out
  clear k1 k2
  have B12 := bthen B11 b12
  go_wp2_with fail
  refine (rmuls_any (hp.up B12) (hq.up B12) (by omega) (by omega)).mono ?_
  rintro r w13 ⟨A13, n13, c13, x13, rfl, r13⟩
  rw [ep, eq] at r13
  have l13 : n13 ≤ 40 := r13.le Fn.out
  have B13 := bthen B12 r13.bel
  go_wp2_with fail
  refine (rsmall_any e he _).mono ?_
  rintro r w14 ⟨A14, n14, c14, x14, rfl, r14⟩
  have l14 : n14 ≤ 1 := r14.le (by omega)
  have B14 := bthen B13 r14.bel
  obtain ⟨w15, e15⟩ : ∃ w15, w15 = w14.alloc (.cells #[Value.slice A13 n13 c13, .slice A14 n14 c14, .slice none 0 0] 26) := ⟨_, rfl⟩
  obtain ⟨hb15, b15'⟩ := box_new e15
  have B15 := bthen B14 b15'
  subst e15
  have hx := ((B15).block w.heap.size hs0).trans hx0
  obtain ⟨q0, q1, q2, q3, q4, q5⟩ := three_cells hx
  have Bz := Lib.hid (bthen b0 (B15))
  go_wp2_with fail
  have hg2 := three_fin (v1 := .slice none 0 0) (v2 := .slice none 0 0) (v3 := .slice none 0 0) hx
  refine bodyPost_ret (v := .tuple #[.agg #[.slice none 0 0, .slice none 0 0, .slice none 0 0], .int .i64 50]) (by rw [results_cell_tmp rfl]; simp [asAddr, run_loadVar_row _ w.heap.size 26 26 _ (0, 0) _ hg2 Tryz.underlying26 rfl (by kernel_rfl)]) rfl ?_
  exact ⟨rfl, ((Bz.out.setCell (p := ⟨w.heap.size, 0, none⟩) (by simp) (.slice none 0 0)).setCell (p := ⟨w.heap.size, 1, none⟩) (by simp) (.slice none 0 0)).setCell (p := ⟨w.heap.size, 2, none⟩) (by simp) (.slice none 0 0)⟩
set_option maxHeartbeats 4000000 in
theorem rmake_b9 {w : World} {Ap Aq : Option Addr} {np cp nq cq p q : Nat} {xp xq : List Nat} (hp : Nt w w.heap.size Ap np cp xp) (hq : Nt w w.heap.size Aq nq cq xq) (ep : val 18446744073709551616 xp = p) (eq : val 18446744073709551616 xq = q)
    (lp : np ≤ 20) (lq : nq ≤ 20) (e : Nat) (he : e < 18446744073709551616) (h1 : bl p ≤ 512) (h2 : bl q ≤ 512) (h3 : p ≠ q) (h4 : e % 2 = 1) (h5 : 3 ≤ e) (h7 : primeN p b12 = true) (h8 : primeN q b12 = true) (h9 : Nat.gcd e ((p - 1) * (q - 1)) = 1) (h10 : rightK (p * q) e 0 = false) :
    Calls Tryz.prog 9 #[.slice Ap np cp, .slice Aq nq cq, .int .u64 (e : Int)] w (MakeBad w) := by
  obtain ⟨w0, e0⟩ : ∃ w0, w0 = w.alloc (.cells #[Value.slice none 0 0, .slice none 0 0, .slice none 0 0] 26) := ⟨_, rfl⟩
  have hx0 : w0.heap[w.heap.size]? = some (.cells #[Value.slice none 0 0, .slice none 0 0, .slice none 0 0] 26 (0, 0)) := e0 ▸ heap_alloc_new w _
  have hs0 : w.heap.size < w0.heap.size := by rw [e0]; simp
  have b0 : Below w.heap.size w w0 := e0 ▸ (Below.refl _ w).alloc (Nat.le_refl _) _
  have hp := hp.up b0
  have hq := hq.up b0
  have hbp := fun (W : World) (b : Below w0.heap.size w0 W) => Rn.rbits_any (hp.up b) (by omega)
  have hbq := fun (W : World) (b : Below w0.heap.size w0 W) => Rn.rbits_any (hq.up b) (by omega)
  rw [ep] at hbp
  rw [eq] at hbq
  have hs : sgn (p : Int) (q : Int) ≠ 0 := sgn_ne h3
  have Hp2 := Lib.hid (primeN_two h7)
  have Hq2 := Lib.hid (primeN_two h8)
  have fp := hp.below_pow lp
  have fq := hq.below_pow lq
  rw [ep] at fp
  rw [eq] at fq
  have Fp := Lib.hid fp
  have Fq := Lib.hid fq
  have Fn := Lib.hid (mul_pow fp fq)
  have HphiN := Lib.hid (show (p - 1) * (q - 1) ≤ p * q from Nat.mul_le_mul (Nat.sub_le _ _) (Nat.sub_le _ _))
  have Hphi := Lib.hid (show 0 < (p - 1) * (q - 1) from Nat.mul_pos (by have := Hp2.out; omega) (by have := Hq2.out; omega))
  have Hg := Lib.hid h9
  have H7 := Lib.hid h7
  have H8 := Lib.hid h8
  clear fp fq h7 h8 h9
  have HR := Lib.hid (fun d (hd : d < p * q) => (show rightK (p * q) e d = false by
    unfold rightK at h10 ⊢
    rw [decide_eq_false_iff_not] at h10 ⊢
    exact fun h => h10 ⟨h.1, h.2.1, h.2.2.1, h.2.2.2.1, h.2.2.2.2.1, h.2.2.2.2.2.1, by omega⟩))
  clear h10
  have Hbp := Lib.hid hbp
  have Hbq := Lib.hid hbq
  clear hbp hbq
  generalize bl p = kp at *
  generalize bl q = kq at *
  have gp : (512 < (kp : Int)) = False := by simp only [eq_iff_iff, iff_false]; omega
  have gq : (512 < (kq : Int)) = False := by simp only [eq_iff_iff, iff_false]; omega
  clear h1 h2
  have hm2 : ((e : Int).tmod 2) = 1 := by rw [Int.tmod_eq_emod_of_nonneg (by omega)]; omega
  have hm3 : ((e : Int) % 2) = 1 := by omega
  have h6 : ((e : Int) < 3) = False := by simp only [eq_iff_iff, iff_false]; omega
  clear h3 h4 h5
  go_enter Tryz.func9, Tryz.ntmps9
  go_wp2_with fail
  rw [← e0]
  clear e0
  refine (Hbp.out _ (Below.refl _ _)).mono ?_
  rintro r w1 ⟨rfl, b1⟩
  go_wp2_with fail
  refine (Hbq.out _ b1).mono ?_
  rintro r w2 ⟨rfl, b2⟩
  have B2 := bthen b1 b2
  have hc := Rn.rcmp_any (hp.up B2) (hq.up B2) (by omega) (by omega)
  rw [ep, eq] at hc
  obtain ⟨s, hse⟩ : ∃ s, sgn (p : Int) (q : Int) = s := ⟨_, rfl⟩
  rw [hse] at hs hc
  have Hc := Lib.hid hc
  clear hc hse
  have hs' : (s == 0) = false := by simpa using hs
  go_wp2_with fail
  refine Hc.out.mono ?_
  rintro r w3 ⟨rfl, b3⟩
  have B3 := bthen B2 b3
  go_wp2_with fail
  refine (rbases_any _).mono ?_
  rintro r w4 ⟨g4, rfl, hB4, b4⟩
  have B4 := bthen B3 b4
  have hpr := rprime_any (hp.up B4) hB4 (by omega) (by omega)
  rw [ep] at hpr
  have Hpr := Lib.hid hpr
  clear hpr hB4
  rw [H7.out] at Hpr
  go_wp2_with fail
  refine Hpr.out.mono ?_
  rintro r w5 ⟨rfl, b5⟩
  have B5 := bthen B4 b5
  go_wp2_with fail
  refine (rbases_any _).mono ?_
  rintro r w6 ⟨g6, rfl, hB6, b6⟩
  have B6 := bthen B5 b6
  have hpr := rprime_any (hq.up B6) hB6 (by omega) (by omega)
  rw [eq] at hpr
  have Hpr2 := Lib.hid hpr
  clear hpr hB6
  rw [H8.out] at Hpr2
  go_wp2_with fail
  refine Hpr2.out.mono ?_
  rintro r w7 ⟨rfl, b7⟩
  have B7 := bthen B6 b7
  go_wp2_with fail
  refine (rsmall_any e he _).mono ?_
  rintro r w8 ⟨A8, n8, c8, x8, rfl, r8⟩
  have v8 := r8.is
  have l8 : n8 ≤ 1 := r8.le (by omega)
  have B8 := bthen B7 r8.bel
  go_wp2_with fail
  refine (rless05_any (hp.up B8) ep (by omega) (by have := Hp2.out; omega)).mono ?_
  rintro r w9 ⟨A9, n9, c9, x9, rfl, r9⟩
  have v9 := r9.is
  have l9 : n9 ≤ 20 := r9.le (Nat.lt_of_le_of_lt (Nat.sub_le _ _) Fp.out)
  have B9 := bthen B8 r9.bel
  go_wp2_with fail
  refine (rless05_any (hq.up B9) eq (by omega) (by have := Hq2.out; omega)).mono ?_
  rintro r w10 ⟨A10, n10, c10, x10, rfl, r10⟩
  have v10 := r10.is
  have l10 : n10 ≤ 20 := r10.le (Nat.lt_of_le_of_lt (Nat.sub_le _ _) Fq.out)
  have B10 := bthen B9 r10.bel
  go_wp2_with fail
  refine (rmuls_any (r9.nt.up r10.bel) r10.nt (by omega) (by omega)).mono ?_
  rintro r w11 ⟨A11, n11, c11, x11, rfl, r11⟩
  rw [v9, v10] at r11
  have v11 := r11.is
  have l11 : n11 ≤ 40 := r11.le (Nat.lt_of_le_of_lt HphiN.out Fn.out)
  have B11 := bthen B10 r11.bel
  have m8 := ((r8.nt.up r9.bel).up r10.bel).up r11.bel
  go_wp2_with fail
  refine (rinv_any m8 r11.nt (by omega) (by omega) (by rw [v11]; exact Hphi.out)).mono ?_
  rintro r w12 ⟨k1, k2⟩
  rw [v8, v11] at k1 k2
  obtain ⟨d, hd, hde, A12, n12, c12, x12, rfl, r12⟩ := k2 Hg.out
  clear k1 k2
  have Hd := Lib.hid hd
  have Hde := Lib.hid hde
  clear hd hde
  have l12 : n12 ≤ 40 := r12.le (Nat.lt_trans Hd.out (Nat.lt_of_le_of_lt HphiN.out Fn.out))
  have B12 := bthen B11 r12.bel
  go_wp2_with fail
  refine (rmuls_any (hp.up B12) (hq.up B12) (by omega) (by omega)).mono ?_
  rintro r w13 ⟨A13, n13, c13, x13, rfl, r13⟩
  rw [ep, eq] at r13
  have l13 : n13 ≤ 40 := r13.le Fn.out
  have B13 := bthen B12 r13.bel
  go_wp2_with fail
  refine (rsmall_any e he _).mono ?_
  rintro r w14 ⟨A14, n14, c14, x14, rfl, r14⟩
  have l14 : n14 ≤ 1 := r14.le (by omega)
  have B14 := bthen B13 r14.bel
  obtain ⟨w15, e15⟩ : ∃ w15, w15 = w14.alloc (.cells #[Value.slice A13 n13 c13, .slice A14 n14 c14, .slice A12 n12 c12] 26) := ⟨_, rfl⟩
  obtain ⟨hb15, b15'⟩ := box_new e15
  have B15 := bthen B14 b15'
  have t1 := (r13.nt.up r14.bel).up b15'
  have t2 := r14.nt.up b15'
  have t3 := ((r12.nt.up r13.bel).up r14.bel).up b15'
  have hk : Pr w15 (.agg #[.slice A13 n13 c13, .slice A14 n14 c14, .slice A12 n12 c12]) (p * q) e d :=
    ⟨_, _, _, _, _, _, _, _, _, _, _, _, rfl, t1, r13.is, by omega, t2, r14.is, by omega, t3, r12.is, by omega⟩
  have hr := rkright_bad hk (HR.out d (Nat.lt_of_lt_of_le Hd.out HphiN.out))
  have Hr := Lib.hid hr
  clear hr hk
  go_wp2_with fail
  rw [← e15]
  clear e15
  refine Hr.out.mono ?_
  rintro r w16 ⟨rfl, b16⟩
  have B16 := bthen B15 b16
  have hx := ((B16).block w.heap.size hs0).trans hx0
  obtain ⟨q0, q1, q2, q3, q4, q5⟩ := three_cells hx
  have Bz := Lib.hid (bthen b0 (B16))
  go_wp2_with fail
  have hg2 := three_fin (v1 := .slice none 0 0) (v2 := .slice none 0 0) (v3 := .slice none 0 0) hx
  refine bodyPost_ret (v := .tuple #[.agg #[.slice none 0 0, .slice none 0 0, .slice none 0 0], .int .i64 50]) (by rw [results_cell_tmp rfl]; simp [asAddr, run_loadVar_row _ w.heap.size 26 26 _ (0, 0) _ hg2 Tryz.underlying26 rfl (by kernel_rfl)]) rfl ?_
  exact ⟨rfl, ((Bz.out.setCell (p := ⟨w.heap.size, 0, none⟩) (by simp) (.slice none 0 0)).setCell (p := ⟨w.heap.size, 1, none⟩) (by simp) (.slice none 0 0)).setCell (p := ⟨w.heap.size, 2, none⟩) (by simp) (.slice none 0 0)⟩
set_option maxHeartbeats 4000000 in
theorem rmake_ok {w : World} {Ap Aq : Option Addr} {np cp nq cq p q : Nat} {xp xq : List Nat} (hp : Nt w w.heap.size Ap np cp xp) (hq : Nt w w.heap.size Aq nq cq xq) (ep : val 18446744073709551616 xp = p) (eq : val 18446744073709551616 xq = q)
    (lp : np ≤ 20) (lq : nq ≤ 20) (e : Nat) (he : e < 18446744073709551616) (h1 : bl p ≤ 512) (h2 : bl q ≤ 512) (h3 : p ≠ q) (h4 : e % 2 = 1) (h5 : 3 ≤ e) (h7 : primeN p b12 = true) (h8 : primeN q b12 = true) (h9 : Nat.gcd e ((p - 1) * (q - 1)) = 1) (h10 : rightK (p * q) e 0 = true) (h11 : 1 < (p - 1) * (q - 1)) :
    Calls Tryz.prog 9 #[.slice Ap np cp, .slice Aq nq cq, .int .u64 (e : Int)] w (MakeIs2 p q e w) := by
  obtain ⟨w0, e0⟩ : ∃ w0, w0 = w.alloc (.cells #[Value.slice none 0 0, .slice none 0 0, .slice none 0 0] 26) := ⟨_, rfl⟩
  have hx0 : w0.heap[w.heap.size]? = some (.cells #[Value.slice none 0 0, .slice none 0 0, .slice none 0 0] 26 (0, 0)) := e0 ▸ heap_alloc_new w _
  have hs0 : w.heap.size < w0.heap.size := by rw [e0]; simp
  have b0 : Below w.heap.size w w0 := e0 ▸ (Below.refl _ w).alloc (Nat.le_refl _) _
  have hp := hp.up b0
  have hq := hq.up b0
  have hbp := fun (W : World) (b : Below w0.heap.size w0 W) => Rn.rbits_any (hp.up b) (by omega)
  have hbq := fun (W : World) (b : Below w0.heap.size w0 W) => Rn.rbits_any (hq.up b) (by omega)
  rw [ep] at hbp
  rw [eq] at hbq
  have hs : sgn (p : Int) (q : Int) ≠ 0 := sgn_ne h3
  have Hp2 := Lib.hid (primeN_two h7)
  have Hq2 := Lib.hid (primeN_two h8)
  have fp := hp.below_pow lp
  have fq := hq.below_pow lq
  rw [ep] at fp
  rw [eq] at fq
  have Fp := Lib.hid fp
  have Fq := Lib.hid fq
  have Fn := Lib.hid (mul_pow fp fq)
  have HphiN := Lib.hid (show (p - 1) * (q - 1) ≤ p * q from Nat.mul_le_mul (Nat.sub_le _ _) (Nat.sub_le _ _))
  have Hphi := Lib.hid (show 0 < (p - 1) * (q - 1) from Nat.mul_pos (by have := Hp2.out; omega) (by have := Hq2.out; omega))
  have Hg := Lib.hid h9
  have H7 := Lib.hid h7
  have H8 := Lib.hid h8
  clear fp fq h7 h8 h9
  have HR := Lib.hid (fun d (hd : d < p * q) => (show rightK (p * q) e d = true by
    unfold rightK at h10 ⊢
    rw [decide_eq_true_iff] at h10 ⊢
    exact ⟨h10.1, h10.2.1, h10.2.2.1, h10.2.2.2.1, h10.2.2.2.2.1, h10.2.2.2.2.2.1, hd⟩))
  clear h10
  have H11 := Lib.hid h11
  clear h11
  have Hbp := Lib.hid hbp
  have Hbq := Lib.hid hbq
  clear hbp hbq
  generalize bl p = kp at *
  generalize bl q = kq at *
  have gp : (512 < (kp : Int)) = False := by simp only [eq_iff_iff, iff_false]; omega
  have gq : (512 < (kq : Int)) = False := by simp only [eq_iff_iff, iff_false]; omega
  clear h1 h2
  have hm2 : ((e : Int).tmod 2) = 1 := by rw [Int.tmod_eq_emod_of_nonneg (by omega)]; omega
  have hm3 : ((e : Int) % 2) = 1 := by omega
  have h6 : ((e : Int) < 3) = False := by simp only [eq_iff_iff, iff_false]; omega
  clear h3 h4 h5
  go_enter Tryz.func9, Tryz.ntmps9
  go_wp2_with fail
  rw [← e0]
  clear e0
  refine (Hbp.out _ (Below.refl _ _)).mono ?_
  rintro r w1 ⟨rfl, b1⟩
  go_wp2_with fail
  refine (Hbq.out _ b1).mono ?_
  rintro r w2 ⟨rfl, b2⟩
  have B2 := bthen b1 b2
  have hc := Rn.rcmp_any (hp.up B2) (hq.up B2) (by omega) (by omega)
  rw [ep, eq] at hc
  obtain ⟨s, hse⟩ : ∃ s, sgn (p : Int) (q : Int) = s := ⟨_, rfl⟩
  rw [hse] at hs hc
  have Hc := Lib.hid hc
  clear hc hse
  have hs' : (s == 0) = false := by simpa using hs
  go_wp2_with fail
  refine Hc.out.mono ?_
  rintro r w3 ⟨rfl, b3⟩
  have B3 := bthen B2 b3
  go_wp2_with fail
  refine (rbases_any _).mono ?_
  rintro r w4 ⟨g4, rfl, hB4, b4⟩
  have B4 := bthen B3 b4
  have hpr := rprime_any (hp.up B4) hB4 (by omega) (by omega)
  rw [ep] at hpr
  have Hpr := Lib.hid hpr
  clear hpr hB4
  rw [H7.out] at Hpr
  go_wp2_with fail
  refine Hpr.out.mono ?_
  rintro r w5 ⟨rfl, b5⟩
  have B5 := bthen B4 b5
  go_wp2_with fail
  refine (rbases_any _).mono ?_
  rintro r w6 ⟨g6, rfl, hB6, b6⟩
  have B6 := bthen B5 b6
  have hpr := rprime_any (hq.up B6) hB6 (by omega) (by omega)
  rw [eq] at hpr
  have Hpr2 := Lib.hid hpr
  clear hpr hB6
  rw [H8.out] at Hpr2
  go_wp2_with fail
  refine Hpr2.out.mono ?_
  rintro r w7 ⟨rfl, b7⟩
  have B7 := bthen B6 b7
  go_wp2_with fail
  refine (rsmall_any e he _).mono ?_
  rintro r w8 ⟨A8, n8, c8, x8, rfl, r8⟩
  have v8 := r8.is
  have l8 : n8 ≤ 1 := r8.le (by omega)
  have B8 := bthen B7 r8.bel
  go_wp2_with fail
  refine (rless05_any (hp.up B8) ep (by omega) (by have := Hp2.out; omega)).mono ?_
  rintro r w9 ⟨A9, n9, c9, x9, rfl, r9⟩
  have v9 := r9.is
  have l9 : n9 ≤ 20 := r9.le (Nat.lt_of_le_of_lt (Nat.sub_le _ _) Fp.out)
  have B9 := bthen B8 r9.bel
  go_wp2_with fail
  refine (rless05_any (hq.up B9) eq (by omega) (by have := Hq2.out; omega)).mono ?_
  rintro r w10 ⟨A10, n10, c10, x10, rfl, r10⟩
  have v10 := r10.is
  have l10 : n10 ≤ 20 := r10.le (Nat.lt_of_le_of_lt (Nat.sub_le _ _) Fq.out)
  have B10 := bthen B9 r10.bel
  go_wp2_with fail
  refine (rmuls_any (r9.nt.up r10.bel) r10.nt (by omega) (by omega)).mono ?_
  rintro r w11 ⟨A11, n11, c11, x11, rfl, r11⟩
  rw [v9, v10] at r11
  have v11 := r11.is
  have l11 : n11 ≤ 40 := r11.le (Nat.lt_of_le_of_lt HphiN.out Fn.out)
  have B11 := bthen B10 r11.bel
  have m8 := ((r8.nt.up r9.bel).up r10.bel).up r11.bel
  go_wp2_with fail
  refine (rinv_any m8 r11.nt (by omega) (by omega) (by rw [v11]; exact Hphi.out)).mono ?_
  rintro r w12 ⟨k1, k2⟩
  rw [v8, v11] at k1 k2
  obtain ⟨d, hd, hde, A12, n12, c12, x12, rfl, r12⟩ := k2 Hg.out
  clear k1 k2
  have Hd := Lib.hid hd
  have Hde := Lib.hid hde
  clear hd hde
  have l12 : n12 ≤ 40 := r12.le (Nat.lt_trans Hd.out (Nat.lt_of_le_of_lt HphiN.out Fn.out))
  have B12 := bthen B11 r12.bel
  go_wp2_with fail
  refine (rmuls_any (hp.up B12) (hq.up B12) (by omega) (by omega)).mono ?_
  rintro r w13 ⟨A13, n13, c13, x13, rfl, r13⟩
  rw [ep, eq] at r13
  have l13 : n13 ≤ 40 := r13.le Fn.out
  have B13 := bthen B12 r13.bel
  go_wp2_with fail
  refine (rsmall_any e he _).mono ?_
  rintro r w14 ⟨A14, n14, c14, x14, rfl, r14⟩
  have l14 : n14 ≤ 1 := r14.le (by omega)
  have B14 := bthen B13 r14.bel
  obtain ⟨w15, e15⟩ : ∃ w15, w15 = w14.alloc (.cells #[Value.slice A13 n13 c13, .slice A14 n14 c14, .slice A12 n12 c12] 26) := ⟨_, rfl⟩
  obtain ⟨hb15, b15'⟩ := box_new e15
  have B15 := bthen B14 b15'
  have t1 := (r13.nt.up r14.bel).up b15'
  have t2 := r14.nt.up b15'
  have t3 := ((r12.nt.up r13.bel).up r14.bel).up b15'
  have hk : Pr w15 (.agg #[.slice A13 n13 c13, .slice A14 n14 c14, .slice A12 n12 c12]) (p * q) e d :=
    ⟨_, _, _, _, _, _, _, _, _, _, _, _, rfl, t1, r13.is, by omega, t2, r14.is, by omega, t3, r12.is, by omega⟩
  have hr := rkright_ok hk (HR.out d (Nat.lt_of_lt_of_le Hd.out HphiN.out))
  have Hr := Lib.hid hr
  clear hr hk
  go_wp2_with fail
  rw [← e15]
  clear e15
  refine Hr.out.mono ?_
  rintro r w16 ⟨rfl, b16⟩
  have B16 := bthen B15 b16
  have hy := hb15.up b16
  have y0 := hy.c0
  have y1 := hy.c1
  have y2 := hy.c2
  have hx := (B16.block w.heap.size hs0).trans hx0
  obtain ⟨q0, q1, q2, q3, q4, q5⟩ := three_cells hx
  have hs14 := B14.size
  go_wp2_with fail
  have hg2 := three_fin (v1 := .slice A13 n13 c13) (v2 := .slice A14 n14 c14) (v3 := .slice A12 n12 c12) hx
  refine bodyPost_ret (v := .tuple #[.agg #[.slice A13 n13 c13, .slice A14 n14 c14, .slice A12 n12 c12], .int .i64 0]) (by rw [results_cell_tmp rfl]; simp [asAddr, run_loadVar_row _ w.heap.size 26 26 _ (0, 0) _ hg2 Tryz.underlying26 rfl (by kernel_rfl)]) rfl ?_
  have B16' := bthen b0 B16
  have hb := ((B16'.setCell (p := ⟨w.heap.size, 0, none⟩) (by simp) (.slice A13 n13 c13)).setCell (p := ⟨w.heap.size, 1, none⟩) (by simp) (.slice A14 n14 c14)).setCell (p := ⟨w.heap.size, 2, none⟩) (by simp) (.slice A12 n12 c12)
  exact ⟨_, _, _, _, _, _, _, _, _, _, _, _, d, rfl, (t1.up b16).away3 (B := 0) ((t1.up b16).not_in hx), r13.is, by omega, (t2.up b16).away3 (B := 0) ((t2.up b16).not_in hx), r14.is, by omega, (t3.up b16).away3 (B := 0) ((t3.up b16).not_in hx), r12.is, by omega, r13.trm, r14.trm, r12.trm, Hd.out, by rw [Hde.out, Nat.mod_eq_of_lt H11.out], hb⟩
end Go.Proofs.YtkhlmcknbangfaaGreatDoor
namespace Go.Proofs.YtkhlmcknbangfaaGreatDoor
open Go.RowKit
set_option linter.unusedVariables false
set_option linter.unusedSimpArgs false
set_option maxRecDepth 100000
/-- which numbers a key, or none, has -/
def KV (b : Bool) (p q e N E D : Nat) (er : Int) : Prop :=
  (b = true → er = 0 ∧ N = p * q ∧ E = e ∧ D < (p - 1) * (q - 1) ∧ e * D % ((p - 1) * (q - 1)) = 1) ∧ (b = false → er = 50 ∧ N = 0 ∧ E = 0 ∧ D = 0)
theorem KV.same {b : Bool} {p q e N E D N' E' D' : Nat} {er er' : Int} (h : KV b p q e N E D er) (k : KV b p q e N' E' D' er') : N = N' ∧ E = E' ∧ D = D' ∧ er = er' := by
  cases b with
  | false =>
    obtain ⟨a1, a2, a3, a4⟩ := h.2 rfl
    obtain ⟨b1, b2, b3, b4⟩ := k.2 rfl
    exact ⟨a2.trans b2.symm, a3.trans b3.symm, a4.trans b4.symm, a1.trans b1.symm⟩
  | true =>
    obtain ⟨a1, a2, a3, a4, a5⟩ := h.1 rfl
    obtain ⟨b1, b2, b3, b4, b5⟩ := k.1 rfl
    refine ⟨a2.trans b2.symm, a3.trans b3.symm, ?_, a1.trans b1.symm⟩
    generalize (p - 1) * (q - 1) = φ at *
    have hc : Nat.Coprime φ e := by
      have h1 := Nat.div_add_mod (e * D) φ
      rw [a5] at h1
      have g1 := Nat.gcd_dvd_left φ e
      have g2 := Nat.dvd_trans (Nat.gcd_dvd_right φ e) (Nat.dvd_mul_right e D)
      rw [← h1] at g2
      exact Nat.dvd_one.1 ((Nat.dvd_add_right (Nat.dvd_trans g1 (Nat.dvd_mul_right φ _))).1 g2)
    have := cancel (x := D) (y := D') hc (by rw [Nat.mul_comm D, Nat.mul_comm D', a5, b5])
    rwa [Nat.mod_eq_of_lt a4, Nat.mod_eq_of_lt b4] at this
/-- a key that came out, and the error -/
def KeyOf (b : Bool) (p q e : Nat) (w : World) (r : Ending) (w' : World) : Prop :=
  ∃ A1 n1 c1 x1 A2 n2 c2 x2 A3 n3 c3 x3 N E D er, r = .returned (.tuple #[.agg #[.slice A1 n1 c1, .slice A2 n2 c2, .slice A3 n3 c3], .int .i64 er]) ∧
    Nt w' w'.heap.size A1 n1 c1 x1 ∧ val 18446744073709551616 x1 = N ∧ Nt w' w'.heap.size A2 n2 c2 x2 ∧ val 18446744073709551616 x2 = E ∧ Nt w' w'.heap.size A3 n3 c3 x3 ∧ val 18446744073709551616 x3 = D ∧
    Trm x1 ∧ Trm x2 ∧ Trm x3 ∧ Below w.heap.size w w' ∧ KV b p q e N E D er
theorem KeyOf.ok {p q e : Nat} {w w' : World} {r : Ending} (h : MakeIs2 p q e w r w') : KeyOf true p q e w r w' := by
  obtain ⟨A1, n1, c1, x1, A2, n2, c2, x2, A3, n3, c3, x3, d, hr, a1, a2, a3, a4, a5, a6, a7, a8, a9, t1, t2, t3, h1, h2, hb⟩ := h
  exact ⟨A1, n1, c1, x1, A2, n2, c2, x2, A3, n3, c3, x3, _, _, _, 0, hr, a1, rfl, a4, rfl, a7, rfl, t1, t2, t3, hb, fun _ => ⟨rfl, a2, a5, a8.symm ▸ h1, a8.symm ▸ h2⟩, fun h => by cases h⟩
theorem KeyOf.bad {p q e : Nat} {w w' : World} {r : Ending} (h : MakeBad w r w') : KeyOf false p q e w r w' :=
  ⟨none, 0, 0, [], none, 0, 0, [], none, 0, 0, [], 0, 0, 0, 50, h.1, nt_nil _ _, rfl, nt_nil _ _, rfl, nt_nil _ _, rfl, trm_nil, trm_nil, trm_nil, h.2, (fun h => by cases h), fun _ => ⟨rfl, rfl, rfl, rfl⟩⟩
/-- Make, and the document's own Make, come to one key -/
theorem make_both (p q e : Nat) (he : e < 18446744073709551616) : ∃ b : Bool, ∀ {w : World} {Ap Aq : Option Addr} {np cp nq cq : Nat} {xp xq : List Nat} (hp : Nt w w.heap.size Ap np cp xp) (hq : Nt w w.heap.size Aq nq cq xq) (ep : val 18446744073709551616 xp = p) (eq : val 18446744073709551616 xq = q)
    (lp : np ≤ 20) (lq : nq ≤ 20), Calls Tryz.prog 8 #[.slice Ap np cp, .slice Aq nq cq, .int .u64 (e : Int)] w (KeyOf b p q e w) ∧ Calls Tryz.prog 9 #[.slice Ap np cp, .slice Aq nq cq, .int .u64 (e : Int)] w (KeyOf b p q e w) := by
  have nb : ∀ {x y : Bool}, ¬ (x && y) = true → (x && y) = false := fun h => by simpa using h
  by_cases b1 : bl p ≤ 512
  · by_cases b2 : bl q ≤ 512
    · by_cases p1 : primeN p b12 = true
      · have m1 : (decide (bl p ≤ 512) && primeN p b12) = true := by rw [decide_eq_true b1, p1]; rfl
        by_cases p2 : primeN q b12 = true
        · have m2 : (decide (bl q ≤ 512) && primeN q b12) = true := by rw [decide_eq_true b2, p2]; rfl
          by_cases hne : p = q
          · exact ⟨false, fun hp hq ep eq lp lq => ⟨(make_b3 hp hq ep eq lp lq e he m1 m2 hne).mono fun _ _ => KeyOf.bad, (rmake_b3 hp hq ep eq lp lq e he b1 b2 hne).mono fun _ _ => KeyOf.bad⟩⟩
          · by_cases e2 : e % 2 = 1
            · by_cases e3 : 3 ≤ e
              · have m4 : (decide (e % 2 = 1) && decide (3 ≤ e)) = true := by rw [decide_eq_true e2, decide_eq_true e3]; rfl
                by_cases hg : Nat.gcd e ((p - 1) * (q - 1)) = 1
                · by_cases hr : rightK (p * q) e 0 = true
                  · have hp2 := primeN_two p1
                    have hq2 := primeN_two p2
                    have hphi : 1 < (p - 1) * (q - 1) := by
                      rcases Nat.lt_or_ge 1 (p - 1) with h | h
                      · exact Nat.lt_of_lt_of_le h (Nat.le_mul_of_pos_right _ (by omega))
                      · exact Nat.lt_of_lt_of_le (show 1 < q - 1 by omega) (Nat.le_mul_of_pos_left _ (by omega))
                    have hR := hr
                    unfold rightK at hR
                    rw [decide_eq_true_iff] at hR
                    exact ⟨true, fun hp hq ep eq lp lq => ⟨(make_ok hp hq ep eq lp lq e he b1 b2 p1 p2 hne e2 e3 hg hphi hR.1 hR.2.1 hR.2.2.1 hR.2.2.2.2.2.1).mono fun _ _ => KeyOf.ok,
                      (rmake_ok hp hq ep eq lp lq e he b1 b2 hne e2 e3 p1 p2 hg hr hphi).mono fun _ _ => KeyOf.ok⟩⟩
                  · have hr' : rightK (p * q) e 0 = false := by simpa using hr
                    exact ⟨false, fun hp hq ep eq lp lq => ⟨(make_b6 hp hq ep eq lp lq e he m1 m2 hne m4 hg hr').mono fun _ _ => KeyOf.bad, (rmake_b9 hp hq ep eq lp lq e he b1 b2 hne e2 e3 p1 p2 hg hr').mono fun _ _ => KeyOf.bad⟩⟩
                · exact ⟨false, fun hp hq ep eq lp lq => ⟨(make_b5 hp hq ep eq lp lq e he m1 m2 hne m4 hg).mono fun _ _ => KeyOf.bad, (rmake_b8 hp hq ep eq lp lq e he b1 b2 hne e2 e3 p1 p2 hg).mono fun _ _ => KeyOf.bad⟩⟩
              · exact ⟨false, fun hp hq ep eq lp lq => ⟨(make_b4 hp hq ep eq lp lq e he m1 m2 hne (by rw [decide_eq_false e3, Bool.and_false])).mono fun _ _ => KeyOf.bad, (rmake_b5 hp hq ep eq lp lq e he b1 b2 hne e2 (by omega)).mono fun _ _ => KeyOf.bad⟩⟩
            · exact ⟨false, fun hp hq ep eq lp lq => ⟨(make_b4 hp hq ep eq lp lq e he m1 m2 hne (by rw [decide_eq_false e2, Bool.false_and])).mono fun _ _ => KeyOf.bad, (rmake_b4 hp hq ep eq lp lq e he b1 b2 hne (by omega)).mono fun _ _ => KeyOf.bad⟩⟩
        · have p2' : primeN q b12 = false := by simpa using p2
          have m2 : (decide (bl q ≤ 512) && primeN q b12) = false := by rw [p2', Bool.and_false]
          refine ⟨false, fun hp hq ep eq lp lq => ⟨(make_b2 hp hq ep eq lp lq e he m1 m2).mono fun _ _ => KeyOf.bad, ?_⟩⟩
          by_cases hne : p = q
          · exact (rmake_b3 hp hq ep eq lp lq e he b1 b2 hne).mono fun _ _ => KeyOf.bad
          · by_cases e2 : e % 2 = 1
            · by_cases e3 : 3 ≤ e
              · exact (rmake_b7 hp hq ep eq lp lq e he b1 b2 hne e2 e3 p1 p2').mono fun _ _ => KeyOf.bad
              · exact (rmake_b5 hp hq ep eq lp lq e he b1 b2 hne e2 (by omega)).mono fun _ _ => KeyOf.bad
            · exact (rmake_b4 hp hq ep eq lp lq e he b1 b2 hne (by omega)).mono fun _ _ => KeyOf.bad
      · have p1' : primeN p b12 = false := by simpa using p1
        have m1 : (decide (bl p ≤ 512) && primeN p b12) = false := by rw [p1', Bool.and_false]
        refine ⟨false, fun hp hq ep eq lp lq => ⟨(make_b1 hp hq ep eq lp lq e he m1).mono fun _ _ => KeyOf.bad, ?_⟩⟩
        by_cases hne : p = q
        · exact (rmake_b3 hp hq ep eq lp lq e he b1 b2 hne).mono fun _ _ => KeyOf.bad
        · by_cases e2 : e % 2 = 1
          · by_cases e3 : 3 ≤ e
            · exact (rmake_b6 hp hq ep eq lp lq e he b1 b2 hne e2 e3 p1').mono fun _ _ => KeyOf.bad
            · exact (rmake_b5 hp hq ep eq lp lq e he b1 b2 hne e2 (by omega)).mono fun _ _ => KeyOf.bad
          · exact (rmake_b4 hp hq ep eq lp lq e he b1 b2 hne (by omega)).mono fun _ _ => KeyOf.bad
    · refine ⟨false, fun hp hq ep eq lp lq => ⟨?_, (rmake_b2 hp hq ep eq lp lq e he b1 (by omega)).mono fun _ _ => KeyOf.bad⟩⟩
      have m2 : (decide (bl q ≤ 512) && primeN q b12) = false := by rw [decide_eq_false b2, Bool.false_and]
      cases m1 : (decide (bl p ≤ 512) && primeN p b12) with
      | false => exact (make_b1 hp hq ep eq lp lq e he m1).mono fun _ _ => KeyOf.bad
      | true => exact (make_b2 hp hq ep eq lp lq e he m1 m2).mono fun _ _ => KeyOf.bad
  · exact ⟨false, fun hp hq ep eq lp lq => ⟨(make_b1 hp hq ep eq lp lq e he (by rw [decide_eq_false b1, Bool.false_and])).mono fun _ _ => KeyOf.bad, (rmake_b1 hp hq ep eq lp lq e he (by omega)).mono fun _ _ => KeyOf.bad⟩⟩
/-- keys of the same numbers -/
theorem key_same {w : World} {A1 A2 A3 B1 B2 B3 : Option Addr} {n1 c1 n2 c2 n3 c3 m1 d1 m2 d2 m3 d3 : Nat} {x1 x2 x3 : List Nat} (h1 : Nt w w.heap.size A1 n1 c1 x1) (h2 : Nt w w.heap.size A2 n2 c2 x2) (h3 : Nt w w.heap.size A3 n3 c3 x3)
    (k1 : Nt w w.heap.size B1 m1 d1 x1) (k2 : Nt w w.heap.size B2 m2 d2 x2) (k3 : Nt w w.heap.size B3 m3 d3 x3) :
    Calls Tryz.prog 10 #[.agg #[.slice A1 n1 c1, .slice A2 n2 c2, .slice A3 n3 c3], .agg #[.slice B1 m1 d1, .slice B2 m2 d2, .slice B3 m3 d3]] w (Yes w) := by
  obtain ⟨w0, e0⟩ : ∃ w0, w0 = w.alloc (.cells #[Value.slice A1 n1 c1, .slice A2 n2 c2, .slice A3 n3 c3] 26) := ⟨_, rfl⟩
  obtain ⟨w1, e1⟩ : ∃ w1, w1 = w0.alloc (.cells #[Value.slice B1 m1 d1, .slice B2 m2 d2, .slice B3 m3 d3] 26) := ⟨_, rfl⟩
  obtain ⟨hx0, b0⟩ := box_new e0
  obtain ⟨hy, b1⟩ := box_new e1
  have hx := hx0.up b1
  have B1' := bthen b0 b1
  have s0 : w0.heap.size = w.heap.size + 1 := by rw [e0]; simp
  have E1 := Lib.hid (show w1 = (w.alloc (.cells #[Value.slice A1 n1 c1, .slice A2 n2 c2, .slice A3 n3 c3] 26)).alloc (.cells #[Value.slice B1 m1 d1, .slice B2 m2 d2, .slice B3 m3 d3] 26) by rw [e1, e0])
  rw [s0] at hy
  have H1 := Lib.hid (fun (W : World) (b : Below w1.heap.size w1 W) => same_yes ((h1.up B1').up b) ((k1.up B1').up b) rfl)
  have H2 := Lib.hid (fun (W : World) (b : Below w1.heap.size w1 W) => same_yes ((h2.up B1').up b) ((k2.up B1').up b) rfl)
  have H3 := Lib.hid (fun (W : World) (b : Below w1.heap.size w1 W) => same_yes ((h3.up B1').up b) ((k3.up B1').up b) rfl)
  have y0 := hx.c0
  have y1 := hx.c1
  have y2 := hx.c2
  have z0 := hy.c0
  have z1 := hy.c1
  have z2 := hy.c2
  clear e0 e1 hx0 b0 b1 h1 h2 h3 k1 k2 k3 s0
  go_enter Tryz.func10, Tryz.ntmps10
  go_upto_region 1 with fail
  rw [← E1.out]
  go_wp2_with fail
  refine (H1.out _ (Below.refl _ _)).mono ?_
  rintro r w2 ⟨rfl, d2', rfl⟩
  go_wp2_with fail
  refine (H2.out _ (bdr (Below.refl _ _) d2')).mono ?_
  rintro r w3 ⟨rfl, d3', rfl⟩
  go_wp2_with fail
  refine (H3.out _ (bdr (Below.refl _ _) (d2' + d3'))).mono ?_
  rintro r w4 ⟨rfl, d4', rfl⟩
  go_wp2_with fail
  go_ret
  exact ⟨rfl, bdr B1' (d2' + d3' + d4')⟩
end Go.Proofs.YtkhlmcknbangfaaGreatDoor
