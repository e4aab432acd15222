/- pkey: isOdd, Size, Right, secretRight, lessOne, mayBePrime, mayBePower. pkey: mayBePower, secretRight; mersenne's numbers. pkey: Make. pkey: Sign of a short key; keys of known primes. the top's statements of layer 5: alive03. -/
import Derived.Test.YtkhlmcknbangfaaGreatDoorDf
import Derived.Test.YtkhlmcknbangfaaGreatDoorMaths
import Derived.Laws.ResultCell
namespace Go.Proofs.YtkhlmcknbangfaaGreatDoor
open Go.RowKit
set_option linter.unusedSimpArgs false
set_option linter.unusedVariables false
set_option maxRecDepth 100000

set_option maxHeartbeats 1000000 in
theorem isOdd_yes {w : World} {A : Option Addr} {n c N : Nat} {xs : List Nat} (h : Nt w w.heap.size A n c xs) (hN : val 18446744073709551616 xs = N) (ho : N % 2 = 1) :
    Calls Tryz.prog 91 #[.slice A n c] w fun e w' => e = .returned (.bool true) ∧ w = w' := by
  have hb := bit_any h 0 (by omega)
  rw [hN, show btN N 0 = N % 2 by simp [btN], ho] at hb
  have Hb := Lib.hid hb
  clear hb
  go_enter Tryz.func91, Tryz.ntmps91
  go_wp2_with fail
  refine Hb.out.mono ?_
  rintro e w1 ⟨rfl, rfl⟩
  go_wp2_with fail
  go_ret
  exact ⟨rfl, rfl⟩
set_option maxHeartbeats 1000000 in
theorem klessOne_any {w : World} {A : Option Addr} {n c N : Nat} {xs : List Nat} (h : Nt w w.heap.size A n c xs) (hN : val 18446744073709551616 xs = N) (hn : n ≤ 100000) (h1 : 1 ≤ N) :
    Calls Tryz.prog 32 #[.slice A n c] w (RetS (N - 1) w) := by
  go_enter Tryz.func32, Tryz.ntmps32
  go_wp2_with fail
  refine (of_any 1 _ rfl (by omega) _).mono ?_
  rintro e w1 ⟨A1, n1, c1, x1, rfl, r1⟩
  have v1 := r1.is
  go_wp2_with fail
  refine (sub_ok (h.up r1.bel) r1.nt (by omega) (by rw [v1, hN]; exact h1)).mono ?_
  rintro e w2 ⟨A2, n2, c2, x2, rfl, r2⟩
  rw [v1, hN] at r2
  go_wp2_with fail
  go_ret
  exact ⟨_, _, _, _, rfl, r2.nt, r2.trm, r2.is, bthen r1.bel r2.bel⟩
set_option maxHeartbeats 1000000 in
theorem mayPrime_yes {w : World} {A : Option Addr} {n c N : Nat} {xs : List Nat} (h : Nt w w.heap.size A n c xs) (hN : val 18446744073709551616 xs = N) (hn : n ≤ 1000) (hb : bl N ≤ 512) (hp : primeN N b12 = true) :
    Calls Tryz.prog 28 #[.slice A n c] w fun e w' => e = .returned (.bool true) ∧ Below w.heap.size w w' := by
  have hbits := bits_any h (by omega)
  rw [hN] at hbits
  have Hbits := Lib.hid hbits
  have hpass := passes_any h hN (by omega)
  rw [hp] at hpass
  have Hpass := Lib.hid hpass
  clear hbits hpass hp
  generalize bl N = k at *
  go_enter Tryz.func28, Tryz.ntmps28
  go_wp2_with fail
  refine Hbits.out.mono ?_
  rintro e w1 ⟨rfl, rfl⟩
  go_wp2_with fail
  refine Hpass.out.mono ?_
  rintro e w1 ⟨rfl, b1⟩
  go_wp2_with fail
  go_ret
  exact ⟨rfl, b1⟩
set_option maxHeartbeats 1000000 in
theorem size_any {w : World} {v : Value} {N E D : Nat} (h : Pr w v N E D) :
    Calls Tryz.prog 27 #[v] w fun e w' => e = .returned (.int .i64 (((bl N + 7) / 8 : Nat) : Int)) ∧ Below w.heap.size w w' := by
  obtain ⟨A1, n1, c1, x1, A2, n2, c2, x2, A3, n3, c3, x3, rfl, h1', e1, l1, h2', e2, l2, h3', e3, l3⟩ := h.ex
  clear h
  obtain ⟨w0, e0⟩ : ∃ w0, w0 = w.alloc (.cells #[Value.slice A1 n1 c1, .slice A2 n2 c2, .slice A3 n3 c3] 26) := ⟨_, rfl⟩
  obtain ⟨hx0, b0⟩ := box_new e0
  have h1 := h1'.up b0
  have q0 := hx0.c0
  have hb := bits_any h1 (by omega)
  rw [e1] at hb
  have hble : bl N ≤ 6400 := by
    have hp := h1.below_pow l1
    rw [e1, base_pow] at hp
    set_option exponentiation.threshold 7000 in
    exact bl_le hp
  have hdiv : ((bl N : Int) + 7).tdiv 8 = (((bl N + 7) / 8 : Nat) : Int) := by
    rw [Int.tdiv_eq_ediv_of_nonneg (by omega)]; omega
  have hdiv2 : ((bl N : Int) + 7) / 8 = (((bl N + 7) / 8 : Nat) : Int) := by omega
  have Hb := Lib.hid hb
  clear hb h1' h2' h3'
  generalize bl N = k at *
  generalize (k + 7) / 8 = s at *
  go_enter Tryz.func27, Tryz.ntmps27
  go_wp2_with fail
  rw [← e0]
  clear e0
  refine Hb.out.mono ?_
  rintro e w1 ⟨rfl, rfl⟩
  go_wp2_with fail
  go_ret
  exact ⟨by simp [hdiv2], b0⟩
set_option maxHeartbeats 4000000 in
theorem kright_any {w : World} {v : Value} {N E D : Nat} (h : Pr w v N E D) (hN2 : N % 2 = 1) (hb1 : 16 ≤ bl N) (hb2 : bl N ≤ 1024) (hE2 : E % 2 = 1) (hE : 1 < E) (hEN : E < N) (hDN : D < N) :
    Calls Tryz.prog 33 #[v] w fun e w' => e = .returned (.int .i64 0) ∧ Below w.heap.size w w' := by
  obtain ⟨A1, n1, c1, x1, A2, n2, c2, x2, A3, n3, c3, x3, rfl, h1', e1, l1, h2', e2, l2, h3', e3, l3⟩ := h.ex
  clear h
  obtain ⟨w0, e0⟩ : ∃ w0, w0 = w.alloc (.cells #[Value.slice A1 n1 c1, .slice A2 n2 c2, .slice A3 n3 c3] 26) := ⟨_, rfl⟩
  obtain ⟨hx0, b0⟩ := box_new e0
  have h1 := h1'.up b0
  have h2 := h2'.up b0
  have h3 := h3'.up b0
  clear h1' h2' h3'
  have q0 := hx0.c0
  have q1 := hx0.c1
  have q2 := hx0.c2
  have hb := bits_any h1 (by omega)
  rw [e1] at hb
  have Hb := Lib.hid hb
  have Ho := Lib.hid (isOdd_yes h1 e1 hN2)
  have Ho2 := Lib.hid (isOdd_yes h2 e2 hE2)
  clear hb
  generalize bl N = k at *
  go_enter Tryz.func33, Tryz.ntmps33
  go_wp2_with fail
  rw [← e0]
  clear e0
  refine Hb.out.mono ?_
  rintro e w1 ⟨rfl, rfl⟩
  go_wp2_with fail
  refine Ho.out.mono ?_
  rintro e w1 ⟨rfl, rfl⟩
  go_wp2_with fail
  have hyd : Bx w0.drew w.heap.size (.slice A1 n1 c1) (.slice A2 n2 c2) (.slice A3 n3 c3) := ⟨hx0.lt, hx0.c0, hx0.c1, hx0.c2⟩
  have h1d := h1.drew
  have h2d := h2.drew
  have h3d := h3.drew
  have bd : Below w0.heap.size w0 w0.drew := (Below.refl _ _).drew
  have Ho2 := Lib.hid (isOdd_yes h2d e2 hE2)
  have z0 := hyd.c0
  have z1 := hyd.c1
  have hwd : ∀ d, Bx (w0.drewN d) w.heap.size (.slice A1 n1 c1) (.slice A2 n2 c2) (.slice A3 n3 c3) := fun d => hx0.dr d
  go_region_with ((first
      | (go_at_call 91; refine Ho2.out.mono ?_; rintro e w3 ⟨rfl, rfl⟩)
      | (go_at_call 23; refine (of_any 1 _ rfl (by omega) _).mono ?_; rintro e w4 ⟨A4, n4, c4, x4, rfl, r4⟩
         have g4 := hyd.up r4.bel
         have g40 := g4.c0
         have g41 := g4.c1
         have v4 := r4.is)
      | (go_at_call 26; with_reducible refine (cmp_gt (h2d.up r4.bel) r4.nt (by rw [e2, v4]; exact hE)).mono ?_; rintro e w5 ⟨rfl, d5, rfl⟩
         have g5 := g4.dr d5
         have g50 := g5.c0
         have g51 := g5.c1)
      | (go_at_call 26; with_reducible refine (cmp_lt ((h2d.up r4.bel).dr d5) ((h1d.up r4.bel).dr d5) (by rw [e2, e1]; exact hEN)).mono ?_; rintro e w6 ⟨rfl, d6, rfl⟩)))
  all_goals
    have y := g4.dr (d5 + d6)
    have y0 := y.c0
    have y1 := y.c1
    have y2 := y.c2
    have B6 := bdr (bthen bd r4.bel) (d5 + d6)
    go_wp2_with fail
    refine (cmp_lt ((h3d.up r4.bel).dr (d5 + d6)) ((h1d.up r4.bel).dr (d5 + d6)) (by rw [e3, e1]; exact hDN)).mono ?_
    rintro e w7 ⟨rfl, d7, rfl⟩
    have B7 := bdr (w1 := _) (bthen bd r4.bel) (d5 + d6 + d7)
    go_wp2_with fail
    go_ret
    exact ⟨rfl, bthen b0 B7⟩
end Go.Proofs.YtkhlmcknbangfaaGreatDoor
namespace Go.Proofs.YtkhlmcknbangfaaGreatDoor
open Go.RowKit
set_option linter.unusedVariables false
set_option maxRecDepth 100000

theorem mayPower_yes (e : Nat) (he : e < 18446744073709551616) (h1 : e % 2 = 1) (h2 : 3 ≤ e) (w : World) :
    Calls Tryz.prog 29 #[.int .u64 (e : Int)] w fun r w' => r = .returned (.bool true) ∧ w = w' := by
  have hm : ((e : Int) % 2 != 0) = true := by simp; omega
  have hm2 : ((e : Int).tmod 2) = 1 := by rw [Int.tmod_eq_emod_of_nonneg (by omega)]; omega
  have hm3 : ((e : Int) % 2) = 1 := by omega
  go_enter Tryz.func29, Tryz.ntmps29
  go_wp2_with fail
  go_ret
  exact ⟨by simp; omega, rfl⟩
set_option maxHeartbeats 1000000 in
theorem secret_any {w : World} {v : Value} {N E D : Nat} (h : Pr w v N E D) (hN2 : N % 2 = 1) (hb1 : 16 ≤ bl N) (hb2 : bl N ≤ 1024) (hE2 : E % 2 = 1) (hE : 1 < E) (hEN : E < N) (hDN : D < N) (hD : 0 < D) :
    Calls Tryz.prog 83 #[v] w fun e w' => e = .returned (.int .i64 0) ∧ Below w.heap.size w w' := by
  have hr := fun W (k : Pr W v N E D) => kright_any k hN2 hb1 hb2 hE2 hE hEN hDN
  have Hr := Lib.hid hr
  have Hh := Lib.hid h
  obtain ⟨A1, n1, c1, x1, A2, n2, c2, x2, A3, n3, c3, x3, rfl, h1', e1, l1, h2', e2, l2, h3', e3, l3⟩ := h.ex
  clear h hr
  obtain ⟨w0, e0⟩ : ∃ w0, w0 = w.alloc (.cells #[Value.slice A1 n1 c1, .slice A2 n2 c2, .slice A3 n3 c3] 26) := ⟨_, rfl⟩
  obtain ⟨hx0, b0⟩ := box_new e0
  have h3 := h3'.up b0
  have q0 := hx0.c0
  have q1 := hx0.c1
  have q2 := hx0.c2
  have hb := bits_any h3 (by omega)
  rw [e3] at hb
  have hp := bl_pos hD
  have Hb := Lib.hid hb
  clear hb h1' h2' h3' hb1 hb2
  generalize bl D = k at *
  have hk : ((k : Int) == 0) = false := by simp; omega
  go_enter Tryz.func83, Tryz.ntmps83
  go_wp2_with fail
  rw [← e0]
  clear e0
  refine Hb.out.mono ?_
  rintro e w1 ⟨rfl, rfl⟩
  go_wp2_with fail
  refine (Hr.out _ (Hh.out.up b0)).mono ?_
  rintro e w2 ⟨rfl, b2⟩
  go_wp2_with fail
  go_ret
  exact ⟨rfl, bthen b0 b2⟩
/-- 2 to the n, less one -/
theorem mersenne_of (fn : Nat) : True := trivial


end Go.Proofs.YtkhlmcknbangfaaGreatDoor
namespace Go.Proofs.YtkhlmcknbangfaaGreatDoor
open Go.RowKit
set_option linter.unusedVariables false
set_option maxRecDepth 100000

/-- limbs do not lie in a block of rows -/
theorem Nt.not_in {w : World} {B n c g : Nat} {A : Option Addr} {xs : List Nat} {t : TypeId} {A1 A2 A3 : Option Addr} {n1 c1 n2 c2 n3 c3 : Nat} (h : Nt w B A n c xs) (hx : w.heap[g]? = some (.cells #[.slice A1 n1 c1, .slice A2 n2 c2, .slice A3 n3 c3] t (0, 0))) :
    0 < n → ∀ b off, A = some ⟨b, off, none⟩ → b ≠ g := fun h0 b off e hb => by
  subst hb
  obtain ⟨b', off', e', _, hc⟩ := h.at_ h0
  rw [e] at e'
  cases e'
  rw [cell_of_row w b (off + 0) _ t (0, 0) hx] at hc
  have : off = 0 ∨ off = 1 ∨ off = 2 ∨ 3 ≤ off := by omega
  rcases this with rfl | rfl | rfl | h3
  · simp at hc
  · simp at hc
  · simp at hc
  · rw [Array.getElem?_eq_none (by simp; omega)] at hc
    cases hc
def MakeIs (p q e : Nat) (w : World) (r : Ending) (w' : World) : Prop :=
  ∃ A1 n1 c1 x1 A2 n2 c2 x2 A3 n3 c3 x3 d, r = .returned (.tuple #[.agg #[.slice A1 n1 c1, .slice A2 n2 c2, .slice A3 n3 c3], .int .i64 0]) ∧
    Nt w' w'.heap.size A1 n1 c1 x1 ∧ val 18446744073709551616 x1 = p * q ∧ n1 ≤ 100 ∧ Nt w' w'.heap.size A2 n2 c2 x2 ∧ val 18446744073709551616 x2 = e ∧ n2 ≤ 100 ∧ Nt w' w'.heap.size A3 n3 c3 x3 ∧ val 18446744073709551616 x3 = d ∧ n3 ≤ 100 ∧
    Trm x3 ∧ d < (p - 1) * (q - 1) ∧ e * d % ((p - 1) * (q - 1)) = 1 ∧ Below w.heap.size w w'
set_option maxHeartbeats 8000000 in
theorem make_any {w : World} {Ap Aq : Option Addr} {np cp nq cq p q : Nat} {xp xq : List Nat} (hp : Nt w w.heap.size Ap np cp xp) (hq : Nt w w.heap.size Aq nq cq xq) (ep : val 18446744073709551616 xp = p) (eq : val 18446744073709551616 xq = q)
    (lp : np ≤ 20) (lq : nq ≤ 20) (e : Nat) (he : e < 18446744073709551616) (bp : bl p ≤ 512) (bq : bl q ≤ 512) (pp : primeN p b12 = true) (pq : primeN q b12 = true) (hne : p ≠ q) (he2 : e % 2 = 1) (he3 : 3 ≤ e)
    (hg : Nat.gcd e ((p - 1) * (q - 1)) = 1) (hphi : 1 < (p - 1) * (q - 1)) (ho : p * q % 2 = 1) (hb1 : 16 ≤ bl (p * q)) (hb2 : bl (p * q) ≤ 1024) (heN : e < p * q) :
    Calls Tryz.prog 8 #[.slice Ap np cp, .slice Aq nq cq, .int .u64 (e : Int)] w (MakeIs p q e w) := by
  have hp2 := primeN_two pp
  have hq2 := primeN_two pq
  have Pp := Lib.hid pp
  have Pq := Lib.hid pq
  have Hg := Lib.hid hg
  have Ho := Lib.hid ho
  have Bp := Lib.hid bp
  have Bq := Lib.hid bq
  have Hb1 := Lib.hid hb1
  have Hb2 := Lib.hid hb2
  have hphiN : (p - 1) * (q - 1) ≤ p * q := Nat.mul_le_mul (Nat.sub_le _ _) (Nat.sub_le _ _)
  have fp := hp.below_pow lp
  have fq := hq.below_pow lq
  rw [ep] at fp
  rw [eq] at fq
  have Fp := Lib.hid fp
  have Fq := Lib.hid fq
  have Fn := Lib.hid (mul_pow fp fq)
  have hs : sgn (p : Int) (q : Int) ≠ 0 := sgn_ne hne
  clear pp pq hg ho bp bq hb1 hb2 fp fq
  obtain ⟨φ, hφ⟩ : ∃ φ, (p - 1) * (q - 1) = φ := ⟨_, rfl⟩
  obtain ⟨M, hM⟩ : ∃ M, p * q = M := ⟨_, rfl⟩
  rw [hφ] at Hg hphi hphiN
  rw [hM] at Ho Hb1 Hb2 heN hphiN Fn
  unfold MakeIs
  rw [hφ, hM]
  have Hφ := Lib.hid hφ
  have HM := Lib.hid hM
  clear hφ hM
  obtain ⟨w0, e0⟩ : ∃ w0, w0 = w.alloc (.cells #[Value.slice none 0 0, .slice none 0 0, .slice none 0 0] 26) := ⟨_, rfl⟩
  have hx0 : w0.heap[w.heap.size]? = some (.cells #[Value.slice none 0 0, .slice none 0 0, .slice none 0 0] 26 (0, 0)) := e0 ▸ heap_alloc_new w _
  have hs0 : w.heap.size < w0.heap.size := by rw [e0]; simp
  have b0 : Below w.heap.size w w0 := e0 ▸ (Below.refl _ w).alloc (Nat.le_refl _) _
  have hp := hp.up b0
  have hq := hq.up b0
  go_enter Tryz.func8, Tryz.ntmps8
  go_wp2_with fail
  rw [← e0]
  clear e0
  refine (mayPrime_yes hp ep (by omega) Bp.out Pp.out).mono ?_
  rintro r w1 ⟨rfl, b1⟩
  go_wp2_with fail
  refine (mayPrime_yes (hq.up b1) eq (by omega) Bq.out Pq.out).mono ?_
  rintro r w2 ⟨rfl, b2⟩
  have B2 := bthen b1 b2
  have hc := cmp_any (hp.up B2) (hq.up B2)
  rw [ep, eq] at hc
  obtain ⟨s, hse⟩ : ∃ s, sgn (p : Int) (q : Int) = s := ⟨_, rfl⟩
  rw [hse] at hs hc
  have hs' : (s == 0) = false := by simpa using hs
  have Hc := Lib.hid hc
  clear hc hse
  go_wp2_with fail
  refine Hc.out.mono ?_
  rintro r w3 ⟨rfl, d3, rfl⟩
  have B3 := bdr B2 d3
  go_wp2_with fail
  refine (mayPower_yes e he he2 he3 _).mono ?_
  rintro r w4 ⟨rfl, rfl⟩
  go_wp2_with fail
  refine (of_any e _ rfl he _).mono ?_
  rintro r w5 ⟨A5, n5, c5, x5, rfl, r5⟩
  have v5 := r5.is
  have l5 : n5 ≤ 1 := r5.le (by omega)
  have B5 := bthen B3 r5.bel
  go_wp2_with fail
  refine (klessOne_any (hp.up B5) ep (by omega) (by omega)).mono ?_
  rintro r w6 ⟨A6, n6, c6, x6, rfl, r6⟩
  have v6 := r6.is
  have l6 : n6 ≤ 20 := r6.le (Nat.lt_of_le_of_lt (Nat.sub_le _ _) Fp.out)
  have B6 := bthen B5 r6.bel
  go_wp2_with fail
  refine (klessOne_any (hq.up B6) eq (by omega) (by omega)).mono ?_
  rintro r w7 ⟨A7, n7, c7, x7, rfl, r7⟩
  have v7 := r7.is
  have l7 : n7 ≤ 20 := r7.le (Nat.lt_of_le_of_lt (Nat.sub_le _ _) Fq.out)
  have B7 := bthen B6 r7.bel
  go_wp2_with fail
  refine (mul_any (r6.nt.up r7.bel) r7.nt (by omega) (by omega)).mono ?_
  rintro r w8 ⟨A8, n8, c8, x8, rfl, r8⟩
  rw [v6, v7, Hφ.out] at r8
  have v8 := r8.is
  have l8 : n8 ≤ 40 := r8.le (Nat.lt_of_le_of_lt hphiN Fn.out)
  have B8 := bthen B7 r8.bel
  have m5 := ((r5.nt.up r6.bel).up r7.bel).up r8.bel
  go_wp2_with fail
  refine (inverse_yes m5 r8.nt (by omega) (by omega) (by rw [v8]; omega) (by rw [v5, v8]; exact Hg.out)).mono ?_
  rintro r w9 ⟨d, hd, hde, A9, n9, c9, x9, rfl, r9⟩
  rw [v8] at hd hde
  rw [v5, Nat.mod_eq_of_lt hphi] at hde
  have Hde := Lib.hid hde
  clear hde
  have v9 := r9.is
  have l9 : n9 ≤ 40 := r9.le (Nat.lt_trans hd (Nat.lt_of_le_of_lt hphiN Fn.out))
  have B9 := bthen B8 r9.bel
  go_wp2_with fail
  refine (mul_any (hp.up B9) (hq.up B9) (by omega) (by omega)).mono ?_
  rintro r w10 ⟨A10, n10, c10, x10, rfl, r10⟩
  rw [ep, eq, HM.out] at r10
  have l10 : n10 ≤ 40 := r10.le Fn.out
  have B10 := bthen B9 r10.bel
  go_wp2_with fail
  refine (of_any e _ rfl he _).mono ?_
  rintro r w11 ⟨A11, n11, c11, x11, rfl, r11⟩
  have l11 : n11 ≤ 1 := r11.le (by omega)
  have B11 := bthen B10 r11.bel
  obtain ⟨w12, e12⟩ : ∃ w12, w12 = w11.alloc (.cells #[Value.slice A10 n10 c10, .slice A11 n11 c11, .slice A9 n9 c9] 26) := ⟨_, rfl⟩
  obtain ⟨hb12, b12'⟩ := box_new e12
  have B12 := bthen B11 b12'
  have t1 := (r10.nt.up r11.bel).up b12'
  have t2 := r11.nt.up b12'
  have t3 := ((r9.nt.up r10.bel).up r11.bel).up b12'
  have hk : Pr w12 (.agg #[.slice A10 n10 c10, .slice A11 n11 c11, .slice A9 n9 c9]) M e d :=
    ⟨_, _, _, _, _, _, _, _, _, _, _, _, rfl, t1, r10.is, by omega, t2, r11.is, by omega, t3, r9.is, by omega⟩
  have hr := kright_any hk Ho.out Hb1.out Hb2.out he2 (by omega) heN (Nat.lt_of_lt_of_le hd hphiN)
  have Hr := Lib.hid hr
  clear hr hk
  go_wp2_with fail
  rw [← e12]
  clear e12
  refine Hr.out.mono ?_
  rintro r w13 ⟨rfl, b13⟩
  have B13 := bthen B12 b13
  have hy := hb12.up b13
  have y0 := hy.c0
  have y1 := hy.c1
  have y2 := hy.c2
  have hx := (B13.block w.heap.size hs0).trans hx0
  obtain ⟨q0, q1, q2, q3, q4, q5⟩ := three_cells hx
  have hs11 := B11.size
  go_wp2_with fail
  have hg2 := three_fin (v1 := .slice A10 n10 c10) (v2 := .slice A11 n11 c11) (v3 := .slice A9 n9 c9) hx
  refine bodyPost_ret (v := .tuple #[.agg #[.slice A10 n10 c10, .slice A11 n11 c11, .slice A9 n9 c9], .int .i64 0]) (by rw [results_cell_tmp rfl]; simp [asAddr, run_loadVar_row _ w.heap.size 26 26 _ (0, 0) _ hg2 Tryz.underlying26 rfl (by kernel_rfl)]) rfl ?_
  have B13' := bthen b0 B13
  have hb := ((B13'.setCell (p := ⟨w.heap.size, 0, none⟩) (by simp) (.slice A10 n10 c10)).setCell (p := ⟨w.heap.size, 1, none⟩) (by simp) (.slice A11 n11 c11)).setCell (p := ⟨w.heap.size, 2, none⟩) (by simp) (.slice A9 n9 c9)
  have z5 := B3.size
  have z9 := B8.size
  have z10 := B9.size
  have z11 := B10.size
  exact ⟨_, _, _, _, _, _, _, _, _, _, _, _, d, rfl, (t1.up b13).away3 (B := 0) (r10.ne (by omega)), r10.is, by omega, (t2.up b13).away3 (B := 0) (r11.ne (by omega)), r11.is, by omega, (t3.up b13).away3 (B := 0) ((t3.up b13).not_in hx), r9.is, by omega, r9.trm, hd, Hde.out, hb⟩
end Go.Proofs.YtkhlmcknbangfaaGreatDoor
namespace Go.Proofs.YtkhlmcknbangfaaGreatDoor
open Go.RowKit
set_option linter.unusedVariables false
set_option maxRecDepth 100000

theorem i64_and1 (n : Int) : bits .and .i64 n 1 = n % 2 := by
  have h1 : (BitVec.ofInt 64 1).toNat = 2 ^ 1 - 1 := by decide
  have key : (BitVec.ofInt 64 n &&& BitVec.ofInt 64 1).toNat = (n % ((2 ^ 64 : Nat) : Int)).toNat % 2 ^ 1 := by
    rw [BitVec.toNat_and, BitVec.toNat_ofInt, h1, Nat.and_two_pow_sub_one_eq_mod]
  show IntKind.i64.wrap ((BitVec.ofInt 64 n &&& BitVec.ofInt 64 1).toNat : Nat) = n % 2
  rw [key, IntKind.wrap_i64]
  omega
theorem prime_untold_prm {n base : Nat} (hp : Prm n) : tellsN n base = false := by
  have h2 := hp.1
  by_cases hev : n % 2 = 0 ∨ n < 2
  · rw [tells_even hev]
    have : n = 2 := by
      rcases hp.2 2 (Nat.dvd_of_mod_eq_zero (by omega)) with h | h <;> omega
    rw [this]; rfl
  · unfold tellsN
    rw [if_neg hev]
    split
    · rfl
    · rename_i hb
      obtain ⟨h1, _⟩ := tz_spec (a := n - 1) (by omega)
      have hd : (n - 1) / 2 ^ tz (n - 1) * 2 ^ tz (n - 1) = n - 1 := Nat.div_mul_cancel (Nat.dvd_of_mod_eq_zero h1)
      rcases hp.passes hb hd with h3 | h3
      · simp [h3]
      · rw [h3]; simp
/-- a prime passes -/
theorem prm_passes {n : Nat} (h : Prm n) : primeN n b12 = true := by
  unfold primeN
  simp only [Bool.and_eq_true, decide_eq_true_eq, Bool.not_eq_true']
  refine ⟨h.1, ?_⟩
  rw [Bool.eq_false_iff]
  intro hc
  rw [List.any_eq_true] at hc
  obtain ⟨b, _, hb⟩ := hc
  rw [prime_untold_prm h] at hb
  cases hb
set_option maxHeartbeats 1000000 in
theorem sign_short {w : World} {v : Value} {N E D : Nat} (h : Pr w v N E D) (hN2 : N % 2 = 1) (hb1 : 16 ≤ bl N) (hb2 : bl N ≤ 208) (hE2 : E % 2 = 1) (hE : 1 < E) (hEN : E < N) (hDN : D < N) (hD : 0 < D) (A : Option Addr) (n c : Nat) :
    Calls Tryz.prog 25 #[v, .slice A n c] w fun e w' => e = .returned (.tuple #[.slice none 0 0, .int .i64 51]) ∧ Below w.heap.size w w' := by
  have hr := fun W (k : Pr W v N E D) => secret_any k hN2 hb1 (by omega) hE2 hE hEN hDN hD
  have hsz := fun W (k : Pr W v N E D) => size_any k
  have Hr := Lib.hid hr
  have Hsz := Lib.hid hsz
  have Hh := Lib.hid h
  obtain ⟨A1, n1, c1, x1, A2, n2, c2, x2, A3, n3, c3, x3, rfl, h1', e1, l1, h2', e2, l2, h3', e3, l3⟩ := h.ex
  clear h hr hsz
  obtain ⟨w0, e0⟩ : ∃ w0, w0 = w.alloc (.cells #[Value.slice A1 n1 c1, .slice A2 n2 c2, .slice A3 n3 c3] 26) := ⟨_, rfl⟩
  obtain ⟨hx0, b0⟩ := box_new e0
  have q0 := hx0.c0
  have q1 := hx0.c1
  have q2 := hx0.c2
  have hk : (bl N + 7) / 8 ≤ 0x1a := by omega
  clear h1' h2' h3' hb1 hb2
  generalize (bl N + 7) / 8 = k at *
  go_enter Tryz.func25, Tryz.ntmps25
  go_wp2_with fail
  rw [← e0]
  clear e0
  refine (Hr.out _ (Hh.out.up b0)).mono ?_
  rintro e w2 ⟨rfl, b2⟩
  have hy := hx0.up b2
  have y0 := hy.c0
  have y1 := hy.c1
  have y2 := hy.c2
  go_wp2_with fail
  refine (Hsz.out _ ((Hh.out.up b0).up b2)).mono ?_
  rintro e w3 ⟨rfl, b3⟩
  go_wp2_with fail
  go_ret2
  exact ⟨rfl, bthen b0 (bthen b2 b3)⟩
theorem prm_m127 : Prm (2 ^ 127 - 1) := (show (2 ^ 127 - 1 : Nat) = 170141183460469231731687303715884105727 by decide) ▸ prm_127
theorem prm_m107 : Prm (2 ^ 107 - 1) := (show (2 ^ 107 - 1 : Nat) = 162259276829213363391578010288127 by decide) ▸ prm_107
theorem prm_m89 : Prm (2 ^ 89 - 1) := (show (2 ^ 89 - 1 : Nat) = 618970019642690137449562111 by decide) ▸ prm_89
theorem make_127_107 {w : World} {A1 A2 : Option Addr} {n1 c1 n2 c2 p q : Nat} {x1 x2 : List Nat} (h1 : Nt w w.heap.size A1 n1 c1 x1) (h2 : Nt w w.heap.size A2 n2 c2 x2) (e1 : val 18446744073709551616 x1 = p) (e2 : val 18446744073709551616 x2 = q) (l1 : n1 ≤ 20) (l2 : n2 ≤ 20) (hp : p = 2 ^ 127 - 1) (hq : q = 2 ^ 107 - 1) :
    Calls Tryz.prog 8 #[.slice A1 n1 c1, .slice A2 n2 c2, .int .u64 65537] w (MakeIs p q 65537 w) := by
  subst hp
  subst hq
  exact make_any h1 h2 e1 e2 l1 l2 65537 (by omega) (by decide +kernel) (by decide +kernel) (prm_passes prm_m127) (prm_passes prm_m107) (by decide +kernel) (by omega) (by omega) (by decide +kernel) (by decide +kernel) (by decide +kernel) (by decide +kernel) (by decide +kernel) (by decide +kernel)
theorem make_127_89 {w : World} {A1 A2 : Option Addr} {n1 c1 n2 c2 p q : Nat} {x1 x2 : List Nat} (h1 : Nt w w.heap.size A1 n1 c1 x1) (h2 : Nt w w.heap.size A2 n2 c2 x2) (e1 : val 18446744073709551616 x1 = p) (e2 : val 18446744073709551616 x2 = q) (l1 : n1 ≤ 20) (l2 : n2 ≤ 20) (hp : p = 2 ^ 127 - 1) (hq : q = 2 ^ 89 - 1) :
    Calls Tryz.prog 8 #[.slice A1 n1 c1, .slice A2 n2 c2, .int .u64 65537] w (MakeIs p q 65537 w) := by
  subst hp
  subst hq
  exact make_any h1 h2 e1 e2 l1 l2 65537 (by omega) (by decide +kernel) (by decide +kernel) (prm_passes prm_m127) (prm_passes prm_m89) (by decide +kernel) (by omega) (by omega) (by decide +kernel) (by decide +kernel) (by decide +kernel) (by decide +kernel) (by decide +kernel) (by decide +kernel)
theorem make_89_127 {w : World} {A1 A2 : Option Addr} {n1 c1 n2 c2 p q : Nat} {x1 x2 : List Nat} (h1 : Nt w w.heap.size A1 n1 c1 x1) (h2 : Nt w w.heap.size A2 n2 c2 x2) (e1 : val 18446744073709551616 x1 = p) (e2 : val 18446744073709551616 x2 = q) (l1 : n1 ≤ 20) (l2 : n2 ≤ 20) (hp : p = 2 ^ 89 - 1) (hq : q = 2 ^ 127 - 1) :
    Calls Tryz.prog 8 #[.slice A1 n1 c1, .slice A2 n2 c2, .int .u64 65537] w (MakeIs p q 65537 w) := by
  subst hp
  subst hq
  exact make_any h1 h2 e1 e2 l1 l2 65537 (by omega) (by decide +kernel) (by decide +kernel) (prm_passes prm_m89) (prm_passes prm_m127) (by decide +kernel) (by omega) (by omega) (by decide +kernel) (by decide +kernel) (by decide +kernel) (by decide +kernel) (by decide +kernel) (by decide +kernel)
theorem mers_le {n p : Nat} (hp : p = 2 ^ n - 1) (hn : n ≤ 1000) : p < 18446744073709551616 ^ 20 := by
  rw [hp, base_pow]
  have := Nat.pow_le_pow_right (show 0 < 2 by omega) (show n ≤ 64 * 20 by omega)
  have := Nat.two_pow_pos n
  omega


end Go.Proofs.YtkhlmcknbangfaaGreatDoor
namespace Go.Proofs.YtkhlmcknbangfaaGreatDoor
open Go.RowKit
set_option linter.unusedVariables false
set_option maxRecDepth 100000

theorem make_small {w : World} {A1 A2 : Option Addr} {n1 c1 n2 c2 : Nat} {x1 x2 : List Nat} (h1 : Nt w w.heap.size A1 n1 c1 x1) (h2 : Nt w w.heap.size A2 n2 c2 x2) (e1 : val 18446744073709551616 x1 = 251) (e2 : val 18446744073709551616 x2 = 257) (l1 : n1 ≤ 20) (l2 : n2 ≤ 20) :
    Calls Tryz.prog 8 #[.slice A1 n1 c1, .slice A2 n2 c2, .int .u64 17] w (MakeIs 251 257 17 w) :=
  make_any h1 h2 e1 e2 l1 l2 17 (by omega) (by decide +kernel) (by decide +kernel) (by decide +kernel) (by decide +kernel) (by decide +kernel) (by omega) (by omega) (by decide +kernel) (by decide +kernel) (by decide +kernel) (by decide +kernel) (by decide +kernel) (by decide +kernel)
theorem d_small {d : Nat} (h : d < (251 - 1) * (257 - 1)) (hd : 17 * d % ((251 - 1) * (257 - 1)) = 1) : d = 26353 := by omega
theorem sha_nil : Sh.sha [] = [227, 176, 196, 0x42, 152, 252, 28, 20, 154, 251, 244, 200, 153, 111, 185, 36, 0x27, 174, 65, 228, 100, 155, 147, 76, 164, 149, 153, 27, 120, 82, 184, 85] := by decide +kernel
theorem index_nil (W : World) : (Instr.index 75 (.agg (Sh.bs [227, 176, 196, 0x42, 152, 252, 28, 20, 154, 251, 244, 200, 153, 111, 185, 36, 0x27, 174, 65, 228, 100, 155, 147, 76, 164, 149, 153, 27, 120, 82, 184, 85]).toArray) (.int .i64 0)).run Tryz.prog W = .ok (.int .u8 227) W := by rfl
set_option maxHeartbeats 4000000 in
theorem alive03_any {w : World} (hk : Sh.Ks w) : Calls Tryz.prog 20 #[] w (Yes w) := by
  have hK : ∀ W, Sh.Ks W → Calls Tryz.prog 70 #[.slice none 0 0] W fun e w' => e = .returned (.agg (Sh.bs (Sh.sha [])).toArray) ∧ Below W.heap.size W w' := fun W hW => Sh.sum_any hW (nb_nil W W.heap.size).sh (by omega)
  have HK := Lib.hid hK
  clear hK
  go_enter Tryz.func20, Tryz.ntmps20
  go_wp2_with fail
  refine (of_any 251 _ rfl (by omega) _).mono ?_
  rintro e w1 ⟨A1, n1, c1, x1, rfl, r1⟩
  have l1 : n1 ≤ 1 := r1.le (by omega)
  go_wp2_with fail
  refine (of_any 257 _ rfl (by omega) _).mono ?_
  rintro e w2 ⟨A2, n2, c2, x2, rfl, r2⟩
  have l2 : n2 ≤ 1 := r2.le (by omega)
  have m1 := r1.nt.up r2.bel
  have hm := make_small m1 r2.nt r1.is r2.is (by omega) (by omega)
  have Hm := Lib.hid hm
  clear hm
  go_wp2_with fail
  refine Hm.out.mono ?_
  rintro e w3 ⟨K1, k1, t1, y1, K2, k2, t2, y2, K3, k3, t3, y3, d, rfl, N1, v1, b1, N2, v2, b2, N3, v3, b3, ht, hd, hde, bel⟩
  have hdd := d_small hd hde
  subst hdd
  clear hd hde
  have hone := len_one ht N3.lim v3 (by omega) (by omega)
  have hk3 : k3 = 1 := by rw [← N3.len, hone]; rfl
  subst hone
  subst hk3
  have B3 := bthen (bthen r1.bel r2.bel) bel
  obtain ⟨w4, e4⟩ : ∃ w4, w4 = w3.alloc (.cells #[Value.slice K1 k1 t1, .slice K2 k2 t2, .slice K3 1 t3] 26) := ⟨_, rfl⟩
  obtain ⟨hb4, b4⟩ := box_new e4
  have p4 : Pr w4 (.agg #[.slice K1 k1 t1, .slice K2 k2 t2, .slice K3 1 t3]) 64507 17 26353 := ⟨_, _, _, _, _, _, _, _, _, _, _, _, rfl, N1.up b4, v1, b1, N2.up b4, v2, b2, N3.up b4, v3, b3⟩
  have hs := fun A n c => sign_short p4 (by omega) (by decide +kernel) (by decide +kernel) (by omega) (by omega) (by omega) (by omega) (by omega) A n c
  have Hs := Lib.hid hs
  have q0 := hb4.c0
  have q1 := hb4.c1
  have q2 := hb4.c2
  have M3 := N3.up b4
  have B4 := bthen B3 b4
  have HV := Lib.hid v3
  clear hs p4 v1 v2 v3 ht Hm
  go_wp2_with fail
  rw [← e4]
  clear e4
  refine (Hs.out _ _ _).mono ?_
  rintro e w5 ⟨rfl, b5⟩
  have hb5 := hb4.up b5
  have y0 := hb5.c0
  have y1 := hb5.c1
  have y2 := hb5.c2
  have M5 := M3.up b5
  have B5 := bthen B4 b5
  obtain ⟨bb, off, rfl, hbb, hc⟩ := M5.at_ (k := 0) (by omega)
  have hc' : w5.cell? ⟨bb, off, none⟩ = some (.int .u64 26353) := hc
  clear hc
  have k5 := ((((hk.bel r1.bel).bel r2.bel).bel bel).bel b4).bel b5
  go_wp2_with fail
  refine (HK.out _ k5).mono ?_
  rintro e w6 ⟨rfl, b6⟩
  have hi := index_nil
  rw [sha_nil]
  have B6 := bthen B5 b6
  go_wp2_with fail
  go_ret
  exact ⟨rfl, B6⟩
end Go.Proofs.YtkhlmcknbangfaaGreatDoor
