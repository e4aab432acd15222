/- What the statements share: heavy, alive. -/
import Derived.Test.YtnnnahhgpmkfbaaM15
namespace Go.Proofs.Ytnnnahhgpmkfbaa
open Go.RowKit
set_option linter.unusedVariables false
set_option maxRecDepth 100000

theorem heavy_yes (A : Option Addr) (n c : Nat) (h : 5 < n) (h2 : n ≤ 9223372036854775807) (w : World) : Calls Try.prog 11 #[.slice A n c] w fun e w' => e = .returned (.bool true) ∧ w = w' := by
  have h' : (5 : Int) < (n : Int) := by omega
  go_enter Try.func11, Try.ntmps11
  go_wp2
  go_ret
  exact ⟨by simp, rfl⟩
theorem heavy_no (A : Option Addr) (n c : Nat) (h : n ≤ 5) (w : World) : Calls Try.prog 11 #[.slice A n c] w fun e w' => e = .returned (.bool false) ∧ w = w' := by
  have h' : (n : Int) ≤ 5 := by omega
  go_enter Try.func11, Try.ntmps11
  go_wp2
  go_ret
  exact ⟨by simp; omega, rfl⟩

set_option maxHeartbeats 4000000 in
theorem alive_any (w : World) : Calls Try.prog 12 #[] w (Yes w) := by
  go_enter Try.func12, Try.ntmps12
  go_wp2_with fail
  refine (of_any 3 _ rfl (by omega) _).mono ?_
  rintro e W1 ⟨A1, n1, c1, x1, rfl, r1⟩
  have l1 := r1.le (k := 1) (by omega)
  have v1 := r1.is
  have t1 := r1.trm
  have B1 := r1.bel
  go_wp2_with fail
  refine (of_any 5 _ rfl (by omega) _).mono ?_
  rintro e W2 ⟨A2, n2, c2, x2, rfl, r2⟩
  have l2 := r2.le (k := 1) (by omega)
  have v2 := r2.is
  have t2 := r2.trm
  have N2a := r1.nt.up r2.bel
  have B2 := bthen B1 r2.bel
  go_wp2_with fail
  refine (of_any 7 _ rfl (by omega) _).mono ?_
  rintro e W3 ⟨A3, n3, c3, x3, rfl, r3⟩
  have l3 := r3.le (k := 1) (by omega)
  have v3 := r3.is
  have t3 := r3.trm
  have N3a := N2a.up r3.bel
  have N3b := r2.nt.up r3.bel
  have B3 := bthen B2 r3.bel
  go_wp2_with fail
  refine (mpow_pos N3a N3b r3.nt (by omega) (by omega) (by omega) (by omega)).mono ?_
  rintro e W4 ⟨A4, n4, c4, x4, rfl, r4⟩
  rw [v1, v2, v3, show 3 ^ 5 % 7 = 5 by decide] at r4
  have l4 := r4.le (k := 1) (by omega)
  have v4 := r4.is
  have t4 := r4.trm
  have N4a := N3a.up r4.bel
  have N4b := N3b.up r4.bel
  have N4c := r3.nt.up r4.bel
  have B4 := bthen B3 r4.bel
  go_wp2_with fail
  refine (of_any 3 _ rfl (by omega) _).mono ?_
  rintro e W5 ⟨A5, n5, c5, x5, rfl, r5⟩
  have l5 := r5.le (k := 1) (by omega)
  have v5 := r5.is
  have t5 := r5.trm
  have N5p := r4.nt.up r5.bel
  have B5 := bthen B4 r5.bel
  go_wp2_with fail
  refine (of_any 7 _ rfl (by omega) _).mono ?_
  rintro e W6 ⟨A6, n6, c6, x6, rfl, r6⟩
  have l6 := r6.le (k := 1) (by omega)
  have v6 := r6.is
  have t6 := r6.trm
  have N6p := N5p.up r6.bel
  have N6a := r5.nt.up r6.bel
  have B6 := bthen B5 r6.bel
  go_wp2_with fail
  refine (inverse_yes N6a r6.nt (by omega) (by omega) (by omega) (by rw [v5, v6]; decide)).mono ?_
  rintro e W7 ⟨f, hf, hfe, A7, n7, c7, x7, rfl, r7⟩
  have l7 := r7.le (k := 1) (by omega)
  have v7 := r7.is
  have t7 := r7.trm
  have N7p := N6p.up r7.bel
  have N7a := N6a.up r7.bel
  have N7c := r6.nt.up r7.bel
  have B7 := bthen B6 r7.bel
  rw [v6] at hf hfe
  rw [v5] at hfe
  have hf5 : f = 5 := by omega
  rw [hf5] at v7
  go_wp2_with fail
  refine (of_any 3 _ rfl (by omega) _).mono ?_
  rintro e W8 ⟨A8, n8, c8, x8, rfl, r8⟩
  have l8 := r8.le (k := 1) (by omega)
  have v8 := r8.is
  have t8 := r8.trm
  have N8p := N7p.up r8.bel
  have N8i := r7.nt.up r8.bel
  have B8 := bthen B7 r8.bel
  go_wp2_with fail
  refine (mod_nil r8.nt (nt_nil _ _) (by omega) rfl).mono ?_
  rintro e W9 ⟨rfl, b9⟩
  have N9p := N8p.up b9
  have N9i := N8i.up b9
  have N9a := r8.nt.up b9
  have B9 := bthen B8 b9
  go_wp2_with fail
  refine (of_any 5 _ rfl (by omega) _).mono ?_
  rintro e W10 ⟨A10, n10, c10, x10, rfl, r10⟩
  have l10 := r10.le (k := 1) (by omega)
  have v10 := r10.is
  have t10 := r10.trm
  have N10p := N9p.up r10.bel
  have N10i := N9i.up r10.bel
  have B10 := bthen B9 r10.bel
  go_wp2_with fail
  refine (cmp_eq N10p r10.nt (by rw [v4, v10])).mono ?_
  rintro e W11 ⟨rfl, d11, rfl⟩
  have N11p := N10p.dr d11
  have N11i := N10i.dr d11
  have N11q := r10.nt.dr d11
  have B11 := bdr B10 d11
  go_wp2_with fail
  refine (of_any 5 _ rfl (by omega) _).mono ?_
  rintro e W12 ⟨A12, n12, c12, x12, rfl, r12⟩
  have l12 := r12.le (k := 1) (by omega)
  have v12 := r12.is
  have t12 := r12.trm
  have N12i := N11i.up r12.bel
  have B12 := bthen B11 r12.bel
  go_wp2_with fail
  refine (cmp_eq N12i r12.nt (by rw [v7, v12])).mono ?_
  rintro e W13 ⟨rfl, d13, rfl⟩
  have N13i := N12i.dr d13
  have N13q := r12.nt.dr d13
  have B13 := bdr B12 d13
  go_wp2_with fail
  refine (of_any 12 _ rfl (by omega) _).mono ?_
  rintro e W14 ⟨A14, n14, c14, x14, rfl, r14⟩
  have l14 := r14.le (k := 1) (by omega)
  have v14 := r14.is
  have t14 := r14.trm
  have B14 := bthen B13 r14.bel
  go_wp2_with fail
  refine (of_any 18 _ rfl (by omega) _).mono ?_
  rintro e W15 ⟨A15, n15, c15, x15, rfl, r15⟩
  have l15 := r15.le (k := 1) (by omega)
  have v15 := r15.is
  have t15 := r15.trm
  have N15a := r14.nt.up r15.bel
  have B15 := bthen B14 r15.bel
  go_wp2_with fail
  refine (mgcd_any N15a r15.nt (by omega) (by omega)).mono ?_
  rintro e W16 ⟨A16, n16, c16, x16, rfl, r16⟩
  rw [v14, v15, show Nat.gcd 12 18 = 6 by decide] at r16
  have l16 := r16.le (k := 1) (by omega)
  have v16 := r16.is
  have t16 := r16.trm
  have N16a := N15a.up r16.bel
  have N16b := r15.nt.up r16.bel
  have B16 := bthen B15 r16.bel
  go_wp2_with fail
  refine (of_any 6 _ rfl (by omega) _).mono ?_
  rintro e W17 ⟨A17, n17, c17, x17, rfl, r17⟩
  have l17 := r17.le (k := 1) (by omega)
  have v17 := r17.is
  have t17 := r17.trm
  have N17g := r16.nt.up r17.bel
  have B17 := bthen B16 r17.bel
  go_wp2_with fail
  refine (cmp_eq N17g r17.nt (by rw [v16, v17])).mono ?_
  rintro e W18 ⟨rfl, d18, rfl⟩
  have N18g := N17g.dr d18
  have N18q := r17.nt.dr d18
  have B18 := bdr B17 d18
  go_wp2_with fail
  refine (of_any 9 _ rfl (by omega) _).mono ?_
  rintro e W19 ⟨A19, n19, c19, x19, rfl, r19⟩
  have l19 := r19.le (k := 1) (by omega)
  have v19 := r19.is
  have t19 := r19.trm
  have B19 := bthen B18 r19.bel
  go_wp2_with fail
  refine (tells_any r19.nt (by omega) 2 (by omega)).mono ?_
  rintro e W20 ⟨rfl, b20⟩
  rw [v19, show tellsN 9 2 = true by decide +kernel]
  have N20n := r19.nt.up b20
  have B20 := bthen B19 b20
  go_wp2_with fail
  refine (sure_any 7 (by omega) _).mono ?_
  rintro e W21 ⟨rfl, rfl⟩
  rw [show isP 7 = true by decide +kernel]
  go_wp2_with fail
  go_ret
  exact ⟨rfl, B20⟩
end Go.Proofs.Ytnnnahhgpmkfbaa
