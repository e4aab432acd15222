/- modn: factorOf, Inverse. -/
import Derived.Test.YtkhlmcknbangfaaGreatDoorM2
namespace Go.Proofs.YtkhlmcknbangfaaGreatDoor
set_option linter.unusedSimpArgs false
set_option linter.unusedVariables false
open Go.RowKit
set_option linter.unusedVariables false

/-- a number at a loop's head, noughts at its end or not -/
structure Av (w0 w : World) (v : Value) (N M : Nat) : Prop where
  ex : ∃ A n c xs, v = .slice A n c ∧ Nt w w.heap.size A n c xs ∧ val 18446744073709551616 xs = N ∧ n ≤ M
  bel : Below w0.heap.size w0 w
theorem Av.up {w0 w w' : World} {v : Value} {N M : Nat} (h : Av w0 w v N M) (hb : Below w.heap.size w w') : Av w0 w' v N M := by
  obtain ⟨⟨A, n, c, xs, rfl, hN, hv, hm⟩, hbel⟩ := h
  exact ⟨⟨A, n, c, xs, rfl, hN.up hb, hv, hm⟩, hbel.trans (hb.mono hbel.size)⟩
theorem Av.rd {w0 w : World} {v : Value} {N M : Nat} (h : Av w0 w v N M) : rdN w v = N := by
  obtain ⟨⟨A, n, c, xs, rfl, hN, hv, hm⟩, hbel⟩ := h
  rw [hN.rdn, hv]
theorem Rs.av {w0 w w' : World} {N n c M : Nat} {A : Option Addr} {xs : List Nat} (h : Rs w w' N A n c xs) (hb : Below w0.heap.size w0 w) (hm : n ≤ M) : Av w0 w' (.slice A n c) N M :=
  ⟨⟨A, n, c, xs, rfl, h.nt, h.is, hm⟩, hb.trans (h.bel.mono hb.size)⟩

/-- what factorOf hands back -/
def Factor (n a : Nat) (w : World) (e : Ending) (w' : World) : Prop :=
  ∃ A1 n1 c1 x1 A2 n2 c2 x2 f, e = .returned (.tuple #[.slice A1 n1 c1, .slice A2 n2 c2]) ∧ Nt w' w'.heap.size A1 n1 c1 x1 ∧ val 18446744073709551616 x1 = Nat.gcd n a ∧ n1 ≤ 1099511627 ∧
    Rs w w' f A2 n2 c2 x2 ∧ f < n ∧ a * f % n = Nat.gcd n a % n

set_option maxHeartbeats 4000000 in
theorem factor_any {w : World} {A A2 : Option Addr} {n c n2 c2 : Nat} {xs ys : List Nat} (h : Nt w w.heap.size A n c xs) (h2 : Nt w w.heap.size A2 n2 c2 ys) (hn : n ≤ 1099511) (hn2 : n2 ≤ 1099511) (hlt : val 18446744073709551616 xs < val 18446744073709551616 ys) :
    Calls Tryz.prog 88 #[.slice A n c, .slice A2 n2 c2] w (Factor (val 18446744073709551616 ys) (val 18446744073709551616 xs) w) := by
  obtain ⟨M, hM, hnM, hn2M⟩ : ∃ M, M ≤ 1099511 ∧ n ≤ M ∧ n2 ≤ M := ⟨max n n2, by omega, by omega, by omega⟩
  have pb := h2.below_pow hn2M
  obtain ⟨a, ha⟩ : ∃ a, val 18446744073709551616 xs = a := ⟨_, rfl⟩
  obtain ⟨b, hb⟩ : ∃ b, val 18446744073709551616 ys = b := ⟨_, rfl⟩
  rw [ha, hb] at hlt
  rw [hb] at pb
  rw [ha, hb]
  have hM0 : 1 ≤ M := by
    rcases Nat.eq_zero_or_pos M with h0 | h0
    · subst h0; simp at pb; omega
    · exact h0
  have hB : ∀ x, x ≤ b → x < 18446744073709551616 ^ M := fun x hx => by omega
  have HB := Lib.hid hB
  have Q2 : Av w w (.slice A2 n2 c2) b M := ⟨⟨_, _, _, _, rfl, h2, hb, hn2M⟩, Below.refl _ _⟩
  have Q1 : Av w w (.slice A n c) a M := ⟨⟨_, _, _, _, rfl, h, ha, hnM⟩, Below.refl _ _⟩
  clear hb ha hB pb
  go_enter Tryz.func88, Tryz.ntmps88
  go_wp2_with fail
  refine (of_any 0 _ rfl (by omega) _).mono ?_
  rintro e w1 ⟨A3, n3, c3, x3, rfl, r3⟩
  have R2 := Q2.up r3.bel
  have R1 := Q1.up r3.bel
  have R3 : Av w w1 (.slice A3 n3 c3) 0 M := r3.rs.av (Below.refl _ _) (r3.le (HB.out 0 (by omega)))
  go_wp2_with fail
  refine (of_any 1 _ rfl (by omega) _).mono ?_
  rintro e w2 ⟨A4, n4, c4, x4, rfl, r4⟩
  have S2 := R2.up r4.bel
  have S1 := R1.up r4.bel
  have S3 := R3.up r4.bel
  have S4 : Av w w2 (.slice A4 n4 c4) 1 M := r4.rs.av r3.bel (r4.le (HB.out 1 (by omega)))
  go_wp2_with fail
  go_loopw [6, 7, 8, 9, 10] (fun u v y z s wr => ∃ older old uo f b', s = .bool b' ∧ Hid (Av w wr u older M) ∧ Hid (Av w wr v old M) ∧ Hid (Av w wr y uo M) ∧ Hid (Av w wr z f M) ∧ Hid (Av w wr (.slice A2 n2 c2) b M) ∧ Hid (Way b a older old uo f b' ∧ 0 < older)) (fun _ v _ _ _ wr => rdN wr v)
  case atStart => exact ⟨b, a, 0, 1, true, rfl, S2, S1, S3, S4, S2, Way.start b a, by omega⟩
  case round =>
    obtain ⟨older, old, uo, f, b', rfl, T1, T2, T3, T4, T5, HW⟩ := hrel
    obtain ⟨⟨A5, n5, c5, x5, rfl, N5, v5, l5⟩, B5⟩ := T1.out
    obtain ⟨⟨A6, n6, c6, x6, rfl, N6, v6, l6⟩, B6⟩ := T2.out
    obtain ⟨⟨A7, n7, c7, x7, rfl, N7, v7, l7⟩, B7⟩ := T3.out
    obtain ⟨⟨A8, n8, c8, x8, rfl, N8, v8, l8⟩, B8⟩ := T4.out
    obtain ⟨⟨_, _, _, x9, e9, N9, v9, l9⟩, B9⟩ := T5.out
    cases e9
    rcases Nat.eq_zero_or_pos old with h0 | h0
    · subst h0
      obtain ⟨hg, hf⟩ := HW.out.1.done
      have hle := HW.out.1.le
      have Hf := Lib.hid hf
      clear hf
      go_wp2_with fail
      refine (nought_yes N6 (by omega) (by omega)).mono ?_
      rintro e w5 ⟨rfl, rfl⟩
      cases b'
      · go_wp2_with fail
        refine (mod_pos N7 N9 (by omega) (by omega)).mono ?_
        rintro e w6 ⟨A10, n10, c10, x10, rfl, r10⟩
        rw [v7, v9] at r10
        go_wp2_with fail
        go_ret2
        have hf := Hf.out
        simp at hf
        exact ⟨_, _, _, _, _, _, _, _, _, rfl, N5.up r10.bel, v5.trans hg, by omega, ⟨r10.nt, r10.trm, r10.is, bthen B5 r10.bel⟩, Nat.mod_lt _ (by omega), by rw [← hg]; simpa using hf⟩
      · go_wp2_with fail
        refine (sub_ok N9 N7 (by omega) (by omega)).mono ?_
        rintro e w6 ⟨A10, n10, c10, x10, rfl, r10⟩
        rw [v9, v7] at r10
        have l10 : n10 ≤ M := r10.le (HB.out _ (by omega))
        have v10 := r10.is
        go_wp2_with fail
        refine (mod_pos r10.nt (N9.up r10.bel) (by omega) (by omega)).mono ?_
        rintro e w7 ⟨A11, n11, c11, x11, rfl, r11⟩
        rw [v10, v9] at r11
        go_wp2_with fail
        go_ret2
        have hf := Hf.out
        exact ⟨_, _, _, _, _, _, _, _, _, rfl, (N5.up r10.bel).up r11.bel, v5.trans hg, by omega, ⟨r11.nt, r11.trm, r11.is, bthen (bthen B5 r10.bel) r11.bel⟩, Nat.mod_lt _ (by omega), by rw [← hg]; simpa using hf⟩
    · have HW2 := HW.out.1.step HW.out.2
      have hle2 := HW2.le
      have hs2 := HW2.s
      go_wp2_with fail
      refine (nought_no N6 (by omega) (by omega)).mono ?_
      rintro e w5 ⟨rfl, rfl⟩
      go_wp2_with fail
      refine (div_pos N5 N6 (by omega) (by omega)).mono ?_
      rintro e w6 ⟨A10, n10, c10, q, A11, n11, c11, r, rfl, q1, q2, q3, r1, r2, r3, b6⟩
      rw [v5, v6] at q3 r3
      have hsum : uo + older / old * f ≤ b := by
        have := Nat.le_mul_of_pos_left (uo + older / old * f) h0
        omega
      have lq : n10 ≤ M := by rw [← q1.len]; exact length_of_val (β := 18446744073709551616) (by omega) q2 (by rw [q3]; exact Nat.lt_of_le_of_lt (Nat.div_le_self _ _) (by have := N5.below_pow l5; rw [v5] at this; exact this))
      have lr : n11 ≤ M := by rw [← r1.len]; exact length_of_val (β := 18446744073709551616) (by omega) r2 (by rw [r3]; exact Nat.lt_of_le_of_lt (Nat.mod_le _ _) (by have := N5.below_pow l5; rw [v5] at this; exact this))
      have T2' := T2.out.up b6
      have T3' := T3.out.up b6
      have T4' := T4.out.up b6
      have T5' := T5.out.up b6
      have N7' := N7.up b6
      have N8' := N8.up b6
      have T6' : Av w w6 (.slice A11 n11 c11) (older % old) M := ⟨⟨_, _, _, _, rfl, r1, r3, lr⟩, bthen B5 b6⟩
      go_wp2_with fail
      refine (mul_any q1 N8' (by omega) (by omega)).mono ?_
      rintro e w7 ⟨A12, n12, c12, x12, rfl, r12⟩
      rw [q3, v8] at r12
      have v12 := r12.is
      have l12 : n12 ≤ M := r12.le (HB.out _ (by omega))
      have T2'' := T2'.up r12.bel
      have T4'' := T4'.up r12.bel
      have T5'' := T5'.up r12.bel
      have T6'' := T6'.up r12.bel
      have N7'' := N7'.up r12.bel
      go_wp2_with fail
      refine (add_any N7'' r12.nt (by omega) (by omega)).mono ?_
      rintro e w8 ⟨A13, n13, c13, x13, rfl, r13⟩
      rw [v7, v12] at r13
      have l13 : n13 ≤ M := r13.le (HB.out _ (by omega))
      have U1 : Av w w8 (.slice A6 n6 c6) old M := T2''.up r13.bel
      have U2 := T6''.up r13.bel
      have U3 : Av w w8 (.slice A8 n8 c8) f M := T4''.up r13.bel
      have U4 : Av w w8 (.slice A13 n13 c13) (uo + older / old * f) M := r13.rs.av T6''.bel l13
      have U5 := T5''.up r13.bel
      have hm1 := T2.out.rd
      have hm2 := U2.rd
      have hlt2 := Nat.mod_lt older h0
      go_wp2_with fail
      go_roundw
      case rel => exact ⟨old, older % old, f, uo + older / old * f, !b', rfl, U1, U2, U3, U4, U5, ⟨HW2, h0⟩⟩
      case measure => rw [hm1, hm2]; exact hlt2

set_option maxHeartbeats 4000000 in
theorem inverse_nil {w : World} {A A2 : Option Addr} {n c n2 c2 : Nat} {xs ys : List Nat} (h : Nt w w.heap.size A n c xs) (h2 : Nt w w.heap.size A2 n2 c2 ys) (hn : n ≤ 1099511) (hb : val 18446744073709551616 ys = 0) :
    Calls Tryz.prog 30 #[.slice A n c, .slice A2 n2 c2] w (RetBad 11 w) := by
  go_enter Tryz.func30, Tryz.ntmps30
  go_wp2_with fail
  refine (mod_nil h h2 (by omega) hb).mono ?_
  rintro e w1 ⟨rfl, b1⟩
  go_wp2_with fail
  go_ret2
  exact ⟨rfl, b1⟩
set_option maxHeartbeats 4000000 in
theorem inverse_no {w : World} {A A2 : Option Addr} {n c n2 c2 : Nat} {xs ys : List Nat} (h : Nt w w.heap.size A n c xs) (h2 : Nt w w.heap.size A2 n2 c2 ys) (hn : n ≤ 1099511) (hn2 : n2 ≤ 1099511) (hb : 0 < val 18446744073709551616 ys)
    (hg : Nat.gcd (val 18446744073709551616 xs) (val 18446744073709551616 ys) ≠ 1) :
    Calls Tryz.prog 30 #[.slice A n c, .slice A2 n2 c2] w (RetBad 30 w) := by
  obtain ⟨a, ha⟩ : ∃ a, val 18446744073709551616 xs = a := ⟨_, rfl⟩
  obtain ⟨b, hb'⟩ : ∃ b, val 18446744073709551616 ys = b := ⟨_, rfl⟩
  rw [ha, hb'] at hg
  rw [hb'] at hb
  have Hg : Hid (Nat.gcd b (a % b) ≠ 1) := by
    show _ ≠ _
    rw [Nat.gcd_comm, ← Nat.gcd_rec, Nat.gcd_comm]; exact hg
  clear hg
  go_enter Tryz.func30, Tryz.ntmps30
  go_wp2_with fail
  refine (mod_pos h h2 (by omega) (by omega)).mono ?_
  rintro e w1 ⟨A1, n1, c1, x1, rfl, r1⟩
  rw [ha, hb'] at r1
  have v1 := r1.is
  have l1 : n1 ≤ n2 := by
    have := val_lt h2.lim
    rw [h2.len, hb'] at this
    exact r1.le (Nat.lt_trans (Nat.mod_lt _ hb) this)
  have hlt := Nat.mod_lt a hb
  go_wp2_with fail
  refine (factor_any r1.nt (h2.up r1.bel) (by omega) hn2 (by rw [v1, hb']; exact hlt)).mono ?_
  rintro e w2 ⟨A3, n3, c3, x3, A4, n4, c4, x4, f, rfl, N3, v3, l3, r4, hf, hfe⟩
  rw [v1, hb'] at v3 hfe
  rw [hb'] at hf
  have b2 := bthen r1.bel r4.bel
  go_wp2_with fail
  refine (of_any 1 _ rfl (by omega) _).mono ?_
  rintro e w3 ⟨A5, n5, c5, x5, rfl, r5⟩
  have b3 := bthen b2 r5.bel
  have v5 := r5.is
  have hc := cmp_any (N3.up r5.bel) r5.nt
  rw [v3, v5] at hc
  have hs : sgn ((Nat.gcd b (a % b) : Nat) : Int) ((1 : Nat) : Int) ≠ 0 := by
    have := Hg.out
    unfold sgn
    split
    · decide
    · split
      · decide
      · omega
  generalize sgn ((Nat.gcd b (a % b) : Nat) : Int) ((1 : Nat) : Int) = s at *
  have hs' : (s != 0) = true := by simp; omega
  go_wp2_with fail
  refine hc.mono ?_
  rintro e w4 ⟨rfl, d, rfl⟩
  have b4 := bdr b3 d
  go_wp2_with fail
  go_ret2
  exact ⟨rfl, b4⟩
set_option maxHeartbeats 4000000 in
theorem inverse_yes {w : World} {A A2 : Option Addr} {n c n2 c2 : Nat} {xs ys : List Nat} (h : Nt w w.heap.size A n c xs) (h2 : Nt w w.heap.size A2 n2 c2 ys) (hn : n ≤ 1099511) (hn2 : n2 ≤ 1099511) (hb : 0 < val 18446744073709551616 ys)
    (hg : Nat.gcd (val 18446744073709551616 xs) (val 18446744073709551616 ys) = 1) :
    Calls Tryz.prog 30 #[.slice A n c, .slice A2 n2 c2] w fun e w' => ∃ f, f < val 18446744073709551616 ys ∧ val 18446744073709551616 xs * f % val 18446744073709551616 ys = 1 % val 18446744073709551616 ys ∧ RetT f w e w' := by
  obtain ⟨a, ha⟩ : ∃ a, val 18446744073709551616 xs = a := ⟨_, rfl⟩
  obtain ⟨b, hb'⟩ : ∃ b, val 18446744073709551616 ys = b := ⟨_, rfl⟩
  rw [ha, hb'] at hg
  rw [hb'] at hb
  rw [ha, hb']
  have hg' : Nat.gcd b (a % b) = 1 := by
    rw [Nat.gcd_comm, ← Nat.gcd_rec, Nat.gcd_comm]; exact hg
  have Hg := Lib.hid hg'
  clear hg hg'
  go_enter Tryz.func30, Tryz.ntmps30
  go_wp2_with fail
  refine (mod_pos h h2 (by omega) (by omega)).mono ?_
  rintro e w1 ⟨A1, n1, c1, x1, rfl, r1⟩
  rw [ha, hb'] at r1
  have v1 := r1.is
  have l1 : n1 ≤ n2 := by
    have := val_lt h2.lim
    rw [h2.len, hb'] at this
    exact r1.le (Nat.lt_trans (Nat.mod_lt _ hb) this)
  have hlt := Nat.mod_lt a hb
  go_wp2_with fail
  refine (factor_any r1.nt (h2.up r1.bel) (by omega) hn2 (by rw [v1, hb']; exact hlt)).mono ?_
  rintro e w2 ⟨A3, n3, c3, x3, A4, n4, c4, x4, f, rfl, N3, v3, l3, r4, hf, hfe⟩
  rw [v1, hb'] at v3 hfe
  rw [hb'] at hf
  rw [Hg.out] at v3 hfe
  have b2 := bthen r1.bel r4.bel
  go_wp2_with fail
  refine (of_any 1 _ rfl (by omega) _).mono ?_
  rintro e w3 ⟨A5, n5, c5, x5, rfl, r5⟩
  have b3 := bthen b2 r5.bel
  have v5 := r5.is
  have N4 := r4.nt.up r5.bel
  go_wp2_with fail
  refine (cmp_eq (N3.up r5.bel) r5.nt (by rw [v3, v5])).mono ?_
  rintro e w4 ⟨rfl, d, rfl⟩
  have b4 := bdr b3 d
  have N4' := N4.dr d
  have He := Lib.hid hfe
  clear hfe
  go_wp2_with fail
  go_ret2
  exact ⟨f, hf, by have := He.out; rwa [Nat.mod_mul_mod] at this, _, _, _, _, rfl, N4', r4.trm, r4.is, b4⟩
end Go.Proofs.YtkhlmcknbangfaaGreatDoor
