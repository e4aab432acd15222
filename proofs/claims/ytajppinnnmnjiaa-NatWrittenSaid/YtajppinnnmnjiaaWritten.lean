/- For every row of limbs and every two ints the Go function NatWritten returns true and leaves its arguments as they were. No condition. -/
import Derived.Test.YtajppinnnmnjiaaCases
import Derived.Test.YtajppinnnmnjiaaRead
namespace Go.Proofs.Ytajppinnnmnjiaa.natWrittenP
open Go.ChangeShapes Go.WideShapes Go.ChangeAt Go.RowKit
set_option linter.unusedVariables false

theorem and_small (x : Int) (k : Nat) (hk : k < 4096) : ∃ m : Nat, bits .and .i64 x (k : Int) = (m : Int) ∧ m ≤ k := by
  refine ⟨(BitVec.ofInt 64 x &&& BitVec.ofInt 64 (k : Int)).toNat, ?_, ?_⟩
  · show IntKind.i64.wrap ((BitVec.ofInt 64 x &&& BitVec.ofInt 64 (k : Int)).toNat : Int) = _
    have h1 : (BitVec.ofInt 64 x &&& BitVec.ofInt 64 (k : Int)).toNat ≤ k := by
      rw [BitVec.toNat_and]
      refine Nat.le_trans Nat.and_le_right ?_
      rw [BitVec.ofInt_natCast, BitVec.toNat_ofNat]
      exact Nat.mod_le _ _
    rw [IntKind.wrap_i64]
    omega
  · rw [BitVec.toNat_and]
    refine Nat.le_trans Nat.and_le_right ?_
    rw [BitVec.ofInt_natCast, BitVec.toNat_ofNat]
    exact Nat.mod_le _ _
theorem lim_bts (v : Nat) : ∀ n, Lim 256 (bts v n)
  | 0 => Lim.nil _
  | n + 1 => fun x hx => by
    simp only [bts, List.mem_cons] at hx
    rcases hx with rfl | hx
    · exact Nat.mod_lt _ (by omega)
    · exact lim_bts v n x hx
theorem val_bts_mod (v : Nat) : ∀ n, val 256 (bts v n).reverse = v % 256 ^ n
  | 0 => by simp [bts, val, Nat.mod_one]
  | n + 1 => by
    simp only [bts, List.reverse_cons]
    rw [val_snoc, val_bts_mod v n, List.length_reverse, length_bts, Nat.pow_succ, Nat.mod_mul]
theorem val_bts (v n : Nat) (h : v < 256 ^ n) : val 256 (bts v n).reverse = v := by rw [val_bts_mod, Nat.mod_eq_of_lt h]
theorem lt_bl (v : Nat) : v < 2 ^ bl v := by
  unfold bl
  split
  · next h => subst h; decide
  · exact Nat.lt_log2_self
theorem bl_room {v n : Nat} (h : bl v ≤ 8 * n) : v < 256 ^ n := by
  rw [show (256 : Nat) = 2 ^ 8 from rfl, ← Nat.pow_mul]
  exact Nat.lt_of_lt_of_le (lt_bl v) (Nat.pow_le_pow_right (by omega) h)
theorem shN_upn (v p : Nat) (hp : p ≤ 65536) : shN v (p : Int) = v * 2 ^ p := by
  unfold shN
  rw [if_pos (by omega), Int.toNat_natCast, Nat.min_eq_left hp]
theorem write_arg {w : World} {A : Option Addr} {n c : Nat} {xs : List Nat} (h : Nt w w.heap.size A n c xs) (hn : n ≤ 1099511627776) (k : Int) (h0 : k < 0) (h1 : -9223372036854775808 ≤ k) :
    Calls Try.prog 34 #[.slice A n c, .int .i64 k] w fun e w' => e = .returned (.tuple #[.slice none 0 0, .int .i64 1]) ∧ Below w.heap.size w w' :=
  (write_any h hn k h1 (by omega)).mono fun e w' hd => by
    rcases hd with ⟨_, he, hb⟩ | ⟨h0, _⟩ | ⟨h0, _⟩
    · exact ⟨he, hb⟩
    · omega
    · omega
theorem write_wide {w : World} {A : Option Addr} {n c : Nat} {xs : List Nat} (h : Nt w w.heap.size A n c xs) (hn : n ≤ 1099511627776) (k : Int) (h0 : 0 ≤ k) (h1 : k ≤ 65536) (h2 : 8 * k < (bl (val 18446744073709551616 xs) : Int)) :
    Calls Try.prog 34 #[.slice A n c, .int .i64 k] w fun e w' => e = .returned (.tuple #[.slice none 0 0, .int .i64 12]) ∧ Below w.heap.size w w' :=
  (write_any h hn k (by omega) (by omega)).mono fun e w' hd => by
    rcases hd with ⟨h0, _⟩ | ⟨_, he, hb⟩ | ⟨h0, _⟩
    · omega
    · exact ⟨he, hb⟩
    · omega
theorem bl_le {v k : Nat} (h : v < 2 ^ k) : bl v ≤ k := by
  unfold bl
  split
  · omega
  · next h0 => exact (Nat.log2_lt h0).2 h
theorem bl_le_pow {v j : Nat} (h : v < 18446744073709551616 ^ j) : bl v ≤ 64 * j := bl_le (by rw [Nat.pow_mul]; exact h)
theorem two_lt_pow {n j : Nat} (h : n < 64 * j) : 2 ^ n < 18446744073709551616 ^ j := by
  rw [show (18446744073709551616 : Nat) = 2 ^ 64 from rfl, ← Nat.pow_mul]
  exact Nat.pow_lt_pow_right (by omega) h
theorem one_pow : 1 < 18446744073709551616 ^ 1 := by decide

set_option maxHeartbeats 8000000 in
theorem law_any {w : World} {A : Option Addr} {na ca : Nat} {x : List Nat} (ha : Nt w w.heap.size A na ca x) (more : Int) (_hm : (Lit.int .i64 more).wf = true) (n : Int) (_hn : (Lit.int .i64 n).wf = true) :
    Calls Try.prog 11 #[.slice A na ca, .int .i64 more, .int .i64 n] w (Yes w) := by
  by_cases y0 : 12 < na
  · have hr := ha.rooms
    go_enter Try.func11, Try.ntmps11
    go_wp2_with fail
    refine (heavy_yes A na ca y0 hr.1 _).mono ?_
    rintro e w' ⟨rfl, rfl⟩
    go_wp2_with fail
    refine (alive_any _).mono ?_
    rintro e w1 ⟨rfl, b1⟩
    go_wp2_with fail
    go_ret
    exact ⟨rfl, b1⟩
  have pa := ha.lt_pow (by omega)
  obtain ⟨a, ea⟩ : ∃ a, val 18446744073709551616 x = a := ⟨_, rfl⟩
  rw [ea] at pa
  obtain ⟨m, em, hm7⟩ := and_small more 7 (by omega)
  obtain ⟨nn, en, hn511⟩ := and_small n 511 (by omega)
  have em' : bits .and .i64 more 7 = (m : Int) := em
  have en' : bits .and .i64 n 511 = (nn : Int) := en
  clear em en
  have hbits := bits_any ha (by omega)
  rw [ea] at hbits
  obtain ⟨b, eb⟩ : ∃ b, bl a = b := ⟨_, rfl⟩
  have hb768 : b ≤ 768 := by rw [← eb]; exact bl_le_pow pa
  rw [eb] at hbits
  obtain ⟨q0, eq0⟩ : ∃ q0, (b + 7) / 8 = q0 := ⟨_, rfl⟩
  have hq1 : b ≤ 8 * q0 := by omega
  have hq2 : 8 * q0 ≤ b + 7 := by omega
  have eq0' : ((b : Int) + 7) / 8 = (q0 : Int) := by omega
  have Hroom := Lib.hid (bl_room (v := a) (n := q0 + m) (by rw [eb]; omega))
  have p2 : 2 ^ nn < 18446744073709551616 ^ 8 := two_lt_pow (by omega)
  have Ea := Lib.hid ea
  have Eb := Lib.hid eb
  have Hbits := Lib.hid hbits
  clear ea eb eq0 hbits
  rcases Nat.eq_zero_or_pos q0 with hq | hq
  · have hq' : q0 ≤ 0 := by omega
    clear hq
    go_enter Try.func11, Try.ntmps11
    go_wp2_with fail
    refine (heavy_no A na ca (by omega) _).mono ?_
    rintro e w' ⟨rfl, rfl⟩
    go_wp2_with fail
    refine (Hbits.out).mono ?_
    rintro e w' ⟨rfl, rfl⟩
    go_wp2_with fail
    refine (write_ok ha (by omega) (q0 + m) _ (by omega) (by omega) (by rw [Ea.out, Eb.out]; omega)).mono ?_
    rintro e W1 ⟨rfl, o1, v1⟩
    rw [Ea.out] at o1
    have nb1 := o1.nb (length_bts a (q0 + m)) (by unfold maxLen; omega) (lim_bts a (q0 + m))
    have N1a := ha.up v1
    have B1 := v1
    go_wp2_with fail
    refine (read_any nb1 (by omega)).mono ?_
    rintro e W2 ⟨A2, n2, c2, x2, rfl, r2⟩
    rw [val_bts a (q0 + m) Hroom.out] at r2
    have z2 : n2 ≤ 64 := r2.le (more_pow (pa) (by omega))
    have N2a := N1a.up r2.bel
    have B2 := bthen B1 r2.bel
    go_wp2_with fail
    refine (trim_any N2a (by omega)).mono ?_
    rintro e W3 ⟨A3, n3, c3, x3, rfl, r3⟩
    rw [Ea.out] at r3
    have z3 : n3 ≤ 64 := r3.le (more_pow (pa) (by omega))
    have N3a := N2a.up r3.bel
    have N3rd := r2.nt.up r3.bel
    have B3 := bthen B2 r3.bel
    go_wp2_with fail
    refine (same_yes N3rd r3.nt (r2.same r3)).mono ?_
    rintro e W4 ⟨rfl, d4, rfl⟩
    have N4a := N3a.dr d4
    have N4rd := N3rd.dr d4
    have N4t := r3.nt.dr d4
    have B4 := bdr B3 d4
    go_wp2_with fail
    refine (shift_any N4a (by omega) (nn : Int) (by omega) (by omega)).mono ?_
    rintro e W5 ⟨A5, n5, c5, x5, rfl, r5⟩
    rw [Ea.out, shN_upn a nn (by omega)] at r5
    have z5 : n5 ≤ 64 := r5.le (more_pow (mul_pow (pa) (p2)) (by omega))
    have N5a := N4a.up r5.bel
    have B5 := bthen B4 r5.bel
    go_wp2_with fail
    refine (of_any 1 _ rfl (by omega) _).mono ?_
    rintro e W6 ⟨A6, n6, c6, x6, rfl, r6⟩
    have z6 : n6 ≤ 64 := r6.le (more_pow (one_pow) (by omega))
    have N6a := N5a.up r6.bel
    have N6up := r5.nt.up r6.bel
    have B6 := bthen B5 r6.bel
    go_wp2_with fail
    refine (shift_any r6.nt (by omega) (nn : Int) (by omega) (by omega)).mono ?_
    rintro e W7 ⟨A7, n7, c7, x7, rfl, r7⟩
    rw [r6.is, shN_upn 1 nn (by omega)] at r7
    have z7 : n7 ≤ 64 := r7.le (more_pow (mul_pow (one_pow) (p2)) (by omega))
    have N7a := N6a.up r7.bel
    have N7up := N6up.up r7.bel
    have N7o1 := r6.nt.up r7.bel
    have B7 := bthen B6 r7.bel
    go_wp2_with fail
    refine (shift_any N7up (by omega) (-(nn : Int)) (by omega) (by omega)).mono ?_
    rintro e W8 ⟨A8, n8, c8, x8, rfl, r8⟩
    rw [r5.is, shN_down a nn] at r8
    have z8 : n8 ≤ 64 := r8.le (more_pow (pa) (by omega))
    have N8a := N7a.up r8.bel
    have N8up := N7up.up r8.bel
    have N8one := r7.nt.up r8.bel
    have B8 := bthen B7 r8.bel
    go_wp2_with fail
    refine (trim_any N8a (by omega)).mono ?_
    rintro e W9 ⟨A9, n9, c9, x9, rfl, r9⟩
    rw [Ea.out] at r9
    have z9 : n9 ≤ 64 := r9.le (more_pow (pa) (by omega))
    have N9a := N8a.up r9.bel
    have N9up := N8up.up r9.bel
    have N9one := N8one.up r9.bel
    have N9dn := r8.nt.up r9.bel
    have B9 := bthen B8 r9.bel
    go_wp2_with fail
    refine (same_yes N9dn r9.nt (r8.same r9)).mono ?_
    rintro e W10 ⟨rfl, d10, rfl⟩
    have N10a := N9a.dr d10
    have N10up := N9up.dr d10
    have N10one := N9one.dr d10
    have N10dn := N9dn.dr d10
    have N10t := r9.nt.dr d10
    have B10 := bdr B9 d10
    go_wp2_with fail
    refine (mul_any N10a N10one (by omega) (by omega)).mono ?_
    rintro e W11 ⟨A11, n11, c11, x11, rfl, r11⟩
    rw [Ea.out, r7.is] at r11
    have z11 : n11 ≤ 64 := r11.le (more_pow (mul_pow (pa) (mul_pow (one_pow) (p2))) (by omega))
    have N11a := N10a.up r11.bel
    have N11up := N10up.up r11.bel
    have N11one := N10one.up r11.bel
    have B11 := bthen B10 r11.bel
    go_wp2_with fail
    rw [Nat.one_mul] at r11
    refine (same_yes N11up r11.nt (r5.same r11)).mono ?_
    rintro e W12 ⟨rfl, d12, rfl⟩
    have N12a := N11a.dr d12
    have N12up := N11up.dr d12
    have N12mu := r11.nt.dr d12
    have B12 := bdr B11 d12
    go_wp2_with fail
    refine (write_arg N12a (by omega) _ (by omega) (by omega)).mono ?_
    rintro e W13 ⟨rfl, v13⟩
    have N13a := N12a.up v13
    have B13 := bthen B12 v13
    go_wp2_with fail
    refine (alive_any _).mono ?_
    rintro e W14 ⟨rfl, v14⟩
    have N14a := N13a.up v14
    have B14 := bthen B13 v14
    go_wp2_with fail
    go_ret
    refine ⟨?_, B14⟩
    show Ending.returned (.bool (decide (0 < q0) || decide ((q0 : Int) - 1 < 0))) = _
    congr 2
    simp
    omega
  · have hq' : (1 : Int) ≤ (q0 : Int) := by omega
    go_enter Try.func11, Try.ntmps11
    go_wp2_with fail
    refine (heavy_no A na ca (by omega) _).mono ?_
    rintro e w' ⟨rfl, rfl⟩
    go_wp2_with fail
    refine (Hbits.out).mono ?_
    rintro e w' ⟨rfl, rfl⟩
    go_wp2_with fail
    refine (write_ok ha (by omega) (q0 + m) _ (by omega) (by omega) (by rw [Ea.out, Eb.out]; omega)).mono ?_
    rintro e W1 ⟨rfl, o1, v1⟩
    rw [Ea.out] at o1
    have nb1 := o1.nb (length_bts a (q0 + m)) (by unfold maxLen; omega) (lim_bts a (q0 + m))
    have N1a := ha.up v1
    have B1 := v1
    go_wp2_with fail
    refine (read_any nb1 (by omega)).mono ?_
    rintro e W2 ⟨A2, n2, c2, x2, rfl, r2⟩
    rw [val_bts a (q0 + m) Hroom.out] at r2
    have z2 : n2 ≤ 64 := r2.le (more_pow (pa) (by omega))
    have N2a := N1a.up r2.bel
    have B2 := bthen B1 r2.bel
    go_wp2_with fail
    refine (trim_any N2a (by omega)).mono ?_
    rintro e W3 ⟨A3, n3, c3, x3, rfl, r3⟩
    rw [Ea.out] at r3
    have z3 : n3 ≤ 64 := r3.le (more_pow (pa) (by omega))
    have N3a := N2a.up r3.bel
    have N3rd := r2.nt.up r3.bel
    have B3 := bthen B2 r3.bel
    go_wp2_with fail
    refine (same_yes N3rd r3.nt (r2.same r3)).mono ?_
    rintro e W4 ⟨rfl, d4, rfl⟩
    have N4a := N3a.dr d4
    have N4rd := N3rd.dr d4
    have N4t := r3.nt.dr d4
    have B4 := bdr B3 d4
    go_wp2_with fail
    refine (shift_any N4a (by omega) (nn : Int) (by omega) (by omega)).mono ?_
    rintro e W5 ⟨A5, n5, c5, x5, rfl, r5⟩
    rw [Ea.out, shN_upn a nn (by omega)] at r5
    have z5 : n5 ≤ 64 := r5.le (more_pow (mul_pow (pa) (p2)) (by omega))
    have N5a := N4a.up r5.bel
    have B5 := bthen B4 r5.bel
    go_wp2_with fail
    refine (of_any 1 _ rfl (by omega) _).mono ?_
    rintro e W6 ⟨A6, n6, c6, x6, rfl, r6⟩
    have z6 : n6 ≤ 64 := r6.le (more_pow (one_pow) (by omega))
    have N6a := N5a.up r6.bel
    have N6up := r5.nt.up r6.bel
    have B6 := bthen B5 r6.bel
    go_wp2_with fail
    refine (shift_any r6.nt (by omega) (nn : Int) (by omega) (by omega)).mono ?_
    rintro e W7 ⟨A7, n7, c7, x7, rfl, r7⟩
    rw [r6.is, shN_upn 1 nn (by omega)] at r7
    have z7 : n7 ≤ 64 := r7.le (more_pow (mul_pow (one_pow) (p2)) (by omega))
    have N7a := N6a.up r7.bel
    have N7up := N6up.up r7.bel
    have N7o1 := r6.nt.up r7.bel
    have B7 := bthen B6 r7.bel
    go_wp2_with fail
    refine (shift_any N7up (by omega) (-(nn : Int)) (by omega) (by omega)).mono ?_
    rintro e W8 ⟨A8, n8, c8, x8, rfl, r8⟩
    rw [r5.is, shN_down a nn] at r8
    have z8 : n8 ≤ 64 := r8.le (more_pow (pa) (by omega))
    have N8a := N7a.up r8.bel
    have N8up := N7up.up r8.bel
    have N8one := r7.nt.up r8.bel
    have B8 := bthen B7 r8.bel
    go_wp2_with fail
    refine (trim_any N8a (by omega)).mono ?_
    rintro e W9 ⟨A9, n9, c9, x9, rfl, r9⟩
    rw [Ea.out] at r9
    have z9 : n9 ≤ 64 := r9.le (more_pow (pa) (by omega))
    have N9a := N8a.up r9.bel
    have N9up := N8up.up r9.bel
    have N9one := N8one.up r9.bel
    have N9dn := r8.nt.up r9.bel
    have B9 := bthen B8 r9.bel
    go_wp2_with fail
    refine (same_yes N9dn r9.nt (r8.same r9)).mono ?_
    rintro e W10 ⟨rfl, d10, rfl⟩
    have N10a := N9a.dr d10
    have N10up := N9up.dr d10
    have N10one := N9one.dr d10
    have N10dn := N9dn.dr d10
    have N10t := r9.nt.dr d10
    have B10 := bdr B9 d10
    go_wp2_with fail
    refine (mul_any N10a N10one (by omega) (by omega)).mono ?_
    rintro e W11 ⟨A11, n11, c11, x11, rfl, r11⟩
    rw [Ea.out, r7.is] at r11
    have z11 : n11 ≤ 64 := r11.le (more_pow (mul_pow (pa) (mul_pow (one_pow) (p2))) (by omega))
    have N11a := N10a.up r11.bel
    have N11up := N10up.up r11.bel
    have N11one := N10one.up r11.bel
    have B11 := bthen B10 r11.bel
    go_wp2_with fail
    rw [Nat.one_mul] at r11
    refine (same_yes N11up r11.nt (r5.same r11)).mono ?_
    rintro e W12 ⟨rfl, d12, rfl⟩
    have N12a := N11a.dr d12
    have N12up := N11up.dr d12
    have N12mu := r11.nt.dr d12
    have B12 := bdr B11 d12
    go_wp2_with fail
    refine (write_wide N12a (by omega) _ (by omega) (by omega) (by rw [Ea.out, Eb.out]; omega)).mono ?_
    rintro e W13 ⟨rfl, v13⟩
    have N13a := N12a.up v13
    have B13 := bthen B12 v13
    go_wp2_with fail
    refine (alive_any _).mono ?_
    rintro e W14 ⟨rfl, v14⟩
    have N14a := N13a.up v14
    have B14 := bthen B13 v14
    go_wp2_with fail
    go_ret
    exact ⟨rfl, B14⟩

set_option maxRecDepth 100000 in
theorem lifted (os : Os) (started : os.Started) (H : Type) (enc : TypeId × Value → H) :
    ReturnsInHanded {} Try.checked os 11 .any (Rows.natWrittenSpec.pre6 enc Try.prog Try.f11 Rows.natWrittenRow.domain false) (Rows.natWrittenSpec.post enc Try.prog Try.f11 false true false false) := by
  refine returnsInHanded_of_change (C := Try.checked) own started (by kernel_rfl) Try.func11
    (ChangeSpec.witness6 (enc := enc) (C := Try.checked) false ⟨#[], #[.slice none 0 0, .int .i64 0, .int .i64 0], []⟩ 8 (by kernel_rfl) (by kernel_rfl) (by kernel_rfl) (by kernel_rfl)) ?_
  intro W base args ds gs before hval0 hW hcnd _
  have hval : ∀ (j : Nat) t v, Try.f11.params[j]? = some t → args[j]? = some v → Value.okWide Try.prog W .any base t v := hval0
  have hW' := hW
  obtain ⟨p, q, hA0, hV, rfl, hfz, hnd⟩ := hW
  have hA : DataW.TrodAll enc Try.prog W 0 (fun _ => true) true Try.f11.params.toList args.toList ds p := hA0
  rw [Try.params11] at hA hval
  obtain ⟨v0, vs0, d0, ds0, p0, q0, hargs, rfl, rfl, h0, r0⟩ := trodAll_cons hA
  obtain ⟨v1, vs1, d1, ds1, p1, q1, rfl, rfl, rfl, h1, r1⟩ := trodAll_cons r0
  obtain ⟨v2, vs2, d2, ds2, p2, q2, rfl, rfl, rfl, h2, r2⟩ := trodAll_cons r1
  obtain ⟨rfl, rfl, rfl⟩ := trodAll_nil r2
  obtain rfl : args = #[v0, v1, v2] := by cases args; simp_all
  obtain ⟨rfl, rfl⟩ := trodVars_none hV
  obtain ⟨a0, len0, cap0, rfl⟩ := okWide_slice Try.underlying22 (hval 0 22 v0 rfl rfl)
  have k0 := h0
  have lt0 : ∀ x ∈ p0, x.block < W.heap.size := by obtain ⟨m, hm⟩ := k0; exact DataW.trod_lt m _ _ _ hm
  obtain ⟨z0, w0⟩ : ∃ zs, Nt W W.heap.size a0 len0 cap0 zs := by
    obtain ⟨fuel, hf⟩ := h0
    rcases open_ints Try.underlying22 Try.underlying32 (by kernel_rfl) hf with ⟨hcs, _⟩ | ⟨x, l, c, zs, hcs, _, hl, hm, hz, _, hcell, hwz⟩
    · simp [Value.cells] at hcs
      obtain ⟨rfl, rfl, rfl⟩ := hcs
      exact ⟨[], nt_nil _ _⟩
    · simp [Value.cells] at hcs
      obtain ⟨rfl, rfl, rfl⟩ := hcs
      exact ⟨_, nt_of_row hl hm (by simpa using hz) hcell hwz⟩
  obtain ⟨a1, rfl, rfl, rfl, w1⟩ := open_int Try.underlying3 (hval 1 3 v1 rfl rfl) h1
  obtain ⟨a2, rfl, rfl, rfl, w2⟩ := open_int Try.underlying3 (hval 2 3 v2 rfl rfl) h2
  clear hA0 hval0
  refine (law_any w0 a1 w1 a2 w2).mono fun e W' ⟨he, bel⟩ => ?_
  subst he
  exact ⟨_, rfl, _, _, _, [], _, [], hW', trodAll_mk1 (shut_bool Try.underlying4 _), (trodAll_cons_mk (Below.trod laidOut (by kernel_rfl) (of_decide_eq_true (by kernel_rfl)) k0 bel lt0) (trodAll_cons_mk (shut_int Try.underlying3 w1) (trodAll_cons_mk (shut_int Try.underlying3 w2) trodAll_mk0))), rfl, bel.frame _, fun h => by cases h⟩

theorem natWritten_holds : Rows.NatWrittenSaid :=
  OpenClaim.holds_of_wide 11 Try.f11 rfl rfl rfl rfl rfl rfl rfl ⟨rfl, rfl, rfl, rfl, rfl⟩ rfl rfl rfl rfl rfl (by kernel_rfl) Try.func11 (by kernel_rfl)
    (of_decide_eq_true (by kernel_rfl)) (by unfold Func.isWrapper; first | (rw [if_pos (by decide +kernel)]; kernel_rfl) | (rw [if_neg (by decide +kernel)]; exact ⟨rfl, rfl⟩))
    (fun os started H enc _ => lifted os started H enc)
#print axioms natWritten_holds
end Go.Proofs.Ytajppinnnmnjiaa.natWrittenP
