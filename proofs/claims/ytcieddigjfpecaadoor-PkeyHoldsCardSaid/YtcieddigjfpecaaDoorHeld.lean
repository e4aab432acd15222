/- PkeyHolds: the walk. -/
import Derived.Test.YtcieddigjfpecaaDoorPk2
import Derived.Test.YtcieddigjfpecaaDoorFrame
namespace Go.Proofs.YtcieddigjfpecaaDoor
open Go.RowKit
set_option linter.unusedVariables false
set_option maxRecDepth 100000

theorem i64_and127 (n : Int) : bits .and .i64 n 127 = n % 128 := by
  have h1 : (BitVec.ofInt 64 127).toNat = 2 ^ 7 - 1 := by decide
  have key : (BitVec.ofInt 64 n &&& BitVec.ofInt 64 127).toNat = (n % ((2 ^ 64 : Nat) : Int)).toNat % 2 ^ 7 := by
    rw [BitVec.toNat_and, BitVec.toNat_ofInt, h1, Nat.and_two_pow_sub_one_eq_mod]
  show IntKind.i64.wrap ((BitVec.ofInt 64 n &&& BitVec.ofInt 64 127).toNat : Nat) = n % 128
  rw [key, IntKind.wrap_i64]
  omega
theorem i64_and7 (n : Int) : bits .and .i64 n 7 = n % 8 := by
  have h1 : (BitVec.ofInt 64 7).toNat = 2 ^ 3 - 1 := by decide
  have key : (BitVec.ofInt 64 n &&& BitVec.ofInt 64 7).toNat = (n % ((2 ^ 64 : Nat) : Int)).toNat % 2 ^ 3 := by
    rw [BitVec.toNat_and, BitVec.toNat_ofInt, h1, Nat.and_two_pow_sub_one_eq_mod]
  show IntKind.i64.wrap ((BitVec.ofInt 64 n &&& BitVec.ofInt 64 7).toNat : Nat) = n % 8
  rw [key, IntKind.wrap_i64]
  omega
theorem xor_bit_all : ∀ k < 8, ∀ x < 256, bits .xor .u8 ((x : Nat) : Int) (2 ^ k % 256) = (((bits .xor .u8 ((x : Nat) : Int) (2 ^ k % 256)).toNat : Nat) : Int) ∧ (bits .xor .u8 ((x : Nat) : Int) (2 ^ k % 256)).toNat < 256 ∧ (bits .xor .u8 ((x : Nat) : Int) (2 ^ k % 256)).toNat ≠ x := by decide +kernel
theorem xor_bit (k x : Nat) (hk : k < 8) (hx : x < 256) : ∃ y : Nat, bits .xor .u8 (x : Int) (2 ^ k % 256) = (y : Int) ∧ y < 256 ∧ y ≠ x :=
  ⟨_, xor_bit_all k hk x hx⟩
theorem bstr_same (xs ys : List Nat) : ((bstr ((Sh.sha xs).take 16)).toList == (bstr ((Sh.sha ys).take 16)).toList) = decide ((Sh.sha xs).take 16 = (Sh.sha ys).take 16) := by
  rw [Bool.eq_iff_iff]
  simp only [beq_iff_eq, decide_eq_true_eq]
  constructor
  · intro h
    exact bstr_inj (fun x hx => Sh.sha_lim xs x (List.mem_of_mem_take hx)) (fun x hx => Sh.sha_lim ys x (List.mem_of_mem_take hx)) h
  · intro h
    rw [h]
set_option maxHeartbeats 8000000 in
theorem pholds_any {w : World} (hk : Sh.Ks w) (which : Int) (hw : (Lit.int .i64 which).wf = true) {A A2 : Option Addr} {n c n2 c2 : Nat} {xs ys : List Nat} (hx : Nb w w.heap.size A n c xs) (hy : Nb w w.heap.size A2 n2 c2 ys) (bit : Int) (hbw : (Lit.int .i64 bit).wf = true) :
    Calls Tryd.prog 3 #[.int .i64 which, .slice A n c, .slice A2 n2 c2, .int .i64 bit] w (Yes w) := by
  have hr := hx.rooms
  have hr2 := hy.rooms
  have hK := known8_any which w
  have HK := Lib.hid hK
  clear hK
  have HA := Lib.hid (alive05_any w)
  by_cases hn : 400 < n
  · have hd : decide ((400 : Int) < (n : Int)) = true := by simp; omega
    go_enter Tryd.func3, Tryd.ntmps3
    go_wp2_with fail
    refine HA.out.mono ?_
    rintro e W1 ⟨rfl, b1⟩
    go_wp2_with fail
    go_ret
    exact ⟨rfl, b1⟩
  have hd8 : decide ((400 : Int) < (n : Int)) = false := by simp; omega
  by_cases hn2 : 400 < n2
  · have hd : decide ((400 : Int) < (n2 : Int)) = true := by simp; omega
    go_enter Tryd.func3, Tryd.ntmps3
    go_wp2_with fail
    refine HA.out.mono ?_
    rintro e W1 ⟨rfl, b1⟩
    go_wp2_with fail
    go_ret
    exact ⟨rfl, b1⟩
  have hd9 : decide ((400 : Int) < (n2 : Int)) = false := by simp; omega
  go_enter Tryd.func3, Tryd.ntmps3
  go_wp2_with fail
  refine HK.out.mono ?_
  rintro e W1 ⟨p, q, hpq, K1, k1, kt1, y1, K2, k2, kt2, y2, K3, k3, kt3, y3, d, rfl, KN1, kv1, kb1, KN2, kv2, kb2, KN3, kv3, kb3, ht, hd, hde, bel⟩
  obtain ⟨f1, f2, f3, f4, f5, f6, f7, f8, f9, f10⟩ := known_facts hpq
  have hund := fun r => known_undo hpq hde r
  have hd0 : 0 < d := by
    rcases Nat.eq_zero_or_pos d with h | h
    · rw [h, Nat.mul_zero, Nat.zero_mod] at hde; omega
    · exact h
  have hdN : d < p * q := Nat.lt_of_lt_of_le hd f5
  obtain ⟨M, hM⟩ : ∃ M, p * q = M := ⟨_, rfl⟩
  rw [hM] at f1 f2 f3 f4 f7 f8 f9 f10 hdN kv1
  rw [hM] at hund
  clear hpq hd hde f5 f6 ht hM
  obtain ⟨s, hs⟩ : ∃ s, (bl M + 7) / 8 = s := ⟨_, rfl⟩
  rw [hs] at f7 f8 f9 f10
  obtain ⟨w2, e2⟩ : ∃ w2, w2 = W1.alloc (.cells #[Value.slice K1 k1 kt1, .slice K2 k2 kt2, .slice K3 k3 kt3] 26) := ⟨_, rfl⟩
  obtain ⟨hb2, bl2⟩ := box_new e2
  have B2 := bthen bel bl2
  have hk2 := hk.bel B2
  have P2 : Pr w2 (.agg #[.slice K1 k1 kt1, .slice K2 k2 kt2, .slice K3 k3 kt3]) M 65537 d := ⟨_, _, _, _, _, _, _, _, _, _, _, _, rfl, KN1.up bl2, kv1, kb1, KN2.up bl2, kv2, kb2, KN3.up bl2, kv3, kb3⟩
  have hx2 := hx.up B2
  have hy2 := hy.up B2
  have hsg := sign_ok hk2 P2 f1 f2 f3 (by omega) (by omega) f4 hdN hd0 hs f7 hx2.sh (by omega)
  have Hsg := Lib.hid hsg
  have hvf : ∀ (W : World) (kk : Sh.Ks W) (v : Value) (k : Pr W v M 65537 0) {A : Option Addr} {n c : Nat} {xs : List Nat} (kx : Sh.Nb W W.heap.size A n c xs) (kn : n ≤ 1000) {A4 : Option Addr} {c4 : Nat} {bs : List Nat} (kb : Nb W W.heap.size A4 s c4 bs),
      Calls Tryd.prog 10 #[v, .slice A n c, .slice A4 s c4] W fun e w' => e = .returned (.bool (verB M s xs bs)) ∧ Below W.heap.size W w' := fun W kk v k {A n c xs} kx kn {A4 c4 bs} kb => verify_any kk k f1 f2 f3 (by omega) (by omega) f4 (by omega) hs f7 kx kn kb
  have Hvf := Lib.hid hvf
  have Hund := Lib.hid hund
  have F2 := Lib.hid f2
  have F3 := Lib.hid f3
  have F9 := Lib.hid f9
  have F10 := Lib.hid f10
  have Hs := Lib.hid hs
  have PH2 := Lib.hid P2
  clear hsg hvf hund f2 f3 f9 f10 hs P2
  have q0 := hb2.c0
  have q1 := hb2.c1
  have q2 := hb2.c2
  go_wp2_with fail
  rw [← e2]
  clear e2
  refine Hsg.out.mono ?_
  rintro e w3 ⟨g, rfl, hg, ho, b3⟩
  have z := hb2.up b3
  have z0 := z.c0
  have z1 := z.c1
  have z2 := z.c2
  obtain ⟨B, hB⟩ : ∃ B, bts (val 256 (signN s xs).reverse ^ d % M) s = B := ⟨_, rfl⟩
  rw [hB] at ho
  have lB : B.length = s := by rw [← hB]; exact length_bts _ _
  have LB : Lim 256 B := by rw [← hB]; exact lim_bts _ _
  have v1 : verB M s xs B = true := by rw [← hB, ver_same f7 F9.out F10.out Hund.out]; simp
  have v2 : verB M s ys B = decide ((Sh.sha xs).take 16 = (Sh.sha ys).take 16) := by rw [← hB, ver_same f7 F9.out F10.out Hund.out, sign_mark]
  have v3 : ∀ j x, j < s → x < 256 → B[j]? ≠ some x → verB M s xs (B.set j x) = false := by rw [← hB]; exact fun j x hj hx hne => ver_bad f7 F9.out F10.out Hund.out hj hx hne
  have V1 := Lib.hid v1
  have V2 := Lib.hid v2
  have V3 := Lib.hid v3
  have HB := Lib.hid hB
  clear v1 v2 v3 hB
  have B3 := bthen B2 b3
  have hk3 := hk.bel B3
  have hx3 := hx.up B3
  have hy3 := hy.up B3
  have hb3 := ho.nb lB (show s ≤ maxLen by unfold maxLen; omega) LB
  have P3 := PH2.out.up b3
  go_wp2_with fail
  refine (public_any P3).mono ?_
  rintro e w4 ⟨v4, rfl, P4, b4⟩
  have y := z.up b4
  have y0 := y.c0
  have y1 := y.c1
  have y2 := y.c2
  have H1 := Hvf.out w4 (hk3.bel b4) v4 P4 (hx3.up b4).sh (by omega) (hb3.up b4)
  rw [V1.out] at H1
  have HH1 := Lib.hid H1
  clear H1
  go_wp2_with fail
  refine HH1.out.mono ?_
  rintro e w5 ⟨rfl, b5⟩
  have B5 := bthen (bthen B3 b4) b5
  have C5 := bthen b4 b5
  have hk5 := hk.bel B5
  have ht5 := Sh.trunc_in hk5 (hx.up B5).sh (by omega) 16 (by omega)
  have Ht5 := Lib.hid ht5
  clear ht5
  have j := z.up C5
  have j0 := j.c0
  have j1 := j.c1
  have j2 := j.c2
  go_wp2_with fail
  refine Ht5.out.mono ?_
  rintro e w6 ⟨A6, c6, rfl, hN6, b6⟩
  have B6 := bthen B5 b6
  have C6 := bthen C5 b6
  have hk6 := hk.bel B6
  have ht6 := Sh.trunc_in hk6 (hy.up B6).sh (by omega) 16 (by omega)
  have Ht6 := Lib.hid ht6
  clear ht6
  have i := z.up C6
  have i0 := i.c0
  have i1 := i.c1
  have i2 := i.c2
  go_wp2_with fail
  refine Ht6.out.mono ?_
  rintro e w7 ⟨A7, c7, rfl, hN7, b7⟩
  have B7 := bthen B6 b7
  have C7 := bthen C6 b7
  have hk7 := hk.bel B7
  have t := z.up C7
  have t0 := t.c0
  have t1 := t.c1
  have t2 := t.c2
  have P7 := P3.up C7
  have D67 := hN6.go b7
  obtain ⟨bb, hbb⟩ : ∃ b, decide ((Sh.sha xs).take 16 = (Sh.sha ys).take 16) = b := ⟨_, rfl⟩
  have v2 := V2.out
  rw [hbb] at v2
  obtain ⟨S1, hS1⟩ : ∃ S, bstr ((Sh.sha xs).take 16) = S := ⟨_, rfl⟩
  obtain ⟨S2, hS2⟩ : ∃ S, bstr ((Sh.sha ys).take 16) = S := ⟨_, rfl⟩
  have hSS : (S1.toList == S2.toList) = bb := by rw [← hS1, ← hS2, ← hbb]; exact bstr_same _ _
  have Hbb := Lib.hid hbb
  clear hbb
  have bD : Below w7.heap.size w7 w7.drew := (Below.refl _ _).drew
  have C7d := bthen C7 bD
  have u := z.up C7d
  have u0 := u.c0
  have u1 := u.c1
  have u2 := u.c2
  have P7d := P3.up C7d
  have M6 := D67.go bD
  have M7 := hN7.go bD
  have k61 := conv_any M6
  have k71 := conv_any M7
  rw [hS1] at k61
  rw [hS2] at k71
  have hk7d := hk7.bel bD
  have hy7d := (hy.up B7).up bD
  have hb7d := hb3.up C7d
  have V2b := Lib.hid v2
  clear v2
  go_wp2_with fail
  go_region_held3 (fun w' => w'.cell? ⟨W1.heap.size, 0, none⟩ = some (Value.slice K1 k1 kt1) ∧ w'.cell? ⟨W1.heap.size, 1, none⟩ = some (Value.slice K2 k2 kt2) ∧ w'.cell? ⟨W1.heap.size, 2, none⟩ = some (Value.slice K3 k3 kt3) ∧ (convert 22 9 (.slice A6 16 c6)).run Tryd.prog w' = .ok (.string S1) w' ∧ (convert 22 9 (.slice A7 16 c7)).run Tryd.prog w' = .ok (.string S2) w')
    (first | exact ⟨x0, x1, x2, k64, k74⟩ | exact ⟨o0, o1, o2, k63, k73⟩ | exact ⟨m0, m1, m2, k62, k72⟩ | exact ⟨u0, u1, u2, k61, k71⟩)
    ((first
      | (go_at_call 11; refine (public_any P7d).mono ?_; rintro e w8 ⟨v8, rfl, P8, b8⟩
         have m := u.up b8
         have m0 := m.c0
         have m1 := m.c1
         have m2 := m.c2
         have k62 := conv_any (M6.go b8)
         have k72 := conv_any (M7.go b8)
         rw [hS1] at k62
         rw [hS2] at k72
         have H2 := Hvf.out w8 (hk7d.bel b8) v8 P8 (hy7d.up b8).sh (by omega) (hb7d.up b8)
         rw [V2b.out] at H2
         have HH2 := Lib.hid H2
         clear H2)
      | (go_at_call 10; refine HH2.out.mono ?_; rintro e w9 ⟨rfl, b9⟩
         have o := m.up b9
         have o0 := o.c0
         have o1 := o.c1
         have o2 := o.c2
         have k63 := conv_any ((M6.go b8).go b9)
         have k73 := conv_any ((M7.go b8).go b9)
         rw [hS1] at k63
         rw [hS2] at k73
         have hz := size_any (((P7d).up b8).up b9)
         rw [Hs.out] at hz
         have Hz := Lib.hid hz
         clear hz)
      | (go_at_call 13; refine Hz.out.mono ?_; rintro e w10 ⟨rfl, b10⟩
         have x := o.up b10
         have x0 := x.c0
         have x1 := x.c1
         have x2 := x.c2
         have k64 := conv_any (((M6.go b8).go b9).go b10)
         have k74 := conv_any (((M7.go b8).go b9).go b10)
         rw [hS1] at k64
         rw [hS2] at k74)))
  have C10 := bthen (bthen (bthen C7d b8) b9) b10
  have ho10 : Ob w10 g B := ho.below C10 ho.lt
  have BA := bthen B3 C10
  obtain ⟨bn, hbn⟩ : ∃ bn : Nat, bit % 128 = (bn : Int) := ⟨(bit % 128).toNat, by omega⟩
  have hbl : bn < 128 := by omega
  have hq1 := i64_and127 bit
  rw [hbn] at hq1
  obtain ⟨jj, hjj⟩ : ∃ jj, bn / 8 = jj := ⟨_, rfl⟩
  obtain ⟨kk, hkk⟩ : ∃ kk, bn % 8 = kk := ⟨_, rfl⟩
  have hq2 : bits .and .i64 (bn : Int) 7 = (kk : Int) := by rw [i64_and7]; omega
  have hq4 : (bn : Int).tdiv 8 = (jj : Int) := by rw [Int.tdiv_eq_ediv_of_nonneg (by omega)]; omega
  have hq5 : (bn : Int) / 8 = (jj : Int) := by omega
  have hkl : kk < 8 := by omega
  have hj : jj < s := by omega
  clear hjj hkk
  obtain ⟨x0, hx0⟩ : ∃ x, B[jj]? = some x := ⟨_, List.getElem?_eq_getElem (by omega)⟩
  have hxl : x0 < 256 := LB x0 (List.mem_of_getElem? hx0)
  have cg := ho10.cell hx0
  have fg := ho10.frozen jj
  have Hx0 := Lib.hid hx0
  clear hx0 k61 k71 k62 k72 k63 k73 k64 k74 hbn
  obtain ⟨x1, hx1, hx1l, hx1n⟩ := xor_bit kk x0 hkl hxl
  go_wp2_with fail
  obtain ⟨w11, e11⟩ : ∃ w11, w11 = w10.setCell ⟨g, jj, none⟩ (.int .u8 (x1 : Int)) := ⟨_, rfl⟩
  rw [← e11]
  have ho11 : Ob w11 g (B.set jj x1) := e11 ▸ ho10.set_ jj x1
  have D11 : Below w2.heap.size w2 w11 := e11 ▸ (bthen b3 C10).setCell (p := ⟨g, jj, none⟩) hg _
  clear e11
  have hv3 := V3.out jj x1 hj hx1l (by rw [Hx0.out]; intro h; exact hx1n (Option.some.inj h).symm)
  have Hv3 := Lib.hid hv3
  clear hv3 hx1 hx1n
  refine (alive05_any w11).mono ?_
  rintro e w12 ⟨rfl, b12⟩
  have D12 := bthen D11 b12
  have BW := bthen B2 D12
  have P12 := PH2.out.up D12
  have a := hb2.up D12
  have a0 := a.c0
  have a1 := a.c1
  have a2 := a.c2
  have hk12 := hk.bel BW
  have hx12 := hx.up BW
  have LS : Lim 256 (B.set jj x1) := by
    intro y hy
    rcases List.mem_or_eq_of_mem_set hy with h | h
    · exact LB y h
    · rw [h]; exact hx1l
  have hb12 := (ho11.nb (by rw [List.length_set]; exact lB) (show s ≤ maxLen by unfold maxLen; omega) LS).up b12
  go_wp2_with fail
  refine (public_any P12).mono ?_
  rintro e w13 ⟨v13, rfl, P13, b13⟩
  have H3 := Hvf.out w13 (hk12.bel b13) v13 P13 (hx12.up b13).sh (by omega) (hb12.up b13)
  rw [Hv3.out] at H3
  have HH3 := Lib.hid H3
  clear H3
  go_wp2_with fail
  refine HH3.out.mono ?_
  rintro e w14 ⟨rfl, b14⟩
  go_wp2_with fail
  go_ret
  exact ⟨rfl, bthen (bthen BW b13) b14⟩
end Go.Proofs.YtcieddigjfpecaaDoor
