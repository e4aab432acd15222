/- ValuesHold: the walk. -/
import Derived.Test.YthipdagebijbiaaGreatDoorXs
import Derived.Test.YthipdagebijbiaaGreatDoorVv
namespace Go.Proofs.YthipdagebijbiaaGreatDoor.Sg
open Go.RowKit
set_option linter.unusedVariables false
set_option linter.unusedSimpArgs false
set_option maxRecDepth 100000
theorem bstr_same (xs ys : List Nat) : ((bstr ((Sh.sha xs).take 16)).toList == (bstr ((Sh.sha ys).take 16)).toList) = decide ((Sh.sha xs).take 16 = (Sh.sha ys).take 16) := by
  rw [Bool.eq_iff_iff]
  simp only [beq_iff_eq, decide_eq_true_eq]
  constructor
  · intro h
    exact bstr_inj (fun x hx => Sh.sha_lim xs x (List.mem_of_mem_take hx)) (fun x hx => Sh.sha_lim ys x (List.mem_of_mem_take hx)) h
  · intro h
    rw [h]
theorem newrow (w : World) (o : Obj) : ∃ w1, w1 = w.alloc o ∧ w1.heap[w.heap.size]? = some o ∧ Below w.heap.size w w1 := ⟨_, rfl, World.alloc_heap_new w _, (Below.refl _ _).alloc (Nat.le_refl _) _⟩
theorem twoPQ (w : World) (o1 o2 : Obj) : ∃ W, W = ((w.alloc o1).alloc o2) ∧ W.heap[w.heap.size]? = some o1 ∧ W.heap[w.heap.size + 1]? = some o2 ∧ Below w.heap.size w W := by
  refine ⟨_, rfl, ?_, ?_, ((Below.refl _ _).alloc (Nat.le_refl _) _).alloc (by simp) _⟩
  · exact (Below.heap_alloc _ _ _ (by simp)).trans (World.alloc_heap_new w _)
  · have h := World.alloc_heap_new (w.alloc o1) o2
    rw [World.size_alloc] at h
    exact h
theorem known12_is (w : World) : Calls Tryz.prog 7 #[] w fun r w' => ∃ p q, Known p q ∧ MakeIs p q 65537 w r w' := (known12_any w).mono fun e w' h => ⟨_, _, .inl ⟨rfl, rfl⟩, h⟩
set_option maxHeartbeats 16000000 in
theorem vhold_any {w : World} (hk : Sh.Ks w) {ts fs n c n2 c2 us gs m e m2 e2 : Nat} {A A2 D D2 : Option Addr} {xs ys zs : List Nat} (hts : ts < 4294967296) (hfs : fs < 4294967296) (hus : us < 4294967296) (hgs : gs < 4294967296)
    (hx : Wi.Nb w w.heap.size A n c xs) (hy : Wi.Nb w w.heap.size D m e ys) (hz : Wi.Nb w w.heap.size D2 m2 e2 zs) :
    Calls Tryz.prog 3 #[.agg #[.int .u32 (ts : Int), .int .u32 (fs : Int), .slice A n c, .slice A2 n2 c2], .agg #[.int .u32 (us : Int), .int .u32 (gs : Int), .slice D m e, .slice D2 m2 e2]] w fun r w' => r = .returned (.bool true) ∧ Below w.heap.size w w' := by
  have HX := Lib.hid hx
  have HY := Lib.hid hy
  have HZ := Lib.hid hz
  have HK := Lib.hid hk
  have HU := Lib.hid (⟨hts, hfs, hus, hgs⟩ : ts < 4294967296 ∧ fs < 4294967296 ∧ us < 4294967296 ∧ gs < 4294967296)
  obtain ⟨W, hW, p0, q0, b0⟩ := twoPQ w (ObjW ts fs A n c A2 n2 c2) (ObjW us gs D m e D2 m2 e2)
  have HW := Lib.hid hW
  have P0 := Lib.hid p0
  have Q0 := Lib.hid q0
  have B0 := Lib.hid b0
  clear hW p0 q0 b0 hx hy hz hk hts hfs hus hgs
  obtain ⟨L1, hL1⟩ : ∃ L, lg n n2 = L := ⟨_, rfl⟩
  obtain ⟨L2, hL2⟩ : ∃ L, lg m m2 = L := ⟨_, rfl⟩
  have HL1 := Lib.hid hL1
  have HL2 := Lib.hid hL2
  clear hL1 hL2
  obtain ⟨m0, m1, m2x, m3, -, -⟩ := objW_all P0.out
  obtain ⟨o0, o1, o2, o3, -, -⟩ := objW_all Q0.out
  go_enter Tryz.func3, Tryz.ntmps3
  go_upto_region 1 with fail
  change Code.wp _ _ _ _ ((w.alloc (ObjW ts fs A n c A2 n2 c2)).alloc (ObjW us gs D m e D2 m2 e2))
  rw [← HW.out]
  have Hl1 := Lib.hid (long_any ts fs n c n2 c2 A A2 W)
  rw [HL1.out] at Hl1
  cases L1 with
  | true =>
    go_wp2_with fail
    refine Hl1.out.mono ?_
    rintro r w1 ⟨rfl, b1⟩
    have B1 := Lib.hid (bthen B0.out b1)
    clear b1
    go_wp2_with fail
    refine (Vv.alive_any _).mono ?_
    rintro e we ⟨rfl, be⟩
    have HBe := Lib.hid (bthen B1.out be)
    clear be
    go_wp2_with fail
    go_ret
    exact ⟨rfl, HBe.out⟩
  | false =>
    go_wp2_with fail
    refine Hl1.out.mono ?_
    rintro r w1 ⟨rfl, b1⟩
    have B1 := Lib.hid (bthen B0.out b1)
    have P1 := Lib.hid (row_up P0.out b1 (rowlt P0.out))
    have Q1 := Lib.hid (row_up Q0.out b1 (rowlt Q0.out))
    clear b1 m0 m1 m2x m3 o0 o1 o2 o3
    obtain ⟨m0, m1, m2x, m3, -, -⟩ := objW_all P1.out
    obtain ⟨o0, o1, o2, o3, -, -⟩ := objW_all Q1.out
    have Hl2 := Lib.hid (long_any us gs m e m2 e2 D D2 w1)
    rw [HL2.out] at Hl2
    cases L2 with
    | true =>
      go_wp2_with fail
      refine Hl2.out.mono ?_
      rintro r w2 ⟨rfl, b2⟩
      have B2 := Lib.hid (bthen B1.out b2)
      have P2 := Lib.hid (row_up P1.out b2 (rowlt P1.out))
      have Q2 := Lib.hid (row_up Q1.out b2 (rowlt Q1.out))
      clear b2 m0 m1 m2x m3 o0 o1 o2 o3
      obtain ⟨m0, m1, m2x, m3, -, -⟩ := objW_all P2.out
      obtain ⟨o0, o1, o2, o3, -, -⟩ := objW_all Q2.out
      go_wp2_with fail
      refine (Vv.alive_any _).mono ?_
      rintro e we ⟨rfl, be⟩
      have HBe := Lib.hid (bthen B2.out be)
      clear be
      go_wp2_with fail
      go_ret
      exact ⟨rfl, HBe.out⟩
    | false =>
      go_wp2_with fail
      refine Hl2.out.mono ?_
      rintro r w2 ⟨rfl, b2⟩
      have B2 := Lib.hid (bthen B1.out b2)
      have P2 := Lib.hid (row_up P1.out b2 (rowlt P1.out))
      have Q2 := Lib.hid (row_up Q1.out b2 (rowlt Q1.out))
      clear b2 m0 m1 m2x m3 o0 o1 o2 o3
      obtain ⟨m0, m1, m2x, m3, -, -⟩ := objW_all P2.out
      obtain ⟨o0, o1, o2, o3, -, -⟩ := objW_all Q2.out
      rcases Bool.eq_false_or_eq_true (decide ((2048 : Int) < (n : Int))) with c1 | c1
      · go_wp2_with fail
        refine (Vv.alive_any _).mono ?_
        rintro e we ⟨rfl, be⟩
        have HBe := Lib.hid (bthen B2.out be)
        clear be
        go_wp2_with fail
        go_ret
        exact ⟨rfl, HBe.out⟩
      rcases Bool.eq_false_or_eq_true (decide ((2048 : Int) < (m : Int))) with c3 | c3
      · go_wp2_with fail
        refine (Vv.alive_any _).mono ?_
        rintro e we ⟨rfl, be⟩
        have HBe := Lib.hid (bthen B2.out be)
        clear be
        go_wp2_with fail
        go_ret
        exact ⟨rfl, HBe.out⟩
      have hn : n ≤ 300 := by
        have h := HL1.out
        unfold lg at h
        simp only [Bool.or_eq_false_iff, Bool.and_eq_false_iff, decide_eq_false_iff_not] at h c1
        omega
      have hm : m ≤ 300 := by
        have h := HL2.out
        unfold lg at h
        simp only [Bool.or_eq_false_iff, Bool.and_eq_false_iff, decide_eq_false_iff_not] at h c3
        omega
      have hm2 : m2 ≤ 300 := by
        have h := HL2.out
        unfold lg at h
        simp only [Bool.or_eq_false_iff, Bool.and_eq_false_iff, decide_eq_false_iff_not] at h
        omega
      have HN := Lib.hid (⟨hn, hm, hm2⟩ : n ≤ 300 ∧ m ≤ 300 ∧ m2 ≤ 300)
      clear hn hm hm2 HL1 HL2 Hl1 Hl2
      go_wp2_with fail
      clear m0 m1 m2x m3 o0 o1 o2 o3
      refine (known12_is w2).mono ?_
      rintro r w3 ⟨p, q, hpq, K1, k1, t1, y1, K2, k2, t2, y2, K3, k3, t3, y3, d, rfl, KN1, kv1, kb1, KN2, kv2, kb2, KN3, kv3, kb3, ht, hd, hde, b3⟩
      have B3 := Lib.hid (bthen B2.out b3)
      have P3 := Lib.hid (row_up P2.out b3 (rowlt P2.out))
      have Q3 := Lib.hid (row_up Q2.out b3 (rowlt Q2.out))
      obtain ⟨f1, f2, f3, f4, f5, f6, f7, f8, f9, f10⟩ := known_facts hpq
      have hund := fun r => known_undo hpq hde r
      have hd0 : 0 < d := by
        rcases Nat.eq_zero_or_pos d with h | h
        · rw [h, Nat.mul_zero, Nat.zero_mod] at hde; omega
        · exact h
      have hdN : d < p * q := Nat.lt_of_lt_of_le hd f5
      obtain ⟨M, hM⟩ : ∃ M, p * q = M := ⟨_, rfl⟩
      rw [hM] at f1 f2 f3 f4 f7 f8 f9 f10 hdN kv1
      rw [hM] at hund
      clear hpq hd hde f5 f6 ht hM
      obtain ⟨s, hs⟩ : ∃ s, (bl M + 7) / 8 = s := ⟨_, rfl⟩
      rw [hs] at f7 f8 f9 f10
      obtain ⟨w4, hw4, rk, b4⟩ := newrow w3 (.cells #[Value.slice K1 k1 t1, .slice K2 k2 t2, .slice K3 k3 t3] 30)
      have P3r := Lib.hid (show Pr w3 (.agg #[Value.slice K1 k1 t1, .slice K2 k2 t2, .slice K3 k3 t3]) M 65537 d from ⟨_, _, _, _, _, _, _, _, _, _, _, _, rfl, KN1, kv1, kb1, KN2, kv2, kb2, KN3, kv3, kb3⟩)
      have G4 := Lib.hid (P3r.out.up b4)
      have W4 := Lib.hid hw4
      have B4 := Lib.hid (bthen B3.out b4)
      have P4 := Lib.hid (row_up P3.out b4 (rowlt P3.out))
      have Q4 := Lib.hid (row_up Q3.out b4 (rowlt Q3.out))
      have K4 := Lib.hid rk
      have S4 := Lib.hid (vsign_ok (HK.out.bel B4.out) G4.out f1 f2 f3 f4 hdN hd0 hs f7 (A2 := A2) (n2 := n2) (c2 := c2) HU.out.1 HU.out.2.1 (HX.out.far B4.out) HN.out.1)
      have hvf : ∀ (W : World) (kk : Sh.Ks W) (v : Value) (k : Pr W v M 65537 0) {ts fs n c c2 : Nat} {A A2 : Option Addr} {xs bs : List Nat} (hts : ts < 4294967296) (hfs : fs < 4294967296) (hx : Wi.Nb W W.heap.size A n c xs) (hn : n ≤ 300) (hb : Nb W W.heap.size A2 s c2 bs),
          Calls Tryz.prog 9 #[v, .agg #[.int .u32 (ts : Int), .int .u32 (fs : Int), .slice A n c, .slice A2 s c2]] W fun e w' => e = .returned (.int .i64 (chk (verB M s (sgn ts fs xs) bs))) ∧ Below W.heap.size W w' := fun W kk v k {ts fs n c c2 A A2 xs bs} hts hfs hx hn hb => vcheck_any kk k f1 f2 f3 f4 hs f7 hts hfs hx hn hb
      have Hvf := Lib.hid hvf
      have Hund := Lib.hid hund
      have F7 := Lib.hid f7
      have F8 := Lib.hid f8
      have F9 := Lib.hid f9
      have F10 := Lib.hid f10
      clear hvf hund f1 f2 f3 f4 f7 f8 f9 f10 hs hdN hd0 KN1 kv1 kb1 KN2 kv2 kb2 KN3 kv3 kb3 b3 b4 hw4 rk P3r
      obtain ⟨x0, x1, x2⟩ := key3 K4.out
      obtain ⟨m0, m1, m2x, m3, -, -⟩ := objW_all P4.out
      go_upto_region 4 with fail
      change Code.wp _ _ _ _ (w3.alloc (.cells #[Value.slice K1 k1 t1, .slice K2 k2 t2, .slice K3 k3 t3] 30))
      rw [← W4.out]
      go_wp2_with fail
      refine S4.out.mono ?_
      rintro r w5 ⟨g, A5, c5, rfl, hN5, hg, ho, b5⟩
      clear x0 x1 x2 m0 m1 m2x m3 S4 W4
      obtain ⟨Bs, hB⟩ : ∃ B, bts (val 256 (signN s (sgn ts fs xs)).reverse ^ d % M) s = B := ⟨_, rfl⟩
      rw [hB] at ho
      have lB : Bs.length = s := by rw [← hB]; exact length_bts _ _
      have LB : Lim 256 Bs := by rw [← hB]; exact lim_bts _ _
      have v1 : verB M s (sgn ts fs xs) Bs = true := by rw [← hB, ver_same F7.out F9.out F10.out Hund.out]; simp
      have v2 : verB M s (sgn us gs ys) Bs = decide ((Sh.sha (sgn ts fs xs)).take 16 = (Sh.sha (sgn us gs ys)).take 16) := by rw [← hB, ver_same F7.out F9.out F10.out Hund.out, sign_mark]
      have V1 := Lib.hid v1
      have V2 := Lib.hid v2
      have B5 := Lib.hid (bthen B4.out b5)
      have P5 := Lib.hid (row_up P4.out b5 (rowlt P4.out))
      have Q5 := Lib.hid (row_up Q4.out b5 (rowlt Q4.out))
      have K5 := Lib.hid (row_up K4.out b5 (rowlt K4.out))
      have G5 := Lib.hid (G4.out.up b5)
      have N5 := Lib.hid (show Nb w5 w5.heap.size (some ⟨g, 0, none⟩) s s Bs from ho.nb lB (show s ≤ maxLen by have := F8.out; unfold maxLen; omega) LB)
      have D5 := Lib.hid hN5
      clear v1 v2 hB lB LB ho hN5 hg b5
      obtain ⟨w6, hw6, rs, b6⟩ := newrow w5 (ObjW ts fs A5 n c5 (some ⟨g, 0, none⟩) s s)
      have W6 := Lib.hid hw6
      have B6 := Lib.hid (bthen B5.out b6)
      have P6 := Lib.hid (row_up P5.out b6 (rowlt P5.out))
      have Q6 := Lib.hid (row_up Q5.out b6 (rowlt Q5.out))
      have K6 := Lib.hid (row_up K5.out b6 (rowlt K5.out))
      have S6 := Lib.hid rs
      have G6 := Lib.hid (G5.out.up b6)
      have N6 := Lib.hid (N5.out.up b6)
      have D6 := Lib.hid (D5.out.far b6)
      clear hw6 rs b6
      go_upto_region 5 with fail
      change Code.wp _ _ _ _ (w5.alloc (ObjW ts fs A5 n c5 (some ⟨g, 0, none⟩) s s))
      rw [← W6.out]
      have bD : Below w6.heap.size w6 w6.drew := (Below.refl _ _).drew
      have B7 := Lib.hid (bthen B6.out bD)
      have P7 := Lib.hid (row_up P6.out bD (rowlt P6.out))
      have Q7 := Lib.hid (row_up Q6.out bD (rowlt Q6.out))
      have K7 := Lib.hid (row_up K6.out bD (rowlt K6.out))
      have S7 := Lib.hid (row_up S6.out bD (rowlt S6.out))
      have G7 := Lib.hid (G6.out.up bD)
      have N7 := Lib.hid (N6.out.up bD)
      have D7 := Lib.hid (D6.out.far bD)
      obtain ⟨z0, z1, z2⟩ := key3 K7.out
      obtain ⟨u0, u1, u2, u3, -, -⟩ := objW_all S7.out
      clear bD
      go_region_held3 (fun w' => w'.cell? ⟨w3.heap.size, 0, none⟩ = some (Value.slice K1 k1 t1) ∧ w'.cell? ⟨w3.heap.size, 1, none⟩ = some (Value.slice K2 k2 t2) ∧ w'.cell? ⟨w3.heap.size, 2, none⟩ = some (Value.slice K3 k3 t3) ∧ w'.cell? ⟨w5.heap.size, 0, none⟩ = some (.int .u32 (ts : Int)) ∧ w'.cell? ⟨w5.heap.size, 1, none⟩ = some (.int .u32 (fs : Int)) ∧ w'.cell? ⟨w5.heap.size, 2, none⟩ = some (.slice A5 n c5) ∧ w'.cell? ⟨w5.heap.size, 3, none⟩ = some (.slice (some ⟨g, 0, none⟩) s s))
        (first | with_reducible exact ⟨z0, z1, z2, u0, u1, u2, u3⟩ | with_reducible exact ⟨j0, j1, j2, i0, i1, i2, i3⟩ | with_reducible exact ⟨l0, l1, l2, h0, h1, h2, h3⟩)
        ((first
          | (go_at_call 10; refine (public_any G7.out).mono ?_; rintro r w8 ⟨v8, rfl, hp8, b8⟩
             have B8 := Lib.hid (bthen B7.out b8)
             have P8 := Lib.hid (row_up P7.out b8 (rowlt P7.out))
             have Q8 := Lib.hid (row_up Q7.out b8 (rowlt Q7.out))
             have K8 := Lib.hid (row_up K7.out b8 (rowlt K7.out))
             have S8 := Lib.hid (row_up S7.out b8 (rowlt S7.out))
             have G8 := Lib.hid (G7.out.up b8)
             have N8 := Lib.hid (N7.out.up b8)
             have D8 := Lib.hid (D7.out.far b8)
             have hc := Hvf.out w8 (HK.out.bel B8.out) v8 hp8 HU.out.1 HU.out.2.1 D8.out HN.out.1 N8.out
             rw [V1.out, show chk true = 0 from rfl] at hc
             have C8 := Lib.hid hc
             obtain ⟨j0, j1, j2⟩ := key3 K8.out
             obtain ⟨i0, i1, i2, i3, -, -⟩ := objW_all S8.out
             clear hc hp8 b8)
          | (go_at_call 9; refine C8.out.mono ?_; rintro r w9 ⟨rfl, b9⟩
             have B9 := Lib.hid (bthen B8.out b9)
             have P9 := Lib.hid (row_up P8.out b9 (rowlt P8.out))
             have Q9 := Lib.hid (row_up Q8.out b9 (rowlt Q8.out))
             have K9 := Lib.hid (row_up K8.out b9 (rowlt K8.out))
             have S9 := Lib.hid (row_up S8.out b9 (rowlt S8.out))
             have G9 := Lib.hid (G8.out.up b9)
             have N9 := Lib.hid (N8.out.up b9)
             obtain ⟨l0, l1, l2⟩ := key3 K9.out
             obtain ⟨h0, h1, h2, h3, -, -⟩ := objW_all S9.out
             clear b9)))
      clear z0 z1 z2 u0 u1 u2 u3 j0 j1 j2 i0 i1 i2 i3 l0 l1 l2 h0 h1 h2 h3
      obtain ⟨o0, o1, o2, o3, -, -⟩ := objW_all Q9.out
      have HC := Lib.hid (vcopy_any (ts := us) (fs := gs) (HY.out.far B9.out) (HZ.out.far B9.out) (by have := HN.out.2.1; omega) (by have := HN.out.2.2; omega))
      go_wp2_with fail
      refine HC.out.mono ?_
      rintro r w10 ⟨A10, c10, A11, c11, rfl, hN10, b10⟩
      have B10 := Lib.hid (bthen B9.out b10)
      have P10 := Lib.hid (row_up P9.out b10 (rowlt P9.out))
      have Q10 := Lib.hid (row_up Q9.out b10 (rowlt Q9.out))
      have K10 := Lib.hid (row_up K9.out b10 (rowlt K9.out))
      have S10 := Lib.hid (row_up S9.out b10 (rowlt S9.out))
      have G10 := Lib.hid (G9.out.up b10)
      have N10 := Lib.hid (N9.out.up b10)
      have D10 := Lib.hid hN10
      clear o0 o1 o2 o3 HC hN10 b10
      obtain ⟨w11, hw11, rt, b11⟩ := newrow w10 (ObjW us gs A10 m c10 A11 m2 c11)
      have W11 := Lib.hid hw11
      have R11 := Lib.hid rt
      have X11 := Lib.hid b11
      have hS11 := Lib.hid (row_up S10.out b11 (rowlt S10.out))
      obtain ⟨u0, u1, u2, u3, -, -⟩ := objW_all hS11.out
      obtain ⟨o0, o1, o2, o3, f2, f3⟩ := objW_all rt
      clear hw11 rt b11
      go_upto_region 8 with fail
      change Code.wp _ _ _ _ (w10.alloc (ObjW us gs A10 m c10 A11 m2 c11))
      rw [← W11.out]
      go_upto_region 9 with fail
      clear u0 u1 u2 u3 o0 o1 o2 o3 f2 f3
      obtain ⟨U, hU⟩ : ∃ U, U = w11.setCell ⟨w10.heap.size, 3, none⟩ (.slice (some ⟨g, 0, none⟩) s s) := ⟨_, rfl⟩
      have rU : U.heap[w10.heap.size]? = some (ObjW us gs A10 m c10 (some ⟨g, 0, none⟩) s s) := by
        have h := R11.out
        unfold ObjW at h
        rw [hU]
        simp [World.setCell, Array.getElem?_modify, h, ObjW]
      have bU : Below w10.heap.size w10 U := by rw [hU]; exact X11.out.setCell (by simp) _
      rw [← hU]
      have T12 := Lib.hid rU
      have B12 := Lib.hid (bthen B10.out bU)
      have P12 := Lib.hid (row_up P10.out bU (rowlt P10.out))
      have Q12 := Lib.hid (row_up Q10.out bU (rowlt Q10.out))
      have K12 := Lib.hid (row_up K10.out bU (rowlt K10.out))
      have S12 := Lib.hid (row_up S10.out bU (rowlt S10.out))
      have G12 := Lib.hid (G10.out.up bU)
      have N12 := Lib.hid (N10.out.up bU)
      have D12 := Lib.hid (D10.out.far bU)
      clear hU rU bU
      obtain ⟨m0, m1, m2x, m3, -, -⟩ := objW_all P12.out
      have Z1 := Lib.hid (signed_any (A2 := A2) (n2 := n2) (c2 := c2) HU.out.1 HU.out.2.1 (HX.out.far B12.out) (by have := HN.out.1; omega))
      go_wp2_with fail
      refine Z1.out.mono ?_
      rintro r w13 ⟨A12, c12, rfl, hN13, b13⟩
      have B13 := Lib.hid (bthen B12.out b13)
      have P13 := Lib.hid (row_up P12.out b13 (rowlt P12.out))
      have Q13 := Lib.hid (row_up Q12.out b13 (rowlt Q12.out))
      have K13 := Lib.hid (row_up K12.out b13 (rowlt K12.out))
      have S13 := Lib.hid (row_up S12.out b13 (rowlt S12.out))
      have T13 := Lib.hid (row_up T12.out b13 (rowlt T12.out))
      have G13 := Lib.hid (G12.out.up b13)
      have N13 := Lib.hid (N12.out.up b13)
      have D13 := Lib.hid (D12.out.far b13)
      have Z2 := Lib.hid (Sh.trunc_in (HK.out.bel B13.out) (toSh hN13) (by have := HN.out.1; omega) 16 (by omega))
      clear m0 m1 m2x m3 Z1 hN13 b13
      go_wp2_with fail
      refine Z2.out.mono ?_
      rintro r w14 ⟨A13, c13, rfl, hM14, b14⟩
      have B14 := Lib.hid (bthen B13.out b14)
      have P14 := Lib.hid (row_up P13.out b14 (rowlt P13.out))
      have Q14 := Lib.hid (row_up Q13.out b14 (rowlt Q13.out))
      have K14 := Lib.hid (row_up K13.out b14 (rowlt K13.out))
      have S14 := Lib.hid (row_up S13.out b14 (rowlt S13.out))
      have T14 := Lib.hid (row_up T13.out b14 (rowlt T13.out))
      have G14 := Lib.hid (G13.out.up b14)
      have N14 := Lib.hid (N13.out.up b14)
      have D14 := Lib.hid (D13.out.far b14)
      have M14 := Lib.hid hM14
      have Z3 := Lib.hid (signed_any (A2 := D2) (n2 := m2) (c2 := e2) HU.out.2.2.1 HU.out.2.2.2 (HY.out.far B14.out) (by have := HN.out.2.1; omega))
      clear Z2 hM14 b14
      obtain ⟨o0, o1, o2, o3, -, -⟩ := objW_all Q14.out
      go_wp2_with fail
      refine Z3.out.mono ?_
      rintro r w15 ⟨A14, c14, rfl, hN15, b15⟩
      have B15 := Lib.hid (bthen B14.out b15)
      have P15 := Lib.hid (row_up P14.out b15 (rowlt P14.out))
      have Q15 := Lib.hid (row_up Q14.out b15 (rowlt Q14.out))
      have K15 := Lib.hid (row_up K14.out b15 (rowlt K14.out))
      have S15 := Lib.hid (row_up S14.out b15 (rowlt S14.out))
      have T15 := Lib.hid (row_up T14.out b15 (rowlt T14.out))
      have G15 := Lib.hid (G14.out.up b15)
      have N15 := Lib.hid (N14.out.up b15)
      have D15 := Lib.hid (D14.out.far b15)
      have M15 := Lib.hid (M14.out.go b15)
      have Z4 := Lib.hid (Sh.trunc_in (HK.out.bel B15.out) (toSh hN15) (by have := HN.out.2.1; omega) 16 (by omega))
      clear o0 o1 o2 o3 Z3 hN15 b15
      go_wp2_with fail
      refine Z4.out.mono ?_
      rintro r w16 ⟨A15, c15, rfl, hM16, b16⟩
      have B16 := Lib.hid (bthen B15.out b16)
      have P16 := Lib.hid (row_up P15.out b16 (rowlt P15.out))
      have Q16 := Lib.hid (row_up Q15.out b16 (rowlt Q15.out))
      have K16 := Lib.hid (row_up K15.out b16 (rowlt K15.out))
      have S16 := Lib.hid (row_up S15.out b16 (rowlt S15.out))
      have T16 := Lib.hid (row_up T15.out b16 (rowlt T15.out))
      have G16 := Lib.hid (G15.out.up b16)
      have N16 := Lib.hid (N15.out.up b16)
      have D16 := Lib.hid (D15.out.far b16)
      have M16 := Lib.hid (M15.out.go b16)
      have E16 := Lib.hid hM16
      clear Z4 hM16 b16
      obtain ⟨bb, hbb⟩ : ∃ b, decide ((Sh.sha (sgn ts fs xs)).take 16 = (Sh.sha (sgn us gs ys)).take 16) = b := ⟨_, rfl⟩
      have v2 := V2.out
      rw [hbb] at v2
      obtain ⟨S1, hS1⟩ : ∃ S, bstr ((Sh.sha (sgn ts fs xs)).take 16) = S := ⟨_, rfl⟩
      obtain ⟨S2, hS2⟩ : ∃ S, bstr ((Sh.sha (sgn us gs ys)).take 16) = S := ⟨_, rfl⟩
      have hSS : (S1.toList == S2.toList) = bb := by rw [← hS1, ← hS2, ← hbb]; exact bstr_same _ _
      have HS1 := Lib.hid hS1
      have HS2 := Lib.hid hS2
      have VV := Lib.hid v2
      clear hbb v2 hS1 hS2 V2
      go_upto_region 11 with fail
      have bD : Below w16.heap.size w16 w16.drew := (Below.refl _ _).drew
      have B17 := Lib.hid (bthen B16.out bD)
      have P17 := Lib.hid (row_up P16.out bD (rowlt P16.out))
      have Q17 := Lib.hid (row_up Q16.out bD (rowlt Q16.out))
      have K17 := Lib.hid (row_up K16.out bD (rowlt K16.out))
      have S17 := Lib.hid (row_up S16.out bD (rowlt S16.out))
      have T17 := Lib.hid (row_up T16.out bD (rowlt T16.out))
      have G17 := Lib.hid (G16.out.up bD)
      have N17 := Lib.hid (N16.out.up bD)
      have D17 := Lib.hid (D16.out.far bD)
      have M17 := Lib.hid (M16.out.go bD)
      have E17 := Lib.hid (E16.out.go bD)
      obtain ⟨z0, z1, z2⟩ := key3 K17.out
      obtain ⟨u0, u1, u2, u3, -, -⟩ := objW_all T17.out
      have ka := conv_any M17.out
      have kb := conv_any E17.out
      rw [HS1.out] at ka
      rw [HS2.out] at kb
      clear bD
      cases bb
      all_goals
        go_region_held3 (fun w' => w'.cell? ⟨w3.heap.size, 0, none⟩ = some (Value.slice K1 k1 t1) ∧ w'.cell? ⟨w3.heap.size, 1, none⟩ = some (Value.slice K2 k2 t2) ∧ w'.cell? ⟨w3.heap.size, 2, none⟩ = some (Value.slice K3 k3 t3) ∧ w'.cell? ⟨w10.heap.size, 0, none⟩ = some (.int .u32 (us : Int)) ∧ w'.cell? ⟨w10.heap.size, 1, none⟩ = some (.int .u32 (gs : Int)) ∧ w'.cell? ⟨w10.heap.size, 2, none⟩ = some (.slice A10 m c10) ∧ w'.cell? ⟨w10.heap.size, 3, none⟩ = some (.slice (some ⟨g, 0, none⟩) s s) ∧ (convert 23 9 (.slice A13 16 c13)).run Tryz.prog w' = .ok (.string S1) w' ∧ (convert 23 9 (.slice A15 16 c15)).run Tryz.prog w' = .ok (.string S2) w')
          (first | with_reducible exact ⟨z0, z1, z2, u0, u1, u2, u3, ka, kb⟩ | with_reducible exact ⟨x0, x1, x2, y0, y1, y2, y3, ke, kf⟩ | with_reducible exact ⟨j0, j1, j2, i0, i1, i2, i3, kc, kd⟩ | with_reducible exact ⟨l0, l1, l2, h0, h1, h2, h3, kg, kh⟩)
          ((first
            | (go_at_call 6; refine (Vv.alive_any _).mono ?_; rintro r w18 ⟨rfl, b18⟩
               have B18 := Lib.hid (bthen B17.out b18)
               have P18 := Lib.hid (row_up P17.out b18 (rowlt P17.out))
               have Q18 := Lib.hid (row_up Q17.out b18 (rowlt Q17.out))
               have K18 := Lib.hid (row_up K17.out b18 (rowlt K17.out))
               have S18 := Lib.hid (row_up S17.out b18 (rowlt S17.out))
               have T18 := Lib.hid (row_up T17.out b18 (rowlt T17.out))
               have G18 := Lib.hid (G17.out.up b18)
               have N18 := Lib.hid (N17.out.up b18)
               have D18 := Lib.hid (D17.out.far b18)
               have M18 := Lib.hid (M17.out.go b18)
               have E18 := Lib.hid (E17.out.go b18)
               have ke := conv_any M18.out
               have kf := conv_any E18.out
               rw [HS1.out] at ke
               rw [HS2.out] at kf
               obtain ⟨x0, x1, x2⟩ := key3 K18.out
               obtain ⟨y0, y1, y2, y3, -, -⟩ := objW_all T18.out
               clear b18)
            | (go_at_call 10; refine (public_any G18.out).mono ?_; rintro r w19 ⟨v8, rfl, hp8, b19⟩
               have B19 := Lib.hid (bthen B18.out b19)
               have P19 := Lib.hid (row_up P18.out b19 (rowlt P18.out))
               have Q19 := Lib.hid (row_up Q18.out b19 (rowlt Q18.out))
               have K19 := Lib.hid (row_up K18.out b19 (rowlt K18.out))
               have S19 := Lib.hid (row_up S18.out b19 (rowlt S18.out))
               have T19 := Lib.hid (row_up T18.out b19 (rowlt T18.out))
               have N19 := Lib.hid (N18.out.up b19)
               have D19 := Lib.hid (D18.out.far b19)
               have M19 := Lib.hid (M18.out.go b19)
               have E19 := Lib.hid (E18.out.go b19)
               have kc := conv_any M19.out
               have kd := conv_any E19.out
               rw [HS1.out] at kc
               rw [HS2.out] at kd
               have hc := Hvf.out w19 (HK.out.bel B19.out) v8 hp8 HU.out.2.2.1 HU.out.2.2.2 D19.out HN.out.2.1 N19.out
               rw [VV.out] at hc
               have C19 := Lib.hid hc
               obtain ⟨j0, j1, j2⟩ := key3 K19.out
               obtain ⟨i0, i1, i2, i3, -, -⟩ := objW_all T19.out
               clear hc hp8 b19)
            | (go_at_call 9; refine C19.out.mono ?_; rintro r w20 ⟨rfl, b20⟩
               have B20 := Lib.hid (bthen B19.out b20)
               have P20 := Lib.hid (row_up P19.out b20 (rowlt P19.out))
               have Q20 := Lib.hid (row_up Q19.out b20 (rowlt Q19.out))
               have K20 := Lib.hid (row_up K19.out b20 (rowlt K19.out))
               have S20 := Lib.hid (row_up S19.out b20 (rowlt S19.out))
               have T20 := Lib.hid (row_up T19.out b20 (rowlt T19.out))
               have M20 := Lib.hid (M19.out.go b20)
               have E20 := Lib.hid (E19.out.go b20)
               have kg := conv_any M20.out
               have kh := conv_any E20.out
               rw [HS1.out] at kg
               rw [HS2.out] at kh
               obtain ⟨l0, l1, l2⟩ := key3 K20.out
               obtain ⟨h0, h1, h2, h3, -, -⟩ := objW_all T20.out
               clear b20)))
        go_wp2_with fail
        go_ret
        exact ⟨rfl, B20.out⟩
end Go.Proofs.YthipdagebijbiaaGreatDoor.Sg
