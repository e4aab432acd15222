/- top06.TopSigned: the law. ValuesHold: the walk. top06.alive06, the reference Same of one value. TopSigned: the walk. What the laid variable gives; how rows and structs that came in are read. A value that came in. -/
import Derived.Test.YthipdagebijbiaaGreatDoorXs
import Derived.Test.YthipdagebijbiaaGreatDoorVv
import Derived.Test.YthipdagebijbiaaGreatDoorWiW8
import Derived.Test.YthipdagebijbiaaGreatDoorDd
import Derived.Test.YthipdagebijbiaaGreatDoorWr
import Derived.Test.YthipdagebijbiaaGreatDoorRows
import Derived.Test.YthipdagebijbiaaGreatDoorCards
import Derived.Test.YthipdagebijbiaaGreatDoorTie
import Derived.Test.YthipdagebijbiaaGreatDoorFew
import Derived.ProofKit
import Derived.LaidMore
import Derived.OpenShut
import Derived.ShutString
import Derived.ChangeOld
import Derived.Stop.Joined
import Derived.SevenTiedAt
import Derived.SizedLaws
import Derived.Deep.Strs
import Derived.Test.YthipdagebijbiaaGreatDoorWi

namespace Go.Proofs.YthipdagebijbiaaGreatDoor.Sg
open Go.RowKit
set_option linter.unusedVariables false
set_option linter.unusedSimpArgs false
set_option maxRecDepth 100000
theorem bstr_same (xs ys : List Nat) : ((bstr ((Sh.sha xs).take 16)).toList == (bstr ((Sh.sha ys).take 16)).toList) = decide ((Sh.sha xs).take 16 = (Sh.sha ys).take 16) := by
  rw [Bool.eq_iff_iff]
  simp only [beq_iff_eq, decide_eq_true_eq]
  constructor
  · intro h
    exact bstr_inj (fun x hx => Sh.sha_lim xs x (List.mem_of_mem_take hx)) (fun x hx => Sh.sha_lim ys x (List.mem_of_mem_take hx)) h
  · intro h
    rw [h]
theorem newrow (w : World) (o : Obj) : ∃ w1, w1 = w.alloc o ∧ w1.heap[w.heap.size]? = some o ∧ Below w.heap.size w w1 := ⟨_, rfl, World.alloc_heap_new w _, (Below.refl _ _).alloc (Nat.le_refl _) _⟩
theorem twoPQ (w : World) (o1 o2 : Obj) : ∃ W, W = ((w.alloc o1).alloc o2) ∧ W.heap[w.heap.size]? = some o1 ∧ W.heap[w.heap.size + 1]? = some o2 ∧ Below w.heap.size w W := by
  refine ⟨_, rfl, ?_, ?_, ((Below.refl _ _).alloc (Nat.le_refl _) _).alloc (by simp) _⟩
  · exact (Below.heap_alloc _ _ _ (by simp)).trans (World.alloc_heap_new w _)
  · have h := World.alloc_heap_new (w.alloc o1) o2
    rw [World.size_alloc] at h
    exact h
theorem known12_is (w : World) : Calls Tryz.prog 7 #[] w fun r w' => ∃ p q, Known p q ∧ MakeIs p q 65537 w r w' := (known12_any w).mono fun e w' h => ⟨_, _, .inl ⟨rfl, rfl⟩, h⟩
set_option maxHeartbeats 16000000 in
theorem vhold_any {w : World} (hk : Sh.Ks w) {ts fs n c n2 c2 us gs m e m2 e2 : Nat} {A A2 D D2 : Option Addr} {xs ys zs : List Nat} (hts : ts < 4294967296) (hfs : fs < 4294967296) (hus : us < 4294967296) (hgs : gs < 4294967296)
    (hx : Wi.Nb w w.heap.size A n c xs) (hy : Wi.Nb w w.heap.size D m e ys) (hz : Wi.Nb w w.heap.size D2 m2 e2 zs) :
    Calls Tryz.prog 3 #[.agg #[.int .u32 (ts : Int), .int .u32 (fs : Int), .slice A n c, .slice A2 n2 c2], .agg #[.int .u32 (us : Int), .int .u32 (gs : Int), .slice D m e, .slice D2 m2 e2]] w fun r w' => r = .returned (.bool true) ∧ Below w.heap.size w w' := by
  have HX := Lib.hid hx
  have HY := Lib.hid hy
  have HZ := Lib.hid hz
  have HK := Lib.hid hk
  have HU := Lib.hid (⟨hts, hfs, hus, hgs⟩ : ts < 4294967296 ∧ fs < 4294967296 ∧ us < 4294967296 ∧ gs < 4294967296)
  obtain ⟨W, hW, p0, q0, b0⟩ := twoPQ w (ObjW ts fs A n c A2 n2 c2) (ObjW us gs D m e D2 m2 e2)
  have HW := Lib.hid hW
  have P0 := Lib.hid p0
  have Q0 := Lib.hid q0
  have B0 := Lib.hid b0
  clear hW p0 q0 b0 hx hy hz hk hts hfs hus hgs
  obtain ⟨L1, hL1⟩ : ∃ L, lg n n2 = L := ⟨_, rfl⟩
  obtain ⟨L2, hL2⟩ : ∃ L, lg m m2 = L := ⟨_, rfl⟩
  have HL1 := Lib.hid hL1
  have HL2 := Lib.hid hL2
  clear hL1 hL2
  obtain ⟨m0, m1, m2x, m3, -, -⟩ := objW_all P0.out
  obtain ⟨o0, o1, o2, o3, -, -⟩ := objW_all Q0.out
  go_enter Tryz.func3, Tryz.ntmps3
  go_upto_region 1 with fail
  change Code.wp _ _ _ _ ((w.alloc (ObjW ts fs A n c A2 n2 c2)).alloc (ObjW us gs D m e D2 m2 e2))
  rw [← HW.out]
  have Hl1 := Lib.hid (long_any ts fs n c n2 c2 A A2 W)
  rw [HL1.out] at Hl1
  cases L1 with
  | true =>
    go_wp2_with fail
    refine Hl1.out.mono ?_
    rintro r w1 ⟨rfl, b1⟩
    have B1 := Lib.hid (bthen B0.out b1)
    clear b1
    go_wp2_with fail
    refine (Vv.alive_any _).mono ?_
    rintro e we ⟨rfl, be⟩
    have HBe := Lib.hid (bthen B1.out be)
    clear be
    go_wp2_with fail
    go_ret
    exact ⟨rfl, HBe.out⟩
  | false =>
    go_wp2_with fail
    refine Hl1.out.mono ?_
    rintro r w1 ⟨rfl, b1⟩
    have B1 := Lib.hid (bthen B0.out b1)
    have P1 := Lib.hid (row_up P0.out b1 (rowlt P0.out))
    have Q1 := Lib.hid (row_up Q0.out b1 (rowlt Q0.out))
    clear b1 m0 m1 m2x m3 o0 o1 o2 o3
    obtain ⟨m0, m1, m2x, m3, -, -⟩ := objW_all P1.out
    obtain ⟨o0, o1, o2, o3, -, -⟩ := objW_all Q1.out
    have Hl2 := Lib.hid (long_any us gs m e m2 e2 D D2 w1)
    rw [HL2.out] at Hl2
    cases L2 with
    | true =>
      go_wp2_with fail
      refine Hl2.out.mono ?_
      rintro r w2 ⟨rfl, b2⟩
      have B2 := Lib.hid (bthen B1.out b2)
      have P2 := Lib.hid (row_up P1.out b2 (rowlt P1.out))
      have Q2 := Lib.hid (row_up Q1.out b2 (rowlt Q1.out))
      clear b2 m0 m1 m2x m3 o0 o1 o2 o3
      obtain ⟨m0, m1, m2x, m3, -, -⟩ := objW_all P2.out
      obtain ⟨o0, o1, o2, o3, -, -⟩ := objW_all Q2.out
      go_wp2_with fail
      refine (Vv.alive_any _).mono ?_
      rintro e we ⟨rfl, be⟩
      have HBe := Lib.hid (bthen B2.out be)
      clear be
      go_wp2_with fail
      go_ret
      exact ⟨rfl, HBe.out⟩
    | false =>
      go_wp2_with fail
      refine Hl2.out.mono ?_
      rintro r w2 ⟨rfl, b2⟩
      have B2 := Lib.hid (bthen B1.out b2)
      have P2 := Lib.hid (row_up P1.out b2 (rowlt P1.out))
      have Q2 := Lib.hid (row_up Q1.out b2 (rowlt Q1.out))
      clear b2 m0 m1 m2x m3 o0 o1 o2 o3
      obtain ⟨m0, m1, m2x, m3, -, -⟩ := objW_all P2.out
      obtain ⟨o0, o1, o2, o3, -, -⟩ := objW_all Q2.out
      rcases Bool.eq_false_or_eq_true (decide ((2048 : Int) < (n : Int))) with c1 | c1
      · go_wp2_with fail
        refine (Vv.alive_any _).mono ?_
        rintro e we ⟨rfl, be⟩
        have HBe := Lib.hid (bthen B2.out be)
        clear be
        go_wp2_with fail
        go_ret
        exact ⟨rfl, HBe.out⟩
      rcases Bool.eq_false_or_eq_true (decide ((2048 : Int) < (m : Int))) with c3 | c3
      · go_wp2_with fail
        refine (Vv.alive_any _).mono ?_
        rintro e we ⟨rfl, be⟩
        have HBe := Lib.hid (bthen B2.out be)
        clear be
        go_wp2_with fail
        go_ret
        exact ⟨rfl, HBe.out⟩
      have hn : n ≤ 300 := by
        have h := HL1.out
        unfold lg at h
        simp only [Bool.or_eq_false_iff, Bool.and_eq_false_iff, decide_eq_false_iff_not] at h c1
        omega
      have hm : m ≤ 300 := by
        have h := HL2.out
        unfold lg at h
        simp only [Bool.or_eq_false_iff, Bool.and_eq_false_iff, decide_eq_false_iff_not] at h c3
        omega
      have hm2 : m2 ≤ 300 := by
        have h := HL2.out
        unfold lg at h
        simp only [Bool.or_eq_false_iff, Bool.and_eq_false_iff, decide_eq_false_iff_not] at h
        omega
      have HN := Lib.hid (⟨hn, hm, hm2⟩ : n ≤ 300 ∧ m ≤ 300 ∧ m2 ≤ 300)
      clear hn hm hm2 HL1 HL2 Hl1 Hl2
      go_wp2_with fail
      clear m0 m1 m2x m3 o0 o1 o2 o3
      refine (known12_is w2).mono ?_
      rintro r w3 ⟨p, q, hpq, K1, k1, t1, y1, K2, k2, t2, y2, K3, k3, t3, y3, d, rfl, KN1, kv1, kb1, KN2, kv2, kb2, KN3, kv3, kb3, ht, hd, hde, b3⟩
      have B3 := Lib.hid (bthen B2.out b3)
      have P3 := Lib.hid (row_up P2.out b3 (rowlt P2.out))
      have Q3 := Lib.hid (row_up Q2.out b3 (rowlt Q2.out))
      obtain ⟨f1, f2, f3, f4, f5, f6, f7, f8, f9, f10⟩ := known_facts hpq
      have hund := fun r => known_undo hpq hde r
      have hd0 : 0 < d := by
        rcases Nat.eq_zero_or_pos d with h | h
        · rw [h, Nat.mul_zero, Nat.zero_mod] at hde; omega
        · exact h
      have hdN : d < p * q := Nat.lt_of_lt_of_le hd f5
      obtain ⟨M, hM⟩ : ∃ M, p * q = M := ⟨_, rfl⟩
      rw [hM] at f1 f2 f3 f4 f7 f8 f9 f10 hdN kv1
      rw [hM] at hund
      clear hpq hd hde f5 f6 ht hM
      obtain ⟨s, hs⟩ : ∃ s, (bl M + 7) / 8 = s := ⟨_, rfl⟩
      rw [hs] at f7 f8 f9 f10
      obtain ⟨w4, hw4, rk, b4⟩ := newrow w3 (.cells #[Value.slice K1 k1 t1, .slice K2 k2 t2, .slice K3 k3 t3] 30)
      have P3r := Lib.hid (show Pr w3 (.agg #[Value.slice K1 k1 t1, .slice K2 k2 t2, .slice K3 k3 t3]) M 65537 d from ⟨_, _, _, _, _, _, _, _, _, _, _, _, rfl, KN1, kv1, kb1, KN2, kv2, kb2, KN3, kv3, kb3⟩)
      have G4 := Lib.hid (P3r.out.up b4)
      have W4 := Lib.hid hw4
      have B4 := Lib.hid (bthen B3.out b4)
      have P4 := Lib.hid (row_up P3.out b4 (rowlt P3.out))
      have Q4 := Lib.hid (row_up Q3.out b4 (rowlt Q3.out))
      have K4 := Lib.hid rk
      have S4 := Lib.hid (vsign_ok (HK.out.bel B4.out) G4.out f1 f2 f3 f4 hdN hd0 hs f7 (A2 := A2) (n2 := n2) (c2 := c2) HU.out.1 HU.out.2.1 (HX.out.far B4.out) HN.out.1)
      have hvf : ∀ (W : World) (kk : Sh.Ks W) (v : Value) (k : Pr W v M 65537 0) {ts fs n c c2 : Nat} {A A2 : Option Addr} {xs bs : List Nat} (hts : ts < 4294967296) (hfs : fs < 4294967296) (hx : Wi.Nb W W.heap.size A n c xs) (hn : n ≤ 300) (hb : Nb W W.heap.size A2 s c2 bs),
          Calls Tryz.prog 9 #[v, .agg #[.int .u32 (ts : Int), .int .u32 (fs : Int), .slice A n c, .slice A2 s c2]] W fun e w' => e = .returned (.int .i64 (chk (verB M s (sgn ts fs xs) bs))) ∧ Below W.heap.size W w' := fun W kk v k {ts fs n c c2 A A2 xs bs} hts hfs hx hn hb => vcheck_any kk k f1 f2 f3 f4 hs f7 hts hfs hx hn hb
      have Hvf := Lib.hid hvf
      have Hund := Lib.hid hund
      have F7 := Lib.hid f7
      have F8 := Lib.hid f8
      have F9 := Lib.hid f9
      have F10 := Lib.hid f10
      clear hvf hund f1 f2 f3 f4 f7 f8 f9 f10 hs hdN hd0 KN1 kv1 kb1 KN2 kv2 kb2 KN3 kv3 kb3 b3 b4 hw4 rk P3r
      obtain ⟨x0, x1, x2⟩ := key3 K4.out
      obtain ⟨m0, m1, m2x, m3, -, -⟩ := objW_all P4.out
      go_upto_region 4 with fail
      change Code.wp _ _ _ _ (w3.alloc (.cells #[Value.slice K1 k1 t1, .slice K2 k2 t2, .slice K3 k3 t3] 30))
      rw [← W4.out]
      go_wp2_with fail
      refine S4.out.mono ?_
      rintro r w5 ⟨g, A5, c5, rfl, hN5, hg, ho, b5⟩
      clear x0 x1 x2 m0 m1 m2x m3 S4 W4
      obtain ⟨Bs, hB⟩ : ∃ B, bts (val 256 (signN s (sgn ts fs xs)).reverse ^ d % M) s = B := ⟨_, rfl⟩
      rw [hB] at ho
      have lB : Bs.length = s := by rw [← hB]; exact length_bts _ _
      have LB : Lim 256 Bs := by rw [← hB]; exact lim_bts _ _
      have v1 : verB M s (sgn ts fs xs) Bs = true := by rw [← hB, ver_same F7.out F9.out F10.out Hund.out]; simp
      have v2 : verB M s (sgn us gs ys) Bs = decide ((Sh.sha (sgn ts fs xs)).take 16 = (Sh.sha (sgn us gs ys)).take 16) := by rw [← hB, ver_same F7.out F9.out F10.out Hund.out, sign_mark]
      have V1 := Lib.hid v1
      have V2 := Lib.hid v2
      have B5 := Lib.hid (bthen B4.out b5)
      have P5 := Lib.hid (row_up P4.out b5 (rowlt P4.out))
      have Q5 := Lib.hid (row_up Q4.out b5 (rowlt Q4.out))
      have K5 := Lib.hid (row_up K4.out b5 (rowlt K4.out))
      have G5 := Lib.hid (G4.out.up b5)
      have N5 := Lib.hid (show Nb w5 w5.heap.size (some ⟨g, 0, none⟩) s s Bs from ho.nb lB (show s ≤ maxLen by have := F8.out; unfold maxLen; omega) LB)
      have D5 := Lib.hid hN5
      clear v1 v2 hB lB LB ho hN5 hg b5
      obtain ⟨w6, hw6, rs, b6⟩ := newrow w5 (ObjW ts fs A5 n c5 (some ⟨g, 0, none⟩) s s)
      have W6 := Lib.hid hw6
      have B6 := Lib.hid (bthen B5.out b6)
      have P6 := Lib.hid (row_up P5.out b6 (rowlt P5.out))
      have Q6 := Lib.hid (row_up Q5.out b6 (rowlt Q5.out))
      have K6 := Lib.hid (row_up K5.out b6 (rowlt K5.out))
      have S6 := Lib.hid rs
      have G6 := Lib.hid (G5.out.up b6)
      have N6 := Lib.hid (N5.out.up b6)
      have D6 := Lib.hid (D5.out.far b6)
      clear hw6 rs b6
      go_upto_region 5 with fail
      change Code.wp _ _ _ _ (w5.alloc (ObjW ts fs A5 n c5 (some ⟨g, 0, none⟩) s s))
      rw [← W6.out]
      have bD : Below w6.heap.size w6 w6.drew := (Below.refl _ _).drew
      have B7 := Lib.hid (bthen B6.out bD)
      have P7 := Lib.hid (row_up P6.out bD (rowlt P6.out))
      have Q7 := Lib.hid (row_up Q6.out bD (rowlt Q6.out))
      have K7 := Lib.hid (row_up K6.out bD (rowlt K6.out))
      have S7 := Lib.hid (row_up S6.out bD (rowlt S6.out))
      have G7 := Lib.hid (G6.out.up bD)
      have N7 := Lib.hid (N6.out.up bD)
      have D7 := Lib.hid (D6.out.far bD)
      obtain ⟨z0, z1, z2⟩ := key3 K7.out
      obtain ⟨u0, u1, u2, u3, -, -⟩ := objW_all S7.out
      clear bD
      go_region_held3 (fun w' => w'.cell? ⟨w3.heap.size, 0, none⟩ = some (Value.slice K1 k1 t1) ∧ w'.cell? ⟨w3.heap.size, 1, none⟩ = some (Value.slice K2 k2 t2) ∧ w'.cell? ⟨w3.heap.size, 2, none⟩ = some (Value.slice K3 k3 t3) ∧ w'.cell? ⟨w5.heap.size, 0, none⟩ = some (.int .u32 (ts : Int)) ∧ w'.cell? ⟨w5.heap.size, 1, none⟩ = some (.int .u32 (fs : Int)) ∧ w'.cell? ⟨w5.heap.size, 2, none⟩ = some (.slice A5 n c5) ∧ w'.cell? ⟨w5.heap.size, 3, none⟩ = some (.slice (some ⟨g, 0, none⟩) s s))
        (first | with_reducible exact ⟨z0, z1, z2, u0, u1, u2, u3⟩ | with_reducible exact ⟨j0, j1, j2, i0, i1, i2, i3⟩ | with_reducible exact ⟨l0, l1, l2, h0, h1, h2, h3⟩)
        ((first
          | (go_at_call 10; refine (public_any G7.out).mono ?_; rintro r w8 ⟨v8, rfl, hp8, b8⟩
             have B8 := Lib.hid (bthen B7.out b8)
             have P8 := Lib.hid (row_up P7.out b8 (rowlt P7.out))
             have Q8 := Lib.hid (row_up Q7.out b8 (rowlt Q7.out))
             have K8 := Lib.hid (row_up K7.out b8 (rowlt K7.out))
             have S8 := Lib.hid (row_up S7.out b8 (rowlt S7.out))
             have G8 := Lib.hid (G7.out.up b8)
             have N8 := Lib.hid (N7.out.up b8)
             have D8 := Lib.hid (D7.out.far b8)
             have hc := Hvf.out w8 (HK.out.bel B8.out) v8 hp8 HU.out.1 HU.out.2.1 D8.out HN.out.1 N8.out
             rw [V1.out, show chk true = 0 from rfl] at hc
             have C8 := Lib.hid hc
             obtain ⟨j0, j1, j2⟩ := key3 K8.out
             obtain ⟨i0, i1, i2, i3, -, -⟩ := objW_all S8.out
             clear hc hp8 b8)
          | (go_at_call 9; refine C8.out.mono ?_; rintro r w9 ⟨rfl, b9⟩
             have B9 := Lib.hid (bthen B8.out b9)
             have P9 := Lib.hid (row_up P8.out b9 (rowlt P8.out))
             have Q9 := Lib.hid (row_up Q8.out b9 (rowlt Q8.out))
             have K9 := Lib.hid (row_up K8.out b9 (rowlt K8.out))
             have S9 := Lib.hid (row_up S8.out b9 (rowlt S8.out))
             have G9 := Lib.hid (G8.out.up b9)
             have N9 := Lib.hid (N8.out.up b9)
             obtain ⟨l0, l1, l2⟩ := key3 K9.out
             obtain ⟨h0, h1, h2, h3, -, -⟩ := objW_all S9.out
             clear b9)))
      clear z0 z1 z2 u0 u1 u2 u3 j0 j1 j2 i0 i1 i2 i3 l0 l1 l2 h0 h1 h2 h3
      obtain ⟨o0, o1, o2, o3, -, -⟩ := objW_all Q9.out
      have HC := Lib.hid (vcopy_any (ts := us) (fs := gs) (HY.out.far B9.out) (HZ.out.far B9.out) (by have := HN.out.2.1; omega) (by have := HN.out.2.2; omega))
      go_wp2_with fail
      refine HC.out.mono ?_
      rintro r w10 ⟨A10, c10, A11, c11, rfl, hN10, b10⟩
      have B10 := Lib.hid (bthen B9.out b10)
      have P10 := Lib.hid (row_up P9.out b10 (rowlt P9.out))
      have Q10 := Lib.hid (row_up Q9.out b10 (rowlt Q9.out))
      have K10 := Lib.hid (row_up K9.out b10 (rowlt K9.out))
      have S10 := Lib.hid (row_up S9.out b10 (rowlt S9.out))
      have G10 := Lib.hid (G9.out.up b10)
      have N10 := Lib.hid (N9.out.up b10)
      have D10 := Lib.hid hN10
      clear o0 o1 o2 o3 HC hN10 b10
      obtain ⟨w11, hw11, rt, b11⟩ := newrow w10 (ObjW us gs A10 m c10 A11 m2 c11)
      have W11 := Lib.hid hw11
      have R11 := Lib.hid rt
      have X11 := Lib.hid b11
      have hS11 := Lib.hid (row_up S10.out b11 (rowlt S10.out))
      obtain ⟨u0, u1, u2, u3, -, -⟩ := objW_all hS11.out
      obtain ⟨o0, o1, o2, o3, f2, f3⟩ := objW_all rt
      clear hw11 rt b11
      go_upto_region 8 with fail
      change Code.wp _ _ _ _ (w10.alloc (ObjW us gs A10 m c10 A11 m2 c11))
      rw [← W11.out]
      go_upto_region 9 with fail
      clear u0 u1 u2 u3 o0 o1 o2 o3 f2 f3
      obtain ⟨U, hU⟩ : ∃ U, U = w11.setCell ⟨w10.heap.size, 3, none⟩ (.slice (some ⟨g, 0, none⟩) s s) := ⟨_, rfl⟩
      have rU : U.heap[w10.heap.size]? = some (ObjW us gs A10 m c10 (some ⟨g, 0, none⟩) s s) := by
        have h := R11.out
        unfold ObjW at h
        rw [hU]
        simp [World.setCell, Array.getElem?_modify, h, ObjW]
      have bU : Below w10.heap.size w10 U := by rw [hU]; exact X11.out.setCell (by simp) _
      rw [← hU]
      have T12 := Lib.hid rU
      have B12 := Lib.hid (bthen B10.out bU)
      have P12 := Lib.hid (row_up P10.out bU (rowlt P10.out))
      have Q12 := Lib.hid (row_up Q10.out bU (rowlt Q10.out))
      have K12 := Lib.hid (row_up K10.out bU (rowlt K10.out))
      have S12 := Lib.hid (row_up S10.out bU (rowlt S10.out))
      have G12 := Lib.hid (G10.out.up bU)
      have N12 := Lib.hid (N10.out.up bU)
      have D12 := Lib.hid (D10.out.far bU)
      clear hU rU bU
      obtain ⟨m0, m1, m2x, m3, -, -⟩ := objW_all P12.out
      have Z1 := Lib.hid (signed_any (A2 := A2) (n2 := n2) (c2 := c2) HU.out.1 HU.out.2.1 (HX.out.far B12.out) (by have := HN.out.1; omega))
      go_wp2_with fail
      refine Z1.out.mono ?_
      rintro r w13 ⟨A12, c12, rfl, hN13, b13⟩
      have B13 := Lib.hid (bthen B12.out b13)
      have P13 := Lib.hid (row_up P12.out b13 (rowlt P12.out))
      have Q13 := Lib.hid (row_up Q12.out b13 (rowlt Q12.out))
      have K13 := Lib.hid (row_up K12.out b13 (rowlt K12.out))
      have S13 := Lib.hid (row_up S12.out b13 (rowlt S12.out))
      have T13 := Lib.hid (row_up T12.out b13 (rowlt T12.out))
      have G13 := Lib.hid (G12.out.up b13)
      have N13 := Lib.hid (N12.out.up b13)
      have D13 := Lib.hid (D12.out.far b13)
      have Z2 := Lib.hid (Sh.trunc_in (HK.out.bel B13.out) (toSh hN13) (by have := HN.out.1; omega) 16 (by omega))
      clear m0 m1 m2x m3 Z1 hN13 b13
      go_wp2_with fail
      refine Z2.out.mono ?_
      rintro r w14 ⟨A13, c13, rfl, hM14, b14⟩
      have B14 := Lib.hid (bthen B13.out b14)
      have P14 := Lib.hid (row_up P13.out b14 (rowlt P13.out))
      have Q14 := Lib.hid (row_up Q13.out b14 (rowlt Q13.out))
      have K14 := Lib.hid (row_up K13.out b14 (rowlt K13.out))
      have S14 := Lib.hid (row_up S13.out b14 (rowlt S13.out))
      have T14 := Lib.hid (row_up T13.out b14 (rowlt T13.out))
      have G14 := Lib.hid (G13.out.up b14)
      have N14 := Lib.hid (N13.out.up b14)
      have D14 := Lib.hid (D13.out.far b14)
      have M14 := Lib.hid hM14
      have Z3 := Lib.hid (signed_any (A2 := D2) (n2 := m2) (c2 := e2) HU.out.2.2.1 HU.out.2.2.2 (HY.out.far B14.out) (by have := HN.out.2.1; omega))
      clear Z2 hM14 b14
      obtain ⟨o0, o1, o2, o3, -, -⟩ := objW_all Q14.out
      go_wp2_with fail
      refine Z3.out.mono ?_
      rintro r w15 ⟨A14, c14, rfl, hN15, b15⟩
      have B15 := Lib.hid (bthen B14.out b15)
      have P15 := Lib.hid (row_up P14.out b15 (rowlt P14.out))
      have Q15 := Lib.hid (row_up Q14.out b15 (rowlt Q14.out))
      have K15 := Lib.hid (row_up K14.out b15 (rowlt K14.out))
      have S15 := Lib.hid (row_up S14.out b15 (rowlt S14.out))
      have T15 := Lib.hid (row_up T14.out b15 (rowlt T14.out))
      have G15 := Lib.hid (G14.out.up b15)
      have N15 := Lib.hid (N14.out.up b15)
      have D15 := Lib.hid (D14.out.far b15)
      have M15 := Lib.hid (M14.out.go b15)
      have Z4 := Lib.hid (Sh.trunc_in (HK.out.bel B15.out) (toSh hN15) (by have := HN.out.2.1; omega) 16 (by omega))
      clear o0 o1 o2 o3 Z3 hN15 b15
      go_wp2_with fail
      refine Z4.out.mono ?_
      rintro r w16 ⟨A15, c15, rfl, hM16, b16⟩
      have B16 := Lib.hid (bthen B15.out b16)
      have P16 := Lib.hid (row_up P15.out b16 (rowlt P15.out))
      have Q16 := Lib.hid (row_up Q15.out b16 (rowlt Q15.out))
      have K16 := Lib.hid (row_up K15.out b16 (rowlt K15.out))
      have S16 := Lib.hid (row_up S15.out b16 (rowlt S15.out))
      have T16 := Lib.hid (row_up T15.out b16 (rowlt T15.out))
      have G16 := Lib.hid (G15.out.up b16)
      have N16 := Lib.hid (N15.out.up b16)
      have D16 := Lib.hid (D15.out.far b16)
      have M16 := Lib.hid (M15.out.go b16)
      have E16 := Lib.hid hM16
      clear Z4 hM16 b16
      obtain ⟨bb, hbb⟩ : ∃ b, decide ((Sh.sha (sgn ts fs xs)).take 16 = (Sh.sha (sgn us gs ys)).take 16) = b := ⟨_, rfl⟩
      have v2 := V2.out
      rw [hbb] at v2
      obtain ⟨S1, hS1⟩ : ∃ S, bstr ((Sh.sha (sgn ts fs xs)).take 16) = S := ⟨_, rfl⟩
      obtain ⟨S2, hS2⟩ : ∃ S, bstr ((Sh.sha (sgn us gs ys)).take 16) = S := ⟨_, rfl⟩
      have hSS : (S1.toList == S2.toList) = bb := by rw [← hS1, ← hS2, ← hbb]; exact bstr_same _ _
      have HS1 := Lib.hid hS1
      have HS2 := Lib.hid hS2
      have VV := Lib.hid v2
      clear hbb v2 hS1 hS2 V2
      go_upto_region 11 with fail
      have bD : Below w16.heap.size w16 w16.drew := (Below.refl _ _).drew
      have B17 := Lib.hid (bthen B16.out bD)
      have P17 := Lib.hid (row_up P16.out bD (rowlt P16.out))
      have Q17 := Lib.hid (row_up Q16.out bD (rowlt Q16.out))
      have K17 := Lib.hid (row_up K16.out bD (rowlt K16.out))
      have S17 := Lib.hid (row_up S16.out bD (rowlt S16.out))
      have T17 := Lib.hid (row_up T16.out bD (rowlt T16.out))
      have G17 := Lib.hid (G16.out.up bD)
      have N17 := Lib.hid (N16.out.up bD)
      have D17 := Lib.hid (D16.out.far bD)
      have M17 := Lib.hid (M16.out.go bD)
      have E17 := Lib.hid (E16.out.go bD)
      obtain ⟨z0, z1, z2⟩ := key3 K17.out
      obtain ⟨u0, u1, u2, u3, -, -⟩ := objW_all T17.out
      have ka := conv_any M17.out
      have kb := conv_any E17.out
      rw [HS1.out] at ka
      rw [HS2.out] at kb
      clear bD
      cases bb
      all_goals
        go_region_held3 (fun w' => w'.cell? ⟨w3.heap.size, 0, none⟩ = some (Value.slice K1 k1 t1) ∧ w'.cell? ⟨w3.heap.size, 1, none⟩ = some (Value.slice K2 k2 t2) ∧ w'.cell? ⟨w3.heap.size, 2, none⟩ = some (Value.slice K3 k3 t3) ∧ w'.cell? ⟨w10.heap.size, 0, none⟩ = some (.int .u32 (us : Int)) ∧ w'.cell? ⟨w10.heap.size, 1, none⟩ = some (.int .u32 (gs : Int)) ∧ w'.cell? ⟨w10.heap.size, 2, none⟩ = some (.slice A10 m c10) ∧ w'.cell? ⟨w10.heap.size, 3, none⟩ = some (.slice (some ⟨g, 0, none⟩) s s) ∧ (convert 23 9 (.slice A13 16 c13)).run Tryz.prog w' = .ok (.string S1) w' ∧ (convert 23 9 (.slice A15 16 c15)).run Tryz.prog w' = .ok (.string S2) w')
          (first | with_reducible exact ⟨z0, z1, z2, u0, u1, u2, u3, ka, kb⟩ | with_reducible exact ⟨x0, x1, x2, y0, y1, y2, y3, ke, kf⟩ | with_reducible exact ⟨j0, j1, j2, i0, i1, i2, i3, kc, kd⟩ | with_reducible exact ⟨l0, l1, l2, h0, h1, h2, h3, kg, kh⟩)
          ((first
            | (go_at_call 6; refine (Vv.alive_any _).mono ?_; rintro r w18 ⟨rfl, b18⟩
               have B18 := Lib.hid (bthen B17.out b18)
               have P18 := Lib.hid (row_up P17.out b18 (rowlt P17.out))
               have Q18 := Lib.hid (row_up Q17.out b18 (rowlt Q17.out))
               have K18 := Lib.hid (row_up K17.out b18 (rowlt K17.out))
               have S18 := Lib.hid (row_up S17.out b18 (rowlt S17.out))
               have T18 := Lib.hid (row_up T17.out b18 (rowlt T17.out))
               have G18 := Lib.hid (G17.out.up b18)
               have N18 := Lib.hid (N17.out.up b18)
               have D18 := Lib.hid (D17.out.far b18)
               have M18 := Lib.hid (M17.out.go b18)
               have E18 := Lib.hid (E17.out.go b18)
               have ke := conv_any M18.out
               have kf := conv_any E18.out
               rw [HS1.out] at ke
               rw [HS2.out] at kf
               obtain ⟨x0, x1, x2⟩ := key3 K18.out
               obtain ⟨y0, y1, y2, y3, -, -⟩ := objW_all T18.out
               clear b18)
            | (go_at_call 10; refine (public_any G18.out).mono ?_; rintro r w19 ⟨v8, rfl, hp8, b19⟩
               have B19 := Lib.hid (bthen B18.out b19)
               have P19 := Lib.hid (row_up P18.out b19 (rowlt P18.out))
               have Q19 := Lib.hid (row_up Q18.out b19 (rowlt Q18.out))
               have K19 := Lib.hid (row_up K18.out b19 (rowlt K18.out))
               have S19 := Lib.hid (row_up S18.out b19 (rowlt S18.out))
               have T19 := Lib.hid (row_up T18.out b19 (rowlt T18.out))
               have N19 := Lib.hid (N18.out.up b19)
               have D19 := Lib.hid (D18.out.far b19)
               have M19 := Lib.hid (M18.out.go b19)
               have E19 := Lib.hid (E18.out.go b19)
               have kc := conv_any M19.out
               have kd := conv_any E19.out
               rw [HS1.out] at kc
               rw [HS2.out] at kd
               have hc := Hvf.out w19 (HK.out.bel B19.out) v8 hp8 HU.out.2.2.1 HU.out.2.2.2 D19.out HN.out.2.1 N19.out
               rw [VV.out] at hc
               have C19 := Lib.hid hc
               obtain ⟨j0, j1, j2⟩ := key3 K19.out
               obtain ⟨i0, i1, i2, i3, -, -⟩ := objW_all T19.out
               clear hc hp8 b19)
            | (go_at_call 9; refine C19.out.mono ?_; rintro r w20 ⟨rfl, b20⟩
               have B20 := Lib.hid (bthen B19.out b20)
               have P20 := Lib.hid (row_up P19.out b20 (rowlt P19.out))
               have Q20 := Lib.hid (row_up Q19.out b20 (rowlt Q19.out))
               have K20 := Lib.hid (row_up K19.out b20 (rowlt K19.out))
               have S20 := Lib.hid (row_up S19.out b20 (rowlt S19.out))
               have T20 := Lib.hid (row_up T19.out b20 (rowlt T19.out))
               have M20 := Lib.hid (M19.out.go b20)
               have E20 := Lib.hid (E19.out.go b20)
               have kg := conv_any M20.out
               have kh := conv_any E20.out
               rw [HS1.out] at kg
               rw [HS2.out] at kh
               obtain ⟨l0, l1, l2⟩ := key3 K20.out
               obtain ⟨h0, h1, h2, h3, -, -⟩ := objW_all T20.out
               clear b20)))
        go_wp2_with fail
        go_ret
        exact ⟨rfl, B20.out⟩
end Go.Proofs.YthipdagebijbiaaGreatDoor.Sg
namespace Go.Proofs.YthipdagebijbiaaGreatDoor.Sg
open Go.RowKit
set_option linter.unusedVariables false
set_option linter.unusedSimpArgs false
set_option maxRecDepth 100000
theorem list_out (w : World) : Calls Tryz.prog 35 #[.int .u32 1, .int .u32 2, .int .u32 3, .int .u32 4, .int .i64 0] w fun e w' => e = .returned (.tuple #[.slice none 0 0, .int .i64 1]) ∧ w = w' := by
  go_enter Tryz.func35, Tryz.ntmps35
  go_wp2_with fail
  go_ret2
  exact ⟨rfl, rfl⟩
def pkP : Wi.Pk := ⟨⟨0, 4, 3, 0, 0, 0, 0, 0, 0, 0, 0, 0, 0⟩, none, 0, 0, ⟨false, 0, none, 0, 0⟩⟩
theorem es_nil (w : World) : Wi.Es w w.heap.size none 0 [] := ⟨rfl, (fun x hx => by cases hx), .inl rfl⟩
theorem write_plain (w : World) : Calls Tryz.prog 16 #[Wi.pkV pkP] w fun e w' => ∃ A c, e = .returned (.tuple #[.slice A 48 c, .int .i64 0]) ∧ Below w.heap.size w w' := by
  refine (Wi.write_any pkP [] [] (w := w) (es_nil w) (Wi.Nb.nil _ _ 0 (by omega) none)).mono ?_
  rintro e w' (⟨h, -, -⟩ | ⟨-, A, c, rfl, g, b⟩)
  · exact absurd h (by decide +kernel)
  · exact ⟨A, c, rfl, b⟩
set_option maxHeartbeats 2000000 in
theorem alive06_any (w : World) : Calls Tryz.prog 14 #[] w fun e w' => e = .returned (.bool true) ∧ Below w.heap.size w w' := by
  have HL := Lib.hid (list_out w)
  go_enter Tryz.func14, Tryz.ntmps14
  go_wp2_with fail
  refine HL.out.mono ?_
  rintro e w1 ⟨rfl, rfl⟩
  go_wp2_with fail
  refine (write_plain _).mono ?_
  rintro e w2 ⟨A2, k2, rfl, b2⟩
  have HB2 := Lib.hid b2
  clear b2
  go_wp2_with fail
  refine (Vv.signed_nil _).mono ?_
  rintro e w3 ⟨⟨A3, k3, rfl⟩, b3⟩
  have HB3 := Lib.hid (bthen HB2.out b3)
  clear b3
  go_wp2_with fail
  go_ret
  exact ⟨rfl, HB3.out⟩
theorem eq_same (S : ByteArray) : (S.toList == S.toList) = true := by simp
set_option maxHeartbeats 4000000 in
theorem same_any {w : World} {ts fs n c n2 c2 e e2 : Nat} {A A2 D D2 : Option Addr} {xs ys : List Nat} (h1 : Wi.Nb w w.heap.size A n c xs) (h2 : Wi.Nb w w.heap.size A2 n2 c2 ys) (h3 : Wi.Nb w w.heap.size D n e xs) (h4 : Wi.Nb w w.heap.size D2 n2 e2 ys) :
    Calls Tryz.prog 18 #[.agg #[.int .u32 (ts : Int), .int .u32 (fs : Int), .slice A n c, .slice A2 n2 c2], .agg #[.int .u32 (ts : Int), .int .u32 (fs : Int), .slice D n e, .slice D2 n2 e2]] w fun r w' => r = .returned (.bool true) ∧ Below w.heap.size w w' := by
  obtain ⟨W, hW, p0, q0, b0⟩ := twoPQ w (ObjW ts fs A n c A2 n2 c2) (ObjW ts fs D n e D2 n2 e2)
  have k1 := conv_any (toSh (h1.far b0))
  have k2 := conv_any (toSh (h2.far b0))
  have k3 := conv_any (toSh (h3.far b0))
  have k4 := conv_any (toSh (h4.far b0))
  obtain ⟨S1, hS1⟩ : ∃ S, bstr xs = S := ⟨_, rfl⟩
  obtain ⟨S2, hS2⟩ : ∃ S, bstr ys = S := ⟨_, rfl⟩
  rw [hS1] at k1 k3
  rw [hS2] at k2 k4
  have e1 := eq_same S1
  have e2' := eq_same S2
  have HW := Lib.hid hW
  have B0 := Lib.hid b0
  obtain ⟨m0, m1, m2, m3, -, -⟩ := objW_all p0
  obtain ⟨o0, o1, o2, o3, -, -⟩ := objW_all q0
  clear hW p0 q0 b0 h1 h2 h3 h4 hS1 hS2
  go_enter Tryz.func18, Tryz.ntmps18
  go_upto_region 1 with fail
  change Code.wp _ _ _ _ ((w.alloc (ObjW ts fs A n c A2 n2 c2)).alloc (ObjW ts fs D n e D2 n2 e2))
  rw [← HW.out]
  go_wp2_with fail
  go_ret
  exact ⟨rfl, B0.out⟩
end Go.Proofs.YthipdagebijbiaaGreatDoor.Sg
namespace Go.Proofs.YthipdagebijbiaaGreatDoor.Sg
open Go.RowKit
set_option linter.unusedVariables false
set_option linter.unusedSimpArgs false
set_option maxRecDepth 100000
theorem known_f {p q : Nat} (h : p = 2 ^ 127 - 1 ∧ q = 2 ^ 107 - 1 ∨ p = 2 ^ 127 - 1 ∧ q = 2 ^ 89 - 1) : p * q % 2 = 1 ∧ 16 ≤ bl (p * q) ∧ bl (p * q) ≤ 1024 ∧ 65537 < p * q ∧ (p - 1) * (q - 1) ≤ p * q ∧ 1 < (p - 1) * (q - 1) ∧
    27 ≤ (bl (p * q) + 7) / 8 ∧ (bl (p * q) + 7) / 8 ≤ 30 ∧ 2 * 256 ^ ((bl (p * q) + 7) / 8 - 2) ≤ p * q ∧ p * q ≤ 256 ^ ((bl (p * q) + 7) / 8) := by
  rcases h with ⟨h1, h2⟩ | ⟨h1, h2⟩
  · exact known_facts (.inl ⟨h1, h2⟩)
  · have := known_facts (p := q) (q := p) (.inr ⟨h2, h1⟩)
    rw [Nat.mul_comm q p, Nat.mul_comm (q - 1) (p - 1)] at this
    exact this
theorem known_u {p q d : Nat} (h : p = 2 ^ 127 - 1 ∧ q = 2 ^ 107 - 1 ∨ p = 2 ^ 127 - 1 ∧ q = 2 ^ 89 - 1) (hd : 65537 * d % ((p - 1) * (q - 1)) = 1) (r : Nat) :
    (r ^ 65537 % (p * q)) ^ d % (p * q) = r % (p * q) ∧ (r ^ d % (p * q)) ^ 65537 % (p * q) = r % (p * q) := by
  rcases h with ⟨h1, h2⟩ | ⟨h1, h2⟩
  · exact known_undo (.inl ⟨h1, h2⟩) hd r
  · rw [Nat.mul_comm (p - 1) (q - 1)] at hd
    have := known_undo (p := q) (q := p) (.inr ⟨h2, h1⟩) hd r
    rw [Nat.mul_comm q p] at this
    exact this
theorem i64_and31 (n : Int) : bits .and .i64 n 31 = n % 32 := by
  have h1 : (BitVec.ofInt 64 31).toNat = 2 ^ 5 - 1 := by decide
  have key : (BitVec.ofInt 64 n &&& BitVec.ofInt 64 31).toNat = (n % ((2 ^ 64 : Nat) : Int)).toNat % 2 ^ 5 := by
    rw [BitVec.toNat_and, BitVec.toNat_ofInt, h1, Nat.and_two_pow_sub_one_eq_mod]
  show IntKind.i64.wrap ((BitVec.ofInt 64 n &&& BitVec.ofInt 64 31).toNat : Nat) = n % 32
  rw [key, IntKind.wrap_i64]
  omega
theorem wrap_op (n : Int) : wrap64 (1 + n % 32) = 1 + n % 32 := by unfold wrap64; omega
set_option maxHeartbeats 16000000 in
theorem signed_law {w : World} (hk : Sh.Ks w) (which op : Int) {ts fs n c n2 c2 : Nat} {A A2 : Option Addr} {xs : List Nat} (hts : ts < 4294967296) (hfs : fs < 4294967296)
    (hx : Wi.Nb w w.heap.size A n c xs) :
    Calls Tryz.prog 4 #[.int .i64 which, .int .i64 op, .agg #[.int .u32 (ts : Int), .int .u32 (fs : Int), .slice A n c, .slice A2 n2 c2]] w fun r w' => r = .returned (.bool true) ∧ Below w.heap.size w w' := by
  have HX := Lib.hid hx
  have HK := Lib.hid hk
  have HU := Lib.hid (⟨hts, hfs⟩ : ts < 4294967296 ∧ fs < 4294967296)
  obtain ⟨W, hW, p0, b0⟩ := newrow w (ObjW ts fs A n c A2 n2 c2)
  have HW := Lib.hid hW
  have P0 := Lib.hid p0
  have B0 := Lib.hid b0
  clear hW p0 b0 hx hk hts hfs
  obtain ⟨m0, m1, m2x, m3, -, -⟩ := objW_all P0.out
  go_enter Tryz.func4, Tryz.ntmps4
  go_upto_region 1 with fail
  change Code.wp _ _ _ _ (w.alloc (ObjW ts fs A n c A2 n2 c2))
  rw [← HW.out]
  rcases Bool.eq_false_or_eq_true (decide ((300 : Int) < (n : Int))) with c1 | c1
  · go_wp2_with fail
    refine (alive06_any _).mono ?_
    rintro e we ⟨rfl, be⟩
    have HBe := Lib.hid (bthen B0.out be)
    clear be
    go_wp2_with fail
    go_ret
    exact ⟨rfl, HBe.out⟩
  have hn : n ≤ 300 := by
    simp only [decide_eq_false_iff_not] at c1
    omega
  have HN := Lib.hid hn
  go_wp2_with fail
  clear m0 m1 m2x m3 c1 hn
  refine (known27_any which W).mono ?_
  rintro r w3 ⟨p, q, hpq, K1, k1, t1, y1, K2, k2, t2, y2, K3, k3, t3, y3, d, rfl, KN1, kv1, kb1, KN2, kv2, kb2, KN3, kv3, kb3, ht, hd, hde, b3⟩
  have B3 := Lib.hid (bthen B0.out b3)
  have P3 := Lib.hid (row_up P0.out b3 (rowlt P0.out))
  obtain ⟨f1, f2, f3, f4, f5, f6, f7, f8, f9, f10⟩ := known_f hpq
  have hund := fun r => known_u hpq hde r
  have hd0 : 0 < d := by
    rcases Nat.eq_zero_or_pos d with h | h
    · rw [h, Nat.mul_zero, Nat.zero_mod] at hde; omega
    · exact h
  have hdN : d < p * q := Nat.lt_of_lt_of_le hd f5
  obtain ⟨M, hM⟩ : ∃ M, p * q = M := ⟨_, rfl⟩
  rw [hM] at f1 f2 f3 f4 f7 f8 f9 f10 hdN kv1
  rw [hM] at hund
  clear hpq hd hde f5 f6 ht hM
  obtain ⟨s, hs⟩ : ∃ s, (bl M + 7) / 8 = s := ⟨_, rfl⟩
  rw [hs] at f7 f8 f9 f10
  obtain ⟨w4, hw4, rk, b4⟩ := newrow w3 (.cells #[Value.slice K1 k1 t1, .slice K2 k2 t2, .slice K3 k3 t3] 30)
  have P3r := Lib.hid (show Pr w3 (.agg #[Value.slice K1 k1 t1, .slice K2 k2 t2, .slice K3 k3 t3]) M 65537 d from ⟨_, _, _, _, _, _, _, _, _, _, _, _, rfl, KN1, kv1, kb1, KN2, kv2, kb2, KN3, kv3, kb3⟩)
  have G4 := Lib.hid (P3r.out.up b4)
  have W4 := Lib.hid hw4
  have B4 := Lib.hid (bthen B3.out b4)
  have P4 := Lib.hid (row_up P3.out b4 (rowlt P3.out))
  have K4 := Lib.hid rk
  have S4 := Lib.hid (vsign_ok (HK.out.bel B4.out) G4.out f1 f2 f3 f4 hdN hd0 hs f7 (A2 := A2) (n2 := n2) (c2 := c2) HU.out.1 HU.out.2 (HX.out.far B4.out) HN.out)
  have hvf : ∀ (W : World) (kk : Sh.Ks W) (v : Value) (k : Pr W v M 65537 0) {ts fs n c c2 : Nat} {A A2 : Option Addr} {xs bs : List Nat} (hts : ts < 4294967296) (hfs : fs < 4294967296) (hx : Wi.Nb W W.heap.size A n c xs) (hn : n ≤ 300) (hb : Nb W W.heap.size A2 s c2 bs),
      Calls Tryz.prog 9 #[v, .agg #[.int .u32 (ts : Int), .int .u32 (fs : Int), .slice A n c, .slice A2 s c2]] W fun e w' => e = .returned (.int .i64 (chk (verB M s (sgn ts fs xs) bs))) ∧ Below W.heap.size W w' := fun W kk v k {ts fs n c c2 A A2 xs bs} hts hfs hx hn hb => vcheck_any kk k f1 f2 f3 f4 hs f7 hts hfs hx hn hb
  have Hvf := Lib.hid hvf
  have Hund := Lib.hid hund
  have F7 := Lib.hid f7
  have F8 := Lib.hid f8
  have F9 := Lib.hid f9
  have F10 := Lib.hid f10
  clear hvf hund f1 f2 f3 f4 f7 f8 f9 f10 hs hdN hd0 KN1 kv1 kb1 KN2 kv2 kb2 KN3 kv3 kb3 b3 b4 hw4 rk P3r
  obtain ⟨x0, x1, x2⟩ := key3 K4.out
  obtain ⟨m0, m1, m2x, m3, -, -⟩ := objW_all P4.out
  go_upto_region 4 with fail
  change Code.wp _ _ _ _ (w3.alloc (.cells #[Value.slice K1 k1 t1, .slice K2 k2 t2, .slice K3 k3 t3] 30))
  rw [← W4.out]
  go_wp2_with fail
  refine S4.out.mono ?_
  rintro r w5 ⟨g, A5, c5, rfl, hN5, hg, ho, b5⟩
  clear x0 x1 x2 m0 m1 m2x m3 S4 W4
  obtain ⟨Bs, hB⟩ : ∃ B, bts (val 256 (signN s (sgn ts fs xs)).reverse ^ d % M) s = B := ⟨_, rfl⟩
  rw [hB] at ho
  have lB : Bs.length = s := by rw [← hB]; exact length_bts _ _
  have LB : Lim 256 Bs := by rw [← hB]; exact lim_bts _ _
  have v1 : verB M s (sgn ts fs xs) Bs = true := by rw [← hB, ver_same F7.out F9.out F10.out Hund.out]; simp
  have V1 := Lib.hid v1
  have B5 := Lib.hid (bthen B4.out b5)
  have P5 := Lib.hid (row_up P4.out b5 (rowlt P4.out))
  have K5 := Lib.hid (row_up K4.out b5 (rowlt K4.out))
  have G5 := Lib.hid (G4.out.up b5)
  have N5 := Lib.hid (show Nb w5 w5.heap.size (some ⟨g, 0, none⟩) s s Bs from ho.nb lB (show s ≤ maxLen by have := F8.out; unfold maxLen; omega) LB)
  have D5 := Lib.hid hN5
  clear v1 hB lB LB ho hN5 hg b5
  obtain ⟨w6, hw6, rs, b6⟩ := newrow w5 (ObjW ts fs A5 n c5 (some ⟨g, 0, none⟩) s s)
  have W6 := Lib.hid hw6
  have B6 := Lib.hid (bthen B5.out b6)
  have P6 := Lib.hid (row_up P5.out b6 (rowlt P5.out))
  have K6 := Lib.hid (row_up K5.out b6 (rowlt K5.out))
  have S6 := Lib.hid rs
  have G6 := Lib.hid (G5.out.up b6)
  have N6 := Lib.hid (N5.out.up b6)
  have D6 := Lib.hid (D5.out.far b6)
  clear hw6 rs b6
  go_upto_region 5 with fail
  change Code.wp _ _ _ _ (w5.alloc (ObjW ts fs A5 n c5 (some ⟨g, 0, none⟩) s s))
  rw [← W6.out]
  obtain ⟨u0, u1, u2, u3, -, -⟩ := objW_all S6.out
  have a31 := i64_and31 op
  have aw := wrap_op op
  go_upto_region 8 with fail
  obtain ⟨w7, hw7, re, rp, b7⟩ := twoPQ w6 (.cells #[.int .i64 (1 + op % 32), .bool true, .bool false, .int .i64 0, .int .u32 (ts : Int), .int .u32 (fs : Int), .slice A5 n c5, .slice (some ⟨g, 0, none⟩) s s] 45) (.cells #[.int .i64 0, .int .i64 4, .int .i64 4, .int .i64 0, .int .i64 0, .int .i64 0, .int .u32 0, .int .u32 0, .int .u32 0, .int .u64 0, .int .u64 0, .int .u64 0, .int .u64 0, .slice (some ⟨w6.heap.size, 0, none⟩) 1 1, .bool false, .int .u32 0, .slice none 0 0] 51)
  have W7 := Lib.hid hw7
  have R7 := Lib.hid re
  obtain ⟨x, hxx⟩ : ∃ x : Wi.El, x = ⟨1 + op % 32, true, false, 0, ts, fs, A5, n, c5, some ⟨g, 0, none⟩, s, s, xs, Bs⟩ := ⟨_, rfl⟩
  obtain ⟨pk, hpk⟩ : ∃ p : Wi.Pk, p = ⟨⟨0, 4, 4, 0, 0, 0, 0, 0, 0, 0, 0, 0, 0⟩, some ⟨w6.heap.size, 0, none⟩, 1, 1, ⟨false, 0, none, 0, 0⟩⟩ := ⟨_, rfl⟩
  have px : Wi.PBox w7 (w6.heap.size + 1) pk := by rw [hpk]; exact rp
  have B7 := Lib.hid (bthen B6.out b7)
  have es7 : Wi.Es w7 w7.heap.size pk.A pk.n [x] := by
    have d7 := D6.out.far b7
    have n7 := N6.out.up b7
    rw [hpk, hxx]
    refine ⟨rfl, fun y hy => ?_, .inr ⟨w6.heap.size, 0, rfl, Nat.lt_of_lt_of_le (Nat.lt_succ_self _) (Nat.le_of_lt (rowlt rp)), fun i y hy => ?_⟩⟩
    · rw [List.mem_singleton] at hy
      subst hy
      exact ⟨d7, n7.len, n7.cap, n7.rooms.2, n7.lim, n7.cell⟩
    · match i, hy with
      | 0, hy =>
        simp only [List.getElem?_cons_zero, Option.some.injEq] at hy
        subst hy
        refine ⟨?_, ?_, ?_, ?_, ?_, ?_, ?_, ?_⟩ <;> simp [World.cell?, re]
  have hr7 : Wi.rightB pk [x] = true := by
    have h1 := HN.out
    have h2 := F8.out
    rw [hpk, hxx]
    simp only [Wi.rightB, Wi.headB, Wi.kindB, Wi.wi, Wi.macB, Wi.szp, Wi.szs, Wi.szf, Wi.fld, Wi.fieldB, List.all_cons, List.all_nil, List.map_cons, List.map_nil, List.sum_cons, List.sum_nil, Bool.and_eq_true, decide_eq_true_eq, Bool.and_true]
    refine ⟨?_, ?_, ?_, ?_, ?_⟩ <;> first | decide | omega | (simp; omega)
  have HR7 := Lib.hid hr7
  have HE7 := Lib.hid es7
  have HP7 := Lib.hid px
  have HXX := Lib.hid hxx
  have HPK := Lib.hid hpk
  have P7 := Lib.hid (row_up P6.out b7 (rowlt P6.out))
  have K7 := Lib.hid (row_up K6.out b7 (rowlt K6.out))
  have S7 := Lib.hid (row_up S6.out b7 (rowlt S6.out))
  have G7 := Lib.hid (G6.out.up b7)
  have J7 := Lib.hid (N6.out.up b7)
  have L7 := Lib.hid (D6.out.far b7)
  clear re rp b7 hw7 px es7 hr7 hxx hpk u0 u1 u2 u3 a31 aw
  change Code.wp _ _ _ _ ((w6.alloc (.cells #[.int .i64 (1 + op % 32), .bool true, .bool false, .int .i64 0, .int .u32 (ts : Int), .int .u32 (fs : Int), .slice A5 n c5, .slice (some ⟨g, 0, none⟩) s s] 45)).alloc (.cells #[.int .i64 0, .int .i64 4, .int .i64 4, .int .i64 0, .int .i64 0, .int .i64 0, .int .u32 0, .int .u32 0, .int .u32 0, .int .u64 0, .int .u64 0, .int .u64 0, .int .u64 0, .slice (some ⟨w6.heap.size, 0, none⟩) 1 1, .bool false, .int .u32 0, .slice none 0 0] 51))
  rw [← W7.out]
  have hmn : Wi.Nb w7 w7.heap.size pk.m.A pk.m.n pk.m.c [] := by rw [HPK.out]; exact Wi.Nb.nil _ _ 0 (by omega) none
  have HWr := Lib.hid (Wi.write_any pk [x] [] HE7.out hmn)
  clear hmn
  go_wp2_with (refine wpList_load_row rfl 51 (.tmp 11) rfl (w6.heap.size + 1) rfl 51 (Wi.pkC pk) (0, 0) _ HP7.out Tryz.underlying51 rfl Wi.s29 ?_)
  refine HWr.out.mono ?_
  rintro r w8 (⟨hr, -, -⟩ | ⟨-, A8, c8, rfl, hg8, b8⟩)
  · rw [HR7.out] at hr; cases hr
  have B8 := Lib.hid (bthen B7.out b8)
  have P8 := Lib.hid (row_up P7.out b8 (rowlt P7.out))
  have K8 := Lib.hid (row_up K7.out b8 (rowlt K7.out))
  have S8 := Lib.hid (row_up S7.out b8 (rowlt S7.out))
  have G8 := Lib.hid (G7.out.up b8)
  have J8 := Lib.hid (J7.out.up b8)
  have L8 := Lib.hid (L7.out.far b8)
  have hs8 := (Wi.right_parts HR7.out).2.2.2.2
  have N8 := Lib.hid (hg8.nb (Wi.packW_lim HE7.out.has (Wi.Lim.nil _)))
  have hfit : ∀ z ∈ [x], z.fit := fun z hz => ⟨(Wi.right_parts HR7.out).2.2.2.1 z hz, (HE7.out.has z hz).n1, (HE7.out.has z hz).n2, by rw [List.mem_singleton.1 hz, HXX.out]; exact HU.out.1, by rw [List.mem_singleton.1 hz, HXX.out]; exact HU.out.2⟩
  have hok : pk.h.ok := by rw [HPK.out]; refine ⟨?_, ?_⟩ <;> simp
  have HPr := Lib.hid (show Wi.prs (Wi.packW pk [x] []) = .ok pk.h [Wi.toEx x] (48 + Wi.szs [x]) from Wi.prs_fwd HR7.out HE7.out.1 hfit hok (by rw [HPK.out]; rfl))
  generalize hS : Wi.szp pk [x] = S at *
  have HRd := Lib.hid (Wi.read_any N8.out (by omega))
  clear hg8 b8 hs8 hfit hok HWr hS
  go_wp2_with fail
  refine HRd.out.mono ?_
  rintro r w9 ⟨b9, q, en, a, k, rfl, hrd⟩
  unfold Wi.Rd at hrd
  rw [HPr.out] at hrd
  obtain ⟨rfl, rfl, -, -, -, -, els, ns, hels, hmem, -, -, hqf, -, -⟩ := hrd
  obtain ⟨y, rfl⟩ := List.length_eq_one_iff.1 (show els.length = 1 by simpa using congrArg List.length hels)
  simp only [List.map_cons, List.map_nil, List.cons.injEq, and_true] at hels
  have hyf := hqf y (List.mem_singleton.2 rfl)
  have hy1 : y.ts = ts := by have := congrArg Wi.Ex.ts hels; rw [HXX.out] at this; exact this
  have hy2 : y.fs = fs := by have := congrArg Wi.Ex.fs hels; rw [HXX.out] at this; exact this
  have hy3 : y.xs = xs := by have := congrArg Wi.Ex.xs hels; rw [HXX.out] at this; exact this
  have hy4 : y.ys = Bs := by have := congrArg Wi.Ex.ys hels; rw [HXX.out] at this; exact this
  have hy5 : y.n = n := by rw [← hyf.one, hy3]; exact HX.out.len
  have hy6 : y.m = s := by rw [← hyf.two, hy4]; exact N6.out.len
  obtain ⟨w10, hw10, rq, rf, b10⟩ := twoPQ w9 (.cells (Wi.pkC q) 51) (.cells #[.int .i64 0, .int .i64 0] 54)
  obtain ⟨⟨hl1, hnb, hcs⟩, -⟩ := hmem w10 b10.size fun z _ hz2 => b10.block z hz2
  have hqn : q.n = 1 := hl1.symm
  obtain ⟨gq, off, hqA, hgq, hcs⟩ := hcs.resolve_left (by omega)
  obtain ⟨r0, r1, r2, r3, r4, r5, r6, r7⟩ := hcs 0 y rfl
  simp only [Nat.zero_mul, Nat.add_zero] at r0 r1 r2 r3 r4 r5 r6 r7
  obtain ⟨hny, hmy⟩ := hnb y (List.mem_singleton.2 rfl)
  obtain ⟨yop, yresp, ybad, yas, yts, yfs, yA, yn, yc, yB, ym, ye, yxs, yys⟩ := y
  simp only at hy1 hy2 hy3 hy4 hy5 hy6 r0 r1 r2 r3 r4 r5 r6 r7 hny hmy
  subst hy1 hy2 hy3 hy4 hy5 hy6
  have B9 := Lib.hid (bthen B8.out b9)
  have P9 := Lib.hid (row_up P8.out b9 (rowlt P8.out))
  have K9 := Lib.hid (row_up K8.out b9 (rowlt K8.out))
  have S9 := Lib.hid (row_up S8.out b9 (rowlt S8.out))
  have G9 := Lib.hid (G8.out.up b9)
  have J9 := Lib.hid (J8.out.up b9)
  have L9 := Lib.hid (L8.out.far b9)
  have W10 := Lib.hid hw10
  have B10 := Lib.hid (bthen B9.out b10)
  have P10 := Lib.hid (row_up P9.out b10 (rowlt P9.out))
  have K10 := Lib.hid (row_up K9.out b10 (rowlt K9.out))
  have S10 := Lib.hid (row_up S9.out b10 (rowlt S9.out))
  have G10 := Lib.hid (G9.out.up b10)
  have J10 := Lib.hid (J9.out.up b10)
  have L10 := Lib.hid (L9.out.far b10)
  have X10 := Lib.hid hny
  have Y10 := Lib.hid hmy
  have c13 : w10.cell? ⟨w9.heap.size, 13, none⟩ = some (.slice (some ⟨gq, off, none⟩) 1 q.c) := by
    rw [cell_of_row w10 _ 13 _ 51 (0, 0) rq]
    simp [hqA, hqn]
  have d0 : w10.cell? ⟨w9.heap.size + 1, 0, none⟩ = some (.int .i64 0) := by rw [cell_of_row w10 _ 0 _ 54 (0, 0) rf]; rfl
  have d1 : w10.cell? ⟨w9.heap.size + 1, 1, none⟩ = some (.int .i64 0) := by rw [cell_of_row w10 _ 1 _ 54 (0, 0) rf]; rfl
  clear hw10 rq rf b10 hnb hcs hl1 hqn hqA hmem hqf hyf hels b9 hny hmy HRd HPr
  go_upto_region 10 with fail
  change Code.wp _ _ _ _ ((w9.alloc (.cells (Wi.pkC q) 51)).alloc (.cells #[.int .i64 0, .int .i64 0] 54))
  rw [← W10.out]
  go_upto_region 13 with fail
  obtain ⟨w11, hw11, rx, b11⟩ := newrow w10 (.cells #[.int .i64 yop, .bool yresp, .bool ybad, .int .i64 yas, .int .u32 (yts : Int), .int .u32 (yfs : Int), .slice yA yn yc, .slice yB ym ye] 45)
  have W11 := Lib.hid hw11
  have B11 := Lib.hid (bthen B10.out b11)
  have P11 := Lib.hid (row_up P10.out b11 (rowlt P10.out))
  have K11 := Lib.hid (row_up K10.out b11 (rowlt K10.out))
  have S11 := Lib.hid (row_up S10.out b11 (rowlt S10.out))
  have G11 := Lib.hid (G10.out.up b11)
  have J11 := Lib.hid (J10.out.up b11)
  have L11 := Lib.hid (L10.out.far b11)
  have X11 := Lib.hid (X10.out.far b11)
  have Y11 := Lib.hid (Y10.out.far b11)
  have e4 : w11.cell? ⟨w10.heap.size, 4, none⟩ = some (.int .u32 (yts : Int)) := by rw [cell_of_row w11 _ 4 _ 45 (0, 0) rx]; rfl
  have e5 : w11.cell? ⟨w10.heap.size, 5, none⟩ = some (.int .u32 (yfs : Int)) := by rw [cell_of_row w11 _ 5 _ 45 (0, 0) rx]; rfl
  have e6 : w11.cell? ⟨w10.heap.size, 6, none⟩ = some (.slice yA yn yc) := by rw [cell_of_row w11 _ 6 _ 45 (0, 0) rx]; rfl
  have e7 : w11.cell? ⟨w10.heap.size, 7, none⟩ = some (.slice yB ym ye) := by rw [cell_of_row w11 _ 7 _ 45 (0, 0) rx]; rfl
  clear hw11 rx b11 c13 d0 d1 r0 r1 r2 r3 r4 r5 r6 r7
  change Code.wp _ _ _ _ (w10.alloc (.cells #[.int .i64 yop, .bool yresp, .bool ybad, .int .i64 yas, .int .u32 (yts : Int), .int .u32 (yfs : Int), .slice yA yn yc, .slice yB ym ye] 45))
  rw [← W11.out]
  go_upto_region 14 with fail
  obtain ⟨w12, hw12, rt, b12⟩ := newrow w11 (ObjW yts yfs yA yn yc yB ym ye)
  have W12 := Lib.hid hw12
  have T12 := Lib.hid rt
  have B12 := Lib.hid (bthen B11.out b12)
  have P12 := Lib.hid (row_up P11.out b12 (rowlt P11.out))
  have K12 := Lib.hid (row_up K11.out b12 (rowlt K11.out))
  have S12 := Lib.hid (row_up S11.out b12 (rowlt S11.out))
  have G12 := Lib.hid (G11.out.up b12)
  have J12 := Lib.hid (J11.out.up b12)
  have L12 := Lib.hid (L11.out.far b12)
  have X12 := Lib.hid (X11.out.far b12)
  have Y12 := Lib.hid (Y11.out.far b12)
  clear hw12 rt b12 e4 e5 e6 e7
  change Code.wp _ _ _ _ (w11.alloc (ObjW yts yfs yA yn yc yB ym ye))
  rw [← W12.out]
  have bD : Below w12.heap.size w12 w12.drew := (Below.refl _ _).drew
  have B17 := Lib.hid (bthen B12.out bD)
  have P17 := Lib.hid (row_up P12.out bD (rowlt P12.out))
  have K17 := Lib.hid (row_up K12.out bD (rowlt K12.out))
  have S17 := Lib.hid (row_up S12.out bD (rowlt S12.out))
  have T17 := Lib.hid (row_up T12.out bD (rowlt T12.out))
  have G17 := Lib.hid (G12.out.up bD)
  have J17 := Lib.hid (J12.out.up bD)
  have L17 := Lib.hid (L12.out.far bD)
  have X17 := Lib.hid (X12.out.far bD)
  have Y17 := Lib.hid (Y12.out.far bD)
  obtain ⟨z0, z1, z2⟩ := key3 K17.out
  obtain ⟨u0, u1, u2, u3, -, -⟩ := objW_all T17.out
  obtain ⟨a0, a1, a2, a3, -, -⟩ := objW_all S17.out
  clear bD
  go_region_held3 (fun w' => (w'.cell? ⟨w3.heap.size, 0, none⟩ = some (Value.slice K1 k1 t1) ∧ w'.cell? ⟨w3.heap.size, 1, none⟩ = some (Value.slice K2 k2 t2) ∧ w'.cell? ⟨w3.heap.size, 2, none⟩ = some (Value.slice K3 k3 t3)) ∧ (w'.cell? ⟨w11.heap.size, 0, none⟩ = some (.int .u32 (yts : Int)) ∧ w'.cell? ⟨w11.heap.size, 1, none⟩ = some (.int .u32 (yfs : Int)) ∧ w'.cell? ⟨w11.heap.size, 2, none⟩ = some (.slice yA yn yc) ∧ w'.cell? ⟨w11.heap.size, 3, none⟩ = some (.slice yB ym ye)) ∧ w'.cell? ⟨w5.heap.size, 0, none⟩ = some (.int .u32 (yts : Int)) ∧ w'.cell? ⟨w5.heap.size, 1, none⟩ = some (.int .u32 (yfs : Int)) ∧ w'.cell? ⟨w5.heap.size, 2, none⟩ = some (.slice A5 yn c5) ∧ w'.cell? ⟨w5.heap.size, 3, none⟩ = some (.slice (some ⟨g, 0, none⟩) ym ym))
    (first | with_reducible exact ⟨⟨z0, z1, z2⟩, ⟨u0, u1, u2, u3⟩, a0, a1, a2, a3⟩ | with_reducible exact ⟨⟨x0, x1, x2⟩, ⟨v0, v1, v2, v3⟩, i0, i1, i2, i3⟩ | with_reducible exact ⟨⟨l0, l1, l2⟩, ⟨h0, h1, h2, h3⟩, j0, j1, j2, j3⟩ | with_reducible exact ⟨⟨o0, o1, o2⟩, ⟨p0, p1, p2, p3⟩, e0, e1, e2, e3⟩ | with_reducible exact ⟨⟨f0, f1, f2⟩, ⟨g0, g1, g2, g3⟩, s0, s1, s2, s3⟩)
    ((first
      | (go_at_call 14; refine (alive06_any _).mono ?_; rintro r w18 ⟨rfl, b18⟩
         have B18 := Lib.hid (bthen B17.out b18)
         have P18 := Lib.hid (row_up P17.out b18 (rowlt P17.out))
         have K18 := Lib.hid (row_up K17.out b18 (rowlt K17.out))
         have S18 := Lib.hid (row_up S17.out b18 (rowlt S17.out))
         have T18 := Lib.hid (row_up T17.out b18 (rowlt T17.out))
         have G18 := Lib.hid (G17.out.up b18)
         have J18 := Lib.hid (J17.out.up b18)
         have L18 := Lib.hid (L17.out.far b18)
         have X18 := Lib.hid (X17.out.far b18)
         have Y18 := Lib.hid (Y17.out.far b18)
         obtain ⟨x0, x1, x2⟩ := key3 K18.out
         obtain ⟨v0, v1, v2, v3, -, -⟩ := objW_all T18.out
         obtain ⟨i0, i1, i2, i3, -, -⟩ := objW_all S18.out
         clear b18)
      | (go_at_call 10; refine (public_any G18.out).mono ?_; rintro r w19 ⟨v8, rfl, hp8, b19⟩
         have B19 := Lib.hid (bthen B18.out b19)
         have P19 := Lib.hid (row_up P18.out b19 (rowlt P18.out))
         have K19 := Lib.hid (row_up K18.out b19 (rowlt K18.out))
         have S19 := Lib.hid (row_up S18.out b19 (rowlt S18.out))
         have T19 := Lib.hid (row_up T18.out b19 (rowlt T18.out))
         have J19 := Lib.hid (J18.out.up b19)
         have L19 := Lib.hid (L18.out.far b19)
         have X19 := Lib.hid (X18.out.far b19)
         have Y19 := Lib.hid (Y18.out.far b19)
         have hc := Hvf.out w19 (HK.out.bel B19.out) v8 hp8 HU.out.1 HU.out.2 X19.out HN.out (show Nb w19 w19.heap.size yB ym ye yys from ⟨Y19.out.len, Y19.out.cap, Nat.le_trans Y19.out.room (by unfold maxLen; omega), Y19.out.lim, Y19.out.cell⟩)
         rw [V1.out, show chk true = 0 from rfl] at hc
         have C19 := Lib.hid hc
         obtain ⟨l0, l1, l2⟩ := key3 K19.out
         obtain ⟨h0, h1, h2, h3, -, -⟩ := objW_all T19.out
         obtain ⟨j0, j1, j2, j3, -, -⟩ := objW_all S19.out
         clear hc hp8 b19)
      | (go_at_call 9; refine C19.out.mono ?_; rintro r w20 ⟨rfl, b20⟩
         have B20 := Lib.hid (bthen B19.out b20)
         have P20 := Lib.hid (row_up P19.out b20 (rowlt P19.out))
         have K20 := Lib.hid (row_up K19.out b20 (rowlt K19.out))
         have S20 := Lib.hid (row_up S19.out b20 (rowlt S19.out))
         have T20 := Lib.hid (row_up T19.out b20 (rowlt T19.out))
         have J20 := Lib.hid (J19.out.up b20)
         have hsm := same_any (ts := yts) (fs := yfs) (X19.out.far b20) (Y19.out.far b20) (L19.out.far b20) (show Wi.Nb w20 w20.heap.size (some ⟨g, 0, none⟩) ym ym yys from ⟨J20.out.len, J20.out.cap, J20.out.rooms.2, J20.out.lim, J20.out.cell⟩)
         have M20 := Lib.hid hsm
         obtain ⟨o0, o1, o2⟩ := key3 K20.out
         obtain ⟨p0, p1, p2, p3, -, -⟩ := objW_all T20.out
         obtain ⟨e0, e1, e2, e3, -, -⟩ := objW_all S20.out
         clear hsm b20)
      | (go_at_call 18; refine M20.out.mono ?_; rintro r w21 ⟨rfl, b21⟩
         have B21 := Lib.hid (bthen B20.out b21)
         have P21 := Lib.hid (row_up P20.out b21 (rowlt P20.out))
         have K21 := Lib.hid (row_up K20.out b21 (rowlt K20.out))
         have S21 := Lib.hid (row_up S20.out b21 (rowlt S20.out))
         have T21 := Lib.hid (row_up T20.out b21 (rowlt T20.out))
         obtain ⟨f0, f1, f2⟩ := key3 K21.out
         obtain ⟨g0, g1, g2, g3, -, -⟩ := objW_all T21.out
         obtain ⟨s0, s1, s2, s3, -, -⟩ := objW_all S21.out
         clear b21)))
  go_wp2_with fail
  go_ret
  exact ⟨rfl, B21.out⟩
end Go.Proofs.YthipdagebijbiaaGreatDoor.Sg
namespace Go.Proofs.YthipdagebijbiaaGreatDoor
open Go.ChangeShapes Go.WideShapes Go.ChangeAt Go.RowKit
set_option linter.unusedVariables false
set_option maxRecDepth 100000

theorem own : ownKnob Tryz.prog.godebug = none := by kernel_rfl
theorem laidOut : laidOutB Tryz.prog = true := by kernel_rfl
theorem gK : Tryz.prog.globalNamed "clepsydra/sha.constants" = some 0 := by kernel_rfl
theorem tK : (Tryz.prog.globals[0]?).map (·.type) = some 177 := by kernel_rfl
abbrev laidK (H : Type) : List (String × DataW H) := [("clepsydra/sha.constants", Rows.laid_clepsydra_sha_constants)]

theorem of_laid {W : World} (h : laidMetH Tryz.prog [("clepsydra/sha.constants", Rows.laid_clepsydra_sha_constants)] W) : Sh.Ks W := by
  rw [MakeChecks.laidMetH_plain _ _ _ (by kernel_rfl)] at h
  obtain ⟨ps, ⟨g0, t0, cs0, f0, p0, q0, hg0, ht0, hv0, hd0, _, _⟩, _, _⟩ := h
  obtain rfl := Option.some.inj (gK.symm.trans hg0)
  obtain rfl := Option.some.inj (tK.symm.trans ht0)
  obtain ⟨xs, m1, rfl, hx1, hlen, hn3, hel⟩ := DataW.trod_array Tryz.underlying177 hd0
  have c90 : Tryz.prog.cellsOf 22 = 1 := by kernel_rfl
  have hl : (Rows.laid_clepsydra_sha_constants : DataW Unit) = .agg (Sh.kk.map fun x : Nat => .lit (.int .u32 (x : Int))) := rfl
  rw [hl] at hx1
  simp only [Prod.mk.injEq, DataW.agg.injEq] at hx1
  have hlt : 0 < W.heap.size := by
    have := World.var?_cell hg0 hv0 0
    have hcs : 0 < cs0.size := by
      have : cs0.toList.length = 64 := hlen.trans (by kernel_rfl)
      simp at this; omega
    rw [Array.getElem?_eq_getElem hcs] at this
    exact World.block_lt_of_cell? W _ this
  refine ⟨hlt, fun t ht => ?_⟩
  have h0 := hel t ht
  have htx : t < xs.length := by omega
  rw [c90, Nat.mul_one, List.getElem?_eq_getElem htx] at h0
  obtain ⟨k, e1, e2, _⟩ := DataW.trod_int Tryz.underlying22 h0
  have e3 : (xs.map fun x => x.fst)[t]? = some (.lit (.int .u32 k)) := by
    rw [List.getElem?_map, List.getElem?_eq_getElem htx, e2]; rfl
  rw [← hx1.1] at e3
  have e4 : (k : Int) = ((Sh.kk.getD t 0 : Nat) : Int) := by
    rw [List.getElem?_map] at e3
    have hk : t < Sh.kk.length := ht
    rw [List.getElem?_eq_getElem hk] at e3
    simp only [Option.map_some, Option.some.injEq, DataW.lit.injEq, Lit.int.injEq, true_and] at e3
    rw [← e3]
    simp [List.getD, List.getElem?_eq_getElem hk]
  have e5 := World.var?_cell hg0 hv0 t
  rw [e5, ← e4]
  have e6 : (List.take 1 (List.drop t cs0.toList))[0]? = some (.int .u32 k) := by rw [e1]; rfl
  rw [List.getElem?_take, if_pos (by omega), List.getElem?_drop] at e6
  simpa using e6

theorem nt_of_row {W : World} {x : Addr} {len cap : Nat} {zs : List Int} (hl : len ≤ cap) (hm : cap ≤ maxLen) (hz : zs.length = cap) (hcell : ∀ i, i < zs.length → W.cell? (x.add i) = some (.int .u64 (zs.getD i 0))) (hwz : ∀ n ∈ zs, (Lit.int .u64 n).wf = true) :
    Nt W W.heap.size (some x) len cap ((zs.take len).map Int.toNat) := by
  have hb : ∀ n ∈ zs, 0 ≤ n ∧ n ≤ 18446744073709551615 := fun n hn => bounds_u64 (hwz n hn)
  refine ⟨by simp; omega, hl, hm, ?_, ?_⟩
  · intro y hy
    simp only [List.mem_map] at hy
    obtain ⟨n, hn, rfl⟩ := hy
    have := hb n (List.mem_of_mem_take hn)
    omega
  · intro h0
    have hc := hcell 0 (by omega)
    obtain ⟨b, off, spot⟩ := x
    have hspot : spot = none := by simpa [Addr.add] using World.cell?_spot hc
    subst hspot
    have hlt := World.block_lt_of_cell? W _ hc
    refine ⟨b, off, rfl, by simpa [Addr.add] using hlt, fun j y hj => ?_⟩
    simp only [List.getElem?_map, Option.map_eq_some_iff, List.getElem?_take] at hj
    obtain ⟨n, hn, rfl⟩ := hj
    split at hn
    · have hj2 : j < zs.length := by
        rcases Nat.lt_or_ge j zs.length with h | h
        · exact h
        · rw [List.getElem?_eq_none h] at hn; cases hn
      have h1 := hcell j hj2
      have h2 : zs.getD j 0 = n := by simp [List.getD, hn]
      rw [h2] at h1
      have h3 := hb n (List.mem_of_getElem? hn)
      rw [show ((n.toNat : Nat) : Int) = n by omega]
      by_cases hj0 : j = 0
      · subst hj0; simpa [Addr.add] using h1
      · simpa [Addr.add, hj0] using h1
    · cases hn

theorem nb_of_row {W : World} {x : Addr} {len cap : Nat} {zs : List Int} (hl : len ≤ cap) (hm : cap ≤ maxLen) (hz : zs.length = cap) (hcell : ∀ i, i < zs.length → W.cell? (x.add i) = some (.int .u8 (zs.getD i 0))) (hwz : ∀ n ∈ zs, (Lit.int .u8 n).wf = true) :
    Nb W W.heap.size (some x) len cap ((zs.take len).map Int.toNat) := by
  have hb : ∀ n ∈ zs, 0 ≤ n ∧ n ≤ 255 := fun n hn => by
    have := hwz n hn
    simp [Lit.wf, IntKind.min, IntKind.max, IntKind.signed, IntKind.bits] at this
    omega
  refine ⟨by simp; omega, hl, hm, ?_, ?_⟩
  · intro y hy
    simp only [List.mem_map] at hy
    obtain ⟨n, hn, rfl⟩ := hy
    have := hb n (List.mem_of_mem_take hn)
    omega
  · intro h0
    have hc := hcell 0 (by omega)
    obtain ⟨b, off, spot⟩ := x
    have hspot : spot = none := by simpa [Addr.add] using World.cell?_spot hc
    subst hspot
    have hlt := World.block_lt_of_cell? W _ hc
    refine ⟨b, off, rfl, by simpa [Addr.add] using hlt, fun j y hj => ?_⟩
    simp only [List.getElem?_map, Option.map_eq_some_iff, List.getElem?_take] at hj
    obtain ⟨n, hn, rfl⟩ := hj
    split at hn
    · have hj2 : j < zs.length := by
        rcases Nat.lt_or_ge j zs.length with h | h
        · exact h
        · rw [List.getElem?_eq_none h] at hn; cases hn
      have h1 := hcell j hj2
      have h2 : zs.getD j 0 = n := by simp [List.getD, hn]
      rw [h2] at h1
      have h3 := hb n (List.mem_of_getElem? hn)
      rw [show ((n.toNat : Nat) : Int) = n by omega]
      by_cases hj0 : j = 0
      · subst hj0; simpa [Addr.add] using h1
      · simpa [Addr.add, hj0] using h1
    · cases hn


end Go.Proofs.YthipdagebijbiaaGreatDoor
namespace Go.Proofs.YthipdagebijbiaaGreatDoor.Sg
open Go.ChangeShapes Go.WideShapes Go.ChangeAt Go.RowKit
set_option linter.unusedVariables false
set_option maxRecDepth 100000
theorem u32_nat {a : Int} (w : (Lit.int .u32 a).wf = true) : ∃ y : Nat, a = (y : Int) ∧ y < 4294967296 := by
  simp [Lit.wf, IntKind.min, IntKind.max, IntKind.signed, IntKind.bits] at w
  exact ⟨a.toNat, by omega, by omega⟩
theorem bytes_open {H : Type} {enc : TypeId × Value → H} {W : World} {fuel : Nat} {c : List Value} {x : DataW H × List MemPlace} (hh : DataW.trod enc Tryz.prog W 0 (fun _ => true) true fuel 23 c = some x) :
    ∃ A n k zs, c = [.slice A n k] ∧ Wi.Nb W W.heap.size A n k zs := by
  rcases open_ints Tryz.underlying23 Tryz.underlying5 (by kernel_rfl) hh with ⟨hcs, _⟩ | ⟨x, l, c, zs, hcs, _, hl, hm, hz, hxx, hcell, hwz⟩
  · exact ⟨none, 0, 0, [], hcs, Wi.Nb.nil _ _ 0 (by omega) none⟩
  · have h := nb_of_row hl hm (by simpa using hz) hcell hwz
    exact ⟨some x, l, c, _, hcs, ⟨h.len, h.cap, h.rooms.2, h.lim, h.cell⟩⟩
theorem co25 : Tryz.prog.cellsOf 25 = 4 := by kernel_rfl
theorem co22 : Tryz.prog.cellsOf 22 = 1 := by kernel_rfl
theorem co23 : Tryz.prog.cellsOf 23 = 1 := by kernel_rfl
set_option maxHeartbeats 1000000 in
theorem val_parts {H : Type} {enc : TypeId × Value → H} {W : World} {cs : List Value} {fuel : Nat} {x : DataW H × List MemPlace} (hf : DataW.trod enc Tryz.prog W 0 (fun _ => true) true fuel 25 cs = some x) :
    ∃ (ts fs n c n2 c2 : Nat) (A A2 : Option Addr) (xs ys : List Nat), cs = [.int .u32 (ts : Int), .int .u32 (fs : Int), .slice A n c, .slice A2 n2 c2] ∧ ts < 4294967296 ∧ fs < 4294967296 ∧ Wi.Nb W W.heap.size A n c xs ∧ Wi.Nb W W.heap.size A2 n2 c2 ys := by
  obtain ⟨xs, n, _, rfl, hl, hlen, hff⟩ := DataW.trod_struct Tryz.underlying25 hf
  match xs, hlen with
  | [y0, y1, y2, y3], _ =>
    obtain ⟨t0, e0, _, w0⟩ := DataW.trod_int Tryz.underlying22 (hff 0 _ rfl)
    obtain ⟨t1, e1, _, w1⟩ := DataW.trod_int Tryz.underlying22 (hff 1 _ rfl)
    obtain ⟨A, m, k, zs, e2, hnb⟩ := bytes_open (hff 2 _ rfl)
    obtain ⟨A2, m2, k2, zs2, e3, hnb2⟩ := bytes_open (hff 3 _ rfl)
    obtain ⟨u0, rfl, l0⟩ := u32_nat w0
    obtain ⟨u1, rfl, l1⟩ := u32_nat w1
    refine ⟨u0, u1, m, k, m2, k2, A, A2, zs, zs2, ?_, l0, l1, hnb, hnb2⟩
    rw [co25] at hl
    match cs, hl with
    | [a, b, c, d], _ =>
      simp [co22, co23] at e0 e1 e2 e3
      simp [e0, e1, e2, e3]
end Go.Proofs.YthipdagebijbiaaGreatDoor.Sg
namespace Go.Proofs.YthipdagebijbiaaGreatDoor.Sg.topSignedP
open Go.ChangeShapes Go.WideShapes Go.ChangeAt Go.RowKit
set_option linter.unusedVariables false
set_option linter.unusedSimpArgs false
set_option maxRecDepth 100000
set_option maxRecDepth 100000 in
theorem door_met (os : Os) (args : Array Value) : laidMetH Tryz.prog [("clepsydra/sha.constants", Rows.laid_clepsydra_sha_constants)] ((World.doorLaid Tryz.prog 4000 os).forCall (fun _ _ => 0) ⟨#[], args, []⟩).memory :=
  laidMetH_of_parts3 (fuel := 8) (laidMet_of_run' 8 (by kernel_rfl) (by kernel_rfl)) (by kernel_rfl) (by kernel_rfl)
set_option maxRecDepth 100000 in
theorem lifted (os : Os) (started : os.Started) (H : Type) (enc : TypeId × Value → H) :
    ReturnsInHanded {} Tryz.checked os 4 .any (fun w args => (Rows.topSignedSpec.pre enc Tryz.prog Tryz.f4 [] false w args ∧ laidMetH Tryz.prog [("clepsydra/sha.constants", Rows.laid_clepsydra_sha_constants)] w) ∧ sizedMet enc Tryz.prog Tryz.f4 (OpenSpec.ofChange Rows.topSignedSpec) false w args)
      (Rows.topSignedSpec.post enc Tryz.prog Tryz.f4 false true false false) := by
  refine returnsInHanded_of_change_and (C := Tryz.checked) (X := fun w _ => laidMetH Tryz.prog [("clepsydra/sha.constants", Rows.laid_clepsydra_sha_constants)] w) (fun _ _ _ hh h => h.of_heap hh) own started (by kernel_rfl) Tryz.func4
    (ChangeSpec.witness_shaped (enc := enc) (C := Tryz.checked) (os := os) (X := fun w _ => laidMetH Tryz.prog [("clepsydra/sha.constants", Rows.laid_clepsydra_sha_constants)] w) false (World.doorLaid Tryz.prog 4000 os) #[.int .i64 0, .int .i64 0, .agg #[.int .u32 0, .int .u32 0, .slice none 0 0, .slice none 0 0]] 8 rfl (World.shaped_of_RefB (by kernel_rfl) (by kernel_rfl)) (by kernel_rfl) (by kernel_rfl) (by kernel_rfl) (door_met os _)) ?_
  intro W base args ds gs before hval0 hW _ hsz0 hL _
  have hval : ∀ (j : Nat) t v, Tryz.f4.params[j]? = some t → args[j]? = some v → Value.okWide Tryz.prog W .any base t v := hval0
  have hW' := hW
  obtain ⟨p, q, hA0, hV, rfl, hfz, hnd⟩ := hW
  have hA : DataW.TrodAll enc Tryz.prog W 0 (fun _ => true) true Tryz.f4.params.toList args.toList ds p := hA0
  rw [Tryz.params4] at hA hval
  obtain ⟨v0, vs0, d0, ds0, pl0, q0, hargs, rfl, rfl, h0, r0⟩ := trodAll_cons hA
  obtain ⟨v1, vs1, d1, ds1, pl1, q1, rfl, rfl, rfl, h1, r1⟩ := trodAll_cons r0
  obtain ⟨v2, vs2, d2, ds2, pl2, q2, rfl, rfl, rfl, h2, r2⟩ := trodAll_cons r1
  obtain ⟨rfl, rfl, rfl⟩ := trodAll_nil r2
  obtain rfl : args = #[v0, v1, v2] := by cases args; simp_all
  obtain ⟨rfl, rfl⟩ := trodVars_none hV
  obtain ⟨a0, rfl, rfl, rfl, w0⟩ := open_int Tryz.underlying3 (hval 0 3 v0 rfl rfl) h0
  obtain ⟨a1, rfl, rfl, rfl, w1⟩ := open_int Tryz.underlying3 (hval 1 3 v1 rfl rfl) h1
  obtain ⟨cs2, rfl, _⟩ := okWide_struct Tryz.underlying25 (hval 2 25 v2 rfl rfl)
  have k2 := h2
  have lt2 : ∀ x ∈ pl2, x.block < W.heap.size := by obtain ⟨m, hm⟩ := k2; exact DataW.trod_lt m _ _ _ hm
  obtain ⟨ts2, fs2, n2, c2, m2, e2, A2, D2, xs2, ys2, rfl, lts2, lfs2, X2, Y2⟩ : ∃ (ts fs n c n2 c2 : Nat) (A A2 : Option Addr) (xs ys : List Nat), cs2 = #[.int .u32 (ts : Int), .int .u32 (fs : Int), .slice A n c, .slice A2 n2 c2] ∧ ts < 4294967296 ∧ fs < 4294967296 ∧ Wi.Nb W W.heap.size A n c xs ∧ Wi.Nb W W.heap.size A2 n2 c2 ys := by
    obtain ⟨fuel, hf⟩ := h2
    obtain ⟨ts, fs, n, c, n2, c2, A, A2, xs, ys, e, h1, h2, h3, h4⟩ := val_parts hf
    refine ⟨ts, fs, n, c, n2, c2, A, A2, xs, ys, ?_, h1, h2, h3, h4⟩
    obtain ⟨l⟩ := cs2
    simp [Value.cells] at e
    simp [e]
  clear hA0 hval0
  refine (signed_law (of_laid hL) a0 a1 lts2 lfs2 X2).mono fun e W' ⟨he, bel⟩ => ?_
  subst he
  exact ⟨_, rfl, _, _, _, [], _, [], hW', trodAll_mk1 (shut_bool Tryz.underlying4 _), (trodAll_cons_mk (shut_int Tryz.underlying3 w0) (trodAll_cons_mk (shut_int Tryz.underlying3 w1) (trodAll_cons_mk (Below.trod laidOut (by kernel_rfl) (of_decide_eq_true (by kernel_rfl)) k2 bel lt2) trodAll_mk0))), rfl, bel.frame _, fun h => by cases h⟩

theorem topSigned_holds : Rows.TopSignedSaid :=
  OpenClaim.holds_of_wide 4 Tryz.f4 rfl rfl rfl rfl rfl rfl rfl ⟨rfl, rfl, rfl, rfl, rfl⟩ rfl rfl rfl rfl rfl (by kernel_rfl) Tryz.func4 (by kernel_rfl)
    (of_decide_eq_true (by kernel_rfl)) (by unfold Func.isWrapper; first | (rw [if_pos (by decide +kernel)]; kernel_rfl) | (rw [if_neg (by decide +kernel)]; exact ⟨rfl, rfl⟩))
    (fun os started H enc _ => lifted os started H enc)
theorem topSigned_card : Rows.TopSignedCardSaid :=
  Claim7.holds_tied_plain_at .later [] [.data] true (true, "c0090e1db1d52b3e3c197e7efd71839cd8297d6fa4ab3608fb839a0abad82ea1") false
    topSigned_holds (fun _ h => by cases h) (by kernel_rfl) (fun _ h => by cases h) topSigned_row_tie rfl ⟨rfl, rfl⟩ (by kernel_rfl) rfl
    (fun f fn hf hfn => by
      obtain rfl : f = 4 := Option.some.inj ((show Tryz.prog.funcNamed "clepsydra/clepsydratop.TopSigned" = some 4 by kernel_rfl).symm.trans hf) |>.symm
      obtain rfl : fn = Tryz.f4 := (Option.some.inj (Tryz.func4.symm.trans hfn)).symm
      exact ⟨by kernel_rfl, fun j t ht => by
        rw [Tryz.params4] at ht
        have hm : t ∈ [3, 3, 25] := by simpa using Array.mem_of_getElem? ht
        have hall : ([3, 3, 25].all fun u => !Tryz.prog.wantsStandIn u) = true := by kernel_rfl
        exact (show Tryz.prog.wantsStandIn t = false by simpa using List.all_eq_true.1 hall t hm)⟩)
    (by kernel_rfl)
#print axioms topSigned_card
end Go.Proofs.YthipdagebijbiaaGreatDoor.Sg.topSignedP
