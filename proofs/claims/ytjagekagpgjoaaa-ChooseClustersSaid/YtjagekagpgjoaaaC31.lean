/- choose: the document's own Combine. -/
import Derived.Test.YtjagekagpgjoaaaC30
namespace Go.Proofs.Ytjagekagpgjoaaa
open Go.RowKit
set_option linter.unusedVariables false
set_option linter.unusedSimpArgs false
set_option maxRecDepth 100000
theorem floor_of {a b q m : Int} (hb : 1 ≤ b) (hq : q = a.tdiv b) (hm : m = a.tmod b) : (a < 0 → m ≠ 0 → a / b = q - 1) ∧ (a < 0 → m = 0 → a / b = q) ∧ (¬ a < 0 → a / b = q) := by
  have hdm : b * q + m = a := by rw [hq, hm]; exact Int.mul_tdiv_add_tmod a b
  have hml : -b < m ∧ m < b := by
    rw [hm]
    exact ⟨Int.lt_tmod_of_pos a (by omega), Int.tmod_lt_of_pos a (by omega)⟩
  have hneg : m < 0 → a / b = q - 1 := fun h => by
    have e : a = b * (q - 1) + (m + b) := by rw [Int.mul_sub]; omega
    rw [e, Int.mul_add_ediv_left _ _ (by omega), Int.ediv_eq_zero_of_lt (by omega) (by omega)]
    omega
  have hpos : ¬ m < 0 → a / b = q := fun h => by
    rw [← hdm, Int.mul_add_ediv_left _ _ (by omega), Int.ediv_eq_zero_of_lt (by omega) (by omega)]
    omega
  refine ⟨fun h1 h2 => hneg ?_, fun h1 h2 => hpos (by omega), fun h1 => ?_⟩
  · have h3 : 0 ≤ (-a).tmod b := Int.tmod_nonneg b (by omega)
    rw [Int.neg_tmod, ← hm] at h3
    omega
  · have h3 : 0 ≤ a.tmod b := Int.tmod_nonneg b (by omega)
    rw [← hm] at h3
    exact hpos (by omega)
set_option maxHeartbeats 4000000 in
theorem rcomb_some {w : World} {A1 A2 : Option Addr} {B n c1 c2 : Nat} {os ds : List Int} (h1 : Ri w B A1 n os) (h2 : Ri w B A2 n ds) (hf : Fit os ds) (h0 : 0 < n) :
    Calls Try.prog 21 #[.slice A1 n c1, .slice A2 n c2] w fun e w' => e = .returned (.tuple #[.int .i64 (smz (os.zip ds) / wsz (os.zip ds)), .int .i64 0]) ∧ w' = w := by
  have hn : n ≤ 64 := by have := hf.2.1; rw [h1.1] at this; exact this
  have HM := Lib.hid (rfit_any (c1 := c1) (c2 := c2) h1 h2)
  rw [decide_eq_true hf] at HM
  have HL1 := Lib.hid h1.1
  have HL2 := Lib.hid h2.1
  have HZ := Lib.hid (okZ_zip hf.2.2.1 hf.2.2.2)
  have HO := Lib.hid hf.2.2.1
  have HD := Lib.hid hf.2.2.2
  obtain ⟨g1, off1, rfl, hg1, hc1⟩ := h1.cells h0
  obtain ⟨g2, off2, rfl, hg2, hc2⟩ := h2.cells h0
  have HC1 := Lib.hid (hc1 w (Below.refl _ _))
  have HC2 := Lib.hid (hc2 w (Below.refl _ _))
  have hzl : (os.zip ds).length = n := by rw [List.length_zip, HL1.out, HL2.out]; omega
  have HZL := Lib.hid hzl
  clear h1 h2 hf hc1 hc2 hzl
  have hn0 : ((n : Int) = 0) = False := by simp only [eq_iff_iff, iff_false]; omega
  have hn1 : ((n : Int) == 0) = false := by simp only [beq_eq_false_iff_ne, ne_eq]; omega
  go_enter Try.func21, Try.ntmps21
  go_wp2_with fail
  refine HM.out.mono ?_
  rintro e w2 ⟨rfl, e2⟩
  subst w2
  go_wp2_with fail
  go_loopw [6, 7, 8] (fun sv wv i wr => ∃ j : Nat, j ≤ n ∧ i = .int .i64 (j : Int) ∧ sv = .int .i64 (smz ((os.zip ds).take j)) ∧ wv = .int .i64 (wsz ((os.zip ds).take j)) ∧ wr = w) (fun _ _ i _ => (n - (match i with | .int _ z => z.toNat | _ => 0)))
  case atStart => exact ⟨0, by omega, rfl, rfl, rfl, rfl⟩
  case round =>
    obtain ⟨j, hj, rfl, rfl, rfl, rfl⟩ := hrel
    have hl := smz_lim (okZ_take HZ.out j)
    have hw := wsz_lim (okZ_take HZ.out j)
    have hlen : ((os.zip ds).take j).length = j := by rw [List.length_take, HZL.out]; omega
    rw [hlen] at hl hw
    obtain ⟨S, hS⟩ : ∃ S, S = smz ((os.zip ds).take j) := ⟨_, rfl⟩
    obtain ⟨W, hW⟩ : ∃ W, W = wsz ((os.zip ds).take j) := ⟨_, rfl⟩
    rw [← hS] at hl
    rw [← hW] at hw
    rw [← hS, ← hW]
    have HS := Lib.hid hS
    have HW := Lib.hid hW
    have hS2 : -4611686018427387904 ≤ S ∧ S ≤ 4611686018427387904 := by omega
    have hW2 : 0 ≤ W ∧ W ≤ 4194304 := by omega
    clear hS hW hlen
    by_cases hjn : j < n
    · have e1 : decide ((j : Int) < (n : Int)) = true := by simp; omega
      have e1' : (j : Int) < (n : Int) := by omega
      obtain ⟨o, ho⟩ : ∃ o, os[j]? = some o := ⟨_, List.getElem?_eq_getElem (by have := HL1.out; omega)⟩
      obtain ⟨d, hd⟩ : ∃ d, ds[j]? = some d := ⟨_, List.getElem?_eq_getElem (by have := HL2.out; omega)⟩
      have hz : (os.zip ds)[j]? = some (o, d) := by rw [List.getElem?_zip_eq_some]; exact ⟨ho, hd⟩
      have c1 := HC1.out j o ho
      have c2 := HC2.out j d hd
      have hoo := HO.out o (List.mem_of_getElem? ho)
      have hdd := HD.out d (List.mem_of_getElem? hd)
      have hwt := wt_lim hdd.1
      have h1 := smz_take hz
      have h2 := wsz_take hz
      dsimp only at h1 h2
      rw [Int.mul_comm] at h1
      have HT1 := Lib.hid h1
      have HT2 := Lib.hid h2
      have hk : 0 ≤ d / 65536 ∧ d / 65536 ≤ 16777216 := by omega
      obtain ⟨k, hkk⟩ : ∃ k, k = d / 65536 := ⟨_, rfl⟩
      rw [← hkk] at hk
      have hm : 65536 / (k + 1) ≤ 65536 := Int.ediv_le_self _ (by omega)
      have hm0 : 0 ≤ 65536 / (k + 1) := Int.ediv_nonneg (by omega) (by omega)
      have hk0 : (k + 1 = 0) = False := by simp only [eq_iff_iff, iff_false]; omega
      have hkk' := hkk.symm
      have HKw := Lib.hid (show wt d = max (65536 / (k + 1)) 1 by rw [hkk]; rfl)
      obtain ⟨v, hv⟩ : ∃ v, v = 65536 / (k + 1) := ⟨_, rfl⟩
      rw [← hv] at hm hm0 HKw
      have hv' := hv.symm
      have hp := prod_lim hoo.1 hoo.2 hwt.1 hwt.2
      rw [Int.mul_comm] at hp
      have hkw := HKw.out
      clear ho hd hz h1 h2 hkk hv
      by_cases hv1 : v < 1
      · have HTt := Lib.hid (show wt d = 1 by omega)
        rw [HTt.out] at hp
        clear hkw
        · have k1 : wrap64 (1 * o) = 1 * o := wrap64_eq (by omega) (by omega)
          have k2 : wrap64 (S + 1 * o) = S + 1 * o := wrap64_eq (by omega) (by omega)
          go_wp2_with fail
          refine ⟨⟨j + 1, by omega, rfl, ?_, ?_, by first | trivial | rfl⟩, by show n - ((j : Int) + 1).toNat < n - (j : Int).toNat; omega⟩
          · rw [HT1.out, ← HS.out, HTt.out, Int.one_mul]
          · rw [HT2.out, ← HW.out, HTt.out]
      · have hv1' : (v < 1) = False := by simp only [hv1]
        have HTt := Lib.hid (show wt d = v by omega)
        rw [HTt.out] at hp
        clear hkw
        · have k1 : wrap64 (v * o) = v * o := wrap64_eq (by omega) (by omega)
          have k2 : wrap64 (S + v * o) = S + v * o := wrap64_eq (by omega) (by omega)
          go_wp2_with fail
          refine ⟨⟨j + 1, by omega, rfl, ?_, ?_, by first | trivial | rfl⟩, by show n - ((j : Int) + 1).toNat < n - (j : Int).toNat; omega⟩
          · rw [HT1.out, ← HS.out, HTt.out]
          · rw [HT2.out, ← HW.out, HTt.out]
    · have e1' : ((j : Int) < (n : Int)) = False := by simp only [eq_iff_iff, iff_false]; omega
      have HE1 := Lib.hid (show S = smz (os.zip ds) by rw [HS.out, List.take_of_length_le (by rw [HZL.out]; omega)])
      have HE2 := Lib.hid (show W = wsz (os.zip ds) by rw [HW.out, List.take_of_length_le (by rw [HZL.out]; omega)])
      have hW1 : 1 ≤ W := by omega
      have hb0 : (W = 0) = False := by simp only [eq_iff_iff, iff_false]; omega
      obtain ⟨q, hq⟩ : ∃ q, q = S.tdiv W := ⟨_, rfl⟩
      obtain ⟨m, hm⟩ : ∃ m, m = S.tmod W := ⟨_, rfl⟩
      have hql := tdiv_lim (B := 4611686018427387904) (t := W) hS2.1 hS2.2 hW1
      rw [← hq] at hql
      have HFl := Lib.hid (floor_of hW1 hq hm)
      have w1 := hq.symm
      have w2 := hm.symm
      have w5 : wrap64 (q - 1) = q - 1 := wrap64_eq (by omega) (by omega)
      clear hq hm hl hw
      by_cases hs : S < 0
      · by_cases hm0 : m = 0
        · have HX := Lib.hid (HFl.out.2.1 hs hm0)
          subst hm0
          go_wp2_with fail
          go_ret2
          exact ⟨by rw [← HE1.out, ← HE2.out, HX.out]; rfl, rfl⟩
        · have HX := Lib.hid (HFl.out.1 hs hm0)
          have hm1 : (m = 0) = False := by simp only [hm0]
          have hm2 : (m == 0) = false := by simp only [beq_eq_false_iff_ne, ne_eq]; exact hm0
          have hm3 : (m != 0) = true := by simp [bne, hm2]
          go_wp2_with fail
          go_ret2
          exact ⟨by rw [← HE1.out, ← HE2.out, HX.out]; rfl, rfl⟩
      · have HX := Lib.hid (HFl.out.2.2 hs)
        have hs' : (S < 0) = False := by simp only [hs]
        go_wp2_with fail
        go_ret2
        exact ⟨by rw [← HE1.out, ← HE2.out, HX.out]; rfl, rfl⟩
theorem rcomb_none {w : World} {A1 A2 : Option Addr} {B n1 c1 n2 c2 : Nat} {os ds : List Int} (h1 : Ri w B A1 n1 os) (h2 : Ri w B A2 n2 ds) (hf : Fit os ds) (h0 : n1 = 0) :
    Calls Try.prog 21 #[.slice A1 n1 c1, .slice A2 n2 c2] w fun e w' => e = .returned (.tuple #[.int .i64 0, .int .i64 4]) ∧ w' = w := by
  have HM := Lib.hid (rfit_any (c1 := c1) (c2 := c2) h1 h2)
  rw [decide_eq_true hf] at HM
  clear h1 h2 hf
  subst h0
  go_enter Try.func21, Try.ntmps21
  go_wp2_with fail
  refine HM.out.mono ?_
  rintro e w2 ⟨rfl, e2⟩
  subst w2
  go_wp2_with fail
  go_ret2
  exact ⟨rfl, rfl⟩
theorem rcomb_bad {w : World} {A1 A2 : Option Addr} {B n1 c1 n2 c2 : Nat} {os ds : List Int} (h1 : Ri w B A1 n1 os) (h2 : Ri w B A2 n2 ds) (hf : ¬ Fit os ds) :
    Calls Try.prog 21 #[.slice A1 n1 c1, .slice A2 n2 c2] w fun e w' => e = .returned (.tuple #[.int .i64 0, .int .i64 1]) ∧ w' = w := by
  have HM := Lib.hid (rfit_any (c1 := c1) (c2 := c2) h1 h2)
  rw [decide_eq_false hf] at HM
  clear h1 h2 hf
  go_enter Try.func21, Try.ntmps21
  go_wp2_with fail
  refine HM.out.mono ?_
  rintro e w2 ⟨rfl, e2⟩
  subst w2
  go_wp2_with fail
  go_ret2
  exact ⟨rfl, rfl⟩
theorem rcomb_any {w : World} {A1 A2 : Option Addr} {B n1 c1 n2 c2 : Nat} {os ds : List Int} (h1 : Ri w B A1 n1 os) (h2 : Ri w B A2 n2 ds) :
    Calls Try.prog 21 #[.slice A1 n1 c1, .slice A2 n2 c2] w fun e w' => e = .returned (.tuple #[.int .i64 (comb os ds).1, .int .i64 (comb os ds).2]) ∧ w' = w := by
  unfold comb
  by_cases hf : Fit os ds
  · rw [if_pos hf]
    have hl : n1 = n2 := by rw [← h1.1, ← h2.1]; exact hf.1
    by_cases h0 : os = []
    · rw [if_pos h0]
      exact rcomb_none h1 h2 hf (by rw [← h1.1, h0]; rfl)
    · rw [if_neg h0]
      subst hl
      refine rcomb_some h1 h2 hf ?_
      rw [← h1.1]
      exact List.length_pos_iff.2 h0
  · rw [if_neg hf]
    exact rcomb_bad h1 h2 hf
end Go.Proofs.Ytjagekagpgjoaaa
