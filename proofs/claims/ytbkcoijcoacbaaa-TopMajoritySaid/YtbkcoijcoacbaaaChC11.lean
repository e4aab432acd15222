/- choose: offsets combined by their weights. -/
import Derived.Test.YtbkcoijcoacbaaaChC10
namespace Go.Proofs.Ytbkcoijcoacbaaa.Ch
open Go.RowKit
set_option linter.unusedVariables false
set_option linter.unusedSimpArgs false
set_option maxRecDepth 100000
def smz (l : List (Int × Int)) : Int := (l.map fun p => p.1 * wt p.2).sum
def wsz (l : List (Int × Int)) : Int := (l.map fun p => wt p.2).sum
theorem smz_cons (p : Int × Int) (l : List (Int × Int)) : smz (p :: l) = p.1 * wt p.2 + smz l := by simp [smz]
theorem wsz_cons (p : Int × Int) (l : List (Int × Int)) : wsz (p :: l) = wt p.2 + wsz l := by simp [wsz]
theorem smz_take {l : List (Int × Int)} {j : Nat} {p : Int × Int} (h : l[j]? = some p) : smz (l.take (j + 1)) = smz (l.take j) + p.1 * wt p.2 := by
  rw [List.take_add_one, h]
  simp [smz]
theorem wsz_take {l : List (Int × Int)} {j : Nat} {p : Int × Int} (h : l[j]? = some p) : wsz (l.take (j + 1)) = wsz (l.take j) + wt p.2 := by
  rw [List.take_add_one, h]
  simp [wsz]
def okZ (l : List (Int × Int)) : Prop := ∀ p ∈ l, (-1099511627776 ≤ p.1 ∧ p.1 ≤ 1099511627776) ∧ 0 ≤ p.2 ∧ p.2 ≤ 1099511627776
theorem prod_lim {o w : Int} (h1 : -1099511627776 ≤ o) (h2 : o ≤ 1099511627776) (w1 : 1 ≤ w) (w2 : w ≤ 65536) : -72057594037927936 ≤ o * w ∧ o * w ≤ 72057594037927936 := by
  have a : o * w ≤ 1099511627776 * w := Int.mul_le_mul_of_nonneg_right h2 (by omega)
  have b : -1099511627776 * w ≤ o * w := Int.mul_le_mul_of_nonneg_right h1 (by omega)
  omega
theorem smz_lim {l : List (Int × Int)} (h : okZ l) : -72057594037927936 * (l.length : Int) ≤ smz l ∧ smz l ≤ 72057594037927936 * (l.length : Int) := by
  induction l with
  | nil => simp [smz]
  | cons p l ih =>
    have hp := h p (List.mem_cons_self ..)
    have hw := wt_lim hp.2.1
    have hx := prod_lim hp.1.1 hp.1.2 hw.1 hw.2
    have := ih (fun q hq => h q (List.mem_cons_of_mem _ hq))
    rw [smz_cons, List.length_cons, Int.natCast_add]
    omega
theorem wsz_lim {l : List (Int × Int)} (h : okZ l) : (l.length : Int) ≤ wsz l ∧ wsz l ≤ 65536 * (l.length : Int) := by
  induction l with
  | nil => simp [wsz]
  | cons p l ih =>
    have hp := h p (List.mem_cons_self ..)
    have hw := wt_lim hp.2.1
    have := ih (fun q hq => h q (List.mem_cons_of_mem _ hq))
    rw [wsz_cons, List.length_cons, Int.natCast_add]
    omega
theorem okZ_zip {os ds : List Int} (h1 : okO os) (h2 : okD ds) : okZ (os.zip ds) := by
  rintro ⟨o, d⟩ hp
  have h := List.of_mem_zip hp
  exact ⟨h1 o h.1, h2 d h.2⟩
theorem okZ_take {l : List (Int × Int)} (h : okZ l) (j : Nat) : okZ (l.take j) := fun p hp => h p (List.mem_of_mem_take hp)
/-- what Combine tells -/
def comb (os ds : List Int) : Int × Int := if Fit os ds then (if os = [] then (0, 4) else (smz (os.zip ds) / wsz (os.zip ds), 0)) else (0, 1)
set_option maxHeartbeats 2000000 in
theorem comb_some {w : World} {A1 A2 : Option Addr} {B n c1 c2 : Nat} {os ds : List Int} (h1 : Ri w B A1 n os) (h2 : Ri w B A2 n ds) (hf : Fit os ds) (h0 : 0 < n) :
    Calls Try.prog 18 #[.slice A1 n c1, .slice A2 n c2] w fun e w' => e = .returned (.tuple #[.int .i64 (smz (os.zip ds) / wsz (os.zip ds)), .int .i64 0]) ∧ w' = w := by
  have hn : n ≤ 64 := by have := hf.2.1; rw [h1.1] at this; exact this
  have HM := Lib.hid (mayBe_any (c1 := c1) (c2 := c2) h1 h2 (by omega) (by omega))
  rw [decide_eq_true hf] at HM
  have HL1 := Lib.hid h1.1
  have HL2 := Lib.hid h2.1
  have HZ := Lib.hid (okZ_zip hf.2.2.1 hf.2.2.2)
  have HO := Lib.hid hf.2.2.1
  have HD := Lib.hid hf.2.2.2
  obtain ⟨g1, off1, rfl, hg1, hc1⟩ := h1.cells h0
  obtain ⟨g2, off2, rfl, hg2, hc2⟩ := h2.cells h0
  have HC1 := Lib.hid (hc1 w (Below.refl _ _))
  have HC2 := Lib.hid (hc2 w (Below.refl _ _))
  have hlim := smz_lim HZ.out
  have hwim := wsz_lim HZ.out
  have hzl : (os.zip ds).length = n := by rw [List.length_zip, HL1.out, HL2.out]; omega
  rw [hzl] at hlim hwim
  have HDn := Lib.hid (fun w => down_any (a := smz (os.zip ds)) (b := wsz (os.zip ds)) (by omega) (by omega) (by omega) (by omega) w)
  have HZL := Lib.hid hzl
  clear h1 h2 hf hc1 hc2 hlim hwim hzl
  have hn0 : ((n : Int) = 0) = False := by simp only [eq_iff_iff, iff_false]; omega
  have hn1 : ((n : Int) == 0) = false := by simp only [beq_eq_false_iff_ne, ne_eq]; omega
  go_enter Try.func18, Try.ntmps18
  go_wp2_with fail
  refine HM.out.mono ?_
  rintro e w2 ⟨rfl, e2⟩
  subst w2
  go_wp2_with fail
  go_loopw [6, 7, 20] (fun sv wv i wr => ∃ j : Nat, j ≤ n ∧ i = .int .i64 (j : Int) ∧ sv = .int .i64 (smz ((os.zip ds).take j)) ∧ wv = .int .i64 (wsz ((os.zip ds).take j)) ∧ wr = w) (fun _ _ i _ => (n - (match i with | .int _ z => z.toNat | _ => 0)))
  case atStart => exact ⟨0, by omega, rfl, rfl, rfl, rfl⟩
  case round =>
    obtain ⟨j, hj, rfl, rfl, rfl, rfl⟩ := hrel
    have hl := smz_lim (okZ_take HZ.out j)
    have hw := wsz_lim (okZ_take HZ.out j)
    have hlen : ((os.zip ds).take j).length = j := by rw [List.length_take, HZL.out]; omega
    rw [hlen] at hl hw
    obtain ⟨S, hS⟩ : ∃ S, S = smz ((os.zip ds).take j) := ⟨_, rfl⟩
    obtain ⟨W, hW⟩ : ∃ W, W = wsz ((os.zip ds).take j) := ⟨_, rfl⟩
    rw [← hS] at hl
    rw [← hW] at hw
    rw [← hS, ← hW]
    have HS := Lib.hid hS
    have HW := Lib.hid hW
    have hS2 : -4611686018427387904 ≤ S ∧ S ≤ 4611686018427387904 := by omega
    have hW2 : 0 ≤ W ∧ W ≤ 4194304 := by omega
    clear hS hW hlen
    by_cases hjn : j < n
    · have e1 : decide ((j : Int) < (n : Int)) = true := by simp; omega
      have e1' : (j : Int) < (n : Int) := by omega
      obtain ⟨o, ho⟩ : ∃ o, os[j]? = some o := ⟨_, List.getElem?_eq_getElem (by have := HL1.out; omega)⟩
      obtain ⟨d, hd⟩ : ∃ d, ds[j]? = some d := ⟨_, List.getElem?_eq_getElem (by have := HL2.out; omega)⟩
      have hz : (os.zip ds)[j]? = some (o, d) := by rw [List.getElem?_zip_eq_some]; exact ⟨ho, hd⟩
      have c1 := HC1.out j o ho
      have c2 := HC2.out j d hd
      have hoo := HO.out o (List.mem_of_getElem? ho)
      have hdd := HD.out d (List.mem_of_getElem? hd)
      have hwt := wt_lim hdd.1
      have HWt := Lib.hid (fun w => weight_any hdd.1 hdd.2 w)
      have HT1 := Lib.hid (smz_take hz)
      have HT2 := Lib.hid (wsz_take hz)
      obtain ⟨t, ht⟩ : ∃ t, t = wt d := ⟨_, rfl⟩
      rw [← ht] at hwt HWt
      have HTt := Lib.hid ht
      have hp := prod_lim hoo.1 hoo.2 hwt.1 hwt.2
      have k1 : wrap64 (o * t) = o * t := wrap64_eq (by omega) (by omega)
      have k2 : wrap64 (S + o * t) = S + o * t := wrap64_eq (by omega) (by omega)
      clear ho hd hz ht
      go_wp2_with fail
      refine (HWt.out _).mono ?_
      rintro e w2 ⟨rfl, e2⟩
      subst w2
      go_wp2_with fail
      refine ⟨⟨j + 1, by omega, rfl, ?_, ?_, by first | trivial | rfl⟩, by show n - ((j : Int) + 1).toNat < n - (j : Int).toNat; omega⟩
      · rw [HT1.out, ← HS.out]
        rw [← HTt.out]
      · rw [HT2.out, ← HW.out]
        rw [← HTt.out]
    · have e1' : ((j : Int) < (n : Int)) = False := by simp only [eq_iff_iff, iff_false]; omega
      have HE1 := Lib.hid (show S = smz (os.zip ds) by rw [HS.out, List.take_of_length_le (by rw [HZL.out]; omega)])
      have HE2 := Lib.hid (show W = wsz (os.zip ds) by rw [HW.out, List.take_of_length_le (by rw [HZL.out]; omega)])
      rw [← HE1.out, ← HE2.out] at HDn
      go_wp2_with fail
      refine (HDn.out _).mono ?_
      rintro e w2 ⟨rfl, e2⟩
      subst w2
      go_wp2_with fail
      go_ret2
      exact ⟨by rw [← HE1.out, ← HE2.out]; rfl, rfl⟩
set_option maxHeartbeats 1000000 in
theorem comb_none {w : World} {A1 A2 : Option Addr} {B n1 c1 n2 c2 : Nat} {os ds : List Int} (h1 : Ri w B A1 n1 os) (h2 : Ri w B A2 n2 ds) (hm1 : n1 ≤ 9223372036854775807) (hm2 : n2 ≤ 9223372036854775807) (hf : Fit os ds) (h0 : n1 = 0) :
    Calls Try.prog 18 #[.slice A1 n1 c1, .slice A2 n2 c2] w fun e w' => e = .returned (.tuple #[.int .i64 0, .int .i64 4]) ∧ w' = w := by
  have HM := Lib.hid (mayBe_any (c1 := c1) (c2 := c2) h1 h2 hm1 hm2)
  rw [decide_eq_true hf] at HM
  clear h1 h2 hf
  subst h0
  go_enter Try.func18, Try.ntmps18
  go_wp2_with fail
  refine HM.out.mono ?_
  rintro e w2 ⟨rfl, e2⟩
  subst w2
  go_wp2_with fail
  go_ret2
  exact ⟨rfl, rfl⟩
set_option maxHeartbeats 1000000 in
theorem comb_bad {w : World} {A1 A2 : Option Addr} {B n1 c1 n2 c2 : Nat} {os ds : List Int} (h1 : Ri w B A1 n1 os) (h2 : Ri w B A2 n2 ds) (hm1 : n1 ≤ 9223372036854775807) (hm2 : n2 ≤ 9223372036854775807) (hf : ¬ Fit os ds) :
    Calls Try.prog 18 #[.slice A1 n1 c1, .slice A2 n2 c2] w fun e w' => e = .returned (.tuple #[.int .i64 0, .int .i64 1]) ∧ w' = w := by
  have HM := Lib.hid (mayBe_any (c1 := c1) (c2 := c2) h1 h2 hm1 hm2)
  rw [decide_eq_false hf] at HM
  clear h1 h2 hf
  go_enter Try.func18, Try.ntmps18
  go_wp2_with fail
  refine HM.out.mono ?_
  rintro e w2 ⟨rfl, e2⟩
  subst w2
  go_wp2_with fail
  go_ret2
  exact ⟨rfl, rfl⟩
theorem comb_any {w : World} {A1 A2 : Option Addr} {B n1 c1 n2 c2 : Nat} {os ds : List Int} (h1 : Ri w B A1 n1 os) (h2 : Ri w B A2 n2 ds) (hm1 : n1 ≤ 9223372036854775807) (hm2 : n2 ≤ 9223372036854775807) :
    Calls Try.prog 18 #[.slice A1 n1 c1, .slice A2 n2 c2] w fun e w' => e = .returned (.tuple #[.int .i64 (comb os ds).1, .int .i64 (comb os ds).2]) ∧ w' = w := by
  unfold comb
  by_cases hf : Fit os ds
  · rw [if_pos hf]
    have hl : n1 = n2 := by rw [← h1.1, ← h2.1]; exact hf.1
    by_cases h0 : os = []
    · rw [if_pos h0]
      exact comb_none h1 h2 hm1 hm2 hf (by rw [← h1.1, h0]; rfl)
    · rw [if_neg h0]
      subst hl
      refine comb_some h1 h2 hf ?_
      rw [← h1.1]
      exact List.length_pos_iff.2 h0
  · rw [if_neg hf]
    exact comb_bad h1 h2 hm1 hm2 hf
end Go.Proofs.Ytbkcoijcoacbaaa.Ch
