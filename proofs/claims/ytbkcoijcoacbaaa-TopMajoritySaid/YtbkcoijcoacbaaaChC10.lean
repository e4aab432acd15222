/- choose: offsets with distances that may be; weights; quotients rounded down. -/
import Derived.Test.YtbkcoijcoacbaaaChC8
namespace Go.Proofs.Ytbkcoijcoacbaaa.Ch
open Go.RowKit
set_option linter.unusedVariables false
set_option linter.unusedSimpArgs false
set_option maxRecDepth 100000
/-- numbers that can be read: a row below block B -/
def Ri (w : World) (B : Nat) (A : Option Addr) (n : Nat) (zs : List Int) : Prop :=
  zs.length = n ∧ (n = 0 ∨ ∃ g off, A = some ⟨g, off, none⟩ ∧ g < B ∧ ∀ i z, zs[i]? = some z → w.cell? ⟨g, off + i, none⟩ = some (.int .i64 z))
theorem Ri.below {w w' : World} {B C n : Nat} {A : Option Addr} {zs : List Int} (h : Ri w B A n zs) (b : Below C w w') (hB : B ≤ C) : Ri w' B A n zs := by
  refine ⟨h.1, h.2.imp id ?_⟩
  rintro ⟨g, off, rfl, hg, hc⟩
  exact ⟨g, off, rfl, hg, fun i z hz => (World.cell?_of_block (b.block g (by omega))).trans (hc i z hz)⟩
theorem Ri.le {w : World} {B C n : Nat} {A : Option Addr} {zs : List Int} (h : Ri w B A n zs) (hB : B ≤ C) : Ri w C A n zs := by
  refine ⟨h.1, h.2.imp id ?_⟩
  rintro ⟨g, off, rfl, hg, hc⟩
  exact ⟨g, off, rfl, by omega, hc⟩
theorem Ri.cells {w : World} {B n : Nat} {A : Option Addr} {zs : List Int} (h : Ri w B A n zs) (h0 : 0 < n) : ∃ g off, A = some ⟨g, off, none⟩ ∧ g < B ∧ ∀ w', RowKit.Below B w w' → ∀ i z, zs[i]? = some z → w'.cell? ⟨g, off + i, none⟩ = some (.int .i64 z) := by
  rcases h.2 with h1 | ⟨g, off, rfl, hg, hc⟩
  · omega
  · refine ⟨g, off, rfl, hg, fun w' b i z hz => ?_⟩
    rcases (h.below b (Nat.le_refl _)).2 with h1 | ⟨g', off', e, _, hc'⟩
    · omega
    · cases e
      exact hc' i z hz
set_option maxHeartbeats 1000000 in
theorem index64_any (fid : FuncId) (q : Int → Bool) (hr : ∀ args w, (callFunc fid args).run Try.prog w = .ok (.enter fid args) w) (hq : ∀ z w, Calls Try.prog fid #[.int .i64 z] w fun e w' => e = .returned (.bool (q z)) ∧ w' = w)
    {w : World} {A : Option Addr} {B n c : Nat} {zs : List Int} (h : Ri w B A n zs) (hmx : n ≤ 9223372036854775807) :
    Calls Try.prog 69 #[.slice A n c, .func (.func fid) #[] #[]] w fun e w' => (∃ r : Int, e = .returned (.int .i64 r) ∧ (0 ≤ r ↔ ∃ z ∈ zs, q z = true)) ∧ w' = w := by
  have HR := Lib.hid h
  have HL := Lib.hid h.1
  have HQ := Lib.hid hq
  clear h hq
  go_enter Try.func69, Try.ntmps69
  go_wp2_with fail
  go_loopw [8] (fun i wr => ∃ j : Nat, j ≤ n ∧ i = .int .i64 (j : Int) ∧ Hid (∀ (k : Nat) (z : Int), k < j → zs[k]? = some z → q z = false) ∧ wr = w) (fun i _ => (n - (match i with | .int _ z => z.toNat | _ => 0)))
  case atStart => exact ⟨0, by omega, rfl, fun k s hk => absurd hk (Nat.not_lt_zero _), rfl⟩
  case round =>
    obtain ⟨j, hjn, rfl, HN, rfl⟩ := hrel
    by_cases hj : j < n
    · have e1 : decide ((j : Int) < (n : Int)) = true := by simp; omega
      have e1' : (j : Int) < (n : Int) := by omega
      obtain ⟨z, hz⟩ : ∃ z, zs[j]? = some z := ⟨_, List.getElem?_eq_getElem (by have := HL.out; omega)⟩
      obtain ⟨g, off, rfl, hg, hc⟩ := HR.out.cells (by omega)
      have c0 := hc wr (Below.refl _ _) j z hz
      have HZ := Lib.hid hz
      have HC := Lib.hid (fun w => HQ.out z w)
      clear hc hz
      obtain ⟨b, hb⟩ : ∃ b, b = q z := ⟨_, rfl⟩
      rw [← hb] at HC
      have HBb := Lib.hid hb
      clear hb
      cases b
      · go_wp2_with fail
        refine (HC.out _).mono ?_
        rintro e w2 ⟨rfl, e2⟩
        subst w2
        go_wp2_with fail
        exact ⟨⟨j + 1, by omega, rfl, fun k t hk ht => by
          rcases Nat.lt_or_eq_of_le (Nat.le_of_lt_succ hk) with hk | rfl
          · exact HN.out k t hk ht
          · rw [HZ.out] at ht; cases ht; exact HBb.out.symm, by first | trivial | rfl⟩, by show n - ((j : Int) + 1).toNat < n - (j : Int).toNat; omega⟩
      · go_wp2_with fail
        refine (HC.out _).mono ?_
        rintro e w2 ⟨rfl, e2⟩
        subst w2
        go_wp2_with fail
        go_ret
        exact ⟨⟨(j : Int), rfl, ⟨fun _ => ⟨z, List.mem_of_getElem? HZ.out, HBb.out.symm⟩, fun _ => by omega⟩⟩, rfl⟩
    · have e1' : ((j : Int) < (n : Int)) = False := by simp only [eq_iff_iff, iff_false]; omega
      have HNa := Lib.hid (show ∀ z ∈ zs, q z = false from fun z hz => by
        obtain ⟨k, hk, rfl⟩ := List.getElem_of_mem hz
        exact HN.out k _ (by have := HL.out; omega) (List.getElem?_eq_getElem hk))
      clear HN
      go_wp2_with fail
      go_ret
      exact ⟨⟨-1, rfl, ⟨fun h => by omega, fun ⟨z, hz, hz2⟩ => by rw [HNa.out z hz] at hz2; cases hz2⟩⟩, rfl⟩
theorem contains64_any (fid : FuncId) (q : Int → Bool) (hr : ∀ args w, (callFunc fid args).run Try.prog w = .ok (.enter fid args) w) (hq : ∀ z w, Calls Try.prog fid #[.int .i64 z] w fun e w' => e = .returned (.bool (q z)) ∧ w' = w)
    {w : World} {A : Option Addr} {B n c : Nat} {zs : List Int} (h : Ri w B A n zs) (hmx : n ≤ 9223372036854775807) :
    Calls Try.prog 54 #[.slice A n c, .func (.func fid) #[] #[]] w fun e w' => e = .returned (.bool (decide (∃ z ∈ zs, q z = true))) ∧ w' = w := by
  have HI := Lib.hid (index64_any fid q hr hq (c := c) h hmx)
  obtain ⟨b, hb⟩ : ∃ b, b = decide (∃ z ∈ zs, q z = true) := ⟨_, rfl⟩
  rw [← hb]
  have HQ := Lib.hid hb
  clear hb h hr hq
  go_enter Try.func54, Try.ntmps54
  go_wp2_with fail
  refine HI.out.mono ?_
  rintro e w2 ⟨⟨r, rfl, hr⟩, rfl⟩
  have HR := Lib.hid hr
  clear hr
  go_wp2_with fail
  go_ret
  refine ⟨?_, rfl⟩
  rw [HQ.out]
  show Ending.returned (.bool (decide (0 ≤ r))) = _
  rw [decide_eq_decide.2 HR.out]
def badO (n : Int) : Bool := decide (n < -1099511627776 ∨ 1099511627776 < n)
def badD (n : Int) : Bool := decide (n < 0 ∨ 1099511627776 < n)
theorem run_enter43 : ∀ args w, (callFunc 55 args).run Try.prog w = .ok (.enter 55 args) w := enters_of Try.func55 (by kernel_rfl) rfl
theorem run_enter44 : ∀ args w, (callFunc 56 args).run Try.prog w = .ok (.enter 56 args) w := enters_of Try.func56 (by kernel_rfl) rfl
theorem badO_any (n : Int) (w : World) : Calls Try.prog 55 #[.int .i64 n] w fun e w' => e = .returned (.bool (badO n)) ∧ w' = w := by
  obtain ⟨b, hb⟩ : ∃ b, b = badO n := ⟨_, rfl⟩
  rw [← hb]
  unfold badO at hb
  by_cases h1 : n < -1099511627776
  · rw [decide_eq_true (.inl h1)] at hb
    subst hb
    go_enter Try.func55, Try.ntmps55
    go_wp2_with fail
    go_ret
    exact ⟨rfl, rfl⟩
  · have h1' : (n < -1099511627776) = False := by simp only [h1]
    by_cases h2 : 1099511627776 < n
    · rw [decide_eq_true (.inr h2)] at hb
      subst hb
      go_enter Try.func55, Try.ntmps55
      go_wp2_with fail
      go_ret
      exact ⟨rfl, rfl⟩
    · have h2' : (1099511627776 < n) = False := by simp only [h2]
      rw [decide_eq_false (by omega)] at hb
      subst hb
      go_enter Try.func55, Try.ntmps55
      go_wp2_with fail
      go_ret
      exact ⟨rfl, rfl⟩
theorem badD_any (n : Int) (w : World) : Calls Try.prog 56 #[.int .i64 n] w fun e w' => e = .returned (.bool (badD n)) ∧ w' = w := by
  obtain ⟨b, hb⟩ : ∃ b, b = badD n := ⟨_, rfl⟩
  rw [← hb]
  unfold badD at hb
  by_cases h1 : n < 0
  · rw [decide_eq_true (.inl h1)] at hb
    subst hb
    go_enter Try.func56, Try.ntmps56
    go_wp2_with fail
    go_ret
    exact ⟨rfl, rfl⟩
  · have h1' : (n < 0) = False := by simp only [h1]
    by_cases h2 : 1099511627776 < n
    · rw [decide_eq_true (.inr h2)] at hb
      subst hb
      go_enter Try.func56, Try.ntmps56
      go_wp2_with fail
      go_ret
      exact ⟨rfl, rfl⟩
    · have h2' : (1099511627776 < n) = False := by simp only [h2]
      rw [decide_eq_false (by omega)] at hb
      subst hb
      go_enter Try.func56, Try.ntmps56
      go_wp2_with fail
      go_ret
      exact ⟨rfl, rfl⟩
def okO (os : List Int) : Prop := ∀ o ∈ os, -1099511627776 ≤ o ∧ o ≤ 1099511627776
def okD (ds : List Int) : Prop := ∀ d ∈ ds, 0 ≤ d ∧ d ≤ 1099511627776
instance (os : List Int) : Decidable (okO os) := by unfold okO; exact inferInstance
instance (os : List Int) : Decidable (okD os) := by unfold okD; exact inferInstance
theorem noneO {os : List Int} : (∃ z ∈ os, badO z = true) ↔ ¬ okO os := by
  unfold okO badO
  constructor
  · rintro ⟨z, hz, h⟩ x
    have := x z hz
    rw [decide_eq_true_iff] at h
    omega
  · intro h
    refine Classical.byContradiction fun x => h fun o ho => ?_
    refine Classical.byContradiction fun y => x ⟨o, ho, decide_eq_true (by omega)⟩
theorem noneD {os : List Int} : (∃ z ∈ os, badD z = true) ↔ ¬ okD os := by
  unfold okD badD
  constructor
  · rintro ⟨z, hz, h⟩ x
    have := x z hz
    rw [decide_eq_true_iff] at h
    omega
  · intro h
    refine Classical.byContradiction fun x => h fun o ho => ?_
    refine Classical.byContradiction fun y => x ⟨o, ho, decide_eq_true (by omega)⟩
theorem decO (os : List Int) : decide (∃ z ∈ os, badO z = true) = !decide (okO os) := by
  by_cases h : okO os
  · rw [decide_eq_true h, decide_eq_false (fun x => noneO.1 x h)]; rfl
  · rw [decide_eq_false h, decide_eq_true (noneO.2 h)]; rfl
theorem decD (os : List Int) : decide (∃ z ∈ os, badD z = true) = !decide (okD os) := by
  by_cases h : okD os
  · rw [decide_eq_true h, decide_eq_false (fun x => noneD.1 x h)]; rfl
  · rw [decide_eq_false h, decide_eq_true (noneD.2 h)]; rfl
def Fit (os ds : List Int) : Prop := os.length = ds.length ∧ os.length ≤ 64 ∧ okO os ∧ okD ds
instance (os ds : List Int) : Decidable (Fit os ds) := by unfold Fit; exact inferInstance
set_option maxHeartbeats 1000000 in
theorem mayBe_any {w : World} {A1 A2 : Option Addr} {B n1 c1 n2 c2 : Nat} {os ds : List Int} (h1 : Ri w B A1 n1 os) (h2 : Ri w B A2 n2 ds) (hm1 : n1 ≤ 9223372036854775807) (hm2 : n2 ≤ 9223372036854775807) :
    Calls Try.prog 35 #[.slice A1 n1 c1, .slice A2 n2 c2] w fun e w' => e = .returned (.bool (decide (Fit os ds))) ∧ w' = w := by
  have HF := Lib.hid (show Fit os ds ↔ n1 = n2 ∧ n1 ≤ 64 ∧ okO os ∧ okD ds by unfold Fit; rw [h1.1, h2.1])
  have HO := Lib.hid (contains64_any 55 badO run_enter43 badO_any (c := c1) h1 hm1)
  have HD := Lib.hid (contains64_any 56 badD run_enter44 badD_any (c := c2) h2 hm2)
  rw [decO] at HO
  rw [decD] at HD
  clear h1 h2
  obtain ⟨b, hb⟩ : ∃ b, b = decide (Fit os ds) := ⟨_, rfl⟩
  rw [← hb]
  have HB := Lib.hid hb
  clear hb
  by_cases e1 : n1 = n2
  · subst e1
    by_cases e2 : n1 ≤ 64
    · have e2' : (n1 : Int) ≤ 64 := by omega
      by_cases e3 : okO os
      · rw [decide_eq_true e3] at HO
        by_cases e4 : okD ds
        · rw [decide_eq_true e4] at HD
          obtain rfl : b = true := by rw [HB.out]; exact decide_eq_true (HF.out.2 ⟨rfl, e2, e3, e4⟩)
          clear HB HF e3 e4
          go_enter Try.func35, Try.ntmps35
          go_wp2_with (first | (go_at_call 54; (with_reducible refine HO.out.mono ?_); rintro e w9 ⟨rfl, h9⟩; subst w9) | (go_at_call 54; (with_reducible refine HD.out.mono ?_); rintro e w9 ⟨rfl, h9⟩; subst w9))
          go_ret
          exact ⟨rfl, rfl⟩
        · rw [decide_eq_false e4] at HD
          obtain rfl : b = false := by rw [HB.out]; exact decide_eq_false (fun x => e4 (HF.out.1 x).2.2.2)
          clear HB HF e3 e4
          go_enter Try.func35, Try.ntmps35
          go_wp2_with (first | (go_at_call 54; (with_reducible refine HO.out.mono ?_); rintro e w9 ⟨rfl, h9⟩; subst w9) | (go_at_call 54; (with_reducible refine HD.out.mono ?_); rintro e w9 ⟨rfl, h9⟩; subst w9))
          go_ret
          exact ⟨rfl, rfl⟩
      · rw [decide_eq_false e3] at HO
        obtain rfl : b = false := by rw [HB.out]; exact decide_eq_false (fun x => e3 (HF.out.1 x).2.2.1)
        clear HB HF e3
        go_enter Try.func35, Try.ntmps35
        go_wp2_with (first | (go_at_call 54; (with_reducible refine HO.out.mono ?_); rintro e w9 ⟨rfl, h9⟩; subst w9) | (go_at_call 54; (with_reducible refine HD.out.mono ?_); rintro e w9 ⟨rfl, h9⟩; subst w9))
        go_ret
        exact ⟨rfl, rfl⟩
    · have e2' : ((n1 : Int) ≤ 64) = False := by simp only [eq_iff_iff, iff_false]; omega
      obtain rfl : b = false := by rw [HB.out]; exact decide_eq_false (fun x => e2 (HF.out.1 x).2.1)
      clear HB HF
      go_enter Try.func35, Try.ntmps35
      go_wp2_with fail
      go_ret
      exact ⟨rfl, rfl⟩
  · have e1' : ((n1 : Int) = (n2 : Int)) = False := by simp only [eq_iff_iff, iff_false]; omega
    have e1'' : ((n1 : Int) == (n2 : Int)) = false := by simp only [beq_eq_false_iff_ne, ne_eq]; omega
    obtain rfl : b = false := by rw [HB.out]; exact decide_eq_false (fun x => e1 (HF.out.1 x).1)
    clear HB HF
    go_enter Try.func35, Try.ntmps35
    go_wp2_with fail
    go_ret
    exact ⟨rfl, rfl⟩
theorem wrap64_eq {x : Int} (h : -9223372036854775808 ≤ x) (h2 : x ≤ 9223372036854775807) : wrap64 x = x := by
  unfold wrap64
  omega
theorem tdiv_lim {x t B : Int} (h : -B ≤ x) (h2 : x ≤ B) (ht : 1 ≤ t) : -B ≤ x.tdiv t ∧ x.tdiv t ≤ B := by
  have h1 : x.tdiv t ≤ x.natAbs := by
    have := Int.natAbs_tdiv_le_natAbs x t
    omega
  have h3 : -(x.natAbs : Int) ≤ x.tdiv t := by
    have := Int.natAbs_tdiv_le_natAbs x t
    omega
  omega
/-- the weight of a distance -/
def wt (d : Int) : Int := max (65536 / (d / 65536 + 1)) 1
theorem wt_lim {d : Int} (h : 0 ≤ d) : 1 ≤ wt d ∧ wt d ≤ 65536 := by
  unfold wt
  have h1 : 0 ≤ d / 65536 := by omega
  have h2 : 65536 / (d / 65536 + 1) ≤ 65536 := Int.ediv_le_self _ (by omega)
  omega
theorem weight_any {d : Int} (h : 0 ≤ d) (h2 : d ≤ 1099511627776) (w : World) : Calls Try.prog 36 #[.int .i64 d] w fun e w' => e = .returned (.int .i64 (wt d)) ∧ w' = w := by
  have hk : 0 ≤ d / 65536 ∧ d / 65536 ≤ 16777216 := by omega
  obtain ⟨k, hkk⟩ : ∃ k, k = d / 65536 := ⟨_, rfl⟩
  rw [← hkk] at hk
  have hm : 65536 / (k + 1) ≤ 65536 := Int.ediv_le_self _ (by omega)
  have hm0 : 0 ≤ 65536 / (k + 1) := Int.ediv_nonneg (by omega) (by omega)
  have HW := Lib.hid (show wt d = max (65536 / (k + 1)) 1 by rw [hkk]; rfl)
  obtain ⟨r, hr⟩ : ∃ r, r = wt d := ⟨_, rfl⟩
  rw [← hr] at HW ⊢
  clear hr
  have hk0 : (k + 1 = 0) = False := by simp only [eq_iff_iff, iff_false]; omega
  have hkk' := hkk.symm
  have HKK := Lib.hid hkk
  clear hkk
  go_enter Try.func36, Try.ntmps36
  go_wp2_with fail
  go_ret
  exact ⟨by rw [HW.out]; rfl, rfl⟩
theorem down_any {a b : Int} (hb : 1 ≤ b) (hb2 : b ≤ 4611686018427387904) (ha : -4611686018427387904 ≤ a) (ha2 : a ≤ 4611686018427387904) (w : World) : Calls Try.prog 37 #[.int .i64 a, .int .i64 b] w fun e w' => e = .returned (.int .i64 (a / b)) ∧ w' = w := by
  have hb0 : (b = 0) = False := by simp only [eq_iff_iff, iff_false]; omega
  obtain ⟨q, hq⟩ : ∃ q, q = a.tdiv b := ⟨_, rfl⟩
  obtain ⟨m, hm⟩ : ∃ m, m = a.tmod b := ⟨_, rfl⟩
  have hql := tdiv_lim (B := 4611686018427387904) (t := b) ha ha2 hb
  rw [← hq] at hql
  have hml : -b < m ∧ m < b := by
    rw [hm]
    have h1 := Int.lt_tmod_of_pos a (show 0 < b by omega)
    have h2 := Int.tmod_lt_of_pos a (show 0 < b by omega)
    exact ⟨h1, h2⟩
  have hdm : b * q + m = a := by rw [hq, hm]; exact Int.mul_tdiv_add_tmod a b
  obtain ⟨r, hr⟩ : ∃ r, r = a / b := ⟨_, rfl⟩
  rw [← hr]
  have hneg : m < 0 → r = q - 1 := fun h => by
    have e : a = b * (q - 1) + (m + b) := by rw [Int.mul_sub]; omega
    rw [hr, e, Int.mul_add_ediv_left _ _ (by omega), Int.ediv_eq_zero_of_lt (by omega) (by omega)]
    omega
  have hpos : ¬ m < 0 → r = q := fun h => by
    rw [hr, ← hdm, Int.mul_add_ediv_left _ _ (by omega), Int.ediv_eq_zero_of_lt (by omega) (by omega)]
    omega
  have HQ := Lib.hid hneg
  have HP := Lib.hid hpos
  have w1 : a.tdiv b = q := hq.symm
  have w2 : a.tmod b = m := hm.symm
  have w4 : -9223372036854775808 ≤ q - 1 ∧ q - 1 ≤ 9223372036854775807 := by omega
  have w5 : wrap64 (q - 1) = q - 1 := wrap64_eq w4.1 w4.2
  clear hneg hpos hq hm hdm hr
  by_cases h0 : m < 0
  · have hr := HQ.out h0
    go_enter Try.func37, Try.ntmps37
    go_wp2_with fail
    all_goals go_ret
    all_goals exact ⟨rfl, rfl⟩
  · have h0' : (m < 0) = False := by simp only [h0]
    have hr := HP.out h0
    go_enter Try.func37, Try.ntmps37
    go_wp2_with fail
    all_goals go_ret
    all_goals exact ⟨rfl, rfl⟩
end Go.Proofs.Ytbkcoijcoacbaaa.Ch
