/- For every list of intervals and every int64 the Go function ChooseRegions returns true and leaves its arguments as they were. No condition. -/
import Derived.Test.YtjagekagpgjoaaaC22
namespace Go.Proofs.Ytjagekagpgjoaaa.chooseRegionsP
open Go.ChangeShapes Go.WideShapes Go.ChangeAt Go.RowKit
set_option linter.unusedVariables false
set_option linter.unusedSimpArgs false
set_option maxRecDepth 100000

theorem regs_long {w : World} {A : Option Addr} {n c : Nat} {xs : List Sp} (h : Rs w w.heap.size A n xs) (x : Int) (hn : (200 : Int) < (n : Int)) : Calls Try.prog 3 #[.slice A n c, .int .i64 x] w (Yes w) := by
  clear h
  go_enter Try.func3, Try.ntmps3
  go_wp2_with fail
  refine (alive_any _).mono ?_
  rintro e wz ⟨rfl, bz⟩
  have HBz := Lib.hid bz
  clear bz
  go_wp2_with fail
  go_ret
  exact ⟨rfl, HBz.out⟩
set_option maxHeartbeats 4000000 in
theorem regs_main {w : World} {A : Option Addr} {n c : Nat} {xs : List Sp} (h : Rs w w.heap.size A n xs) (x : Int) (hn : ((200 : Int) < (n : Int)) = False) (hn2 : n ≤ 200) (lo hi er : Int) (hr : RegIs xs lo hi er) (L : List Int) (hL : L.length ≤ 200)
    (hs1 : ∀ (w' : World), Rs w' w'.heap.size A n xs → RegCall A n c lo hi er w' → Calls Try.prog 13 #[.slice A n c] w' fun e w2 => ∃ A' c', e = .returned (.tuple #[.slice A' L.length c', .int .i64 er]) ∧ Ri w2 w2.heap.size A' L.length L ∧ RowKit.Below w'.heap.size w' w2)
    (hs2 : ∀ (w' : World), Rs w' w'.heap.size A n xs → Calls Try.prog 14 #[.slice A n c] w' fun e w2 => ∃ A' c', e = .returned (.tuple #[.slice A' L.length c', .int .i64 er]) ∧ Ri w2 w2.heap.size A' L.length L ∧ RowKit.Below w'.heap.size w' w2) : Calls Try.prog 3 #[.slice A n c, .int .i64 x] w (Yes w) := by
  have HR := Lib.hid h
  have HI := Lib.hid hr
  have HS1 := Lib.hid hs1
  have HS2 := Lib.hid hs2
  have H1 := Lib.hid (region_is (c := c) hr h (Nat.le_refl _) (by omega))
  unfold RegCall at H1
  obtain ⟨m, hm⟩ : ∃ m, m = L.length := ⟨_, rfl⟩
  rw [← hm] at HS1 HS2 hL
  clear h hr hs1 hs2 hm
  obtain ⟨C, hC⟩ : ∃ C, C = cov xs x := ⟨_, rfl⟩
  have HC := Lib.hid hC
  clear hC
  go_enter Try.func3, Try.ntmps3
  go_wp2_with fail
  refine H1.out.mono ?_
  rintro e w2 ⟨rfl, b2⟩
  have HB2 := Lib.hid b2
  have HR2 := Lib.hid ((HR.out.below b2 (Nat.le_refl _)).le b2.size)
  have H2 := Lib.hid (rregion_is (c := c) HI.out HR2.out (by omega))
  clear b2
  go_wp2_with fail
  refine H2.out.mono ?_
  rintro e w3 ⟨rfl, k3, e3⟩
  have b3 : RowKit.Below w2.heap.size w2 w3 := by rw [e3]; exact below_drewN (Below.refl _ _) _
  have HB3 := Lib.hid (bthen HB2.out b3 (Nat.le_refl _))
  have HR3 := Lib.hid ((HR2.out.below b3 (Nat.le_refl _)).le b3.size)
  have H3 := Lib.hid (HS1.out _ HR3.out (region_is (c := c) HI.out HR3.out (Nat.le_refl _) (by omega)))
  clear b3 e3
  go_wp2_with fail
  refine H3.out.mono ?_
  rintro e w4 ⟨A4, c4, rfl, r4, b4⟩
  have HB4 := Lib.hid (bthen HB3.out b4 (Nat.le_refl _))
  have HR4 := Lib.hid ((HR3.out.below b4 (Nat.le_refl _)).le b4.size)
  have HK4 := Lib.hid r4
  have H4 := Lib.hid (HS2.out _ HR4.out)
  clear b4 r4
  go_wp2_with fail
  refine H4.out.mono ?_
  rintro e w5 ⟨A5, c5, rfl, r5, b5⟩
  have HB5 := Lib.hid (bthen HB4.out b5 (Nat.le_refl _))
  have HR5 := Lib.hid ((HR4.out.below b5 (Nat.le_refl _)).le b5.size)
  have HK5 := Lib.hid ((HK4.out.below b5 (Nat.le_refl _)).le b5.size)
  have HJ5 := Lib.hid r5
  clear b5 r5
  go_wp2_with fail
  refine (alive_any _).mono ?_
  rintro e w6 ⟨rfl, b6⟩
  have HB6 := Lib.hid (bthen HB5.out b6 (Nat.le_refl _))
  have HR6 := Lib.hid ((HR5.out.below b6 (Nat.le_refl _)).le b6.size)
  have HK6 := Lib.hid ((HK5.out.below b6 (Nat.le_refl _)).le b6.size)
  have HJ6 := Lib.hid ((HJ5.out.below b6 (Nat.le_refl _)).le b6.size)
  have H6 := Lib.hid (cover_any (c := c) x HR6.out (Nat.le_refl _) (by omega))
  rw [← HC.out] at H6
  clear b6
  go_wp2_with fail
  refine H6.out.mono ?_
  rintro e w7 ⟨rfl, b7⟩
  have HB7 := Lib.hid (bthen HB6.out b7 (Nat.le_refl _))
  have HR7 := Lib.hid ((HR6.out.below b7 (Nat.le_refl _)).le b7.size)
  have HK7 := Lib.hid ((HK6.out.below b7 (Nat.le_refl _)).le b7.size)
  have HJ7 := Lib.hid ((HJ6.out.below b7 (Nat.le_refl _)).le b7.size)
  have H7 := Lib.hid (rcover_any (c := c) x HR7.out (by omega))
  rw [← HC.out] at H7
  have H8 := Lib.hid (ints_same (c1 := c4) (c2 := c5) HK7.out HJ7.out (by omega))
  clear b7
  go_wp2_with fail
  refine H7.out.mono ?_
  rintro e w8 ⟨rfl, e8⟩
  subst w8
  go_wp2_with fail
  refine H8.out.mono ?_
  rintro e w8 ⟨rfl, k8, rfl⟩
  go_wp2_with fail
  go_ret
  exact ⟨rfl, below_drewN HB7.out _⟩
theorem law_any {w : World} {A : Option Addr} {n c : Nat} {xs : List Sp} (h : Rs w w.heap.size A n xs ∧ (∀ s ∈ xs, s.ok) ∧ n ≤ c ∧ c ≤ maxLen) (x : Int) (hx : in64 x) : Calls Try.prog 3 #[.slice A n c, .int .i64 x] w (Yes w) := by
  obtain ⟨h, _, h1, h2⟩ := h
  by_cases hn : 200 < n
  · exact regs_long h x (by omega)
  have hn' : ((200 : Int) < (n : Int)) = False := by simp only [eq_iff_iff, iff_false]; omega
  obtain ⟨lo, hi, er, hr⟩ := reg_ex xs
  by_cases he : er = 0
  · subst he
    have hl : n ≤ 64 := by
      have h3 := h.1
      rcases hr with ⟨_, _, _, z⟩ | ⟨z, _⟩
      · exact absurd z (by decide)
      · omega
    have hsl := svN_len xs lo hi n
    exact regs_main h x hn' (by omega) lo hi 0 hr (svN xs lo hi n) (by omega) (fun w' a b => surv_ok a (Nat.le_refl _) hl b) (fun w' a => rsurv_ok a (Nat.le_refl _) hl hr)
  · refine regs_main h x hn' (by omega) lo hi er hr [] (by simp) (fun w' a b => (surv_err b he).mono ?_) (fun w' a => (rsurv_err hr a (by omega) he).mono ?_)
    · rintro e w2 ⟨rfl, hb⟩
      exact ⟨none, 0, rfl, ⟨rfl, .inl rfl⟩, hb⟩
    · rintro e w2 ⟨rfl, hb⟩
      exact ⟨none, 0, rfl, ⟨rfl, .inl rfl⟩, hb⟩

set_option maxRecDepth 100000 in
theorem lifted (os : Os) (started : os.Started) (H : Type) (enc : TypeId × Value → H) :
    ReturnsInHanded {} Try.checked os 3 .any (Rows.chooseRegionsSpec.pre6 enc Try.prog Try.f3 Rows.chooseRegionsRow.domain false) (Rows.chooseRegionsSpec.post enc Try.prog Try.f3 false true false false) := by
  refine returnsInHanded_of_change (C := Try.checked) own started (by kernel_rfl) Try.func3
    (ChangeSpec.witness6 (enc := enc) (C := Try.checked) false ⟨#[], #[.slice none 0 0, .int .i64 0], []⟩ 8 (by kernel_rfl) (by kernel_rfl) (by kernel_rfl) (by kernel_rfl)) ?_
  intro W base args ds gs before hval0 hW hcnd _
  have hval : ∀ (j : Nat) t v, Try.f3.params[j]? = some t → args[j]? = some v → Value.okWide Try.prog W .any base t v := hval0
  have hW' := hW
  obtain ⟨p, q, hA0, hV, rfl, hfz, hnd⟩ := hW
  have hA : DataW.TrodAll enc Try.prog W 0 (fun _ => true) true Try.f3.params.toList args.toList ds p := hA0
  rw [Try.params3] at hA hval
  obtain ⟨v0, vs0, d0, ds0, p0, q0, hargs, rfl, rfl, h0, r0⟩ := trodAll_cons hA
  obtain ⟨v1, vs1, d1, ds1, p1, q1, rfl, rfl, rfl, h1, r1⟩ := trodAll_cons r0
  obtain ⟨rfl, rfl, rfl⟩ := trodAll_nil r1
  obtain rfl : args = #[v0, v1] := by cases args; simp_all
  obtain ⟨rfl, rfl⟩ := trodVars_none hV
  obtain ⟨a0, len0, cap0, rfl⟩ := okWide_slice Try.underlying22 (hval 0 22 v0 rfl rfl)
  have k0 := h0
  have lt0 : ∀ x ∈ p0, x.block < W.heap.size := by obtain ⟨m, hm⟩ := k0; exact DataW.trod_lt m _ _ _ hm
  obtain ⟨E0, w0⟩ := (show ∃ fuel, _ from h0).elim fun fuel hf => spans_open hf
  obtain ⟨a1, rfl, rfl, rfl, w1⟩ := open_int Try.underlying2 (hval 1 2 v1 rfl rfl) h1
  clear hA0 hval0
  refine (law_any w0 a1 (in64_wf w1)).mono fun e W' ⟨he, bel⟩ => ?_
  subst he
  exact ⟨_, rfl, _, _, _, [], _, [], hW', trodAll_mk1 (shut_bool Try.underlying4 _), (trodAll_cons_mk (Below.trod laidOut (by kernel_rfl) (of_decide_eq_true (by kernel_rfl)) k0 bel lt0) (trodAll_cons_mk (shut_int Try.underlying2 w1) trodAll_mk0)), rfl, bel.frame _, fun h => by cases h⟩

theorem chooseRegions_holds : Rows.ChooseRegionsSaid :=
  OpenClaim.holds_of_wide 3 Try.f3 rfl rfl rfl rfl rfl rfl rfl ⟨rfl, rfl, rfl, rfl, rfl⟩ rfl rfl rfl rfl rfl (by kernel_rfl) Try.func3 (by kernel_rfl)
    (of_decide_eq_true (by kernel_rfl)) (by unfold Func.isWrapper; first | (rw [if_pos (by decide +kernel)]; kernel_rfl) | (rw [if_neg (by decide +kernel)]; exact ⟨rfl, rfl⟩))
    (fun os started H enc _ => lifted os started H enc)
#print axioms chooseRegions_holds
end Go.Proofs.Ytjagekagpgjoaaa.chooseRegionsP
