/- For every list of intervals and every int64 the Go function ChooseMajority returns true and leaves its arguments as they were. No condition. -/
import Derived.Test.YtjagekagpgjoaaaC14
namespace Go.Proofs.Ytjagekagpgjoaaa.chooseMajorityP
open Go.ChangeShapes Go.WideShapes Go.ChangeAt Go.RowKit
set_option linter.unusedVariables false
set_option linter.unusedSimpArgs false
set_option maxRecDepth 100000

theorem maj_long {w : World} {A : Option Addr} {n c : Nat} {xs : List Sp} (h : Rs w w.heap.size A n xs) (x : Int) (hn : (200 : Int) < (n : Int)) : Calls Try.prog 5 #[.slice A n c, .int .i64 x] w (Yes w) := by
  clear h
  go_enter Try.func5, Try.ntmps5
  go_wp2_with fail
  have HB2 := Lib.hid (Below.refl w.heap.size w)
  refine (alive_any _).mono ?_
  rintro e wz ⟨rfl, bz⟩
  have HBz := Lib.hid (bthen HB2.out bz (Nat.le_refl _))
  clear bz
  go_wp2_with fail
  go_ret
  exact ⟨rfl, HBz.out⟩
theorem maj_arg {w : World} {A : Option Addr} {n c : Nat} {xs : List Sp} (h : Rs w w.heap.size A n xs) (x : Int) (hn : ((200 : Int) < (n : Int)) = False) (hn2 : n ≤ 200) (lo hi : Int) (HRg : Hid (Calls Try.prog 11 #[.slice A n c] w fun e w' => e = .returned (.tuple #[.int .i64 lo, .int .i64 hi, .int .i64 1]) ∧ RowKit.Below w.heap.size w w')) : Calls Try.prog 5 #[.slice A n c, .int .i64 x] w (Yes w) := by
  have HR := Lib.hid h
  clear h
  go_enter Try.func5, Try.ntmps5
  go_wp2_with fail
  refine HRg.out.mono ?_
  rintro e w2 ⟨rfl, b2⟩
  have HB2 := Lib.hid b2
  have HCv := Lib.hid (cover_any (c := c) x (HR.out.below b2 (Nat.le_refl _)) b2.size (by omega))
  clear b2
  go_wp2_with fail
  refine (alive_any _).mono ?_
  rintro e wz ⟨rfl, bz⟩
  have HBz := Lib.hid (bthen HB2.out bz (Nat.le_refl _))
  clear bz
  go_wp2_with fail
  go_ret
  exact ⟨rfl, HBz.out⟩
theorem maj_no {w : World} {A : Option Addr} {n c : Nat} {xs : List Sp} (h : Rs w w.heap.size A n xs) (x : Int) (hn : ((200 : Int) < (n : Int)) = False) (hn2 : n ≤ 200) (er : Int) (he : er = 0 ∨ er = 150) (hc : ¬ Maj xs x) (lo hi : Int) (HRg : Hid (Calls Try.prog 11 #[.slice A n c] w fun e w' => e = .returned (.tuple #[.int .i64 lo, .int .i64 hi, .int .i64 er]) ∧ RowKit.Below w.heap.size w w')) : Calls Try.prog 5 #[.slice A n c, .int .i64 x] w (Yes w) := by
  have HR := Lib.hid h
  have hl := h.1
  have hcl := cov_lim xs x
  unfold Maj at hc
  rw [hl] at hc hcl
  obtain ⟨C, hC⟩ : ∃ C, C = cov xs x := ⟨_, rfl⟩
  rw [← hC] at hc hcl
  have HC := Lib.hid hC
  have hc2 : 2 * C ≤ (n : Int) := by omega
  clear h hC hc hl
  rcases he with rfl | rfl
  · skip
    go_enter Try.func5, Try.ntmps5
    go_wp2_with fail
    refine HRg.out.mono ?_
    rintro e w2 ⟨rfl, b2⟩
    have HB2 := Lib.hid b2
    have HCv := Lib.hid (cover_any (c := c) x (HR.out.below b2 (Nat.le_refl _)) b2.size (by omega))
    clear b2
    go_wp2_with fail
    refine HCv.out.mono ?_
    rintro e w3 ⟨rfl, b3⟩
    rw [← HC.out]
    have HB3 := Lib.hid (bthen HB2.out b3 (Nat.le_refl _))
    clear b3
    go_wp2_with fail
    refine (alive_any _).mono ?_
    rintro e wz ⟨rfl, bz⟩
    have HBz := Lib.hid (bthen HB3.out bz (Nat.le_refl _))
    clear bz
    go_wp2_with fail
    go_ret
    exact ⟨rfl, HBz.out⟩
  · skip
    go_enter Try.func5, Try.ntmps5
    go_wp2_with fail
    refine HRg.out.mono ?_
    rintro e w2 ⟨rfl, b2⟩
    have HB2 := Lib.hid b2
    have HCv := Lib.hid (cover_any (c := c) x (HR.out.below b2 (Nat.le_refl _)) b2.size (by omega))
    clear b2
    go_wp2_with fail
    refine HCv.out.mono ?_
    rintro e w3 ⟨rfl, b3⟩
    rw [← HC.out]
    have HB3 := Lib.hid (bthen HB2.out b3 (Nat.le_refl _))
    clear b3
    go_wp2_with fail
    refine (alive_any _).mono ?_
    rintro e wz ⟨rfl, bz⟩
    have HBz := Lib.hid (bthen HB3.out bz (Nat.le_refl _))
    clear bz
    go_wp2_with fail
    go_ret
    exact ⟨rfl, HBz.out⟩
theorem maj_yes {w : World} {A : Option Addr} {n c : Nat} {xs : List Sp} (h : Rs w w.heap.size A n xs) (x : Int) (hn : ((200 : Int) < (n : Int)) = False) (hn2 : n ≤ 200) (hc : Maj xs x) (lo hi : Int) (HRg : Hid (Calls Try.prog 11 #[.slice A n c] w fun e w' => e = .returned (.tuple #[.int .i64 lo, .int .i64 hi, .int .i64 0]) ∧ RowKit.Below w.heap.size w w')) (h1 : lo ≤ x) (h2 : x ≤ hi) : Calls Try.prog 5 #[.slice A n c, .int .i64 x] w (Yes w) := by
  have HR := Lib.hid h
  have hl := h.1
  have hcl := cov_lim xs x
  unfold Maj at hc
  rw [hl] at hc hcl
  obtain ⟨C, hC⟩ : ∃ C, C = cov xs x := ⟨_, rfl⟩
  rw [← hC] at hc hcl
  have HC := Lib.hid hC
  have hc2 : (2 * C ≤ (n : Int)) = False := by simp only [eq_iff_iff, iff_false]; omega
  clear h hC hc hl
  go_enter Try.func5, Try.ntmps5
  go_wp2_with fail
  refine HRg.out.mono ?_
  rintro e w2 ⟨rfl, b2⟩
  have HB2 := Lib.hid b2
  have HCv := Lib.hid (cover_any (c := c) x (HR.out.below b2 (Nat.le_refl _)) b2.size (by omega))
  clear b2
  go_wp2_with fail
  refine HCv.out.mono ?_
  rintro e w3 ⟨rfl, b3⟩
  rw [← HC.out]
  have HB3 := Lib.hid (bthen HB2.out b3 (Nat.le_refl _))
  clear b3
  go_wp2_with fail
  refine (alive_any _).mono ?_
  rintro e wz ⟨rfl, bz⟩
  have HBz := Lib.hid (bthen HB3.out bz (Nat.le_refl _))
  clear bz
  go_wp2_with fail
  go_ret
  exact ⟨rfl, HBz.out⟩
theorem law_any {w : World} {A : Option Addr} {n c : Nat} {xs : List Sp} (h : Rs w w.heap.size A n xs ∧ (∀ s ∈ xs, s.ok) ∧ n ≤ c ∧ c ≤ maxLen) (x : Int) (hx : in64 x) : Calls Try.prog 5 #[.slice A n c, .int .i64 x] w (Yes w) := by
  obtain ⟨h, _, h1, h2⟩ := h
  by_cases hn : 200 < n
  · exact maj_long h x (by omega)
  have hn' : ((200 : Int) < (n : Int)) = False := by simp only [eq_iff_iff, iff_false]; omega
  obtain ⟨lo, hi, er, hh, HRg⟩ := region_det (c := c) h (Nat.le_refl _) (by omega)
  rcases hh with rfl | ⟨hs, he⟩
  · exact maj_arg h x hn' (by omega) lo hi (Lib.hid HRg)
  · by_cases hm : Maj xs x
    · rcases hs with ⟨hs, rfl⟩ | ⟨hs, rfl⟩
      · exact maj_yes h x hn' (by omega) hm lo hi (Lib.hid HRg) (hs.2.2 x hm).1 (hs.2.2 x hm).2
      · exact absurd hm (hs x)
    · exact maj_no h x hn' (by omega) er he hm lo hi (Lib.hid HRg)

set_option maxRecDepth 100000 in
theorem lifted (os : Os) (started : os.Started) (H : Type) (enc : TypeId × Value → H) :
    ReturnsInHanded {} Try.checked os 5 .any (Rows.chooseMajoritySpec.pre6 enc Try.prog Try.f5 Rows.chooseMajorityRow.domain false) (Rows.chooseMajoritySpec.post enc Try.prog Try.f5 false true false false) := by
  refine returnsInHanded_of_change (C := Try.checked) own started (by kernel_rfl) Try.func5
    (ChangeSpec.witness6 (enc := enc) (C := Try.checked) false ⟨#[], #[.slice none 0 0, .int .i64 0], []⟩ 8 (by kernel_rfl) (by kernel_rfl) (by kernel_rfl) (by kernel_rfl)) ?_
  intro W base args ds gs before hval0 hW hcnd _
  have hval : ∀ (j : Nat) t v, Try.f5.params[j]? = some t → args[j]? = some v → Value.okWide Try.prog W .any base t v := hval0
  have hW' := hW
  obtain ⟨p, q, hA0, hV, rfl, hfz, hnd⟩ := hW
  have hA : DataW.TrodAll enc Try.prog W 0 (fun _ => true) true Try.f5.params.toList args.toList ds p := hA0
  rw [Try.params5] at hA hval
  obtain ⟨v0, vs0, d0, ds0, p0, q0, hargs, rfl, rfl, h0, r0⟩ := trodAll_cons hA
  obtain ⟨v1, vs1, d1, ds1, p1, q1, rfl, rfl, rfl, h1, r1⟩ := trodAll_cons r0
  obtain ⟨rfl, rfl, rfl⟩ := trodAll_nil r1
  obtain rfl : args = #[v0, v1] := by cases args; simp_all
  obtain ⟨rfl, rfl⟩ := trodVars_none hV
  obtain ⟨a0, len0, cap0, rfl⟩ := okWide_slice Try.underlying22 (hval 0 22 v0 rfl rfl)
  have k0 := h0
  have lt0 : ∀ x ∈ p0, x.block < W.heap.size := by obtain ⟨m, hm⟩ := k0; exact DataW.trod_lt m _ _ _ hm
  obtain ⟨E0, w0⟩ := (show ∃ fuel, _ from h0).elim fun fuel hf => spans_open hf
  obtain ⟨a1, rfl, rfl, rfl, w1⟩ := open_int Try.underlying2 (hval 1 2 v1 rfl rfl) h1
  clear hA0 hval0
  refine (law_any w0 a1 (in64_wf w1)).mono fun e W' ⟨he, bel⟩ => ?_
  subst he
  exact ⟨_, rfl, _, _, _, [], _, [], hW', trodAll_mk1 (shut_bool Try.underlying4 _), (trodAll_cons_mk (Below.trod laidOut (by kernel_rfl) (of_decide_eq_true (by kernel_rfl)) k0 bel lt0) (trodAll_cons_mk (shut_int Try.underlying2 w1) trodAll_mk0)), rfl, bel.frame _, fun h => by cases h⟩

theorem chooseMajority_holds : Rows.ChooseMajoritySaid :=
  OpenClaim.holds_of_wide 5 Try.f5 rfl rfl rfl rfl rfl rfl rfl ⟨rfl, rfl, rfl, rfl, rfl⟩ rfl rfl rfl rfl rfl (by kernel_rfl) Try.func5 (by kernel_rfl)
    (of_decide_eq_true (by kernel_rfl)) (by unfold Func.isWrapper; first | (rw [if_pos (by decide +kernel)]; kernel_rfl) | (rw [if_neg (by decide +kernel)]; exact ⟨rfl, rfl⟩))
    (fun os started H enc _ => lifted os started H enc)
#print axioms chooseMajority_holds
end Go.Proofs.Ytjagekagpgjoaaa.chooseMajorityP
