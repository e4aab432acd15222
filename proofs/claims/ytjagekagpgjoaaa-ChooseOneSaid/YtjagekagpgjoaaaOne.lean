/- For every list of intervals and every int the Go function ChooseOne returns true and leaves its arguments as they were. No condition. -/
import Derived.Test.YtjagekagpgjoaaaC16
namespace Go.Proofs.Ytjagekagpgjoaaa.chooseOneP
open Go.ChangeShapes Go.WideShapes Go.ChangeAt Go.RowKit
set_option linter.unusedVariables false
set_option linter.unusedSimpArgs false
set_option maxRecDepth 100000

theorem one_long {w : World} {A : Option Addr} {n c : Nat} {xs : List Sp} (h : Rs w w.heap.size A n xs) (at_ : Int) (hn : (60 : Int) < (n : Int)) : Calls Try.prog 7 #[.slice A n c, .int .i64 at_] w (Yes w) := by
  clear h
  go_enter Try.func7, Try.ntmps7
  go_wp2_with fail
  have HB2 := Lib.hid (Below.refl w.heap.size w)
  refine (alive_any _).mono ?_
  rintro e wz ⟨rfl, bz⟩
  have HBz := Lib.hid (bthen HB2.out bz (Nat.le_refl _))
  clear bz
  go_wp2_with fail
  go_ret
  exact ⟨rfl, HBz.out⟩
theorem one_neg {w : World} {A : Option Addr} {n c : Nat} {xs : List Sp} (h : Rs w w.heap.size A n xs) (at_ : Int) (hn : ((60 : Int) < (n : Int)) = False) (h0 : at_ < 0) : Calls Try.prog 7 #[.slice A n c, .int .i64 at_] w (Yes w) := by
  clear h
  go_enter Try.func7, Try.ntmps7
  go_wp2_with fail
  have HB2 := Lib.hid (Below.refl w.heap.size w)
  refine (alive_any _).mono ?_
  rintro e wz ⟨rfl, bz⟩
  have HBz := Lib.hid (bthen HB2.out bz (Nat.le_refl _))
  clear bz
  go_wp2_with fail
  go_ret
  exact ⟨rfl, HBz.out⟩
theorem one_far {w : World} {A : Option Addr} {n c : Nat} {xs : List Sp} (h : Rs w w.heap.size A n xs) (at_ : Int) (hn : ((60 : Int) < (n : Int)) = False) (h0 : (at_ < 0) = False) (h1 : (n : Int) ≤ at_) : Calls Try.prog 7 #[.slice A n c, .int .i64 at_] w (Yes w) := by
  clear h
  go_enter Try.func7, Try.ntmps7
  go_wp2_with fail
  have HB2 := Lib.hid (Below.refl w.heap.size w)
  refine (alive_any _).mono ?_
  rintro e wz ⟨rfl, bz⟩
  have HBz := Lib.hid (bthen HB2.out bz (Nat.le_refl _))
  clear bz
  go_wp2_with fail
  go_ret
  exact ⟨rfl, HBz.out⟩
theorem one_err {w : World} {A : Option Addr} {n c : Nat} {xs : List Sp} (h : Rs w w.heap.size A n xs) (at_ : Int) (hn : ((60 : Int) < (n : Int)) = False) (h0 : (at_ < 0) = False) (h1 : ((n : Int) ≤ at_) = False) (HSv : Hid (Calls Try.prog 13 #[.slice A n c] w fun e w' => e = .returned (.tuple #[.slice none 0 0, .int .i64 1]) ∧ RowKit.Below w.heap.size w w')) : Calls Try.prog 7 #[.slice A n c, .int .i64 at_] w (Yes w) := by
  clear h
  go_enter Try.func7, Try.ntmps7
  go_wp2_with fail
  refine HSv.out.mono ?_
  rintro e w2 ⟨rfl, b2⟩
  have HB2 := Lib.hid b2
  clear b2
  go_wp2_with fail
  refine (alive_any _).mono ?_
  rintro e wz ⟨rfl, bz⟩
  have HBz := Lib.hid (bthen HB2.out bz (Nat.le_refl _))
  clear bz
  go_wp2_with fail
  go_ret
  exact ⟨rfl, HBz.out⟩
set_option maxHeartbeats 1000000 in
theorem one_no {w : World} {A : Option Addr} {n c : Nat} {xs : List Sp} (h : Rs w w.heap.size A n xs) (at_ : Int) (hn : ((60 : Int) < (n : Int)) = False) (h0 : (at_ < 0) = False) (h1 : ((n : Int) ≤ at_) = False) (hn60 : n ≤ 60) (er : Int) (he : (er = 1) = False) (he2 : (er == 1) = false) (m : Nat) (i : Nat) (hi : at_ = (i : Int)) (s : Sp) (hs : xs[i]? = some s) (hm : ¬ Maj xs s.mid) (HSv : Hid (Calls Try.prog 13 #[.slice A n c] w fun e w' => ∃ A' c', e = .returned (.tuple #[.slice A' m c', .int .i64 er]) ∧ RowKit.Below w.heap.size w w')) : Calls Try.prog 7 #[.slice A n c, .int .i64 at_] w (Yes w) := by
  have HR := Lib.hid h
  have hl := h.1
  have hin : i < n := by rw [← hl]; exact (List.getElem?_eq_some_iff.1 hs).1
  obtain ⟨g, off, rfl, hg, hc⟩ := h.cells (by omega)
  have HC := Lib.hid (fun w' b => hc w' b i s hs)
  have hcl := cov_lim xs s.mid
  unfold Maj at hm
  rw [hl] at hm hcl
  obtain ⟨C, hC⟩ : ∃ C, C = cov xs s.mid := ⟨_, rfl⟩
  rw [← hC] at hm hcl
  have HCc := Lib.hid hC
  have hc2 : 2 * C ≤ (n : Int) := by omega
  subst hi
  clear h hC hm hl hc hs
  go_enter Try.func7, Try.ntmps7
  go_wp2_with fail
  refine HSv.out.mono ?_
  rintro e w2 ⟨A', c', rfl, b2⟩
  have HB2 := Lib.hid b2
  obtain ⟨c0, c1, c2⟩ := HC.out w2 b2
  have HCv := Lib.hid (cover_any (c := c) s.mid (HR.out.below b2 (Nat.le_refl _)) b2.size (by omega))
  clear b2
  go_wp2_with fail
  refine HCv.out.mono ?_
  rintro e w3 ⟨rfl, b3⟩
  rw [← HCc.out]
  have HB3 := Lib.hid (bthen HB2.out b3 (Nat.le_refl _))
  clear b3 c0 c1 c2
  go_wp2_with fail
  refine (alive_any _).mono ?_
  rintro e wz ⟨rfl, bz⟩
  have HBz := Lib.hid (bthen HB3.out bz (Nat.le_refl _))
  clear bz
  go_wp2_with fail
  go_ret
  exact ⟨rfl, HBz.out⟩
set_option maxHeartbeats 2000000 in
theorem one_yes {w : World} {A : Option Addr} {n c : Nat} {xs : List Sp} (h : Rs w w.heap.size A n xs) (at_ : Int) (hn : ((60 : Int) < (n : Int)) = False) (h0 : (at_ < 0) = False) (h1 : ((n : Int) ≤ at_) = False) (hn60 : n ≤ 60) (L : List Int) (i : Nat) (hi : at_ = (i : Int)) (s : Sp) (hs : xs[i]? = some s) (hm : Maj xs s.mid) (hL : (i : Int) ∈ L) (hL60 : L.length ≤ 60) (HSv : Hid (Calls Try.prog 13 #[.slice A n c] w fun e w' => ∃ A' c', e = .returned (.tuple #[.slice A' L.length c', .int .i64 0]) ∧ Ri w' w'.heap.size A' L.length L ∧ RowKit.Below w.heap.size w w')) : Calls Try.prog 7 #[.slice A n c, .int .i64 at_] w (Yes w) := by
  have HR := Lib.hid h
  have hl := h.1
  have hin : i < n := by rw [← hl]; exact (List.getElem?_eq_some_iff.1 hs).1
  obtain ⟨g, off, rfl, hg, hc⟩ := h.cells (by omega)
  have HC := Lib.hid (fun w' b => hc w' b i s hs)
  have hcl := cov_lim xs s.mid
  unfold Maj at hm
  rw [hl] at hm hcl
  obtain ⟨C, hC⟩ : ∃ C, C = cov xs s.mid := ⟨_, rfl⟩
  rw [← hC] at hm hcl
  have HCc := Lib.hid hC
  have hc2 : (2 * C ≤ (n : Int)) = False := by simp only [eq_iff_iff, iff_false]; omega
  subst hi
  have HLi := Lib.hid hL
  clear h hC hm hl hc hs hL
  obtain ⟨m, hm⟩ : ∃ m, m = L.length := ⟨_, rfl⟩
  rw [← hm] at HSv hL60
  have HLm := Lib.hid hm
  clear hm
  go_enter Try.func7, Try.ntmps7
  go_wp2_with fail
  refine HSv.out.mono ?_
  rintro e w2 ⟨A', c', rfl, hri, b2⟩
  have HB2 := Lib.hid b2
  have HK2 := Lib.hid hri
  obtain ⟨c0, c1, c2⟩ := HC.out w2 b2
  have HCv := Lib.hid (cover_any (c := c) s.mid (HR.out.below b2 (Nat.le_refl _)) b2.size (by omega))
  clear b2 hri
  go_wp2_with fail
  refine HCv.out.mono ?_
  rintro e w3 ⟨rfl, b3⟩
  rw [← HCc.out]
  have HB3 := Lib.hid (bthen HB2.out b3 (Nat.le_refl _))
  have HK3 := Lib.hid (HK2.out.below b3 (Nat.le_refl _))
  clear b3 c0 c1 c2
  go_wp2_with fail
  go_loopw [7, 8] (fun v iv wr => ∃ j : Nat, j ≤ m ∧ iv = .int .i64 (j : Int) ∧ v = .bool (decide ((i : Int) ∈ L.take j)) ∧ wr = w3) (fun _ iv _ => (m - (match iv with | .int _ z => z.toNat | _ => 0)))
  case atStart => exact ⟨0, by omega, rfl, by simp, rfl⟩
  case round =>
    obtain ⟨j, hj, rfl, rfl, rfl⟩ := hrel
    obtain ⟨b, hb⟩ : ∃ b, b = decide ((i : Int) ∈ L.take j) := ⟨_, rfl⟩
    rw [← hb]
    have HBb := Lib.hid hb
    clear hb
    by_cases hjm : j < m
    · have e1 : decide ((j : Int) < (m : Int)) = true := by simp; omega
      have e1' : (j : Int) < (m : Int) := by omega
      obtain ⟨z, hz⟩ : ∃ z, L[j]? = some z := ⟨_, List.getElem?_eq_getElem (by have := HLm.out; omega)⟩
      obtain ⟨g2, off2, rfl, _, hc2'⟩ := HK3.out.cells (by omega)
      have d0 := hc2' wr (Below.refl _ _) j z hz
      have HT := Lib.hid (show ∀ b' : Bool, b' = (b || decide (z = (i : Int))) → b' = decide ((i : Int) ∈ L.take (j + 1)) from fun b' hb' => by
        rw [hb', HBb.out, List.take_add_one, hz]
        by_cases h1 : (i : Int) ∈ L.take j
        · simp [h1]
        · by_cases h2 : z = (i : Int)
          · simp [h2]
          · have h3 : ¬ (i : Int) = z := fun x => h2 x.symm
            simp [h1, h2, h3])
      clear hc2' hz
      cases b
      · by_cases h2 : z = (i : Int)
        · subst h2
          go_wp2_with fail
          exact ⟨⟨j + 1, by omega, rfl, by rw [← HT.out true (by simp)], by first | trivial | rfl⟩, by show m - ((j : Int) + 1).toNat < m - (j : Int).toNat; omega⟩
        · have h2' : (z = (i : Int)) = False := by simp only [h2]
          have h2'' : (z == (i : Int)) = false := by simp only [beq_eq_false_iff_ne]; exact h2
          go_wp2_with fail
          exact ⟨⟨j + 1, by omega, rfl, by rw [← HT.out false (by simp [h2])], by first | trivial | rfl⟩, by show m - ((j : Int) + 1).toNat < m - (j : Int).toNat; omega⟩
      · go_wp2_with fail
        exact ⟨⟨j + 1, by omega, rfl, by rw [← HT.out true (by simp)], by first | trivial | rfl⟩, by show m - ((j : Int) + 1).toNat < m - (j : Int).toNat; omega⟩
    · have e1' : ((j : Int) < (m : Int)) = False := by simp only [eq_iff_iff, iff_false]; omega
      obtain rfl : b = true := by
        rw [HBb.out, List.take_of_length_le (by have := HLm.out; omega)]
        exact decide_eq_true HLi.out
      go_wp2_with fail
      refine (alive_any _).mono ?_
      rintro e wz ⟨rfl, bz⟩
      have HBz := Lib.hid (bthen HB3.out bz (Nat.le_refl _))
      clear bz
      go_wp2_with fail
      go_ret
      exact ⟨rfl, HBz.out⟩
theorem law_any {w : World} {A : Option Addr} {n c : Nat} {xs : List Sp} (h : Rs w w.heap.size A n xs ∧ (∀ s ∈ xs, s.ok) ∧ n ≤ c ∧ c ≤ maxLen) (at_ : Int) (hx : in64 at_) : Calls Try.prog 7 #[.slice A n c, .int .i64 at_] w (Yes w) := by
  obtain ⟨h, _, h1, h2⟩ := h
  by_cases hn : 60 < n
  · exact one_long h at_ (by omega)
  have hn' : ((60 : Int) < (n : Int)) = False := by simp only [eq_iff_iff, iff_false]; omega
  by_cases h0 : at_ < 0
  · exact one_neg h at_ hn' h0
  have h0' : (at_ < 0) = False := by simp only [h0]
  by_cases h3 : (n : Int) ≤ at_
  · exact one_far h at_ hn' h0' h3
  have h3' : ((n : Int) ≤ at_) = False := by simp only [h3]
  obtain ⟨i, rfl⟩ : ∃ i : Nat, at_ = (i : Int) := ⟨at_.toNat, by omega⟩
  obtain ⟨s, hs⟩ : ∃ s, xs[i]? = some s := ⟨_, List.getElem?_eq_getElem (by rw [h.1]; omega)⟩
  obtain ⟨lo, hi, er, hh, HRg⟩ := region_det (c := c) h (Nat.le_refl _) (by omega)
  by_cases he1 : er = 1
  · subst he1
    exact one_err h _ hn' h0' h3' (Lib.hid (surv_err HRg (by decide)))
  have hh2 := hh.resolve_left he1
  by_cases he0 : er = 0
  · subst he0
    have hreg : IsReg xs lo hi := by
      rcases hh2.1 with ⟨x, _⟩ | ⟨_, x⟩
      · exact x
      · exact absurd x (by decide)
    have hsv := surv_ok h (Nat.le_refl _) (by omega) HRg
    have hsl := svN_len xs lo hi n
    by_cases hm : Maj xs s.mid
    · have hb := hreg.2.2 _ hm
      exact one_yes h _ hn' h0' h3' (by omega) (svN xs lo hi n) i rfl s hs hm (svN_mem hs (by omega) hb.1 hb.2) (by omega) (Lib.hid hsv)
    · exact one_no h _ hn' h0' h3' (by omega) 0 (by simp) (by decide) _ i rfl s hs hm (Lib.hid (hsv.mono (by rintro e w' ⟨A', c', rfl, _, hb⟩; exact ⟨A', c', rfl, hb⟩)))
  · obtain rfl : er = 150 := hh2.2.resolve_left he0
    have hno : ¬ Maj xs s.mid := by
      rcases hh2.1 with ⟨_, x⟩ | ⟨x, _⟩
      · exact absurd x (by decide)
      · exact x _
    exact one_no h _ hn' h0' h3' (by omega) 150 (by simp) (by decide) 0 i rfl s hs hno (Lib.hid ((surv_err HRg (by decide)).mono (by rintro e w' ⟨rfl, hb⟩; exact ⟨none, 0, rfl, hb⟩)))

set_option maxRecDepth 100000 in
theorem lifted (os : Os) (started : os.Started) (H : Type) (enc : TypeId × Value → H) :
    ReturnsInHanded {} Try.checked os 7 .any (Rows.chooseOneSpec.pre6 enc Try.prog Try.f7 Rows.chooseOneRow.domain false) (Rows.chooseOneSpec.post enc Try.prog Try.f7 false true false false) := by
  refine returnsInHanded_of_change (C := Try.checked) own started (by kernel_rfl) Try.func7
    (ChangeSpec.witness6 (enc := enc) (C := Try.checked) false ⟨#[], #[.slice none 0 0, .int .i64 0], []⟩ 8 (by kernel_rfl) (by kernel_rfl) (by kernel_rfl) (by kernel_rfl)) ?_
  intro W base args ds gs before hval0 hW hcnd _
  have hval : ∀ (j : Nat) t v, Try.f7.params[j]? = some t → args[j]? = some v → Value.okWide Try.prog W .any base t v := hval0
  have hW' := hW
  obtain ⟨p, q, hA0, hV, rfl, hfz, hnd⟩ := hW
  have hA : DataW.TrodAll enc Try.prog W 0 (fun _ => true) true Try.f7.params.toList args.toList ds p := hA0
  rw [Try.params7] at hA hval
  obtain ⟨v0, vs0, d0, ds0, p0, q0, hargs, rfl, rfl, h0, r0⟩ := trodAll_cons hA
  obtain ⟨v1, vs1, d1, ds1, p1, q1, rfl, rfl, rfl, h1, r1⟩ := trodAll_cons r0
  obtain ⟨rfl, rfl, rfl⟩ := trodAll_nil r1
  obtain rfl : args = #[v0, v1] := by cases args; simp_all
  obtain ⟨rfl, rfl⟩ := trodVars_none hV
  obtain ⟨a0, len0, cap0, rfl⟩ := okWide_slice Try.underlying22 (hval 0 22 v0 rfl rfl)
  have k0 := h0
  have lt0 : ∀ x ∈ p0, x.block < W.heap.size := by obtain ⟨m, hm⟩ := k0; exact DataW.trod_lt m _ _ _ hm
  obtain ⟨E0, w0⟩ := (show ∃ fuel, _ from h0).elim fun fuel hf => spans_open hf
  obtain ⟨a1, rfl, rfl, rfl, w1⟩ := open_int Try.underlying3 (hval 1 3 v1 rfl rfl) h1
  clear hA0 hval0
  refine (law_any w0 a1 (in64_wf w1)).mono fun e W' ⟨he, bel⟩ => ?_
  subst he
  exact ⟨_, rfl, _, _, _, [], _, [], hW', trodAll_mk1 (shut_bool Try.underlying4 _), (trodAll_cons_mk (Below.trod laidOut (by kernel_rfl) (of_decide_eq_true (by kernel_rfl)) k0 bel lt0) (trodAll_cons_mk (shut_int Try.underlying3 w1) trodAll_mk0)), rfl, bel.frame _, fun h => by cases h⟩

theorem chooseOne_holds : Rows.ChooseOneSaid :=
  OpenClaim.holds_of_wide 7 Try.f7 rfl rfl rfl rfl rfl rfl rfl ⟨rfl, rfl, rfl, rfl, rfl⟩ rfl rfl rfl rfl rfl (by kernel_rfl) Try.func7 (by kernel_rfl)
    (of_decide_eq_true (by kernel_rfl)) (by unfold Func.isWrapper; first | (rw [if_pos (by decide +kernel)]; kernel_rfl) | (rw [if_neg (by decide +kernel)]; exact ⟨rfl, rfl⟩))
    (fun os started H enc _ => lifted os started H enc)
#print axioms chooseOne_holds
end Go.Proofs.Ytjagekagpgjoaaa.chooseOneP
