/- For every list of intervals the Go function ChooseEnds returns true and leaves its argument as it was. No condition. -/
import Derived.Test.YtjagekagpgjoaaaC19
namespace Go.Proofs.Ytjagekagpgjoaaa.chooseEndsP
open Go.ChangeShapes Go.WideShapes Go.ChangeAt Go.RowKit
set_option linter.unusedVariables false
set_option linter.unusedSimpArgs false
set_option maxRecDepth 100000

theorem ends_long {w : World} {A : Option Addr} {n c : Nat} {xs : List Sp} (h : Rs w w.heap.size A n xs) (hn : (64 : Int) ≤ (n : Int)) : Calls Try.prog 6 #[.slice A n c] w (Yes w) := by
  clear h
  go_enter Try.func6, Try.ntmps6
  go_wp2_with fail
  have HB2 := Lib.hid (Below.refl w.heap.size w)
  refine (alive_any _).mono ?_
  rintro e wz ⟨rfl, bz⟩
  have HBz := Lib.hid (bthen HB2.out bz (Nat.le_refl _))
  clear bz
  go_wp2_with fail
  go_ret
  exact ⟨rfl, HBz.out⟩
theorem ends_arg {w : World} {A : Option Addr} {n c : Nat} {xs : List Sp} (h : Rs w w.heap.size A n xs) (hn : ((64 : Int) ≤ (n : Int)) = False) (HRg : Hid (Calls Try.prog 11 #[.slice A n c] w fun e w' => e = .returned (.tuple #[.int .i64 0, .int .i64 0, .int .i64 1]) ∧ RowKit.Below w.heap.size w w')) : Calls Try.prog 6 #[.slice A n c] w (Yes w) := by
  clear h
  go_enter Try.func6, Try.ntmps6
  go_wp2_with fail
  refine HRg.out.mono ?_
  rintro e w2 ⟨rfl, b2⟩
  have HB2 := Lib.hid b2
  clear b2
  go_wp2_with fail
  refine (alive_any _).mono ?_
  rintro e wz ⟨rfl, bz⟩
  have HBz := Lib.hid (bthen HB2.out bz (Nat.le_refl _))
  clear bz
  go_wp2_with fail
  go_ret
  exact ⟨rfl, HBz.out⟩
theorem ends_none {w : World} {A : Option Addr} {n c : Nat} {xs : List Sp} (h : Rs w w.heap.size A n xs) (hn : ((64 : Int) ≤ (n : Int)) = False) (HRg : Hid (Calls Try.prog 11 #[.slice A n c] w fun e w' => e = .returned (.tuple #[.int .i64 0, .int .i64 0, .int .i64 150]) ∧ RowKit.Below w.heap.size w w')) : Calls Try.prog 6 #[.slice A n c] w (Yes w) := by
  clear h
  go_enter Try.func6, Try.ntmps6
  go_wp2_with fail
  refine HRg.out.mono ?_
  rintro e w2 ⟨rfl, b2⟩
  have HB2 := Lib.hid b2
  clear b2
  go_wp2_with fail
  refine (alive_any _).mono ?_
  rintro e wz ⟨rfl, bz⟩
  have HBz := Lib.hid (bthen HB2.out bz (Nat.le_refl _))
  clear bz
  go_wp2_with fail
  go_ret
  exact ⟨rfl, HBz.out⟩
theorem any_take {xs : List Sp} {f : Sp → Int} {v : Int} {j : Nat} {s : Sp} (hs : xs[j]? = some s) : ((xs.take (j + 1)).any fun t => decide (f t = v)) = (((xs.take j).any fun t => decide (f t = v)) || decide (f s = v)) := by
  rw [List.take_add_one, hs]
  simp
set_option maxHeartbeats 4000000 in
theorem ends_yes {w : World} {A : Option Addr} {n c : Nat} {xs : List Sp} (h : Rs w w.heap.size A n xs) (hn : n < 64) (lo hi : Int) (hm : AllMay xs) (hr : IsReg xs lo hi) (hok : ∀ s ∈ xs, s.ok) (HRg : Hid (Calls Try.prog 11 #[.slice A n c] w fun e w' => e = .returned (.tuple #[.int .i64 lo, .int .i64 hi, .int .i64 0]) ∧ RowKit.Below w.heap.size w w')) : Calls Try.prog 6 #[.slice A n c] w (Yes w) := by
  have hn' : ((64 : Int) ≤ (n : Int)) = False := by simp only [eq_iff_iff, iff_false]; omega
  have HR := Lib.hid h
  have HL := Lib.hid h.1
  have hle := hr.lo_end
  have hhe := hr.hi_end
  have HLo := Lib.hid (show (xs.any fun t => decide (t.lo = lo)) = true by
    obtain ⟨s, hs, e⟩ := hle
    rw [List.any_eq_true]
    exact ⟨s, hs, decide_eq_true e⟩)
  have HHi := Lib.hid (show (xs.any fun t => decide (t.hi = hi)) = true by
    obtain ⟨s, hs, e⟩ := hhe
    rw [List.any_eq_true]
    exact ⟨s, hs, decide_eq_true e⟩)
  have h64a : in64 lo := by obtain ⟨s, hs, e⟩ := hle; rw [← e]; exact (hok s hs).1
  have h64b : in64 hi := by obtain ⟨s, hs, e⟩ := hhe; rw [← e]; exact (hok s hs).2.2
  have HMo := Lib.hid (fun a b er (k : RegIs (xs ++ [full]) a b er) => region_more hm (by rw [h.1]; exact hn) hr h64a h64b k)
  have hlh : (hi < lo) = False := by
    have := hr.2.2 lo hr.1
    simp only [eq_iff_iff, iff_false]
    omega
  have hm1 := hr.1
  have hm2 := hr.2.1
  have hc1 := cov_lim xs lo
  have hc2 := cov_lim xs hi
  unfold Maj at hm1 hm2
  rw [h.1] at hm1 hm2 hc1 hc2
  obtain ⟨C1, hC1⟩ : ∃ C, C = cov xs lo := ⟨_, rfl⟩
  obtain ⟨C2, hC2⟩ : ∃ C, C = cov xs hi := ⟨_, rfl⟩
  rw [← hC1] at hm1 hc1
  rw [← hC2] at hm2 hc2
  have HC1 := Lib.hid hC1
  have HC2 := Lib.hid hC2
  have q1 : (2 * C1 ≤ (n : Int)) = False := by simp only [eq_iff_iff, iff_false]; omega
  have q2 : (2 * C2 ≤ (n : Int)) = False := by simp only [eq_iff_iff, iff_false]; omega
  clear h hle hhe hr hm hok hC1 hC2 hm1 hm2 h64a h64b
  go_enter Try.func6, Try.ntmps6
  go_wp2_with fail
  refine HRg.out.mono ?_
  rintro e w2 ⟨rfl, b2⟩
  have HB2 := Lib.hid b2
  have HR2 := Lib.hid (HR.out.below b2 (Nat.le_refl _))
  clear b2 hn'
  go_wp2_with fail
  go_loopw [6, 7, 8] (fun lv hv iv wr => ∃ j : Nat, j ≤ n ∧ iv = .int .i64 (j : Int) ∧ lv = .bool ((xs.take j).any fun t => decide (t.lo = lo)) ∧ hv = .bool ((xs.take j).any fun t => decide (t.hi = hi)) ∧ wr = w2) (fun _ _ iv _ => (n - (match iv with | .int _ z => z.toNat | _ => 0)))
  case atStart => exact ⟨0, by omega, rfl, rfl, rfl, rfl⟩
  case round =>
    obtain ⟨j, hj, rfl, rfl, rfl, rfl⟩ := hrel
    obtain ⟨b1, hb1⟩ : ∃ b, b = ((xs.take j).any fun t => decide (t.lo = lo)) := ⟨_, rfl⟩
    obtain ⟨b2, hb2⟩ : ∃ b, b = ((xs.take j).any fun t => decide (t.hi = hi)) := ⟨_, rfl⟩
    rw [← hb1, ← hb2]
    have HB1 := Lib.hid hb1
    have HBb := Lib.hid hb2
    clear hb1 hb2
    by_cases hjn : j < n
    · have e1 : decide ((j : Int) < (n : Int)) = true := by simp; omega
      have e1' : (j : Int) < (n : Int) := by omega
      obtain ⟨s, hs⟩ : ∃ s, xs[j]? = some s := ⟨_, List.getElem?_eq_getElem (by have := HL.out; omega)⟩
      obtain ⟨g, off, rfl, hg, hc⟩ := HR2.out.cells (by omega)
      obtain ⟨c0, c1, c2⟩ := hc wr (Below.refl _ _) j s hs
      have HT1 := Lib.hid (show ∀ b' : Bool, b' = (b1 || decide (s.lo = lo)) → b' = ((xs.take (j + 1)).any fun t => decide (t.lo = lo)) from fun b' hb' => by rw [hb', HB1.out, any_take hs])
      have HT2 := Lib.hid (show ∀ b' : Bool, b' = (b2 || decide (s.hi = hi)) → b' = ((xs.take (j + 1)).any fun t => decide (t.hi = hi)) from fun b' hb' => by rw [hb', HBb.out, any_take hs])
      clear hc hs
      cases b1
      · cases b2
        · skip
          by_cases k1 : s.lo = lo
          · have k1b : (s.lo == lo) = true := by simp [k1]
            by_cases k2 : s.hi = hi
            · have k2b : (s.hi == hi) = true := by simp [k2]
              go_wp2_with fail
              refine ⟨⟨j + 1, by omega, rfl, by rw [← HT1.out true (by simp [k1])], by rw [← HT2.out true (by simp [k2])], by first | trivial | rfl⟩, by show n - ((j : Int) + 1).toNat < n - (j : Int).toNat; omega⟩
            · have k2' : (s.hi = hi) = False := by simp only [k2]
              have k2b : (s.hi == hi) = false := by simp only [beq_eq_false_iff_ne]; exact k2
              go_wp2_with fail
              refine ⟨⟨j + 1, by omega, rfl, by rw [← HT1.out true (by simp [k1])], by rw [← HT2.out false (by simp [k2])], by first | trivial | rfl⟩, by show n - ((j : Int) + 1).toNat < n - (j : Int).toNat; omega⟩
          · have k1' : (s.lo = lo) = False := by simp only [k1]
            have k1b : (s.lo == lo) = false := by simp only [beq_eq_false_iff_ne]; exact k1
            by_cases k2 : s.hi = hi
            · have k2b : (s.hi == hi) = true := by simp [k2]
              go_wp2_with fail
              refine ⟨⟨j + 1, by omega, rfl, by rw [← HT1.out false (by simp [k1])], by rw [← HT2.out true (by simp [k2])], by first | trivial | rfl⟩, by show n - ((j : Int) + 1).toNat < n - (j : Int).toNat; omega⟩
            · have k2' : (s.hi = hi) = False := by simp only [k2]
              have k2b : (s.hi == hi) = false := by simp only [beq_eq_false_iff_ne]; exact k2
              go_wp2_with fail
              refine ⟨⟨j + 1, by omega, rfl, by rw [← HT1.out false (by simp [k1])], by rw [← HT2.out false (by simp [k2])], by first | trivial | rfl⟩, by show n - ((j : Int) + 1).toNat < n - (j : Int).toNat; omega⟩
        · skip
          by_cases k1 : s.lo = lo
          · have k1b : (s.lo == lo) = true := by simp [k1]
            go_wp2_with fail
            refine ⟨⟨j + 1, by omega, rfl, by rw [← HT1.out true (by simp [k1])], by rw [← HT2.out true (by simp)], by first | trivial | rfl⟩, by show n - ((j : Int) + 1).toNat < n - (j : Int).toNat; omega⟩
          · have k1' : (s.lo = lo) = False := by simp only [k1]
            have k1b : (s.lo == lo) = false := by simp only [beq_eq_false_iff_ne]; exact k1
            go_wp2_with fail
            refine ⟨⟨j + 1, by omega, rfl, by rw [← HT1.out false (by simp [k1])], by rw [← HT2.out true (by simp)], by first | trivial | rfl⟩, by show n - ((j : Int) + 1).toNat < n - (j : Int).toNat; omega⟩
      · cases b2
        · skip
          by_cases k2 : s.hi = hi
          · have k2b : (s.hi == hi) = true := by simp [k2]
            go_wp2_with fail
            refine ⟨⟨j + 1, by omega, rfl, by rw [← HT1.out true (by simp)], by rw [← HT2.out true (by simp [k2])], by first | trivial | rfl⟩, by show n - ((j : Int) + 1).toNat < n - (j : Int).toNat; omega⟩
          · have k2' : (s.hi = hi) = False := by simp only [k2]
            have k2b : (s.hi == hi) = false := by simp only [beq_eq_false_iff_ne]; exact k2
            go_wp2_with fail
            refine ⟨⟨j + 1, by omega, rfl, by rw [← HT1.out true (by simp)], by rw [← HT2.out false (by simp [k2])], by first | trivial | rfl⟩, by show n - ((j : Int) + 1).toNat < n - (j : Int).toNat; omega⟩
        · skip
          go_wp2_with fail
          refine ⟨⟨j + 1, by omega, rfl, by rw [← HT1.out true (by simp)], by rw [← HT2.out true (by simp)], by first | trivial | rfl⟩, by show n - ((j : Int) + 1).toNat < n - (j : Int).toNat; omega⟩
    · have e1' : ((j : Int) < (n : Int)) = False := by simp only [eq_iff_iff, iff_false]; omega
      have hT : xs.take j = xs := List.take_of_length_le (by have := HL.out; omega)
      obtain rfl : b1 = true := by rw [HB1.out, hT]; exact HLo.out
      obtain rfl : b2 = true := by rw [HBb.out, hT]; exact HHi.out
      have HV1 := Lib.hid (cover_any (c := c) lo HR2.out HB2.out.size (by omega))
      rw [← HC1.out] at HV1
      clear hT
      go_wp2_with fail
      refine HV1.out.mono ?_
      rintro e w3 ⟨rfl, b3⟩
      have HB3 := Lib.hid (bthen HB2.out b3 (Nat.le_refl _))
      have HR3 := Lib.hid (HR2.out.below b3 HB2.out.size)
      have HV2 := Lib.hid (cover_any (c := c) hi HR3.out HB3.out.size (by omega))
      rw [← HC2.out] at HV2
      clear b3
      go_wp2_with fail
      refine HV2.out.mono ?_
      rintro e w4 ⟨rfl, b4⟩
      have HB4 := Lib.hid (bthen HB3.out b4 (Nat.le_refl _))
      have HR4 := Lib.hid (HR3.out.below b4 HB3.out.size)
      have HS4 := Lib.hid HB4.out.size
      clear b4
      go_upto_region 16 with (at_builtin; refine wpList_app_r _ rfl (.tmp 89) (.tmp 90) rfl rfl (Gp.nil _ w.heap.size) rfl HR4.out (by omega) HS4.out ?_; intro A5 c5 w5 hg5 hq5 _)
      have hb5 : RowKit.Below w.heap.size w w5 := HB4.out.grown hq5 HS4.out (fun k hk => by cases hk)
      rw [List.nil_append] at hg5
      have HG5 := Lib.hid hg5
      have HB5 := Lib.hid hb5
      clear hg5 hq5 hb5
      rw [Nat.zero_add] at HG5
      have HG6 := Lib.hid (HG5.out.below ((Below.refl _ _).alloc (Nat.le_refl _) (.cells #[.int .i64 (-9223372036854775808), .int .i64 0, .int .i64 9223372036854775807] 39)))
      have HB6 := Lib.hid (HB5.out.alloc HB5.out.size (.cells #[.int .i64 (-9223372036854775808), .int .i64 0, .int .i64 9223372036854775807] 39))
      go_upto_region 17 with (at_builtin; refine wpList_app_p (y := full) _ rfl (.tmp 92) (.tmp 94) rfl (by first | rfl | (simp; done)) HG6.out rfl (World.alloc_heap_new w5 _) (by omega) HB6.out HB6.out.size ?_; intro A7 c7 w7 hg7 hb7)
      have HRm := Lib.hid (region_any (c := c7) hg7.rs (Nat.le_refl _) (by omega))
      have HB7 := Lib.hid hb7
      clear hg7 hb7
      go_wp2_with fail
      refine HRm.out.mono ?_
      rintro e w8 ⟨⟨a, b, er, rfl, k⟩, b8⟩
      obtain ⟨rfl, q3, q4⟩ := HMo.out _ _ _ k
      have HB8 := Lib.hid (bthen HB7.out b8 (Nat.le_refl _))
      clear b8 k
      go_wp2_with fail
      refine (alive_any _).mono ?_
      rintro e wz ⟨rfl, bz⟩
      have HBz := Lib.hid (bthen HB8.out bz (Nat.le_refl _))
      clear bz
      go_wp2_with fail
      go_ret
      exact ⟨rfl, HBz.out⟩
theorem law_any {w : World} {A : Option Addr} {n c : Nat} {xs : List Sp} (h : Rs w w.heap.size A n xs ∧ (∀ s ∈ xs, s.ok) ∧ n ≤ c ∧ c ≤ maxLen) : Calls Try.prog 6 #[.slice A n c] w (Yes w) := by
  obtain ⟨h, hok, h1, h2⟩ := h
  by_cases hn : 64 ≤ n
  · exact ends_long h (by omega)
  have hn' : ((64 : Int) ≤ (n : Int)) = False := by simp only [eq_iff_iff, iff_false]; omega
  obtain ⟨lo, hi, er, hh, _, ham, HRg⟩ := region_det1 (A := A) (n := n) (c := c) xs
  have HRg := HRg h (Nat.le_refl _) (by omega)
  rcases hh with ⟨rfl, hr⟩ | ⟨rfl | rfl, rfl, rfl⟩
  · exact ends_yes h (by omega) lo hi (ham.resolve_left (by decide)) hr hok (Lib.hid HRg)
  · exact ends_arg h hn' (Lib.hid HRg)
  · exact ends_none h hn' (Lib.hid HRg)

set_option maxRecDepth 100000 in
theorem lifted (os : Os) (started : os.Started) (H : Type) (enc : TypeId × Value → H) :
    ReturnsInHanded {} Try.checked os 6 .any (Rows.chooseEndsSpec.pre6 enc Try.prog Try.f6 Rows.chooseEndsRow.domain false) (Rows.chooseEndsSpec.post enc Try.prog Try.f6 false true false false) := by
  refine returnsInHanded_of_change (C := Try.checked) own started (by kernel_rfl) Try.func6
    (ChangeSpec.witness6 (enc := enc) (C := Try.checked) false ⟨#[], #[.slice none 0 0], []⟩ 8 (by kernel_rfl) (by kernel_rfl) (by kernel_rfl) (by kernel_rfl)) ?_
  intro W base args ds gs before hval0 hW hcnd _
  have hval : ∀ (j : Nat) t v, Try.f6.params[j]? = some t → args[j]? = some v → Value.okWide Try.prog W .any base t v := hval0
  have hW' := hW
  obtain ⟨p, q, hA0, hV, rfl, hfz, hnd⟩ := hW
  have hA : DataW.TrodAll enc Try.prog W 0 (fun _ => true) true Try.f6.params.toList args.toList ds p := hA0
  rw [Try.params6] at hA hval
  obtain ⟨v0, vs0, d0, ds0, p0, q0, hargs, rfl, rfl, h0, r0⟩ := trodAll_cons hA
  obtain ⟨rfl, rfl, rfl⟩ := trodAll_nil r0
  obtain rfl : args = #[v0] := by cases args; simp_all
  obtain ⟨rfl, rfl⟩ := trodVars_none hV
  obtain ⟨a0, len0, cap0, rfl⟩ := okWide_slice Try.underlying22 (hval 0 22 v0 rfl rfl)
  have k0 := h0
  have lt0 : ∀ x ∈ p0, x.block < W.heap.size := by obtain ⟨m, hm⟩ := k0; exact DataW.trod_lt m _ _ _ hm
  obtain ⟨E0, w0⟩ := (show ∃ fuel, _ from h0).elim fun fuel hf => spans_open hf
  clear hA0 hval0
  refine (law_any w0).mono fun e W' ⟨he, bel⟩ => ?_
  subst he
  exact ⟨_, rfl, _, _, _, [], _, [], hW', trodAll_mk1 (shut_bool Try.underlying4 _), (trodAll_cons_mk (Below.trod laidOut (by kernel_rfl) (of_decide_eq_true (by kernel_rfl)) k0 bel lt0) trodAll_mk0), rfl, bel.frame _, fun h => by cases h⟩

theorem chooseEnds_holds : Rows.ChooseEndsSaid :=
  OpenClaim.holds_of_wide 6 Try.f6 rfl rfl rfl rfl rfl rfl rfl ⟨rfl, rfl, rfl, rfl, rfl⟩ rfl rfl rfl rfl rfl (by kernel_rfl) Try.func6 (by kernel_rfl)
    (of_decide_eq_true (by kernel_rfl)) (by unfold Func.isWrapper; first | (rw [if_pos (by decide +kernel)]; kernel_rfl) | (rw [if_neg (by decide +kernel)]; exact ⟨rfl, rfl⟩))
    (fun os started H enc _ => lifted os started H enc)
#print axioms chooseEnds_holds
end Go.Proofs.Ytjagekagpgjoaaa.chooseEndsP
