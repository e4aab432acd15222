/- For every time and all differences the Go function StampShifts returns true. No condition beside the card's own. -/
import Derived.Test.YtddjgjaifflpeaaDoorNear
namespace Go.Proofs.YtddjgjaifflpeaaDoor.stampShiftsP
open Go.ChangeShapes Go.WideShapes Go.ChangeAt Go.RowKit
set_option linter.unusedVariables false
set_option maxRecDepth 100000


theorem law_any (W : World) (t : Int) (ht : (Lit.int .u64 t).wf = true) (a : Int) (ha : (Lit.int .i64 a).wf = true) (b : Int) (hb : (Lit.int .i64 b).wf = true) (c : Int) (hc : (Lit.int .i64 c).wf = true) (d : Int) (hd : (Lit.int .i64 d).wf = true) : Calls Tryd.prog 9 #[.int .u64 t, .int .i64 a, .int .i64 b, .int .i64 c, .int .i64 d] W (Yes W) := by
  have bt := bounds_u64 ht
  go_enter Tryd.func9, Tryd.ntmps9
  go_wp2_with fail
  refine (near_any a _).mono ?_
  rintro e w' ⟨⟨A, rfl, A1, A2⟩, rfl⟩
  go_wp2_with fail
  refine (move_any _ _ _).mono ?_
  rintro e w' ⟨rfl, rfl⟩
  go_wp2_with fail
  refine (near_any b _).mono ?_
  rintro e w' ⟨⟨B, rfl, B1, B2⟩, rfl⟩
  go_wp2_with fail
  refine (move_any _ _ _).mono ?_
  rintro e w' ⟨rfl, rfl⟩
  go_wp2_with fail
  refine (near_any c _).mono ?_
  rintro e w' ⟨⟨C, rfl, C1, C2⟩, rfl⟩
  go_wp2_with fail
  refine (move_any _ _ _).mono ?_
  rintro e w' ⟨rfl, rfl⟩
  go_wp2_with fail
  refine (near_any d _).mono ?_
  rintro e w' ⟨⟨D, rfl, D1, D2⟩, rfl⟩
  go_wp2_with fail
  refine (move_any _ _ _).mono ?_
  rintro e w' ⟨rfl, rfl⟩
  go_wp2_with fail
  refine (move_any _ _ _).mono ?_
  rintro e w' ⟨rfl, rfl⟩
  go_wp2_with fail
  refine (alive_any _).mono ?_
  rintro e w' ⟨rfl, bel⟩
  have f1 : df (mv t A) t = A := by unfold mv df; omega
  have f2 : df (mv (mv t A) B) (mv t C) = A + B - C := by unfold mv df; omega
  have f3 : df (mv (mv t A) D) t = A + D := by unfold mv df; omega
  have f4 : df (mv (mv (mv t A) B) D) (mv t C) = A + B + D - C := by unfold mv df; omega
  have f5 : df (mv t C) t = C := by unfold mv df; omega
  have f6 : df (mv (mv t A) B) (mv t A) = B := by unfold mv df; omega
  have f7 : df (mv (mv (mv t A) B) D) (mv (mv t A) D) = B := by unfold mv df; omega
  have g1 : max (-9223372036854775808) (min 9223372036854775807 (C - B)) = C - B := by omega
  obtain ⟨q, hq⟩ : ∃ q, (A + (A + B - C)) / 2 = q := ⟨_, rfl⟩
  have hq2 : (A + D + (A + B + D - C)) / 2 = q + D := by omega
  have bq : -9223372036854775808 ≤ q + D ∧ q + D ≤ 9223372036854775807 := by omega
  have O1 := Lib.hid (fun w => by have h := offset_any t (mv (mv t A) D) (mv (mv (mv t A) B) D) (mv t C) w; rwa [f3, f4, hq2] at h : ∀ w, Calls Tryd.prog 21 #[.int .u64 t, .int .u64 (mv (mv t A) D), .int .u64 (mv (mv (mv t A) B) D), .int .u64 (mv t C)] w fun e w' => e = .returned (.int .i64 (q + D)) ∧ w = w')
  have O2 := Lib.hid (fun w => by have h := offset_any t (mv t A) (mv (mv t A) B) (mv t C) w; rwa [f1, f2, hq] at h : ∀ w, Calls Tryd.prog 21 #[.int .u64 t, .int .u64 (mv t A), .int .u64 (mv (mv t A) B), .int .u64 (mv t C)] w fun e w' => e = .returned (.int .i64 q) ∧ w = w')
  have P1 := Lib.hid (fun w => by have h := delay_any t (mv (mv t A) D) (mv (mv (mv t A) B) D) (mv t C) w; rwa [f5, f7, g1] at h : ∀ w, Calls Tryd.prog 23 #[.int .u64 t, .int .u64 (mv (mv t A) D), .int .u64 (mv (mv (mv t A) B) D), .int .u64 (mv t C)] w fun e w' => e = .returned (.int .i64 (C - B)) ∧ w = w')
  have P2 := Lib.hid (fun w => by have h := delay_any t (mv t A) (mv (mv t A) B) (mv t C) w; rwa [f5, f6, g1] at h : ∀ w, Calls Tryd.prog 23 #[.int .u64 t, .int .u64 (mv t A), .int .u64 (mv (mv t A) B), .int .u64 (mv t C)] w fun e w' => e = .returned (.int .i64 (C - B)) ∧ w = w')
  clear f1 f2 f3 f4 f5 f6 f7 g1 hq hq2
  go_wp2_with fail
  refine (O1.out _).mono ?_
  rintro e w' ⟨rfl, rfl⟩
  go_wp2_with fail
  refine (O2.out _).mono ?_
  rintro e w' ⟨rfl, rfl⟩
  go_wp2_with fail
  refine (P1.out _).mono ?_
  rintro e w' ⟨rfl, rfl⟩
  go_wp2_with fail
  refine (P2.out _).mono ?_
  rintro e w' ⟨rfl, rfl⟩
  go_wp2_with fail
  go_ret
  exact ⟨rfl, bel⟩

set_option maxRecDepth 100000 in
theorem lifted (os : Os) (started : os.Started) (H : Type) (enc : TypeId × Value → H) :
    ReturnsInHanded {} Tryd.checked os 9 .any (fun w args => (Rows.stampShiftsSpec.pre enc Tryd.prog Tryd.f9 [] false w args ∧ laidMetH Tryd.prog [("unicode/utf8.acceptRanges", Rows.laid_unicode_utf8_acceptRanges), ("unicode/utf8.first", Rows.laid_unicode_utf8_first)] w) ∧ sizedMet enc Tryd.prog Tryd.f9 (OpenSpec.ofChange Rows.stampShiftsSpec) false w args)
      (Rows.stampShiftsSpec.post enc Tryd.prog Tryd.f9 false true false false) := by
  refine returnsInHanded_of_change_and (C := Tryd.checked) (X := fun w _ => laidMetH Tryd.prog [("unicode/utf8.acceptRanges", Rows.laid_unicode_utf8_acceptRanges), ("unicode/utf8.first", Rows.laid_unicode_utf8_first)] w) (fun _ _ _ hh h => h.of_heap hh) own started (by kernel_rfl) Tryd.func9
    (ChangeSpec.witness_shaped (enc := enc) (C := Tryd.checked) (os := os) (X := fun w _ => laidMetH Tryd.prog [("unicode/utf8.acceptRanges", Rows.laid_unicode_utf8_acceptRanges), ("unicode/utf8.first", Rows.laid_unicode_utf8_first)] w) false (World.laidAll Tryd.prog os [("unicode/utf8.acceptRanges", Rows.laid_unicode_utf8_acceptRanges), ("unicode/utf8.first", Rows.laid_unicode_utf8_first)]) #[.int .u64 0, .int .i64 0, .int .i64 0, .int .i64 0, .int .i64 0] 8 (World.laidAll_os _ _ _)
      (World.shaped_of_ZipB (by kernel_rfl) (by kernel_rfl)) (by kernel_rfl) (by kernel_rfl) (by kernel_rfl)
      (by rw [MakeChecks.laidMetH_plain _ _ _ (by kernel_rfl)]; exact laidMet_laidAll _ (by kernel_rfl) (by kernel_rfl))) ?_
  intro W base args ds gs before hval0 hW _ hsz0 hL _
  have hval : ∀ (j : Nat) t v, Tryd.f9.params[j]? = some t → args[j]? = some v → Value.okWide Tryd.prog W .any base t v := hval0
  have hW' := hW
  obtain ⟨p, q, hA0, hV, rfl, hfz, hnd⟩ := hW
  have hA : DataW.TrodAll enc Tryd.prog W 0 (fun _ => true) true Tryd.f9.params.toList args.toList ds p := hA0
  rw [Tryd.params9] at hA hval
  obtain ⟨v0, vs0, d0, ds0, p0, q0, hargs, rfl, rfl, h0, r0⟩ := trodAll_cons hA
  obtain ⟨v1, vs1, d1, ds1, p1, q1, rfl, rfl, rfl, h1, r1⟩ := trodAll_cons r0
  obtain ⟨v2, vs2, d2, ds2, p2, q2, rfl, rfl, rfl, h2, r2⟩ := trodAll_cons r1
  obtain ⟨v3, vs3, d3, ds3, p3, q3, rfl, rfl, rfl, h3, r3⟩ := trodAll_cons r2
  obtain ⟨v4, vs4, d4, ds4, p4, q4, rfl, rfl, rfl, h4, r4⟩ := trodAll_cons r3
  obtain ⟨rfl, rfl, rfl⟩ := trodAll_nil r4
  obtain rfl : args = #[v0, v1, v2, v3, v4] := by cases args; simp_all
  obtain ⟨rfl, rfl⟩ := trodVars_none hV
  obtain ⟨a0, rfl, rfl, rfl, w0⟩ := open_int Tryd.underlying22 (hval 0 22 v0 rfl rfl) h0
  obtain ⟨a1, rfl, rfl, rfl, w1⟩ := open_int Tryd.underlying2 (hval 1 2 v1 rfl rfl) h1
  obtain ⟨a2, rfl, rfl, rfl, w2⟩ := open_int Tryd.underlying2 (hval 2 2 v2 rfl rfl) h2
  obtain ⟨a3, rfl, rfl, rfl, w3⟩ := open_int Tryd.underlying2 (hval 3 2 v3 rfl rfl) h3
  obtain ⟨a4, rfl, rfl, rfl, w4⟩ := open_int Tryd.underlying2 (hval 4 2 v4 rfl rfl) h4
  clear hA0 hval0
  refine (law_any W a0 w0 a1 w1 a2 w2 a3 w3 a4 w4).mono fun e W' ⟨he, bel⟩ => ?_
  subst he
  exact ⟨_, rfl, _, _, _, [], _, [], hW', trodAll_mk1 (shut_bool Tryd.underlying4 _), (trodAll_cons_mk (shut_int Tryd.underlying22 w0) (trodAll_cons_mk (shut_int Tryd.underlying2 w1) (trodAll_cons_mk (shut_int Tryd.underlying2 w2) (trodAll_cons_mk (shut_int Tryd.underlying2 w3) (trodAll_cons_mk (shut_int Tryd.underlying2 w4) trodAll_mk0))))), rfl, bel.frame _, fun h => by cases h⟩

theorem stampShifts_holds : Rows.StampShiftsSaid :=
  OpenClaim.holds_of_wide 9 Tryd.f9 rfl rfl rfl rfl rfl rfl rfl ⟨rfl, rfl, rfl, rfl, rfl⟩ rfl rfl rfl rfl rfl (by kernel_rfl) Tryd.func9 (by kernel_rfl)
    (of_decide_eq_true (by kernel_rfl)) (by unfold Func.isWrapper; first | (rw [if_pos (by decide +kernel)]; kernel_rfl) | (rw [if_neg (by decide +kernel)]; exact ⟨rfl, rfl⟩))
    (fun os started H enc _ => lifted os started H enc)
theorem stampShifts_card : Rows.StampShiftsCardSaid :=
  Claim7.holds_tied_plain_at .later [] [.data, .pinned] true (true, "6b94bb4742ae0106a2b1367ef2dfc38cb6b687bfd648a7bde03eedb5474f98f7") false
    stampShifts_holds (fun _ h => by cases h) (by kernel_rfl) (fun _ h => by cases h) stampShifts_row_tie rfl ⟨rfl, rfl⟩ (by kernel_rfl) rfl
    (fun f fn hf hfn => by
      obtain rfl : f = 9 := Option.some.inj ((show Tryd.prog.funcNamed "clepsydra/clepsydralaw04.StampShifts" = some 9 by kernel_rfl).symm.trans hf) |>.symm
      obtain rfl : fn = Tryd.f9 := (Option.some.inj (Tryd.func9.symm.trans hfn)).symm
      exact ⟨by kernel_rfl, fun j t ht => by
        rw [Tryd.params9] at ht
        have hm : t ∈ [22, 2, 2, 2, 2] := by simpa using Array.mem_of_getElem? ht
        have hall : ([22, 2, 2, 2, 2].all fun u => !Tryd.prog.wantsStandIn u) = true := by kernel_rfl
        exact (show Tryd.prog.wantsStandIn t = false by simpa using List.all_eq_true.1 hall t hm)⟩)
    (by kernel_rfl)
#print axioms stampShifts_card
end Go.Proofs.YtddjgjaifflpeaaDoor.stampShiftsP
