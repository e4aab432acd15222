/- For every time and all differences the Go function StampHalf returns true. No condition beside the card's own. -/
import Derived.Test.YtddjgjaifflpeaaDoorNear
namespace Go.Proofs.YtddjgjaifflpeaaDoor.stampHalfP
open Go.ChangeShapes Go.WideShapes Go.ChangeAt Go.RowKit
set_option linter.unusedVariables false
set_option maxRecDepth 100000


set_option maxHeartbeats 1000000 in
theorem law_any (W : World) (t : Int) (ht : (Lit.int .u64 t).wf = true) (o : Int) (ho : (Lit.int .i64 o).wf = true) (x : Int) (hx : (Lit.int .i64 x).wf = true) (y : Int) (hy : (Lit.int .i64 y).wf = true) (z : Int) (hz : (Lit.int .i64 z).wf = true) : Calls Tryd.prog 10 #[.int .u64 t, .int .i64 o, .int .i64 x, .int .i64 y, .int .i64 z] W (Yes W) := by
  have bt := bounds_u64 ht
  have M := fun n => i64_and40 n
  go_enter Tryd.func10, Tryd.ntmps10
  go_wp2_with fail
  refine (near_any o _).mono ?_
  rintro e w' ⟨⟨O, rfl, O1, O2⟩, rfl⟩
  go_wp2_with fail
  refine (near_any x _).mono ?_
  rintro e w' ⟨⟨X0, rfl, X01, X02⟩, rfl⟩
  go_wp2_with fail
  refine (near_any y _).mono ?_
  rintro e w' ⟨⟨Y0, rfl, Y01, Y02⟩, rfl⟩
  go_wp2_with fail
  refine (near_any z _).mono ?_
  rintro e w' ⟨⟨Z, rfl, Z1, Z2⟩, rfl⟩
  have bX : 0 ≤ X0 % 1099511627776 ∧ X0 % 1099511627776 < 1099511627776 := by omega
  have bY : 0 ≤ Y0 % 1099511627776 ∧ Y0 % 1099511627776 < 1099511627776 := by omega
  clear M X01 X02 Y01 Y02
  generalize X0 % 1099511627776 = X at *
  generalize Y0 % 1099511627776 = Y at *
  go_wp2_with fail
  refine (move_any _ _ _).mono ?_
  rintro e w' ⟨rfl, rfl⟩
  go_wp2_with fail
  refine (move_any _ _ _).mono ?_
  rintro e w' ⟨rfl, rfl⟩
  go_wp2_with fail
  refine (move_any _ _ _).mono ?_
  rintro e w' ⟨rfl, rfl⟩
  go_wp2_with fail
  refine (move_any _ _ _).mono ?_
  rintro e w' ⟨rfl, rfl⟩
  go_wp2_with fail
  refine (move_any _ _ _).mono ?_
  rintro e w' ⟨rfl, rfl⟩
  have f0 : ∀ s S : Int, 0 ≤ s → s < 18446744073709551616 → -9223372036854775808 ≤ S → S < 9223372036854775808 → df (mv s S) s = S := fun s S h1 h2 h3 h4 => by unfold mv df; omega
  have f9 : ∀ s S : Int, 0 ≤ s → s < 18446744073709551616 → -9223372036854775807 ≤ S → S < 9223372036854775808 → df s (mv s S) = -S := fun s S h1 h2 h3 h4 => by unfold mv df; omega
  have mm : ∀ s a b : Int, mv (mv s a) b = mv s (a + b) := fun s a b => by unfold mv; omega
  have bs := mv_bounds (mv (mv t X) O) Z
  have bs2 := mv_bounds (mv t X) O
  have f1 : df (mv (mv t X) O) t = X + O := by rw [mm]; exact f0 _ _ (by omega) (by omega) (by omega) (by omega)
  have f2 : df (mv (mv (mv t X) O) Z) (mv (mv (mv (mv (mv t X) O) Z) (-O)) Y) = O - Y := by rw [mm _ (-O)]; rw [f9 _ _ (by omega) (by omega) (by omega) (by omega)]; omega
  have f3 : df (mv (mv (mv (mv (mv t X) O) Z) (-O)) Y) t = X + Y + Z := by rw [mm, mm, mm, mm]; rw [f0 _ _ (by omega) (by omega) (by omega) (by omega)]; omega
  have f4 : df (mv (mv (mv t X) O) Z) (mv (mv t X) O) = Z := f0 _ _ (by omega) (by omega) (by omega) (by omega)
  clear f0 f9 mm bs bs2
  have g1 : max (-9223372036854775808) (min 9223372036854775807 (X + Y + Z - Z)) = X + Y := by omega
  obtain ⟨q, hq⟩ : ∃ q, (X - Y) / 2 = q := ⟨_, rfl⟩
  have hq2 : (X + O + (O - Y)) / 2 = q + O := by omega
  have O1 := Lib.hid (fun w => by have h := offset_any t (mv (mv t X) O) (mv (mv (mv t X) O) Z) (mv (mv (mv (mv (mv t X) O) Z) (-O)) Y) w; rwa [f1, f2, hq2] at h : ∀ w, Calls Tryd.prog 21 #[.int .u64 t, .int .u64 (mv (mv t X) O), .int .u64 (mv (mv (mv t X) O) Z), .int .u64 (mv (mv (mv (mv (mv t X) O) Z) (-O)) Y)] w fun e w' => e = .returned (.int .i64 (q + O)) ∧ w = w')
  have P1 := Lib.hid (fun w => by have h := delay_any t (mv (mv t X) O) (mv (mv (mv t X) O) Z) (mv (mv (mv (mv (mv t X) O) Z) (-O)) Y) w; rwa [f3, f4, g1] at h : ∀ w, Calls Tryd.prog 23 #[.int .u64 t, .int .u64 (mv (mv t X) O), .int .u64 (mv (mv (mv t X) O) Z), .int .u64 (mv (mv (mv (mv (mv t X) O) Z) (-O)) Y)] w fun e w' => e = .returned (.int .i64 (X + Y)) ∧ w = w')
  have bq : -1099511627776 ≤ q ∧ q ≤ 1099511627776 := by omega
  have l1 : 2 * q ≤ X + Y := by omega
  have l2 : -2 * q ≤ X + Y + 1 := by omega
  clear f1 f2 f3 f4 g1 hq hq2
  go_wp2_with fail
  refine (O1.out _).mono ?_
  rintro e w' ⟨rfl, rfl⟩
  have e3 : q + O - O = q := by omega
  go_wp2_with fail
  refine (alive_any _).mono ?_
  rintro e w' ⟨rfl, bel⟩
  go_wp2_with fail
  refine (P1.out _).mono ?_
  rintro e w' ⟨rfl, rfl⟩
  go_wp2_with fail
  go_ret
  exact ⟨rfl, bel⟩

set_option maxRecDepth 100000 in
theorem lifted (os : Os) (started : os.Started) (H : Type) (enc : TypeId × Value → H) :
    ReturnsInHanded {} Tryd.checked os 10 .any (fun w args => (Rows.stampHalfSpec.pre enc Tryd.prog Tryd.f10 [] false w args ∧ laidMetH Tryd.prog [("unicode/utf8.acceptRanges", Rows.laid_unicode_utf8_acceptRanges), ("unicode/utf8.first", Rows.laid_unicode_utf8_first)] w) ∧ sizedMet enc Tryd.prog Tryd.f10 (OpenSpec.ofChange Rows.stampHalfSpec) false w args)
      (Rows.stampHalfSpec.post enc Tryd.prog Tryd.f10 false true false false) := by
  refine returnsInHanded_of_change_and (C := Tryd.checked) (X := fun w _ => laidMetH Tryd.prog [("unicode/utf8.acceptRanges", Rows.laid_unicode_utf8_acceptRanges), ("unicode/utf8.first", Rows.laid_unicode_utf8_first)] w) (fun _ _ _ hh h => h.of_heap hh) own started (by kernel_rfl) Tryd.func10
    (ChangeSpec.witness_shaped (enc := enc) (C := Tryd.checked) (os := os) (X := fun w _ => laidMetH Tryd.prog [("unicode/utf8.acceptRanges", Rows.laid_unicode_utf8_acceptRanges), ("unicode/utf8.first", Rows.laid_unicode_utf8_first)] w) false (World.laidAll Tryd.prog os [("unicode/utf8.acceptRanges", Rows.laid_unicode_utf8_acceptRanges), ("unicode/utf8.first", Rows.laid_unicode_utf8_first)]) #[.int .u64 0, .int .i64 0, .int .i64 0, .int .i64 0, .int .i64 0] 8 (World.laidAll_os _ _ _)
      (World.shaped_of_ZipB (by kernel_rfl) (by kernel_rfl)) (by kernel_rfl) (by kernel_rfl) (by kernel_rfl)
      (by rw [MakeChecks.laidMetH_plain _ _ _ (by kernel_rfl)]; exact laidMet_laidAll _ (by kernel_rfl) (by kernel_rfl))) ?_
  intro W base args ds gs before hval0 hW _ hsz0 hL _
  have hval : ∀ (j : Nat) t v, Tryd.f10.params[j]? = some t → args[j]? = some v → Value.okWide Tryd.prog W .any base t v := hval0
  have hW' := hW
  obtain ⟨p, q, hA0, hV, rfl, hfz, hnd⟩ := hW
  have hA : DataW.TrodAll enc Tryd.prog W 0 (fun _ => true) true Tryd.f10.params.toList args.toList ds p := hA0
  rw [Tryd.params10] at hA hval
  obtain ⟨v0, vs0, d0, ds0, p0, q0, hargs, rfl, rfl, h0, r0⟩ := trodAll_cons hA
  obtain ⟨v1, vs1, d1, ds1, p1, q1, rfl, rfl, rfl, h1, r1⟩ := trodAll_cons r0
  obtain ⟨v2, vs2, d2, ds2, p2, q2, rfl, rfl, rfl, h2, r2⟩ := trodAll_cons r1
  obtain ⟨v3, vs3, d3, ds3, p3, q3, rfl, rfl, rfl, h3, r3⟩ := trodAll_cons r2
  obtain ⟨v4, vs4, d4, ds4, p4, q4, rfl, rfl, rfl, h4, r4⟩ := trodAll_cons r3
  obtain ⟨rfl, rfl, rfl⟩ := trodAll_nil r4
  obtain rfl : args = #[v0, v1, v2, v3, v4] := by cases args; simp_all
  obtain ⟨rfl, rfl⟩ := trodVars_none hV
  obtain ⟨a0, rfl, rfl, rfl, w0⟩ := open_int Tryd.underlying22 (hval 0 22 v0 rfl rfl) h0
  obtain ⟨a1, rfl, rfl, rfl, w1⟩ := open_int Tryd.underlying2 (hval 1 2 v1 rfl rfl) h1
  obtain ⟨a2, rfl, rfl, rfl, w2⟩ := open_int Tryd.underlying2 (hval 2 2 v2 rfl rfl) h2
  obtain ⟨a3, rfl, rfl, rfl, w3⟩ := open_int Tryd.underlying2 (hval 3 2 v3 rfl rfl) h3
  obtain ⟨a4, rfl, rfl, rfl, w4⟩ := open_int Tryd.underlying2 (hval 4 2 v4 rfl rfl) h4
  clear hA0 hval0
  refine (law_any W a0 w0 a1 w1 a2 w2 a3 w3 a4 w4).mono fun e W' ⟨he, bel⟩ => ?_
  subst he
  exact ⟨_, rfl, _, _, _, [], _, [], hW', trodAll_mk1 (shut_bool Tryd.underlying4 _), (trodAll_cons_mk (shut_int Tryd.underlying22 w0) (trodAll_cons_mk (shut_int Tryd.underlying2 w1) (trodAll_cons_mk (shut_int Tryd.underlying2 w2) (trodAll_cons_mk (shut_int Tryd.underlying2 w3) (trodAll_cons_mk (shut_int Tryd.underlying2 w4) trodAll_mk0))))), rfl, bel.frame _, fun h => by cases h⟩

theorem stampHalf_holds : Rows.StampHalfSaid :=
  OpenClaim.holds_of_wide 10 Tryd.f10 rfl rfl rfl rfl rfl rfl rfl ⟨rfl, rfl, rfl, rfl, rfl⟩ rfl rfl rfl rfl rfl (by kernel_rfl) Tryd.func10 (by kernel_rfl)
    (of_decide_eq_true (by kernel_rfl)) (by unfold Func.isWrapper; first | (rw [if_pos (by decide +kernel)]; kernel_rfl) | (rw [if_neg (by decide +kernel)]; exact ⟨rfl, rfl⟩))
    (fun os started H enc _ => lifted os started H enc)
theorem stampHalf_card : Rows.StampHalfCardSaid :=
  Claim7.holds_tied_plain_at .later [] [.data, .pinned] true (true, "6b94bb4742ae0106a2b1367ef2dfc38cb6b687bfd648a7bde03eedb5474f98f7") false
    stampHalf_holds (fun _ h => by cases h) (by kernel_rfl) (fun _ h => by cases h) stampHalf_row_tie rfl ⟨rfl, rfl⟩ (by kernel_rfl) rfl
    (fun f fn hf hfn => by
      obtain rfl : f = 10 := Option.some.inj ((show Tryd.prog.funcNamed "clepsydra/clepsydralaw04.StampHalf" = some 10 by kernel_rfl).symm.trans hf) |>.symm
      obtain rfl : fn = Tryd.f10 := (Option.some.inj (Tryd.func10.symm.trans hfn)).symm
      exact ⟨by kernel_rfl, fun j t ht => by
        rw [Tryd.params10] at ht
        have hm : t ∈ [22, 2, 2, 2, 2] := by simpa using Array.mem_of_getElem? ht
        have hall : ([22, 2, 2, 2, 2].all fun u => !Tryd.prog.wantsStandIn u) = true := by kernel_rfl
        exact (show Tryd.prog.wantsStandIn t = false by simpa using List.all_eq_true.1 hall t hm)⟩)
    (by kernel_rfl)
#print axioms stampHalf_card
end Go.Proofs.YtddjgjaifflpeaaDoor.stampHalfP
