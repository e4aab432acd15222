/- For all times a, b the Go function StampBack returns true. No condition beside the card's own. -/
import Derived.Test.YtddjgjaifflpeaaDoorRound
import Derived.Test.YtddjgjaifflpeaaDoorShell
namespace Go.Proofs.YtddjgjaifflpeaaDoor.stampBackP
open Go.ChangeShapes Go.WideShapes Go.ChangeAt Go.RowKit
set_option linter.unusedVariables false
set_option maxRecDepth 100000


/-- the time that a text tells -/
def told (s : ByteArray) : Nat := num (pad (s.extract 0 (Lib.indexByte s.data.toList 46).toNat)) % 4294967296 * 4294967296 + least (num (pad (s.extract ((Lib.indexByte s.data.toList 46).toNat + 1) s.size)))
theorem ten_digit (n : Nat) : ∀ x ∈ ten n, 48 ≤ x ∧ x ≤ 57 := low_digit n 10
theorem fits_other (a b c : ByteArray) (h : fits a b = true) (hs : b.size = c.size) : fits a c = true := by
  unfold fits at h ⊢
  rw [decide_eq_true_iff] at h ⊢
  rw [← hs]; exact h
theorem pad_ten (n : Nat) : pad (bstr (ten n)) = ten n := by
  unfold pad
  rw [size_bstr, sb_bstr (ten n) (lim_low n 10), show (ten n).length = 10 from length_low n 10]
  rfl
theorem parts (t : Nat) (ht : t < 18446744073709551616) : ∃ i : Nat, ∃ a b : ByteArray, Lib.indexByte (bstr (printed t)).data.toList 46 = (i : Int) ∧ i < (bstr (printed t)).size ∧ (bstr (printed t)).size ≤ 1000 ∧ (bstr (printed t)).extract 0 i = a ∧ (bstr (printed t)).extract (i + 1) (bstr (printed t)).size = b ∧
    fits a b = true ∧ pad a = ten (t / 4294967296) ∧ pad b = ten (t % 4294967296 * 9765625 / 4194304) ∧ num (pad a) % 4294967296 * 4294967296 + least (num (pad b)) = t := by
  obtain ⟨D, hD⟩ : ∃ D, ten (t / 4294967296) = D := ⟨_, rfl⟩
  obtain ⟨E, hE⟩ : ∃ E, ten (t % 4294967296 * 9765625 / 4194304) = E := ⟨_, rfl⟩
  have lD : D.length = 10 := by rw [← hD]; exact length_low _ _
  have lE : E.length = 10 := by rw [← hE]; exact length_low _ _
  have mD : Lim 256 D := by rw [← hD]; exact lim_low _ _
  have hP : printed t = (trim (D.take 9) ++ D.drop 9) ++ 46 :: E := by unfold printed; rw [hD, hE, text_parts]
  have hdig := whole_digit D (by rw [← hD]; exact ten_digit _)
  obtain ⟨p1, p2⟩ := whole_pad D lD mD
  have lt := length_trim (D.take 9)
  rw [List.length_take, lD] at lt
  have ld : (D.drop 9).length = 1 := by rw [List.length_drop, lD]
  have hi := index_bstr (trim (D.take 9) ++ D.drop 9) E hdig
  rw [← hP] at hi
  have hpE : pad (bstr E) = E := by rw [← hE]; exact pad_ten _
  have hsz : (bstr (printed t)).size = (trim (D.take 9) ++ D.drop 9).length + 11 := by rw [size_bstr, hP, List.length_append, List.length_cons, lE]
  have hlen : (trim (D.take 9) ++ D.drop 9).length ≤ 10 := by rw [List.length_append, ld]; omega
  have x1 : (bstr (printed t)).extract 0 (trim (D.take 9) ++ D.drop 9).length = bstr (trim (D.take 9) ++ D.drop 9) := by
    rw [extract_bstr, List.drop_zero, Nat.sub_zero, hP, List.take_left]
  have x2 : (bstr (printed t)).extract ((trim (D.take 9) ++ D.drop 9).length + 1) (bstr (printed t)).size = bstr E := by
    rw [extract_bstr, hsz, hP]
    rw [List.drop_append, List.drop_eq_nil_of_le (Nat.le_succ _), List.nil_append, show (trim (D.take 9) ++ D.drop 9).length + 1 - (trim (D.take 9) ++ D.drop 9).length = 1 by omega]
    rw [List.drop_one, List.tail_cons, List.take_of_length_le (by omega)]
  refine ⟨_, _, _, hi, by omega, by omega, x1, x2, fits_other _ _ _ p2 (by rw [size_bstr, size_bstr, lE]; exact length_low _ _), p1.trans hD.symm, hpE.trans hE.symm, ?_⟩
  rw [p1, hpE, ← hD, ← hE, num_ten _ (by omega), num_ten _ (by omega), least_back _ (by omega)]
  omega
theorem told_printed (t : Nat) (ht : t < 18446744073709551616) : told (bstr (printed t)) = t := by
  obtain ⟨i, a, b, h1, _, _, h2, h3, _, _, _, h4⟩ := parts t ht
  unfold told
  rw [h1, Int.toNat_natCast, h2, h3]
  exact h4
theorem parse_printed (t : Nat) (ht : t < 18446744073709551616) (w : World) : Calls Tryd.prog 31 #[.string (bstr (printed t))] w fun e w' => e = .returned (.tuple #[.int .u64 (t : Int), .int .i64 0]) ∧ Below w.heap.size w w' := by
  obtain ⟨i, a, b, h1, hi, hs, h2, h3, hf, p1, p2, h4⟩ := parts t ht
  have H := scut_hit (bstr (printed t)) i h1 hi hs
  rw [h2, h3] at H
  exact parse_fit _ a b t h4 p1.symm p2.symm H hf w
theorem eq_str (a b : ByteArray) : (a.toList == b.toList) = decide (a = b) := by
  by_cases h : a = b
  · subst h; simp
  · have : a.toList ≠ b.toList := fun e => h (ext_data (by rw [← Lib.toList_data, ← Lib.toList_data, e]))
    rw [decide_eq_false h, beq_eq_false_iff_ne]; exact this
theorem law_any (W : World) (a : Int) (ha : (Lit.int .u64 a).wf = true) (b : Int) (hb : (Lit.int .u64 b).wf = true) : Calls Tryd.prog 8 #[.int .u64 a, .int .u64 b] W (Yes W) := by
  have ba := bounds_u64 ha
  have bb := bounds_u64 hb
  obtain ⟨a, rfl⟩ := Int.eq_ofNat_of_zero_le ba.1
  obtain ⟨b, rfl⟩ := Int.eq_ofNat_of_zero_le bb.1
  have P1 := Lib.hid (fun w => print_any a (by omega) w)
  have P2 := Lib.hid (fun w => print_any b (by omega) w)
  have Q1 := Lib.hid (fun w => parse_printed a (by omega) w)
  have hne : a ≠ b → bstr (printed a) ≠ bstr (printed b) := fun h e => h (by rw [← told_printed a (by omega), e, told_printed b (by omega)])
  by_cases hab : a = b
  · subst hab
    generalize bstr (printed a) = s at *
    clear hne
    go_enter Tryd.func8, Tryd.ntmps8
    go_wp2_with fail
    refine (P1.out _).mono ?_
    rintro e w1 ⟨rfl, b1⟩
    go_wp2_with fail
    refine (Q1.out _).mono ?_
    rintro e w2 ⟨rfl, b2⟩
    have B2 := then_ b1 b2
    go_wp2_with fail
    refine (alive_any _).mono ?_
    rintro e w3 ⟨rfl, b3⟩
    have B3 := then_ B2 b3
    go_wp2_with fail
    refine (P1.out _).mono ?_
    rintro e w4 ⟨rfl, b4⟩
    have B4 := then_ B3 b4
    go_wp2_with fail
    refine (P1.out _).mono ?_
    rintro e w5 ⟨rfl, b5⟩
    have B5 := then_ B4 b5
    go_wp2_with fail
    go_ret
    exact ⟨rfl, B5⟩
  · have hs := eq_str (bstr (printed a)) (bstr (printed b))
    rw [decide_eq_false (hne hab)] at hs
    generalize bstr (printed a) = s at *
    generalize bstr (printed b) = r at *
    have hab' : ((a : Int) == (b : Int)) = false := by rw [beq_eq_false_iff_ne]; omega
    clear hne hab
    go_enter Tryd.func8, Tryd.ntmps8
    go_wp2_with fail
    refine (P1.out _).mono ?_
    rintro e w1 ⟨rfl, b1⟩
    go_wp2_with fail
    refine (Q1.out _).mono ?_
    rintro e w2 ⟨rfl, b2⟩
    have B2 := then_ b1 b2
    go_wp2_with fail
    refine (alive_any _).mono ?_
    rintro e w3 ⟨rfl, b3⟩
    have B3 := then_ B2 b3
    go_wp2_with fail
    refine (P1.out _).mono ?_
    rintro e w4 ⟨rfl, b4⟩
    have B4 := then_ B3 b4
    go_wp2_with fail
    refine (P2.out _).mono ?_
    rintro e w5 ⟨rfl, b5⟩
    have B5 := then_ B4 b5
    go_wp2_with fail
    go_ret
    exact ⟨rfl, B5⟩

set_option maxRecDepth 100000 in
theorem lifted (os : Os) (started : os.Started) (H : Type) (enc : TypeId × Value → H) :
    ReturnsInHanded {} Tryd.checked os 8 .any (fun w args => (Rows.stampBackSpec.pre enc Tryd.prog Tryd.f8 [] false w args ∧ laidMetH Tryd.prog [("unicode/utf8.acceptRanges", Rows.laid_unicode_utf8_acceptRanges), ("unicode/utf8.first", Rows.laid_unicode_utf8_first)] w) ∧ sizedMet enc Tryd.prog Tryd.f8 (OpenSpec.ofChange Rows.stampBackSpec) false w args)
      (Rows.stampBackSpec.post enc Tryd.prog Tryd.f8 false true false false) := by
  refine returnsInHanded_of_change_and (C := Tryd.checked) (X := fun w _ => laidMetH Tryd.prog [("unicode/utf8.acceptRanges", Rows.laid_unicode_utf8_acceptRanges), ("unicode/utf8.first", Rows.laid_unicode_utf8_first)] w) (fun _ _ _ hh h => h.of_heap hh) own started (by kernel_rfl) Tryd.func8
    (ChangeSpec.witness_shaped (enc := enc) (C := Tryd.checked) (os := os) (X := fun w _ => laidMetH Tryd.prog [("unicode/utf8.acceptRanges", Rows.laid_unicode_utf8_acceptRanges), ("unicode/utf8.first", Rows.laid_unicode_utf8_first)] w) false (World.laidAll Tryd.prog os [("unicode/utf8.acceptRanges", Rows.laid_unicode_utf8_acceptRanges), ("unicode/utf8.first", Rows.laid_unicode_utf8_first)]) #[.int .u64 0, .int .u64 0] 8 (World.laidAll_os _ _ _)
      (World.shaped_of_ZipB (by kernel_rfl) (by kernel_rfl)) (by kernel_rfl) (by kernel_rfl) (by kernel_rfl)
      (by rw [MakeChecks.laidMetH_plain _ _ _ (by kernel_rfl)]; exact laidMet_laidAll _ (by kernel_rfl) (by kernel_rfl))) ?_
  intro W base args ds gs before hval0 hW _ hsz0 hL _
  have hval : ∀ (j : Nat) t v, Tryd.f8.params[j]? = some t → args[j]? = some v → Value.okWide Tryd.prog W .any base t v := hval0
  have hW' := hW
  obtain ⟨p, q, hA0, hV, rfl, hfz, hnd⟩ := hW
  have hA : DataW.TrodAll enc Tryd.prog W 0 (fun _ => true) true Tryd.f8.params.toList args.toList ds p := hA0
  rw [Tryd.params8] at hA hval
  obtain ⟨v0, vs0, d0, ds0, p0, q0, hargs, rfl, rfl, h0, r0⟩ := trodAll_cons hA
  obtain ⟨v1, vs1, d1, ds1, p1, q1, rfl, rfl, rfl, h1, r1⟩ := trodAll_cons r0
  obtain ⟨rfl, rfl, rfl⟩ := trodAll_nil r1
  obtain rfl : args = #[v0, v1] := by cases args; simp_all
  obtain ⟨rfl, rfl⟩ := trodVars_none hV
  obtain ⟨a0, rfl, rfl, rfl, w0⟩ := open_int Tryd.underlying22 (hval 0 22 v0 rfl rfl) h0
  obtain ⟨a1, rfl, rfl, rfl, w1⟩ := open_int Tryd.underlying22 (hval 1 22 v1 rfl rfl) h1
  clear hA0 hval0
  refine (law_any W a0 w0 a1 w1).mono fun e W' ⟨he, bel⟩ => ?_
  subst he
  exact ⟨_, rfl, _, _, _, [], _, [], hW', trodAll_mk1 (shut_bool Tryd.underlying4 _), (trodAll_cons_mk (shut_int Tryd.underlying22 w0) (trodAll_cons_mk (shut_int Tryd.underlying22 w1) trodAll_mk0)), rfl, bel.frame _, fun h => by cases h⟩

theorem stampBack_holds : Rows.StampBackSaid :=
  OpenClaim.holds_of_wide 8 Tryd.f8 rfl rfl rfl rfl rfl rfl rfl ⟨rfl, rfl, rfl, rfl, rfl⟩ rfl rfl rfl rfl rfl (by kernel_rfl) Tryd.func8 (by kernel_rfl)
    (of_decide_eq_true (by kernel_rfl)) (by unfold Func.isWrapper; first | (rw [if_pos (by decide +kernel)]; kernel_rfl) | (rw [if_neg (by decide +kernel)]; exact ⟨rfl, rfl⟩))
    (fun os started H enc _ => lifted os started H enc)
theorem stampBack_card : Rows.StampBackCardSaid :=
  Claim7.holds_tied_plain_at .later [] [.data, .pinned] true (true, "6b94bb4742ae0106a2b1367ef2dfc38cb6b687bfd648a7bde03eedb5474f98f7") false
    stampBack_holds (fun _ h => by cases h) (by kernel_rfl) (fun _ h => by cases h) stampBack_row_tie rfl ⟨rfl, rfl⟩ (by kernel_rfl) rfl
    (fun f fn hf hfn => by
      obtain rfl : f = 8 := Option.some.inj ((show Tryd.prog.funcNamed "clepsydra/clepsydralaw04.StampBack" = some 8 by kernel_rfl).symm.trans hf) |>.symm
      obtain rfl : fn = Tryd.f8 := (Option.some.inj (Tryd.func8.symm.trans hfn)).symm
      exact ⟨by kernel_rfl, fun j t ht => by
        rw [Tryd.params8] at ht
        have hm : t ∈ [22, 22] := by simpa using Array.mem_of_getElem? ht
        have hall : ([22, 22].all fun u => !Tryd.prog.wantsStandIn u) = true := by kernel_rfl
        exact (show Tryd.prog.wantsStandIn t = false by simpa using List.all_eq_true.1 hall t hm)⟩)
    (by kernel_rfl)
#print axioms stampBack_card
end Go.Proofs.YtddjgjaifflpeaaDoor.stampBackP
