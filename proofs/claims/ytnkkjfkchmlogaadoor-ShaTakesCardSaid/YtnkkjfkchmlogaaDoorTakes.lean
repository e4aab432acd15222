/- For every row of rows of bytes and every row of numbers the Go function ShaTakes returns true and leaves its arguments as they were. No condition beside the card's own (the constants are laid as the text lays them). -/
import Derived.Test.YtnkkjfkchmlogaaDoorLists
import Derived.Test.YtnkkjfkchmlogaaDoorText2
import Derived.Test.YtnkkjfkchmlogaaDoorExpand
import Derived.Test.YtnkkjfkchmlogaaDoorRef5
import Derived.Test.YtnkkjfkchmlogaaDoorShell
namespace Go.Proofs.YtnkkjfkchmlogaaDoor.shaTakesP
open Go.ChangeShapes Go.WideShapes Go.ChangeAt Go.RowKit
set_option linter.unusedVariables false
set_option maxRecDepth 100000


theorem eqIn_arr (D : List Nat) (hD : D.length = 32) (W : World) : (Op.equalIn 10000 26 (.agg (bs D).toArray) (.agg (bs D).toArray)).run Tryd.prog W = .ok true W := by
  have h := eq_arr D hD W
  rw [run_eql_struct] at h
  cases hq : (Op.equalIn 10000 26 (Value.agg (bs D).toArray) (Value.agg (bs D).toArray)).run Tryd.prog W with
  | ok b w' =>
    rw [hq] at h
    simp only [Result.andThen, Result.ok.injEq, Value.bool.injEq] at h
    rw [h.1, h.2]
  | halt e w' => rw [hq] at h; simp [Result.andThen] at h
set_option maxHeartbeats 4000000 in
theorem law_any {W : World} (hk : Ks W) {A A2 : Option Addr} {n c n2 c2 : Nat} {xs : List (List Nat)} {zs : List Int} (hx : Rb W W.heap.size A n c xs) (hz : Ib W W.heap.size A2 n2 c2 zs) :
    Calls Tryd.prog 5 #[.slice A n c, .slice A2 n2 c2] W (Yes W) := by
  have hsz := hk.size
  have hr := hx.room
  have hc := hx.cap
  have hr2 := hz.room
  have hc2 := hz.cap
  go_enter Tryd.func5, Tryd.ntmps5
  go_wp2_with fail
  refine (new_any W).mono ?_
  rintro e w1 ⟨rfl, k1, b1⟩
  go_wp2_with fail
  go_loopw [5, 7] (fun v i wr => ∃ k : Nat, k ≤ n ∧ k ≤ 12 ∧ i = .int .i64 k ∧ ∃ (T : List Nat) (L lo : Nat) (A : Option Addr) (c : Nat), L ≤ 400 ∧ v = .slice A L c ∧ HashAt wr lo W.heap.size T ∧ Gb wr (W.heap.size + 1) A L c T ∧ Below W.heap.size W wr) (fun _ i _ => 12 - (intOf i).toNat)
  case atStart => exact ⟨0, by omega, by omega, rfl, [], 0, _, none, 0, by omega, rfl, k1, Gb.nil _ _, b1⟩
  case round =>
    clear k1 b1
    obtain ⟨k, hk1, hk12, rfl, T, L, lo, A5, c5, hL, rfl, hH, hG, hB⟩ := hrel
    have hTL : T.length = L := hG.1
    have hs := hB.size
    by_cases hin : k < n ∧ k < 12
    · obtain ⟨hin1, hin2⟩ := hin
      obtain ⟨b, off, A1, m, c1, rfl, hlt, hcell0, hy, hm⟩ := hx.at_ hin1
      generalize hY : xs.getD k [] = Y at *
      have HC := Lib.hid hcell0
      have hcell := (hB.cell (p := ⟨b, off + k, none⟩) hlt).trans hcell0
      clear hcell0
      have hyr := hy.room
      have hyc := hy.cap
      by_cases big : 400 < L + m
      · go_wp2_with fail
        refine (alive_any (hk.below hB hsz)).mono ?_
        rintro e w2 ⟨rfl, b2⟩
        go_wp2_with fail
        go_ret
        exact ⟨rfl, then_ hB b2⟩
      · go_wp2_with fail
        have hd12 : decide ((k : Int) < 12) = true := by simp; omega
        simp only [hd12]
        go_loopw [5, 8] (fun v i wi => ∃ j : Nat, j ≤ n2 ∧ i = .int .i64 j ∧ ∃ (T : List Nat) (L lo : Nat) (A : Option Addr) (c : Nat), L + m ≤ 400 ∧ v = .slice A L c ∧ HashAt wi lo W.heap.size T ∧ Gb wi (W.heap.size + 1) A L c T ∧ Below W.heap.size W wi) (fun _ i _ => n2 - (intOf i).toNat)
        case atStart => exact ⟨0, by omega, rfl, T, L, lo, A5, c5, by omega, rfl, hH, hG, hB⟩
        case round =>
          clear hcell hG hH hB hs hL hTL
          obtain ⟨j, hj, rfl, T1, L1, lo1, A6, c6, hL, rfl, hH, hG, hB⟩ := hrel
          have hs := hB.size
          by_cases hj2 : j < n2
          · obtain ⟨b2, off2, rfl, hlt2, hcell2⟩ := (hz.below hB).at_ hj2
            have hlim := hz.lim (zs.getD j 0) (by
              have : j < zs.length := by rw [hz.len]; exact hj2
              simp [List.getD, List.getElem?_eq_getElem this])
            generalize hZ : zs.getD j 0 = z at *
            by_cases hzk : z = (k : Int)
            · subst hzk
              go_wp2_with fail
              refine (reset_any hH).mono ?_
              rintro e w3 ⟨rfl, k3, q3⟩
              go_wp2_with fail
              go_roundw
              case rel => exact ⟨j + 1, by omega, by go_num, [], 0, lo1, none, 0, by omega, rfl, k3, Gb.nil _ _, below_write hB q3 (Nat.le_refl _) (Nat.le_refl _)⟩
              case measure => simp [intOf]; omega
            · go_wp2_with fail
              go_roundw
              case rel => exact ⟨j + 1, by omega, by go_num, T1, L1, lo1, A6, c6, by omega, rfl, hH, hG, hB⟩
              case measure => simp [intOf]; omega
          · obtain rfl : j = n2 := by omega
            have hcell := (hB.cell (p := ⟨b, off + k, none⟩) hlt).trans HC.out
            have hT1 : T1.length = L1 := hG.1
            go_wp2_with fail
            have hjn := join_any (hy.far hB) (Nb.nil wr wr.heap.size 0 (by omega) none) (by omega)
            simp only [Nat.add_zero, List.append_nil] at hjn
            refine hjn.mono ?_
            clear hjn hcell
            rintro e w3 ⟨A7, c7, rfl, g7, b7⟩
            have B3 := then_ hB b7
            have hs3 := b7.size
            have hH3 := hH.below b7
            have hG3 := hG.below b7
            have hglt := hH.lt
            have g7nb := g7.nb hy.lim
            clear hH
            go_wp2_with fail
            refine (write_any (hk.below B3 hsz) hH3 g7nb (by omega) hsz).mono ?_
            rintro e w4 ⟨rfl, k4, q4⟩
            have B4 := below_write B3 q4 (Nat.le_refl _) (Nat.le_refl _)
            have hG4 := hG3.kept q4 (fun q e h => by cases e; have := hG3.at_block _ h; omega)
            have g74 := g7.kept q4 (fun q e h => by cases e; have := g7.at_block _ h; omega)
            have hq := hG.at_block
            have hp := g7.at_block
            have hs4 := q4.size
            clear hG3 g7 hH3 g7nb q4 hG
            go_wp2_with fail
            go_loopw [10] (fun i wi => ∃ j : Nat, j ≤ m ∧ i = .int .i64 j ∧ HashAt wi w3.heap.size W.heap.size (T1 ++ Y) ∧ Gb wi (W.heap.size + 1) A6 L1 c6 T1 ∧ (∃ P, Gb wi wr.heap.size A7 m c7 P) ∧ Below W.heap.size W wi) (fun i _ => m - (intOf i).toNat)
            case atStart => exact ⟨0, by omega, rfl, k4, hG4, ⟨_, g74⟩, B4⟩
            case round =>
              clear k4 hG4 g74 B4 hs4
              obtain ⟨i, hi, rfl, hH, hG, ⟨P, hP⟩, hB4⟩ := hrel
              by_cases him : i < m
              · have hPl : P.length = m := hP.1
                rcases hP.2.2 with ⟨_, h0⟩ | ⟨p, cap, cur, e, hpb, _⟩
                · omega
                cases e
                have hpp := hp p rfl
                have hcl := hP.2.cellAt i (by omega)
                rw [show (bs P)[i]? = some (.int .u8 ((P.getD i 0 : Nat) : Int)) by
                  simp [bs, List.getD, List.getElem?_eq_getElem (show i < P.length by omega)]] at hcl
                have hfz := hP.2.frozenAt i
                have hst := hP.2.stored i (.int .u8 ((99 : Nat) : Int))
                generalize P.getD i 0 = y at *
                have hH' := hH.grown hst.2 (fun q e => by cases e; omega)
                have hG' := hG.kept hst.2 (fun q e h => by cases e; have := hq _ h; omega)
                have hP' := gb_set hPl hst.1
                have hB' := below_write hB4 hst.2 (by omega) (Nat.le_refl _)
                clear hst hH hG hP
                go_wp2_with fail
                go_roundw
                case rel => exact ⟨i + 1, by omega, by go_num, hH', hG', ⟨_, hP'⟩, hB'⟩
                case measure => simp [intOf]; omega
              · obtain rfl : i = m := by omega
                have hcell := (hB4.cell (p := ⟨b, off + k, none⟩) hlt).trans HC.out
                have hyw := hy.far hB4
                have hs4 := hB4.size
                have hHlt := hH.lt
                obtain ⟨D, hD⟩ : ∃ D, sha (T1 ++ Y) = D := ⟨_, rfl⟩
                have HD := Lib.hid hD
                have heq := eq_arr D (by rw [← hD, length_sha])
                have hneq := eqIn_arr D (by rw [← hD, length_sha])
                have hlimT := hH.lim
                clear hP hD
                by_cases h3 : (k : Int) % 3 = 0
                · go_wp2_with (refine wpList_app_row_g _ rfl (.tmp 67) (.tmp 71) rfl rfl hG rfl hyw (by omega) (by omega) ?_; intro A8 c8 w8 hG8 q8)
                  have hH8 := hH.grown q8 (fun q e => by have := hq q e; omega)
                  have hB8 := hB4.grown q8 hs4 (fun q e => by have := hq q e; omega)
                  clear hH hG hB4 q8
                  have hsm := sumOf_any (hk.below hB8 hsz) hH8
                  rw [HD.out] at hsm
                  refine hsm.mono ?_
                  clear hsm
                  rintro e w9 ⟨rfl, b9⟩
                  have hH9 := hH8.below b9
                  have hG9 := hG8.below b9
                  have hB9 := then_ hB8 b9
                  clear hH8 hG8 hB8 b9
                  go_wp2_with fail
                  have hsm := rsum_any (hG9.nb hlimT) (by omega)
                  rw [HD.out] at hsm
                  refine hsm.mono ?_
                  clear hsm
                  rintro e w10 ⟨rfl, b10⟩
                  have hH10 := hH9.below b10
                  have hG10 := hG9.below b10
                  have hB10 := then_ hB9 b10
                  clear hH9 hG9 hB9 b10
                  go_wp2_with fail
                  go_roundw
                  case rel => exact ⟨k + 1, by omega, by omega, by go_num, T1 ++ Y, _, _, A8, c8, by omega, rfl, hH10, hG10, hB10⟩
                  case measure => simp [intOf]; omega
                · go_wp2_with (refine wpList_app_row_g _ rfl (.tmp 67) (.tmp 71) rfl rfl hG rfl hyw (by omega) (by omega) ?_; intro A8 c8 w8 hG8 q8)
                  have hH8 := hH.grown q8 (fun q e => by have := hq q e; omega)
                  have hB8 := hB4.grown q8 hs4 (fun q e => by have := hq q e; omega)
                  clear hH hG hB4 q8
                  go_roundw
                  case rel => exact ⟨k + 1, by omega, by omega, by go_num, T1 ++ Y, _, _, A8, c8, by omega, rfl, hH8, hG8, hB8⟩
                  case measure => simp [intOf]; omega
    · obtain ⟨D, hD⟩ : ∃ D, sha T = D := ⟨_, rfl⟩
      have HD := Lib.hid hD
      have heq := eq_arr D (by rw [← hD, length_sha])
      have hlimT := hH.lim
      clear hD
      subst hTL
      by_cases hkn : k < n
      · obtain rfl : k = 12 := by omega
        go_wp2_with fail
        refine (alive_any (hk.below hB hsz)).mono ?_
        rintro e w2 ⟨rfl, b2⟩
        have hH2 := hH.below b2
        have hG2 := hG.below b2
        have hB2 := then_ hB b2
        clear hH hG hB b2
        go_wp2_with fail
        have hsm := sumOf_any (hk.below hB2 hsz) hH2
        rw [HD.out] at hsm
        refine hsm.mono ?_
        clear hsm
        rintro e w9 ⟨rfl, b9⟩
        have hH9 := hH2.below b9
        have hG9 := hG2.below b9
        have hB9 := then_ hB2 b9
        clear hH2 hG2 hB2 b9
        go_wp2_with fail
        have hsm := rsum_any (hG9.nb hlimT) (by omega)
        rw [HD.out] at hsm
        refine hsm.mono ?_
        clear hsm
        rintro e w10 ⟨rfl, b10⟩
        have hH10 := hH9.below b10
        have hB10 := then_ hB9 b10
        clear hH9 hG9 hB9 b10
        go_wp2_with fail
        refine (len_any hH10).mono ?_
        rintro e w' ⟨rfl, rfl⟩
        go_wp2_with fail
        go_ret
        exact ⟨rfl, hB10⟩
      · obtain rfl : k = n := by omega
        go_wp2_with fail
        refine (alive_any (hk.below hB hsz)).mono ?_
        rintro e w2 ⟨rfl, b2⟩
        have hH2 := hH.below b2
        have hG2 := hG.below b2
        have hB2 := then_ hB b2
        clear hH hG hB b2
        go_wp2_with fail
        have hsm := sumOf_any (hk.below hB2 hsz) hH2
        rw [HD.out] at hsm
        refine hsm.mono ?_
        clear hsm
        rintro e w9 ⟨rfl, b9⟩
        have hH9 := hH2.below b9
        have hG9 := hG2.below b9
        have hB9 := then_ hB2 b9
        clear hH2 hG2 hB2 b9
        go_wp2_with fail
        have hsm := rsum_any (hG9.nb hlimT) (by omega)
        rw [HD.out] at hsm
        refine hsm.mono ?_
        clear hsm
        rintro e w10 ⟨rfl, b10⟩
        have hH10 := hH9.below b10
        have hB10 := then_ hB9 b10
        clear hH9 hG9 hB9 b10
        go_wp2_with fail
        refine (len_any hH10).mono ?_
        rintro e w' ⟨rfl, rfl⟩
        go_wp2_with fail
        go_ret
        exact ⟨rfl, hB10⟩

set_option maxRecDepth 100000 in
theorem door_met (os : Os) (args : Array Value) : laidMetH Tryd.prog [("clepsydra/sha.constants", Rows.laid_clepsydra_sha_constants)] ((World.doorLaid Tryd.prog 4000 os).forCall (fun _ _ => 0) ⟨#[], args, []⟩).memory :=
  laidMetH_of_parts3 (fuel := 8) (laidMet_of_run' 8 (by kernel_rfl) (by kernel_rfl)) (by kernel_rfl) (by kernel_rfl)
set_option maxRecDepth 100000 in
theorem lifted (os : Os) (started : os.Started) (H : Type) (enc : TypeId × Value → H) :
    ReturnsInHanded {} Tryd.checked os 5 .any (fun w args => (Rows.shaTakesSpec.pre enc Tryd.prog Tryd.f5 [] false w args ∧ laidMetH Tryd.prog [("clepsydra/sha.constants", Rows.laid_clepsydra_sha_constants)] w) ∧ sizedMet enc Tryd.prog Tryd.f5 (OpenSpec.ofChange Rows.shaTakesSpec) false w args)
      (Rows.shaTakesSpec.post enc Tryd.prog Tryd.f5 false true false false) := by
  refine returnsInHanded_of_change_and (C := Tryd.checked) (X := fun w _ => laidMetH Tryd.prog [("clepsydra/sha.constants", Rows.laid_clepsydra_sha_constants)] w) (fun _ _ _ hh h => h.of_heap hh) own started (by kernel_rfl) Tryd.func5
    (ChangeSpec.witness_shaped (enc := enc) (C := Tryd.checked) (os := os) (X := fun w _ => laidMetH Tryd.prog [("clepsydra/sha.constants", Rows.laid_clepsydra_sha_constants)] w) false (World.doorLaid Tryd.prog 4000 os) #[.slice none 0 0, .slice none 0 0] 8 rfl (World.shaped_of_RefB (by kernel_rfl) (by kernel_rfl)) (by kernel_rfl) (by kernel_rfl) (by kernel_rfl) (door_met os _)) ?_
  intro W base args ds gs before hval0 hW _ hsz0 hL _
  have hsz : (DataW.weightsEach Tryd.prog (Tryd.f5.params.toList ++ Rows.shaTakesSpec.plain.varTypes Tryd.prog) (ds ++ gs)).all (· ≤ reachBytes) = true := hsz0
  have hval : ∀ (j : Nat) t v, Tryd.f5.params[j]? = some t → args[j]? = some v → Value.okWide Tryd.prog W .any base t v := hval0
  have hW' := hW
  obtain ⟨p, q, hA0, hV, rfl, hfz, hnd⟩ := hW
  have hA : DataW.TrodAll enc Tryd.prog W 0 (fun _ => true) true Tryd.f5.params.toList args.toList ds p := hA0
  rw [Tryd.params5] at hA hval hsz
  obtain ⟨v0, vs0, d0, ds0, p0, q0, hargs, rfl, rfl, h0, r0⟩ := trodAll_cons hA
  obtain ⟨v1, vs1, d1, ds1, p1, q1, rfl, rfl, rfl, h1, r1⟩ := trodAll_cons r0
  obtain ⟨rfl, rfl, rfl⟩ := trodAll_nil r1
  obtain rfl : args = #[v0, v1] := by cases args; simp_all
  obtain ⟨rfl, rfl⟩ := trodVars_none hV
  obtain ⟨a0, len0, cap0, rfl⟩ := okWide_slice Tryd.underlying33 (hval 0 33 v0 rfl rfl)
  have k0 := h0
  have lt0 : ∀ x ∈ p0, x.block < W.heap.size := by obtain ⟨m, hm⟩ := k0; exact DataW.trod_lt m _ _ _ hm
  obtain ⟨z0, w0⟩ : ∃ zs, Rb W W.heap.size a0 len0 cap0 zs := by
    obtain ⟨fuel, hf⟩ := h0
    exact rb_of_rows hf (fun n hn => by have := List.all_eq_true.1 hsz _ (DataW.weights_mem_each (j := 0) (t := 33) (d := d0) rfl rfl n hn); simpa using this)
  obtain ⟨a1, len1, cap1, rfl⟩ := okWide_slice Tryd.underlying34 (hval 1 34 v1 rfl rfl)
  have k1 := h1
  have lt1 : ∀ x ∈ p1, x.block < W.heap.size := by obtain ⟨m, hm⟩ := k1; exact DataW.trod_lt m _ _ _ hm
  obtain ⟨z1, w1⟩ : ∃ zs, Ib W W.heap.size a1 len1 cap1 zs := by
    obtain ⟨fuel, hf⟩ := h1
    exact ib_of_row hf
  clear hA0 hval0
  refine (law_any (of_laid hL) w0 w1).mono fun e W' ⟨he, bel⟩ => ?_
  subst he
  exact ⟨_, rfl, _, _, _, [], _, [], hW', trodAll_mk1 (shut_bool Tryd.underlying4 _), (trodAll_cons_mk (Below.trod laidOut (by kernel_rfl) (of_decide_eq_true (by kernel_rfl)) k0 bel lt0) (trodAll_cons_mk (Below.trod laidOut (by kernel_rfl) (of_decide_eq_true (by kernel_rfl)) k1 bel lt1) trodAll_mk0)), rfl, bel.frame _, fun h => by cases h⟩

theorem shaTakes_holds : Rows.ShaTakesSaid :=
  OpenClaim.holds_of_wide 5 Tryd.f5 rfl rfl rfl rfl rfl rfl rfl ⟨rfl, rfl, rfl, rfl, rfl⟩ rfl rfl rfl rfl rfl (by kernel_rfl) Tryd.func5 (by kernel_rfl)
    (of_decide_eq_true (by kernel_rfl)) (by unfold Func.isWrapper; first | (rw [if_pos (by decide +kernel)]; kernel_rfl) | (rw [if_neg (by decide +kernel)]; exact ⟨rfl, rfl⟩))
    (fun os started H enc _ => lifted os started H enc)
theorem shaTakes_card : Rows.ShaTakesCardSaid :=
  Claim7.holds_tied_plain_at .later [] [.data] true (true, "756ddd86ea3c962c140c4e725a86db090a64aa718640d7001e1255f4caa8afae") false
    shaTakes_holds (fun _ h => by cases h) (by kernel_rfl) (fun _ h => by cases h) shaTakes_row_tie rfl ⟨rfl, rfl⟩ (by kernel_rfl) rfl
    (fun f fn hf hfn => by
      obtain rfl : f = 5 := Option.some.inj ((show Tryd.prog.funcNamed "clepsydra/clepsydralaw02.ShaTakes" = some 5 by kernel_rfl).symm.trans hf) |>.symm
      obtain rfl : fn = Tryd.f5 := (Option.some.inj (Tryd.func5.symm.trans hfn)).symm
      exact ⟨by kernel_rfl, fun j t ht => by
        rw [Tryd.params5] at ht
        have hm : t ∈ [33, 34] := by simpa using Array.mem_of_getElem? ht
        have hall : ([33, 34].all fun u => !Tryd.prog.wantsStandIn u) = true := by kernel_rfl
        exact (show Tryd.prog.wantsStandIn t = false by simpa using List.all_eq_true.1 hall t hm)⟩)
    (by kernel_rfl)
#print axioms shaTakes_card
end Go.Proofs.YtnkkjfkchmlogaaDoor.shaTakesP
