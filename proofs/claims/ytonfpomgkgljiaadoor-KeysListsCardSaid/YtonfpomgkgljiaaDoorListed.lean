/- For every four uint32, every int, uint32 and int the Go function KeysLists returns true and leaves its arguments as they were. No condition beside the card's own (the constants are laid as the text lays them). -/
import Derived.Test.YtonfpomgkgljiaaDoorK9
import Derived.Deep.RegionHeld3
namespace Go.Proofs.YtonfpomgkgljiaaDoor.keysListsP
open Go.ChangeShapes Go.WideShapes Go.ChangeAt Go.RowKit
set_option linter.unusedVariables false
set_option maxRecDepth 100000


theorem u32_nat {a : Int} (w : (Lit.int .u32 a).wf = true) : ∃ y : Nat, a = (y : Int) ∧ y < 4294967296 := by
  simp [Lit.wf, IntKind.min, IntKind.max, IntKind.signed, IntKind.bits] at w
  exact ⟨a.toNat, by omega, by omega⟩
theorem i64_lim {a : Int} (w : (Lit.int .i64 a).wf = true) : -9223372036854775808 ≤ a ∧ a ≤ 9223372036854775807 := by
  simp [Lit.wf, IntKind.min, IntKind.max, IntKind.signed, IntKind.bits] at w
  omega

/-- what List gives -/
structure ListIs (L : Nat) (xs : List Nat) (E : Int) (w : World) (e : Ending) (w' : World) (A' : Option Addr) (c' : Nat) : Prop where
  ret : e = .returned (.tuple #[.slice A' L c', .int .i64 E])
  row : Nw w' w'.heap.size A' L c' xs
  bel : Below w.heap.size w w'
theorem lists_both (a b c d : Nat) (ha : a < 4294967296) (hb : b < 4294967296) (hc : c < 4294967296) (hd : d < 4294967296) (n : Int) (hn : n ≤ 12 ∨ 256 < n) :
    ∃ (L : Nat) (xs : List Nat) (E : Int), (∀ w, Ks w → Calls Tryd.prog 18 #[.int .u32 (a : Int), .int .u32 (b : Int), .int .u32 (c : Int), .int .u32 (d : Int), .int .i64 n] w fun e w' => ∃ A' c', ListIs L xs E w e w' A' c') ∧ (∀ w, Calls Tryd.prog 19 #[.int .u32 (a : Int), .int .u32 (b : Int), .int .u32 (c : Int), .int .u32 (d : Int), .int .i64 n] w fun e w' => ∃ A' c', ListIs L xs E w e w' A' c') := by
  by_cases h : n < 1 ∨ 256 < n
  · refine ⟨0, [], 1, fun w _ => (list_out a b c d n h w).mono ?_, fun w => (rlist_out a b c d n h w).mono ?_⟩
    all_goals (rintro e w' ⟨rfl, rfl⟩; exact ⟨none, 0, rfl, ⟨rfl, Nat.le_refl _, Nat.zero_le _, (fun x hx => by cases hx), fun h => absurd h (Nat.lt_irrefl _)⟩, Below.refl _ _⟩)
  · obtain ⟨n, rfl⟩ := Int.eq_ofNat_of_zero_le (show 0 ≤ n by omega)
    refine ⟨n, lst a b d c n, 0, fun w k => (list_any k a b c d n ha hb hc hd (by omega) (by omega)).mono ?_, fun w => (rlist_any a b c d n ha hb hc hd (by omega) (by omega)).mono ?_⟩
    all_goals (rintro e w' ⟨A', c', rfl, h1, h2⟩; exact ⟨A', c', rfl, h1, h2⟩)
theorem hops_both (a b c d l : Nat) (ha : a < 4294967296) (hb : b < 4294967296) (hc : c < 4294967296) (hd : d < 4294967296) (m : Int) (hm : m ≤ 12 ∨ 256 < m) :
    ∃ (H E : Int), (∀ w, Ks w → Calls Tryd.prog 20 #[.int .u32 (a : Int), .int .u32 (b : Int), .int .u32 (c : Int), .int .u32 (d : Int), .int .u32 (l : Int), .int .i64 m] w fun e w' => e = .returned (.tuple #[.int .i64 H, .int .i64 E]) ∧ Below w.heap.size w w') ∧ (∀ w, Calls Tryd.prog 21 #[.int .u32 (a : Int), .int .u32 (b : Int), .int .u32 (c : Int), .int .u32 (d : Int), .int .u32 (l : Int), .int .i64 m] w fun e w' => e = .returned (.tuple #[.int .i64 H, .int .i64 E]) ∧ Below w.heap.size w w') := by
  by_cases h : m < 0 ∨ 256 < m
  · refine ⟨0, 1, fun w _ => hops_out a b c d l m h w, fun w => (rhops_out a b c d l m h w).mono ?_⟩
    rintro e w' ⟨rfl, rfl⟩
    exact ⟨rfl, Below.refl _ _⟩
  · obtain ⟨m, rfl⟩ := Int.eq_ofNat_of_zero_le (show 0 ≤ m by omega)
    obtain ⟨H, E, hHE⟩ : ∃ H E : Int, HopIs a b d c l m (.returned (.tuple #[.int .i64 H, .int .i64 E])) := by
      by_cases hex : ∃ k, k ≤ m ∧ hop a b d c k = l
      · have hne : ∃ k, k ≤ m ∧ hop a b d c k = l ∧ ∀ j, j < k → hop a b d c j ≠ l := by
          obtain ⟨k, hk, hkl⟩ := hex
          induction k using Nat.strongRecOn with
          | _ k ih =>
            by_cases h2 : ∃ j, j < k ∧ hop a b d c j = l
            · obtain ⟨j, hj, hjl⟩ := h2
              exact ih j hj (by omega) hjl
            · exact ⟨k, hk, hkl, fun j hj he => h2 ⟨j, hj, he⟩⟩
        obtain ⟨k, h1, h2, h3⟩ := hne
        exact ⟨k, 0, Or.inl ⟨k, h1, h3, h2, rfl⟩⟩
      · exact ⟨0, 110, Or.inr ⟨fun j hj he => hex ⟨j, hj, he⟩, rfl⟩⟩
    refine ⟨H, E, fun w k => (hops_any k a b c d l m ha hb hc hd (by omega)).mono ?_, fun w => (rhops_any (w := w) a b c d l m ha hb hc hd (by omega)).mono ?_⟩
    all_goals (rintro e w' ⟨h1, h2⟩; exact ⟨h1.one hHE, h2⟩)
set_option maxHeartbeats 4000000 in
theorem law_any {W : World} (hk : Ks W) (a : Nat) (ha : a < 4294967296) (b : Nat) (hb : b < 4294967296) (c : Nat) (hc : c < 4294967296) (d : Nat) (hd : d < 4294967296) (n : Int) (wn : (Lit.int .i64 n).wf = true) (l : Nat) (hl : l < 4294967296) (m : Int) (wm : (Lit.int .i64 m).wf = true) :
    Calls Tryd.prog 4 #[.int .u32 (a : Int), .int .u32 (b : Int), .int .u32 (c : Int), .int .u32 (d : Int), .int .i64 n, .int .u32 (l : Int), .int .i64 m] W (Yes W) := by
  have hsz := hk.size
  have ln := i64_lim wn
  have lm := i64_lim wm
  clear wn wm
  by_cases y0 : 12 < n ∧ n ≤ 256
  · obtain ⟨y0, y1⟩ := y0
    go_enter Tryd.func4, Tryd.ntmps4
    go_wp2_with fail
    refine (alive_any hk).mono ?_
    rintro e w1 ⟨rfl, b1⟩
    go_wp2_with fail
    go_ret
    exact ⟨rfl, b1⟩
  have hn : n ≤ 12 ∨ 256 < n := by omega
  by_cases y1 : 12 < m ∧ m ≤ 256
  · obtain ⟨y1, y2⟩ := y1
    rcases hn with hn | hn
    · go_enter Tryd.func4, Tryd.ntmps4
      go_wp2_with fail
      refine (alive_any hk).mono ?_
      rintro e w1 ⟨rfl, b1⟩
      go_wp2_with fail
      go_ret
      exact ⟨rfl, b1⟩
    · have hn2 : 12 < n := by omega
      go_enter Tryd.func4, Tryd.ntmps4
      go_wp2_with fail
      refine (alive_any hk).mono ?_
      rintro e w1 ⟨rfl, b1⟩
      go_wp2_with fail
      go_ret
      exact ⟨rfl, b1⟩
  have hm : m ≤ 12 ∨ 256 < m := by omega
  obtain ⟨L, xs, E, X1, X2⟩ := lists_both a b c d ha hb hc hd n hn
  obtain ⟨H, E2, X3, X4⟩ := hops_both a b c d l ha hb hc hd m hm
  have Y1 := Lib.hid X1
  have Y2 := Lib.hid X2
  have Y3 := Lib.hid X3
  have Y4 := Lib.hid X4
  have t1 : (decide (12 < n) && decide (n ≤ 256)) = false := by
    rcases hn with h | h
    · simp [show ¬ 12 < n by omega]
    · simp [show ¬ n ≤ 256 by omega]
  have t2 : (decide (12 < m) && decide (m ≤ 256)) = false := by
    rcases hm with h | h
    · simp [show ¬ 12 < m by omega]
    · simp [show ¬ m ≤ 256 by omega]
  clear X1 X2 X3 X4 y0 y1 ha hb hc hd
  rcases hn with hn | hn
  all_goals rcases hm with hm | hm
  all_goals (try have hn2 : 12 < n := by omega)
  all_goals (try have hm2 : 12 < m := by omega)
  all_goals
    clear t1 t2 ln lm
    go_enter Tryd.func4, Tryd.ntmps4
    go_wp2_with fail
    refine (Y1.out _ hk).mono ?_
    rintro e w1 ⟨A1, c1, rfl, n1, B1⟩
    go_wp2_with fail
    refine (Y2.out w1).mono ?_
    rintro e w2 ⟨A2, c2, rfl, n2, b2⟩
    have B2 := then_ B1 b2
    have m2 := nw_far n1 b2
    clear n1 B1 b2
    go_wp2_with fail
    refine (Y3.out w2 (hk.below B2 hsz)).mono ?_
    rintro e w3 ⟨rfl, b3⟩
    have B3 := then_ B2 b3
    have m3 := nw_far m2 b3
    have p3 := nw_far n2 b3
    clear m2 n2 B2 b3
    go_wp2_with fail
    refine (Y4.out w3).mono ?_
    rintro e w4 ⟨rfl, b4⟩
    have B4 := then_ B3 b4
    have m4 := nw_far m3 b4
    have p4 := nw_far p3 b4
    clear m3 p3 B3 b4
    go_wp2_with fail
    refine (alive_any (hk.below B4 hsz)).mono ?_
    rintro e w5 ⟨rfl, b5⟩
    have B5 := then_ B4 b5
    have m5 := nw_far m4 b5
    have p5 := nw_far p4 b5
    clear m4 p4 B4 b5
    have Hs := Lib.hid (same_any m5 p5)
    clear m5 p5
    go_wp2_with fail
    refine Hs.out.mono ?_
    rintro e w6 ⟨rfl, q, rfl⟩
    have B6 := then_ B5 (far_drewN w5 q)
    clear B5
    go_wp2_with fail
    go_ret
    exact ⟨rfl, B6⟩

set_option maxRecDepth 100000 in
theorem door_met (os : Os) (args : Array Value) : laidMetH Tryd.prog [("clepsydra/sha.constants", Rows.laid_clepsydra_sha_constants)] ((World.doorLaid Tryd.prog 4000 os).forCall (fun _ _ => 0) ⟨#[], args, []⟩).memory :=
  laidMetH_of_parts3 (fuel := 8) (laidMet_of_run' 8 (by kernel_rfl) (by kernel_rfl)) (by kernel_rfl) (by kernel_rfl)
set_option maxRecDepth 100000 in
theorem lifted (os : Os) (started : os.Started) (H : Type) (enc : TypeId × Value → H) :
    ReturnsInHanded {} Tryd.checked os 4 .any (fun w args => (Rows.keysListsSpec.pre enc Tryd.prog Tryd.f4 [] false w args ∧ laidMetH Tryd.prog [("clepsydra/sha.constants", Rows.laid_clepsydra_sha_constants)] w) ∧ sizedMet enc Tryd.prog Tryd.f4 (OpenSpec.ofChange Rows.keysListsSpec) false w args)
      (Rows.keysListsSpec.post enc Tryd.prog Tryd.f4 false true false false) := by
  refine returnsInHanded_of_change_and (C := Tryd.checked) (X := fun w _ => laidMetH Tryd.prog [("clepsydra/sha.constants", Rows.laid_clepsydra_sha_constants)] w) (fun _ _ _ hh h => h.of_heap hh) own started (by kernel_rfl) Tryd.func4
    (ChangeSpec.witness_shaped (enc := enc) (C := Tryd.checked) (os := os) (X := fun w _ => laidMetH Tryd.prog [("clepsydra/sha.constants", Rows.laid_clepsydra_sha_constants)] w) false (World.doorLaid Tryd.prog 4000 os) #[.int .u32 0, .int .u32 0, .int .u32 0, .int .u32 0, .int .i64 0, .int .u32 0, .int .i64 0] 8 rfl (World.shaped_of_RefB (by kernel_rfl) (by kernel_rfl)) (by kernel_rfl) (by kernel_rfl) (by kernel_rfl) (door_met os _)) ?_
  intro W base args ds gs before hval0 hW _ hsz0 hL _
  have hsz : (DataW.weightsEach Tryd.prog (Tryd.f4.params.toList ++ Rows.keysListsSpec.plain.varTypes Tryd.prog) (ds ++ gs)).all (· ≤ reachBytes) = true := hsz0
  have hval : ∀ (j : Nat) t v, Tryd.f4.params[j]? = some t → args[j]? = some v → Value.okWide Tryd.prog W .any base t v := hval0
  have hW' := hW
  obtain ⟨p, q, hA0, hV, rfl, hfz, hnd⟩ := hW
  have hA : DataW.TrodAll enc Tryd.prog W 0 (fun _ => true) true Tryd.f4.params.toList args.toList ds p := hA0
  rw [Tryd.params4] at hA hval hsz
  obtain ⟨v0, vs0, d0, ds0, p0, q0, hargs, rfl, rfl, h0, r0⟩ := trodAll_cons hA
  obtain ⟨v1, vs1, d1, ds1, p1, q1, rfl, rfl, rfl, h1, r1⟩ := trodAll_cons r0
  obtain ⟨v2, vs2, d2, ds2, p2, q2, rfl, rfl, rfl, h2, r2⟩ := trodAll_cons r1
  obtain ⟨v3, vs3, d3, ds3, p3, q3, rfl, rfl, rfl, h3, r3⟩ := trodAll_cons r2
  obtain ⟨v4, vs4, d4, ds4, p4, q4, rfl, rfl, rfl, h4, r4⟩ := trodAll_cons r3
  obtain ⟨v5, vs5, d5, ds5, p5, q5, rfl, rfl, rfl, h5, r5⟩ := trodAll_cons r4
  obtain ⟨v6, vs6, d6, ds6, p6, q6, rfl, rfl, rfl, h6, r6⟩ := trodAll_cons r5
  obtain ⟨rfl, rfl, rfl⟩ := trodAll_nil r6
  obtain rfl : args = #[v0, v1, v2, v3, v4, v5, v6] := by cases args; simp_all
  obtain ⟨rfl, rfl⟩ := trodVars_none hV
  obtain ⟨a0, rfl, rfl, rfl, w0⟩ := open_int Tryd.underlying22 (hval 0 22 v0 rfl rfl) h0
  obtain ⟨y0, rfl, u0⟩ := u32_nat w0
  obtain ⟨a1, rfl, rfl, rfl, w1⟩ := open_int Tryd.underlying22 (hval 1 22 v1 rfl rfl) h1
  obtain ⟨y1, rfl, u1⟩ := u32_nat w1
  obtain ⟨a2, rfl, rfl, rfl, w2⟩ := open_int Tryd.underlying22 (hval 2 22 v2 rfl rfl) h2
  obtain ⟨y2, rfl, u2⟩ := u32_nat w2
  obtain ⟨a3, rfl, rfl, rfl, w3⟩ := open_int Tryd.underlying22 (hval 3 22 v3 rfl rfl) h3
  obtain ⟨y3, rfl, u3⟩ := u32_nat w3
  obtain ⟨a4, rfl, rfl, rfl, w4⟩ := open_int Tryd.underlying3 (hval 4 3 v4 rfl rfl) h4
  obtain ⟨a5, rfl, rfl, rfl, w5⟩ := open_int Tryd.underlying22 (hval 5 22 v5 rfl rfl) h5
  obtain ⟨y5, rfl, u5⟩ := u32_nat w5
  obtain ⟨a6, rfl, rfl, rfl, w6⟩ := open_int Tryd.underlying3 (hval 6 3 v6 rfl rfl) h6
  clear hA0 hval0
  refine (law_any (of_laid hL) y0 u0 y1 u1 y2 u2 y3 u3 a4 w4 y5 u5 a6 w6).mono fun e W' ⟨he, bel⟩ => ?_
  subst he
  exact ⟨_, rfl, _, _, _, [], _, [], hW', trodAll_mk1 (shut_bool Tryd.underlying4 _), (trodAll_cons_mk (shut_int Tryd.underlying22 w0) (trodAll_cons_mk (shut_int Tryd.underlying22 w1) (trodAll_cons_mk (shut_int Tryd.underlying22 w2) (trodAll_cons_mk (shut_int Tryd.underlying22 w3) (trodAll_cons_mk (shut_int Tryd.underlying3 w4) (trodAll_cons_mk (shut_int Tryd.underlying22 w5) (trodAll_cons_mk (shut_int Tryd.underlying3 w6) trodAll_mk0))))))), rfl, bel.frame _, fun h => by cases h⟩

theorem keysLists_holds : Rows.KeysListsSaid :=
  OpenClaim.holds_of_wide 4 Tryd.f4 rfl rfl rfl rfl rfl rfl rfl ⟨rfl, rfl, rfl, rfl, rfl⟩ rfl rfl rfl rfl rfl (by kernel_rfl) Tryd.func4 (by kernel_rfl)
    (of_decide_eq_true (by kernel_rfl)) (by unfold Func.isWrapper; first | (rw [if_pos (by decide +kernel)]; kernel_rfl) | (rw [if_neg (by decide +kernel)]; exact ⟨rfl, rfl⟩))
    (fun os started H enc _ => lifted os started H enc)
theorem keysLists_card : Rows.KeysListsCardSaid :=
  Claim7.holds_tied_plain_at .later [] [.data] true (true, "617e8454327dcfca1ef8da7a863af921872fb1b4ef4e4026e0a71b044e7f5b69") false
    keysLists_holds (fun _ h => by cases h) (by kernel_rfl) (fun _ h => by cases h) keysLists_row_tie rfl ⟨rfl, rfl⟩ (by kernel_rfl) rfl
    (fun f fn hf hfn => by
      obtain rfl : f = 4 := Option.some.inj ((show Tryd.prog.funcNamed "clepsydra/clepsydralaw11.KeysLists" = some 4 by kernel_rfl).symm.trans hf) |>.symm
      obtain rfl : fn = Tryd.f4 := (Option.some.inj (Tryd.func4.symm.trans hfn)).symm
      exact ⟨by kernel_rfl, fun j t ht => by
        rw [Tryd.params4] at ht
        have hm : t ∈ [22, 22, 22, 22, 3, 22, 3] := by simpa using Array.mem_of_getElem? ht
        have hall : ([22, 22, 22, 22, 3, 22, 3].all fun u => !Tryd.prog.wantsStandIn u) = true := by kernel_rfl
        exact (show Tryd.prog.wantsStandIn t = false by simpa using List.all_eq_true.1 hall t hm)⟩)
    (by kernel_rfl)
#print axioms keysLists_card
end Go.Proofs.YtonfpomgkgljiaaDoor.keysListsP
