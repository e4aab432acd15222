/- For every row of bytes and every int the Go function ShaExpands returns true and leaves its arguments as they were. No condition beside the card's own (the constants are laid as the text lays them). -/
import Derived.Test.YtnkkjfkchmlogaaDoorRef5
import Derived.Test.YtnkkjfkchmlogaaDoorShell
namespace Go.Proofs.YtnkkjfkchmlogaaDoor.shaExpandsP
open Go.ChangeShapes Go.WideShapes Go.ChangeAt Go.RowKit
set_option linter.unusedVariables false
set_option maxRecDepth 100000


set_option maxHeartbeats 2000000 in
theorem law_any {W : World} (hk : Ks W) {A : Option Addr} {n c : Nat} {x : List Nat} (hx : Nb W W.heap.size A n c x) (lx : n ≤ 140737488351232) (k : Int) (hkk : (Lit.int .i64 k).wf = true) :
    Calls Tryd.prog 6 #[.slice A n c, .int .i64 k] W (Yes W) := by
  have hsz := hk.size
  have hr := hx.room
  have hc := hx.cap
  have bk := bounds_i64 hkk
  by_cases y0 : 400 < n
  · -- the seed is long
    have HL : Hid (∀ w, Calls Tryd.prog 11 #[.slice A n c] w fun e w' => e = .returned (.bool true) ∧ w = w') := Lib.hid fun w => by
      have h := long_any A n c lx w
      rwa [decide_eq_true (show (400 : Int) < (n : Int) by omega)] at h
    clear y0
    go_enter Tryd.func6, Tryd.ntmps6
    go_wp2_with fail
    refine (HL.out _).mono ?_
    rintro e w' ⟨rfl, rfl⟩
    go_wp2_with fail
    refine (alive_any hk).mono ?_
    rintro e w1 ⟨rfl, b1⟩
    go_wp2_with fail
    go_ret
    exact ⟨rfl, b1⟩
  have HL : Hid (∀ w, Calls Tryd.prog 11 #[.slice A n c] w fun e w' => e = .returned (.bool false) ∧ w = w') := Lib.hid fun w => by
    have h := long_any A n c lx w
    rwa [decide_eq_false (show ¬ (400 : Int) < (n : Int) by omega)] at h
  have hn : n ≤ 400 := by omega
  clear y0
  by_cases y1 : k < 0
  · have y2 : k ≤ 200 := by omega
    have P1 := Lib.hid (fun w => expand_neg A n c k y1 bk.1 w)
    have P2 := Lib.hid (fun w => rexpand_neg A n c k y1 bk.1 w)
    have cz := fun w => conv_zero none 0 w
    have hself := eq_self (bstr [])
    generalize bstr [] = S at *
    have B2 := Below.refl W.heap.size W
    go_enter Tryd.func6, Tryd.ntmps6
    go_wp2_with fail
    refine (HL.out _).mono ?_
    rintro e w' ⟨rfl, rfl⟩
    go_wp2_with fail
    refine (P1.out _).mono ?_
    rintro e w' ⟨rfl, rfl⟩
    go_wp2_with fail
    refine (P2.out _).mono ?_
    rintro e w' ⟨rfl, rfl⟩
    go_wp2_with fail
    refine (alive_any (hk.below B2 hsz)).mono ?_
    rintro e w3 ⟨rfl, b3⟩
    have B3 := then_ B2 b3
    clear b3 B2
    go_wp2_with fail
    go_ret
    exact ⟨rfl, B3⟩
  by_cases y3 : 4096 < k
  · have y2 : 200 < k := by omega
    have P1 := Lib.hid (fun w => expand_long A n c k y3 (by omega) w)
    have P2 := Lib.hid (fun w => rexpand_long A n c k y3 (by omega) w)
    have cz := fun w => conv_zero none 0 w
    have hself := eq_self (bstr [])
    generalize bstr [] = S at *
    have B2 := Below.refl W.heap.size W
    go_enter Tryd.func6, Tryd.ntmps6
    go_wp2_with fail
    refine (HL.out _).mono ?_
    rintro e w' ⟨rfl, rfl⟩
    go_wp2_with fail
    refine (P1.out _).mono ?_
    rintro e w' ⟨rfl, rfl⟩
    go_wp2_with fail
    refine (P2.out _).mono ?_
    rintro e w' ⟨rfl, rfl⟩
    go_wp2_with fail
    refine (alive_any (hk.below B2 hsz)).mono ?_
    rintro e w3 ⟨rfl, b3⟩
    have B3 := then_ B2 b3
    clear b3 B2
    go_wp2_with fail
    go_ret
    exact ⟨rfl, B3⟩
  by_cases y4 : 200 < k
  · have y5 : k ≤ 4096 := by omega
    clear y3
    go_enter Tryd.func6, Tryd.ntmps6
    go_wp2_with fail
    refine (HL.out _).mono ?_
    rintro e w' ⟨rfl, rfl⟩
    go_wp2_with fail
    refine (alive_any hk).mono ?_
    rintro e w1 ⟨rfl, b1⟩
    go_wp2_with fail
    go_ret
    exact ⟨rfl, b1⟩
  obtain ⟨k, rfl⟩ := Int.eq_ofNat_of_zero_le (show 0 ≤ k by omega)
  have hk200 : k ≤ 200 := by omega
  have hle := length_expand x k
  have hE1 : Lim 256 (expand x k) := by unfold expand; exact (expN_lim x _).take k
  obtain ⟨S, hS⟩ : ∃ S, bstr (expand x k) = S := ⟨_, rfl⟩
  have HS := Lib.hid hS
  have hself := eq_self S
  clear hS y1 y3 y4 hkk bk
  go_enter Tryd.func6, Tryd.ntmps6
  go_wp2_with fail
  refine (HL.out _).mono ?_
  rintro e w' ⟨rfl, rfl⟩
  go_wp2_with fail
  refine (expand_fit hk hx (by omega) k (by omega)).mono ?_
  rintro e w1 ⟨g, rfl, hg, x1, b1⟩
  go_wp2_with fail
  refine (rexpand_in (hx.far b1) (by omega) k (by omega)).mono ?_
  rintro e w2 ⟨A2, c2, rfl, n2, b2⟩
  have B2 := then_ b1 b2
  have x2 := x1.below b2 x1.lt
  have n1 := x2.nb 0 k k (by rw [hle]; omega) (Nat.le_refl _) (by omega) hE1
  rw [List.drop_zero, List.take_of_length_le (Nat.le_of_eq hle)] at n1
  clear b1 b2 x1 x2 hle
  go_wp2_with fail
  refine (alive_any (hk.below B2 hsz)).mono ?_
  rintro e w3 ⟨rfl, b3⟩
  have B3 := then_ B2 b3
  have cv1 := conv_any (n1.far b3)
  have cv2 := conv_any (n2.far b3)
  rw [HS.out] at cv1 cv2
  clear b3 B2
  go_wp2_with fail
  go_ret
  exact ⟨rfl, B3⟩

set_option maxRecDepth 100000 in
theorem door_met (os : Os) (args : Array Value) : laidMetH Tryd.prog [("clepsydra/sha.constants", Rows.laid_clepsydra_sha_constants)] ((World.doorLaid Tryd.prog 4000 os).forCall (fun _ _ => 0) ⟨#[], args, []⟩).memory :=
  laidMetH_of_parts3 (fuel := 8) (laidMet_of_run' 8 (by kernel_rfl) (by kernel_rfl)) (by kernel_rfl) (by kernel_rfl)
set_option maxRecDepth 100000 in
theorem lifted (os : Os) (started : os.Started) (H : Type) (enc : TypeId × Value → H) :
    ReturnsInHanded {} Tryd.checked os 6 .any (fun w args => (Rows.shaExpandsSpec.pre enc Tryd.prog Tryd.f6 [] false w args ∧ laidMetH Tryd.prog [("clepsydra/sha.constants", Rows.laid_clepsydra_sha_constants)] w) ∧ sizedMet enc Tryd.prog Tryd.f6 (OpenSpec.ofChange Rows.shaExpandsSpec) false w args)
      (Rows.shaExpandsSpec.post enc Tryd.prog Tryd.f6 false true false false) := by
  refine returnsInHanded_of_change_and (C := Tryd.checked) (X := fun w _ => laidMetH Tryd.prog [("clepsydra/sha.constants", Rows.laid_clepsydra_sha_constants)] w) (fun _ _ _ hh h => h.of_heap hh) own started (by kernel_rfl) Tryd.func6
    (ChangeSpec.witness_shaped (enc := enc) (C := Tryd.checked) (os := os) (X := fun w _ => laidMetH Tryd.prog [("clepsydra/sha.constants", Rows.laid_clepsydra_sha_constants)] w) false (World.doorLaid Tryd.prog 4000 os) #[.slice none 0 0, .int .i64 0] 8 rfl (World.shaped_of_RefB (by kernel_rfl) (by kernel_rfl)) (by kernel_rfl) (by kernel_rfl) (by kernel_rfl) (door_met os _)) ?_
  intro W base args ds gs before hval0 hW _ hsz0 hL _
  have hsz : (DataW.weightsEach Tryd.prog (Tryd.f6.params.toList ++ Rows.shaExpandsSpec.plain.varTypes Tryd.prog) (ds ++ gs)).all (· ≤ reachBytes) = true := hsz0
  have hval : ∀ (j : Nat) t v, Tryd.f6.params[j]? = some t → args[j]? = some v → Value.okWide Tryd.prog W .any base t v := hval0
  have hW' := hW
  obtain ⟨p, q, hA0, hV, rfl, hfz, hnd⟩ := hW
  have hA : DataW.TrodAll enc Tryd.prog W 0 (fun _ => true) true Tryd.f6.params.toList args.toList ds p := hA0
  rw [Tryd.params6] at hA hval hsz
  obtain ⟨v0, vs0, d0, ds0, p0, q0, hargs, rfl, rfl, h0, r0⟩ := trodAll_cons hA
  obtain ⟨v1, vs1, d1, ds1, p1, q1, rfl, rfl, rfl, h1, r1⟩ := trodAll_cons r0
  obtain ⟨rfl, rfl, rfl⟩ := trodAll_nil r1
  obtain rfl : args = #[v0, v1] := by cases args; simp_all
  obtain ⟨rfl, rfl⟩ := trodVars_none hV
  obtain ⟨a0, len0, cap0, rfl⟩ := okWide_slice Tryd.underlying22 (hval 0 22 v0 rfl rfl)
  have k0 := h0
  have lt0 : ∀ x ∈ p0, x.block < W.heap.size := by obtain ⟨m, hm⟩ := k0; exact DataW.trod_lt m _ _ _ hm
  obtain ⟨z0, w0, l0⟩ : ∃ zs, Nb W W.heap.size a0 len0 cap0 zs ∧ len0 ≤ 140737488351232 := by
    obtain ⟨fuel, hf⟩ := h0
    rcases open_ints Tryd.underlying22 Tryd.underlying5 (by kernel_rfl) hf with ⟨hcs, _⟩ | ⟨x, l, c, zs, hcs, _, hl, hm, hz, hd, hcell, hwz⟩
    · simp [Value.cells] at hcs
      obtain ⟨rfl, rfl, rfl⟩ := hcs
      exact ⟨[], Nb.nil _ _ 0 (by omega) none, by omega⟩
    · simp [Value.cells] at hcs
      obtain ⟨rfl, rfl, rfl⟩ := hcs
      have hd1 := congrArg Prod.fst hd
      simp only at hd1
      subst hd1
      have hr := sized_slice hsz (j := 0) (t := 22) (e := 5) rfl rfl Tryd.underlying22
      rw [show Tryd.prog.bytesOf 5 = 1 by kernel_rfl] at hr
      simp only [lits, List.length_map, List.length_take, List.length_drop, reachBytes] at hr
      have hz' : zs.length = cap0 := by simpa using hz
      exact ⟨_, nb_of_row hl hm hz' hcell hwz, by omega⟩
  obtain ⟨a1, rfl, rfl, rfl, w1⟩ := open_int Tryd.underlying3 (hval 1 3 v1 rfl rfl) h1
  clear hA0 hval0
  refine (law_any (of_laid hL) w0 l0 a1 w1).mono fun e W' ⟨he, bel⟩ => ?_
  subst he
  exact ⟨_, rfl, _, _, _, [], _, [], hW', trodAll_mk1 (shut_bool Tryd.underlying4 _), (trodAll_cons_mk (Below.trod laidOut (by kernel_rfl) (of_decide_eq_true (by kernel_rfl)) k0 bel lt0) (trodAll_cons_mk (shut_int Tryd.underlying3 w1) trodAll_mk0)), rfl, bel.frame _, fun h => by cases h⟩

theorem shaExpands_holds : Rows.ShaExpandsSaid :=
  OpenClaim.holds_of_wide 6 Tryd.f6 rfl rfl rfl rfl rfl rfl rfl ⟨rfl, rfl, rfl, rfl, rfl⟩ rfl rfl rfl rfl rfl (by kernel_rfl) Tryd.func6 (by kernel_rfl)
    (of_decide_eq_true (by kernel_rfl)) (by unfold Func.isWrapper; first | (rw [if_pos (by decide +kernel)]; kernel_rfl) | (rw [if_neg (by decide +kernel)]; exact ⟨rfl, rfl⟩))
    (fun os started H enc _ => lifted os started H enc)
theorem shaExpands_card : Rows.ShaExpandsCardSaid :=
  Claim7.holds_tied_plain_at .later [] [.data] true (true, "756ddd86ea3c962c140c4e725a86db090a64aa718640d7001e1255f4caa8afae") false
    shaExpands_holds (fun _ h => by cases h) (by kernel_rfl) (fun _ h => by cases h) shaExpands_row_tie rfl ⟨rfl, rfl⟩ (by kernel_rfl) rfl
    (fun f fn hf hfn => by
      obtain rfl : f = 6 := Option.some.inj ((show Tryd.prog.funcNamed "clepsydra/clepsydralaw02.ShaExpands" = some 6 by kernel_rfl).symm.trans hf) |>.symm
      obtain rfl : fn = Tryd.f6 := (Option.some.inj (Tryd.func6.symm.trans hfn)).symm
      exact ⟨by kernel_rfl, fun j t ht => by
        rw [Tryd.params6] at ht
        have hm : t ∈ [22, 3] := by simpa using Array.mem_of_getElem? ht
        have hall : ([22, 3].all fun u => !Tryd.prog.wantsStandIn u) = true := by kernel_rfl
        exact (show Tryd.prog.wantsStandIn t = false by simpa using List.all_eq_true.1 hall t hm)⟩)
    (by kernel_rfl)
#print axioms shaExpands_card
end Go.Proofs.YtnkkjfkchmlogaaDoor.shaExpandsP
