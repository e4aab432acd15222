/- For every row of bytes the Go function ShaSums returns true and leaves its argument as it was. No condition beside the card's own (the constants are laid as the text lays them). -/
import Derived.Test.YtnkkjfkchmlogaaDoorText2
import Derived.Test.YtnkkjfkchmlogaaDoorShell
namespace Go.Proofs.YtnkkjfkchmlogaaDoor.shaSumsP
open Go.ChangeShapes Go.WideShapes Go.ChangeAt Go.RowKit
set_option linter.unusedVariables false
set_option maxRecDepth 100000


set_option maxHeartbeats 1000000 in
theorem law_any {W : World} (hk : Ks W) {A : Option Addr} {n c : Nat} {x : List Nat} (hx : Nb W W.heap.size A n c x) (lx : n ≤ 140737488351232) :
    Calls Tryd.prog 3 #[.slice A n c] W (Yes W) := by
  have hsz := hk.size
  have hr := hx.room
  have hc := hx.cap
  by_cases y0 : 400 < n
  · have HL : Hid (∀ w, Calls Tryd.prog 11 #[.slice A n c] w fun e w' => e = .returned (.bool true) ∧ w = w') := Lib.hid fun w => by
      have h := long_any A n c lx w
      rwa [decide_eq_true (show (400 : Int) < (n : Int) by omega)] at h
    clear y0
    go_enter Tryd.func3, Tryd.ntmps3
    go_wp2_with fail
    refine (HL.out _).mono ?_
    rintro e w' ⟨rfl, rfl⟩
    go_wp2_with fail
    refine (alive_any hk).mono ?_
    rintro e w1 ⟨rfl, b1⟩
    go_wp2_with fail
    go_ret
    exact ⟨rfl, b1⟩
  have HL : Hid (∀ w, Calls Tryd.prog 11 #[.slice A n c] w fun e w' => e = .returned (.bool false) ∧ w = w') := Lib.hid fun w => by
    have h := long_any A n c lx w
    rwa [decide_eq_false (show ¬ (400 : Int) < (n : Int) by omega)] at h
  have hn : n ≤ 400 := by omega
  have hLx := hx.lim
  obtain ⟨D, hD⟩ : ∃ D, sha x = D := ⟨_, rfl⟩
  have heq := eq_arr D (by rw [← hD, length_sha])
  have HD := Lib.hid hD
  obtain ⟨S, hS⟩ : ∃ S, bstr x = S := ⟨_, rfl⟩
  have HS := Lib.hid hS
  have hself := eq_self S
  clear y0 hD hS
  go_enter Tryd.func3, Tryd.ntmps3
  go_wp2_with fail
  refine (HL.out _).mono ?_
  rintro e w' ⟨rfl, rfl⟩
  go_wp2_with fail
  refine (join_any hx (Nb.nil W W.heap.size 0 (by omega) none) (by omega)).mono ?_
  rintro e w1 ⟨A1, c1, rfl, g1, b1⟩
  rw [List.append_nil] at g1
  have n1 := g1.nb hLx
  rw [Nat.add_zero] at *
  clear g1
  go_wp2_with fail
  refine (alive_any (hk.below b1 hsz)).mono ?_
  rintro e w2 ⟨rfl, b2⟩
  have B2 := then_ b1 b2
  have n2 := n1.far b2
  clear b2 b1 n1
  go_wp2_with fail
  have hs := sum_any (hk.below B2 hsz) n2 (by omega)
  rw [HD.out] at hs
  refine hs.mono ?_
  rintro e w3 ⟨rfl, b3⟩
  have B3 := then_ B2 b3
  have n3 := n2.far b3
  clear hs b3 B2 n2
  go_wp2_with fail
  have hs := rsum_any (hx.far B3) (by omega)
  rw [HD.out] at hs
  refine hs.mono ?_
  rintro e w4 ⟨rfl, b4⟩
  have B4 := then_ B3 b4
  have n4 := n3.far b4
  have cv1 := conv_any n4
  have cv2 := conv_any (hx.far B4)
  rw [HS.out] at cv1 cv2
  clear hs b4 B3 n3 n4 hx
  go_wp2_with fail
  go_ret
  exact ⟨rfl, B4⟩

set_option maxRecDepth 100000 in
theorem door_met (os : Os) (args : Array Value) : laidMetH Tryd.prog [("clepsydra/sha.constants", Rows.laid_clepsydra_sha_constants)] ((World.doorLaid Tryd.prog 4000 os).forCall (fun _ _ => 0) ⟨#[], args, []⟩).memory :=
  laidMetH_of_parts3 (fuel := 8) (laidMet_of_run' 8 (by kernel_rfl) (by kernel_rfl)) (by kernel_rfl) (by kernel_rfl)
set_option maxRecDepth 100000 in
theorem lifted (os : Os) (started : os.Started) (H : Type) (enc : TypeId × Value → H) :
    ReturnsInHanded {} Tryd.checked os 3 .any (fun w args => (Rows.shaSumsSpec.pre enc Tryd.prog Tryd.f3 [] false w args ∧ laidMetH Tryd.prog [("clepsydra/sha.constants", Rows.laid_clepsydra_sha_constants)] w) ∧ sizedMet enc Tryd.prog Tryd.f3 (OpenSpec.ofChange Rows.shaSumsSpec) false w args)
      (Rows.shaSumsSpec.post enc Tryd.prog Tryd.f3 false true false false) := by
  refine returnsInHanded_of_change_and (C := Tryd.checked) (X := fun w _ => laidMetH Tryd.prog [("clepsydra/sha.constants", Rows.laid_clepsydra_sha_constants)] w) (fun _ _ _ hh h => h.of_heap hh) own started (by kernel_rfl) Tryd.func3
    (ChangeSpec.witness_shaped (enc := enc) (C := Tryd.checked) (os := os) (X := fun w _ => laidMetH Tryd.prog [("clepsydra/sha.constants", Rows.laid_clepsydra_sha_constants)] w) false (World.doorLaid Tryd.prog 4000 os) #[.slice none 0 0] 8 rfl (World.shaped_of_RefB (by kernel_rfl) (by kernel_rfl)) (by kernel_rfl) (by kernel_rfl) (by kernel_rfl) (door_met os _)) ?_
  intro W base args ds gs before hval0 hW _ hsz0 hL _
  have hsz : (DataW.weightsEach Tryd.prog (Tryd.f3.params.toList ++ Rows.shaSumsSpec.plain.varTypes Tryd.prog) (ds ++ gs)).all (· ≤ reachBytes) = true := hsz0
  have hval : ∀ (j : Nat) t v, Tryd.f3.params[j]? = some t → args[j]? = some v → Value.okWide Tryd.prog W .any base t v := hval0
  have hW' := hW
  obtain ⟨p, q, hA0, hV, rfl, hfz, hnd⟩ := hW
  have hA : DataW.TrodAll enc Tryd.prog W 0 (fun _ => true) true Tryd.f3.params.toList args.toList ds p := hA0
  rw [Tryd.params3] at hA hval hsz
  obtain ⟨v0, vs0, d0, ds0, p0, q0, hargs, rfl, rfl, h0, r0⟩ := trodAll_cons hA
  obtain ⟨rfl, rfl, rfl⟩ := trodAll_nil r0
  obtain rfl : args = #[v0] := by cases args; simp_all
  obtain ⟨rfl, rfl⟩ := trodVars_none hV
  obtain ⟨a0, len0, cap0, rfl⟩ := okWide_slice Tryd.underlying22 (hval 0 22 v0 rfl rfl)
  have k0 := h0
  have lt0 : ∀ x ∈ p0, x.block < W.heap.size := by obtain ⟨m, hm⟩ := k0; exact DataW.trod_lt m _ _ _ hm
  obtain ⟨z0, w0, l0⟩ : ∃ zs, Nb W W.heap.size a0 len0 cap0 zs ∧ len0 ≤ 140737488351232 := by
    obtain ⟨fuel, hf⟩ := h0
    rcases open_ints Tryd.underlying22 Tryd.underlying5 (by kernel_rfl) hf with ⟨hcs, _⟩ | ⟨x, l, c, zs, hcs, _, hl, hm, hz, hd, hcell, hwz⟩
    · simp [Value.cells] at hcs
      obtain ⟨rfl, rfl, rfl⟩ := hcs
      exact ⟨[], Nb.nil _ _ 0 (by omega) none, by omega⟩
    · simp [Value.cells] at hcs
      obtain ⟨rfl, rfl, rfl⟩ := hcs
      have hd1 := congrArg Prod.fst hd
      simp only at hd1
      subst hd1
      have hr := sized_slice hsz (j := 0) (t := 22) (e := 5) rfl rfl Tryd.underlying22
      rw [show Tryd.prog.bytesOf 5 = 1 by kernel_rfl] at hr
      simp only [lits, List.length_map, List.length_take, List.length_drop, reachBytes] at hr
      have hz' : zs.length = cap0 := by simpa using hz
      exact ⟨_, nb_of_row hl hm hz' hcell hwz, by omega⟩
  clear hA0 hval0
  refine (law_any (of_laid hL) w0 l0).mono fun e W' ⟨he, bel⟩ => ?_
  subst he
  exact ⟨_, rfl, _, _, _, [], _, [], hW', trodAll_mk1 (shut_bool Tryd.underlying4 _), (trodAll_cons_mk (Below.trod laidOut (by kernel_rfl) (of_decide_eq_true (by kernel_rfl)) k0 bel lt0) trodAll_mk0), rfl, bel.frame _, fun h => by cases h⟩

theorem shaSums_holds : Rows.ShaSumsSaid :=
  OpenClaim.holds_of_wide 3 Tryd.f3 rfl rfl rfl rfl rfl rfl rfl ⟨rfl, rfl, rfl, rfl, rfl⟩ rfl rfl rfl rfl rfl (by kernel_rfl) Tryd.func3 (by kernel_rfl)
    (of_decide_eq_true (by kernel_rfl)) (by unfold Func.isWrapper; first | (rw [if_pos (by decide +kernel)]; kernel_rfl) | (rw [if_neg (by decide +kernel)]; exact ⟨rfl, rfl⟩))
    (fun os started H enc _ => lifted os started H enc)
theorem shaSums_card : Rows.ShaSumsCardSaid :=
  Claim7.holds_tied_plain_at .later [] [.data] true (true, "756ddd86ea3c962c140c4e725a86db090a64aa718640d7001e1255f4caa8afae") false
    shaSums_holds (fun _ h => by cases h) (by kernel_rfl) (fun _ h => by cases h) shaSums_row_tie rfl ⟨rfl, rfl⟩ (by kernel_rfl) rfl
    (fun f fn hf hfn => by
      obtain rfl : f = 3 := Option.some.inj ((show Tryd.prog.funcNamed "clepsydra/clepsydralaw02.ShaSums" = some 3 by kernel_rfl).symm.trans hf) |>.symm
      obtain rfl : fn = Tryd.f3 := (Option.some.inj (Tryd.func3.symm.trans hfn)).symm
      exact ⟨by kernel_rfl, fun j t ht => by
        rw [Tryd.params3] at ht
        have hm : t ∈ [22] := by simpa using Array.mem_of_getElem? ht
        have hall : ([22].all fun u => !Tryd.prog.wantsStandIn u) = true := by kernel_rfl
        exact (show Tryd.prog.wantsStandIn t = false by simpa using List.all_eq_true.1 hall t hm)⟩)
    (by kernel_rfl)
#print axioms shaSums_card
end Go.Proofs.YtnkkjfkchmlogaaDoor.shaSumsP
