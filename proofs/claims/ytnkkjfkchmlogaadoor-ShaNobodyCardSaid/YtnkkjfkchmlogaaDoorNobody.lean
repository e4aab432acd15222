/- For every row of bytes the Go function ShaNobody returns true and leaves its argument as it was. No condition beside the card's own (the constants are laid as the text lays them). -/
import Derived.Test.YtnkkjfkchmlogaaDoorText2
import Derived.Test.YtnkkjfkchmlogaaDoorExpand
import Derived.Test.YtnkkjfkchmlogaaDoorShell
namespace Go.Proofs.YtnkkjfkchmlogaaDoor.shaNobodyP
open Go.ChangeShapes Go.WideShapes Go.ChangeAt Go.RowKit
set_option linter.unusedVariables false
set_option maxRecDepth 100000


theorem eqIn_arr (D : List Nat) (hD : D.length = 32) (W : World) : (Op.equalIn 10000 26 (.agg (bs D).toArray) (.agg (bs D).toArray)).run Tryd.prog W = .ok true W := by
  have h := eq_arr D hD W
  rw [run_eql_struct] at h
  cases hq : (Op.equalIn 10000 26 (Value.agg (bs D).toArray) (Value.agg (bs D).toArray)).run Tryd.prog W with
  | ok b w' =>
    rw [hq] at h
    simp only [Result.andThen, Result.ok.injEq, Value.bool.injEq] at h
    rw [h.1, h.2]
  | halt e w' => rw [hq] at h; simp [Result.andThen] at h
theorem eqIn_zero (W : World) : (Op.equalIn 10000 26 (.agg (bs [0, 0, 0, 0, 0, 0, 0, 0, 0, 0, 0, 0, 0, 0, 0, 0, 0, 0, 0, 0, 0, 0, 0, 0, 0, 0, 0, 0, 0, 0, 0, 0]).toArray) (.agg #[.int .u8 0, .int .u8 0, .int .u8 0, .int .u8 0, .int .u8 0, .int .u8 0, .int .u8 0, .int .u8 0, .int .u8 0, .int .u8 0, .int .u8 0, .int .u8 0, .int .u8 0, .int .u8 0, .int .u8 0, .int .u8 0, .int .u8 0, .int .u8 0, .int .u8 0, .int .u8 0, .int .u8 0, .int .u8 0, .int .u8 0, .int .u8 0, .int .u8 0, .int .u8 0, .int .u8 0, .int .u8 0, .int .u8 0, .int .u8 0, .int .u8 0, .int .u8 0])).run Tryd.prog W = .ok true W := eqIn_arr [0, 0, 0, 0, 0, 0, 0, 0, 0, 0, 0, 0, 0, 0, 0, 0, 0, 0, 0, 0, 0, 0, 0, 0, 0, 0, 0, 0, 0, 0, 0, 0] rfl W
set_option maxHeartbeats 2000000 in
theorem law_any {W : World} (hk : Ks W) {A : Option Addr} {n c : Nat} {x : List Nat} (hx : Nb W W.heap.size A n c x) (lx : n ≤ 140737488351232) :
    Calls Tryd.prog 7 #[.slice A n c] W (Yes W) := by
  have hsz := hk.size
  have hr := hx.room
  have hc := hx.cap
  by_cases y0 : 400 < n
  · have HL : Hid (∀ w, Calls Tryd.prog 11 #[.slice A n c] w fun e w' => e = .returned (.bool true) ∧ w = w') := Lib.hid fun w => by
      have h := long_any A n c lx w
      rwa [decide_eq_true (show (400 : Int) < (n : Int) by omega)] at h
    clear y0
    go_enter Tryd.func7, Tryd.ntmps7
    go_wp2_with fail
    refine (HL.out _).mono ?_
    rintro e w' ⟨rfl, rfl⟩
    go_wp2_with fail
    refine (alive_any hk).mono ?_
    rintro e w1 ⟨rfl, b1⟩
    go_wp2_with fail
    go_ret
    exact ⟨rfl, b1⟩
  have HL : Hid (∀ w, Calls Tryd.prog 11 #[.slice A n c] w fun e w' => e = .returned (.bool false) ∧ w = w') := Lib.hid fun w => by
    have h := long_any A n c lx w
    rwa [decide_eq_false (show ¬ (400 : Int) < (n : Int) by omega)] at h
  have hn : n ≤ 400 := by omega
  have hLx := hx.lim
  have hlen := hx.len
  obtain ⟨D, hD⟩ : ∃ D, sha x = D := ⟨_, rfl⟩
  obtain ⟨D0, hD0⟩ : ∃ D0, sha [] = D0 := ⟨_, rfl⟩
  have heq := eq_arr D (by rw [← hD, length_sha])
  have heq0 := eq_arr D0 (by rw [← hD0, length_sha])
  have hneq := eqIn_zero
  have HD := Lib.hid hD
  have HD0 := Lib.hid hD0
  have k0 := hash_new (w := W.alloc ZeroH) (heap_alloc_new W ZeroH) (W.alloc ZeroH).heap.size (by simp) (Nat.le_refl _)
  have b0 : Below W.heap.size W (W.alloc ZeroH) := (Below.refl _ _).alloc (Nat.le_refl _) _
  have s0 : (W.alloc ZeroH).heap.size = W.heap.size + 1 := by simp
  clear y0 hD hD0
  go_enter Tryd.func7, Tryd.ntmps7
  go_wp2_with fail
  refine (HL.out _).mono ?_
  rintro e w' ⟨rfl, rfl⟩
  go_wp2_with fail
  change Calls _ _ _ (W.alloc ZeroH) _
  obtain ⟨w1, hw1⟩ : ∃ w1, W.alloc ZeroH = w1 := ⟨_, rfl⟩
  rw [hw1] at k0 b0 s0 ⊢
  clear hw1
  refine (write_nil _ _).mono ?_
  rintro e w' ⟨rfl, rfl⟩
  go_wp2_with fail
  refine (reset_nil _).mono ?_
  rintro e w' ⟨rfl, rfl⟩
  go_wp2_with fail
  refine (len_nil _).mono ?_
  rintro e w' ⟨rfl, rfl⟩
  go_wp2_with fail
  refine (sumOf_nil _).mono ?_
  rintro e w2 ⟨rfl, b2⟩
  have k2 := k0.below b2
  have B2 := then_ b0 b2
  have s2 := b2.size
  clear k0 b0 b2
  go_wp2_with fail
  refine (alive_any (hk.below B2 hsz)).mono ?_
  rintro e w3 ⟨rfl, b3⟩
  have k3 := k2.below b3
  have B3 := then_ B2 b3
  have s3 := b3.size
  clear k2 b3 B2
  go_wp2_with fail
  refine (len_any k3).mono ?_
  rintro e w' ⟨rfl, rfl⟩
  go_wp2_with fail
  have hs := sumOf_any (hk.below B3 hsz) k3
  rw [HD0.out] at hs
  refine hs.mono ?_
  rintro e w4 ⟨rfl, b4⟩
  have k4 := k3.below b4
  have B4 := then_ B3 b4
  have s4 := b4.size
  clear k3 b4 B3 hs
  go_wp2_with fail
  have hs := rsum_any (Nb.nil w4 w4.heap.size 0 (by omega) none) (by omega)
  rw [HD0.out] at hs
  refine hs.mono ?_
  rintro e w5 ⟨rfl, b5⟩
  have k5 := k4.below b5
  have B5 := then_ B4 b5
  have s5 := b5.size
  clear k4 b5 B4 hs
  go_wp2_with fail
  refine (write_any (hk.below B5 hsz) k5 (hx.far B5) (by simp; omega) (by omega)).mono ?_
  rintro e w6 ⟨rfl, k6, q6⟩
  rw [List.nil_append] at k6
  have B6 := below_write B5 q6 (Nat.le_refl _) (Nat.le_refl _)
  clear k5 q6 B5
  go_wp2_with fail
  have hs := sumOf_any (hk.below B6 hsz) k6
  rw [HD.out] at hs
  refine hs.mono ?_
  rintro e w7 ⟨rfl, b7⟩
  have B7 := then_ B6 b7
  clear k6 b7 B6 hs
  go_wp2_with fail
  have hs := rsum_any (hx.far B7) (by omega)
  rw [HD.out] at hs
  refine hs.mono ?_
  rintro e w8 ⟨rfl, b8⟩
  have B8 := then_ B7 b8
  clear b8 B7 hs
  go_wp2_with fail
  go_ret
  exact ⟨rfl, B8⟩

set_option maxRecDepth 100000 in
theorem door_met (os : Os) (args : Array Value) : laidMetH Tryd.prog [("clepsydra/sha.constants", Rows.laid_clepsydra_sha_constants)] ((World.doorLaid Tryd.prog 4000 os).forCall (fun _ _ => 0) ⟨#[], args, []⟩).memory :=
  laidMetH_of_parts3 (fuel := 8) (laidMet_of_run' 8 (by kernel_rfl) (by kernel_rfl)) (by kernel_rfl) (by kernel_rfl)
set_option maxRecDepth 100000 in
theorem lifted (os : Os) (started : os.Started) (H : Type) (enc : TypeId × Value → H) :
    ReturnsInHanded {} Tryd.checked os 7 .any (fun w args => (Rows.shaNobodySpec.pre enc Tryd.prog Tryd.f7 [] false w args ∧ laidMetH Tryd.prog [("clepsydra/sha.constants", Rows.laid_clepsydra_sha_constants)] w) ∧ sizedMet enc Tryd.prog Tryd.f7 (OpenSpec.ofChange Rows.shaNobodySpec) false w args)
      (Rows.shaNobodySpec.post enc Tryd.prog Tryd.f7 false true false false) := by
  refine returnsInHanded_of_change_and (C := Tryd.checked) (X := fun w _ => laidMetH Tryd.prog [("clepsydra/sha.constants", Rows.laid_clepsydra_sha_constants)] w) (fun _ _ _ hh h => h.of_heap hh) own started (by kernel_rfl) Tryd.func7
    (ChangeSpec.witness_shaped (enc := enc) (C := Tryd.checked) (os := os) (X := fun w _ => laidMetH Tryd.prog [("clepsydra/sha.constants", Rows.laid_clepsydra_sha_constants)] w) false (World.doorLaid Tryd.prog 4000 os) #[.slice none 0 0] 8 rfl (World.shaped_of_RefB (by kernel_rfl) (by kernel_rfl)) (by kernel_rfl) (by kernel_rfl) (by kernel_rfl) (door_met os _)) ?_
  intro W base args ds gs before hval0 hW _ hsz0 hL _
  have hsz : (DataW.weightsEach Tryd.prog (Tryd.f7.params.toList ++ Rows.shaNobodySpec.plain.varTypes Tryd.prog) (ds ++ gs)).all (· ≤ reachBytes) = true := hsz0
  have hval : ∀ (j : Nat) t v, Tryd.f7.params[j]? = some t → args[j]? = some v → Value.okWide Tryd.prog W .any base t v := hval0
  have hW' := hW
  obtain ⟨p, q, hA0, hV, rfl, hfz, hnd⟩ := hW
  have hA : DataW.TrodAll enc Tryd.prog W 0 (fun _ => true) true Tryd.f7.params.toList args.toList ds p := hA0
  rw [Tryd.params7] at hA hval hsz
  obtain ⟨v0, vs0, d0, ds0, p0, q0, hargs, rfl, rfl, h0, r0⟩ := trodAll_cons hA
  obtain ⟨rfl, rfl, rfl⟩ := trodAll_nil r0
  obtain rfl : args = #[v0] := by cases args; simp_all
  obtain ⟨rfl, rfl⟩ := trodVars_none hV
  obtain ⟨a0, len0, cap0, rfl⟩ := okWide_slice Tryd.underlying22 (hval 0 22 v0 rfl rfl)
  have k0 := h0
  have lt0 : ∀ x ∈ p0, x.block < W.heap.size := by obtain ⟨m, hm⟩ := k0; exact DataW.trod_lt m _ _ _ hm
  obtain ⟨z0, w0, l0⟩ : ∃ zs, Nb W W.heap.size a0 len0 cap0 zs ∧ len0 ≤ 140737488351232 := by
    obtain ⟨fuel, hf⟩ := h0
    rcases open_ints Tryd.underlying22 Tryd.underlying5 (by kernel_rfl) hf with ⟨hcs, _⟩ | ⟨x, l, c, zs, hcs, _, hl, hm, hz, hd, hcell, hwz⟩
    · simp [Value.cells] at hcs
      obtain ⟨rfl, rfl, rfl⟩ := hcs
      exact ⟨[], Nb.nil _ _ 0 (by omega) none, by omega⟩
    · simp [Value.cells] at hcs
      obtain ⟨rfl, rfl, rfl⟩ := hcs
      have hd1 := congrArg Prod.fst hd
      simp only at hd1
      subst hd1
      have hr := sized_slice hsz (j := 0) (t := 22) (e := 5) rfl rfl Tryd.underlying22
      rw [show Tryd.prog.bytesOf 5 = 1 by kernel_rfl] at hr
      simp only [lits, List.length_map, List.length_take, List.length_drop, reachBytes] at hr
      have hz' : zs.length = cap0 := by simpa using hz
      exact ⟨_, nb_of_row hl hm hz' hcell hwz, by omega⟩
  clear hA0 hval0
  refine (law_any (of_laid hL) w0 l0).mono fun e W' ⟨he, bel⟩ => ?_
  subst he
  exact ⟨_, rfl, _, _, _, [], _, [], hW', trodAll_mk1 (shut_bool Tryd.underlying4 _), (trodAll_cons_mk (Below.trod laidOut (by kernel_rfl) (of_decide_eq_true (by kernel_rfl)) k0 bel lt0) trodAll_mk0), rfl, bel.frame _, fun h => by cases h⟩

theorem shaNobody_holds : Rows.ShaNobodySaid :=
  OpenClaim.holds_of_wide 7 Tryd.f7 rfl rfl rfl rfl rfl rfl rfl ⟨rfl, rfl, rfl, rfl, rfl⟩ rfl rfl rfl rfl rfl (by kernel_rfl) Tryd.func7 (by kernel_rfl)
    (of_decide_eq_true (by kernel_rfl)) (by unfold Func.isWrapper; first | (rw [if_pos (by decide +kernel)]; kernel_rfl) | (rw [if_neg (by decide +kernel)]; exact ⟨rfl, rfl⟩))
    (fun os started H enc _ => lifted os started H enc)
theorem shaNobody_card : Rows.ShaNobodyCardSaid :=
  Claim7.holds_tied_plain_at .later [] [.data] true (true, "756ddd86ea3c962c140c4e725a86db090a64aa718640d7001e1255f4caa8afae") false
    shaNobody_holds (fun _ h => by cases h) (by kernel_rfl) (fun _ h => by cases h) shaNobody_row_tie rfl ⟨rfl, rfl⟩ (by kernel_rfl) rfl
    (fun f fn hf hfn => by
      obtain rfl : f = 7 := Option.some.inj ((show Tryd.prog.funcNamed "clepsydra/clepsydralaw02.ShaNobody" = some 7 by kernel_rfl).symm.trans hf) |>.symm
      obtain rfl : fn = Tryd.f7 := (Option.some.inj (Tryd.func7.symm.trans hfn)).symm
      exact ⟨by kernel_rfl, fun j t ht => by
        rw [Tryd.params7] at ht
        have hm : t ∈ [22] := by simpa using Array.mem_of_getElem? ht
        have hall : ([22].all fun u => !Tryd.prog.wantsStandIn u) = true := by kernel_rfl
        exact (show Tryd.prog.wantsStandIn t = false by simpa using List.all_eq_true.1 hall t hm)⟩)
    (by kernel_rfl)
#print axioms shaNobody_card
end Go.Proofs.YtnkkjfkchmlogaaDoor.shaNobodyP
