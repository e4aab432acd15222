/- For every two rows of bytes and every int the Go function ShaKeyed returns true and leaves its arguments as they were. No condition beside the card's own (the constants are laid as the text lays them). -/
import Derived.Test.YtnkkjfkchmlogaaDoorTrunc
import Derived.Test.YtnkkjfkchmlogaaDoorShell
namespace Go.Proofs.YtnkkjfkchmlogaaDoor.shaKeyedP
open Go.ChangeShapes Go.WideShapes Go.ChangeAt Go.RowKit
set_option linter.unusedVariables false
set_option maxRecDepth 100000


set_option maxHeartbeats 2000000 in
theorem law_any {W : World} (hk : Ks W) {A : Option Addr} {n c : Nat} {x : List Nat} (hx : Nb W W.heap.size A n c x) (lx : n ≤ 140737488351232) {B : Option Addr} {m d : Nat} {y : List Nat} (hy : Nb W W.heap.size B m d y) (ly : m ≤ 140737488351232) (k : Int) (hkk : (Lit.int .i64 k).wf = true) :
    Calls Tryd.prog 4 #[.slice A n c, .slice B m d, .int .i64 k] W (Yes W) := by
  have hsz := hk.size
  have hr := hx.room
  have hc := hx.cap
  have hr2 := hy.room
  have hc2 := hy.cap
  by_cases y0 : 400 < n
  · -- the key is long
    have HL : Hid (∀ w, Calls Tryd.prog 11 #[.slice A n c] w fun e w' => e = .returned (.bool true) ∧ w = w') := Lib.hid fun w => by
      have h := long_any A n c lx w
      rwa [decide_eq_true (show (400 : Int) < (n : Int) by omega)] at h
    clear y0
    go_enter Tryd.func4, Tryd.ntmps4
    go_wp2_with fail
    refine (HL.out _).mono ?_
    rintro e w' ⟨rfl, rfl⟩
    go_wp2_with fail
    refine (alive_any hk).mono ?_
    rintro e w1 ⟨rfl, b1⟩
    go_wp2_with fail
    go_ret
    exact ⟨rfl, b1⟩
  by_cases y1 : 400 < m
  · -- the text is long
    have HL : Hid (∀ w, Calls Tryd.prog 11 #[.slice A n c] w fun e w' => e = .returned (.bool false) ∧ w = w') := Lib.hid fun w => by
      have h := long_any A n c lx w
      rwa [decide_eq_false (show ¬ (400 : Int) < (n : Int) by omega)] at h
    have HM : Hid (∀ w, Calls Tryd.prog 11 #[.slice B m d] w fun e w' => e = .returned (.bool true) ∧ w = w') := Lib.hid fun w => by
      have h := long_any B m d ly w
      rwa [decide_eq_true (show (400 : Int) < (m : Int) by omega)] at h
    clear y0 y1
    go_enter Tryd.func4, Tryd.ntmps4
    go_wp2_with fail
    refine (HL.out _).mono ?_
    rintro e w' ⟨rfl, rfl⟩
    go_wp2_with fail
    refine (HM.out _).mono ?_
    rintro e w' ⟨rfl, rfl⟩
    go_wp2_with fail
    refine (alive_any hk).mono ?_
    rintro e w1 ⟨rfl, b1⟩
    go_wp2_with fail
    go_ret
    exact ⟨rfl, b1⟩
  have HL : Hid (∀ w, Calls Tryd.prog 11 #[.slice A n c] w fun e w' => e = .returned (.bool false) ∧ w = w') := Lib.hid fun w => by
    have h := long_any A n c lx w
    rwa [decide_eq_false (show ¬ (400 : Int) < (n : Int) by omega)] at h
  have HM : Hid (∀ w, Calls Tryd.prog 11 #[.slice B m d] w fun e w' => e = .returned (.bool false) ∧ w = w') := Lib.hid fun w => by
    have h := long_any B m d ly w
    rwa [decide_eq_false (show ¬ (400 : Int) < (m : Int) by omega)] at h
  have hn : n ≤ 400 := by omega
  have hm : m ≤ 400 := by omega
  obtain ⟨E, hE⟩ : ∃ E, sha (x ++ y) = E := ⟨_, rfl⟩
  have heq := eq_arr E (by rw [← hE, length_sha])
  have HE := Lib.hid hE
  clear y0 y1 hE
  by_cases ho : k < 0 ∨ 32 < k
  · have P1 := Lib.hid (fun w => trunc_out B m d k ho w)
    have P2 := Lib.hid (fun w => rtrunc_out B m d k ho w)
    have cz := fun w => conv_zero none 0 w
    have hself := eq_self (bstr [])
    clear ho hkk
    generalize bstr [] = S at *
    have B2 := Below.refl W.heap.size W
    go_enter Tryd.func4, Tryd.ntmps4
    go_wp2_with fail
    refine (HL.out _).mono ?_
    rintro e w' ⟨rfl, rfl⟩
    go_wp2_with fail
    refine (HM.out _).mono ?_
    rintro e w' ⟨rfl, rfl⟩
    go_wp2_with fail
    refine (P1.out _).mono ?_
    rintro e w' ⟨rfl, rfl⟩
    go_wp2_with fail
    refine (P2.out _).mono ?_
    rintro e w' ⟨rfl, rfl⟩
    go_wp2_with fail
    refine (alive_any (hk.below B2 hsz)).mono ?_
    rintro e w3 ⟨rfl, b3⟩
    have B3 := then_ B2 b3
    clear b3 B2
    go_wp2_with fail
    have hs := keyed_any (hk.below B3 hsz) (hx.far B3) (hy.far B3) (by omega)
    rw [HE.out] at hs
    refine hs.mono ?_
    rintro e w4 ⟨rfl, b4⟩
    have B4 := then_ B3 b4
    clear hs b4 B3
    go_wp2_with fail
    have hs := rkeyed_any (hx.far B4) (hy.far B4) (by omega)
    rw [HE.out] at hs
    refine hs.mono ?_
    rintro e w5 ⟨rfl, b5⟩
    have B5 := then_ B4 b5
    clear hs b5 B4
    go_wp2_with fail
    go_ret
    exact ⟨rfl, B5⟩
  · obtain ⟨k, rfl⟩ := Int.eq_ofNat_of_zero_le (show 0 ≤ k by omega)
    have hk32 : k ≤ 32 := by omega
    obtain ⟨S, hS⟩ : ∃ S, bstr ((sha y).take k) = S := ⟨_, rfl⟩
    have HS := Lib.hid hS
    have hself := eq_self S
    clear hS ho hkk
    go_enter Tryd.func4, Tryd.ntmps4
    go_wp2_with fail
    refine (HL.out _).mono ?_
    rintro e w' ⟨rfl, rfl⟩
    go_wp2_with fail
    refine (HM.out _).mono ?_
    rintro e w' ⟨rfl, rfl⟩
    go_wp2_with fail
    refine (trunc_in hk hy (by omega) k hk32).mono ?_
    rintro e w1 ⟨A1, c1, rfl, n1, b1⟩
    go_wp2_with fail
    refine (rtrunc_in (hy.far b1) (by omega) k hk32).mono ?_
    rintro e w2 ⟨A2, c2, rfl, n2, b2⟩
    have B2 := then_ b1 b2
    have n1' := n1.far b2
    clear b1 b2 n1
    go_wp2_with fail
    refine (alive_any (hk.below B2 hsz)).mono ?_
    rintro e w3 ⟨rfl, b3⟩
    have B3 := then_ B2 b3
    have cv1 := conv_any (n1'.far b3)
    have cv2 := conv_any (n2.far b3)
    rw [HS.out] at cv1 cv2
    clear b3 B2
    go_wp2_with fail
    have hs := keyed_any (hk.below B3 hsz) (hx.far B3) (hy.far B3) (by omega)
    rw [HE.out] at hs
    refine hs.mono ?_
    rintro e w4 ⟨rfl, b4⟩
    have B4 := then_ B3 b4
    clear hs b4 B3
    go_wp2_with fail
    have hs := rkeyed_any (hx.far B4) (hy.far B4) (by omega)
    rw [HE.out] at hs
    refine hs.mono ?_
    rintro e w5 ⟨rfl, b5⟩
    have B5 := then_ B4 b5
    clear hs b5 B4
    go_wp2_with fail
    go_ret
    exact ⟨rfl, B5⟩

set_option maxRecDepth 100000 in
theorem door_met (os : Os) (args : Array Value) : laidMetH Tryd.prog [("clepsydra/sha.constants", Rows.laid_clepsydra_sha_constants)] ((World.doorLaid Tryd.prog 4000 os).forCall (fun _ _ => 0) ⟨#[], args, []⟩).memory :=
  laidMetH_of_parts3 (fuel := 8) (laidMet_of_run' 8 (by kernel_rfl) (by kernel_rfl)) (by kernel_rfl) (by kernel_rfl)
set_option maxRecDepth 100000 in
theorem lifted (os : Os) (started : os.Started) (H : Type) (enc : TypeId × Value → H) :
    ReturnsInHanded {} Tryd.checked os 4 .any (fun w args => (Rows.shaKeyedSpec.pre enc Tryd.prog Tryd.f4 [] false w args ∧ laidMetH Tryd.prog [("clepsydra/sha.constants", Rows.laid_clepsydra_sha_constants)] w) ∧ sizedMet enc Tryd.prog Tryd.f4 (OpenSpec.ofChange Rows.shaKeyedSpec) false w args)
      (Rows.shaKeyedSpec.post enc Tryd.prog Tryd.f4 false true false false) := by
  refine returnsInHanded_of_change_and (C := Tryd.checked) (X := fun w _ => laidMetH Tryd.prog [("clepsydra/sha.constants", Rows.laid_clepsydra_sha_constants)] w) (fun _ _ _ hh h => h.of_heap hh) own started (by kernel_rfl) Tryd.func4
    (ChangeSpec.witness_shaped (enc := enc) (C := Tryd.checked) (os := os) (X := fun w _ => laidMetH Tryd.prog [("clepsydra/sha.constants", Rows.laid_clepsydra_sha_constants)] w) false (World.doorLaid Tryd.prog 4000 os) #[.slice none 0 0, .slice none 0 0, .int .i64 0] 8 rfl (World.shaped_of_RefB (by kernel_rfl) (by kernel_rfl)) (by kernel_rfl) (by kernel_rfl) (by kernel_rfl) (door_met os _)) ?_
  intro W base args ds gs before hval0 hW _ hsz0 hL _
  have hsz : (DataW.weightsEach Tryd.prog (Tryd.f4.params.toList ++ Rows.shaKeyedSpec.plain.varTypes Tryd.prog) (ds ++ gs)).all (· ≤ reachBytes) = true := hsz0
  have hval : ∀ (j : Nat) t v, Tryd.f4.params[j]? = some t → args[j]? = some v → Value.okWide Tryd.prog W .any base t v := hval0
  have hW' := hW
  obtain ⟨p, q, hA0, hV, rfl, hfz, hnd⟩ := hW
  have hA : DataW.TrodAll enc Tryd.prog W 0 (fun _ => true) true Tryd.f4.params.toList args.toList ds p := hA0
  rw [Tryd.params4] at hA hval hsz
  obtain ⟨v0, vs0, d0, ds0, p0, q0, hargs, rfl, rfl, h0, r0⟩ := trodAll_cons hA
  obtain ⟨v1, vs1, d1, ds1, p1, q1, rfl, rfl, rfl, h1, r1⟩ := trodAll_cons r0
  obtain ⟨v2, vs2, d2, ds2, p2, q2, rfl, rfl, rfl, h2, r2⟩ := trodAll_cons r1
  obtain ⟨rfl, rfl, rfl⟩ := trodAll_nil r2
  obtain rfl : args = #[v0, v1, v2] := by cases args; simp_all
  obtain ⟨rfl, rfl⟩ := trodVars_none hV
  obtain ⟨a0, len0, cap0, rfl⟩ := okWide_slice Tryd.underlying22 (hval 0 22 v0 rfl rfl)
  have k0 := h0
  have lt0 : ∀ x ∈ p0, x.block < W.heap.size := by obtain ⟨m, hm⟩ := k0; exact DataW.trod_lt m _ _ _ hm
  obtain ⟨z0, w0, l0⟩ : ∃ zs, Nb W W.heap.size a0 len0 cap0 zs ∧ len0 ≤ 140737488351232 := by
    obtain ⟨fuel, hf⟩ := h0
    rcases open_ints Tryd.underlying22 Tryd.underlying5 (by kernel_rfl) hf with ⟨hcs, _⟩ | ⟨x, l, c, zs, hcs, _, hl, hm, hz, hd, hcell, hwz⟩
    · simp [Value.cells] at hcs
      obtain ⟨rfl, rfl, rfl⟩ := hcs
      exact ⟨[], Nb.nil _ _ 0 (by omega) none, by omega⟩
    · simp [Value.cells] at hcs
      obtain ⟨rfl, rfl, rfl⟩ := hcs
      have hd1 := congrArg Prod.fst hd
      simp only at hd1
      subst hd1
      have hr := sized_slice hsz (j := 0) (t := 22) (e := 5) rfl rfl Tryd.underlying22
      rw [show Tryd.prog.bytesOf 5 = 1 by kernel_rfl] at hr
      simp only [lits, List.length_map, List.length_take, List.length_drop, reachBytes] at hr
      have hz' : zs.length = cap0 := by simpa using hz
      exact ⟨_, nb_of_row hl hm hz' hcell hwz, by omega⟩
  obtain ⟨a1, len1, cap1, rfl⟩ := okWide_slice Tryd.underlying22 (hval 1 22 v1 rfl rfl)
  have k1 := h1
  have lt1 : ∀ x ∈ p1, x.block < W.heap.size := by obtain ⟨m, hm⟩ := k1; exact DataW.trod_lt m _ _ _ hm
  obtain ⟨z1, w1, l1⟩ : ∃ zs, Nb W W.heap.size a1 len1 cap1 zs ∧ len1 ≤ 140737488351232 := by
    obtain ⟨fuel, hf⟩ := h1
    rcases open_ints Tryd.underlying22 Tryd.underlying5 (by kernel_rfl) hf with ⟨hcs, _⟩ | ⟨x, l, c, zs, hcs, _, hl, hm, hz, hd, hcell, hwz⟩
    · simp [Value.cells] at hcs
      obtain ⟨rfl, rfl, rfl⟩ := hcs
      exact ⟨[], Nb.nil _ _ 0 (by omega) none, by omega⟩
    · simp [Value.cells] at hcs
      obtain ⟨rfl, rfl, rfl⟩ := hcs
      have hd1 := congrArg Prod.fst hd
      simp only at hd1
      subst hd1
      have hr := sized_slice hsz (j := 1) (t := 22) (e := 5) rfl rfl Tryd.underlying22
      rw [show Tryd.prog.bytesOf 5 = 1 by kernel_rfl] at hr
      simp only [lits, List.length_map, List.length_take, List.length_drop, reachBytes] at hr
      have hz' : zs.length = cap1 := by simpa using hz
      exact ⟨_, nb_of_row hl hm hz' hcell hwz, by omega⟩
  obtain ⟨a2, rfl, rfl, rfl, w2⟩ := open_int Tryd.underlying3 (hval 2 3 v2 rfl rfl) h2
  clear hA0 hval0
  refine (law_any (of_laid hL) w0 l0 w1 l1 a2 w2).mono fun e W' ⟨he, bel⟩ => ?_
  subst he
  exact ⟨_, rfl, _, _, _, [], _, [], hW', trodAll_mk1 (shut_bool Tryd.underlying4 _), (trodAll_cons_mk (Below.trod laidOut (by kernel_rfl) (of_decide_eq_true (by kernel_rfl)) k0 bel lt0) (trodAll_cons_mk (Below.trod laidOut (by kernel_rfl) (of_decide_eq_true (by kernel_rfl)) k1 bel lt1) (trodAll_cons_mk (shut_int Tryd.underlying3 w2) trodAll_mk0))), rfl, bel.frame _, fun h => by cases h⟩

theorem shaKeyed_holds : Rows.ShaKeyedSaid :=
  OpenClaim.holds_of_wide 4 Tryd.f4 rfl rfl rfl rfl rfl rfl rfl ⟨rfl, rfl, rfl, rfl, rfl⟩ rfl rfl rfl rfl rfl (by kernel_rfl) Tryd.func4 (by kernel_rfl)
    (of_decide_eq_true (by kernel_rfl)) (by unfold Func.isWrapper; first | (rw [if_pos (by decide +kernel)]; kernel_rfl) | (rw [if_neg (by decide +kernel)]; exact ⟨rfl, rfl⟩))
    (fun os started H enc _ => lifted os started H enc)
theorem shaKeyed_card : Rows.ShaKeyedCardSaid :=
  Claim7.holds_tied_plain_at .later [] [.data] true (true, "756ddd86ea3c962c140c4e725a86db090a64aa718640d7001e1255f4caa8afae") false
    shaKeyed_holds (fun _ h => by cases h) (by kernel_rfl) (fun _ h => by cases h) shaKeyed_row_tie rfl ⟨rfl, rfl⟩ (by kernel_rfl) rfl
    (fun f fn hf hfn => by
      obtain rfl : f = 4 := Option.some.inj ((show Tryd.prog.funcNamed "clepsydra/clepsydralaw02.ShaKeyed" = some 4 by kernel_rfl).symm.trans hf) |>.symm
      obtain rfl : fn = Tryd.f4 := (Option.some.inj (Tryd.func4.symm.trans hfn)).symm
      exact ⟨by kernel_rfl, fun j t ht => by
        rw [Tryd.params4] at ht
        have hm : t ∈ [22, 22, 3] := by simpa using Array.mem_of_getElem? ht
        have hall : ([22, 22, 3].all fun u => !Tryd.prog.wantsStandIn u) = true := by kernel_rfl
        exact (show Tryd.prog.wantsStandIn t = false by simpa using List.all_eq_true.1 hall t hm)⟩)
    (by kernel_rfl)
#print axioms shaKeyed_card
end Go.Proofs.YtnkkjfkchmlogaaDoor.shaKeyedP
