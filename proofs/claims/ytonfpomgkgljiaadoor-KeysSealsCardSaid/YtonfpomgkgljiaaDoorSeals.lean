/- For every four uint32 and every two rows of bytes the Go function KeysSeals returns true and leaves its arguments as they were. No condition beside the card's own (the constants are laid as the text lays them). -/
import Derived.Test.YtonfpomgkgljiaaDoorK9
import Derived.Deep.RegionHeld3
namespace Go.Proofs.YtonfpomgkgljiaaDoor.keysSealsP
open Go.ChangeShapes Go.WideShapes Go.ChangeAt Go.RowKit
set_option linter.unusedVariables false
set_option maxRecDepth 100000


theorem u32_nat {a : Int} (w : (Lit.int .u32 a).wf = true) : ∃ y : Nat, a = (y : Int) ∧ y < 4294967296 := by
  simp [Lit.wf, IntKind.min, IntKind.max, IntKind.signed, IntKind.bits] at w
  exact ⟨a.toNat, by omega, by omega⟩
theorem i64_lim {a : Int} (w : (Lit.int .i64 a).wf = true) : -9223372036854775808 ≤ a ∧ a ≤ 9223372036854775807 := by
  simp [Lit.wf, IntKind.min, IntKind.max, IntKind.signed, IntKind.bits] at w
  omega

set_option maxHeartbeats 8000000 in
theorem law_any {W : World} (hk : Ks W) (a : Nat) (ha : a < 4294967296) (b : Nat) (hb : b < 4294967296) (c : Nat) (hc : c < 4294967296) (d : Nat) (hd : d < 4294967296) {A : Option Addr} {n cc : Nat} {x : List Nat} (hx : Nb W W.heap.size A n cc x) (lx : n ≤ 140737488351232) {A2 : Option Addr} {n2 cc2 : Nat} {y : List Nat} (hy : Nb W W.heap.size A2 n2 cc2 y) (ly : n2 ≤ 140737488351232) :
    Calls Tryd.prog 5 #[.int .u32 (a : Int), .int .u32 (b : Int), .int .u32 (c : Int), .int .u32 (d : Int), .slice A n cc, .slice A2 n2 cc2] W (Yes W) := by
  have hsz := hk.size
  have hr := hx.room
  have hcp := hx.cap
  have hr2 := hy.room
  have hcp2 := hy.cap
  by_cases y0 : 300 < n
  · go_enter Tryd.func5, Tryd.ntmps5
    go_wp2_with fail
    refine (alive_any hk).mono ?_
    rintro e w1 ⟨rfl, b1⟩
    go_wp2_with fail
    go_ret
    exact ⟨rfl, b1⟩
  by_cases y1 : 300 < n2
  · go_enter Tryd.func5, Tryd.ntmps5
    go_wp2_with fail
    refine (alive_any hk).mono ?_
    rintro e w1 ⟨rfl, b1⟩
    go_wp2_with fail
    go_ret
    exact ⟨rfl, b1⟩
  obtain ⟨S, hS⟩ : ∃ S, bstr (mac y x) = S := ⟨_, rfl⟩
  obtain ⟨T, hT⟩ : ∃ T, bstr (mac (sess a b c d) x) = T := ⟨_, rfl⟩
  obtain ⟨Z, hZ⟩ : ∃ Z, bstr y = Z := ⟨_, rfl⟩
  have HS := Lib.hid hS
  have HT := Lib.hid hT
  have HZ := Lib.hid hZ
  have hself := eq_self S
  have G1 := Lib.hid (rsession_any a b c d ha hb hc hd W)
  have G2 := Lib.hid (fun (w : World) (k : Ks w) (h1 : Nb w w.heap.size A2 n2 cc2 y) (h2 : Nb w w.heap.size A n cc x) => mac_any k h1 h2 (by omega))
  have G3 := Lib.hid (fun (w : World) (h1 : Nb w w.heap.size A2 n2 cc2 y) (h2 : Nb w w.heap.size A n cc x) => rmac_any h1 h2 (by omega))
  have G4 := Lib.hid (fun (w : World) (k : Ks w) (h1 : Nb w w.heap.size A n cc x) (h2 : Nb w w.heap.size A2 n2 cc2 y) => sealed_any k a b c d ha hb hc hd h1 h2 (by omega))
  clear hS hT hZ ha hb hc hd lx ly
  go_enter Tryd.func5, Tryd.ntmps5
  go_wp2_with fail
  refine G1.out.mono ?_
  rintro e w1 ⟨A3, c3, rfl, n3, B1⟩
  go_wp2_with fail
  refine (rmac_any n3 (hx.far B1) (by omega)).mono ?_
  rintro e w4 ⟨A4, c4, rfl, n4, b4⟩
  have B4 := then_ B1 b4
  clear n3 B1 b4
  go_wp2_with fail
  have Bd : Below W.heap.size W w4.drew := B4.drew
  have kd := Lib.hid (hk.below Bd hsz)
  have nd : Nb w4.drew w4.drew.heap.size A4 16 c4 (mac (sess a b c d) x) := ⟨n4.len, n4.cap, n4.room, n4.lim, n4.cell⟩
  have v0 := conv_any nd
  rw [HT.out] at v0
  have u0 := conv_any (hy.far Bd)
  rw [HZ.out] at u0
  clear B4 n4
  go_region_held (fun w' => (convert 23 9 (.slice A2 n2 cc2)).run Tryd.prog w' = .ok (.string Z) w' ∧ (convert 23 9 (.slice A4 16 c4)).run Tryd.prog w' = .ok (.string T) w')
    (first | exact ⟨u8, v8⟩ | exact ⟨u7, v7⟩ | exact ⟨u6, v6⟩ | exact ⟨u5, v5⟩ | exact ⟨u0, v0⟩)
    ((first
    | (go_at_call 9; refine (alive_any kd.out).mono ?_; rintro e w5 ⟨rfl, b5⟩
       have B5 := then_ Bd b5
       have k5 := Lib.hid (hk.below B5 hsz)
       have m5 := nd.far b5
       have v5 := conv_any m5
       rw [HT.out] at v5
       have u5 := conv_any (hy.far B5)
       rw [HZ.out] at u5)
    | (go_at_call 24; refine (G2.out _ k5.out (hy.far B5) (hx.far B5)).mono ?_; rintro e w6 ⟨A6, c6, rfl, p6, _, b6⟩
       have B6 := then_ B5 b6
       have m6 := m5.far b6
       have v6 := conv_any m6
       rw [HT.out] at v6
       have u6 := conv_any (hy.far B6)
       rw [HZ.out] at u6
       have t6 := conv_any p6
       rw [HS.out] at t6)
    | (go_at_call 23; refine (G3.out _ (hy.far B6) (hx.far B6)).mono ?_; rintro e w7 ⟨A7, c7, rfl, p7, b7⟩
       have B7 := then_ B6 b7
       have k7 := Lib.hid (hk.below B7 hsz)
       have m7 := m6.far b7
       have v7 := conv_any m7
       rw [HT.out] at v7
       have u7 := conv_any (hy.far B7)
       rw [HZ.out] at u7
       have t7 := conv_any (p6.far b7)
       rw [HS.out] at t7
       have s7 := conv_any p7
       rw [HS.out] at s7)
    | (go_at_call 25; refine (G4.out _ k7.out (hx.far B7) (hy.far B7)).mono ?_; rintro e w8 ⟨rfl, b8⟩
       have B8 := then_ B7 b8
       have m8 := m7.far b8
       have v8 := conv_any m8
       rw [HT.out] at v8
       have u8 := conv_any (hy.far B8)
       rw [HZ.out] at u8
       rw [HT.out, HZ.out])))
  all_goals go_wp2
  all_goals go_ret
  all_goals exact ⟨rfl, B8⟩

set_option maxRecDepth 100000 in
theorem door_met (os : Os) (args : Array Value) : laidMetH Tryd.prog [("clepsydra/sha.constants", Rows.laid_clepsydra_sha_constants)] ((World.doorLaid Tryd.prog 4000 os).forCall (fun _ _ => 0) ⟨#[], args, []⟩).memory :=
  laidMetH_of_parts3 (fuel := 8) (laidMet_of_run' 8 (by kernel_rfl) (by kernel_rfl)) (by kernel_rfl) (by kernel_rfl)
set_option maxRecDepth 100000 in
theorem lifted (os : Os) (started : os.Started) (H : Type) (enc : TypeId × Value → H) :
    ReturnsInHanded {} Tryd.checked os 5 .any (fun w args => (Rows.keysSealsSpec.pre enc Tryd.prog Tryd.f5 [] false w args ∧ laidMetH Tryd.prog [("clepsydra/sha.constants", Rows.laid_clepsydra_sha_constants)] w) ∧ sizedMet enc Tryd.prog Tryd.f5 (OpenSpec.ofChange Rows.keysSealsSpec) false w args)
      (Rows.keysSealsSpec.post enc Tryd.prog Tryd.f5 false true false false) := by
  refine returnsInHanded_of_change_and (C := Tryd.checked) (X := fun w _ => laidMetH Tryd.prog [("clepsydra/sha.constants", Rows.laid_clepsydra_sha_constants)] w) (fun _ _ _ hh h => h.of_heap hh) own started (by kernel_rfl) Tryd.func5
    (ChangeSpec.witness_shaped (enc := enc) (C := Tryd.checked) (os := os) (X := fun w _ => laidMetH Tryd.prog [("clepsydra/sha.constants", Rows.laid_clepsydra_sha_constants)] w) false (World.doorLaid Tryd.prog 4000 os) #[.int .u32 0, .int .u32 0, .int .u32 0, .int .u32 0, .slice none 0 0, .slice none 0 0] 8 rfl (World.shaped_of_RefB (by kernel_rfl) (by kernel_rfl)) (by kernel_rfl) (by kernel_rfl) (by kernel_rfl) (door_met os _)) ?_
  intro W base args ds gs before hval0 hW _ hsz0 hL _
  have hsz : (DataW.weightsEach Tryd.prog (Tryd.f5.params.toList ++ Rows.keysSealsSpec.plain.varTypes Tryd.prog) (ds ++ gs)).all (· ≤ reachBytes) = true := hsz0
  have hval : ∀ (j : Nat) t v, Tryd.f5.params[j]? = some t → args[j]? = some v → Value.okWide Tryd.prog W .any base t v := hval0
  have hW' := hW
  obtain ⟨p, q, hA0, hV, rfl, hfz, hnd⟩ := hW
  have hA : DataW.TrodAll enc Tryd.prog W 0 (fun _ => true) true Tryd.f5.params.toList args.toList ds p := hA0
  rw [Tryd.params5] at hA hval hsz
  obtain ⟨v0, vs0, d0, ds0, p0, q0, hargs, rfl, rfl, h0, r0⟩ := trodAll_cons hA
  obtain ⟨v1, vs1, d1, ds1, p1, q1, rfl, rfl, rfl, h1, r1⟩ := trodAll_cons r0
  obtain ⟨v2, vs2, d2, ds2, p2, q2, rfl, rfl, rfl, h2, r2⟩ := trodAll_cons r1
  obtain ⟨v3, vs3, d3, ds3, p3, q3, rfl, rfl, rfl, h3, r3⟩ := trodAll_cons r2
  obtain ⟨v4, vs4, d4, ds4, p4, q4, rfl, rfl, rfl, h4, r4⟩ := trodAll_cons r3
  obtain ⟨v5, vs5, d5, ds5, p5, q5, rfl, rfl, rfl, h5, r5⟩ := trodAll_cons r4
  obtain ⟨rfl, rfl, rfl⟩ := trodAll_nil r5
  obtain rfl : args = #[v0, v1, v2, v3, v4, v5] := by cases args; simp_all
  obtain ⟨rfl, rfl⟩ := trodVars_none hV
  obtain ⟨a0, rfl, rfl, rfl, w0⟩ := open_int Tryd.underlying22 (hval 0 22 v0 rfl rfl) h0
  obtain ⟨y0, rfl, u0⟩ := u32_nat w0
  obtain ⟨a1, rfl, rfl, rfl, w1⟩ := open_int Tryd.underlying22 (hval 1 22 v1 rfl rfl) h1
  obtain ⟨y1, rfl, u1⟩ := u32_nat w1
  obtain ⟨a2, rfl, rfl, rfl, w2⟩ := open_int Tryd.underlying22 (hval 2 22 v2 rfl rfl) h2
  obtain ⟨y2, rfl, u2⟩ := u32_nat w2
  obtain ⟨a3, rfl, rfl, rfl, w3⟩ := open_int Tryd.underlying22 (hval 3 22 v3 rfl rfl) h3
  obtain ⟨y3, rfl, u3⟩ := u32_nat w3
  obtain ⟨a4, len4, cap4, rfl⟩ := okWide_slice Tryd.underlying23 (hval 4 23 v4 rfl rfl)
  have k4 := h4
  have lt4 : ∀ x ∈ p4, x.block < W.heap.size := by obtain ⟨m, hm⟩ := k4; exact DataW.trod_lt m _ _ _ hm
  obtain ⟨z4, w4, l4⟩ : ∃ zs, Nb W W.heap.size a4 len4 cap4 zs ∧ len4 ≤ 140737488351232 := by
    obtain ⟨fuel, hf⟩ := h4
    rcases open_ints Tryd.underlying23 Tryd.underlying5 (by kernel_rfl) hf with ⟨hcs, _⟩ | ⟨x, l, c, zs, hcs, _, hl, hm, hz, hd, hcell, hwz⟩
    · simp [Value.cells] at hcs
      obtain ⟨rfl, rfl, rfl⟩ := hcs
      exact ⟨[], Nb.nil _ _ 0 (by omega) none, by omega⟩
    · simp [Value.cells] at hcs
      obtain ⟨rfl, rfl, rfl⟩ := hcs
      have hd1 := congrArg Prod.fst hd
      simp only at hd1
      subst hd1
      have hr := sized_slice hsz (j := 4) (t := 23) (e := 5) rfl rfl Tryd.underlying23
      rw [show Tryd.prog.bytesOf 5 = 1 by kernel_rfl] at hr
      simp only [lits, List.length_map, List.length_take, List.length_drop, reachBytes] at hr
      have hz' : zs.length = cap4 := by simpa using hz
      exact ⟨_, nb_of_row hl hm hz' hcell hwz, by omega⟩
  obtain ⟨a5, len5, cap5, rfl⟩ := okWide_slice Tryd.underlying23 (hval 5 23 v5 rfl rfl)
  have k5 := h5
  have lt5 : ∀ x ∈ p5, x.block < W.heap.size := by obtain ⟨m, hm⟩ := k5; exact DataW.trod_lt m _ _ _ hm
  obtain ⟨z5, w5, l5⟩ : ∃ zs, Nb W W.heap.size a5 len5 cap5 zs ∧ len5 ≤ 140737488351232 := by
    obtain ⟨fuel, hf⟩ := h5
    rcases open_ints Tryd.underlying23 Tryd.underlying5 (by kernel_rfl) hf with ⟨hcs, _⟩ | ⟨x, l, c, zs, hcs, _, hl, hm, hz, hd, hcell, hwz⟩
    · simp [Value.cells] at hcs
      obtain ⟨rfl, rfl, rfl⟩ := hcs
      exact ⟨[], Nb.nil _ _ 0 (by omega) none, by omega⟩
    · simp [Value.cells] at hcs
      obtain ⟨rfl, rfl, rfl⟩ := hcs
      have hd1 := congrArg Prod.fst hd
      simp only at hd1
      subst hd1
      have hr := sized_slice hsz (j := 5) (t := 23) (e := 5) rfl rfl Tryd.underlying23
      rw [show Tryd.prog.bytesOf 5 = 1 by kernel_rfl] at hr
      simp only [lits, List.length_map, List.length_take, List.length_drop, reachBytes] at hr
      have hz' : zs.length = cap5 := by simpa using hz
      exact ⟨_, nb_of_row hl hm hz' hcell hwz, by omega⟩
  clear hA0 hval0
  refine (law_any (of_laid hL) y0 u0 y1 u1 y2 u2 y3 u3 w4 l4 w5 l5).mono fun e W' ⟨he, bel⟩ => ?_
  subst he
  exact ⟨_, rfl, _, _, _, [], _, [], hW', trodAll_mk1 (shut_bool Tryd.underlying4 _), (trodAll_cons_mk (shut_int Tryd.underlying22 w0) (trodAll_cons_mk (shut_int Tryd.underlying22 w1) (trodAll_cons_mk (shut_int Tryd.underlying22 w2) (trodAll_cons_mk (shut_int Tryd.underlying22 w3) (trodAll_cons_mk (Below.trod laidOut (by kernel_rfl) (of_decide_eq_true (by kernel_rfl)) k4 bel lt4) (trodAll_cons_mk (Below.trod laidOut (by kernel_rfl) (of_decide_eq_true (by kernel_rfl)) k5 bel lt5) trodAll_mk0)))))), rfl, bel.frame _, fun h => by cases h⟩

theorem keysSeals_holds : Rows.KeysSealsSaid :=
  OpenClaim.holds_of_wide 5 Tryd.f5 rfl rfl rfl rfl rfl rfl rfl ⟨rfl, rfl, rfl, rfl, rfl⟩ rfl rfl rfl rfl rfl (by kernel_rfl) Tryd.func5 (by kernel_rfl)
    (of_decide_eq_true (by kernel_rfl)) (by unfold Func.isWrapper; first | (rw [if_pos (by decide +kernel)]; kernel_rfl) | (rw [if_neg (by decide +kernel)]; exact ⟨rfl, rfl⟩))
    (fun os started H enc _ => lifted os started H enc)
theorem keysSeals_card : Rows.KeysSealsCardSaid :=
  Claim7.holds_tied_plain_at .later [] [.data] true (true, "617e8454327dcfca1ef8da7a863af921872fb1b4ef4e4026e0a71b044e7f5b69") false
    keysSeals_holds (fun _ h => by cases h) (by kernel_rfl) (fun _ h => by cases h) keysSeals_row_tie rfl ⟨rfl, rfl⟩ (by kernel_rfl) rfl
    (fun f fn hf hfn => by
      obtain rfl : f = 5 := Option.some.inj ((show Tryd.prog.funcNamed "clepsydra/clepsydralaw11.KeysSeals" = some 5 by kernel_rfl).symm.trans hf) |>.symm
      obtain rfl : fn = Tryd.f5 := (Option.some.inj (Tryd.func5.symm.trans hfn)).symm
      exact ⟨by kernel_rfl, fun j t ht => by
        rw [Tryd.params5] at ht
        have hm : t ∈ [22, 22, 22, 22, 23, 23] := by simpa using Array.mem_of_getElem? ht
        have hall : ([22, 22, 22, 22, 23, 23].all fun u => !Tryd.prog.wantsStandIn u) = true := by kernel_rfl
        exact (show Tryd.prog.wantsStandIn t = false by simpa using List.all_eq_true.1 hall t hm)⟩)
    (by kernel_rfl)
#print axioms keysSeals_card
end Go.Proofs.YtonfpomgkgljiaaDoor.keysSealsP
