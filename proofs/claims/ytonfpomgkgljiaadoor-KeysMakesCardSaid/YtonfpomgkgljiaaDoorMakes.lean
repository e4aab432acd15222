/- For every four uint32 and every row of bytes the Go function KeysMakes returns true and leaves its arguments as they were. No condition beside the card's own (the constants are laid as the text lays them). -/
import Derived.Test.YtonfpomgkgljiaaDoorK9
import Derived.Deep.RegionHeld3
namespace Go.Proofs.YtonfpomgkgljiaaDoor.keysMakesP
open Go.ChangeShapes Go.WideShapes Go.ChangeAt Go.RowKit
set_option linter.unusedVariables false
set_option maxRecDepth 100000


theorem u32_nat {a : Int} (w : (Lit.int .u32 a).wf = true) : ∃ y : Nat, a = (y : Int) ∧ y < 4294967296 := by
  simp [Lit.wf, IntKind.min, IntKind.max, IntKind.signed, IntKind.bits] at w
  exact ⟨a.toNat, by omega, by omega⟩
set_option maxHeartbeats 20000000 in
theorem law_any {W : World} (hk : Ks W) (a : Nat) (ha : a < 4294967296) (b : Nat) (hb : b < 4294967296) (c : Nat) (hc : c < 4294967296) (d : Nat) (hd : d < 4294967296) {A : Option Addr} {n cc : Nat} {x : List Nat} (hx : Nb W W.heap.size A n cc x) (lx : n ≤ 140737488351232) :
    Calls Tryd.prog 3 #[.int .u32 (a : Int), .int .u32 (b : Int), .int .u32 (c : Int), .int .u32 (d : Int), .slice A n cc] W (Yes W) := by
  have hsz := hk.size
  have hr := hx.room
  have hcp := hx.cap
  by_cases y0 : 300 < n
  · go_enter Tryd.func3, Tryd.ntmps3
    go_wp2_with fail
    refine (alive_any hk).mono ?_
    rintro e w1 ⟨rfl, b1⟩
    go_wp2_with fail
    go_ret
    exact ⟨rfl, b1⟩
  have hn : n ≤ 300 := by omega
  obtain ⟨S, hS⟩ : ∃ S, bstr (sess a b c d) = S := ⟨_, rfl⟩
  have HS := Lib.hid hS
  have hself := eq_self S
  have G1 := Lib.hid (fun (w : World) (k : Ks w) => session_any k a b c d ha hb hc hd)
  have G2 := Lib.hid (rsession_any a b c d ha hb hc hd)
  have G3 := Lib.hid (fun (w : World) (k : Ks w) => next_any k a b c d ha hb hc hd)
  have G4 := Lib.hid (fun (w : World) => rnext_any (w := w) a b c d ha hb hc hd)
  have G5 := Lib.hid (fun (w : World) (k : Ks w) => cookie_any k a b c ha hb hc)
  have G6 := Lib.hid (fun (w : World) => rcookie_any (w := w) a b c ha hb hc)
  have G7 := Lib.hid (fun (w : World) (k : Ks w) (h : Nb w w.heap.size A n cc x) => bound_any k a b c ha hb hc h (by omega))
  have G8 := Lib.hid (fun (w : World) (h : Nb w w.heap.size A n cc x) => rbound_any a b c ha hb hc h (by omega))
  clear y0 hS ha hb hc hd lx
  go_enter Tryd.func3, Tryd.ntmps3
  go_wp2_with fail
  have Bd : Below W.heap.size W W.drew := (Below.refl _ _).drew
  have kd := Lib.hid (hk.below Bd hsz)
  go_region_held (fun w' => True) (exact trivial)
    ((first
    | (go_at_call 9; refine (alive_any kd.out).mono ?_; rintro e v9 ⟨rfl, b1⟩; have B1 := then_ Bd b1; have k1 := Lib.hid (hk.below B1 hsz))
    | (go_at_call 10; refine (G1.out _ k1.out).mono ?_; rintro e v10 ⟨A2, c2, rfl, n2, _, b2⟩; have B2 := then_ B1 b2; have cv2 := conv_any n2; rw [HS.out] at cv2)
    | (go_at_call 11; refine (G2.out _).mono ?_; rintro e v11 ⟨A3, c3, rfl, n3, b3⟩; have B3 := then_ B2 b3; have k3 := Lib.hid (hk.below B3 hsz); have cv23 := conv_any (n2.far b3); rw [HS.out] at cv23; have cv3 := conv_any n3; rw [HS.out] at cv3)
    | (go_at_call 12; refine (G3.out _ k3.out).mono ?_; rintro e v12 ⟨rfl, b4⟩; have B4 := then_ B3 b4)
    | (go_at_call 13; refine (G4.out _).mono ?_; rintro e v13 ⟨rfl, b5⟩; have B5 := then_ B4 b5; have k5 := Lib.hid (hk.below B5 hsz))
    | (go_at_call 14; refine (G5.out _ k5.out).mono ?_; rintro e v14 ⟨rfl, b6⟩; have B6 := then_ B5 b6)
    | (go_at_call 15; refine (G6.out _).mono ?_; rintro e v15 ⟨rfl, b7⟩; have B7 := then_ B6 b7; have k7 := Lib.hid (hk.below B7 hsz); have x7 := Lib.hid (hx.far B7))
    | (go_at_call 16; refine (G7.out _ k7.out x7.out).mono ?_; rintro e v16 ⟨rfl, b8⟩; have B8 := then_ B7 b8; have x8 := Lib.hid (hx.far B8))
    | (go_at_call 17; refine (G8.out _ x8.out).mono ?_; rintro e v17 ⟨rfl, b9⟩; have B9 := then_ B8 b9)))
  all_goals go_wp2
  all_goals go_ret
  all_goals exact ⟨rfl, B9⟩

set_option maxRecDepth 100000 in
theorem door_met (os : Os) (args : Array Value) : laidMetH Tryd.prog [("clepsydra/sha.constants", Rows.laid_clepsydra_sha_constants)] ((World.doorLaid Tryd.prog 4000 os).forCall (fun _ _ => 0) ⟨#[], args, []⟩).memory :=
  laidMetH_of_parts3 (fuel := 8) (laidMet_of_run' 8 (by kernel_rfl) (by kernel_rfl)) (by kernel_rfl) (by kernel_rfl)
set_option maxRecDepth 100000 in
theorem lifted (os : Os) (started : os.Started) (H : Type) (enc : TypeId × Value → H) :
    ReturnsInHanded {} Tryd.checked os 3 .any (fun w args => (Rows.keysMakesSpec.pre enc Tryd.prog Tryd.f3 [] false w args ∧ laidMetH Tryd.prog [("clepsydra/sha.constants", Rows.laid_clepsydra_sha_constants)] w) ∧ sizedMet enc Tryd.prog Tryd.f3 (OpenSpec.ofChange Rows.keysMakesSpec) false w args)
      (Rows.keysMakesSpec.post enc Tryd.prog Tryd.f3 false true false false) := by
  refine returnsInHanded_of_change_and (C := Tryd.checked) (X := fun w _ => laidMetH Tryd.prog [("clepsydra/sha.constants", Rows.laid_clepsydra_sha_constants)] w) (fun _ _ _ hh h => h.of_heap hh) own started (by kernel_rfl) Tryd.func3
    (ChangeSpec.witness_shaped (enc := enc) (C := Tryd.checked) (os := os) (X := fun w _ => laidMetH Tryd.prog [("clepsydra/sha.constants", Rows.laid_clepsydra_sha_constants)] w) false (World.doorLaid Tryd.prog 4000 os) #[.int .u32 0, .int .u32 0, .int .u32 0, .int .u32 0, .slice none 0 0] 8 rfl (World.shaped_of_RefB (by kernel_rfl) (by kernel_rfl)) (by kernel_rfl) (by kernel_rfl) (by kernel_rfl) (door_met os _)) ?_
  intro W base args ds gs before hval0 hW _ hsz0 hL _
  have hsz : (DataW.weightsEach Tryd.prog (Tryd.f3.params.toList ++ Rows.keysMakesSpec.plain.varTypes Tryd.prog) (ds ++ gs)).all (· ≤ reachBytes) = true := hsz0
  have hval : ∀ (j : Nat) t v, Tryd.f3.params[j]? = some t → args[j]? = some v → Value.okWide Tryd.prog W .any base t v := hval0
  have hW' := hW
  obtain ⟨p, q, hA0, hV, rfl, hfz, hnd⟩ := hW
  have hA : DataW.TrodAll enc Tryd.prog W 0 (fun _ => true) true Tryd.f3.params.toList args.toList ds p := hA0
  rw [Tryd.params3] at hA hval hsz
  obtain ⟨v0, vs0, d0, ds0, p0, q0, hargs, rfl, rfl, h0, r0⟩ := trodAll_cons hA
  obtain ⟨v1, vs1, d1, ds1, p1, q1, rfl, rfl, rfl, h1, r1⟩ := trodAll_cons r0
  obtain ⟨v2, vs2, d2, ds2, p2, q2, rfl, rfl, rfl, h2, r2⟩ := trodAll_cons r1
  obtain ⟨v3, vs3, d3, ds3, p3, q3, rfl, rfl, rfl, h3, r3⟩ := trodAll_cons r2
  obtain ⟨v4, vs4, d4, ds4, p4, q4, rfl, rfl, rfl, h4, r4⟩ := trodAll_cons r3
  obtain ⟨rfl, rfl, rfl⟩ := trodAll_nil r4
  obtain rfl : args = #[v0, v1, v2, v3, v4] := by cases args; simp_all
  obtain ⟨rfl, rfl⟩ := trodVars_none hV
  obtain ⟨a0, rfl, rfl, rfl, w0⟩ := open_int Tryd.underlying22 (hval 0 22 v0 rfl rfl) h0
  obtain ⟨y0, rfl, u0⟩ := u32_nat w0
  obtain ⟨a1, rfl, rfl, rfl, w1⟩ := open_int Tryd.underlying22 (hval 1 22 v1 rfl rfl) h1
  obtain ⟨y1, rfl, u1⟩ := u32_nat w1
  obtain ⟨a2, rfl, rfl, rfl, w2⟩ := open_int Tryd.underlying22 (hval 2 22 v2 rfl rfl) h2
  obtain ⟨y2, rfl, u2⟩ := u32_nat w2
  obtain ⟨a3, rfl, rfl, rfl, w3⟩ := open_int Tryd.underlying22 (hval 3 22 v3 rfl rfl) h3
  obtain ⟨y3, rfl, u3⟩ := u32_nat w3
  obtain ⟨a4, len4, cap4, rfl⟩ := okWide_slice Tryd.underlying23 (hval 4 23 v4 rfl rfl)
  have k4 := h4
  have lt4 : ∀ x ∈ p4, x.block < W.heap.size := by obtain ⟨m, hm⟩ := k4; exact DataW.trod_lt m _ _ _ hm
  obtain ⟨z4, w4, l4⟩ : ∃ zs, Nb W W.heap.size a4 len4 cap4 zs ∧ len4 ≤ 140737488351232 := by
    obtain ⟨fuel, hf⟩ := h4
    rcases open_ints Tryd.underlying23 Tryd.underlying5 (by kernel_rfl) hf with ⟨hcs, _⟩ | ⟨x, l, c, zs, hcs, _, hl, hm, hz, hd, hcell, hwz⟩
    · simp [Value.cells] at hcs
      obtain ⟨rfl, rfl, rfl⟩ := hcs
      exact ⟨[], Nb.nil _ _ 0 (by omega) none, by omega⟩
    · simp [Value.cells] at hcs
      obtain ⟨rfl, rfl, rfl⟩ := hcs
      have hd1 := congrArg Prod.fst hd
      simp only at hd1
      subst hd1
      have hr := sized_slice hsz (j := 4) (t := 23) (e := 5) rfl rfl Tryd.underlying23
      rw [show Tryd.prog.bytesOf 5 = 1 by kernel_rfl] at hr
      simp only [lits, List.length_map, List.length_take, List.length_drop, reachBytes] at hr
      have hz' : zs.length = cap4 := by simpa using hz
      exact ⟨_, nb_of_row hl hm hz' hcell hwz, by omega⟩
  clear hA0 hval0
  refine (law_any (of_laid hL) y0 u0 y1 u1 y2 u2 y3 u3 w4 l4).mono fun e W' ⟨he, bel⟩ => ?_
  subst he
  exact ⟨_, rfl, _, _, _, [], _, [], hW', trodAll_mk1 (shut_bool Tryd.underlying4 _), (trodAll_cons_mk (shut_int Tryd.underlying22 w0) (trodAll_cons_mk (shut_int Tryd.underlying22 w1) (trodAll_cons_mk (shut_int Tryd.underlying22 w2) (trodAll_cons_mk (shut_int Tryd.underlying22 w3) (trodAll_cons_mk (Below.trod laidOut (by kernel_rfl) (of_decide_eq_true (by kernel_rfl)) k4 bel lt4) trodAll_mk0))))), rfl, bel.frame _, fun h => by cases h⟩

theorem keysMakes_holds : Rows.KeysMakesSaid :=
  OpenClaim.holds_of_wide 3 Tryd.f3 rfl rfl rfl rfl rfl rfl rfl ⟨rfl, rfl, rfl, rfl, rfl⟩ rfl rfl rfl rfl rfl (by kernel_rfl) Tryd.func3 (by kernel_rfl)
    (of_decide_eq_true (by kernel_rfl)) (by unfold Func.isWrapper; first | (rw [if_pos (by decide +kernel)]; kernel_rfl) | (rw [if_neg (by decide +kernel)]; exact ⟨rfl, rfl⟩))
    (fun os started H enc _ => lifted os started H enc)
theorem keysMakes_card : Rows.KeysMakesCardSaid :=
  Claim7.holds_tied_plain_at .later [] [.data] true (true, "617e8454327dcfca1ef8da7a863af921872fb1b4ef4e4026e0a71b044e7f5b69") false
    keysMakes_holds (fun _ h => by cases h) (by kernel_rfl) (fun _ h => by cases h) keysMakes_row_tie rfl ⟨rfl, rfl⟩ (by kernel_rfl) rfl
    (fun f fn hf hfn => by
      obtain rfl : f = 3 := Option.some.inj ((show Tryd.prog.funcNamed "clepsydra/clepsydralaw11.KeysMakes" = some 3 by kernel_rfl).symm.trans hf) |>.symm
      obtain rfl : fn = Tryd.f3 := (Option.some.inj (Tryd.func3.symm.trans hfn)).symm
      exact ⟨by kernel_rfl, fun j t ht => by
        rw [Tryd.params3] at ht
        have hm : t ∈ [22, 22, 22, 22, 23] := by simpa using Array.mem_of_getElem? ht
        have hall : ([22, 22, 22, 22, 23].all fun u => !Tryd.prog.wantsStandIn u) = true := by kernel_rfl
        exact (show Tryd.prog.wantsStandIn t = false by simpa using List.all_eq_true.1 hall t hm)⟩)
    (by kernel_rfl)
#print axioms keysMakes_card
end Go.Proofs.YtonfpomgkgljiaaDoor.keysMakesP
