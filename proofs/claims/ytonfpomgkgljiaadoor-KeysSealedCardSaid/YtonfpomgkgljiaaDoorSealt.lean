/- For every four uint32, every row of bytes and every int the Go function KeysSealed returns true and leaves its arguments as they were. No condition beside the card's own (the constants are laid as the text lays them). -/
import Derived.Test.YtonfpomgkgljiaaDoorK10
import Derived.Deep.RegionHeld3
namespace Go.Proofs.YtonfpomgkgljiaaDoor.keysSealedP
open Go.ChangeShapes Go.WideShapes Go.ChangeAt Go.RowKit
set_option linter.unusedVariables false
set_option maxRecDepth 100000


theorem u32_nat {a : Int} (w : (Lit.int .u32 a).wf = true) : ∃ y : Nat, a = (y : Int) ∧ y < 4294967296 := by
  simp [Lit.wf, IntKind.min, IntKind.max, IntKind.signed, IntKind.bits] at w
  exact ⟨a.toNat, by omega, by omega⟩
theorem i64_lim {a : Int} (w : (Lit.int .i64 a).wf = true) : -9223372036854775808 ≤ a ∧ a ≤ 9223372036854775807 := by
  simp [Lit.wf, IntKind.min, IntKind.max, IntKind.signed, IntKind.bits] at w
  omega

set_option maxHeartbeats 4000000 in
theorem law_any {W : World} (hk : Ks W) (a : Nat) (ha : a < 4294967296) (b : Nat) (hb : b < 4294967296) (c : Nat) (hc : c < 4294967296) (d : Nat) (hd : d < 4294967296) {A : Option Addr} {n cc : Nat} {x : List Nat} (hx : Nb W W.heap.size A n cc x) (lx : n ≤ 140737488351232) (bit : Int) (wb : (Lit.int .i64 bit).wf = true) :
    Calls Tryd.prog 8 #[.int .u32 (a : Int), .int .u32 (b : Int), .int .u32 (c : Int), .int .u32 (d : Int), .slice A n cc, .int .i64 bit] W (Yes W) := by
  have hsz := hk.size
  have hr := hx.room
  have hcp := hx.cap
  by_cases y0 : 2000 < n
  · go_enter Tryd.func8, Tryd.ntmps8
    go_wp2_with fail
    refine (alive_any hk).mono ?_
    rintro e w1 ⟨rfl, b1⟩
    go_wp2_with fail
    go_ret
    exact ⟨rfl, b1⟩
  have hn : n ≤ 2000 := by omega
  have G1 := Lib.hid (session_own hk a b c d ha hb hc hd)
  have G2 := Lib.hid (fun (w : World) (k : Ks w) {A2 : Option Addr} {c2 : Nat} (h1 : Nb w w.heap.size A2 16 c2 (sess a b c d)) (h2 : Nb w w.heap.size A n cc x) => mac_own k h1 h2 (by omega))
  have G4 := Lib.hid (fun (w : World) (k : Ks w) {A2 : Option Addr} {c2 : Nat} {y : List Nat} (h1 : Nb w w.heap.size A n cc x) (h2 : Nb w w.heap.size A2 16 c2 y) => sealed_any k a b c d ha hb hc hd h1 h2 (by omega))
  have hsl := sess_lim a b c d
  have hml := mac_lim (sess a b c d) x
  have hll := mac_len (sess a b c d) x
  have hsn := sess_len a b c d
  obtain ⟨K, hK⟩ : ∃ K, sess a b c d = K := ⟨_, rfl⟩
  obtain ⟨M, hM⟩ : ∃ M, mac (sess a b c d) x = M := ⟨_, rfl⟩
  have HK := Lib.hid hK
  have HM := Lib.hid hM
  rw [hM] at hml hll
  rw [hK] at hsl hsn
  clear hK hM y0 ha hb hc hd lx wb
  go_enter Tryd.func8, Tryd.ntmps8
  go_wp2_with fail
  refine G1.out.mono ?_
  rintro e w1 ⟨A1, c1, rfl, o1, B1⟩
  rw [HK.out] at o1
  obtain ⟨g1, rfl, hg1, hl1⟩ := gb_open o1 (by omega)
  have hr1 := (o1.nb hsl).room
  have hc1 := (o1.nb hsl).cap
  have N1 := Lib.hid (o1.nb hsl)
  go_wp2_with fail
  have h2 := G2.out w1 (hk.below B1 hsz) (by rw [HK.out]; exact N1.out) (hx.far B1)
  rw [HM.out] at h2
  refine h2.mono ?_
  rintro e w2 ⟨A2, c2, rfl, o2, b2⟩
  obtain ⟨g2, rfl, hg2, hl2⟩ := gb_open o2 (by omega)
  have B1s := B1.size
  have B2 := then_ B1 b2
  have p1 := Gb.below o1 b2
  have hr2 := (o2.nb hml).room
  have hc2 := (o2.nb hml).cap
  have N2 := Lib.hid (o2.nb hml)
  clear h2 b2 B1 o1
  go_wp2_with fail
  have h3 := G4.out w2 (hk.below B2 hsz) (hx.far B2) N2.out
  rw [HM.out, eq_self] at h3
  refine h3.mono ?_
  rintro e w3 ⟨rfl, b3⟩
  have B3 := then_ B2 b3
  have q1 := Gb.below p1 b3
  have q2 := Gb.below o2 b3
  clear h3 p1 o2 b3 B2
  obtain ⟨k0, f0⟩ := gb_cell q1 (j := 0) (by omega)
  generalize K.getD 0 0 = z0 at *
  obtain ⟨bn, hbn⟩ : ∃ bn : Nat, bit % 128 = (bn : Int) := ⟨(bit % 128).toNat, by omega⟩
  have hbl : bn < 128 := by omega
  have hq1 := i64_and127 bit
  rw [hbn] at hq1
  obtain ⟨jj, hjj⟩ : ∃ jj, bn / 8 = jj := ⟨_, rfl⟩
  obtain ⟨kk, hkk⟩ : ∃ kk, bn % 8 = kk := ⟨_, rfl⟩
  have hq2 : bits .and .i64 (bn : Int) 7 = (kk : Int) := by rw [i64_and7]; omega
  have hq4 : (bn : Int).tdiv 8 = (jj : Int) := by rw [Int.tdiv_eq_ediv_of_nonneg (by omega)]; omega
  have hq5 : (bn : Int) / 8 = (jj : Int) := by omega
  have hkl : kk < 8 := by omega
  have hj : jj < 16 := by omega
  clear hjj hkk
  obtain ⟨s0, t0⟩ := gb_cell q2 (j := jj) hj
  have hxl := getD_lim hml (by omega) jj
  have Hxg := Lib.hid (show M.getD jj 0 = M.getD jj 0 from rfl)
  obtain ⟨x0, hx0⟩ : ∃ x0, M.getD jj 0 = x0 := ⟨_, rfl⟩
  rw [hx0] at s0 hxl
  have Hx0 := Lib.hid hx0
  clear hx0 Hxg hbn
  obtain ⟨x1, hx1, hx1l, hx1n⟩ := xor_bit kk x0 hkl hxl
  have hgne : g1 ≠ g2 := by omega
  have hgne2 : g2 ≠ g1 := by omega
  go_wp2_with fail
  obtain ⟨w4, e4⟩ : ∃ w4, w4 = (w3.setCell ⟨g1, 0, none⟩ (.int .u8 (bits .xor .u8 (z0 : Int) 255))).setCell ⟨g2, jj, none⟩ (.int .u8 (x1 : Int)) := ⟨_, rfl⟩
  rw [← e4]
  have r4 : Gb w4 w1.heap.size (some ⟨g2, 0, none⟩) 16 c2 (M.set jj x1) := e4 ▸ gb_set (gb_other q2 (p := ⟨g1, 0, none⟩) hgne _) hj x1
  have B4 : Below W.heap.size W w4 := by
    rw [e4]
    exact (B3.setCell (p := ⟨g1, 0, none⟩) (by simp; omega) _).setCell (p := ⟨g2, jj, none⟩) (by have := B1s; simp; omega) _
  have LS : Lim 256 (M.set jj x1) := by
    intro y hy
    rcases List.mem_or_eq_of_mem_set hy with h | h
    · exact hml y h
    · rw [h]; exact hx1l
  have hne : ((bstr (M.set jj x1)).toList == (bstr M).toList) = false := by
    rw [Bool.eq_false_iff]
    intro h
    have h2 := bstr_inj LS hml (by simpa using h)
    have h3 : (M.set jj x1).getD jj 0 = M.getD jj 0 := by rw [h2]
    rw [Hx0.out] at h3
    simp [List.getD, show jj < M.length by omega] at h3
    exact hx1n h3
  clear e4 q1 q2 B3 k0 f0 s0 t0 hx1
  refine (alive_any (hk.below B4 hsz)).mono ?_
  rintro e w5 ⟨rfl, b5⟩
  have B5 := then_ B4 b5
  have r5 := (Gb.below r4 b5).nb LS
  clear r4 b5 B4
  have h6 := G4.out w5 (hk.below B5 hsz) (hx.far B5) r5
  rw [HK.out] at h6
  have HM2 := HM.out
  rw [HK.out] at HM2
  rw [HM2, hne] at h6
  go_wp2_with fail
  refine h6.mono ?_
  rintro e w6 ⟨rfl, b6⟩
  have B6 := then_ B5 b6
  clear h6 r5 B5 b6
  go_wp2_with fail
  go_ret
  exact ⟨rfl, B6⟩

set_option maxRecDepth 100000 in
theorem door_met (os : Os) (args : Array Value) : laidMetH Tryd.prog [("clepsydra/sha.constants", Rows.laid_clepsydra_sha_constants)] ((World.doorLaid Tryd.prog 4000 os).forCall (fun _ _ => 0) ⟨#[], args, []⟩).memory :=
  laidMetH_of_parts3 (fuel := 8) (laidMet_of_run' 8 (by kernel_rfl) (by kernel_rfl)) (by kernel_rfl) (by kernel_rfl)
set_option maxRecDepth 100000 in
theorem lifted (os : Os) (started : os.Started) (H : Type) (enc : TypeId × Value → H) :
    ReturnsInHanded {} Tryd.checked os 8 .any (fun w args => (Rows.keysSealedSpec.pre enc Tryd.prog Tryd.f8 [] false w args ∧ laidMetH Tryd.prog [("clepsydra/sha.constants", Rows.laid_clepsydra_sha_constants)] w) ∧ sizedMet enc Tryd.prog Tryd.f8 (OpenSpec.ofChange Rows.keysSealedSpec) false w args)
      (Rows.keysSealedSpec.post enc Tryd.prog Tryd.f8 false true false false) := by
  refine returnsInHanded_of_change_and (C := Tryd.checked) (X := fun w _ => laidMetH Tryd.prog [("clepsydra/sha.constants", Rows.laid_clepsydra_sha_constants)] w) (fun _ _ _ hh h => h.of_heap hh) own started (by kernel_rfl) Tryd.func8
    (ChangeSpec.witness_shaped (enc := enc) (C := Tryd.checked) (os := os) (X := fun w _ => laidMetH Tryd.prog [("clepsydra/sha.constants", Rows.laid_clepsydra_sha_constants)] w) false (World.doorLaid Tryd.prog 4000 os) #[.int .u32 0, .int .u32 0, .int .u32 0, .int .u32 0, .slice none 0 0, .int .i64 0] 8 rfl (World.shaped_of_RefB (by kernel_rfl) (by kernel_rfl)) (by kernel_rfl) (by kernel_rfl) (by kernel_rfl) (door_met os _)) ?_
  intro W base args ds gs before hval0 hW _ hsz0 hL _
  have hsz : (DataW.weightsEach Tryd.prog (Tryd.f8.params.toList ++ Rows.keysSealedSpec.plain.varTypes Tryd.prog) (ds ++ gs)).all (· ≤ reachBytes) = true := hsz0
  have hval : ∀ (j : Nat) t v, Tryd.f8.params[j]? = some t → args[j]? = some v → Value.okWide Tryd.prog W .any base t v := hval0
  have hW' := hW
  obtain ⟨p, q, hA0, hV, rfl, hfz, hnd⟩ := hW
  have hA : DataW.TrodAll enc Tryd.prog W 0 (fun _ => true) true Tryd.f8.params.toList args.toList ds p := hA0
  rw [Tryd.params8] at hA hval hsz
  obtain ⟨v0, vs0, d0, ds0, p0, q0, hargs, rfl, rfl, h0, r0⟩ := trodAll_cons hA
  obtain ⟨v1, vs1, d1, ds1, p1, q1, rfl, rfl, rfl, h1, r1⟩ := trodAll_cons r0
  obtain ⟨v2, vs2, d2, ds2, p2, q2, rfl, rfl, rfl, h2, r2⟩ := trodAll_cons r1
  obtain ⟨v3, vs3, d3, ds3, p3, q3, rfl, rfl, rfl, h3, r3⟩ := trodAll_cons r2
  obtain ⟨v4, vs4, d4, ds4, p4, q4, rfl, rfl, rfl, h4, r4⟩ := trodAll_cons r3
  obtain ⟨v5, vs5, d5, ds5, p5, q5, rfl, rfl, rfl, h5, r5⟩ := trodAll_cons r4
  obtain ⟨rfl, rfl, rfl⟩ := trodAll_nil r5
  obtain rfl : args = #[v0, v1, v2, v3, v4, v5] := by cases args; simp_all
  obtain ⟨rfl, rfl⟩ := trodVars_none hV
  obtain ⟨a0, rfl, rfl, rfl, w0⟩ := open_int Tryd.underlying22 (hval 0 22 v0 rfl rfl) h0
  obtain ⟨y0, rfl, u0⟩ := u32_nat w0
  obtain ⟨a1, rfl, rfl, rfl, w1⟩ := open_int Tryd.underlying22 (hval 1 22 v1 rfl rfl) h1
  obtain ⟨y1, rfl, u1⟩ := u32_nat w1
  obtain ⟨a2, rfl, rfl, rfl, w2⟩ := open_int Tryd.underlying22 (hval 2 22 v2 rfl rfl) h2
  obtain ⟨y2, rfl, u2⟩ := u32_nat w2
  obtain ⟨a3, rfl, rfl, rfl, w3⟩ := open_int Tryd.underlying22 (hval 3 22 v3 rfl rfl) h3
  obtain ⟨y3, rfl, u3⟩ := u32_nat w3
  obtain ⟨a4, len4, cap4, rfl⟩ := okWide_slice Tryd.underlying23 (hval 4 23 v4 rfl rfl)
  have k4 := h4
  have lt4 : ∀ x ∈ p4, x.block < W.heap.size := by obtain ⟨m, hm⟩ := k4; exact DataW.trod_lt m _ _ _ hm
  obtain ⟨z4, w4, l4⟩ : ∃ zs, Nb W W.heap.size a4 len4 cap4 zs ∧ len4 ≤ 140737488351232 := by
    obtain ⟨fuel, hf⟩ := h4
    rcases open_ints Tryd.underlying23 Tryd.underlying5 (by kernel_rfl) hf with ⟨hcs, _⟩ | ⟨x, l, c, zs, hcs, _, hl, hm, hz, hd, hcell, hwz⟩
    · simp [Value.cells] at hcs
      obtain ⟨rfl, rfl, rfl⟩ := hcs
      exact ⟨[], Nb.nil _ _ 0 (by omega) none, by omega⟩
    · simp [Value.cells] at hcs
      obtain ⟨rfl, rfl, rfl⟩ := hcs
      have hd1 := congrArg Prod.fst hd
      simp only at hd1
      subst hd1
      have hr := sized_slice hsz (j := 4) (t := 23) (e := 5) rfl rfl Tryd.underlying23
      rw [show Tryd.prog.bytesOf 5 = 1 by kernel_rfl] at hr
      simp only [lits, List.length_map, List.length_take, List.length_drop, reachBytes] at hr
      have hz' : zs.length = cap4 := by simpa using hz
      exact ⟨_, nb_of_row hl hm hz' hcell hwz, by omega⟩
  obtain ⟨a5, rfl, rfl, rfl, w5⟩ := open_int Tryd.underlying3 (hval 5 3 v5 rfl rfl) h5
  clear hA0 hval0
  refine (law_any (of_laid hL) y0 u0 y1 u1 y2 u2 y3 u3 w4 l4 a5 w5).mono fun e W' ⟨he, bel⟩ => ?_
  subst he
  exact ⟨_, rfl, _, _, _, [], _, [], hW', trodAll_mk1 (shut_bool Tryd.underlying4 _), (trodAll_cons_mk (shut_int Tryd.underlying22 w0) (trodAll_cons_mk (shut_int Tryd.underlying22 w1) (trodAll_cons_mk (shut_int Tryd.underlying22 w2) (trodAll_cons_mk (shut_int Tryd.underlying22 w3) (trodAll_cons_mk (Below.trod laidOut (by kernel_rfl) (of_decide_eq_true (by kernel_rfl)) k4 bel lt4) (trodAll_cons_mk (shut_int Tryd.underlying3 w5) trodAll_mk0)))))), rfl, bel.frame _, fun h => by cases h⟩

theorem keysSealed_holds : Rows.KeysSealedSaid :=
  OpenClaim.holds_of_wide 8 Tryd.f8 rfl rfl rfl rfl rfl rfl rfl ⟨rfl, rfl, rfl, rfl, rfl⟩ rfl rfl rfl rfl rfl (by kernel_rfl) Tryd.func8 (by kernel_rfl)
    (of_decide_eq_true (by kernel_rfl)) (by unfold Func.isWrapper; first | (rw [if_pos (by decide +kernel)]; kernel_rfl) | (rw [if_neg (by decide +kernel)]; exact ⟨rfl, rfl⟩))
    (fun os started H enc _ => lifted os started H enc)
theorem keysSealed_card : Rows.KeysSealedCardSaid :=
  Claim7.holds_tied_plain_at .later [] [.data] true (true, "617e8454327dcfca1ef8da7a863af921872fb1b4ef4e4026e0a71b044e7f5b69") false
    keysSealed_holds (fun _ h => by cases h) (by kernel_rfl) (fun _ h => by cases h) keysSealed_row_tie rfl ⟨rfl, rfl⟩ (by kernel_rfl) rfl
    (fun f fn hf hfn => by
      obtain rfl : f = 8 := Option.some.inj ((show Tryd.prog.funcNamed "clepsydra/clepsydralaw11.KeysSealed" = some 8 by kernel_rfl).symm.trans hf) |>.symm
      obtain rfl : fn = Tryd.f8 := (Option.some.inj (Tryd.func8.symm.trans hfn)).symm
      exact ⟨by kernel_rfl, fun j t ht => by
        rw [Tryd.params8] at ht
        have hm : t ∈ [22, 22, 22, 22, 23, 3] := by simpa using Array.mem_of_getElem? ht
        have hall : ([22, 22, 22, 22, 23, 3].all fun u => !Tryd.prog.wantsStandIn u) = true := by kernel_rfl
        exact (show Tryd.prog.wantsStandIn t = false by simpa using List.all_eq_true.1 hall t hm)⟩)
    (by kernel_rfl)
#print axioms keysSealed_card
end Go.Proofs.YtonfpomgkgljiaaDoor.keysSealedP
