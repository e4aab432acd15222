/- For every two rows of bytes and every int the Go function ShaAsked returns true and leaves its arguments as they were. No condition beside the card's own (the constants are laid as the text lays them). -/
import Derived.Test.YtnkkjfkchmlogaaDoorSteps
import Derived.Test.YtnkkjfkchmlogaaDoorShell
namespace Go.Proofs.YtnkkjfkchmlogaaDoor.shaAskedP
open Go.ChangeShapes Go.WideShapes Go.ChangeAt Go.RowKit
set_option linter.unusedVariables false
set_option maxRecDepth 100000


set_option maxHeartbeats 4000000 in
theorem law_any {W : World} (hk : Ks W) {A B : Option Addr} {na ca nb cb : Nat} {x y : List Nat} (ha : Nb W W.heap.size A na ca x) (la : na ≤ 140737488351232) (hb : Nb W W.heap.size B nb cb y) (lb : nb ≤ 140737488351232) (t : Int) (ht : (Lit.int .i64 t).wf = true) :
    Calls Tryd.prog 9 #[.slice A na ca, .slice B nb cb, .int .i64 t] W (Yes W) := by
  have hsz := hk.size
  have hra := ha.room
  have hrb := hb.room
  have hca := ha.cap
  have hcb := hb.cap
  have hLa := Lib.hid ha.len
  have hLb := Lib.hid hb.len
  by_cases hlong : 4000 < na + nb
  · go_enter Tryd.func9, Tryd.ntmps9
    go_wp2_with fail
    refine (alive_any hk).mono ?_
    rintro e w1 ⟨rfl, b1⟩
    go_wp2_with fail
    go_ret
    exact ⟨rfl, b1⟩
  have hshort : na + nb ≤ 4000 := by omega
  obtain ⟨D, hD⟩ : ∃ D, sha x = D := ⟨_, rfl⟩
  have hDl : D.length = 32 := by rw [← hD, length_sha]
  have hne := neq_arr D hDl
  obtain ⟨E, hE⟩ : ∃ E, sha (x ++ y) = E := ⟨_, rfl⟩
  have heq := eq_arr E (by rw [← hE, length_sha])
  have HD := Lib.hid hD
  have HE := Lib.hid hE
  clear hD hDl hE hlong
  go_enter Tryd.func9, Tryd.ntmps9
  go_wp2_with fail
  refine (new_any W).mono ?_
  rintro e w1 ⟨rfl, g1, b1⟩
  go_wp2_with fail
  refine (new_any w1).mono ?_
  rintro e w2 ⟨rfl, h2, b2⟩
  have g2 := g1.below b2
  have B2 := then_ b1 b2
  have hs1 := g1.lt
  have hs2 := h2.lt
  go_wp2_with fail
  refine (write_any (hk.below B2 hsz) g2 (ha.far B2) (by simp; omega) (by omega)).mono ?_
  rintro e w3 ⟨rfl, g3, q3⟩
  rw [List.nil_append] at g3
  have h3 := h2.grown q3 (fun q e => by cases e; exact ⟨by omega, by omega⟩)
  have B3 := below_write B2 q3 (Nat.le_refl _) (Nat.le_refl _)
  have hs3 := q3.size
  go_wp2_with fail
  refine (write_any (hk.below B3 hsz) h3 (ha.far B3) (by simp; omega) (by have := b1.size; omega)).mono ?_
  rintro e w4 ⟨rfl, h4, q4⟩
  rw [List.nil_append] at h4
  have g4 := g3.grown q4 (fun q e => by cases e; exact ⟨by omega, by omega⟩)
  have B4 := below_write B3 q4 (by have := b1.size; omega) (Nat.le_refl _)
  have hs4 := q4.size
  have hw1 := b1.size
  clear g1 g2 g3 h2 h3 q3 q4 B2 B3 b1 b2
  go_wp2_with fail
  go_loopw [9] (fun i wr => ∃ k : Nat, k ≤ 4 ∧ i = .int .i64 k ∧ HashAt wr w2.heap.size W.heap.size x ∧ HashAt wr w3.heap.size w1.heap.size x ∧ Below W.heap.size W wr) (fun i _ => 4 - (intOf i).toNat)
  case atStart => exact ⟨0, by omega, rfl, g4, h4, B4⟩
  case round =>
    clear g4 h4 B4
    obtain ⟨k, hk4, rfl, g5, h5, B5⟩ := hrel
    by_cases c1 : (k : Int) < t ∧ k < 4
    · obtain ⟨c1, c2⟩ := c1
      have hs := sumOf_any (hk.below B5 hsz) h5
      rw [HD.out] at hs
      have Hs := Lib.hid hs
      clear hs
      go_wp2_with fail
      refine Hs.out.mono ?_
      rintro e w6 ⟨rfl, b6⟩
      have g6 := g5.below b6
      have h6 := h5.below b6
      have B6 := then_ B5 b6
      have hs := sum_any (hk.below B6 hsz) (ha.far B6) (by omega)
      rw [HD.out] at hs
      go_wp2_with fail
      refine hs.mono ?_
      rintro e w7 ⟨rfl, b7⟩
      have g7 := g6.below b7
      have h7 := h6.below b7
      have B7 := then_ B6 b7
      clear hs g5 g6 h5 h6 B5 B6 b6 b7 Hs
      go_wp2_with fail
      go_roundw
      case rel => exact ⟨k + 1, by omega, by go_num, g7, h7, B7⟩
      case measure => simp [intOf]; omega
    · have hgo : ¬ ((k : Int) < t) ∨ 4 ≤ k := by omega
      clear c1
      have hfin : ∀ c : Bool, True := fun _ => trivial
      clear hfin
      by_cases c2 : (k : Int) < t
      · have c3 : 4 ≤ k := by omega
        clear hgo
        go_wp2_with fail
        refine (write_any (hk.below B5 hsz) g5 (hb.far B5) (by rw [hLa.out]; omega) (by omega)).mono ?_
        rintro e w8 ⟨rfl, g8, q8⟩
        have h8 := h5.grown q8 (fun q e => by cases e; exact ⟨by omega, by omega⟩)
        have B8 := below_write B5 q8 (Nat.le_refl _) (Nat.le_refl _)
        go_wp2_with fail
        refine (write_any (hk.below B8 hsz) h8 (hb.far B8) (by rw [hLa.out]; omega) (by omega)).mono ?_
        rintro e w9 ⟨rfl, h9, q9⟩
        have g9 := g8.grown q9 (fun q e => by cases e; exact ⟨by omega, by have := g5.top; omega⟩)
        have B9 := below_write B8 q9 (by omega) (Nat.le_refl _)
        clear g5 h5 B5 g8 h8 q8 q9 B8
        go_wp2_with fail
        refine (alive_any (hk.below B9 hsz)).mono ?_
        rintro e w10 ⟨rfl, b10⟩
        have g10 := g9.below b10
        have h10 := h9.below b10
        have B10 := then_ B9 b10
        go_wp2_with fail
        have hs := sumOf_any (hk.below B10 hsz) g10
        rw [HE.out] at hs
        refine hs.mono ?_
        rintro e w11 ⟨rfl, b11⟩
        have g11 := g10.below b11
        have h11 := h10.below b11
        have B11 := then_ B10 b11
        go_wp2_with fail
        have hs := sumOf_any (hk.below B11 hsz) h11
        rw [HE.out] at hs
        refine hs.mono ?_
        rintro e w12 ⟨rfl, b12⟩
        have g12 := g11.below b12
        have B12 := then_ B11 b12
        go_wp2_with fail
        have hl := len_any g12
        rw [List.length_append, hLa.out, hLb.out, show ((na + nb : Nat) : Int) = (na : Int) + (nb : Int) by omega] at hl
        refine hl.mono ?_
        rintro e w13 ⟨rfl, rfl⟩
        go_wp2_with fail
        go_ret
        exact ⟨rfl, B12⟩
      · have c3 : t ≤ (k : Int) := by omega
        clear hgo c2
        go_wp2_with fail
        refine (write_any (hk.below B5 hsz) g5 (hb.far B5) (by rw [hLa.out]; omega) (by omega)).mono ?_
        rintro e w8 ⟨rfl, g8, q8⟩
        have h8 := h5.grown q8 (fun q e => by cases e; exact ⟨by omega, by omega⟩)
        have B8 := below_write B5 q8 (Nat.le_refl _) (Nat.le_refl _)
        go_wp2_with fail
        refine (write_any (hk.below B8 hsz) h8 (hb.far B8) (by rw [hLa.out]; omega) (by omega)).mono ?_
        rintro e w9 ⟨rfl, h9, q9⟩
        have g9 := g8.grown q9 (fun q e => by cases e; exact ⟨by omega, by have := g5.top; omega⟩)
        have B9 := below_write B8 q9 (by omega) (Nat.le_refl _)
        clear g5 h5 B5 g8 h8 q8 q9 B8
        go_wp2_with fail
        refine (alive_any (hk.below B9 hsz)).mono ?_
        rintro e w10 ⟨rfl, b10⟩
        have g10 := g9.below b10
        have h10 := h9.below b10
        have B10 := then_ B9 b10
        go_wp2_with fail
        have hs := sumOf_any (hk.below B10 hsz) g10
        rw [HE.out] at hs
        refine hs.mono ?_
        rintro e w11 ⟨rfl, b11⟩
        have g11 := g10.below b11
        have h11 := h10.below b11
        have B11 := then_ B10 b11
        go_wp2_with fail
        have hs := sumOf_any (hk.below B11 hsz) h11
        rw [HE.out] at hs
        refine hs.mono ?_
        rintro e w12 ⟨rfl, b12⟩
        have g12 := g11.below b12
        have B12 := then_ B11 b12
        go_wp2_with fail
        have hl := len_any g12
        rw [List.length_append, hLa.out, hLb.out, show ((na + nb : Nat) : Int) = (na : Int) + (nb : Int) by omega] at hl
        refine hl.mono ?_
        rintro e w13 ⟨rfl, rfl⟩
        go_wp2_with fail
        go_ret
        exact ⟨rfl, B12⟩

set_option maxRecDepth 100000 in
theorem door_met (os : Os) (args : Array Value) : laidMetH Tryd.prog [("clepsydra/sha.constants", Rows.laid_clepsydra_sha_constants)] ((World.doorLaid Tryd.prog 4000 os).forCall (fun _ _ => 0) ⟨#[], args, []⟩).memory :=
  laidMetH_of_parts3 (fuel := 8) (laidMet_of_run' 8 (by kernel_rfl) (by kernel_rfl)) (by kernel_rfl) (by kernel_rfl)
set_option maxRecDepth 100000 in
theorem lifted (os : Os) (started : os.Started) (H : Type) (enc : TypeId × Value → H) :
    ReturnsInHanded {} Tryd.checked os 9 .any (fun w args => (Rows.shaAskedSpec.pre enc Tryd.prog Tryd.f9 [] false w args ∧ laidMetH Tryd.prog [("clepsydra/sha.constants", Rows.laid_clepsydra_sha_constants)] w) ∧ sizedMet enc Tryd.prog Tryd.f9 (OpenSpec.ofChange Rows.shaAskedSpec) false w args)
      (Rows.shaAskedSpec.post enc Tryd.prog Tryd.f9 false true false false) := by
  refine returnsInHanded_of_change_and (C := Tryd.checked) (X := fun w _ => laidMetH Tryd.prog [("clepsydra/sha.constants", Rows.laid_clepsydra_sha_constants)] w) (fun _ _ _ hh h => h.of_heap hh) own started (by kernel_rfl) Tryd.func9
    (ChangeSpec.witness_shaped (enc := enc) (C := Tryd.checked) (os := os) (X := fun w _ => laidMetH Tryd.prog [("clepsydra/sha.constants", Rows.laid_clepsydra_sha_constants)] w) false (World.doorLaid Tryd.prog 4000 os) #[.slice none 0 0, .slice none 0 0, .int .i64 0] 8 rfl (World.shaped_of_RefB (by kernel_rfl) (by kernel_rfl)) (by kernel_rfl) (by kernel_rfl) (by kernel_rfl) (door_met os _)) ?_
  intro W base args ds gs before hval0 hW _ hsz0 hL _
  have hsz : (DataW.weightsEach Tryd.prog (Tryd.f9.params.toList ++ Rows.shaAskedSpec.plain.varTypes Tryd.prog) (ds ++ gs)).all (· ≤ reachBytes) = true := hsz0
  have hval : ∀ (j : Nat) t v, Tryd.f9.params[j]? = some t → args[j]? = some v → Value.okWide Tryd.prog W .any base t v := hval0
  have hW' := hW
  obtain ⟨p, q, hA0, hV, rfl, hfz, hnd⟩ := hW
  have hA : DataW.TrodAll enc Tryd.prog W 0 (fun _ => true) true Tryd.f9.params.toList args.toList ds p := hA0
  rw [Tryd.params9] at hA hval hsz
  obtain ⟨v0, vs0, d0, ds0, p0, q0, hargs, rfl, rfl, h0, r0⟩ := trodAll_cons hA
  obtain ⟨v1, vs1, d1, ds1, p1, q1, rfl, rfl, rfl, h1, r1⟩ := trodAll_cons r0
  obtain ⟨v2, vs2, d2, ds2, p2, q2, rfl, rfl, rfl, h2, r2⟩ := trodAll_cons r1
  obtain ⟨rfl, rfl, rfl⟩ := trodAll_nil r2
  obtain rfl : args = #[v0, v1, v2] := by cases args; simp_all
  obtain ⟨rfl, rfl⟩ := trodVars_none hV
  obtain ⟨a0, len0, cap0, rfl⟩ := okWide_slice Tryd.underlying22 (hval 0 22 v0 rfl rfl)
  have k0 := h0
  have lt0 : ∀ x ∈ p0, x.block < W.heap.size := by obtain ⟨m, hm⟩ := k0; exact DataW.trod_lt m _ _ _ hm
  obtain ⟨z0, w0, l0⟩ : ∃ zs, Nb W W.heap.size a0 len0 cap0 zs ∧ len0 ≤ 140737488351232 := by
    obtain ⟨fuel, hf⟩ := h0
    rcases open_ints Tryd.underlying22 Tryd.underlying5 (by kernel_rfl) hf with ⟨hcs, _⟩ | ⟨x, l, c, zs, hcs, _, hl, hm, hz, hd, hcell, hwz⟩
    · simp [Value.cells] at hcs
      obtain ⟨rfl, rfl, rfl⟩ := hcs
      exact ⟨[], Nb.nil _ _ 0 (by omega) none, by omega⟩
    · simp [Value.cells] at hcs
      obtain ⟨rfl, rfl, rfl⟩ := hcs
      have hd1 := congrArg Prod.fst hd
      simp only at hd1
      subst hd1
      have hr := sized_slice hsz (j := 0) (t := 22) (e := 5) rfl rfl Tryd.underlying22
      rw [show Tryd.prog.bytesOf 5 = 1 by kernel_rfl] at hr
      simp only [lits, List.length_map, List.length_take, List.length_drop, reachBytes] at hr
      have hz' : zs.length = cap0 := by simpa using hz
      exact ⟨_, nb_of_row hl hm hz' hcell hwz, by omega⟩
  obtain ⟨a1, len1, cap1, rfl⟩ := okWide_slice Tryd.underlying22 (hval 1 22 v1 rfl rfl)
  have k1 := h1
  have lt1 : ∀ x ∈ p1, x.block < W.heap.size := by obtain ⟨m, hm⟩ := k1; exact DataW.trod_lt m _ _ _ hm
  obtain ⟨z1, w1, l1⟩ : ∃ zs, Nb W W.heap.size a1 len1 cap1 zs ∧ len1 ≤ 140737488351232 := by
    obtain ⟨fuel, hf⟩ := h1
    rcases open_ints Tryd.underlying22 Tryd.underlying5 (by kernel_rfl) hf with ⟨hcs, _⟩ | ⟨x, l, c, zs, hcs, _, hl, hm, hz, hd, hcell, hwz⟩
    · simp [Value.cells] at hcs
      obtain ⟨rfl, rfl, rfl⟩ := hcs
      exact ⟨[], Nb.nil _ _ 0 (by omega) none, by omega⟩
    · simp [Value.cells] at hcs
      obtain ⟨rfl, rfl, rfl⟩ := hcs
      have hd1 := congrArg Prod.fst hd
      simp only at hd1
      subst hd1
      have hr := sized_slice hsz (j := 1) (t := 22) (e := 5) rfl rfl Tryd.underlying22
      rw [show Tryd.prog.bytesOf 5 = 1 by kernel_rfl] at hr
      simp only [lits, List.length_map, List.length_take, List.length_drop, reachBytes] at hr
      have hz' : zs.length = cap1 := by simpa using hz
      exact ⟨_, nb_of_row hl hm hz' hcell hwz, by omega⟩
  obtain ⟨a2, rfl, rfl, rfl, w2⟩ := open_int Tryd.underlying3 (hval 2 3 v2 rfl rfl) h2
  clear hA0 hval0
  refine (law_any (of_laid hL) w0 l0 w1 l1 a2 w2).mono fun e W' ⟨he, bel⟩ => ?_
  subst he
  exact ⟨_, rfl, _, _, _, [], _, [], hW', trodAll_mk1 (shut_bool Tryd.underlying4 _), (trodAll_cons_mk (Below.trod laidOut (by kernel_rfl) (of_decide_eq_true (by kernel_rfl)) k0 bel lt0) (trodAll_cons_mk (Below.trod laidOut (by kernel_rfl) (of_decide_eq_true (by kernel_rfl)) k1 bel lt1) (trodAll_cons_mk (shut_int Tryd.underlying3 w2) trodAll_mk0))), rfl, bel.frame _, fun h => by cases h⟩

theorem shaAsked_holds : Rows.ShaAskedSaid :=
  OpenClaim.holds_of_wide 9 Tryd.f9 rfl rfl rfl rfl rfl rfl rfl ⟨rfl, rfl, rfl, rfl, rfl⟩ rfl rfl rfl rfl rfl (by kernel_rfl) Tryd.func9 (by kernel_rfl)
    (of_decide_eq_true (by kernel_rfl)) (by unfold Func.isWrapper; first | (rw [if_pos (by decide +kernel)]; kernel_rfl) | (rw [if_neg (by decide +kernel)]; exact ⟨rfl, rfl⟩))
    (fun os started H enc _ => lifted os started H enc)
theorem shaAsked_card : Rows.ShaAskedCardSaid :=
  Claim7.holds_tied_plain_at .later [] [.data] true (true, "756ddd86ea3c962c140c4e725a86db090a64aa718640d7001e1255f4caa8afae") false
    shaAsked_holds (fun _ h => by cases h) (by kernel_rfl) (fun _ h => by cases h) shaAsked_row_tie rfl ⟨rfl, rfl⟩ (by kernel_rfl) rfl
    (fun f fn hf hfn => by
      obtain rfl : f = 9 := Option.some.inj ((show Tryd.prog.funcNamed "clepsydra/clepsydralaw02.ShaAsked" = some 9 by kernel_rfl).symm.trans hf) |>.symm
      obtain rfl : fn = Tryd.f9 := (Option.some.inj (Tryd.func9.symm.trans hfn)).symm
      exact ⟨by kernel_rfl, fun j t ht => by
        rw [Tryd.params9] at ht
        have hm : t ∈ [22, 22, 3] := by simpa using Array.mem_of_getElem? ht
        have hall : ([22, 22, 3].all fun u => !Tryd.prog.wantsStandIn u) = true := by kernel_rfl
        exact (show Tryd.prog.wantsStandIn t = false by simpa using List.all_eq_true.1 hall t hm)⟩)
    (by kernel_rfl)
#print axioms shaAsked_card
end Go.Proofs.YtnkkjfkchmlogaaDoor.shaAskedP
