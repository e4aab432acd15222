/- For every row of bytes and every two ints the Go function ShaPieces returns true and leaves its arguments as they were. No condition beside the card's own (the constants are laid as the text lays them). -/
import Derived.Test.YtnkkjfkchmlogaaDoorCuts
import Derived.Test.YtnkkjfkchmlogaaDoorShell
import Derived.BigRegion
namespace Go.Proofs.YtnkkjfkchmlogaaDoor.shaPiecesP
open Go.ChangeShapes Go.WideShapes Go.ChangeAt Go.RowKit
set_option linter.unusedVariables false
set_option maxRecDepth 100000

section
variable {P : Program} {ops : Array Oper} {Q : Exit → Act → World → Prop} {md : Region.Mode}
theorem take_op {i d : Nat} {o : Oper} {v : Value} {fuel : Nat} {listed : Array Bool} {a a' : Act} {w : World} (hi : ops[i]? = some o)
    (hs : Region.noSelect ops = true) (hf : Region.free md ops listed i = true) (hr : (Region.ready md ops listed).contains i = true)
    (hQ : ∀ c a w, Q (.panic c) (a.put (some d) v) w → Q (.panic c) a w) (hdst : o.dst = some d)
    (hw : Region.wanted o (yielded ops a.tmps) = true) (hy : ∀ w, (execOp a.eval o).run P w = .ok (.value v) w) (hd : a.put (some d) v = a')
    (g : wpAny P md ops Q fuel (listed.setIfInBounds i true) a' w) : wpAny P md ops Q (fuel + 1) listed a w :=
  wpAny_take hi hs hf hr (by rw [hdst]; exact hQ) (Or.inl ⟨hw, hy⟩) (by rw [hdst, hd]; exact g)
end

set_option maxHeartbeats 4000000 in
theorem law_fit {W : World} (hk : Ks W) {A : Option Addr} {n c : Nat} {x : List Nat} (hx : Nb W W.heap.size A n c x) (i k : Nat) (hn : n ≤ 4000) (hik : i ≤ k) (hkn : k ≤ n) :
    Calls Tryd.prog 8 #[.slice A n c, .int .i64 i, .int .i64 k] W (Yes W) := by
  have hsz := hk.size
  have hr := hx.room
  have hc := hx.cap
  have hLx := Lib.hid hx.len
  obtain ⟨D, hD⟩ : ∃ D, sha x = D := ⟨_, rfl⟩
  have heq := eq_arr D (by rw [← hD, length_sha])
  have HD := Lib.hid hD
  clear hD
  obtain ⟨A1, c1, q1, p1⟩ := cut_h hx i (by omega)
  obtain ⟨A2, c2, q2, p2⟩ := cut_lh hx i k hik hkn
  obtain ⟨A3, c3, q3, p3⟩ := cut_l hx k hkn
  obtain ⟨A4, c4, q4, p4⟩ := cut_h hx k hkn
  have e2 : x.take i ++ (x.drop i).take (k - i) = x.take k := by
    have := List.take_add (l := x) (i := i) (j := k - i)
    rw [← this, show i + (k - i) = k by omega]
  have e3 : x.take k ++ x.drop k = x := List.take_append_drop k x
  have E2 := Lib.hid e2
  have E3 := Lib.hid e3
  have l1 : (x.take i).length = i := by rw [List.length_take, hx.len]; omega
  have l2 : (x.take k).length = k := by rw [List.length_take, hx.len]; omega
  have L1 := Lib.hid l1
  have L2 := Lib.hid l2
  clear e2 e3 l1 l2
  go_enter Tryd.func8, Tryd.ntmps8
  go_wp2_with fail
  refine (new_any W).mono ?_
  rintro e w1 ⟨rfl, g1, b1⟩
  have B1 := b1
  have hs1 := g1.lt
  go_wp2_with fail
  refine (write_any (hk.below B1 hsz) g1 (p1.far B1) (by simp; omega) (by omega)).mono ?_
  rintro e w2 ⟨rfl, g2, q5⟩
  rw [List.nil_append] at g2
  have B2 := below_write B1 q5 (Nat.le_refl _) (Nat.le_refl _)
  go_wp2_with fail
  refine (write_any (hk.below B2 hsz) g2 (p2.far B2) (by rw [L1.out]; omega) (by omega)).mono ?_
  rintro e w3 ⟨rfl, g3, q6⟩
  rw [E2.out] at g3
  have B3 := below_write B2 q6 (Nat.le_refl _) (Nat.le_refl _)
  go_wp2_with fail
  refine (write_any (hk.below B3 hsz) g3 (p3.far B3) (by rw [L2.out]; omega) (by omega)).mono ?_
  rintro e w4 ⟨rfl, g4, q7⟩
  rw [E3.out] at g4
  have B4 := below_write B3 q7 (Nat.le_refl _) (Nat.le_refl _)
  clear g1 g2 g3 q5 q6 q7 B1 B2 B3 b1
  have hG := Lib.hid (g4.grown (w' := w4.drew) (row := none) ⟨rfl, rfl, rfl, Nat.le_refl _, fun _ _ _ => rfl⟩ (fun _ e => by cases e))
  have hB := Lib.hid (below_drew B4)
  have HS : Hid (∀ w lo g, Ks w → HashAt w lo g x → Calls Tryd.prog 23 #[.pointer (some ⟨g, 0, none⟩)] w fun e w' => e = .returned (.agg (bs D).toArray) ∧ Below w.heap.size w w') := fun w lo g h1 h2 => by
    rw [← HD.out]; exact sumOf_any h1 h2
  have HT : Hid (∀ w, Ks w → Nb w w.heap.size A n c x → Calls Tryd.prog 14 #[.slice A n c] w fun e w' => e = .returned (.agg (bs D).toArray) ∧ Below w.heap.size w w') := fun w h1 h2 => by
    rw [← HD.out]; exact sum_any h1 h2 (by omega)
  have HU : Hid (∀ w, Ks w → Nb w w.heap.size A4 k c4 (x.take k) → Nb w w.heap.size A3 (n - k) c3 (x.drop k) → Calls Tryd.prog 18 #[.slice A4 k c4, .slice A3 (n - k) c3] w fun e w' => e = .returned (.agg (bs D).toArray) ∧ Below w.heap.size w w') := fun w h1 h2 h3 => by
    have := keyed_any h1 h2 h3 (by omega)
    rwa [E3.out, HD.out] at this
  have Hx := Lib.hid hx
  have P3 := Lib.hid p3
  have P4 := Lib.hid p4
  have Hk := Lib.hid hk
  clear g4 B4 hx p1 p2 p3 p4 q1 q2 hk E2 E3 L1 L2 hLx
  go_wp2_with fail
  refine wp_region_any (by kernel_rfl) ?_
  change wpAny _ _ _ _ _ _ _ (World.drew _)
  refine wpAny_ready (rs := [0]) (by kernel_rfl) (by simp) ?_
  refine AllReady.cons rfl (fun K hK => ?_) AllReady.nil
  go_simp
  go_at_call 12
  refine (alive_any (Hk.out.below hB.out hsz)).mono ?_
  rintro e wn ⟨rfl, bn⟩
  replace hG := Lib.hid (hG.out.below bn)
  replace hB := Lib.hid (then_ hB.out bn)
  clear bn
  dsimp only
  try go_simp
  refine hK _ _ ?_
  clear hK K
  refine take_op (i := 1) (d := 57) (v := .bool true) (a' := _) (by rfl) (by kernel_rfl) (by kernel_rfl) (by kernel_rfl) (fun _ _ _ h => h) (by rfl) (by rfl) (fun W => by go_simp; try rfl) (by go_simp; exact rfl) ?_
  refine take_op (i := 2) (d := 58) (v := .pointer (some ⟨W.heap.size, 0, none⟩)) (a' := _) (by rfl) (by kernel_rfl) (by kernel_rfl) (by kernel_rfl) (fun _ _ _ h => h) (by rfl) (by rfl) (fun W => by go_simp; try rfl) (by go_simp; exact rfl) ?_
  refine take_op (i := 4) (d := 60) (v := .slice A n c) (a' := _) (by rfl) (by kernel_rfl) (by kernel_rfl) (by kernel_rfl) (fun _ _ _ h => h) (by rfl) (by rfl) (fun W => by go_simp; try rfl) (by go_simp; exact rfl) ?_
  refine wpAny_ready (rs := [3]) (by kernel_rfl) (by simp) ?_
  refine AllReady.cons rfl (fun K hK => ?_) AllReady.nil
  go_simp
  go_at_call 23
  refine (HS.out _ _ _ (Hk.out.below hB.out hsz) hG.out).mono ?_
  rintro e wn ⟨rfl, bn⟩
  replace hG := Lib.hid (hG.out.below bn)
  replace hB := Lib.hid (then_ hB.out bn)
  clear bn
  dsimp only
  try go_simp
  refine hK _ _ ?_
  clear hK K
  refine wpAny_ready (rs := [5]) (by kernel_rfl) (by simp) ?_
  refine AllReady.cons rfl (fun K hK => ?_) AllReady.nil
  go_simp
  go_at_call 14
  refine (HT.out _ (Hk.out.below hB.out hsz) (Hx.out.far hB.out)).mono ?_
  rintro e wn ⟨rfl, bn⟩
  replace hG := Lib.hid (hG.out.below bn)
  replace hB := Lib.hid (then_ hB.out bn)
  clear bn
  dsimp only
  try go_simp
  refine hK _ _ ?_
  clear hK K
  refine take_op (i := 6) (d := 62) (v := .bool true) (a' := _) (by rfl) (by kernel_rfl) (by kernel_rfl) (by kernel_rfl) (fun _ _ _ h => h) (by rfl) (by rfl) (fun W => by go_simp; try rfl) (by go_simp; exact rfl) ?_
  refine take_op (i := 7) (d := 63) (v := .bool true) (a' := _) (by rfl) (by kernel_rfl) (by kernel_rfl) (by kernel_rfl) (fun _ _ _ h => h) (by rfl) (by rfl) (fun W => by go_simp; try rfl) (by go_simp; exact rfl) ?_
  refine take_op (i := 8) (d := 64) (v := .bool true) (a' := _) (by rfl) (by kernel_rfl) (by kernel_rfl) (by kernel_rfl) (fun _ _ _ h => h) (by rfl) (by rfl) (fun W => by go_simp; try rfl) (by go_simp; exact rfl) ?_
  refine take_op (i := 9) (d := 65) (v := .slice A n c) (a' := _) (by rfl) (by kernel_rfl) (by kernel_rfl) (by kernel_rfl) (fun _ _ _ h => h) (by rfl) (by rfl) (fun W => by go_simp; try rfl) (by go_simp; exact rfl) ?_
  refine take_op (i := 10) (d := 66) (v := .int .i64 k) (a' := _) (by rfl) (by kernel_rfl) (by kernel_rfl) (by kernel_rfl) (fun _ _ _ h => h) (by rfl) (by rfl) (fun W => by go_simp; try rfl) (by go_simp; exact rfl) ?_
  refine take_op (i := 11) (d := 67) (v := .slice A4 k c4) (a' := _) (by rfl) (by kernel_rfl) (by kernel_rfl) (by kernel_rfl) (fun _ _ _ h => h) (by rfl) (by rfl) (fun W => by go_simp; try rfl) (by go_simp; exact rfl) ?_
  refine take_op (i := 12) (d := 68) (v := .slice A n c) (a' := _) (by rfl) (by kernel_rfl) (by kernel_rfl) (by kernel_rfl) (fun _ _ _ h => h) (by rfl) (by rfl) (fun W => by go_simp; try rfl) (by go_simp; exact rfl) ?_
  refine take_op (i := 13) (d := 69) (v := .int .i64 k) (a' := _) (by rfl) (by kernel_rfl) (by kernel_rfl) (by kernel_rfl) (fun _ _ _ h => h) (by rfl) (by rfl) (fun W => by go_simp; try rfl) (by go_simp; exact rfl) ?_
  refine take_op (i := 14) (d := 70) (v := .slice A3 (n - k) c3) (a' := _) (by rfl) (by kernel_rfl) (by kernel_rfl) (by kernel_rfl) (fun _ _ _ h => h) (by rfl) (by rfl) (fun W => by go_simp; try rfl) (by go_simp; exact rfl) ?_
  refine take_op (i := 16) (d := 72) (v := .slice A n c) (a' := _) (by rfl) (by kernel_rfl) (by kernel_rfl) (by kernel_rfl) (fun _ _ _ h => h) (by rfl) (by rfl) (fun W => by go_simp; try rfl) (by go_simp; exact rfl) ?_
  refine wpAny_ready (rs := [15]) (by kernel_rfl) (by simp) ?_
  refine AllReady.cons rfl (fun K hK => ?_) AllReady.nil
  go_simp
  go_at_call 18
  refine (HU.out _ (Hk.out.below hB.out hsz) (P4.out.far hB.out) (P3.out.far hB.out)).mono ?_
  rintro e wn ⟨rfl, bn⟩
  replace hG := Lib.hid (hG.out.below bn)
  replace hB := Lib.hid (then_ hB.out bn)
  clear bn
  dsimp only
  try go_simp
  refine hK _ _ ?_
  clear hK K
  refine wpAny_ready (rs := [17]) (by kernel_rfl) (by simp) ?_
  refine AllReady.cons rfl (fun K hK => ?_) AllReady.nil
  go_simp
  go_at_call 14
  refine (HT.out _ (Hk.out.below hB.out hsz) (Hx.out.far hB.out)).mono ?_
  rintro e wn ⟨rfl, bn⟩
  replace hG := Lib.hid (hG.out.below bn)
  replace hB := Lib.hid (then_ hB.out bn)
  clear bn
  dsimp only
  try go_simp
  refine hK _ _ ?_
  clear hK K
  refine take_op (i := 18) (d := 74) (v := .bool true) (a' := _) (by rfl) (by kernel_rfl) (by kernel_rfl) (by kernel_rfl) (fun _ _ _ h => h) (by rfl) (by rfl) (fun W => by go_simp; try rfl) (by go_simp; exact rfl) ?_
  refine take_op (i := 19) (d := 75) (v := .bool true) (a' := _) (by rfl) (by kernel_rfl) (by kernel_rfl) (by kernel_rfl) (fun _ _ _ h => h) (by rfl) (by rfl) (fun W => by go_simp; try rfl) (by go_simp; exact rfl) ?_
  refine take_op (i := 20) (d := 6) (v := .bool true) (a' := _) (by rfl) (by kernel_rfl) (by kernel_rfl) (by kernel_rfl) (fun _ _ _ h => h) (by rfl) (by rfl) (fun W => by go_simp; try rfl) (by go_simp; exact rfl) ?_
  refine wpAny_done (by kernel_rfl) ?_ _
  go_wp2
  go_ret
  exact ⟨rfl, hB.out⟩

set_option maxHeartbeats 4000000 in
theorem law_any {W : World} (hk : Ks W) {A : Option Addr} {n c : Nat} {x : List Nat} (hx : Nb W W.heap.size A n c x) (lx : n ≤ 140737488351232) (i : Int) (hi : (Lit.int .i64 i).wf = true) (k : Int) (hkk : (Lit.int .i64 k).wf = true) :
    Calls Tryd.prog 8 #[.slice A n c, .int .i64 i, .int .i64 k] W (Yes W) := by
  have hsz := hk.size
  have hr := hx.room
  have hc := hx.cap
  by_cases y0 : 4000 < n
  · go_enter Tryd.func8, Tryd.ntmps8
    go_wp2_with fail
    refine (alive_any hk).mono ?_
    rintro e w1 ⟨rfl, b1⟩
    go_wp2_with fail
    go_ret
    exact ⟨rfl, b1⟩
  by_cases y1 : i < 0
  · go_enter Tryd.func8, Tryd.ntmps8
    go_wp2_with fail
    refine (alive_any hk).mono ?_
    rintro e w1 ⟨rfl, b1⟩
    go_wp2_with fail
    go_ret
    exact ⟨rfl, b1⟩
  by_cases y2 : (n : Int) < i
  · go_enter Tryd.func8, Tryd.ntmps8
    go_wp2_with fail
    refine (alive_any hk).mono ?_
    rintro e w1 ⟨rfl, b1⟩
    go_wp2_with fail
    go_ret
    exact ⟨rfl, b1⟩
  by_cases y3 : k < i
  · go_enter Tryd.func8, Tryd.ntmps8
    go_wp2_with fail
    refine (alive_any hk).mono ?_
    rintro e w1 ⟨rfl, b1⟩
    go_wp2_with fail
    go_ret
    exact ⟨rfl, b1⟩
  by_cases y4 : (n : Int) < k
  · go_enter Tryd.func8, Tryd.ntmps8
    go_wp2_with fail
    refine (alive_any hk).mono ?_
    rintro e w1 ⟨rfl, b1⟩
    go_wp2_with fail
    go_ret
    exact ⟨rfl, b1⟩
  obtain ⟨i, rfl⟩ := Int.eq_ofNat_of_zero_le (show 0 ≤ i by omega)
  obtain ⟨k, rfl⟩ := Int.eq_ofNat_of_zero_le (show 0 ≤ k by omega)
  have hn : n ≤ 4000 := by omega
  have hik : i ≤ k := by omega
  have hkn : k ≤ n := by omega
  exact law_fit hk hx i k hn hik hkn

set_option maxRecDepth 100000 in
theorem door_met (os : Os) (args : Array Value) : laidMetH Tryd.prog [("clepsydra/sha.constants", Rows.laid_clepsydra_sha_constants)] ((World.doorLaid Tryd.prog 4000 os).forCall (fun _ _ => 0) ⟨#[], args, []⟩).memory :=
  laidMetH_of_parts3 (fuel := 8) (laidMet_of_run' 8 (by kernel_rfl) (by kernel_rfl)) (by kernel_rfl) (by kernel_rfl)
set_option maxRecDepth 100000 in
theorem lifted (os : Os) (started : os.Started) (H : Type) (enc : TypeId × Value → H) :
    ReturnsInHanded {} Tryd.checked os 8 .any (fun w args => (Rows.shaPiecesSpec.pre enc Tryd.prog Tryd.f8 [] false w args ∧ laidMetH Tryd.prog [("clepsydra/sha.constants", Rows.laid_clepsydra_sha_constants)] w) ∧ sizedMet enc Tryd.prog Tryd.f8 (OpenSpec.ofChange Rows.shaPiecesSpec) false w args)
      (Rows.shaPiecesSpec.post enc Tryd.prog Tryd.f8 false true false false) := by
  refine returnsInHanded_of_change_and (C := Tryd.checked) (X := fun w _ => laidMetH Tryd.prog [("clepsydra/sha.constants", Rows.laid_clepsydra_sha_constants)] w) (fun _ _ _ hh h => h.of_heap hh) own started (by kernel_rfl) Tryd.func8
    (ChangeSpec.witness_shaped (enc := enc) (C := Tryd.checked) (os := os) (X := fun w _ => laidMetH Tryd.prog [("clepsydra/sha.constants", Rows.laid_clepsydra_sha_constants)] w) false (World.doorLaid Tryd.prog 4000 os) #[.slice none 0 0, .int .i64 0, .int .i64 0] 8 rfl (World.shaped_of_RefB (by kernel_rfl) (by kernel_rfl)) (by kernel_rfl) (by kernel_rfl) (by kernel_rfl) (door_met os _)) ?_
  intro W base args ds gs before hval0 hW _ hsz0 hL _
  have hsz : (DataW.weightsEach Tryd.prog (Tryd.f8.params.toList ++ Rows.shaPiecesSpec.plain.varTypes Tryd.prog) (ds ++ gs)).all (· ≤ reachBytes) = true := hsz0
  have hval : ∀ (j : Nat) t v, Tryd.f8.params[j]? = some t → args[j]? = some v → Value.okWide Tryd.prog W .any base t v := hval0
  have hW' := hW
  obtain ⟨p, q, hA0, hV, rfl, hfz, hnd⟩ := hW
  have hA : DataW.TrodAll enc Tryd.prog W 0 (fun _ => true) true Tryd.f8.params.toList args.toList ds p := hA0
  rw [Tryd.params8] at hA hval hsz
  obtain ⟨v0, vs0, d0, ds0, p0, q0, hargs, rfl, rfl, h0, r0⟩ := trodAll_cons hA
  obtain ⟨v1, vs1, d1, ds1, p1, q1, rfl, rfl, rfl, h1, r1⟩ := trodAll_cons r0
  obtain ⟨v2, vs2, d2, ds2, p2, q2, rfl, rfl, rfl, h2, r2⟩ := trodAll_cons r1
  obtain ⟨rfl, rfl, rfl⟩ := trodAll_nil r2
  obtain rfl : args = #[v0, v1, v2] := by cases args; simp_all
  obtain ⟨rfl, rfl⟩ := trodVars_none hV
  obtain ⟨a0, len0, cap0, rfl⟩ := okWide_slice Tryd.underlying22 (hval 0 22 v0 rfl rfl)
  have k0 := h0
  have lt0 : ∀ x ∈ p0, x.block < W.heap.size := by obtain ⟨m, hm⟩ := k0; exact DataW.trod_lt m _ _ _ hm
  obtain ⟨z0, w0, l0⟩ : ∃ zs, Nb W W.heap.size a0 len0 cap0 zs ∧ len0 ≤ 140737488351232 := by
    obtain ⟨fuel, hf⟩ := h0
    rcases open_ints Tryd.underlying22 Tryd.underlying5 (by kernel_rfl) hf with ⟨hcs, _⟩ | ⟨x, l, c, zs, hcs, _, hl, hm, hz, hd, hcell, hwz⟩
    · simp [Value.cells] at hcs
      obtain ⟨rfl, rfl, rfl⟩ := hcs
      exact ⟨[], Nb.nil _ _ 0 (by omega) none, by omega⟩
    · simp [Value.cells] at hcs
      obtain ⟨rfl, rfl, rfl⟩ := hcs
      have hd1 := congrArg Prod.fst hd
      simp only at hd1
      subst hd1
      have hr := sized_slice hsz (j := 0) (t := 22) (e := 5) rfl rfl Tryd.underlying22
      rw [show Tryd.prog.bytesOf 5 = 1 by kernel_rfl] at hr
      simp only [lits, List.length_map, List.length_take, List.length_drop, reachBytes] at hr
      have hz' : zs.length = cap0 := by simpa using hz
      exact ⟨_, nb_of_row hl hm hz' hcell hwz, by omega⟩
  obtain ⟨a1, rfl, rfl, rfl, w1⟩ := open_int Tryd.underlying3 (hval 1 3 v1 rfl rfl) h1
  obtain ⟨a2, rfl, rfl, rfl, w2⟩ := open_int Tryd.underlying3 (hval 2 3 v2 rfl rfl) h2
  clear hA0 hval0
  refine (law_any (of_laid hL) w0 l0 a1 w1 a2 w2).mono fun e W' ⟨he, bel⟩ => ?_
  subst he
  exact ⟨_, rfl, _, _, _, [], _, [], hW', trodAll_mk1 (shut_bool Tryd.underlying4 _), (trodAll_cons_mk (Below.trod laidOut (by kernel_rfl) (of_decide_eq_true (by kernel_rfl)) k0 bel lt0) (trodAll_cons_mk (shut_int Tryd.underlying3 w1) (trodAll_cons_mk (shut_int Tryd.underlying3 w2) trodAll_mk0))), rfl, bel.frame _, fun h => by cases h⟩

theorem shaPieces_holds : Rows.ShaPiecesSaid :=
  OpenClaim.holds_of_wide 8 Tryd.f8 rfl rfl rfl rfl rfl rfl rfl ⟨rfl, rfl, rfl, rfl, rfl⟩ rfl rfl rfl rfl rfl (by kernel_rfl) Tryd.func8 (by kernel_rfl)
    (of_decide_eq_true (by kernel_rfl)) (by unfold Func.isWrapper; first | (rw [if_pos (by decide +kernel)]; kernel_rfl) | (rw [if_neg (by decide +kernel)]; exact ⟨rfl, rfl⟩))
    (fun os started H enc _ => lifted os started H enc)
theorem shaPieces_card : Rows.ShaPiecesCardSaid :=
  Claim7.holds_tied_plain_at .later [] [.data] true (true, "756ddd86ea3c962c140c4e725a86db090a64aa718640d7001e1255f4caa8afae") false
    shaPieces_holds (fun _ h => by cases h) (by kernel_rfl) (fun _ h => by cases h) shaPieces_row_tie rfl ⟨rfl, rfl⟩ (by kernel_rfl) rfl
    (fun f fn hf hfn => by
      obtain rfl : f = 8 := Option.some.inj ((show Tryd.prog.funcNamed "clepsydra/clepsydralaw02.ShaPieces" = some 8 by kernel_rfl).symm.trans hf) |>.symm
      obtain rfl : fn = Tryd.f8 := (Option.some.inj (Tryd.func8.symm.trans hfn)).symm
      exact ⟨by kernel_rfl, fun j t ht => by
        rw [Tryd.params8] at ht
        have hm : t ∈ [22, 3, 3] := by simpa using Array.mem_of_getElem? ht
        have hall : ([22, 3, 3].all fun u => !Tryd.prog.wantsStandIn u) = true := by kernel_rfl
        exact (show Tryd.prog.wantsStandIn t = false by simpa using List.all_eq_true.1 hall t hm)⟩)
    (by kernel_rfl)
#print axioms shaPieces_card
end Go.Proofs.YtnkkjfkchmlogaaDoor.shaPiecesP
