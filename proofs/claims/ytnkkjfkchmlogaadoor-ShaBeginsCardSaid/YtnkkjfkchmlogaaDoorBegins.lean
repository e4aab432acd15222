/- For every row of bytes and every two ints the Go function ShaBegins returns true and leaves its arguments as they were. No condition beside the card's own (the constants are laid as the text lays them). -/
import Derived.Test.YtnkkjfkchmlogaaDoorText
import Derived.BigRegion
import Derived.Test.YtnkkjfkchmlogaaDoorExpand
import Derived.Test.YtnkkjfkchmlogaaDoorShell
namespace Go.Proofs.YtnkkjfkchmlogaaDoor.shaBeginsP
open Go.ChangeShapes Go.WideShapes Go.ChangeAt Go.RowKit
set_option linter.unusedVariables false
set_option maxRecDepth 100000

section
variable {P : Program} {ops : Array Oper} {Q : Exit → Act → World → Prop} {md : Region.Mode}
theorem take_op {i d : Nat} {o : Oper} {v : Value} {fuel : Nat} {listed : Array Bool} {a a' : Act} {w : World} (hi : ops[i]? = some o)
    (hs : Region.noSelect ops = true) (hf : Region.free md ops listed i = true) (hr : (Region.ready md ops listed).contains i = true)
    (hQ : ∀ c a w, Q (.panic c) (a.put (some d) v) w → Q (.panic c) a w) (hdst : o.dst = some d)
    (hw : Region.wanted o (yielded ops a.tmps) = true) (hy : ∀ w, (execOp a.eval o).run P w = .ok (.value v) w) (hd : a.put (some d) v = a')
    (g : wpAny P md ops Q fuel (listed.setIfInBounds i true) a' w) : wpAny P md ops Q (fuel + 1) listed a w :=
  wpAny_take hi hs hf hr (by rw [hdst]; exact hQ) (Or.inl ⟨hw, hy⟩) (by rw [hdst, hd]; exact g)
end

set_option maxHeartbeats 4000000 in
theorem law_fit {W : World} (hk : Ks W) {A : Option Addr} {l c : Nat} {x : List Nat} (ha : Nb W W.heap.size A l c x) (N M : Nat) (c1 : l ≤ 400) (c2 : N ≤ M) (c3 : M ≤ 600) :
    Calls Tryd.prog 10 #[.slice A l c, .int .i64 N, .int .i64 M] W (Yes W) := by
  have hsz := hk.size
  have hra := ha.room
  have hca := ha.cap
  go_enter Tryd.func10, Tryd.ntmps10
  go_wp2_with fail
  refine (expand_fit hk ha (by omega) N (by omega)).mono ?_
  rintro e w1 ⟨g, rfl, hg, x1, b1⟩
  go_wp2_with fail
  refine (expand_fit (hk.below b1 hsz) (ha.far b1) (by omega) M (by omega)).mono ?_
  rintro e w2 ⟨h, rfl, hh, y2, b2⟩
  have x2 := x1.below b2 x1.lt
  have B2 := then_ b1 b2
  have e1 := length_expand x N
  have e2 := length_expand x M
  have e3 := expand_begins x N M c2
  obtain ⟨P, hP⟩ : ∃ P, expand x N = P := ⟨_, rfl⟩
  obtain ⟨Q, hQ⟩ : ∃ Q, expand x M = Q := ⟨_, rfl⟩
  rw [hP] at x2 e1 e3
  rw [hQ] at y2 e2 e3
  clear hP hQ
  obtain ⟨S, hS⟩ : ∃ S, bstr P = S := ⟨_, rfl⟩
  have HS := Lib.hid hS
  have HK := Lib.hid (hk.below B2 hsz).drew
  have X := Lib.hid x2.drew
  have Y := Lib.hid y2.drew
  have BD := Lib.hid B2.drew
  have E1 := Lib.hid e1
  have E2 := Lib.hid e2
  have E3 := Lib.hid e3
  have cu := fun W => cut_out h N M c2 (by omega) W
  clear hS x1 e1 e2 e3 x2 y2 B2 b1 b2
  go_wp2_with fail
  refine wp_region_any (by kernel_rfl) ?_
  change wpAny _ _ _ _ _ _ _ (World.drew _)
  refine wpAny_ready (rs := [0]) (by kernel_rfl) (by simp) ?_
  refine AllReady.cons rfl (fun K hK => ?_) AllReady.nil
  go_simp
  go_at_call 12
  refine (alive_any HK.out).mono ?_
  rintro e w3 ⟨rfl, b3⟩
  have cx := conv_bb (X.out.below b3 X.out.lt) N N (by have := E1.out; omega)
  have cy := conv_bb (Y.out.below b3 Y.out.lt) N M (by have := E2.out; omega)
  rw [E3.out] at cy
  rw [List.take_of_length_le (Nat.le_of_eq E1.out), HS.out] at cx
  rw [HS.out] at cy
  have B3 := Lib.hid (then_ BD.out b3)
  clear b3
  dsimp only
  try go_simp
  refine hK _ _ ?_
  clear hK K
  refine take_op (i := 1) (d := 41) (v := .bool true) (a' := _) (by rfl) (by kernel_rfl) (by kernel_rfl) (by kernel_rfl) (fun _ _ _ h => h) (by rfl) (by rfl) (fun W => by go_simp; try rfl) (by go_simp; exact rfl) ?_
  refine take_op (i := 2) (d := 42) (v := .int .i64 0) (a' := _) (by rfl) (by kernel_rfl) (by kernel_rfl) (by kernel_rfl) (fun _ _ _ h => h) (by rfl) (by rfl) (fun W => by go_simp; try rfl) (by go_simp; exact rfl) ?_
  refine take_op (i := 3) (d := 43) (v := .bool true) (a' := _) (by rfl) (by kernel_rfl) (by kernel_rfl) (by kernel_rfl) (fun _ _ _ h => h) (by rfl) (by rfl) (fun W => by go_simp; try rfl) (by go_simp; exact rfl) ?_
  refine take_op (i := 4) (d := 44) (v := .bool true) (a' := _) (by rfl) (by kernel_rfl) (by kernel_rfl) (by kernel_rfl) (fun _ _ _ h => h) (by rfl) (by rfl) (fun W => by go_simp; try rfl) (by go_simp; exact rfl) ?_
  refine take_op (i := 5) (d := 45) (v := .bool true) (a' := _) (by rfl) (by kernel_rfl) (by kernel_rfl) (by kernel_rfl) (fun _ _ _ h => h) (by rfl) (by rfl) (fun W => by go_simp; try rfl) (by go_simp; exact rfl) ?_
  refine take_op (i := 6) (d := 46) (v := .int .i64 0) (a' := _) (by rfl) (by kernel_rfl) (by kernel_rfl) (by kernel_rfl) (fun _ _ _ h => h) (by rfl) (by rfl) (fun W => by go_simp; try rfl) (by go_simp; exact rfl) ?_
  refine take_op (i := 7) (d := 47) (v := .bool true) (a' := _) (by rfl) (by kernel_rfl) (by kernel_rfl) (by kernel_rfl) (fun _ _ _ h => h) (by rfl) (by rfl) (fun W => by go_simp; try rfl) (by go_simp; exact rfl) ?_
  refine take_op (i := 8) (d := 48) (v := .bool true) (a' := _) (by rfl) (by kernel_rfl) (by kernel_rfl) (by kernel_rfl) (fun _ _ _ h => h) (by rfl) (by rfl) (fun W => by go_simp; try rfl) (by go_simp; exact rfl) ?_
  refine take_op (i := 9) (d := 49) (v := .bool true) (a' := _) (by rfl) (by kernel_rfl) (by kernel_rfl) (by kernel_rfl) (fun _ _ _ h => h) (by rfl) (by rfl) (fun W => by go_simp; try rfl) (by go_simp; exact rfl) ?_
  refine take_op (i := 10) (d := 50) (v := .slice (some ⟨g, 0, none⟩) N N) (a' := _) (by rfl) (by kernel_rfl) (by kernel_rfl) (by kernel_rfl) (fun _ _ _ h => h) (by rfl) (by rfl) (fun W => by go_simp; try rfl) (by go_simp; exact rfl) ?_
  refine take_op (i := 11) (d := 51) (v := .int .i64 N) (a' := _) (by rfl) (by kernel_rfl) (by kernel_rfl) (by kernel_rfl) (fun _ _ _ h => h) (by rfl) (by rfl) (fun W => by go_simp; try rfl) (by go_simp; exact rfl) ?_
  refine take_op (i := 12) (d := 52) (v := .int .i64 N) (a' := _) (by rfl) (by kernel_rfl) (by kernel_rfl) (by kernel_rfl) (fun _ _ _ h => h) (by rfl) (by rfl) (fun W => by go_simp; try rfl) (by go_simp; exact rfl) ?_
  refine take_op (i := 13) (d := 53) (v := .bool true) (a' := _) (by rfl) (by kernel_rfl) (by kernel_rfl) (by kernel_rfl) (fun _ _ _ h => h) (by rfl) (by rfl) (fun W => by go_simp; try rfl) (by go_simp; exact rfl) ?_
  refine take_op (i := 14) (d := 54) (v := .bool true) (a' := _) (by rfl) (by kernel_rfl) (by kernel_rfl) (by kernel_rfl) (fun _ _ _ h => h) (by rfl) (by rfl) (fun W => by go_simp; try rfl) (by go_simp; exact rfl) ?_
  refine take_op (i := 15) (d := 55) (v := .bool true) (a' := _) (by rfl) (by kernel_rfl) (by kernel_rfl) (by kernel_rfl) (fun _ _ _ h => h) (by rfl) (by rfl) (fun W => by go_simp; try rfl) (by go_simp; exact rfl) ?_
  refine take_op (i := 16) (d := 56) (v := .slice (some ⟨h, 0, none⟩) M M) (a' := _) (by rfl) (by kernel_rfl) (by kernel_rfl) (by kernel_rfl) (fun _ _ _ h => h) (by rfl) (by rfl) (fun W => by go_simp; try rfl) (by go_simp; exact rfl) ?_
  refine take_op (i := 17) (d := 57) (v := .int .i64 M) (a' := _) (by rfl) (by kernel_rfl) (by kernel_rfl) (by kernel_rfl) (fun _ _ _ h => h) (by rfl) (by rfl) (fun W => by go_simp; try rfl) (by go_simp; exact rfl) ?_
  refine take_op (i := 18) (d := 58) (v := .int .i64 M) (a' := _) (by rfl) (by kernel_rfl) (by kernel_rfl) (by kernel_rfl) (fun _ _ _ h => h) (by rfl) (by rfl) (fun W => by go_simp; try rfl) (by go_simp; exact rfl) ?_
  refine take_op (i := 19) (d := 59) (v := .bool true) (a' := _) (by rfl) (by kernel_rfl) (by kernel_rfl) (by kernel_rfl) (fun _ _ _ h => h) (by rfl) (by rfl) (fun W => by go_simp; try rfl) (by go_simp; exact rfl) ?_
  refine take_op (i := 20) (d := 60) (v := .bool true) (a' := _) (by rfl) (by kernel_rfl) (by kernel_rfl) (by kernel_rfl) (fun _ _ _ h => h) (by rfl) (by rfl) (fun W => by go_simp; try rfl) (by go_simp; exact rfl) ?_
  refine take_op (i := 21) (d := 61) (v := .bool true) (a' := _) (by rfl) (by kernel_rfl) (by kernel_rfl) (by kernel_rfl) (fun _ _ _ h => h) (by rfl) (by rfl) (fun W => by go_simp; try rfl) (by go_simp; exact rfl) ?_
  refine take_op (i := 22) (d := 62) (v := .slice (some ⟨h, 0, none⟩) M M) (a' := _) (by rfl) (by kernel_rfl) (by kernel_rfl) (by kernel_rfl) (fun _ _ _ h => h) (by rfl) (by rfl) (fun W => by go_simp; try rfl) (by go_simp; exact rfl) ?_
  refine take_op (i := 23) (d := 63) (v := .int .i64 N) (a' := _) (by rfl) (by kernel_rfl) (by kernel_rfl) (by kernel_rfl) (fun _ _ _ h => h) (by rfl) (by rfl) (fun W => by go_simp; try rfl) (by go_simp; exact rfl) ?_
  refine take_op (i := 24) (d := 64) (v := .slice (some ⟨h, 0, none⟩) N M) (a' := _) (by rfl) (by kernel_rfl) (by kernel_rfl) (by kernel_rfl) (fun _ _ _ h => h) (by rfl) (by rfl) (fun W => by go_simp; try rfl) (by go_simp; exact rfl) ?_
  refine take_op (i := 26) (d := 66) (v := .slice (some ⟨g, 0, none⟩) N N) (a' := _) (by rfl) (by kernel_rfl) (by kernel_rfl) (by kernel_rfl) (fun _ _ _ h => h) (by rfl) (by rfl) (fun W => by go_simp; try rfl) (by go_simp; exact rfl) ?_
  refine wpAny_ready (rs := [25, 27]) (by kernel_rfl) (by simp) ?_
  refine BigFrame.allReady_want rfl rfl (fun K hK => ?A) (BigFrame.allReady_want rfl rfl (fun K hK => ?B) AllReady.nil)
  case A =>
    change Oper.wp _ ⟨some 65, Op.convert 22 9 (.tmp 64), _, _, _, _⟩ _ _ _ _
    go_big_op
    refine hK _ _ ?_
    clear hK K
    refine wpAny_ready (rs := [27]) (by kernel_rfl) (by simp) ?_
    refine BigFrame.allReady_want rfl rfl (fun K hK => ?_) AllReady.nil
    change Oper.wp _ ⟨some 67, Op.convert 22 9 (.tmp 66), _, _, _, _⟩ _ _ _ _
    go_big_op
    refine hK _ _ ?_
    clear hK K
    refine take_op (i := 28) (d := 68) (v := .bool true) (a' := _) (by rfl) (by kernel_rfl) (by kernel_rfl) (by kernel_rfl) (fun _ _ _ h => h) (by rfl) (by rfl) (fun W => by go_simp; try rfl) (by go_simp; exact rfl) ?_
    refine take_op (i := 29) (d := 69) (v := .bool true) (a' := _) (by rfl) (by kernel_rfl) (by kernel_rfl) (by kernel_rfl) (fun _ _ _ h => h) (by rfl) (by rfl) (fun W => by go_simp; try rfl) (by go_simp; exact rfl) ?_
    refine take_op (i := 30) (d := 6) (v := .bool true) (a' := _) (by rfl) (by kernel_rfl) (by kernel_rfl) (by kernel_rfl) (fun _ _ _ h => h) (by rfl) (by rfl) (fun W => by go_simp; try rfl) (by go_simp; exact rfl) ?_
    refine wpAny_done (by kernel_rfl) ?_ _
    go_wp2
    go_ret
    exact ⟨rfl, B3.out⟩
  case B =>
    change Oper.wp _ ⟨some 67, Op.convert 22 9 (.tmp 66), _, _, _, _⟩ _ _ _ _
    go_big_op
    refine hK _ _ ?_
    clear hK K
    refine wpAny_ready (rs := [25]) (by kernel_rfl) (by simp) ?_
    refine BigFrame.allReady_want rfl rfl (fun K hK => ?_) AllReady.nil
    change Oper.wp _ ⟨some 65, Op.convert 22 9 (.tmp 64), _, _, _, _⟩ _ _ _ _
    go_big_op
    refine hK _ _ ?_
    clear hK K
    refine take_op (i := 28) (d := 68) (v := .bool true) (a' := _) (by rfl) (by kernel_rfl) (by kernel_rfl) (by kernel_rfl) (fun _ _ _ h => h) (by rfl) (by rfl) (fun W => by go_simp; try rfl) (by go_simp; exact rfl) ?_
    refine take_op (i := 29) (d := 69) (v := .bool true) (a' := _) (by rfl) (by kernel_rfl) (by kernel_rfl) (by kernel_rfl) (fun _ _ _ h => h) (by rfl) (by rfl) (fun W => by go_simp; try rfl) (by go_simp; exact rfl) ?_
    refine take_op (i := 30) (d := 6) (v := .bool true) (a' := _) (by rfl) (by kernel_rfl) (by kernel_rfl) (by kernel_rfl) (fun _ _ _ h => h) (by rfl) (by rfl) (fun W => by go_simp; try rfl) (by go_simp; exact rfl) ?_
    refine wpAny_done (by kernel_rfl) ?_ _
    go_wp2
    go_ret
    exact ⟨rfl, B3.out⟩

set_option maxHeartbeats 4000000 in
theorem law_any {W : World} (hk : Ks W) {A : Option Addr} {l c : Nat} {x : List Nat} (ha : Nb W W.heap.size A l c x) (la : l ≤ 140737488351232) (n : Int) (hn : (Lit.int .i64 n).wf = true) (m : Int) (hm : (Lit.int .i64 m).wf = true) :
    Calls Tryd.prog 10 #[.slice A l c, .int .i64 n, .int .i64 m] W (Yes W) := by
  have hsz := hk.size
  have hra := ha.room
  have hca := ha.cap
  have bn := bounds_i64 hn
  have bm := bounds_i64 hm
  by_cases hout : 400 < l ∨ n < 0 ∨ m < n ∨ 600 < m
  · by_cases c1 : 400 < l
    · clear hout
      go_enter Tryd.func10, Tryd.ntmps10
      go_wp2_with fail
      refine (alive_any hk).mono ?_
      rintro e w1 ⟨rfl, b1⟩
      go_wp2_with fail
      go_ret
      exact ⟨rfl, b1⟩
    by_cases c2 : n < 0
    · clear hout
      go_enter Tryd.func10, Tryd.ntmps10
      go_wp2_with fail
      refine (alive_any hk).mono ?_
      rintro e w1 ⟨rfl, b1⟩
      go_wp2_with fail
      go_ret
      exact ⟨rfl, b1⟩
    by_cases c3 : m < n
    · clear hout
      go_enter Tryd.func10, Tryd.ntmps10
      go_wp2_with fail
      refine (alive_any hk).mono ?_
      rintro e w1 ⟨rfl, b1⟩
      go_wp2_with fail
      go_ret
      exact ⟨rfl, b1⟩
    have c4 : 600 < m := by omega
    clear hout
    go_enter Tryd.func10, Tryd.ntmps10
    go_wp2_with fail
    refine (alive_any hk).mono ?_
    rintro e w1 ⟨rfl, b1⟩
    go_wp2_with fail
    go_ret
    exact ⟨rfl, b1⟩
  obtain ⟨N, rfl⟩ : ∃ N : Nat, n = N := ⟨n.toNat, by omega⟩
  obtain ⟨M, rfl⟩ : ∃ M : Nat, m = M := ⟨m.toNat, by omega⟩
  have c1 : l ≤ 400 := by omega
  have c2 : N ≤ M := by omega
  have c3 : M ≤ 600 := by omega
  exact law_fit hk ha N M c1 c2 c3

set_option maxRecDepth 100000 in
theorem door_met (os : Os) (args : Array Value) : laidMetH Tryd.prog [("clepsydra/sha.constants", Rows.laid_clepsydra_sha_constants)] ((World.doorLaid Tryd.prog 4000 os).forCall (fun _ _ => 0) ⟨#[], args, []⟩).memory :=
  laidMetH_of_parts3 (fuel := 8) (laidMet_of_run' 8 (by kernel_rfl) (by kernel_rfl)) (by kernel_rfl) (by kernel_rfl)
set_option maxRecDepth 100000 in
theorem lifted (os : Os) (started : os.Started) (H : Type) (enc : TypeId × Value → H) :
    ReturnsInHanded {} Tryd.checked os 10 .any (fun w args => (Rows.shaBeginsSpec.pre enc Tryd.prog Tryd.f10 [] false w args ∧ laidMetH Tryd.prog [("clepsydra/sha.constants", Rows.laid_clepsydra_sha_constants)] w) ∧ sizedMet enc Tryd.prog Tryd.f10 (OpenSpec.ofChange Rows.shaBeginsSpec) false w args)
      (Rows.shaBeginsSpec.post enc Tryd.prog Tryd.f10 false true false false) := by
  refine returnsInHanded_of_change_and (C := Tryd.checked) (X := fun w _ => laidMetH Tryd.prog [("clepsydra/sha.constants", Rows.laid_clepsydra_sha_constants)] w) (fun _ _ _ hh h => h.of_heap hh) own started (by kernel_rfl) Tryd.func10
    (ChangeSpec.witness_shaped (enc := enc) (C := Tryd.checked) (os := os) (X := fun w _ => laidMetH Tryd.prog [("clepsydra/sha.constants", Rows.laid_clepsydra_sha_constants)] w) false (World.doorLaid Tryd.prog 4000 os) #[.slice none 0 0, .int .i64 0, .int .i64 0] 8 rfl (World.shaped_of_RefB (by kernel_rfl) (by kernel_rfl)) (by kernel_rfl) (by kernel_rfl) (by kernel_rfl) (door_met os _)) ?_
  intro W base args ds gs before hval0 hW _ hsz0 hL _
  have hsz : (DataW.weightsEach Tryd.prog (Tryd.f10.params.toList ++ Rows.shaBeginsSpec.plain.varTypes Tryd.prog) (ds ++ gs)).all (· ≤ reachBytes) = true := hsz0
  have hval : ∀ (j : Nat) t v, Tryd.f10.params[j]? = some t → args[j]? = some v → Value.okWide Tryd.prog W .any base t v := hval0
  have hW' := hW
  obtain ⟨p, q, hA0, hV, rfl, hfz, hnd⟩ := hW
  have hA : DataW.TrodAll enc Tryd.prog W 0 (fun _ => true) true Tryd.f10.params.toList args.toList ds p := hA0
  rw [Tryd.params10] at hA hval hsz
  obtain ⟨v0, vs0, d0, ds0, p0, q0, hargs, rfl, rfl, h0, r0⟩ := trodAll_cons hA
  obtain ⟨v1, vs1, d1, ds1, p1, q1, rfl, rfl, rfl, h1, r1⟩ := trodAll_cons r0
  obtain ⟨v2, vs2, d2, ds2, p2, q2, rfl, rfl, rfl, h2, r2⟩ := trodAll_cons r1
  obtain ⟨rfl, rfl, rfl⟩ := trodAll_nil r2
  obtain rfl : args = #[v0, v1, v2] := by cases args; simp_all
  obtain ⟨rfl, rfl⟩ := trodVars_none hV
  obtain ⟨a0, len0, cap0, rfl⟩ := okWide_slice Tryd.underlying22 (hval 0 22 v0 rfl rfl)
  have k0 := h0
  have lt0 : ∀ x ∈ p0, x.block < W.heap.size := by obtain ⟨m, hm⟩ := k0; exact DataW.trod_lt m _ _ _ hm
  obtain ⟨z0, w0, l0⟩ : ∃ zs, Nb W W.heap.size a0 len0 cap0 zs ∧ len0 ≤ 140737488351232 := by
    obtain ⟨fuel, hf⟩ := h0
    rcases open_ints Tryd.underlying22 Tryd.underlying5 (by kernel_rfl) hf with ⟨hcs, _⟩ | ⟨x, l, c, zs, hcs, _, hl, hm, hz, hd, hcell, hwz⟩
    · simp [Value.cells] at hcs
      obtain ⟨rfl, rfl, rfl⟩ := hcs
      exact ⟨[], Nb.nil _ _ 0 (by omega) none, by omega⟩
    · simp [Value.cells] at hcs
      obtain ⟨rfl, rfl, rfl⟩ := hcs
      have hd1 := congrArg Prod.fst hd
      simp only at hd1
      subst hd1
      have hr := sized_slice hsz (j := 0) (t := 22) (e := 5) rfl rfl Tryd.underlying22
      rw [show Tryd.prog.bytesOf 5 = 1 by kernel_rfl] at hr
      simp only [lits, List.length_map, List.length_take, List.length_drop, reachBytes] at hr
      have hz' : zs.length = cap0 := by simpa using hz
      exact ⟨_, nb_of_row hl hm hz' hcell hwz, by omega⟩
  obtain ⟨a1, rfl, rfl, rfl, w1⟩ := open_int Tryd.underlying3 (hval 1 3 v1 rfl rfl) h1
  obtain ⟨a2, rfl, rfl, rfl, w2⟩ := open_int Tryd.underlying3 (hval 2 3 v2 rfl rfl) h2
  clear hA0 hval0
  refine (law_any (of_laid hL) w0 l0 a1 w1 a2 w2).mono fun e W' ⟨he, bel⟩ => ?_
  subst he
  exact ⟨_, rfl, _, _, _, [], _, [], hW', trodAll_mk1 (shut_bool Tryd.underlying4 _), (trodAll_cons_mk (Below.trod laidOut (by kernel_rfl) (of_decide_eq_true (by kernel_rfl)) k0 bel lt0) (trodAll_cons_mk (shut_int Tryd.underlying3 w1) (trodAll_cons_mk (shut_int Tryd.underlying3 w2) trodAll_mk0))), rfl, bel.frame _, fun h => by cases h⟩

theorem shaBegins_holds : Rows.ShaBeginsSaid :=
  OpenClaim.holds_of_wide 10 Tryd.f10 rfl rfl rfl rfl rfl rfl rfl ⟨rfl, rfl, rfl, rfl, rfl⟩ rfl rfl rfl rfl rfl (by kernel_rfl) Tryd.func10 (by kernel_rfl)
    (of_decide_eq_true (by kernel_rfl)) (by unfold Func.isWrapper; first | (rw [if_pos (by decide +kernel)]; kernel_rfl) | (rw [if_neg (by decide +kernel)]; exact ⟨rfl, rfl⟩))
    (fun os started H enc _ => lifted os started H enc)
theorem shaBegins_card : Rows.ShaBeginsCardSaid :=
  Claim7.holds_tied_plain_at .later [] [.data] true (true, "756ddd86ea3c962c140c4e725a86db090a64aa718640d7001e1255f4caa8afae") false
    shaBegins_holds (fun _ h => by cases h) (by kernel_rfl) (fun _ h => by cases h) shaBegins_row_tie rfl ⟨rfl, rfl⟩ (by kernel_rfl) rfl
    (fun f fn hf hfn => by
      obtain rfl : f = 10 := Option.some.inj ((show Tryd.prog.funcNamed "clepsydra/clepsydralaw02.ShaBegins" = some 10 by kernel_rfl).symm.trans hf) |>.symm
      obtain rfl : fn = Tryd.f10 := (Option.some.inj (Tryd.func10.symm.trans hfn)).symm
      exact ⟨by kernel_rfl, fun j t ht => by
        rw [Tryd.params10] at ht
        have hm : t ∈ [22, 3, 3] := by simpa using Array.mem_of_getElem? ht
        have hall : ([22, 3, 3].all fun u => !Tryd.prog.wantsStandIn u) = true := by kernel_rfl
        exact (show Tryd.prog.wantsStandIn t = false by simpa using List.all_eq_true.1 hall t hm)⟩)
    (by kernel_rfl)
#print axioms shaBegins_card
end Go.Proofs.YtnkkjfkchmlogaaDoor.shaBeginsP
