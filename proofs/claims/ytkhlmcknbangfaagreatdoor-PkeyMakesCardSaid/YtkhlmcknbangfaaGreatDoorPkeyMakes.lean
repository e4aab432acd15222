/- For any two numbers and any power the Go function PkeyMakes returns true and leaves its arguments as they were. No condition but that the constants of sha are as they are laid at the start. -/
import Derived.Test.YtkhlmcknbangfaaGreatDoorPp
import Derived.Test.YtkhlmcknbangfaaGreatDoorFa
import Derived.Test.YtkhlmcknbangfaaGreatDoorTie
namespace Go.Proofs.YtkhlmcknbangfaaGreatDoor.pkeyMakesP
set_option linter.unusedSimpArgs false
set_option linter.unusedVariables false
open Go.ChangeShapes Go.WideShapes Go.ChangeAt Go.RowKit
set_option linter.unusedVariables false
set_option maxRecDepth 100000

set_option maxHeartbeats 4000000 in
theorem law_any {w : World} (hk : Sh.Ks w) {A0 A1 : Option Addr} {n0 c0 n1 c1 : Nat} {x0 x1 : List Nat} (h0 : Nt w w.heap.size A0 n0 c0 x0) (h1 : Nt w w.heap.size A1 n1 c1 x1) (a : Int) (ha : (Lit.int .u64 a).wf = true) :
    Calls Tryz.prog 3 #[.slice A0 n0 c0, .slice A1 n1 c1, .int .u64 a] w (Yes w) := by
  obtain ⟨e, rfl, he⟩ : ∃ e : Nat, a = (e : Int) ∧ e < 18446744073709551616 := by
    simp [Lit.wf, IntKind.min, IntKind.max, IntKind.signed, IntKind.bits] at ha
    exact ⟨a.toNat, by omega, by omega⟩
  have HA := Lib.hid alive05_any
  by_cases g0 : 2 < n0
  · have k0 : 2 < (n0 : Int) := by omega
    clear g0 h0 h1
    go_enter Tryz.func3, Tryz.ntmps3
    go_wp2_with fail
    refine (HA.out _).mono ?_
    rintro r w1 ⟨rfl, b1⟩
    go_wp2_with fail
    go_ret
    exact ⟨rfl, b1⟩
  have k0 : (2 < (n0 : Int)) = False := by simp only [eq_iff_iff, iff_false]; omega
  by_cases g1 : 2 < n1
  · have k1 : 2 < (n1 : Int) := by omega
    clear g0 g1 h0 h1
    go_enter Tryz.func3, Tryz.ntmps3
    go_wp2_with fail
    refine (HA.out _).mono ?_
    rintro r w1 ⟨rfl, b1⟩
    go_wp2_with fail
    go_ret
    exact ⟨rfl, b1⟩
  have k1 : (2 < (n1 : Int)) = False := by simp only [eq_iff_iff, iff_false]; omega
  obtain ⟨b, hb⟩ := make_both (val 18446744073709551616 x0) (val 18446744073709551616 x1) e he
  have HO := Lib.hid (hb h0 h1 rfl rfl (by omega) (by omega)).1
  have HR := Lib.hid (fun (W : World) (bw : Below w.heap.size w W) => (hb (h0.up bw) (h1.up bw) rfl rfl (by omega) (by omega)).2)
  clear hb h0 h1 g0 g1
  generalize val 18446744073709551616 x0 = p at *
  generalize val 18446744073709551616 x1 = q at *
  go_enter Tryz.func3, Tryz.ntmps3
  go_wp2_with fail
  refine HO.out.mono ?_
  rintro r w1 ⟨A1, m1, d1, y1, A2, m2, d2, y2, A3, m3, d3, y3, N, E, D, er, rfl, t1, v1, t2, v2, t3, v3, r1, r2, r3, b1, kv⟩
  obtain ⟨w2, e2⟩ : ∃ w2, w2 = w1.alloc (.cells #[Value.slice A1 m1 d1, .slice A2 m2 d2, .slice A3 m3 d3] 26) := ⟨_, rfl⟩
  obtain ⟨hx2, b2⟩ := box_new e2
  have B2 := bthen b1 b2
  go_wp2_with fail
  rw [← e2]
  clear e2
  refine (HR.out _ B2).mono ?_
  rintro r w3 ⟨B1, m4, d4, z1, B2', m5, d5, z2, B3, m6, d6, z3, N', E', D', er', rfl, u1, w1', u2, w2', u3, w3', s1, s2, s3, b3, kv'⟩
  obtain ⟨rfl, rfl, rfl, rfl⟩ := kv.same kv'
  obtain ⟨w4, e4⟩ : ∃ w4, w4 = w3.alloc (.cells #[Value.slice B1 m4 d4, .slice B2' m5 d5, .slice B3 m6 d6] 26) := ⟨_, rfl⟩
  obtain ⟨hy4, b4⟩ := box_new e4
  have B3' := bthen B2 b3
  have B4 := bthen B3' b4
  have b34 := bthen b3 b4
  go_wp2_with fail
  rw [← e4]
  clear e4
  refine (HA.out _).mono ?_
  rintro r w5 ⟨rfl, b5⟩
  have B5 := bthen B4 b5
  have b35 := bthen b34 b5
  have hx := hx2.up b35
  have hy := hy4.up b5
  have x0' := hx.c0
  have x1' := hx.c1
  have x2' := hx.c2
  have y0' := hy.c0
  have y1' := hy.c1
  have y2' := hy.c2
  have f1 : y1 = z1 := trm_same r1 s1 t1.lim u1.lim (v1.trans w1'.symm)
  have f2 : y2 = z2 := trm_same r2 s2 t2.lim u2.lim (v2.trans w2'.symm)
  have f3 : y3 = z3 := trm_same r3 s3 t3.lim u3.lim (v3.trans w3'.symm)
  subst f1 f2 f3
  have b45 := bthen b4 b5
  have hks := key_same ((t1.up b2).up b35) ((t2.up b2).up b35) ((t3.up b2).up b35) (u1.up b45) (u2.up b45) (u3.up b45)
  have HK := Lib.hid hks
  have HB5 := Lib.hid B5
  clear hks kv kv' t1 t2 t3 u1 u2 u3
  have he2 : (er == er) = true := by simp
  go_wp2_with fail
  refine HK.out.mono ?_
  rintro r w6 ⟨rfl, b6⟩
  go_wp2_with fail
  go_ret
  exact ⟨rfl, bthen HB5.out b6⟩

set_option maxRecDepth 100000 in
theorem door_met (os : Os) (args : Array Value) : laidMetH Tryz.prog [("clepsydra/sha.constants", Rows.laid_clepsydra_sha_constants)] ((World.doorLaid Tryz.prog 4000 os).forCall (fun _ _ => 0) ⟨#[], args, []⟩).memory :=
  laidMetH_of_parts3 (fuel := 8) (laidMet_of_run' 8 (by kernel_rfl) (by kernel_rfl)) (by kernel_rfl) (by kernel_rfl)
set_option maxRecDepth 100000 in
theorem lifted (os : Os) (started : os.Started) (H : Type) (enc : TypeId × Value → H) :
    ReturnsInHanded {} Tryz.checked os 3 .any (fun w args => (Rows.pkeyMakesSpec.pre enc Tryz.prog Tryz.f3 [] false w args ∧ laidMetH Tryz.prog [("clepsydra/sha.constants", Rows.laid_clepsydra_sha_constants)] w) ∧ sizedMet enc Tryz.prog Tryz.f3 (OpenSpec.ofChange Rows.pkeyMakesSpec) false w args)
      (Rows.pkeyMakesSpec.post enc Tryz.prog Tryz.f3 false true false false) := by
  refine returnsInHanded_of_change_and (C := Tryz.checked) (X := fun w _ => laidMetH Tryz.prog [("clepsydra/sha.constants", Rows.laid_clepsydra_sha_constants)] w) (fun _ _ _ hh h => h.of_heap hh) own started (by kernel_rfl) Tryz.func3
    (ChangeSpec.witness_shaped (enc := enc) (C := Tryz.checked) (os := os) (X := fun w _ => laidMetH Tryz.prog [("clepsydra/sha.constants", Rows.laid_clepsydra_sha_constants)] w) false (World.doorLaid Tryz.prog 4000 os) #[.slice none 0 0, .slice none 0 0, .int .u64 0] 8 rfl (World.shaped_of_RefB (by kernel_rfl) (by kernel_rfl)) (by kernel_rfl) (by kernel_rfl) (by kernel_rfl) (door_met os _)) ?_
  intro W base args ds gs before hval0 hW _ hsz0 hL _
  have hsz : (DataW.weightsEach Tryz.prog (Tryz.f3.params.toList ++ Rows.pkeyMakesSpec.plain.varTypes Tryz.prog) (ds ++ gs)).all (· ≤ reachBytes) = true := hsz0
  have hval : ∀ (j : Nat) t v, Tryz.f3.params[j]? = some t → args[j]? = some v → Value.okWide Tryz.prog W .any base t v := hval0
  have hW' := hW
  obtain ⟨p, q, hA0, hV, rfl, hfz, hnd⟩ := hW
  have hA : DataW.TrodAll enc Tryz.prog W 0 (fun _ => true) true Tryz.f3.params.toList args.toList ds p := hA0
  rw [Tryz.params3] at hA hval hsz
  obtain ⟨v0, vs0, d0, ds0, p0, q0, hargs, rfl, rfl, h0, r0⟩ := trodAll_cons hA
  obtain ⟨v1, vs1, d1, ds1, p1, q1, rfl, rfl, rfl, h1, r1⟩ := trodAll_cons r0
  obtain ⟨v2, vs2, d2, ds2, p2, q2, rfl, rfl, rfl, h2, r2⟩ := trodAll_cons r1
  obtain ⟨rfl, rfl, rfl⟩ := trodAll_nil r2
  obtain rfl : args = #[v0, v1, v2] := by cases args; simp_all
  obtain ⟨rfl, rfl⟩ := trodVars_none hV
  obtain ⟨a0, len0, cap0, rfl⟩ := okWide_slice Tryz.underlying22 (hval 0 22 v0 rfl rfl)
  have k0 := h0
  have lt0 : ∀ x ∈ p0, x.block < W.heap.size := by obtain ⟨m, hm⟩ := k0; exact DataW.trod_lt m _ _ _ hm
  obtain ⟨z0, w0⟩ : ∃ zs, Nt W W.heap.size a0 len0 cap0 zs := by
    obtain ⟨fuel, hf⟩ := h0
    rcases open_ints Tryz.underlying22 Tryz.underlying23 (by kernel_rfl) hf with ⟨hcs, _⟩ | ⟨x, l, c, zs, hcs, _, hl, hm, hz, _, hcell, hwz⟩
    · simp [Value.cells] at hcs
      obtain ⟨rfl, rfl, rfl⟩ := hcs
      exact ⟨[], nt_nil _ _⟩
    · simp [Value.cells] at hcs
      obtain ⟨rfl, rfl, rfl⟩ := hcs
      exact ⟨_, nt_of_row hl hm (by simpa using hz) hcell hwz⟩
  obtain ⟨a1, len1, cap1, rfl⟩ := okWide_slice Tryz.underlying22 (hval 1 22 v1 rfl rfl)
  have k1 := h1
  have lt1 : ∀ x ∈ p1, x.block < W.heap.size := by obtain ⟨m, hm⟩ := k1; exact DataW.trod_lt m _ _ _ hm
  obtain ⟨z1, w1⟩ : ∃ zs, Nt W W.heap.size a1 len1 cap1 zs := by
    obtain ⟨fuel, hf⟩ := h1
    rcases open_ints Tryz.underlying22 Tryz.underlying23 (by kernel_rfl) hf with ⟨hcs, _⟩ | ⟨x, l, c, zs, hcs, _, hl, hm, hz, _, hcell, hwz⟩
    · simp [Value.cells] at hcs
      obtain ⟨rfl, rfl, rfl⟩ := hcs
      exact ⟨[], nt_nil _ _⟩
    · simp [Value.cells] at hcs
      obtain ⟨rfl, rfl, rfl⟩ := hcs
      exact ⟨_, nt_of_row hl hm (by simpa using hz) hcell hwz⟩
  obtain ⟨a2, rfl, rfl, rfl, w2⟩ := open_int Tryz.underlying23 (hval 2 23 v2 rfl rfl) h2
  clear hA0 hval0
  refine (law_any (of_laid hL) w0 w1 a2 w2).mono fun e W' ⟨he, bel⟩ => ?_
  subst he
  exact ⟨_, rfl, _, _, _, [], _, [], hW', trodAll_mk1 (shut_bool Tryz.underlying4 _), (trodAll_cons_mk (Below.trod laidOut (by kernel_rfl) (of_decide_eq_true (by kernel_rfl)) k0 bel lt0) (trodAll_cons_mk (Below.trod laidOut (by kernel_rfl) (of_decide_eq_true (by kernel_rfl)) k1 bel lt1) (trodAll_cons_mk (shut_int Tryz.underlying23 w2) trodAll_mk0))), rfl, bel.frame _, fun h => by cases h⟩

theorem pkeyMakes_holds : Rows.PkeyMakesSaid :=
  OpenClaim.holds_of_wide 3 Tryz.f3 rfl rfl rfl rfl rfl rfl rfl ⟨rfl, rfl, rfl, rfl, rfl⟩ rfl rfl rfl rfl rfl (by kernel_rfl) Tryz.func3 (by kernel_rfl)
    (of_decide_eq_true (by kernel_rfl)) (by unfold Func.isWrapper; first | (rw [if_pos (by decide +kernel)]; kernel_rfl) | (rw [if_neg (by decide +kernel)]; exact ⟨rfl, rfl⟩))
    (fun os started H enc _ => lifted os started H enc)
theorem pkeyMakes_card : Rows.PkeyMakesCardSaid :=
  Claim7.holds_tied_plain_at .later [] [.data] true (true, "a77df78dea42f5a15d86f593e1b4f6cf4eda01eb2874b3eb65edb9fa1a9941cb") false
    pkeyMakes_holds (fun _ h => by cases h) (by kernel_rfl) (fun _ h => by cases h) pkeyMakes_row_tie rfl ⟨rfl, rfl⟩ (by kernel_rfl) rfl
    (fun f fn hf hfn => by
      obtain rfl : f = 3 := Option.some.inj ((show Tryz.prog.funcNamed "clepsydra/clepsydralaw05.PkeyMakes" = some 3 by kernel_rfl).symm.trans hf) |>.symm
      obtain rfl : fn = Tryz.f3 := (Option.some.inj (Tryz.func3.symm.trans hfn)).symm
      exact ⟨by kernel_rfl, fun j t ht => by
        rw [Tryz.params3] at ht
        have hm : t ∈ [22, 22, 23] := by simpa using Array.mem_of_getElem? ht
        have hall : ([22, 22, 23].all fun u => !Tryz.prog.wantsStandIn u) = true := by kernel_rfl
        exact (show Tryz.prog.wantsStandIn t = false by simpa using List.all_eq_true.1 hall t hm)⟩)
    (by kernel_rfl)
#print axioms pkeyMakes_card
end Go.Proofs.YtkhlmcknbangfaaGreatDoor.pkeyMakesP
