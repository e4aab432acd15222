/- For every int and every row of limbs the Go function TopUndo returns true and leaves its arguments as they were. No condition but the laid constants. -/
import Derived.Test.YtcieddigjfpecaaDoorPk
import Derived.Test.YtcieddigjfpecaaDoorFrame
namespace Go.Proofs.YtcieddigjfpecaaDoor.topUndoP
open Go.ChangeShapes Go.WideShapes Go.ChangeAt Go.RowKit
set_option linter.unusedVariables false
set_option maxRecDepth 100000

theorem undo_both {p q d r : Nat} (h : p = 2 ^ 127 - 1 ∧ q = 2 ^ 107 - 1 ∨ p = 2 ^ 127 - 1 ∧ q = 2 ^ 89 - 1) (hd : 65537 * d % ((p - 1) * (q - 1)) = 1) (hr : r < p * q) :
    (r ^ 65537 % (p * q)) ^ d % (p * q) = r ∧ (r ^ d % (p * q)) ^ 65537 % (p * q) = r ∧ 0 < p * q ∧ p * q < 18446744073709551616 ^ 5 := by
  have hp : Prm p := by
    rcases h with ⟨h, _⟩ | ⟨h, _⟩ <;> (rw [h]; exact prm_m127)
  have hq : Prm q := by
    rcases h with ⟨_, h⟩ | ⟨_, h⟩
    · rw [h]; exact prm_m107
    · rw [h]; exact prm_m89
  have hne : p ≠ q := by
    rcases h with ⟨h1, h2⟩ | ⟨h1, h2⟩ <;> (rw [h1, h2]; decide)
  have e1 := euler2 hp hq hne hd r
  have e2 := euler2 (e := d) (d := 65537) hp hq hne (by rw [Nat.mul_comm d]; exact hd) r
  rw [Nat.mod_eq_of_lt hr] at e1 e2
  refine ⟨e1, e2, by omega, ?_⟩
  rcases h with ⟨h1, h2⟩ | ⟨h1, h2⟩ <;> (rw [h1, h2]; decide)
theorem pq_pos {p q : Nat} (h : p = 2 ^ 127 - 1 ∧ q = 2 ^ 107 - 1 ∨ p = 2 ^ 127 - 1 ∧ q = 2 ^ 89 - 1) : 0 < p * q ∧ p * q < 18446744073709551616 ^ 5 := by
  rcases h with ⟨h1, h2⟩ | ⟨h1, h2⟩ <;> (rw [h1, h2]; decide)
set_option maxHeartbeats 8000000 in
theorem law_any {w : World} (hk : Sh.Ks w) (which : Int) (hw : (Lit.int .i64 which).wf = true) {A : Option Addr} {n c : Nat} {x : List Nat} (hx : Nt w w.heap.size A n c x) :
    Calls Tryd.prog 6 #[.int .i64 which, .slice A n c] w (Yes w) := by
  have hr := hx.rooms
  obtain ⟨X, eX⟩ : ∃ v, val 18446744073709551616 x = v := ⟨_, rfl⟩
  have hK := known27_any which w
  have HK := Lib.hid hK
  clear hK
  by_cases hn : 8 < n
  · have hd : decide ((8 : Int) < (n : Int)) = true := by simp; omega
    go_enter Tryd.func6, Tryd.ntmps6
    go_wp2_with fail
    refine (alive03_any hk).mono ?_
    rintro e W1 ⟨rfl, b1⟩
    have B1 := b1
    have X1ks := hk.bel b1
    go_wp2_with fail
    go_ret
    exact ⟨rfl, B1⟩
  have hd8 : decide ((8 : Int) < (n : Int)) = false := by simp; omega
  go_enter Tryd.func6, Tryd.ntmps6
  go_wp2_with fail
  refine HK.out.mono ?_
  rintro e W1 ⟨p, q, hpq, K1, k1, kt1, y1, K2, k2, kt2, y2, K3, k3, kt3, y3, d, rfl, KN1, kv1, kb1, KN2, kv2, kb2, KN3, kv3, kb3, ht, hd, hde, bel⟩
  obtain ⟨hp0, hp5⟩ := pq_pos hpq
  have hund := fun r hr => undo_both (r := r) hpq hde hr
  have Hund := Lib.hid hund
  have Hp5 := Lib.hid hp5
  clear hund hpq hd hde hp5 ht
  generalize p * q = M at *
  obtain ⟨w2, e2⟩ : ∃ w2, w2 = W1.alloc (.cells #[Value.slice K1 k1 kt1, .slice K2 k2 kt2, .slice K3 k3 kt3] 26) := ⟨_, rfl⟩
  obtain ⟨hb2, bl2⟩ := box_new e2
  have N1x := hx.up bel
  have B1 := bel
  have X1ks := hk.bel bel
  have N2x := N1x.up bl2
  have B2 := bthen B1 bl2
  have X2ks := X1ks.bel bl2
  have M1 := KN1.up bl2
  have M2 := KN2.up bl2
  have M3 := KN3.up bl2
  have hb2c0 := hb2.c0
  have hb2c1 := hb2.c1
  have hb2c2 := hb2.c2
  have Pm : Hid (∀ t, t % M < 18446744073709551616 ^ 5) := fun t => Nat.lt_trans (Nat.mod_lt _ hp0) Hp5.out
  go_wp2_with fail
  rw [← e2]
  clear e2
  refine (mod_pos N2x M1 (by omega) (by rw [kv1]; exact hp0)).mono ?_
  rintro e W3 ⟨A3, n3, c3, x3, rfl, r3⟩
  rw [eX, kv1] at r3
  have l3 := r3.le (k := 5) (Pm.out _)
  have v3 := r3.is
  have t3 := r3.trm
  have N3x := N2x.up r3.bel
  have N3N := M1.up r3.bel
  have N3E := M2.up r3.bel
  have N3D := M3.up r3.bel
  have B3 := bthen B2 r3.bel
  have X3ks := X2ks.bel r3.bel
  have X3box := hb2.up r3.bel
  have X3boxc0 := X3box.c0
  have X3boxc1 := X3box.c1
  have X3boxc2 := X3box.c2
  go_wp2_with fail
  have hrl := Nat.mod_lt X hp0
  obtain ⟨u1, u2, _, _⟩ := Hund.out (X % M) hrl
  have U1 := Lib.hid u1
  have U2 := Lib.hid u2
  clear u1 u2
  refine (mpow_pos r3.nt N3E N3N (by omega) (by omega) (by omega) (by rw [kv1]; exact hp0)).mono ?_
  rintro e W4 ⟨A4, n4, c4, x4, rfl, r4⟩
  rw [v3, kv2, kv1] at r4
  set_option exponentiation.threshold 70000 in
  have l4 := r4.le (k := 5) (Pm.out _)
  have v4 := r4.is
  have t4 := r4.trm
  have N4x := N3x.up r4.bel
  have N4N := N3N.up r4.bel
  have N4E := N3E.up r4.bel
  have N4D := N3D.up r4.bel
  have N4r := r3.nt.up r4.bel
  have B4 := bthen B3 r4.bel
  have X4ks := X3ks.bel r4.bel
  have X4box := X3box.up r4.bel
  have X4boxc0 := X4box.c0
  have X4boxc1 := X4box.c1
  have X4boxc2 := X4box.c2
  go_wp2_with fail
  refine (mpow_pos r4.nt N4D N4N (by omega) (by omega) (by omega) (by rw [kv1]; exact hp0)).mono ?_
  rintro e W5 ⟨A5, n5, c5, x5, rfl, r5⟩
  rw [v4, kv3, kv1, U1.out] at r5
  have l5 := r5.le (k := 5) (Pm.out _)
  have v5 := r5.is
  have t5 := r5.trm
  have N5x := N4x.up r5.bel
  have N5N := N4N.up r5.bel
  have N5E := N4E.up r5.bel
  have N5D := N4D.up r5.bel
  have N5r := N4r.up r5.bel
  have N5y := r4.nt.up r5.bel
  have B5 := bthen B4 r5.bel
  have X5ks := X4ks.bel r5.bel
  have X5box := X4box.up r5.bel
  have X5boxc0 := X5box.c0
  have X5boxc1 := X5box.c1
  have X5boxc2 := X5box.c2
  go_wp2_with fail
  refine (mpow_pos N5r N5D N5N (by omega) (by omega) (by omega) (by rw [kv1]; exact hp0)).mono ?_
  rintro e W6 ⟨A6, n6, c6, x6, rfl, r6⟩
  rw [v3, kv3, kv1] at r6
  have l6 := r6.le (k := 5) (Pm.out _)
  have v6 := r6.is
  have t6 := r6.trm
  have N6x := N5x.up r6.bel
  have N6N := N5N.up r6.bel
  have N6E := N5E.up r6.bel
  have N6D := N5D.up r6.bel
  have N6r := N5r.up r6.bel
  have N6y := N5y.up r6.bel
  have N6z := r5.nt.up r6.bel
  have B6 := bthen B5 r6.bel
  have X6ks := X5ks.bel r6.bel
  have X6box := X5box.up r6.bel
  have X6boxc0 := X6box.c0
  have X6boxc1 := X6box.c1
  have X6boxc2 := X6box.c2
  go_wp2_with fail
  refine (mpow_pos r6.nt N6E N6N (by omega) (by omega) (by omega) (by rw [kv1]; exact hp0)).mono ?_
  rintro e W7 ⟨A7, n7, c7, x7, rfl, r7⟩
  rw [v6, kv2, kv1, U2.out] at r7
  have l7 := r7.le (k := 5) (Pm.out _)
  have v7 := r7.is
  have t7 := r7.trm
  have N7x := N6x.up r7.bel
  have N7N := N6N.up r7.bel
  have N7E := N6E.up r7.bel
  have N7D := N6D.up r7.bel
  have N7r := N6r.up r7.bel
  have N7y := N6y.up r7.bel
  have N7z := N6z.up r7.bel
  have N7u := r6.nt.up r7.bel
  have B7 := bthen B6 r7.bel
  have X7ks := X6ks.bel r7.bel
  have X7box := X6box.up r7.bel
  have X7boxc0 := X7box.c0
  have X7boxc1 := X7box.c1
  have X7boxc2 := X7box.c2
  go_wp2_with fail
  refine (alive03_any X7ks).mono ?_
  rintro e W8 ⟨rfl, b8⟩
  have N8x := N7x.up b8
  have N8N := N7N.up b8
  have N8E := N7E.up b8
  have N8D := N7D.up b8
  have N8r := N7r.up b8
  have N8y := N7y.up b8
  have N8z := N7z.up b8
  have N8u := N7u.up b8
  have N8w := r7.nt.up b8
  have B8 := bthen B7 b8
  have X8ks := X7ks.bel b8
  have X8box := X7box.up b8
  have X8boxc0 := X8box.c0
  have X8boxc1 := X8box.c1
  have X8boxc2 := X8box.c2
  go_wp2_with fail
  refine (same_yes N8z N8r (trm_same t5 t3 N8z.lim N8r.lim (by rw [v5, v3]))).mono ?_
  rintro e W9 ⟨rfl, d9, rfl⟩
  have N9x := N8x.dr d9
  have N9N := N8N.dr d9
  have N9E := N8E.dr d9
  have N9D := N8D.dr d9
  have N9r := N8r.dr d9
  have N9y := N8y.dr d9
  have N9z := N8z.dr d9
  have N9u := N8u.dr d9
  have N9w := N8w.dr d9
  have B9 := bdr B8 d9
  have X9ks := X8ks.dr d9
  have X9box := X8box.dr d9
  have X9boxc0 := X9box.c0
  have X9boxc1 := X9box.c1
  have X9boxc2 := X9box.c2
  go_wp2_with fail
  refine (same_yes N9w N9r (trm_same t7 t3 N9w.lim N9r.lim (by rw [v7, v3]))).mono ?_
  rintro e W10 ⟨rfl, d10, rfl⟩
  have N10x := N8x.dr (d9 + d10)
  have N10N := N8N.dr (d9 + d10)
  have N10E := N8E.dr (d9 + d10)
  have N10D := N8D.dr (d9 + d10)
  have N10r := N8r.dr (d9 + d10)
  have N10y := N8y.dr (d9 + d10)
  have N10z := N8z.dr (d9 + d10)
  have N10u := N8u.dr (d9 + d10)
  have N10w := N8w.dr (d9 + d10)
  have B10 := bdr B8 (d9 + d10)
  have X10ks := X8ks.dr (d9 + d10)
  have X10box := X8box.dr (d9 + d10)
  have X10boxc0 := X10box.c0
  have X10boxc1 := X10box.c1
  have X10boxc2 := X10box.c2
  go_wp2_with fail
  go_ret
  exact ⟨rfl, B10⟩

set_option maxRecDepth 100000 in
theorem door_met (os : Os) (args : Array Value) : laidMetH Tryd.prog [("clepsydra/sha.constants", Rows.laid_clepsydra_sha_constants)] ((World.doorLaid Tryd.prog 4000 os).forCall (fun _ _ => 0) ⟨#[], args, []⟩).memory :=
  laidMetH_of_parts3 (fuel := 8) (laidMet_of_run' 8 (by kernel_rfl) (by kernel_rfl)) (by kernel_rfl) (by kernel_rfl)
set_option maxRecDepth 100000 in
theorem lifted (os : Os) (started : os.Started) (H : Type) (enc : TypeId × Value → H) :
    ReturnsInHanded {} Tryd.checked os 6 .any (fun w args => (Rows.topUndoSpec.pre enc Tryd.prog Tryd.f6 [] false w args ∧ laidMetH Tryd.prog [("clepsydra/sha.constants", Rows.laid_clepsydra_sha_constants)] w) ∧ sizedMet enc Tryd.prog Tryd.f6 (OpenSpec.ofChange Rows.topUndoSpec) false w args)
      (Rows.topUndoSpec.post enc Tryd.prog Tryd.f6 false true false false) := by
  refine returnsInHanded_of_change_and (C := Tryd.checked) (X := fun w _ => laidMetH Tryd.prog [("clepsydra/sha.constants", Rows.laid_clepsydra_sha_constants)] w) (fun _ _ _ hh h => h.of_heap hh) own started (by kernel_rfl) Tryd.func6
    (ChangeSpec.witness_shaped (enc := enc) (C := Tryd.checked) (os := os) (X := fun w _ => laidMetH Tryd.prog [("clepsydra/sha.constants", Rows.laid_clepsydra_sha_constants)] w) false (World.doorLaid Tryd.prog 4000 os) #[.int .i64 0, .slice none 0 0] 8 rfl (World.shaped_of_RefB (by kernel_rfl) (by kernel_rfl)) (by kernel_rfl) (by kernel_rfl) (by kernel_rfl) (door_met os _)) ?_
  intro W base args ds gs before hval0 hW _ hsz0 hL _
  have hsz : (DataW.weightsEach Tryd.prog (Tryd.f6.params.toList ++ Rows.topUndoSpec.plain.varTypes Tryd.prog) (ds ++ gs)).all (· ≤ reachBytes) = true := hsz0
  have hval : ∀ (j : Nat) t v, Tryd.f6.params[j]? = some t → args[j]? = some v → Value.okWide Tryd.prog W .any base t v := hval0
  have hW' := hW
  obtain ⟨p, q, hA0, hV, rfl, hfz, hnd⟩ := hW
  have hA : DataW.TrodAll enc Tryd.prog W 0 (fun _ => true) true Tryd.f6.params.toList args.toList ds p := hA0
  rw [Tryd.params6] at hA hval hsz
  obtain ⟨v0, vs0, d0, ds0, p0, q0, hargs, rfl, rfl, h0, r0⟩ := trodAll_cons hA
  obtain ⟨v1, vs1, d1, ds1, p1, q1, rfl, rfl, rfl, h1, r1⟩ := trodAll_cons r0
  obtain ⟨rfl, rfl, rfl⟩ := trodAll_nil r1
  obtain rfl : args = #[v0, v1] := by cases args; simp_all
  obtain ⟨rfl, rfl⟩ := trodVars_none hV
  obtain ⟨a0, rfl, rfl, rfl, w0⟩ := open_int Tryd.underlying3 (hval 0 3 v0 rfl rfl) h0
  obtain ⟨a1, len1, cap1, rfl⟩ := okWide_slice Tryd.underlying24 (hval 1 24 v1 rfl rfl)
  have k1 := h1
  have lt1 : ∀ x ∈ p1, x.block < W.heap.size := by obtain ⟨m, hm⟩ := k1; exact DataW.trod_lt m _ _ _ hm
  obtain ⟨z1, w1⟩ : ∃ zs, Nt W W.heap.size a1 len1 cap1 zs := by
    obtain ⟨fuel, hf⟩ := h1
    rcases open_ints Tryd.underlying24 Tryd.underlying58 (by kernel_rfl) hf with ⟨hcs, _⟩ | ⟨x, l, c, zs, hcs, _, hl, hm, hz, _, hcell, hwz⟩
    · simp [Value.cells] at hcs
      obtain ⟨rfl, rfl, rfl⟩ := hcs
      exact ⟨[], nt_nil _ _⟩
    · simp [Value.cells] at hcs
      obtain ⟨rfl, rfl, rfl⟩ := hcs
      exact ⟨_, nt_of_row hl hm (by simpa using hz) hcell hwz⟩
  clear hA0 hval0
  refine (law_any (of_laid hL) a0 w0 w1).mono fun e W' ⟨he, bel⟩ => ?_
  subst he
  exact ⟨_, rfl, _, _, _, [], _, [], hW', trodAll_mk1 (shut_bool Tryd.underlying4 _), (trodAll_cons_mk (shut_int Tryd.underlying3 w0) (trodAll_cons_mk (Below.trod laidOut (by kernel_rfl) (of_decide_eq_true (by kernel_rfl)) k1 bel lt1) trodAll_mk0)), rfl, bel.frame _, fun h => by cases h⟩

theorem topUndo_holds : Rows.TopUndoSaid :=
  OpenClaim.holds_of_wide 6 Tryd.f6 rfl rfl rfl rfl rfl rfl rfl ⟨rfl, rfl, rfl, rfl, rfl⟩ rfl rfl rfl rfl rfl (by kernel_rfl) Tryd.func6 (by kernel_rfl)
    (of_decide_eq_true (by kernel_rfl)) (by unfold Func.isWrapper; first | (rw [if_pos (by decide +kernel)]; kernel_rfl) | (rw [if_neg (by decide +kernel)]; exact ⟨rfl, rfl⟩))
    (fun os started H enc _ => lifted os started H enc)
theorem topUndo_card : Rows.TopUndoCardSaid :=
  Claim7.holds_tied_plain_at .later [] [.data] true (true, "02ae3d3d4ac0428694810847d8f412c74ccdc252ee51d362bade2f173b9bd49f") false
    topUndo_holds (fun _ h => by cases h) (by kernel_rfl) (fun _ h => by cases h) topUndo_row_tie rfl ⟨rfl, rfl⟩ (by kernel_rfl) rfl
    (fun f fn hf hfn => by
      obtain rfl : f = 6 := Option.some.inj ((show Tryd.prog.funcNamed "clepsydra/clepsydratop.TopUndo" = some 6 by kernel_rfl).symm.trans hf) |>.symm
      obtain rfl : fn = Tryd.f6 := (Option.some.inj (Tryd.func6.symm.trans hfn)).symm
      exact ⟨by kernel_rfl, fun j t ht => by
        rw [Tryd.params6] at ht
        have hm : t ∈ [3, 24] := by simpa using Array.mem_of_getElem? ht
        have hall : ([3, 24].all fun u => !Tryd.prog.wantsStandIn u) = true := by kernel_rfl
        exact (show Tryd.prog.wantsStandIn t = false by simpa using List.all_eq_true.1 hall t hm)⟩)
    (by kernel_rfl)
#print axioms topUndo_card
end Go.Proofs.YtcieddigjfpecaaDoor.topUndoP
