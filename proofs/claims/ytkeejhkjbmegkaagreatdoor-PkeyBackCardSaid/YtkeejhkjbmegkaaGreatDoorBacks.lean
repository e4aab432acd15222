/- For every int and every text and drawn bytes the Go function PkeyBack returns true and leaves its arguments as they were. No condition but the laid constants. -/
import Derived.Test.YtkeejhkjbmegkaaGreatDoorEp
import Derived.Test.YtkeejhkjbmegkaaGreatDoorTt
import Derived.Test.YtkeejhkjbmegkaaGreatDoorT2
import Derived.Test.YtkeejhkjbmegkaaGreatDoorH5
import Derived.Test.YtkeejhkjbmegkaaGreatDoorH6
import Derived.Test.YtkeejhkjbmegkaaGreatDoorFrame
namespace Go.Proofs.YtkeejhkjbmegkaaGreatDoor.pkeyBackP
open Go.ChangeShapes Go.WideShapes Go.ChangeAt Go.RowKit
set_option linter.unusedVariables false
set_option maxRecDepth 100000

theorem unf_crypt {fs ts : List Nat} (h : ∀ x ∈ fs, x ≠ 0) (h8 : 8 ≤ fs.length) : unfN (cryptN fs ts) = some ts := by
  have hd : (cryptN fs ts).drop 2 = fs ++ 0 :: ts := rfl
  have ht : tw (fs ++ 0 :: ts) = fs.length := by unfold tw; rw [(cut_at h).1]
  unfold unfN
  rw [hd, ht, cryptN_length, if_pos ⟨rfl, rfl, h8, by omega⟩, (cut_at h).2]
theorem rightK_pub {M : Nat} (f1 : M % 2 = 1) (f2 : 16 ≤ bl M) (f3 : bl M ≤ 1024) (f4 : 65537 < M) : rightK M 65537 0 = true := by
  unfold rightK
  rw [decide_eq_true_iff]
  exact ⟨f1, f2, f3, rfl, by omega, f4, by omega⟩
theorem secK_own {M d : Nat} (f1 : M % 2 = 1) (f2 : 16 ≤ bl M) (f3 : bl M ≤ 1024) (f4 : 65537 < M) (h0 : 0 < d) (hd : d < M) : secK M 65537 d = true := by
  unfold secK rightK
  rw [Bool.and_eq_true, decide_eq_true_iff, decide_eq_true_iff]
  exact ⟨⟨f1, f2, f3, rfl, by omega, f4, hd⟩, h0⟩
set_option maxHeartbeats 8000000 in
theorem law_any {w : World} (hk : Sh.Ks w) (which : Int) (hw : (Lit.int .i64 which).wf = true) {A A2 : Option Addr} {n c l c2 : Nat} {xs ds : List Nat} (hx : Nb w w.heap.size A n c xs) (hy : Nb w w.heap.size A2 l c2 ds) :
    Calls Tryz.prog 5 #[.int .i64 which, .slice A n c, .slice A2 l c2] w (Yes w) := by
  have hr := hx.rooms
  have hr2 := hy.rooms
  have hK := known8_any which w
  have HK := Lib.hid hK
  clear hK
  have HA := Lib.hid (fun W => alive05_any W)
  by_cases hn : 40 < n
  · have hd : decide ((40 : Int) < (n : Int)) = true := by simp; omega
    go_enter Tryz.func5, Tryz.ntmps5
    go_wp2_with fail
    refine (HA.out _).mono ?_
    rintro e W1 ⟨rfl, b1⟩
    go_wp2_with fail
    go_ret
    exact ⟨rfl, b1⟩
  have hd8 : decide ((40 : Int) < (n : Int)) = false := by simp; omega
  by_cases hn2 : 400 < l
  · have hd : decide ((400 : Int) < (l : Int)) = true := by simp; omega
    go_enter Tryz.func5, Tryz.ntmps5
    go_wp2_with fail
    refine (HA.out _).mono ?_
    rintro e W1 ⟨rfl, b1⟩
    go_wp2_with fail
    go_ret
    exact ⟨rfl, b1⟩
  have hd9 : decide ((400 : Int) < (l : Int)) = false := by simp; omega
  go_enter Tryz.func5, Tryz.ntmps5
  go_wp2_with fail
  refine HK.out.mono ?_
  rintro e W1 ⟨p, q, hpq, K1, k1, kt1, y1, K2, k2, kt2, y2, K3, k3, kt3, y3, d, rfl, KN1, kv1, kb1, KN2, kv2, kb2, KN3, kv3, kb3, ht, hd, hde, bel⟩
  obtain ⟨f1, f2, f3, f4, f5, f6, f7, f8, f9, f10⟩ := known_facts hpq
  have hroom := known_room hpq
  have hund := fun r => known_undo hpq hde r
  have hd0 : 0 < d := by
    rcases Nat.eq_zero_or_pos d with h | h
    · rw [h, Nat.mul_zero, Nat.zero_mod] at hde; omega
    · exact h
  have hdN : d < p * q := Nat.lt_of_lt_of_le hd f5
  obtain ⟨M, hM⟩ : ∃ M, p * q = M := ⟨_, rfl⟩
  rw [hM] at f1 f2 f3 f4 f7 f8 f9 f10 hdN kv1 hroom
  rw [hM] at hund
  clear hpq hd hde f5 f6 ht hM f9
  obtain ⟨s, hs⟩ : ∃ s, (bl M + 7) / 8 = s := ⟨_, rfl⟩
  rw [hs] at f7 f8 f10 hroom
  obtain ⟨w2, e2⟩ : ∃ w2, w2 = W1.alloc (.cells #[Value.slice K1 k1 kt1, .slice K2 k2 kt2, .slice K3 k3 kt3] 24) := ⟨_, rfl⟩
  obtain ⟨hb2, bl2⟩ := box_new e2
  have B2 := bthen bel bl2
  have P2 : Pr w2 (.agg #[.slice K1 k1 kt1, .slice K2 k2 kt2, .slice K3 k3 kt3]) M 65537 d := ⟨_, _, _, _, _, _, _, _, _, _, _, _, rfl, KN1.up bl2, kv1, kb1, KN2.up bl2, kv2, kb2, KN3.up bl2, kv3, kb3⟩
  have hR := rightK_pub f1 f2 f3 f4
  have hS := secK_own f1 f2 f3 f4 hd0 hdN
  have HR := Lib.hid hR
  have HS := Lib.hid hS
  have Hund := Lib.hid hund
  have Hroom := Lib.hid hroom
  have F10 := Lib.hid f10
  have Hs := Lib.hid hs
  have PH2 := Lib.hid P2
  have hxl := hx.len
  have Hxl := Lib.hid hxl
  clear hR hS hund hroom f10 hs P2 hxl f1 f2 f3 f4 hd0 hdN
  have q0 := hb2.c0
  have q1 := hb2.c1
  have q2 := hb2.c2
  go_wp2_with fail
  rw [← e2]
  clear e2
  refine (public_any PH2.out).mono ?_
  rintro e w3 ⟨v3, rfl, P3, b3⟩
  have z := hb2.up b3
  have z0 := z.c0
  have z1 := z.c1
  have z2 := z.c2
  have B3 := bthen B2 b3
  have hx3 := (hx.up B3).sh
  have hy3 := (hy.up B3).sh
  by_cases hp : s < 11 + n
  · have hen := enc_pad P3 hx3 hy3 HR.out Hs.out hp (by omega)
    have Hen := Lib.hid hen
    clear hen
    go_wp2_with fail
    refine Hen.out.mono ?_
    rintro e w4 ⟨rfl, b4⟩
    have y := z.up b4
    have y0 := y.c0
    have y1 := y.c1
    have y2 := y.c2
    go_wp2_with fail
    refine (HA.out _).mono ?_
    rintro e w5 ⟨rfl, b5⟩
    have j := y.up b5
    have j0 := j.c0
    have j1 := j.c1
    have j2 := j.c2
    have hz := size_any (((PH2.out.up b3).up b4).up b5)
    rw [Hs.out] at hz
    have Hz := Lib.hid hz
    clear hz
    have hgt : decide ((s : Int) - 11 < (n : Int)) = true := by simp; omega
    go_wp2_with fail
    refine Hz.out.mono ?_
    rintro e w6 ⟨rfl, b6⟩
    go_wp2_with fail
    go_ret
    exact ⟨rfl, bthen (bthen (bthen B3 b4) b5) b6⟩
  obtain ⟨r, hm⟩ : ∃ r, s = r + 3 + n := ⟨s - 3 - n, by omega⟩
  have h8 : 8 ≤ r := by omega
  by_cases hf : (fillL ds r).length < r
  · have hen := enc_few P3 hx3 hy3 HR.out Hs.out hm h8 hf
    have Hen := Lib.hid hen
    clear hen hf hm
    go_wp2_with fail
    refine Hen.out.mono ?_
    rintro e w4 ⟨rfl, b4⟩
    have y := z.up b4
    have y0 := y.c0
    have y1 := y.c1
    have y2 := y.c2
    go_wp2_with fail
    refine (HA.out _).mono ?_
    rintro e w5 ⟨rfl, b5⟩
    go_wp2_with fail
    go_ret
    exact ⟨rfl, bthen (bthen B3 b4) b5⟩
  have hf2 : (fillL ds r).length = r := by have := @fillL_len ds r; omega
  have hen := enc_ok P3 hx3 hy3 HR.out Hs.out hm h8 hf2
  obtain ⟨L, hL⟩ : ∃ L, cryptN (fillL ds r) xs = L := ⟨_, rfl⟩
  have lL : L.length = s := by rw [← hL, cryptN_length, hf2, Hxl.out]; omega
  have LL : Lim 256 L := by rw [← hL]; exact cryptN_lim (fillL_lim hy.lim) hx.lim
  have vL : val 256 L.reverse < M := by
    rw [← hL] at lL ⊢
    exact Nat.lt_of_lt_of_le (crypt_lt (fillL_lim hy.lim) hx.lim lL) Hroom.out
  have uL : unfN L = some xs := by rw [← hL]; exact unf_crypt fillL_ne (by omega)
  rw [hL] at hen
  obtain ⟨bb1, bb2⟩ := back_bytes LL lL vL F10.out Hund.out
  obtain ⟨C, hC⟩ : ∃ C, bts (val 256 L.reverse ^ 65537 % M) s = C := ⟨_, rfl⟩
  rw [hC] at hen bb1 bb2
  have lC : C.length = s := by rw [← hC]; exact length_bts _ _
  have LC : Lim 256 C := by rw [← hC]; exact lim_bts _ _
  have Hen := Lib.hid hen
  have Bb1 := Lib.hid bb1
  have Bb2 := Lib.hid bb2
  have UL := Lib.hid uL
  have LLC := Lib.hid LC
  have LlC := Lib.hid lC
  clear hen bb1 bb2 uL hL hC lL LL vL lC LC hf hf2 hm
  go_wp2_with fail
  refine Hen.out.mono ?_
  rintro e w4 ⟨g, rfl, hg, ho, b4⟩
  have y := z.up b4
  have y0 := y.c0
  have y1 := y.c1
  have y2 := y.c2
  have hc4 := ho.nb LlC.out (show s ≤ maxLen by unfold maxLen; omega) LLC.out
  have hdc := dec_ok ((PH2.out.up b3).up b4) hc4 HS.out Hs.out rfl Bb1.out
  rw [Bb2.out, UL.out] at hdc
  have Hdc := Lib.hid hdc
  clear hdc
  go_wp2_with fail
  refine Hdc.out.mono ?_
  rintro e w5 ⟨A5, n5, c5, rfl, m5, b5⟩
  have j := y.up b5
  have j0 := j.c0
  have j1 := j.c1
  have j2 := j.c2
  have B5 := bthen (bthen B3 b4) b5
  go_wp2_with fail
  refine (HA.out _).mono ?_
  rintro e w6 ⟨rfl, b6⟩
  have i := j.up b6
  have i0 := i.c0
  have i1 := i.c1
  have i2 := i.c2
  have B6 := bthen B5 b6
  have cv1 := conv_any (m5.go b6)
  have cv2 := conv_any (hx.up B6).sh
  obtain ⟨S1, hS1⟩ : ∃ S, bstr xs = S := ⟨_, rfl⟩
  rw [hS1] at cv1 cv2
  have hSS : (S1.toList == S1.toList) = true := by simp
  have hz := size_any ((((PH2.out.up b3).up b4).up b5).up b6)
  rw [Hs.out] at hz
  have Hz := Lib.hid hz
  clear hz hS1
  go_wp2_with fail
  refine Hz.out.mono ?_
  rintro e w7 ⟨rfl, b7⟩
  go_wp2_with fail
  go_ret
  exact ⟨rfl, bthen B6 b7⟩

set_option maxRecDepth 100000 in
theorem door_met (os : Os) (args : Array Value) : laidMetH Tryz.prog [("clepsydra/sha.constants", Rows.laid_clepsydra_sha_constants)] ((World.doorLaid Tryz.prog 4000 os).forCall (fun _ _ => 0) ⟨#[], args, []⟩).memory :=
  laidMetH_of_parts3 (fuel := 8) (laidMet_of_run' 8 (by kernel_rfl) (by kernel_rfl)) (by kernel_rfl) (by kernel_rfl)
set_option maxRecDepth 100000 in
theorem lifted (os : Os) (started : os.Started) (H : Type) (enc : TypeId × Value → H) :
    ReturnsInHanded {} Tryz.checked os 5 .any (fun w args => (Rows.pkeyBackSpec.pre enc Tryz.prog Tryz.f5 [] false w args ∧ laidMetH Tryz.prog [("clepsydra/sha.constants", Rows.laid_clepsydra_sha_constants)] w) ∧ sizedMet enc Tryz.prog Tryz.f5 (OpenSpec.ofChange Rows.pkeyBackSpec) false w args)
      (Rows.pkeyBackSpec.post enc Tryz.prog Tryz.f5 false true false false) := by
  refine returnsInHanded_of_change_and (C := Tryz.checked) (X := fun w _ => laidMetH Tryz.prog [("clepsydra/sha.constants", Rows.laid_clepsydra_sha_constants)] w) (fun _ _ _ hh h => h.of_heap hh) own started (by kernel_rfl) Tryz.func5
    (ChangeSpec.witness_shaped (enc := enc) (C := Tryz.checked) (os := os) (X := fun w _ => laidMetH Tryz.prog [("clepsydra/sha.constants", Rows.laid_clepsydra_sha_constants)] w) false (World.doorLaid Tryz.prog 4000 os) #[.int .i64 0, .slice none 0 0, .slice none 0 0] 8 rfl (World.shaped_of_RefB (by kernel_rfl) (by kernel_rfl)) (by kernel_rfl) (by kernel_rfl) (by kernel_rfl) (door_met os _)) ?_
  intro W base args ds gs before hval0 hW _ hsz0 hL _
  have hsz : (DataW.weightsEach Tryz.prog (Tryz.f5.params.toList ++ Rows.pkeyBackSpec.plain.varTypes Tryz.prog) (ds ++ gs)).all (· ≤ reachBytes) = true := hsz0
  have hval : ∀ (j : Nat) t v, Tryz.f5.params[j]? = some t → args[j]? = some v → Value.okWide Tryz.prog W .any base t v := hval0
  have hW' := hW
  obtain ⟨p, q, hA0, hV, rfl, hfz, hnd⟩ := hW
  have hA : DataW.TrodAll enc Tryz.prog W 0 (fun _ => true) true Tryz.f5.params.toList args.toList ds p := hA0
  rw [Tryz.params5] at hA hval hsz
  obtain ⟨v0, vs0, d0, ds0, p0, q0, hargs, rfl, rfl, h0, r0⟩ := trodAll_cons hA
  obtain ⟨v1, vs1, d1, ds1, p1, q1, rfl, rfl, rfl, h1, r1⟩ := trodAll_cons r0
  obtain ⟨v2, vs2, d2, ds2, p2, q2, rfl, rfl, rfl, h2, r2⟩ := trodAll_cons r1
  obtain ⟨rfl, rfl, rfl⟩ := trodAll_nil r2
  obtain rfl : args = #[v0, v1, v2] := by cases args; simp_all
  obtain ⟨rfl, rfl⟩ := trodVars_none hV
  obtain ⟨a0, rfl, rfl, rfl, w0⟩ := open_int Tryz.underlying3 (hval 0 3 v0 rfl rfl) h0
  obtain ⟨a1, len1, cap1, rfl⟩ := okWide_slice Tryz.underlying25 (hval 1 25 v1 rfl rfl)
  have k1 := h1
  have lt1 : ∀ x ∈ p1, x.block < W.heap.size := by obtain ⟨m, hm⟩ := k1; exact DataW.trod_lt m _ _ _ hm
  obtain ⟨z1, w1⟩ : ∃ zs, Nb W W.heap.size a1 len1 cap1 zs := by
    obtain ⟨fuel, hf⟩ := h1
    rcases open_ints Tryz.underlying25 Tryz.underlying5 (by kernel_rfl) hf with ⟨hcs, _⟩ | ⟨x, l, c, zs, hcs, _, hl, hm, hz, hd, hcell, hwz⟩
    · simp [Value.cells] at hcs
      obtain ⟨rfl, rfl, rfl⟩ := hcs
      exact ⟨[], nb_nil _ _⟩
    · simp [Value.cells] at hcs
      obtain ⟨rfl, rfl, rfl⟩ := hcs
      exact ⟨_, nb_of_row hl hm (by simpa using hz) hcell hwz⟩
  obtain ⟨a2, len2, cap2, rfl⟩ := okWide_slice Tryz.underlying25 (hval 2 25 v2 rfl rfl)
  have k2 := h2
  have lt2 : ∀ x ∈ p2, x.block < W.heap.size := by obtain ⟨m, hm⟩ := k2; exact DataW.trod_lt m _ _ _ hm
  obtain ⟨z2, w2⟩ : ∃ zs, Nb W W.heap.size a2 len2 cap2 zs := by
    obtain ⟨fuel, hf⟩ := h2
    rcases open_ints Tryz.underlying25 Tryz.underlying5 (by kernel_rfl) hf with ⟨hcs, _⟩ | ⟨x, l, c, zs, hcs, _, hl, hm, hz, hd, hcell, hwz⟩
    · simp [Value.cells] at hcs
      obtain ⟨rfl, rfl, rfl⟩ := hcs
      exact ⟨[], nb_nil _ _⟩
    · simp [Value.cells] at hcs
      obtain ⟨rfl, rfl, rfl⟩ := hcs
      exact ⟨_, nb_of_row hl hm (by simpa using hz) hcell hwz⟩
  clear hA0 hval0
  refine (law_any (of_laid hL) a0 w0 w1 w2).mono fun e W' ⟨he, bel⟩ => ?_
  subst he
  exact ⟨_, rfl, _, _, _, [], _, [], hW', trodAll_mk1 (shut_bool Tryz.underlying4 _), (trodAll_cons_mk (shut_int Tryz.underlying3 w0) (trodAll_cons_mk (Below.trod laidOut (by kernel_rfl) (of_decide_eq_true (by kernel_rfl)) k1 bel lt1) (trodAll_cons_mk (Below.trod laidOut (by kernel_rfl) (of_decide_eq_true (by kernel_rfl)) k2 bel lt2) trodAll_mk0))), rfl, bel.frame _, fun h => by cases h⟩

theorem pkeyBack_holds : Rows.PkeyBackSaid :=
  OpenClaim.holds_of_wide 5 Tryz.f5 rfl rfl rfl rfl rfl rfl rfl ⟨rfl, rfl, rfl, rfl, rfl⟩ rfl rfl rfl rfl rfl (by kernel_rfl) Tryz.func5 (by kernel_rfl)
    (of_decide_eq_true (by kernel_rfl)) (by unfold Func.isWrapper; first | (rw [if_pos (by decide +kernel)]; kernel_rfl) | (rw [if_neg (by decide +kernel)]; exact ⟨rfl, rfl⟩))
    (fun os started H enc _ => lifted os started H enc)
theorem pkeyBack_card : Rows.PkeyBackCardSaid :=
  Claim7.holds_tied_plain_at .later [] [.data] true (true, "08b5c815c4ce98d0939ca56bd09f004e88258d10564a8ae8158c8b934526e78b") false
    pkeyBack_holds (fun _ h => by cases h) (by kernel_rfl) (fun _ h => by cases h) pkeyBack_row_tie rfl ⟨rfl, rfl⟩ (by kernel_rfl) rfl
    (fun f fn hf hfn => by
      obtain rfl : f = 5 := Option.some.inj ((show Tryz.prog.funcNamed "clepsydra/clepsydralaw05.PkeyBack" = some 5 by kernel_rfl).symm.trans hf) |>.symm
      obtain rfl : fn = Tryz.f5 := (Option.some.inj (Tryz.func5.symm.trans hfn)).symm
      exact ⟨by kernel_rfl, fun j t ht => by
        rw [Tryz.params5] at ht
        have hm : t ∈ [3, 25, 25] := by simpa using Array.mem_of_getElem? ht
        have hall : ([3, 25, 25].all fun u => !Tryz.prog.wantsStandIn u) = true := by kernel_rfl
        exact (show Tryz.prog.wantsStandIn t = false by simpa using List.all_eq_true.1 hall t hm)⟩)
    (by kernel_rfl)
#print axioms pkeyBack_card
end Go.Proofs.YtkeejhkjbmegkaaGreatDoor.pkeyBackP
