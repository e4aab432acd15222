/- For every two numbers of 32 and 64 bits the Go function ModnFermat returns true. No condition. -/
import Derived.Test.YtmenflhaoejkfaaAlive
import Derived.Test.YtmenflhaoejkfaaPspAll
namespace Go.Proofs.Ytmenflhaoejkfaa.modnFermatP
open Go.ChangeShapes Go.WideShapes Go.ChangeAt Go.RowKit
set_option linter.unusedVariables false

set_option maxRecDepth 100000
set_option maxHeartbeats 8000000 in
theorem law_nat {w : World} (n0 base : Nat) (hn0 : n0 < 4294967296) (hb : base < 18446744073709551616) :
    Calls Try.prog 10 #[.int .u32 (n0 : Int), .int .u64 (base : Int)] w (Yes w) := by
  have hr : (n0 : Int).tmod 1000003 = ((n0 % 1000003 : Nat) : Int) := by
    rw [Int.tmod_eq_emod_of_nonneg (by omega)]; exact (Int.natCast_emod _ _).symm
  obtain ⟨n, hn⟩ : ∃ n, n0 % 1000003 = n := ⟨_, rfl⟩
  have hlt : n < 1000003 := by omega
  rw [hn] at hr
  have hunt := fun h => prime_untold (n := n) (base := base) h
  have hps := prime_small all_chk hlt
  obtain ⟨b, hbe⟩ : ∃ b, isP n = b := ⟨_, rfl⟩
  have hsure := fun W => sure_any n (by omega) W
  rw [hbe] at hunt hps hsure
  have Hunt := Lib.hid hunt
  have Hps := Lib.hid hps
  have Hsure := Lib.hid hsure
  clear hunt hps hsure hbe hn
  go_enter Try.func10, Try.ntmps10
  go_wp2_with fail
  refine (of_any n _ rfl (by omega) _).mono ?_
  rintro e w1 ⟨A1, n1, c1, x1, rfl, r1⟩
  have l1 := r1.le (k := 1) (by omega)
  have v1 := r1.is
  have h1 := r1.nt
  go_wp2_with fail
  refine (Hsure.out _).mono ?_
  rintro e w2 ⟨rfl, rfl⟩
  have key : ∀ W (hW : Below w1.heap.size w1 W), Calls Try.prog 26 #[.slice A1 n1 c1, .slice (some ⟨W.heap.size, 0, none⟩) 4 4] (W.alloc (.cells #[.int .u64 2, .int .u64 3, .int .u64 5, .int .u64 7] 34)) fun e w' => e = .returned (.bool b) ∧ Below W.heap.size W w' := fun W hW => by
    have how : Ow (W.alloc (.cells #[.int .u64 2, .int .u64 3, .int .u64 5, .int .u64 7] 34)) W.heap.size [2, 3, 5, 7] := heap_alloc_new W _
    have hb : Below W.heap.size W (W.alloc (.cells #[.int .u64 2, .int .u64 3, .int .u64 5, .int .u64 7] 34)) := (Below.refl _ _).alloc (Nat.le_refl _) _
    have hN := (how.whole (n := 4) (by unfold maxLen; simp) (by intro x hx; simp at hx; omega) rfl).more how.lt
    refine (prime_any ((h1.up hW).up hb) hN (by omega) (by omega)).mono ?_
    rintro e w' ⟨rfl, b'⟩
    rw [v1, Hps.out]
    exact ⟨rfl, bthen hb b'⟩
  have Key := Lib.hid key
  clear key
  cases b
  · go_wp2_with fail
    refine (alive_any _).mono ?_
    rintro e w3 ⟨rfl, b3⟩
    go_wp2_with fail
    refine (Key.out _ b3).mono ?_
    rintro e w4 ⟨rfl, b4⟩
    go_wp2_with fail
    refine (Hsure.out _).mono ?_
    rintro e w5 ⟨rfl, rfl⟩
    go_wp2_with fail
    go_ret
    exact ⟨rfl, bthen (bthen r1.bel b3) b4⟩
  · have ht := Hunt.out rfl
    go_wp2_with fail
    refine (tells_any h1 (by omega) base hb).mono ?_
    rintro e w2 ⟨rfl, b2⟩
    rw [v1, ht]
    go_wp2_with fail
    refine (alive_any _).mono ?_
    rintro e w3 ⟨rfl, b3⟩
    go_wp2_with fail
    refine (Key.out _ (bthen b2 b3)).mono ?_
    rintro e w4 ⟨rfl, b4⟩
    go_wp2_with fail
    refine (Hsure.out _).mono ?_
    rintro e w5 ⟨rfl, rfl⟩
    go_wp2_with fail
    go_ret
    exact ⟨rfl, bthen (bthen r1.bel (bthen b2 b3)) b4⟩

theorem law_any {w : World} (n0 : Int) (h0 : (Lit.int .u32 n0).wf = true) (base : Int) (hb : (Lit.int .u64 base).wf = true) :
    Calls Try.prog 10 #[.int .u32 n0, .int .u64 base] w (Yes w) := by
  have h1 := bounds_u32 h0
  have h2 := bounds_u64 hb
  obtain ⟨a, rfl⟩ := Int.eq_ofNat_of_zero_le h1.1
  obtain ⟨b, rfl⟩ := Int.eq_ofNat_of_zero_le h2.1
  exact law_nat a b (by omega) (by omega)

set_option maxRecDepth 100000 in
theorem lifted (os : Os) (started : os.Started) (H : Type) (enc : TypeId × Value → H) :
    ReturnsInHanded {} Try.checked os 10 .any (Rows.modnFermatSpec.pre6 enc Try.prog Try.f10 Rows.modnFermatRow.domain false) (Rows.modnFermatSpec.post enc Try.prog Try.f10 false true false false) := by
  refine returnsInHanded_of_change (C := Try.checked) own started (by kernel_rfl) Try.func10
    (ChangeSpec.witness6 (enc := enc) (C := Try.checked) false ⟨#[], #[.int .u32 0, .int .u64 0], []⟩ 8 (by kernel_rfl) (by kernel_rfl) (by kernel_rfl) (by kernel_rfl)) ?_
  intro W base args ds gs before hval0 hW hcnd _
  have hval : ∀ (j : Nat) t v, Try.f10.params[j]? = some t → args[j]? = some v → Value.okWide Try.prog W .any base t v := hval0
  have hW' := hW
  obtain ⟨p, q, hA0, hV, rfl, hfz, hnd⟩ := hW
  have hA : DataW.TrodAll enc Try.prog W 0 (fun _ => true) true Try.f10.params.toList args.toList ds p := hA0
  rw [Try.params10] at hA hval
  obtain ⟨v0, vs0, d0, ds0, p0, q0, hargs, rfl, rfl, h0, r0⟩ := trodAll_cons hA
  obtain ⟨v1, vs1, d1, ds1, p1, q1, rfl, rfl, rfl, h1, r1⟩ := trodAll_cons r0
  obtain ⟨rfl, rfl, rfl⟩ := trodAll_nil r1
  obtain rfl : args = #[v0, v1] := by cases args; simp_all
  obtain ⟨rfl, rfl⟩ := trodVars_none hV
  obtain ⟨a0, rfl, rfl, rfl, w0⟩ := open_int Try.underlying32 (hval 0 32 v0 rfl rfl) h0
  obtain ⟨a1, rfl, rfl, rfl, w1⟩ := open_int Try.underlying34 (hval 1 34 v1 rfl rfl) h1
  clear hA0 hval0
  refine (law_any a0 w0 a1 w1).mono fun e W' ⟨he, bel⟩ => ?_
  subst he
  exact ⟨_, rfl, _, _, _, [], _, [], hW', trodAll_mk1 (shut_bool Try.underlying4 _), (trodAll_cons_mk (shut_int Try.underlying32 w0) (trodAll_cons_mk (shut_int Try.underlying34 w1) trodAll_mk0)), rfl, bel.frame _, fun h => by cases h⟩

theorem modnFermat_holds : Rows.ModnFermatSaid :=
  OpenClaim.holds_of_wide 10 Try.f10 rfl rfl rfl rfl rfl rfl rfl ⟨rfl, rfl, rfl, rfl, rfl⟩ rfl rfl rfl rfl rfl (by kernel_rfl) Try.func10 (by kernel_rfl)
    (of_decide_eq_true (by kernel_rfl)) (by unfold Func.isWrapper; first | (rw [if_pos (by decide +kernel)]; kernel_rfl) | (rw [if_neg (by decide +kernel)]; exact ⟨rfl, rfl⟩))
    (fun os started H enc _ => lifted os started H enc)
#print axioms modnFermat_holds
end Go.Proofs.Ytmenflhaoejkfaa.modnFermatP
