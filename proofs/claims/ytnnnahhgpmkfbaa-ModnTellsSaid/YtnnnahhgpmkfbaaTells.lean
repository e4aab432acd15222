/- For every two rows of limbs and every number of 32 bits the Go function ModnTells returns true and leaves its arguments as they were. No condition. -/
import Derived.Test.YtnnnahhgpmkfbaaAlive
import Derived.Test.YtnnnahhgpmkfbaaRef
namespace Go.Proofs.Ytnnnahhgpmkfbaa.modnTellsP
open Go.ChangeShapes Go.WideShapes Go.ChangeAt Go.RowKit
set_option linter.unusedVariables false

set_option maxRecDepth 100000
set_option maxHeartbeats 8000000 in
theorem law_any {w : World} {A B : Option Addr} {na ca nb cb : Nat} {x1 x2 : List Nat} (ha : Nt w w.heap.size A na ca x1) (hB : Nt w w.heap.size B nb cb x2) (s : Int) (hs : (Lit.int .u32 s).wf = true) :
    Calls Try.prog 6 #[.slice A na ca, .slice B nb cb, .int .u32 s] w (Yes w) := by
  have hra := ha.rooms
  have hrb := hB.rooms
  obtain ⟨z, rfl, hz⟩ : ∃ z : Nat, s = (z : Int) ∧ z < 4294967296 := by
    have h1 := bounds_u32 hs
    exact ⟨s.toNat, by omega, by omega⟩
  clear hs
  by_cases y0 : 3 < na
  · have g0 : decide ((3 : Int) < (na : Int)) = true := by simp; omega
    go_enter Try.func6, Try.ntmps6
    go_wp2_with fail
    refine (alive_any _).mono ?_
    rintro e W1 ⟨rfl, b1⟩
    go_wp2_with fail
    go_ret
    exact ⟨rfl, b1⟩
  have g0 : decide ((3 : Int) < (na : Int)) = false := by simp; omega
  by_cases y1 : 6 < nb
  · have g1 : decide ((6 : Int) < (nb : Int)) = true := by simp; omega
    go_enter Try.func6, Try.ntmps6
    go_wp2_with fail
    refine (alive_any _).mono ?_
    rintro e W1 ⟨rfl, b1⟩
    go_wp2_with fail
    go_ret
    exact ⟨rfl, b1⟩
  have g1 : decide ((6 : Int) < (nb : Int)) = false := by simp; omega
  go_enter Try.func6, Try.ntmps6
  go_wp2_with fail
  go_loopw [7] (fun i wr => ∃ k : Nat, k ≤ nb ∧ i = .int .i64 (k : Int) ∧ Below w.heap.size w wr) (fun i _ => nb - (intOf i).toNat)
  case atStart => exact ⟨0, Nat.zero_le _, rfl, Below.refl _ _⟩
  case round =>
    obtain ⟨k, hk, rfl, BB⟩ := hrel
    by_cases hlt : k < nb
    · obtain ⟨bb, off, rfl, hbb, hx⟩ := (hB.up BB).at_ hlt
      have hxl := hB.lim.get (by omega) k
      generalize x2.getD k 0 = x at *
      have hc1 := tells_any (ha.up BB).drew (by omega) x hxl
      obtain ⟨t, ht⟩ : ∃ t, tellsN (val 18446744073709551616 x1) x = t := ⟨_, rfl⟩
      have hc2 : ∀ w1, Below wr.drew.heap.size wr.drew w1 → Calls Try.prog 25 #[.slice A na ca, .int .u64 (x : Int)] w1 fun e w' => e = .returned (.bool (tellsN (val 18446744073709551616 x1) x)) ∧ Below w1.heap.size w1 w' := fun w1 b1 => rtells_any ((ha.up BB).drew.up b1) (by omega) x hxl
      rw [ht] at hc1 hc2
      have hcell : ∀ w1, Below wr.drew.heap.size wr.drew w1 → w1.cell? ⟨bb, off + k, none⟩ = some (.int .u64 (x : Int)) := fun w1 b1 => (b1.cell (p := ⟨bb, off + k, none⟩) hbb).trans hx
      have d1 : wr.drew.cell? ⟨bb, off + k, none⟩ = some (.int .u64 (x : Int)) := hx
      have Hc1 := Lib.hid hc1
      have Hc2 := Lib.hid hc2
      have Hcell := Lib.hid hcell
      have HD : Hid (Below w.heap.size w wr.drew) := BB.drew
      clear hc1 hc2 ht hcell
      go_wp2_with fail
      go_region_held3 (fun w' => w'.cell? ⟨bb, off + k, none⟩ = some (.int .u64 (x : Int)))
        (first | exact e2 | exact e1 | exact d1)
        ((first
        | (go_at_call 24; refine Hc1.out.mono ?_; rintro e w1 ⟨rfl, b1⟩
           have e1 := Hcell.out w1 b1)
        | (go_at_call 25; refine (Hc2.out w1 b1).mono ?_; rintro e w2 ⟨rfl, b2⟩
           have e2 := Hcell.out w2 (bthen b1 b2))))
      all_goals
        have B2 := bthen HD.out (bthen b1 b2)
        have ht : (t != t) = false := by cases t <;> rfl
        go_wp2_with fail
        go_roundw
        case rel => exact ⟨k + 1, hlt, by simp, B2⟩
        case measure => simp [intOf]; omega
    · have pB := BB
      go_wp2_with fail
      refine (alive_any _).mono ?_
      rintro e W1 ⟨rfl, b1⟩
      have B1 := bthen BB b1
      go_wp2_with fail
      refine (prime_any (ha.up B1) (hB.up B1) (by omega) (by omega)).mono ?_
      rintro e W2 ⟨rfl, b2⟩
      have B2 := bthen B1 b2
      go_wp2_with fail
      refine (rprime_any (ha.up B2) (hB.up B2) (by omega) (by omega)).mono ?_
      rintro e W3 ⟨rfl, b3⟩
      have B3 := bthen B2 b3
      have hp : (primeN (val 18446744073709551616 x1) x2 == primeN (val 18446744073709551616 x1) x2) = true := by simp
      generalize primeN (val 18446744073709551616 x1) x2 = pr at *
      go_wp2_with fail
      refine (sure_any z hz _).mono ?_
      rintro e W4 ⟨rfl, rfl⟩
      go_wp2_with fail
      refine (rsure_any z hz _).mono ?_
      rintro e W5 ⟨rfl, rfl⟩
      generalize isP z = sr at *
      have hsr : (sr == sr) = true := by simp
      go_wp2_with fail
      go_ret
      exact ⟨rfl, B3⟩

set_option maxRecDepth 100000 in
theorem lifted (os : Os) (started : os.Started) (H : Type) (enc : TypeId × Value → H) :
    ReturnsInHanded {} Try.checked os 6 .any (Rows.modnTellsSpec.pre6 enc Try.prog Try.f6 Rows.modnTellsRow.domain false) (Rows.modnTellsSpec.post enc Try.prog Try.f6 false true false false) := by
  refine returnsInHanded_of_change (C := Try.checked) own started (by kernel_rfl) Try.func6
    (ChangeSpec.witness6 (enc := enc) (C := Try.checked) false ⟨#[], #[.slice none 0 0, .slice none 0 0, .int .u32 0], []⟩ 8 (by kernel_rfl) (by kernel_rfl) (by kernel_rfl) (by kernel_rfl)) ?_
  intro W base args ds gs before hval0 hW hcnd _
  have hval : ∀ (j : Nat) t v, Try.f6.params[j]? = some t → args[j]? = some v → Value.okWide Try.prog W .any base t v := hval0
  have hW' := hW
  obtain ⟨p, q, hA0, hV, rfl, hfz, hnd⟩ := hW
  have hA : DataW.TrodAll enc Try.prog W 0 (fun _ => true) true Try.f6.params.toList args.toList ds p := hA0
  rw [Try.params6] at hA hval
  obtain ⟨v0, vs0, d0, ds0, p0, q0, hargs, rfl, rfl, h0, r0⟩ := trodAll_cons hA
  obtain ⟨v1, vs1, d1, ds1, p1, q1, rfl, rfl, rfl, h1, r1⟩ := trodAll_cons r0
  obtain ⟨v2, vs2, d2, ds2, p2, q2, rfl, rfl, rfl, h2, r2⟩ := trodAll_cons r1
  obtain ⟨rfl, rfl, rfl⟩ := trodAll_nil r2
  obtain rfl : args = #[v0, v1, v2] := by cases args; simp_all
  obtain ⟨rfl, rfl⟩ := trodVars_none hV
  obtain ⟨a0, len0, cap0, rfl⟩ := okWide_slice Try.underlying22 (hval 0 22 v0 rfl rfl)
  have k0 := h0
  have lt0 : ∀ x ∈ p0, x.block < W.heap.size := by obtain ⟨m, hm⟩ := k0; exact DataW.trod_lt m _ _ _ hm
  obtain ⟨z0, w0⟩ : ∃ zs, Nt W W.heap.size a0 len0 cap0 zs := by
    obtain ⟨fuel, hf⟩ := h0
    rcases open_ints Try.underlying22 Try.underlying34 (by kernel_rfl) hf with ⟨hcs, _⟩ | ⟨x, l, c, zs, hcs, _, hl, hm, hz, _, hcell, hwz⟩
    · simp [Value.cells] at hcs
      obtain ⟨rfl, rfl, rfl⟩ := hcs
      exact ⟨[], nt_nil _ _⟩
    · simp [Value.cells] at hcs
      obtain ⟨rfl, rfl, rfl⟩ := hcs
      exact ⟨_, nt_of_row hl hm (by simpa using hz) hcell hwz⟩
  obtain ⟨a1, len1, cap1, rfl⟩ := okWide_slice Try.underlying22 (hval 1 22 v1 rfl rfl)
  have k1 := h1
  have lt1 : ∀ x ∈ p1, x.block < W.heap.size := by obtain ⟨m, hm⟩ := k1; exact DataW.trod_lt m _ _ _ hm
  obtain ⟨z1, w1⟩ : ∃ zs, Nt W W.heap.size a1 len1 cap1 zs := by
    obtain ⟨fuel, hf⟩ := h1
    rcases open_ints Try.underlying22 Try.underlying34 (by kernel_rfl) hf with ⟨hcs, _⟩ | ⟨x, l, c, zs, hcs, _, hl, hm, hz, _, hcell, hwz⟩
    · simp [Value.cells] at hcs
      obtain ⟨rfl, rfl, rfl⟩ := hcs
      exact ⟨[], nt_nil _ _⟩
    · simp [Value.cells] at hcs
      obtain ⟨rfl, rfl, rfl⟩ := hcs
      exact ⟨_, nt_of_row hl hm (by simpa using hz) hcell hwz⟩
  obtain ⟨a2, rfl, rfl, rfl, w2⟩ := open_int Try.underlying32 (hval 2 32 v2 rfl rfl) h2
  clear hA0 hval0
  refine (law_any w0 w1 a2 w2).mono fun e W' ⟨he, bel⟩ => ?_
  subst he
  exact ⟨_, rfl, _, _, _, [], _, [], hW', trodAll_mk1 (shut_bool Try.underlying4 _), (trodAll_cons_mk (Below.trod laidOut (by kernel_rfl) (of_decide_eq_true (by kernel_rfl)) k0 bel lt0) (trodAll_cons_mk (Below.trod laidOut (by kernel_rfl) (of_decide_eq_true (by kernel_rfl)) k1 bel lt1) (trodAll_cons_mk (shut_int Try.underlying32 w2) trodAll_mk0))), rfl, bel.frame _, fun h => by cases h⟩

theorem modnTells_holds : Rows.ModnTellsSaid :=
  OpenClaim.holds_of_wide 6 Try.f6 rfl rfl rfl rfl rfl rfl rfl ⟨rfl, rfl, rfl, rfl, rfl⟩ rfl rfl rfl rfl rfl (by kernel_rfl) Try.func6 (by kernel_rfl)
    (of_decide_eq_true (by kernel_rfl)) (by unfold Func.isWrapper; first | (rw [if_pos (by decide +kernel)]; kernel_rfl) | (rw [if_neg (by decide +kernel)]; exact ⟨rfl, rfl⟩))
    (fun os started H enc _ => lifted os started H enc)
#print axioms modnTells_holds
end Go.Proofs.Ytnnnahhgpmkfbaa.modnTellsP
