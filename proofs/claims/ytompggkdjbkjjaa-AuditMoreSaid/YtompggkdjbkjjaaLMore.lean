/- For every log and every event the Go function AuditMore returns true and leaves its arguments as they were. No condition. -/
import Derived.Test.YtompggkdjbkjjaaA19
namespace Go.Proofs.Ytompggkdjbkjjaa.auditMoreP
open Go.ChangeShapes Go.WideShapes Go.ChangeAt Go.RowKit
set_option linter.unusedVariables false
set_option maxRecDepth 100000

theorem lifted1 (os : Os) (started : os.Started) (H : Type) (enc : TypeId × Value → H) :
    ReturnsInHanded {} Try.checked os 7 .any (fun w args => (Rows.auditMoreSpec.pre enc Try.prog Try.f7 Rows.auditMoreRow.domain false w args ∧ True) ∧ sizedMet enc Try.prog Try.f7 (OpenSpec.ofChange Rows.auditMoreSpec) false w args) (Rows.auditMoreSpec.post enc Try.prog Try.f7 false true false false) := by
  refine returnsInHanded_of_change_and (C := Try.checked) (X := fun _ _ => True) (fun _ _ _ _ _ => trivial) own started (by kernel_rfl) Try.func7 ?_ ?_
  · obtain ⟨w, tape, i, g1, g2, g3, g4, g5, g6⟩ := ChangeSpec.witness6 (enc := enc) (C := Try.checked) (os := os) (s := Rows.auditMoreSpec) (conds := Rows.auditMoreRow.domain) (apart := false) (f := 7) (fn := Try.f7) false ⟨#[], #[.slice none 0 0, .agg #[.int .i64 0, .int .u32 0, .int .u32 0, .int .i64 0, .slice none 0 0]], []⟩ 8 (by kernel_rfl) (by kernel_rfl) (by kernel_rfl) (by kernel_rfl)
    exact ⟨w, tape, i, g1, g2, g3, g4, ⟨⟨g5.1, trivial⟩, g5.2⟩, g6⟩
  intro W base args ds gs before hval0 hW hcnd hsz0 _ _
  have hsz : (DataW.weightsEach Try.prog (Try.f7.params.toList ++ Rows.auditMoreSpec.plain.varTypes Try.prog) (ds ++ gs)).all (· ≤ reachBytes) = true := hsz0
  have hval : ∀ (j : Nat) t v, Try.f7.params[j]? = some t → args[j]? = some v → Value.okWide Try.prog W .any base t v := hval0
  have hW' := hW
  obtain ⟨p, q, hA0, hV, rfl, hfz, hnd⟩ := hW
  have hA : DataW.TrodAll enc Try.prog W 0 (fun _ => true) true Try.f7.params.toList args.toList ds p := hA0
  rw [Try.params7] at hA hval hsz
  obtain ⟨v0, vs0, d0, ds0, p0, q0, hargs, rfl, rfl, h0, r0⟩ := trodAll_cons hA
  obtain ⟨v1, vs1, d1, ds1, p1, q1, rfl, rfl, rfl, h1, r1⟩ := trodAll_cons r0
  obtain ⟨rfl, rfl, rfl⟩ := trodAll_nil r1
  obtain rfl : args = #[v0, v1] := by cases args; simp_all
  obtain ⟨rfl, rfl⟩ := trodVars_none hV
  obtain ⟨a0, len0, cap0, rfl⟩ := okWide_slice Try.underlying22 (hval 0 22 v0 rfl rfl)
  have k0 := h0
  have lt0 : ∀ x ∈ p0, x.block < W.heap.size := by obtain ⟨m, hm⟩ := k0; exact DataW.trod_lt m _ _ _ hm
  have z0 : ∀ q ∈ d0.weights Try.prog 22, q ≤ 140737488355328 := fun q hq => by
    have h : q ≤ reachBytes := by simpa using List.all_eq_true.1 hsz q (DataW.weights_mem_each (j := 0) (t := 22) rfl rfl q hq)
    simp only [reachBytes] at h
    omega
  obtain ⟨E0, w0, o0, l0, x0⟩ : ∃ E, Lg W W.heap.size a0 len0 E ∧ (∀ e ∈ E, e.ok) ∧ len0 ≤ 140737488355328 ∧ ∀ e ∈ E, e.n ≤ 140737488355328 := by
    obtain ⟨fuel, hf⟩ := h0
    obtain ⟨E, h1, h2, h3⟩ := log_open hf
    exact ⟨E, h1, h2, h3 _ z0⟩
  obtain ⟨cs1, rfl, _⟩ := okWide_struct Try.underlying54 (hval 1 54 v1 rfl rfl)
  have k1 := h1
  have lt1 : ∀ x ∈ p1, x.block < W.heap.size := by obtain ⟨m, hm⟩ := k1; exact DataW.trod_lt m _ _ _ hm
  have z1 : ∀ q ∈ d1.weights Try.prog 54, q ≤ 140737488355328 := fun q hq => by
    have h : q ≤ reachBytes := by simpa using List.all_eq_true.1 hsz q (DataW.weights_mem_each (j := 1) (t := 54) rfl rfl q hq)
    simp only [reachBytes] at h
    omega
  obtain ⟨E1, rfl, o1, w1, x1⟩ : ∃ E : Ev, cs1 = #[.int .i64 E.k, .int .u32 (E.h : Int), .int .u32 (E.p : Int), .int .i64 E.at_, .slice E.A E.n E.c] ∧ E.ok ∧ Nb W W.heap.size E.A E.n E.c E.xs ∧ E.n ≤ 140737488355328 := by
    obtain ⟨fuel, hf⟩ := h1
    obtain ⟨E, h1, h2, h3, h4⟩ := ev_parts hf
    refine ⟨E, ?_, h2, h3, h4 _ z1⟩
    obtain ⟨l⟩ := cs1
    simp [Value.cells, Ev.cs] at h1
    rw [h1]
  clear hA0 hval0
  refine (more_law w0 x0 o0 w1 o1).mono fun e W' ⟨he, bel⟩ => ?_
  subst he
  exact ⟨_, rfl, _, _, _, [], _, [], hW', trodAll_mk1 (shut_bool Try.underlying4 _), (trodAll_cons_mk (Below.trod laidOut (by kernel_rfl) (of_decide_eq_true (by kernel_rfl)) k0 bel lt0) (trodAll_cons_mk (Below.trod laidOut (by kernel_rfl) (of_decide_eq_true (by kernel_rfl)) k1 bel lt1) trodAll_mk0)), rfl, bel.frame _, fun h => by cases h⟩
theorem lifted (os : Os) (started : os.Started) (H : Type) (enc : TypeId × Value → H) :
    ReturnsInHanded {} Try.checked os 7 .any (Rows.auditMoreSpec.pre6 enc Try.prog Try.f7 Rows.auditMoreRow.domain false) (Rows.auditMoreSpec.post enc Try.prog Try.f7 false true false false) := by
  have := lifted1 os started H enc
  simp only [and_true] at this
  exact this

theorem auditMore_holds : Rows.AuditMoreSaid :=
  OpenClaim.holds_of_wide 7 Try.f7 rfl rfl rfl rfl rfl rfl rfl ⟨rfl, rfl, rfl, rfl, rfl⟩ rfl rfl rfl rfl rfl (by kernel_rfl) Try.func7 (by kernel_rfl)
    (of_decide_eq_true (by kernel_rfl)) (by unfold Func.isWrapper; first | (rw [if_pos (by decide +kernel)]; kernel_rfl) | (rw [if_neg (by decide +kernel)]; exact ⟨rfl, rfl⟩))
    (fun os started H enc _ => lifted os started H enc)
#print axioms auditMore_holds
end Go.Proofs.Ytompggkdjbkjjaa.auditMoreP
