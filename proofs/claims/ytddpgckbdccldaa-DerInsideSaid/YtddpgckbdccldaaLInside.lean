/- DerInside holds whatever two values: each stands in the one that has both, and unlike rows are written unlike. No condition. -/
import Derived.Test.YtddpgckbdccldaaK2
namespace Go.Proofs.Ytddpgckbdccldaa.derInsideP
set_option linter.unusedSimpArgs false
set_option linter.unusedVariables false
open Go.ChangeShapes Go.WideShapes Go.ChangeAt Go.RowKit
set_option linter.unusedVariables false
set_option maxRecDepth 100000

theorem lifted1 (os : Os) (started : os.Started) (H : Type) (enc : TypeId × Value → H) :
    ReturnsInHanded {} Try.checked os 8 .any (fun w args => (Rows.derInsideSpec.pre enc Try.prog Try.f8 Rows.derInsideRow.domain false w args ∧ True) ∧ sizedMet enc Try.prog Try.f8 (OpenSpec.ofChange Rows.derInsideSpec) false w args) (Rows.derInsideSpec.post enc Try.prog Try.f8 false true false false) := by
  refine returnsInHanded_of_change_and (C := Try.checked) (X := fun _ _ => True) (fun _ _ _ _ _ => trivial) own started (by kernel_rfl) Try.func8 ?_ ?_
  · obtain ⟨w, tape, i, g1, g2, g3, g4, g5, g6⟩ := ChangeSpec.witness6 (enc := enc) (C := Try.checked) (os := os) (s := Rows.derInsideSpec) (conds := Rows.derInsideRow.domain) (apart := false) (f := 8) (fn := Try.f8) false ⟨#[], #[.agg #[.int .i64 0, .slice none 0 0, .slice none 0 0], .agg #[.int .i64 0, .slice none 0 0, .slice none 0 0]], []⟩ 8 (by kernel_rfl) (by kernel_rfl) (by kernel_rfl) (by kernel_rfl)
    exact ⟨w, tape, i, g1, g2, g3, g4, ⟨⟨g5.1, trivial⟩, g5.2⟩, g6⟩
  intro W base args ds gs before hval0 hW hcnd hsz0 _ _
  have hsz : (DataW.weightsEach Try.prog (Try.f8.params.toList ++ Rows.derInsideSpec.plain.varTypes Try.prog) (ds ++ gs)).all (· ≤ reachBytes) = true := hsz0
  have hval : ∀ (j : Nat) t v, Try.f8.params[j]? = some t → args[j]? = some v → Value.okWide Try.prog W .any base t v := hval0
  have hW' := hW
  obtain ⟨p, q, hA0, hV, rfl, hfz, hnd⟩ := hW
  have hA : DataW.TrodAll enc Try.prog W 0 (fun _ => true) true Try.f8.params.toList args.toList ds p := hA0
  rw [Try.params8] at hA hval hsz
  obtain ⟨v0, vs0, d0, ds0, pl0, q0, hargs, rfl, rfl, h0, r0⟩ := trodAll_cons hA
  obtain ⟨v1, vs1, d1, ds1, pl1, q1, rfl, rfl, rfl, h1, r1⟩ := trodAll_cons r0
  obtain ⟨rfl, rfl, rfl⟩ := trodAll_nil r1
  obtain rfl : args = #[v0, v1] := by cases args; simp_all
  obtain ⟨rfl, rfl⟩ := trodVars_none hV
  obtain ⟨cs0, rfl, _⟩ := okWide_struct Try.underlying25 (hval 0 25 v0 rfl rfl)
  have k0 := h0
  have lt0 : ∀ x ∈ pl0, x.block < W.heap.size := by obtain ⟨m, hm⟩ := k0; exact DataW.trod_lt m _ _ _ hm
  have z0 : ∀ q ∈ d0.weights Try.prog 25, q ≤ 140737488355328 := fun q hq => by
    have h : q ≤ reachBytes := by simpa using List.all_eq_true.1 hsz q (DataW.weights_mem_each (j := 0) (t := 25) rfl rfl q hq)
    simp only [reachBytes] at h
    omega
  obtain ⟨hd0, t0, f0, rfl, T0⟩ : ∃ (h : Hd) (t : T) (f : Nat), cs0 = h.cells ∧ Tr W W.heap.size f h t := by
    obtain ⟨fuel, hf⟩ := h0
    obtain ⟨h, t, e, hT⟩ := node_open hf z0
    refine ⟨h, t, fuel, ?_, hT⟩
    obtain ⟨l⟩ := cs0
    simp [Value.cells] at e
    simp [e, Hd.cells]
  obtain ⟨cs1, rfl, _⟩ := okWide_struct Try.underlying25 (hval 1 25 v1 rfl rfl)
  have k1 := h1
  have lt1 : ∀ x ∈ pl1, x.block < W.heap.size := by obtain ⟨m, hm⟩ := k1; exact DataW.trod_lt m _ _ _ hm
  have z1 : ∀ q ∈ d1.weights Try.prog 25, q ≤ 140737488355328 := fun q hq => by
    have h : q ≤ reachBytes := by simpa using List.all_eq_true.1 hsz q (DataW.weights_mem_each (j := 1) (t := 25) rfl rfl q hq)
    simp only [reachBytes] at h
    omega
  obtain ⟨hd1, t1, f1, rfl, T1⟩ : ∃ (h : Hd) (t : T) (f : Nat), cs1 = h.cells ∧ Tr W W.heap.size f h t := by
    obtain ⟨fuel, hf⟩ := h1
    obtain ⟨h, t, e, hT⟩ := node_open hf z1
    refine ⟨h, t, fuel, ?_, hT⟩
    obtain ⟨l⟩ := cs1
    simp [Value.cells] at e
    simp [e, Hd.cells]
  clear hA0 hval0
  refine (inside_any T0 T1).mono fun e W' ⟨he, bel⟩ => ?_
  subst he
  exact ⟨_, rfl, _, _, _, [], _, [], hW', trodAll_mk1 (shut_bool Try.underlying4 _), (trodAll_cons_mk (Below.trod laidOut (by kernel_rfl) (of_decide_eq_true (by kernel_rfl)) k0 bel lt0) (trodAll_cons_mk (Below.trod laidOut (by kernel_rfl) (of_decide_eq_true (by kernel_rfl)) k1 bel lt1) trodAll_mk0)), rfl, bel.frame _, fun h => by cases h⟩
theorem lifted (os : Os) (started : os.Started) (H : Type) (enc : TypeId × Value → H) :
    ReturnsInHanded {} Try.checked os 8 .any (Rows.derInsideSpec.pre6 enc Try.prog Try.f8 Rows.derInsideRow.domain false) (Rows.derInsideSpec.post enc Try.prog Try.f8 false true false false) := by
  have := lifted1 os started H enc
  simp only [and_true] at this
  exact this

theorem derInside_holds : Rows.DerInsideSaid :=
  OpenClaim.holds_of_wide 8 Try.f8 rfl rfl rfl rfl rfl rfl rfl ⟨rfl, rfl, rfl, rfl, rfl⟩ rfl rfl rfl rfl rfl (by kernel_rfl) Try.func8 (by kernel_rfl)
    (of_decide_eq_true (by kernel_rfl)) (by unfold Func.isWrapper; first | (rw [if_pos (by decide +kernel)]; kernel_rfl) | (rw [if_neg (by decide +kernel)]; exact ⟨rfl, rfl⟩))
    (fun os started H enc _ => lifted os started H enc)
#print axioms derInside_holds
end Go.Proofs.Ytddpgckbdccldaa.derInsideP
