/- For every uint64, every int64, every slice of ways and every slice of intervals the Go function TopMajority returns true and leaves its arguments as they were. No condition. -/
import Derived.Test.YtbkcoijcoacbaaaJ2
import Derived.Test.YtbkcoijcoacbaaaT9
import Derived.SizedLaws
namespace Go.Proofs.Ytbkcoijcoacbaaa.topMajorityP
open Go.ChangeShapes Go.WideShapes Go.ChangeAt Go.RowKit
set_option linter.unusedVariables false
set_option maxRecDepth 100000

theorem law_any {W : World} (t : Nat) (_ : t < 18446744073709551616) (o : Int) (_ : (Lit.int .i64 o).wf = true) {A A2 : Option Addr} {n c m d : Nat} {wy ly : List Ch.Sp} (h : Ch.Rs W W.heap.size A n wy) (h2 : Ch.Rs W W.heap.size A2 m ly) (hn : n ≤ 140737488355328) (hm : m ≤ 140737488355328) :
    Calls Try.prog 3 #[.int .u64 (t : Int), .int .i64 o, .slice A n c, .slice A2 m d] W (Yes W) := major_law h h2 hn hm t o
/-- how many stand in a slice that was read -/
theorem slice_len {H : Type} {enc : TypeId × Value → H} {W : World} {A : Option Addr} {n c : Nat} {fuel : Nat} {t e : TypeId} {x : DataW H × List MemPlace} (ht : Try.prog.underlying t = some (.slice e)) (hf : DataW.trod enc Try.prog W 0 (fun _ => true) true fuel t [.slice A n c] = some x) :
    n = 0 ∨ ∃ el sp, x.1 = .slice el sp ∧ n ≤ el.length := by
  rcases Go.Deep.open_slice ht hf with ⟨h0, _⟩ | ⟨a, len, cap, m, k, D, Pl, hcs, _, _, _, _, hx, _⟩
  · simp at h0
    exact .inl h0.2.1
  · simp at hcs
    obtain ⟨rfl, rfl, rfl⟩ := hcs
    exact .inr ⟨_, _, by rw [hx], by simp⟩
theorem lifted1 (os : Os) (started : os.Started) (H : Type) (enc : TypeId × Value → H) :
    ReturnsInHanded {} Try.checked os 3 .any (fun w args => (Rows.topMajoritySpec.pre enc Try.prog Try.f3 Rows.topMajorityRow.domain false w args ∧ True) ∧ sizedMet enc Try.prog Try.f3 (OpenSpec.ofChange Rows.topMajoritySpec) false w args) (Rows.topMajoritySpec.post enc Try.prog Try.f3 false true false false) := by
  refine returnsInHanded_of_change_and (C := Try.checked) (X := fun _ _ => True) (fun _ _ _ _ _ => trivial) own started (by kernel_rfl) Try.func3 ?_ ?_
  · obtain ⟨w, tape, i, g1, g2, g3, g4, g5, g6⟩ := ChangeSpec.witness6 (enc := enc) (C := Try.checked) (os := os) (s := Rows.topMajoritySpec) (conds := Rows.topMajorityRow.domain) (apart := false) (f := 3) (fn := Try.f3) false ⟨#[], #[.int .u64 0, .int .i64 0, .slice none 0 0, .slice none 0 0], []⟩ 8 (by kernel_rfl) (by kernel_rfl) (by kernel_rfl) (by kernel_rfl)
    exact ⟨w, tape, i, g1, g2, g3, g4, ⟨⟨g5.1, trivial⟩, g5.2⟩, g6⟩
  intro W base args ds gs before hval0 hW hcnd hsz0 _ _
  have hsz : (DataW.weightsEach Try.prog (Try.f3.params.toList ++ Rows.topMajoritySpec.plain.varTypes Try.prog) (ds ++ gs)).all (· ≤ reachBytes) = true := hsz0
  have hval : ∀ (j : Nat) t v, Try.f3.params[j]? = some t → args[j]? = some v → Value.okWide Try.prog W .any base t v := hval0
  have hW' := hW
  obtain ⟨p, q, hA0, hV, rfl, hfz, hnd⟩ := hW
  have hA : DataW.TrodAll enc Try.prog W 0 (fun _ => true) true Try.f3.params.toList args.toList ds p := hA0
  rw [Try.params3] at hA hval hsz
  obtain ⟨v0, vs0, d0, ds0, p0, q0, hargs, rfl, rfl, h0, r0⟩ := trodAll_cons hA
  obtain ⟨v1, vs1, d1, ds1, p1, q1, rfl, rfl, rfl, h1, r1⟩ := trodAll_cons r0
  obtain ⟨v2, vs2, d2, ds2, p2, q2, rfl, rfl, rfl, h2, r2⟩ := trodAll_cons r1
  obtain ⟨v3, vs3, d3, ds3, p3, q3, rfl, rfl, rfl, h3, r3⟩ := trodAll_cons r2
  obtain ⟨rfl, rfl, rfl⟩ := trodAll_nil r3
  obtain rfl : args = #[v0, v1, v2, v3] := by cases args; simp_all
  obtain ⟨rfl, rfl⟩ := trodVars_none hV
  obtain ⟨a0, rfl, rfl, rfl, w0⟩ := open_int Try.underlying22 (hval 0 22 v0 rfl rfl) h0
  obtain ⟨y0, rfl, u0⟩ := u64_nat w0
  obtain ⟨a1, rfl, rfl, rfl, w1⟩ := open_int Try.underlying2 (hval 1 2 v1 rfl rfl) h1
  obtain ⟨a2, len2, cap2, rfl⟩ := okWide_slice Try.underlying23 (hval 2 23 v2 rfl rfl)
  have k2 := h2
  have lt2 : ∀ x ∈ p2, x.block < W.heap.size := by obtain ⟨m, hm⟩ := k2; exact DataW.trod_lt m _ _ _ hm
  obtain ⟨z2, w2, _⟩ : ∃ zs, Ch.Rs W W.heap.size a2 len2 zs ∧ True := by
    obtain ⟨fuel, hf⟩ := h2
    obtain ⟨zs, hz, _⟩ := ways_open hf
    exact ⟨zs, hz, trivial⟩
  have l2 : len2 ≤ 140737488355328 := by
    obtain ⟨fuel, hf⟩ := h2
    rcases slice_len Try.underlying23 hf with h | ⟨el, sp, he, hl⟩
    · omega
    · have hr := sized_slice hsz (j := 2) (t := 23) (e := 37) (elems := el) (spare := sp) rfl (congrArg some he) Try.underlying23
      rw [show Try.prog.bytesOf 37 = 24 by kernel_rfl] at hr
      simp only [reachBytes] at hr
      omega
  obtain ⟨a3, len3, cap3, rfl⟩ := okWide_slice Try.underlying24 (hval 3 24 v3 rfl rfl)
  have k3 := h3
  have lt3 : ∀ x ∈ p3, x.block < W.heap.size := by obtain ⟨m, hm⟩ := k3; exact DataW.trod_lt m _ _ _ hm
  obtain ⟨z3, w3, _⟩ : ∃ zs, Ch.Rs W W.heap.size a3 len3 zs ∧ True := by
    obtain ⟨fuel, hf⟩ := h3
    obtain ⟨zs, hz, _⟩ := Ch.spans_open hf
    exact ⟨zs, hz, trivial⟩
  have l3 : len3 ≤ 140737488355328 := by
    obtain ⟨fuel, hf⟩ := h3
    rcases slice_len Try.underlying24 hf with h | ⟨el, sp, he, hl⟩
    · omega
    · have hr := sized_slice hsz (j := 3) (t := 24) (e := 28) (elems := el) (spare := sp) rfl (congrArg some he) Try.underlying24
      rw [show Try.prog.bytesOf 28 = 24 by kernel_rfl] at hr
      simp only [reachBytes] at hr
      omega
  clear hA0 hval0
  refine (law_any y0 u0 a1 w1 w2 w3 l2 l3).mono fun e W' ⟨he, bel⟩ => ?_
  subst he
  exact ⟨_, rfl, _, _, _, [], _, [], hW', trodAll_mk1 (shut_bool Try.underlying4 _), (trodAll_cons_mk (shut_int Try.underlying22 w0) (trodAll_cons_mk (shut_int Try.underlying2 w1) (trodAll_cons_mk (Below.trod laidOut (by kernel_rfl) (of_decide_eq_true (by kernel_rfl)) k2 bel lt2) (trodAll_cons_mk (Below.trod laidOut (by kernel_rfl) (of_decide_eq_true (by kernel_rfl)) k3 bel lt3) trodAll_mk0)))), rfl, bel.frame _, fun h => by cases h⟩
theorem lifted (os : Os) (started : os.Started) (H : Type) (enc : TypeId × Value → H) :
    ReturnsInHanded {} Try.checked os 3 .any (Rows.topMajoritySpec.pre6 enc Try.prog Try.f3 Rows.topMajorityRow.domain false) (Rows.topMajoritySpec.post enc Try.prog Try.f3 false true false false) := by
  have := lifted1 os started H enc
  simp only [and_true] at this
  exact this

theorem topMajority_holds : Rows.TopMajoritySaid :=
  OpenClaim.holds_of_wide 3 Try.f3 rfl rfl rfl rfl rfl rfl rfl ⟨rfl, rfl, rfl, rfl, rfl⟩ rfl rfl rfl rfl rfl (by kernel_rfl) Try.func3 (by kernel_rfl)
    (of_decide_eq_true (by kernel_rfl)) (by unfold Func.isWrapper; first | (rw [if_pos (by decide +kernel)]; kernel_rfl) | (rw [if_neg (by decide +kernel)]; exact ⟨rfl, rfl⟩))
    (fun os started H enc _ => lifted os started H enc)
#print axioms topMajority_holds
end Go.Proofs.Ytbkcoijcoacbaaa.topMajorityP
