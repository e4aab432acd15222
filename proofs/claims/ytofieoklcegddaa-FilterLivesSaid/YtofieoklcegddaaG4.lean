/- Samples that came in. -/
import Derived.Test.YtofieoklcegddaaF8
import Derived.Test.YtofieoklcegddaaRows
import Derived.ProofKit
import Derived.OpenShut
import Derived.ChangeOld
import Derived.Stop.Joined
import Derived.Lib.SmallJoins
import Derived.Deep.MidRow
import Derived.Deep.Slices
namespace Go.Proofs.Ytofieoklcegddaa
open Go.ChangeShapes Go.WideShapes Go.ChangeAt Go.RowKit
set_option linter.unusedVariables false
set_option maxRecDepth 100000

theorem own : ownKnob Try.prog.godebug = none := by kernel_rfl
theorem laidOut : laidOutB Try.prog = true := by kernel_rfl
def in64 (n : Int) : Prop := -9223372036854775808 ≤ n ∧ n ≤ 9223372036854775807
theorem in64_wf {a : Int} (w : (Lit.int .i64 a).wf = true) : in64 a := by
  simp [Lit.wf, IntKind.min, IntKind.max, IntKind.signed, IntKind.bits] at w
  unfold in64; omega
theorem u64_nat {a : Int} (w : (Lit.int .u64 a).wf = true) : ∃ y : Nat, a = (y : Int) ∧ y < 18446744073709551616 := by
  simp [Lit.wf, IntKind.min, IntKind.max, IntKind.signed, IntKind.bits] at w
  exact ⟨a.toNat, by omega, by omega⟩
def S4.ok (s : S4) : Prop := in64 s.o ∧ in64 s.d ∧ in64 s.p ∧ in64 s.a
theorem sample_parts {H : Type} {enc : TypeId × Value → H} {W : World} {cs : List Value} {fuel : Nat} {x : DataW H × List MemPlace} (hf : DataW.trod enc Try.prog W 0 (fun _ => true) true fuel 23 cs = some x) :
    ∃ s : S4, cs = s.cs ∧ s.ok := by
  obtain ⟨y0, y1, y2, y3, n, _, hlen, h0, h1, h2, h3⟩ := Joins.trod_struct4 Try.underlying23 hf
  obtain ⟨t, e0, _, w0⟩ := DataW.trod_int Try.underlying2 h0
  obtain ⟨f, e1, _, w1⟩ := DataW.trod_int Try.underlying2 h1
  obtain ⟨p, e2, _, w2⟩ := DataW.trod_int Try.underlying2 h2
  obtain ⟨q, e3, _, w3⟩ := DataW.trod_int Try.underlying2 h3
  refine ⟨⟨t, f, p, q⟩, ?_, in64_wf w0, in64_wf w1, in64_wf w2, in64_wf w3⟩
  have hc : Try.prog.cellsOf 23 = 4 := by kernel_rfl
  have hc1 : Try.prog.cellsOf 2 = 1 := by kernel_rfl
  rw [hc] at hlen
  match cs, hlen with
  | [a, b, c, d], _ =>
    simp [hc1] at e0 e1 e2 e3
    simp [S4.cs, e0, e1, e2, e3]
theorem sample_open {H : Type} {enc : TypeId × Value → H} {W : World} {cs : Array Value} {p : List MemPlace} {d : DataW H} (h : DataW.Trod enc Try.prog W 0 (fun _ => true) true 23 (.agg cs) d p) : ∃ s : S4, cs = #[.int .i64 s.o, .int .i64 s.d, .int .i64 s.p, .int .i64 s.a] ∧ s.ok := by
  obtain ⟨fuel, hf⟩ := h
  obtain ⟨s, e, hk⟩ := sample_parts hf
  refine ⟨s, ?_, hk⟩
  simp only [Value.cells] at e
  obtain ⟨l⟩ := cs
  simp at e
  rw [e]
  rfl
theorem samples_open {H : Type} {enc : TypeId × Value → H} {W : World} {A : Option Addr} {n c : Nat} {fuel : Nat} {x : DataW H × List MemPlace} (hf : DataW.trod enc Try.prog W 0 (fun _ => true) true fuel 36 [.slice A n c] = some x) :
    ∃ xs : List S4, Rd W W.heap.size A n xs ∧ (∀ s ∈ xs, s.ok) ∧ n ≤ c ∧ c ≤ maxLen := by
  rcases Go.Deep.open_slice Try.underlying36 hf with ⟨h0, _⟩ | ⟨a, len, cap, m, k, D, Pl, hcs, hb, hl, hm, hmm, _, hx⟩
  · simp at h0
    obtain ⟨rfl, rfl, rfl⟩ := h0
    exact ⟨[], ⟨rfl, .inl rfl⟩, fun s hs => by simp at hs, Nat.le_refl _, Nat.zero_le _⟩
  · simp at hcs
    obtain ⟨rfl, rfl, rfl⟩ := hcs
    have hc4 : Try.prog.cellsOf 23 = 4 := by kernel_rfl
    simp only [if_true] at hmm
    subst hmm
    have each : ∀ i, i < n → ∃ E : S4, (∀ j v, E.cs[j]? = some v → W.cell? ((a.add (i * 4)).add j) = some v) ∧ E.ok := fun i hi => by
      obtain ⟨cs', h1, h2⟩ := hx i (by omega)
      rw [hc4] at h1
      obtain ⟨_, hlen, hcell⟩ := World.cells?_some h1
      obtain ⟨E, rfl, hE⟩ := sample_parts h2
      refine ⟨E, fun j v hv => ?_, hE⟩
      have hj : j < 4 := by
        rcases Nat.lt_or_ge j 4 with h | h
        · exact h
        · rw [List.getElem?_eq_none (by simpa [S4.cs] using h)] at hv; cases hv
      have := hcell j (by simpa using hj)
      rw [this, hv]
    obtain ⟨E, hE⟩ := Go.Deep.choose_lt each
    refine ⟨(List.range n).map E, ⟨by simp, ?_⟩, fun s hs => ?_, hl, hm⟩
    · rcases Nat.eq_zero_or_pos n with h0 | h0
      · exact .inl h0
      · have hc0 := (hE 0 h0).1 0 _ rfl
        obtain ⟨b, off, spot⟩ := a
        have hspot : spot = none := by simpa [Addr.add] using World.cell?_spot hc0
        subst hspot
        have hlt := World.block_lt_of_cell? W _ hc0
        refine .inr ⟨b, off, rfl, by simpa [Addr.add] using hlt, fun i s hi => ?_⟩
        obtain ⟨hi', rfl⟩ : i < n ∧ s = E i := by
          simp only [List.getElem?_map, Option.map_eq_some_iff] at hi
          obtain ⟨y, hy, rfl⟩ := hi
          have := List.getElem?_eq_some_iff.1 hy
          obtain ⟨h1, h2⟩ := this
          simp at h1 h2
          exact ⟨h1, by rw [h2]⟩
        have H : ∀ j v, (E i).cs[j]? = some v → W.cell? ⟨b, off + i * 4 + j, none⟩ = some v := fun j v hv => by
          have := (hE i hi').1 j v hv
          rwa [Addr.add_mid, Addr.add_mid] at this
        exact ⟨H 0 _ rfl, H 1 _ rfl, H 2 _ rfl, H 3 _ rfl⟩
    · simp only [List.mem_map, List.mem_range] at hs
      obtain ⟨i, hi, rfl⟩ := hs
      exact (hE i hi).2
end Go.Proofs.Ytofieoklcegddaa
