/- choose: what a law's frame needs; intervals and numbers that came in. -/
import Derived.Test.YtbkcoijcoacbaaaChC18
import Derived.Test.YtbkcoijcoacbaaaRows
import Derived.ProofKit
import Derived.OpenShut
import Derived.ChangeOld
import Derived.Stop.Joined
import Derived.Lib.SmallJoins
import Derived.Deep.MidRow
import Derived.Deep.Slices
namespace Go.Proofs.Ytbkcoijcoacbaaa.Ch
open Go.ChangeShapes Go.WideShapes Go.ChangeAt Go.RowKit
set_option linter.unusedVariables false
set_option maxRecDepth 100000
theorem in64_wf {a : Int} (w : (Lit.int .i64 a).wf = true) : in64 a := by
  simp [Lit.wf, IntKind.min, IntKind.max, IntKind.signed, IntKind.bits] at w
  unfold in64; omega
theorem span_parts {H : Type} {enc : TypeId × Value → H} {W : World} {cs : List Value} {fuel : Nat} {x : DataW H × List MemPlace} (hf : DataW.trod enc Try.prog W 0 (fun _ => true) true fuel 28 cs = some x) :
    ∃ s : Sp, cs = s.cs ∧ s.ok := by
  obtain ⟨xs, n, _, hx, hlen, hl, hf⟩ := DataW.trod_struct Try.underlying28 hf
  match xs, hl with
  | [y0, y1, y2], _ =>
    obtain ⟨t0, e0, _, w0⟩ := DataW.trod_int Try.underlying2 (hf 0 _ rfl)
    obtain ⟨t1, e1, _, w1⟩ := DataW.trod_int Try.underlying2 (hf 1 _ rfl)
    obtain ⟨t2, e2, _, w2⟩ := DataW.trod_int Try.underlying2 (hf 2 _ rfl)
    refine ⟨⟨t0, t1, t2⟩, ?_, in64_wf w0, in64_wf w1, in64_wf w2⟩
    have hc : Try.prog.cellsOf 28 = 3 := by kernel_rfl
    have hc1 : Try.prog.cellsOf 2 = 1 := by kernel_rfl
    rw [hc] at hlen
    match cs, hlen with
    | [a, b, c], _ =>
      simp [hc1] at e0 e1 e2
      simp [Sp.cs, e0, e1, e2]
theorem spans_open {H : Type} {enc : TypeId × Value → H} {W : World} {A : Option Addr} {n c : Nat} {fuel : Nat} {x : DataW H × List MemPlace} (hf : DataW.trod enc Try.prog W 0 (fun _ => true) true fuel 24 [.slice A n c] = some x) :
    ∃ xs : List Sp, Rs W W.heap.size A n xs ∧ (∀ s ∈ xs, s.ok) ∧ n ≤ c ∧ c ≤ maxLen := by
  rcases Go.Deep.open_slice Try.underlying24 hf with ⟨h0, _⟩ | ⟨a, len, cap, m, k, D, Pl, hcs, hb, hl, hm, hmm, _, hx⟩
  · simp at h0
    obtain ⟨rfl, rfl, rfl⟩ := h0
    exact ⟨[], ⟨rfl, .inl rfl⟩, fun s hs => by simp at hs, Nat.le_refl _, Nat.zero_le _⟩
  · simp at hcs
    obtain ⟨rfl, rfl, rfl⟩ := hcs
    have hc3 : Try.prog.cellsOf 28 = 3 := by kernel_rfl
    simp only [if_true] at hmm
    subst hmm
    have each : ∀ i, i < n → ∃ E : Sp, (∀ j v, E.cs[j]? = some v → W.cell? ((a.add (i * 3)).add j) = some v) ∧ E.ok := fun i hi => by
      obtain ⟨cs', h1, h2⟩ := hx i (by omega)
      rw [hc3] at h1
      obtain ⟨_, hlen, hcell⟩ := World.cells?_some h1
      obtain ⟨E, rfl, hE⟩ := span_parts h2
      refine ⟨E, fun j v hv => ?_, hE⟩
      have hj : j < 3 := by
        rcases Nat.lt_or_ge j 3 with h | h
        · exact h
        · rw [List.getElem?_eq_none (by simpa [Sp.cs] using h)] at hv; cases hv
      have := hcell j (by simpa using hj)
      rw [this, hv]
    obtain ⟨E, hE⟩ := Go.Deep.choose_lt each
    refine ⟨(List.range n).map E, ⟨by simp, ?_⟩, fun s hs => ?_, hl, hm⟩
    · rcases Nat.eq_zero_or_pos n with h0 | h0
      · exact .inl h0
      · have hc0 := (hE 0 h0).1 0 _ rfl
        obtain ⟨b, off, spot⟩ := a
        have hspot : spot = none := by simpa [Addr.add] using World.cell?_spot hc0
        subst hspot
        have hlt := World.block_lt_of_cell? W _ hc0
        refine .inr ⟨b, off, rfl, by simpa [Addr.add] using hlt, fun i s hi => ?_⟩
        obtain ⟨hi', rfl⟩ : i < n ∧ s = E i := by
          simp only [List.getElem?_map, Option.map_eq_some_iff] at hi
          obtain ⟨y, hy, rfl⟩ := hi
          have := List.getElem?_eq_some_iff.1 hy
          obtain ⟨h1, h2⟩ := this
          simp at h1 h2
          exact ⟨h1, by rw [h2]⟩
        have H : ∀ j v, (E i).cs[j]? = some v → W.cell? ⟨b, off + i * 3 + j, none⟩ = some v := fun j v hv => by
          have := (hE i hi').1 j v hv
          rwa [Addr.add_mid, Addr.add_mid] at this
        exact ⟨H 0 _ rfl, H 1 _ rfl, H 2 _ rfl⟩
    · simp only [List.mem_map, List.mem_range] at hs
      obtain ⟨i, hi, rfl⟩ := hs
      exact (hE i hi).2
theorem nums_open {H : Type} {enc : TypeId × Value → H} {W : World} {A : Option Addr} {n c : Nat} {fuel : Nat} {x : DataW H × List MemPlace} (hf : DataW.trod enc Try.prog W 0 (fun _ => true) true fuel 52 [.slice A n c] = some x) :
    ∃ zs, Ri W W.heap.size A n zs ∧ (∀ z ∈ zs, in64 z) ∧ n ≤ maxLen := by
  rcases open_ints Try.underlying52 Try.underlying2 (by kernel_rfl) hf with ⟨hcs, _⟩ | ⟨a, l, c', zs, hcs, _, hl, hm, hz, _, hcell, hwz⟩
  · simp at hcs
    obtain ⟨rfl, rfl, rfl⟩ := hcs
    exact ⟨[], ⟨rfl, .inl rfl⟩, (fun z hz => by cases hz), Nat.zero_le _⟩
  · simp at hcs
    obtain ⟨rfl, rfl, rfl⟩ := hcs
    simp only [if_true] at hz
    refine ⟨zs.take n, ⟨by rw [List.length_take]; omega, ?_⟩, fun z hz' => in64_wf (hwz z (List.mem_of_mem_take hz')), by omega⟩
    rcases Nat.eq_zero_or_pos n with h0 | h0
    · exact .inl h0
    · have hc0 := hcell 0 (by omega)
      obtain ⟨b, off, spot⟩ := a
      have hspot : spot = none := by simpa [Addr.add] using World.cell?_spot hc0
      subst hspot
      have hlt := World.block_lt_of_cell? W _ hc0
      refine .inr ⟨b, off, rfl, by simpa [Addr.add] using hlt, fun i z hi => ?_⟩
      have hi' : i < n := by
        have := (List.getElem?_eq_some_iff.1 hi).1
        rw [List.length_take] at this
        omega
      rw [List.getElem?_take_of_lt hi'] at hi
      have := hcell i (by omega)
      rw [Addr.add_mid] at this
      rw [this, List.getD_eq_getElem?_getD, hi]
      rfl
end Go.Proofs.Ytbkcoijcoacbaaa.Ch
