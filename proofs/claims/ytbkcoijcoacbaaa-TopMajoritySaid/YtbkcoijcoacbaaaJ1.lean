/- top08: more than half of the intervals have the point; ways that came in. -/
import Derived.Test.YtbkcoijcoacbaaaChC13
import Derived.Test.YtbkcoijcoacbaaaT3
namespace Go.Proofs.Ytbkcoijcoacbaaa
open Go.ChangeShapes Go.WideShapes Go.ChangeAt Go.RowKit
set_option linter.unusedVariables false
set_option maxRecDepth 100000
theorem way_parts {H : Type} {enc : TypeId × Value → H} {W : World} {cs : List Value} {fuel : Nat} {x : DataW H × List MemPlace} (hf : DataW.trod enc Try.prog W 0 (fun _ => true) true fuel 37 cs = some x) :
    ∃ s : Ch.Sp, cs = s.cs ∧ s.ok := by
  obtain ⟨xs, n, _, hx, hlen, hl, hf⟩ := DataW.trod_struct Try.underlying37 hf
  match xs, hl with
  | [y0, y1, y2], _ =>
    obtain ⟨t0, e0, _, w0⟩ := DataW.trod_int Try.underlying2 (hf 0 _ rfl)
    obtain ⟨t1, e1, _, w1⟩ := DataW.trod_int Try.underlying2 (hf 1 _ rfl)
    obtain ⟨t2, e2, _, w2⟩ := DataW.trod_int Try.underlying2 (hf 2 _ rfl)
    refine ⟨⟨t0, t1, t2⟩, ?_, Ch.in64_wf w0, Ch.in64_wf w1, Ch.in64_wf w2⟩
    have hc : Try.prog.cellsOf 37 = 3 := by kernel_rfl
    have hc1 : Try.prog.cellsOf 2 = 1 := by kernel_rfl
    rw [hc] at hlen
    match cs, hlen with
    | [a, b, c], _ =>
      simp [hc1] at e0 e1 e2
      simp [Ch.Sp.cs, e0, e1, e2]
theorem ways_open {H : Type} {enc : TypeId × Value → H} {W : World} {A : Option Addr} {n c : Nat} {fuel : Nat} {x : DataW H × List MemPlace} (hf : DataW.trod enc Try.prog W 0 (fun _ => true) true fuel 23 [.slice A n c] = some x) :
    ∃ xs : List Ch.Sp, Ch.Rs W W.heap.size A n xs ∧ (∀ s ∈ xs, s.ok) ∧ n ≤ c ∧ c ≤ maxLen := by
  rcases Go.Deep.open_slice Try.underlying23 hf with ⟨h0, _⟩ | ⟨a, len, cap, m, k, D, Pl, hcs, hb, hl, hm, hmm, _, hx⟩
  · simp at h0
    obtain ⟨rfl, rfl, rfl⟩ := h0
    exact ⟨[], ⟨rfl, .inl rfl⟩, fun s hs => by simp at hs, Nat.le_refl _, Nat.zero_le _⟩
  · simp at hcs
    obtain ⟨rfl, rfl, rfl⟩ := hcs
    have hc3 : Try.prog.cellsOf 37 = 3 := by kernel_rfl
    simp only [if_true] at hmm
    subst hmm
    have each : ∀ i, i < n → ∃ E : Ch.Sp, (∀ j v, E.cs[j]? = some v → W.cell? ((a.add (i * 3)).add j) = some v) ∧ E.ok := fun i hi => by
      obtain ⟨cs', h1, h2⟩ := hx i (by omega)
      rw [hc3] at h1
      obtain ⟨_, hlen, hcell⟩ := World.cells?_some h1
      obtain ⟨E, rfl, hE⟩ := way_parts h2
      refine ⟨E, fun j v hv => ?_, hE⟩
      have hj : j < 3 := by
        rcases Nat.lt_or_ge j 3 with h | h
        · exact h
        · rw [List.getElem?_eq_none (by simpa [Ch.Sp.cs] using h)] at hv; cases hv
      have := hcell j (by simpa using hj)
      rw [this, hv]
    obtain ⟨E, hE⟩ := Go.Deep.choose_lt each
    refine ⟨(List.range n).map E, ⟨by simp, ?_⟩, fun s hs => ?_, hl, hm⟩
    · rcases Nat.eq_zero_or_pos n with h0 | h0
      · exact .inl h0
      · have hc0 := (hE 0 h0).1 0 _ rfl
        obtain ⟨b, off, spot⟩ := a
        have hspot : spot = none := by simpa [Addr.add] using World.cell?_spot hc0
        subst hspot
        have hlt := World.block_lt_of_cell? W _ hc0
        refine .inr ⟨b, off, rfl, by simpa [Addr.add] using hlt, fun i s hi => ?_⟩
        obtain ⟨hi', rfl⟩ : i < n ∧ s = E i := by
          simp only [List.getElem?_map, Option.map_eq_some_iff] at hi
          obtain ⟨y, hy, rfl⟩ := hi
          have := List.getElem?_eq_some_iff.1 hy
          obtain ⟨h1, h2⟩ := this
          simp at h1 h2
          exact ⟨h1, by rw [h2]⟩
        have H : ∀ j v, (E i).cs[j]? = some v → W.cell? ⟨b, off + i * 3 + j, none⟩ = some v := fun j v hv => by
          have := (hE i hi').1 j v hv
          rwa [Addr.add_mid, Addr.add_mid] at this
        exact ⟨H 0 _ rfl, H 1 _ rfl, H 2 _ rfl⟩
    · simp only [List.mem_map, List.mem_range] at hs
      obtain ⟨i, hi, rfl⟩ := hs
      exact (hE i hi).2
theorem cov_all {L : List Ch.Sp} {x : Int} (h : ∀ s ∈ L, s.has x) : Ch.cov L x = L.length := by
  induction L with
  | nil => rfl
  | cons s L ih =>
    rw [Ch.cov_cons, if_pos (h s (by simp)), ih (fun t ht => h t (List.mem_cons_of_mem _ ht)), List.length_cons]
    push_cast; omega
theorem maj_ways {M L : List Ch.Sp} {x : Int} (h : ∀ s ∈ L, s.has x) (hl : M.length < L.length) : Ch.Maj (M ++ L) x := by
  unfold Ch.Maj
  have := (Ch.cov_lim M x).1
  rw [Ch.cov_append, cov_all h, List.length_append]
  push_cast; omega
theorem reg_ways {xs : List Ch.Sp} {x lo hi er : Int} (h : Ch.RegIs xs lo hi er) (hl : xs.length ≤ 64) (hm : Ch.AllMay xs) (hx : Ch.Maj xs x) : er = 0 ∧ lo ≤ x ∧ x ≤ hi := by
  rcases h with ⟨h, _⟩ | ⟨_, _, ⟨h1, h2⟩ | ⟨h1, _⟩⟩
  · exact absurd ⟨hl, hm⟩ h
  · exact ⟨h2, h1.2.2 x hx⟩
  · exact absurd hx (h1 x)
/-- a sample that is off from o by at most its delay -/
def good (o : Int) (s : Fi.S4) : Prop := s.o - s.d ≤ o ∧ o ≤ s.o + s.d ∧ 0 ≤ s.d ∧ s.d ≤ 137438953472 ∧ -274877906944 ≤ s.o ∧ s.o ≤ 274877906944 ∧ s.p = 0 ∧ s.a = 0
theorem good.may {o : Int} {s : Fi.S4} (h : good o s) : s.may := by
  unfold good at h
  unfold Fi.S4.may Fi.inB
  omega
theorem good_ex (o a c : Int) (h1 : -68719476736 ≤ o) (h2 : o ≤ 68719476736) : good o ⟨(2 * o + a % 68719476736 - c % 68719476736) / 2, a % 68719476736 + c % 68719476736, 0, 0⟩ := by
  unfold good; dsimp only; omega
theorem good_push {o : Int} {s : Fi.S4} {L : List Fi.S4} (h : good o s) (hL : ∀ t ∈ L, good o t) : ∀ t ∈ Fi.push s L, good o t := by
  intro t ht
  unfold Fi.push at ht
  rcases List.mem_cons.1 (List.mem_of_mem_take ht) with rfl | r
  · exact h
  · exact hL t r
theorem push_ne (s : Fi.S4) (L : List Fi.S4) : Fi.push s L ≠ [] := by unfold Fi.push; simp
theorem good_head {o : Int} {L : List Fi.S4} (h : L ≠ []) (hL : ∀ t ∈ L, good o t) : good o (Fi.headS (Fi.sorted 0 L)) := by
  obtain ⟨h1, h2, _⟩ := Fi.sorted_facts 0 L
  have hne : Fi.sorted 0 L ≠ [] := by
    intro r
    rw [r] at h1
    exact h (List.eq_nil_of_length_eq_zero h1.symm)
  apply hL
  rw [← h2.mem_iff]
  unfold Fi.headS
  cases hh : Fi.sorted 0 L with
  | nil => exact absurd hh hne
  | cons a l => simp
end Go.Proofs.Ytbkcoijcoacbaaa
