/- audit: verdicts of the program's own copies; lists of faces that came in. -/
import Derived.Test.YtompggkdjbkjjaaB7
import Derived.Test.YtompggkdjbkjjaaA17
import Derived.Test.YtompggkdjbkjjaaA18
namespace Go.Proofs.Ytompggkdjbkjjaa
open Go.ChangeShapes Go.WideShapes Go.ChangeAt Go.RowKit
set_option linter.unusedVariables false
set_option maxRecDepth 100000
theorem copy_ok {W w : World} {b B n c : Nat} {A A' : Option Addr} {E E' : List Ev} {M : Nat} (hg : Ge W b A' n c E') (h : Lg w B A n E) (hm : E'.map Ev.m = E.map Ev.m) (hl : ∀ x ∈ E, x.n ≤ M) (hok : ∀ x ∈ E, x.ok) : (∀ x' ∈ E', x'.n ≤ M) ∧ ∀ x' ∈ E', x'.ok := by
  have hel : ∀ x' ∈ E', x'.n ≤ M ∧ x'.ok := by
    intro x' hx'
    obtain ⟨i, hi, rfl⟩ := List.getElem_of_mem hx'
    have hi2 : i < E.length := by have := congrArg List.length hm; simp at this; omega
    have e : E'[i].m = E[i].m := by
      have := congrArg (fun l => l[i]?) hm
      simpa [List.getElem?_eq_getElem hi, List.getElem?_eq_getElem hi2] using this
    have l1 := (hg.2.2 _ hx').1.len
    have l2 := (h.2.1 _ (List.getElem_mem hi2)).len
    have k1 := hl _ (List.getElem_mem hi2)
    have k2 := hok _ (List.getElem_mem hi2)
    simp only [Ev.m, Em.mk.injEq] at e
    unfold Ev.ok at k2 ⊢
    rw [e.1, e.2.1, e.2.2.1, e.2.2.2.1]
    refine ⟨?_, k2⟩
    rw [← l1, e.2.2.2.2, l2]; exact k1
  exact ⟨fun x hx => (hel x hx).1, fun x hx => (hel x hx).2⟩
theorem face_ok {L L' : List Fc} (hm : L'.map Fc.m = L.map Fc.m) (ha : ∀ x ∈ L, x.a < 4294967296) : ∀ x ∈ L', x.a < 4294967296 := by
  intro x hx
  have h1 : x.m ∈ L.map Fc.m := hm ▸ List.mem_map_of_mem hx
  obtain ⟨y, hy, e⟩ := List.mem_map.1 h1
  have := ha y hy
  simp only [Fc.m, Prod.mk.injEq] at e
  omega
/-- Judge of the program's own copies -/
theorem own_judge {w : World} {B n m : Nat} {A : Option Addr} {E : List Ev} {L : List Fc} (h : Lg w B A n E) (hn : n ≤ 1000) (hm : m ≤ 1000) (hl : ∀ x ∈ E, x.n ≤ 1073741824) (hok : ∀ x ∈ E, x.ok) (ha : ∀ x ∈ L, x.a < 4294967296)
    (W : World) (A' Af : Option Addr) (c' d' : Nat) (E' : List Ev) (L' : List Fc) (b b2 : Nat) (hg : Ge W b A' n c' E') (he : E'.map Ev.m = E.map Ev.m) (hf : Gf W b2 Af m d' L') (hfm : L'.map Fc.m = L.map Fc.m) :
    Calls Try.prog 17 #[.slice A' n c', .slice Af m d'] W fun e w' => ∃ A'' c'', e = .returned (.slice A'' (judged (L.map Fc.m) (E.map Ev.m)).length c'') ∧ Gw w' W.heap.size 46 3 A'' (judged (L.map Fc.m) (E.map Ev.m)).length c'' (vs (judged (L.map Fc.m) (E.map Ev.m))) ∧ RowKit.Below W.heap.size W w' := by
  obtain ⟨h1, h2⟩ := copy_ok hg h he hl hok
  have hlen : (E.map Ev.m).length = n := by simp [h.1]
  have hj := judge_any (c := c') (d := d') (Af := Af) (m := m) (fI := (stf (tfu (L'.map Fc.m) (E'.map Ev.m) n)).1) hg.lg hn h1 h2 (fun q => rfl) (first_any (c := c') (d := d') hg.lg hf.lf hn hm h2 h1 (face_ok hfm ha))
  rw [he, hfm] at hj
  refine hj.mono ?_
  rintro e w' ⟨A'', c'', rfl, h3, h4⟩
  unfold judged
  rw [hlen, List.length_map]
  exact ⟨A'', c'', rfl, h3, h4⟩
theorem log_cap {H : Type} {enc : TypeId × Value → H} {W : World} {A : Option Addr} {n c : Nat} {fuel : Nat} {x : DataW H × List MemPlace} (hf : DataW.trod enc Try.prog W 0 (fun _ => true) true fuel 22 [.slice A n c] = some x) : n ≤ c := by
  rcases Go.Deep.open_slice Try.underlying22 hf with ⟨h0, _⟩ | ⟨a, len, cap, m, k, D, Pl, hcs, hb, hl, hm, hmm, hxx, hx⟩
  · simp at h0
    omega
  · simp at hcs
    omega
theorem face_parts {H : Type} {enc : TypeId × Value → H} {W : World} {cs : List Value} {fuel : Nat} {x : DataW H × List MemPlace} (hf : DataW.trod enc Try.prog W 0 (fun _ => true) true fuel 72 cs = some x) :
    ∃ E : Fc, cs = E.cs ∧ E.a < 4294967296 ∧ Nb W W.heap.size E.A E.n E.c E.xs ∧ ∀ m, (∀ q ∈ x.1.weights Try.prog 72, q ≤ m) → E.n ≤ m := by
  obtain ⟨xs, n, _, rfl, hl, hlen, hff⟩ := DataW.trod_struct Try.underlying72 hf
  match xs, hlen with
  | [y0, y1], _ =>
    obtain ⟨t1, e1, _, w1⟩ := DataW.trod_int Try.underlying51 (hff 0 _ rfl)
    obtain ⟨A, m, k, zs, e4, hnb, hsz⟩ := bytes_open (hff 1 _ rfl)
    obtain ⟨u1, rfl, l1⟩ := u32_nat w1
    refine ⟨⟨u1, A, m, k, zs⟩, ?_, l1, hnb, fun M hM => hsz M fun q hq => hM q ?_⟩
    · have hc : Try.prog.cellsOf 72 = 2 := by kernel_rfl
      have hc2 : Try.prog.cellsOf 51 = 1 := by kernel_rfl
      have hc4 : Try.prog.cellsOf 52 = 1 := by kernel_rfl
      rw [hc] at hl
      match cs, hl with
      | [a, b], _ =>
        simp [hc2, hc4] at e1 e4
        simp [Fc.cs, e1, e4]
    · simp [DataW.weights, Try.underlying72, DataW.weightsEach]
      exact .inr hq
theorem faces_open {H : Type} {enc : TypeId × Value → H} {W : World} {A : Option Addr} {n c : Nat} {fuel : Nat} {x : DataW H × List MemPlace} (hf : DataW.trod enc Try.prog W 0 (fun _ => true) true fuel 23 [.slice A n c] = some x) :
    ∃ E : List Fc, Lf W W.heap.size A n E ∧ (∀ e ∈ E, e.a < 4294967296) ∧ ∀ M, (∀ q ∈ x.1.weights Try.prog 23, q ≤ M) → n ≤ M ∧ ∀ e ∈ E, e.n ≤ M := by
  rcases Go.Deep.open_slice Try.underlying23 hf with ⟨h0, _⟩ | ⟨a, len, cap, m, k, D, Pl, hcs, hb, hl, hm, hmm, hxx, hx⟩
  · simp at h0
    obtain ⟨rfl, rfl, rfl⟩ := h0
    exact ⟨[], ⟨rfl, (fun x hx => by cases hx), .inl rfl⟩, (fun e he => by cases he), fun M _ => ⟨Nat.zero_le _, (fun e he => by cases he)⟩⟩
  · simp at hcs
    obtain ⟨rfl, rfl, rfl⟩ := hcs
    have hc5 : Try.prog.cellsOf 72 = 2 := by kernel_rfl
    simp only [if_true] at hmm
    subst hmm
    have each : ∀ i, i < n → ∃ E : Fc, (∀ j v, E.cs[j]? = some v → W.cell? ((a.add (i * 2)).add j) = some v) ∧ E.a < 4294967296 ∧ Nb W W.heap.size E.A E.n E.c E.xs ∧ ∀ m, (∀ q ∈ (D i).weights Try.prog 72, q ≤ m) → E.n ≤ m := fun i hi => by
      obtain ⟨cs', h1, h2⟩ := hx i (by omega)
      rw [hc5] at h1
      obtain ⟨_, hlen, hcell⟩ := World.cells?_some h1
      obtain ⟨E, rfl, hE⟩ := face_parts h2
      refine ⟨E, fun j v hv => ?_, hE⟩
      have hj : j < 2 := by
        rcases Nat.lt_or_ge j 2 with h | h
        · exact h
        · rw [List.getElem?_eq_none (by simpa [Fc.cs] using h)] at hv; cases hv
      have := hcell j (by simpa using hj)
      rw [this, hv]
    obtain ⟨E, hE⟩ := Go.Deep.choose_lt each
    refine ⟨(List.range n).map E, ⟨by simp, fun e he => ?_, ?_⟩, fun e he => ?_, fun M hM => ⟨?_, fun e he => ?_⟩⟩
    · simp only [List.mem_map, List.mem_range] at he
      obtain ⟨i, hi, rfl⟩ := he
      exact (hE i hi).2.2.1
    · rcases Nat.eq_zero_or_pos n with h0 | h0
      · exact .inl h0
      · have hc0 := (hE 0 h0).1 0 _ rfl
        obtain ⟨b, off, spot⟩ := a
        have hspot : spot = none := by simpa [Addr.add] using World.cell?_spot hc0
        subst hspot
        have hlt := World.block_lt_of_cell? W _ hc0
        refine .inr ⟨b, off, rfl, by simpa [Addr.add] using hlt, fun i s hi => ?_⟩
        obtain ⟨hi', rfl⟩ : i < n ∧ s = E i := by
          simp only [List.getElem?_map, Option.map_eq_some_iff] at hi
          obtain ⟨y, hy, rfl⟩ := hi
          have := List.getElem?_eq_some_iff.1 hy
          obtain ⟨h1, h2⟩ := this
          simp at h1 h2
          exact ⟨h1, by rw [h2]⟩
        have HH : ∀ j v, (E i).cs[j]? = some v → W.cell? ⟨b, off + i * 2 + j, none⟩ = some v := fun j v hv => by
          have := (hE i hi').1 j v hv
          rwa [Addr.add_mid, Addr.add_mid] at this
        exact ⟨HH 0 _ rfl, HH 1 _ rfl⟩
    · simp only [List.mem_map, List.mem_range] at he
      obtain ⟨i, hi, rfl⟩ := he
      exact (hE i hi).2.1
    · subst hxx
      have := hM (((List.range n).map D).length * Try.prog.bytesOf 72 + ((List.range (m - n)).map fun j => D (n + j)).length * Try.prog.bytesOf 72) (by simp only [DataW.weights, Try.underlying23, Nat.add_mul]; exact List.mem_cons_self)
      rw [show Try.prog.bytesOf 72 = 32 by kernel_rfl] at this
      simp at this
      omega
    · simp only [List.mem_map, List.mem_range] at he
      obtain ⟨i, hi, rfl⟩ := he
      subst hxx
      refine (hE i hi).2.2.2 M fun q hq => hM q ?_
      simp only [DataW.weights, Try.underlying23]
      exact List.mem_cons_of_mem _ (List.mem_append_left _ (weights_all (d := D i) (by simp only [List.mem_map, List.mem_range]; exact ⟨i, hi, rfl⟩) hq))
end Go.Proofs.Ytompggkdjbkjjaa
