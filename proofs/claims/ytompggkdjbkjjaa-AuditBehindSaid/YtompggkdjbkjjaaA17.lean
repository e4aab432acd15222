/- audit: logs that came in. -/
import Derived.Test.YtompggkdjbkjjaaA16
import Derived.Test.YtompggkdjbkjjaaA15
import Derived.Test.YtompggkdjbkjjaaRows
import Derived.ProofKit
import Derived.OpenShut
import Derived.ChangeOld
import Derived.Stop.Joined
import Derived.Lib.SmallJoins
import Derived.Deep.MidRow
import Derived.Deep.Slices
import Derived.SizedLaws
namespace Go.Proofs.Ytompggkdjbkjjaa
open Go.ChangeShapes Go.WideShapes Go.ChangeAt Go.RowKit
set_option linter.unusedVariables false
set_option maxRecDepth 100000

theorem own : ownKnob Try.prog.godebug = none := by kernel_rfl
theorem nb_of_row {W : World} {x : Addr} {len cap : Nat} {zs : List Int} (hl : len ≤ cap) (hm : cap ≤ maxLen) (hz : zs.length = cap) (hcell : ∀ i, i < zs.length → W.cell? (x.add i) = some (.int .u8 (zs.getD i 0))) (hwz : ∀ n ∈ zs, (Lit.int .u8 n).wf = true) :
    Nb W W.heap.size (some x) len cap ((zs.take len).map Int.toNat) := by
  have hb : ∀ n ∈ zs, 0 ≤ n ∧ n ≤ 255 := fun n hn => by
    have := hwz n hn
    simp [Lit.wf, IntKind.min, IntKind.max, IntKind.signed, IntKind.bits] at this
    omega
  refine ⟨by simp; omega, hl, hm, ?_, ?_⟩
  · intro y hy
    simp only [List.mem_map] at hy
    obtain ⟨n, hn, rfl⟩ := hy
    have := hb n (List.mem_of_mem_take hn)
    omega
  · intro h0
    have hc := hcell 0 (by omega)
    obtain ⟨b, off, spot⟩ := x
    have hspot : spot = none := by simpa [Addr.add] using World.cell?_spot hc
    subst hspot
    have hlt := World.block_lt_of_cell? W _ hc
    refine ⟨b, off, rfl, by simpa [Addr.add] using hlt, fun j y hj => ?_⟩
    simp only [List.getElem?_map, Option.map_eq_some_iff, List.getElem?_take] at hj
    obtain ⟨n, hn, rfl⟩ := hj
    split at hn
    · have hj2 : j < zs.length := by
        rcases Nat.lt_or_ge j zs.length with h | h
        · exact h
        · rw [List.getElem?_eq_none h] at hn; cases hn
      have h1 := hcell j hj2
      have h2 : zs.getD j 0 = n := by simp [List.getD, hn]
      rw [h2] at h1
      have h3 := hb n (List.mem_of_getElem? hn)
      rw [show ((n.toNat : Nat) : Int) = n by omega]
      by_cases hj0 : j = 0
      · subst hj0; simpa [Addr.add] using h1
      · simpa [Addr.add, hj0] using h1
    · cases hn
theorem u32_nat {a : Int} (w : (Lit.int .u32 a).wf = true) : ∃ y : Nat, a = (y : Int) ∧ y < 4294967296 := by
  simp [Lit.wf, IntKind.min, IntKind.max, IntKind.signed, IntKind.bits] at w
  exact ⟨a.toNat, by omega, by omega⟩
theorem i64_lim {a : Int} (w : (Lit.int .i64 a).wf = true) : -9223372036854775808 ≤ a ∧ a ≤ 9223372036854775807 := by
  simp [Lit.wf, IntKind.min, IntKind.max, IntKind.signed, IntKind.bits] at w
  omega
theorem bytes_open {H : Type} {enc : TypeId × Value → H} {W : World} {fuel : Nat} {c : List Value} {x : DataW H × List MemPlace} (hh : DataW.trod enc Try.prog W 0 (fun _ => true) true fuel 52 c = some x) :
    ∃ A n k zs, c = [.slice A n k] ∧ Nb W W.heap.size A n k zs ∧ ∀ m, (∀ q ∈ x.1.weights Try.prog 52, q ≤ m) → n ≤ m := by
  rcases open_ints Try.underlying52 Try.underlying5 (by kernel_rfl) hh with ⟨hcs, _⟩ | ⟨x, l, c, zs, hcs, _, hl, hm, hz, hxx, hcell, hwz⟩
  · exact ⟨none, 0, 0, [], hcs, Nb.nil _ _ 0 (by omega) none, fun m _ => Nat.zero_le _⟩
  · refine ⟨some x, l, c, _, hcs, nb_of_row hl hm (by simpa using hz) hcell hwz, fun m h => ?_⟩
    subst hxx
    have := h (((lits (H := H) .u8 (zs.take l)).length + (lits (H := H) .u8 (zs.drop l)).length) * Try.prog.bytesOf 5) (by simp [DataW.weights, Try.underlying52])
    rw [show Try.prog.bytesOf 5 = 1 by kernel_rfl] at this
    simp [lits] at this hz
    omega
theorem ev_parts {H : Type} {enc : TypeId × Value → H} {W : World} {cs : List Value} {fuel : Nat} {x : DataW H × List MemPlace} (hf : DataW.trod enc Try.prog W 0 (fun _ => true) true fuel 54 cs = some x) :
    ∃ E : Ev, cs = E.cs ∧ E.ok ∧ Nb W W.heap.size E.A E.n E.c E.xs ∧ ∀ m, (∀ q ∈ x.1.weights Try.prog 54, q ≤ m) → E.n ≤ m := by
  obtain ⟨xs, n, _, rfl, hl, hlen, hff⟩ := DataW.trod_struct Try.underlying54 hf
  match xs, hlen with
  | [y0, y1, y2, y3, y4], _ =>
    obtain ⟨t0, e0, _, w0⟩ := DataW.trod_int Try.underlying3 (hff 0 _ rfl)
    obtain ⟨t1, e1, _, w1⟩ := DataW.trod_int Try.underlying51 (hff 1 _ rfl)
    obtain ⟨t2, e2, _, w2⟩ := DataW.trod_int Try.underlying51 (hff 2 _ rfl)
    obtain ⟨t3, e3, _, w3⟩ := DataW.trod_int Try.underlying2 (hff 3 _ rfl)
    obtain ⟨A, m, k, zs, e4, hnb, hsz⟩ := bytes_open (hff 4 _ rfl)
    obtain ⟨u1, rfl, l1⟩ := u32_nat w1
    obtain ⟨u2, rfl, l2⟩ := u32_nat w2
    refine ⟨⟨t0, u1, u2, t3, A, m, k, zs⟩, ?_, ⟨i64_lim w0, l1, l2, i64_lim w3⟩, hnb, fun M hM => hsz M fun q hq => hM q ?_⟩
    · have hc : Try.prog.cellsOf 54 = 5 := by kernel_rfl
      have hc1 : Try.prog.cellsOf 3 = 1 := by kernel_rfl
      have hc2 : Try.prog.cellsOf 51 = 1 := by kernel_rfl
      have hc3 : Try.prog.cellsOf 2 = 1 := by kernel_rfl
      have hc4 : Try.prog.cellsOf 52 = 1 := by kernel_rfl
      rw [hc] at hl
      match cs, hl with
      | [a, b, c, d, e], _ =>
        simp [hc1, hc2, hc3, hc4] at e0 e1 e2 e3 e4
        simp [Ev.cs, e0, e1, e2, e3, e4]
    · simp [DataW.weights, Try.underlying54, DataW.weightsEach]
      exact .inr (.inr (.inr (.inr hq)))
theorem weights_all {H : Type} {P : Program} {e : TypeId} {d : DataW H} {q : Nat} : ∀ {l : List (DataW H)}, d ∈ l → q ∈ d.weights P e → q ∈ DataW.weightsAll P e l
  | a :: l, h, hq => by
    simp only [DataW.weightsAll, List.mem_append]
    rcases List.mem_cons.1 h with rfl | h
    · exact .inl hq
    · exact .inr (weights_all h hq)
theorem log_open {H : Type} {enc : TypeId × Value → H} {W : World} {A : Option Addr} {n c : Nat} {fuel : Nat} {x : DataW H × List MemPlace} (hf : DataW.trod enc Try.prog W 0 (fun _ => true) true fuel 22 [.slice A n c] = some x) :
    ∃ E : List Ev, Lg W W.heap.size A n E ∧ (∀ e ∈ E, e.ok) ∧ ∀ M, (∀ q ∈ x.1.weights Try.prog 22, q ≤ M) → n ≤ M ∧ ∀ e ∈ E, e.n ≤ M := by
  rcases Go.Deep.open_slice Try.underlying22 hf with ⟨h0, _⟩ | ⟨a, len, cap, m, k, D, Pl, hcs, hb, hl, hm, hmm, hxx, hx⟩
  · simp at h0
    obtain ⟨rfl, rfl, rfl⟩ := h0
    exact ⟨[], ⟨rfl, (fun x hx => by cases hx), .inl rfl⟩, (fun e he => by cases he), fun M _ => ⟨Nat.zero_le _, (fun e he => by cases he)⟩⟩
  · simp at hcs
    obtain ⟨rfl, rfl, rfl⟩ := hcs
    have hc5 : Try.prog.cellsOf 54 = 5 := by kernel_rfl
    simp only [if_true] at hmm
    subst hmm
    have each : ∀ i, i < n → ∃ E : Ev, (∀ j v, E.cs[j]? = some v → W.cell? ((a.add (i * 5)).add j) = some v) ∧ E.ok ∧ Nb W W.heap.size E.A E.n E.c E.xs ∧ ∀ m, (∀ q ∈ (D i).weights Try.prog 54, q ≤ m) → E.n ≤ m := fun i hi => by
      obtain ⟨cs', h1, h2⟩ := hx i (by omega)
      rw [hc5] at h1
      obtain ⟨_, hlen, hcell⟩ := World.cells?_some h1
      obtain ⟨E, rfl, hE⟩ := ev_parts h2
      refine ⟨E, fun j v hv => ?_, hE⟩
      have hj : j < 5 := by
        rcases Nat.lt_or_ge j 5 with h | h
        · exact h
        · rw [List.getElem?_eq_none (by simpa [Ev.cs] using h)] at hv; cases hv
      have := hcell j (by simpa using hj)
      rw [this, hv]
    obtain ⟨E, hE⟩ := Go.Deep.choose_lt each
    refine ⟨(List.range n).map E, ⟨by simp, fun e he => ?_, ?_⟩, fun e he => ?_, fun M hM => ⟨?_, fun e he => ?_⟩⟩
    · simp only [List.mem_map, List.mem_range] at he
      obtain ⟨i, hi, rfl⟩ := he
      exact (hE i hi).2.2.1
    · rcases Nat.eq_zero_or_pos n with h0 | h0
      · exact .inl h0
      · have hc0 := (hE 0 h0).1 0 _ rfl
        obtain ⟨b, off, spot⟩ := a
        have hspot : spot = none := by simpa [Addr.add] using World.cell?_spot hc0
        subst hspot
        have hlt := World.block_lt_of_cell? W _ hc0
        refine .inr ⟨b, off, rfl, by simpa [Addr.add] using hlt, fun i s hi => ?_⟩
        obtain ⟨hi', rfl⟩ : i < n ∧ s = E i := by
          simp only [List.getElem?_map, Option.map_eq_some_iff] at hi
          obtain ⟨y, hy, rfl⟩ := hi
          have := List.getElem?_eq_some_iff.1 hy
          obtain ⟨h1, h2⟩ := this
          simp at h1 h2
          exact ⟨h1, by rw [h2]⟩
        have HH : ∀ j v, (E i).cs[j]? = some v → W.cell? ⟨b, off + i * 5 + j, none⟩ = some v := fun j v hv => by
          have := (hE i hi').1 j v hv
          rwa [Addr.add_mid, Addr.add_mid] at this
        exact ⟨HH 0 _ rfl, HH 1 _ rfl, HH 2 _ rfl, HH 3 _ rfl, HH 4 _ rfl⟩
    · simp only [List.mem_map, List.mem_range] at he
      obtain ⟨i, hi, rfl⟩ := he
      exact (hE i hi).2.1
    · subst hxx
      have := hM (((List.range n).map D).length * Try.prog.bytesOf 54 + ((List.range (m - n)).map fun j => D (n + j)).length * Try.prog.bytesOf 54) (by simp only [DataW.weights, Try.underlying22, Nat.add_mul]; exact List.mem_cons_self)
      rw [show Try.prog.bytesOf 54 = 48 by kernel_rfl] at this
      simp at this
      omega
    · simp only [List.mem_map, List.mem_range] at he
      obtain ⟨i, hi, rfl⟩ := he
      subst hxx
      refine (hE i hi).2.2.2 M fun q hq => hM q ?_
      simp only [DataW.weights, Try.underlying22]
      exact List.mem_cons_of_mem _ (List.mem_append_left _ (weights_all (d := D i) (by simp only [List.mem_map, List.mem_range]; exact ⟨i, hi, rfl⟩) hq))
end Go.Proofs.Ytompggkdjbkjjaa
