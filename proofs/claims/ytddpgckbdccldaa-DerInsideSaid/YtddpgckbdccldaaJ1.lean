/- A value that came in. -/
import Derived.Test.YtddpgckbdccldaaIa
import Derived.ProofKit
import Derived.OpenShut
import Derived.ChangeOld
import Derived.Stop.Joined
import Derived.Lib.SmallJoins
import Derived.Deep.MidRow
import Derived.Deep.Slices
import Derived.SizedLaws
namespace Go.Proofs.Ytddpgckbdccldaa
set_option linter.unusedSimpArgs false
set_option linter.unusedVariables false
open Go.ChangeShapes Go.WideShapes Go.ChangeAt Go.RowKit
set_option linter.unusedVariables false
set_option maxRecDepth 100000
theorem nb_of_row {W : World} {x : Addr} {len cap : Nat} {zs : List Int} (hl : len ≤ cap) (hm : cap ≤ maxLen) (hz : zs.length = cap) (hcell : ∀ i, i < zs.length → W.cell? (x.add i) = some (.int .u8 (zs.getD i 0))) (hwz : ∀ n ∈ zs, (Lit.int .u8 n).wf = true) :
    Nb W W.heap.size (some x) len cap ((zs.take len).map Int.toNat) := by
  have hb : ∀ n ∈ zs, 0 ≤ n ∧ n ≤ 255 := fun n hn => by
    have := hwz n hn
    simp [Lit.wf, IntKind.min, IntKind.max, IntKind.signed, IntKind.bits] at this
    omega
  refine ⟨by simp; omega, hl, hm, ?_, ?_⟩
  · intro y hy
    simp only [List.mem_map] at hy
    obtain ⟨n, hn, rfl⟩ := hy
    have := hb n (List.mem_of_mem_take hn)
    omega
  · intro h0
    have hc := hcell 0 (by omega)
    obtain ⟨b, off, spot⟩ := x
    have hspot : spot = none := by simpa [Addr.add] using World.cell?_spot hc
    subst hspot
    have hlt := World.block_lt_of_cell? W _ hc
    refine ⟨b, off, rfl, by simpa [Addr.add] using hlt, fun j y hj => ?_⟩
    simp only [List.getElem?_map, Option.map_eq_some_iff, List.getElem?_take] at hj
    obtain ⟨n, hn, rfl⟩ := hj
    split at hn
    · have hj2 : j < zs.length := by
        rcases Nat.lt_or_ge j zs.length with h | h
        · exact h
        · rw [List.getElem?_eq_none h] at hn; cases hn
      have h1 := hcell j hj2
      have h2 : zs.getD j 0 = n := by simp [List.getD, hn]
      rw [h2] at h1
      have h3 := hb n (List.mem_of_getElem? hn)
      rw [show ((n.toNat : Nat) : Int) = n by omega]
      by_cases hj0 : j = 0
      · subst hj0; simpa [Addr.add] using h1
      · simpa [Addr.add, hj0] using h1
    · cases hn
theorem i64_lim {a : Int} (w : (Lit.int .i64 a).wf = true) : -9223372036854775808 ≤ a ∧ a ≤ 9223372036854775807 := by
  simp [Lit.wf, IntKind.min, IntKind.max, IntKind.signed, IntKind.bits] at w
  omega
theorem bytes_open {H : Type} {enc : TypeId × Value → H} {W : World} {fuel : Nat} {c : List Value} {x : DataW H × List MemPlace} (hh : DataW.trod enc Try.prog W 0 (fun _ => true) true fuel 22 c = some x) :
    ∃ A n k zs, c = [.slice A n k] ∧ Nb W W.heap.size A n k zs ∧ ∀ m, (∀ q ∈ x.1.weights Try.prog 22, q ≤ m) → n ≤ m := by
  rcases open_ints Try.underlying22 Try.underlying5 (by kernel_rfl) hh with ⟨hcs, _⟩ | ⟨x, l, c, zs, hcs, _, hl, hm, hz, hxx, hcell, hwz⟩
  · exact ⟨none, 0, 0, [], hcs, ⟨rfl, Nat.le_refl _, Nat.zero_le _, (fun x hx => by cases hx), fun h => absurd h (Nat.lt_irrefl _)⟩, fun m _ => Nat.zero_le _⟩
  · refine ⟨some x, l, c, _, hcs, nb_of_row hl hm (by simpa using hz) hcell hwz, fun m h => ?_⟩
    subst hxx
    have := h (((lits (H := H) .u8 (zs.take l)).length + (lits (H := H) .u8 (zs.drop l)).length) * Try.prog.bytesOf 5) (by simp [DataW.weights, Try.underlying22])
    rw [show Try.prog.bytesOf 5 = 1 by kernel_rfl] at this
    simp [lits] at this hz
    omega
theorem weights_all {H : Type} {P : Program} {e : TypeId} {d : DataW H} {q : Nat} : ∀ {l : List (DataW H)}, d ∈ l → q ∈ d.weights P e → q ∈ DataW.weightsAll P e l
  | a :: l, h, hq => by
    simp only [DataW.weightsAll, List.mem_append]
    rcases List.mem_cons.1 h with rfl | h
    · exact .inl hq
    · exact .inr (weights_all h hq)
theorem kids_open {H : Type} {enc : TypeId × Value → H} {W : World} {f : Nat}
    (key : ∀ {fuel : Nat} {cs : List Value} {x : DataW H × List MemPlace}, fuel ≤ f → DataW.trod enc Try.prog W 0 (fun _ => true) true fuel 25 cs = some x → (∀ q ∈ x.1.weights Try.prog 25, q ≤ 140737488355328) → ∃ (h : Hd) (t : T), cs = [.int .i64 h.t, .slice h.A h.n h.c, .slice h.K h.m h.d] ∧ Tr W W.heap.size f h t)
    {fuel : Nat} {c : List Value} {x : DataW H × List MemPlace} (hff : fuel ≤ f) (hf : DataW.trod enc Try.prog W 0 (fun _ => true) true fuel 23 c = some x) (hq : ∀ q ∈ x.1.weights Try.prog 23, q ≤ 140737488355328) :
    ∃ A n k ks, c = [.slice A n k] ∧ Ks W W.heap.size f A n k ks := by
  rcases DataW.trod_slice Try.underlying23 hf with ⟨h0, _⟩ | ⟨a, len, cap, elems, rest, n, hfn, rfl, rfl, hb, hl, hm, hlen, hel, hsp, hns⟩
  · exact ⟨none, 0, 0, [], h0, Ks.nil _ _ _⟩
  · have hc3 : Try.prog.cellsOf 25 = 3 := by kernel_rfl
    have hb25 : 0 < Try.prog.bytesOf 25 := by rw [show Try.prog.bytesOf 25 = 56 by kernel_rfl]; omega
    have hlim : len ≤ 140737488355328 := by
      have := hq ((elems.length + rest.length) * Try.prog.bytesOf 25) (by simp [DataW.weights, Try.underlying23])
      have h2 : len ≤ (elems.length + rest.length) * Try.prog.bytesOf 25 := Nat.le_trans (by omega) (Nat.le_mul_of_pos_right _ hb25)
      omega
    have each : ∀ i, i < len → ∃ x : Hd × T, (W.cell? ((a.add (i * 3)).add 0) = some (.int .i64 x.1.t) ∧ W.cell? ((a.add (i * 3)).add 1) = some (.slice x.1.A x.1.n x.1.c) ∧ W.cell? ((a.add (i * 3)).add 2) = some (.slice x.1.K x.1.m x.1.d)) ∧ Tr W W.heap.size f x.1 x.2 := fun i hi => by
      have h1 := hel i hi
      obtain ⟨y, hy⟩ : ∃ y, elems[i]? = some y := ⟨_, List.getElem?_eq_getElem (by omega)⟩
      rw [hy] at h1
      obtain ⟨cs', h2, h3⟩ := Option.bind_eq_some_iff.1 h1
      rw [hc3] at h2
      obtain ⟨_, hlen', hcell⟩ := World.cells?_some h2
      obtain ⟨h, t, rfl, hT⟩ := key (by omega) h3 (fun q hq' => hq q (by
        simp only [DataW.weights, Try.underlying23]
        exact List.mem_cons_of_mem _ (List.mem_append_left _ (weights_all (d := y.1) (List.mem_map_of_mem (List.mem_of_getElem? hy)) hq'))))
      exact ⟨(h, t), ⟨hcell 0 (by decide), hcell 1 (by decide), hcell 2 (by decide)⟩, hT⟩
    obtain ⟨E, hE⟩ := @Go.Deep.choose_lt (Hd × T) ⟨⟨⟨0, none, 0, 0, none, 0, 0⟩, .mk 0 [] []⟩⟩ _ _ each
    refine ⟨some a, len, cap, (List.range len).map fun i => (E i).2, rfl, ⟨by simp, hl, hm, by omega, fun h0 => ?_⟩⟩
    have hc0 := (hE 0 h0).1.1
    obtain ⟨b, off, spot⟩ := a
    have hspot : spot = none := by simpa [Addr.add] using World.cell?_spot hc0
    subst hspot
    have hlt := World.block_lt_of_cell? W _ hc0
    refine ⟨b, off, rfl, by simpa [Addr.add] using hlt, fun i k hi => ?_⟩
    obtain ⟨hi', rfl⟩ : i < len ∧ k = (E i).2 := by
      simp only [List.getElem?_map, Option.map_eq_some_iff] at hi
      obtain ⟨y, hy, rfl⟩ := hi
      obtain ⟨h1, h2⟩ := List.getElem?_eq_some_iff.1 hy
      simp at h1 h2
      exact ⟨h1, by rw [h2]⟩
    obtain ⟨⟨g0, g1, g2⟩, hT⟩ := hE i hi'
    rw [Addr.add_mid, Addr.add_mid] at g0 g1 g2
    exact ⟨(E i).1, g0, g1, g2, hT⟩
theorem node_open {H : Type} {enc : TypeId × Value → H} {W : World} : ∀ {fuel : Nat} {cs : List Value} {x : DataW H × List MemPlace}, DataW.trod enc Try.prog W 0 (fun _ => true) true fuel 25 cs = some x → (∀ q ∈ x.1.weights Try.prog 25, q ≤ 140737488355328) → ∃ (h : Hd) (t : T), cs = [.int .i64 h.t, .slice h.A h.n h.c, .slice h.K h.m h.d] ∧ Tr W W.heap.size fuel h t := by
  have main : ∀ F fuel, fuel ≤ F → ∀ {cs : List Value} {x : DataW H × List MemPlace}, DataW.trod enc Try.prog W 0 (fun _ => true) true fuel 25 cs = some x → (∀ q ∈ x.1.weights Try.prog 25, q ≤ 140737488355328) → ∃ (h : Hd) (t : T), cs = [.int .i64 h.t, .slice h.A h.n h.c, .slice h.K h.m h.d] ∧ Tr W W.heap.size fuel h t := by
    intro F
    induction F with
    | zero =>
      intro fuel hF cs x hf
      obtain rfl : fuel = 0 := by omega
      simp [DataW.trod] at hf
    | succ F ih =>
      intro fuel hF cs x hf hq
      obtain ⟨xs, n, rfl, rfl, hl, hlen, hff⟩ := DataW.trod_struct Try.underlying25 hf
      match xs, hlen with
      | [y0, y1, y2], _ =>
        obtain ⟨t0, e0, _, w0⟩ := DataW.trod_int Try.underlying3 (hff 0 _ rfl)
        obtain ⟨A, m, k, zs, e1, hnb, hsz⟩ := bytes_open (hff 1 _ rfl)
        obtain ⟨K, km, kd, ks, e2, hks⟩ := kids_open (f := n) (fun {fuel} {cs} {x} hfl h1 h2 => by
            obtain ⟨h, t, e, hT⟩ := ih fuel (by omega) h1 h2
            exact ⟨h, t, e, Tr.fuel hfl hT⟩) (Nat.le_refl _) (hff 2 _ rfl) (fun q hq' => hq q (by
            simp [DataW.weights, Try.underlying25, DataW.weightsEach]
            exact .inr (.inr hq')))
        refine ⟨⟨t0, A, m, k, K, km, kd⟩, .mk t0 zs ks, ?_, Tr.mk rfl (i64_lim w0) hnb (Nat.le_trans (hsz 140737488355328 fun q hq' => hq q (by
            simp [DataW.weights, Try.underlying25, DataW.weightsEach]
            exact .inr (.inl hq'))) (by show _ ≤ _; omega)) hks⟩
        have hc : Try.prog.cellsOf 25 = 3 := by kernel_rfl
        have hc1 : Try.prog.cellsOf 3 = 1 := by kernel_rfl
        have hc2 : Try.prog.cellsOf 22 = 1 := by kernel_rfl
        have hc3 : Try.prog.cellsOf 23 = 1 := by kernel_rfl
        rw [hc] at hl
        match cs, hl with
        | [a, b, c], _ =>
          simp [hc1, hc2, hc3] at e0 e1 e2
          simp [e0, e1, e2]
  exact fun {fuel} {cs} {x} => main fuel fuel (Nat.le_refl _)
end Go.Proofs.Ytddpgckbdccldaa
