/- A list of values that came in. -/
import Derived.Test.YtonfpomgkgljiaaV12
import Derived.Deep.MidRow
import Derived.Deep.Slices
namespace Go.Proofs.Ytonfpomgkgljiaa
open Go.ChangeShapes Go.WideShapes Go.ChangeAt Go.RowKit
set_option linter.unusedVariables false
set_option maxRecDepth 100000

theorem nb_of_row {W : World} {x : Addr} {len cap : Nat} {zs : List Int} (hl : len ≤ cap) (hm : cap ≤ maxLen) (hz : zs.length = cap) (hcell : ∀ i, i < zs.length → W.cell? (x.add i) = some (.int .u8 (zs.getD i 0))) (hwz : ∀ n ∈ zs, (Lit.int .u8 n).wf = true) :
    Nb W W.heap.size (some x) len cap ((zs.take len).map Int.toNat) := by
  have hb : ∀ n ∈ zs, 0 ≤ n ∧ n ≤ 255 := fun n hn => by
    have := hwz n hn
    simp [Lit.wf, IntKind.min, IntKind.max, IntKind.signed, IntKind.bits] at this
    omega
  refine ⟨by simp; omega, hl, hm, ?_, ?_⟩
  · intro y hy
    simp only [List.mem_map] at hy
    obtain ⟨n, hn, rfl⟩ := hy
    have := hb n (List.mem_of_mem_take hn)
    omega
  · intro h0
    have hc := hcell 0 (by omega)
    obtain ⟨b, off, spot⟩ := x
    have hspot : spot = none := by simpa [Addr.add] using World.cell?_spot hc
    subst hspot
    have hlt := World.block_lt_of_cell? W _ hc
    refine ⟨b, off, rfl, by simpa [Addr.add] using hlt, fun j y hj => ?_⟩
    simp only [List.getElem?_map, Option.map_eq_some_iff, List.getElem?_take] at hj
    obtain ⟨n, hn, rfl⟩ := hj
    split at hn
    · have hj2 : j < zs.length := by
        rcases Nat.lt_or_ge j zs.length with h | h
        · exact h
        · rw [List.getElem?_eq_none h] at hn; cases hn
      have h1 := hcell j hj2
      have h2 : zs.getD j 0 = n := by simp [List.getD, hn]
      rw [h2] at h1
      have h3 := hb n (List.mem_of_getElem? hn)
      rw [show ((n.toNat : Nat) : Int) = n by omega]
      by_cases hj0 : j = 0
      · subst hj0; simpa [Addr.add] using h1
      · simpa [Addr.add, hj0] using h1
    · cases hn

theorem u32_nat {a : Int} (w : (Lit.int .u32 a).wf = true) : ∃ y : Nat, a = (y : Int) ∧ y < 4294967296 := by
  simp [Lit.wf, IntKind.min, IntKind.max, IntKind.signed, IntKind.bits] at w
  exact ⟨a.toNat, by omega, by omega⟩
/-- an element of a list of values: its numbers and slices, and the bytes of these -/
structure El where
  t : Nat
  f : Nat
  A : Option Addr
  n : Nat
  c : Nat
  B : Option Addr
  m : Nat
  e : Nat
  xs : List Nat
  ys : List Nat
instance : Inhabited El := ⟨⟨0, 0, none, 0, 0, none, 0, 0, [], []⟩⟩
def El.val (x : El) : Val := ⟨x.t, x.f, x.xs, x.ys⟩
def El.cells (x : El) : List Value := [.int .u32 (x.t : Int), .int .u32 (x.f : Int), .slice x.A x.n x.c, .slice x.B x.m x.e]
def El.ok (w : World) (base : Nat) (x : El) : Prop := Vb w base x.val x.A x.n x.c x.B x.m x.e
/-- the slice value '.slice A n c' reads as n values -/
structure Lv (w : World) (base : Nat) (A : Option Addr) (n c : Nat) (E : Nat → El) : Prop where
  cap : n ≤ c
  room : c ≤ 9223372036854775807
  row : 0 < n → ∃ b off, A = some ⟨b, off, none⟩ ∧ b < base ∧ ∀ i, i < n → w.rangeAt b (off + i * 4) (E i).cells
  val : ∀ i, i < n → (E i).ok w base
theorem Vb.far_ {w w' : World} {B : Nat} {v : Val} {A A2 : Option Addr} {n c n2 c2 : Nat} (h : Vb w B v A n c A2 n2 c2) (b : Below B w w') : Vb w' B v A n c A2 n2 c2 := ⟨h.d.below b, h.s.below b⟩
theorem Lv.below {w w' : World} {base : Nat} {A : Option Addr} {n c : Nat} {E : Nat → El} (h : Lv w base A n c E) (b : Below base w w') : Lv w' base A n c E :=
  ⟨h.cap, h.room, fun h0 => by
    obtain ⟨g, off, e, hg, hr⟩ := h.row h0
    exact ⟨g, off, e, hg, fun i hi j v hv => (b.cell (p := ⟨g, _, none⟩) hg).trans (hr i hi j v hv)⟩, fun i hi => (h.val i hi).far_ b⟩
theorem Vb.more {w : World} {B B' : Nat} {v : Val} {A A2 : Option Addr} {n c n2 c2 : Nat} (h : Vb w B v A n c A2 n2 c2) (hB : B ≤ B') : Vb w B' v A n c A2 n2 c2 := ⟨h.d.more hB, h.s.more hB⟩
theorem val_parts {H : Type} {enc : TypeId × Value → H} {W : World} {cs : List Value} {fuel : Nat} {x : DataW H × List MemPlace} (hf : DataW.trod enc Try.prog W 0 (fun _ => true) true fuel 33 cs = some x) :
    ∃ E : El, cs = E.cells ∧ E.ok W W.heap.size := by
  have key : ∀ {fuel : Nat} {c : List Value} {x : DataW H × List MemPlace}, DataW.trod enc Try.prog W 0 (fun _ => true) true fuel 31 c = some x → ∃ A n k zs, c = [.slice A n k] ∧ Nb W W.heap.size A n k zs := fun hh => by
    rcases open_ints Try.underlying31 Try.underlying5 (by kernel_rfl) hh with ⟨hcs, _⟩ | ⟨x, l, c, zs, hcs, _, hl, hm, hz, _, hcell, hwz⟩
    · exact ⟨_, _, _, _, hcs, Nb.nil _ _ 0 (by omega) none⟩
    · exact ⟨_, _, _, _, hcs, nb_of_row hl hm (by simpa using hz) hcell hwz⟩
  obtain ⟨y0, y1, y2, y3, n, _, hlen, h0, h1, h2, h3⟩ := Joins.trod_struct4 Try.underlying33 hf
  obtain ⟨t, e0, _, w0⟩ := DataW.trod_int Try.underlying30 h0
  obtain ⟨f, e1, _, w1⟩ := DataW.trod_int Try.underlying30 h1
  obtain ⟨t', rfl, _⟩ := u32_nat w0
  obtain ⟨f', rfl, _⟩ := u32_nat w1
  obtain ⟨A, n1, c1, z1, e2, hz1⟩ := key h2
  obtain ⟨A2, n2, c2, z2, e3, hz2⟩ := key h3
  refine ⟨⟨t', f', A, n1, c1, A2, n2, c2, z1, z2⟩, ?_, ⟨hz1, hz2⟩⟩
  have hc : Try.prog.cellsOf 33 = 4 := by kernel_rfl
  have hc1 : Try.prog.cellsOf 31 = 1 := by kernel_rfl
  have hc2 : Try.prog.cellsOf 30 = 1 := by kernel_rfl
  rw [hc] at hlen
  match cs, hlen with
  | [a, b, c, d], _ =>
    simp [hc1, hc2] at e0 e1 e2 e3
    simp [El.cells, e0, e1, e2, e3]
theorem vals_open {H : Type} {enc : TypeId × Value → H} {W : World} {A : Option Addr} {n c : Nat} {fuel : Nat} {x : DataW H × List MemPlace} (hf : DataW.trod enc Try.prog W 0 (fun _ => true) true fuel 54 [.slice A n c] = some x) :
    ∃ E, Lv W W.heap.size A n c E := by
  rcases Go.Deep.open_slice Try.underlying54 hf with ⟨h0, _⟩ | ⟨a, len, cap, m, k, D, Pl, hcs, hb, hl, hm, hmm, _, hx⟩
  · simp at h0
    obtain ⟨rfl, rfl, rfl⟩ := h0
    exact ⟨fun _ => default, Nat.le_refl _, by omega, fun h => absurd h (Nat.lt_irrefl _), fun i hi => absurd hi (Nat.not_lt_zero _)⟩
  · simp at hcs
    obtain ⟨rfl, rfl, rfl⟩ := hcs
    have hc4 : Try.prog.cellsOf 33 = 4 := by kernel_rfl
    simp only [if_true] at hmm
    subst hmm
    have each : ∀ i, i < n → ∃ E : El, (∀ j v, E.cells[j]? = some v → W.cell? ((a.add (i * 4)).add j) = some v) ∧ E.ok W W.heap.size := fun i hi => by
      obtain ⟨cs', h1, h2⟩ := hx i (by omega)
      rw [hc4] at h1
      obtain ⟨_, hlen, hcell⟩ := World.cells?_some h1
      obtain ⟨E, rfl, hE⟩ := val_parts h2
      refine ⟨E, fun j v hv => ?_, hE⟩
      have hj : j < 4 := by
        rcases Nat.lt_or_ge j 4 with h | h
        · exact h
        · rw [List.getElem?_eq_none (by simpa [El.cells] using h)] at hv; cases hv
      have := hcell j (by simpa using hj)
      rw [this, hv]
    obtain ⟨E, hE⟩ := Go.Deep.choose_lt each
    refine ⟨E, hl, by unfold maxLen at hm; omega, fun h0 => ?_, fun i hi => (hE i hi).2⟩
    have hc0 := (hE 0 h0).1 0 _ rfl
    obtain ⟨b, off, spot⟩ := a
    have hspot : spot = none := by simpa [Addr.add] using World.cell?_spot hc0
    subst hspot
    have hlt := World.block_lt_of_cell? W _ hc0
    refine ⟨b, off, rfl, by simpa [Addr.add] using hlt, fun i hi j v hv => ?_⟩
    have := (hE i hi).1 j v hv
    rwa [Addr.add_mid, Addr.add_mid] at this
end Go.Proofs.Ytonfpomgkgljiaa
