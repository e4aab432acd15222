/- What the laid variable gives; how rows and structs that came in are read. -/
import Derived.Test.YtkeejhkjbmegkaaGreatDoorRows
import Derived.Test.YtkeejhkjbmegkaaGreatDoorCards
import Derived.Test.YtkeejhkjbmegkaaGreatDoorTie
import Derived.Test.YtkeejhkjbmegkaaGreatDoorRd
import Derived.Test.YtkeejhkjbmegkaaGreatDoorFew
import Derived.ProofKit
import Derived.LaidMore
import Derived.OpenShut
import Derived.ShutString
import Derived.ChangeOld
import Derived.Stop.Joined
import Derived.SevenTiedAt
import Derived.SizedLaws
import Derived.Deep.Strs
namespace Go.Proofs.YtkeejhkjbmegkaaGreatDoor
open Go.ChangeShapes Go.WideShapes Go.ChangeAt Go.RowKit
set_option linter.unusedVariables false
set_option maxRecDepth 100000

theorem own : ownKnob Tryz.prog.godebug = none := by kernel_rfl
theorem laidOut : laidOutB Tryz.prog = true := by kernel_rfl
theorem gK : Tryz.prog.globalNamed "clepsydra/sha.constants" = some 1 := by kernel_rfl
theorem tK : (Tryz.prog.globals[1]?).map (·.type) = some 159 := by kernel_rfl
abbrev laidK (H : Type) : List (String × DataW H) := [("clepsydra/sha.constants", Rows.laid_clepsydra_sha_constants)]

theorem of_laid {W : World} (h : laidMetH Tryz.prog [("clepsydra/sha.constants", Rows.laid_clepsydra_sha_constants)] W) : Sh.Ks W := by
  rw [MakeChecks.laidMetH_plain _ _ _ (by kernel_rfl)] at h
  obtain ⟨ps, ⟨g0, t0, cs0, f0, p0, q0, hg0, ht0, hv0, hd0, _, _⟩, _, _⟩ := h
  obtain rfl := Option.some.inj (gK.symm.trans hg0)
  obtain rfl := Option.some.inj (tK.symm.trans ht0)
  obtain ⟨xs, m1, rfl, hx1, hlen, hn3, hel⟩ := DataW.trod_array Tryz.underlying159 hd0
  have c90 : Tryz.prog.cellsOf 132 = 1 := by kernel_rfl
  have hl : (Rows.laid_clepsydra_sha_constants : DataW Unit) = .agg (Sh.kk.map fun x : Nat => .lit (.int .u32 (x : Int))) := rfl
  rw [hl] at hx1
  simp only [Prod.mk.injEq, DataW.agg.injEq] at hx1
  have hlt : 1 < W.heap.size := by
    have := World.var?_cell hg0 hv0 0
    have hcs : 0 < cs0.size := by
      have : cs0.toList.length = 64 := hlen.trans (by kernel_rfl)
      simp at this; omega
    rw [Array.getElem?_eq_getElem hcs] at this
    exact World.block_lt_of_cell? W _ this
  refine ⟨hlt, fun t ht => ?_⟩
  have h0 := hel t ht
  have htx : t < xs.length := by omega
  rw [c90, Nat.mul_one, List.getElem?_eq_getElem htx] at h0
  obtain ⟨k, e1, e2, _⟩ := DataW.trod_int Tryz.underlying132 h0
  have e3 : (xs.map fun x => x.fst)[t]? = some (.lit (.int .u32 k)) := by
    rw [List.getElem?_map, List.getElem?_eq_getElem htx, e2]; rfl
  rw [← hx1.1] at e3
  have e4 : (k : Int) = ((Sh.kk.getD t 0 : Nat) : Int) := by
    rw [List.getElem?_map] at e3
    have hk : t < Sh.kk.length := ht
    rw [List.getElem?_eq_getElem hk] at e3
    simp only [Option.map_some, Option.some.injEq, DataW.lit.injEq, Lit.int.injEq, true_and] at e3
    rw [← e3]
    simp [List.getD, List.getElem?_eq_getElem hk]
  have e5 := World.var?_cell hg0 hv0 t
  rw [e5, ← e4]
  have e6 : (List.take 1 (List.drop t cs0.toList))[0]? = some (.int .u32 k) := by rw [e1]; rfl
  rw [List.getElem?_take, if_pos (by omega), List.getElem?_drop] at e6
  simpa using e6

theorem nt_of_row {W : World} {x : Addr} {len cap : Nat} {zs : List Int} (hl : len ≤ cap) (hm : cap ≤ maxLen) (hz : zs.length = cap) (hcell : ∀ i, i < zs.length → W.cell? (x.add i) = some (.int .u64 (zs.getD i 0))) (hwz : ∀ n ∈ zs, (Lit.int .u64 n).wf = true) :
    Nt W W.heap.size (some x) len cap ((zs.take len).map Int.toNat) := by
  have hb : ∀ n ∈ zs, 0 ≤ n ∧ n ≤ 18446744073709551615 := fun n hn => bounds_u64 (hwz n hn)
  refine ⟨by simp; omega, hl, hm, ?_, ?_⟩
  · intro y hy
    simp only [List.mem_map] at hy
    obtain ⟨n, hn, rfl⟩ := hy
    have := hb n (List.mem_of_mem_take hn)
    omega
  · intro h0
    have hc := hcell 0 (by omega)
    obtain ⟨b, off, spot⟩ := x
    have hspot : spot = none := by simpa [Addr.add] using World.cell?_spot hc
    subst hspot
    have hlt := World.block_lt_of_cell? W _ hc
    refine ⟨b, off, rfl, by simpa [Addr.add] using hlt, fun j y hj => ?_⟩
    simp only [List.getElem?_map, Option.map_eq_some_iff, List.getElem?_take] at hj
    obtain ⟨n, hn, rfl⟩ := hj
    split at hn
    · have hj2 : j < zs.length := by
        rcases Nat.lt_or_ge j zs.length with h | h
        · exact h
        · rw [List.getElem?_eq_none h] at hn; cases hn
      have h1 := hcell j hj2
      have h2 : zs.getD j 0 = n := by simp [List.getD, hn]
      rw [h2] at h1
      have h3 := hb n (List.mem_of_getElem? hn)
      rw [show ((n.toNat : Nat) : Int) = n by omega]
      by_cases hj0 : j = 0
      · subst hj0; simpa [Addr.add] using h1
      · simpa [Addr.add, hj0] using h1
    · cases hn

theorem nb_of_row {W : World} {x : Addr} {len cap : Nat} {zs : List Int} (hl : len ≤ cap) (hm : cap ≤ maxLen) (hz : zs.length = cap) (hcell : ∀ i, i < zs.length → W.cell? (x.add i) = some (.int .u8 (zs.getD i 0))) (hwz : ∀ n ∈ zs, (Lit.int .u8 n).wf = true) :
    Nb W W.heap.size (some x) len cap ((zs.take len).map Int.toNat) := by
  have hb : ∀ n ∈ zs, 0 ≤ n ∧ n ≤ 255 := fun n hn => by
    have := hwz n hn
    simp [Lit.wf, IntKind.min, IntKind.max, IntKind.signed, IntKind.bits] at this
    omega
  refine ⟨by simp; omega, hl, hm, ?_, ?_⟩
  · intro y hy
    simp only [List.mem_map] at hy
    obtain ⟨n, hn, rfl⟩ := hy
    have := hb n (List.mem_of_mem_take hn)
    omega
  · intro h0
    have hc := hcell 0 (by omega)
    obtain ⟨b, off, spot⟩ := x
    have hspot : spot = none := by simpa [Addr.add] using World.cell?_spot hc
    subst hspot
    have hlt := World.block_lt_of_cell? W _ hc
    refine ⟨b, off, rfl, by simpa [Addr.add] using hlt, fun j y hj => ?_⟩
    simp only [List.getElem?_map, Option.map_eq_some_iff, List.getElem?_take] at hj
    obtain ⟨n, hn, rfl⟩ := hj
    split at hn
    · have hj2 : j < zs.length := by
        rcases Nat.lt_or_ge j zs.length with h | h
        · exact h
        · rw [List.getElem?_eq_none h] at hn; cases hn
      have h1 := hcell j hj2
      have h2 : zs.getD j 0 = n := by simp [List.getD, hn]
      rw [h2] at h1
      have h3 := hb n (List.mem_of_getElem? hn)
      rw [show ((n.toNat : Nat) : Int) = n by omega]
      by_cases hj0 : j = 0
      · subst hj0; simpa [Addr.add] using h1
      · simpa [Addr.add, hj0] using h1
    · cases hn

/-- a struct of three rows of limbs that came in -/
theorem params_open {H : Type} {enc : TypeId × Value → H} {W : World} {cs : Array Value} {d : DataW H} {p : List MemPlace} (h : DataW.Trod enc Tryz.prog W 0 (fun _ => true) true 40 (.agg cs) d p) :
    ∃ A1 n1 c1 x1 A2 n2 c2 x2 A3 n3 c3 x3, cs = #[.slice A1 n1 c1, .slice A2 n2 c2, .slice A3 n3 c3] ∧ Nt W W.heap.size A1 n1 c1 x1 ∧ Nt W W.heap.size A2 n2 c2 x2 ∧ Nt W W.heap.size A3 n3 c3 x3 := by
  obtain ⟨fuel, hf⟩ := h
  have key : ∀ {fuel : Nat} {c : List Value} {x : DataW H × List MemPlace}, DataW.trod enc Tryz.prog W 0 (fun _ => true) true fuel 22 c = some x → ∃ A n k z, c = [.slice A n k] ∧ Nt W W.heap.size A n k z := fun hh => by
    rcases open_ints Tryz.underlying22 Tryz.underlying53 (by kernel_rfl) hh with ⟨hcs, _⟩ | ⟨x, l, c, zs, hcs, _, hl, hm, hz, _, hcell, hwz⟩
    · exact ⟨_, _, _, [], hcs, nt_nil _ _⟩
    · exact ⟨_, _, _, _, hcs, nt_of_row hl hm (by simpa using hz) hcell hwz⟩
  obtain ⟨y0, y1, y2, n, _, hlen, h0, h1, h2⟩ := Deep.trod_struct3 Tryz.underlying40 hf
  obtain ⟨A1, n1, c1, z1, e1, t1⟩ := key h0
  obtain ⟨A2, n2, c2, z2, e2, t2⟩ := key h1
  obtain ⟨A3, n3, c3, z3, e3, t3⟩ := key h2
  refine ⟨_, _, _, _, _, _, _, _, _, _, _, _, ?_, t1, t2, t3⟩
  have hc : Tryz.prog.cellsOf 40 = 3 := by kernel_rfl
  have hc1 : Tryz.prog.cellsOf 22 = 1 := by kernel_rfl
  rw [hc] at hlen
  simp only [Value.cells] at hlen e1 e2 e3
  obtain ⟨l⟩ := cs
  match l, hlen with
  | [a, b, c], _ =>
    simp [hc1] at e1 e2 e3
    rw [e1, e2, e3]
theorem key_open {H : Type} {enc : TypeId × Value → H} {W : World} {cs : Array Value} {d : DataW H} {p : List MemPlace} (h : DataW.Trod enc Tryz.prog W 0 (fun _ => true) true 24 (.agg cs) d p) :
    ∃ A1 n1 c1 x1 A2 n2 c2 x2 A3 n3 c3 x3, cs = #[.slice A1 n1 c1, .slice A2 n2 c2, .slice A3 n3 c3] ∧ Nt W W.heap.size A1 n1 c1 x1 ∧ Nt W W.heap.size A2 n2 c2 x2 ∧ Nt W W.heap.size A3 n3 c3 x3 := by
  obtain ⟨fuel, hf⟩ := h
  have key : ∀ {fuel : Nat} {c : List Value} {x : DataW H × List MemPlace}, DataW.trod enc Tryz.prog W 0 (fun _ => true) true fuel 22 c = some x → ∃ A n k z, c = [.slice A n k] ∧ Nt W W.heap.size A n k z := fun hh => by
    rcases open_ints Tryz.underlying22 Tryz.underlying53 (by kernel_rfl) hh with ⟨hcs, _⟩ | ⟨x, l, c, zs, hcs, _, hl, hm, hz, _, hcell, hwz⟩
    · exact ⟨_, _, _, [], hcs, nt_nil _ _⟩
    · exact ⟨_, _, _, _, hcs, nt_of_row hl hm (by simpa using hz) hcell hwz⟩
  obtain ⟨y0, y1, y2, n, _, hlen, h0, h1, h2⟩ := Deep.trod_struct3 Tryz.underlying24 hf
  obtain ⟨A1, n1, c1, z1, e1, t1⟩ := key h0
  obtain ⟨A2, n2, c2, z2, e2, t2⟩ := key h1
  obtain ⟨A3, n3, c3, z3, e3, t3⟩ := key h2
  refine ⟨_, _, _, _, _, _, _, _, _, _, _, _, ?_, t1, t2, t3⟩
  have hc : Tryz.prog.cellsOf 24 = 3 := by kernel_rfl
  have hc1 : Tryz.prog.cellsOf 22 = 1 := by kernel_rfl
  rw [hc] at hlen
  simp only [Value.cells] at hlen e1 e2 e3
  obtain ⟨l⟩ := cs
  match l, hlen with
  | [a, b, c], _ =>
    simp [hc1] at e1 e2 e3
    rw [e1, e2, e3]
end Go.Proofs.YtkeejhkjbmegkaaGreatDoor
