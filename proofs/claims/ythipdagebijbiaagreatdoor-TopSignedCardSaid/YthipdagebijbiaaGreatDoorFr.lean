/- What the laid variable gives; how rows and structs that came in are read. A value that came in. -/
import Derived.Test.YthipdagebijbiaaGreatDoorRows
import Derived.Test.YthipdagebijbiaaGreatDoorCards
import Derived.Test.YthipdagebijbiaaGreatDoorTie
import Derived.Test.YthipdagebijbiaaGreatDoorRd
import Derived.Test.YthipdagebijbiaaGreatDoorFew
import Derived.ProofKit
import Derived.LaidMore
import Derived.OpenShut
import Derived.ShutString
import Derived.ChangeOld
import Derived.Stop.Joined
import Derived.SevenTiedAt
import Derived.SizedLaws
import Derived.Deep.Strs
import Derived.Test.YthipdagebijbiaaGreatDoorWi
namespace Go.Proofs.YthipdagebijbiaaGreatDoor
set_option linter.unusedSimpArgs false
set_option linter.unusedVariables false
open Go.ChangeShapes Go.WideShapes Go.ChangeAt Go.RowKit
set_option linter.unusedVariables false
set_option maxRecDepth 100000

theorem own : ownKnob Tryz.prog.godebug = none := by kernel_rfl
theorem laidOut : laidOutB Tryz.prog = true := by kernel_rfl
theorem gK : Tryz.prog.globalNamed "clepsydra/sha.constants" = some 0 := by kernel_rfl
theorem tK : (Tryz.prog.globals[0]?).map (·.type) = some 177 := by kernel_rfl
abbrev laidK (H : Type) : List (String × DataW H) := [("clepsydra/sha.constants", Rows.laid_clepsydra_sha_constants)]

theorem of_laid {W : World} (h : laidMetH Tryz.prog [("clepsydra/sha.constants", Rows.laid_clepsydra_sha_constants)] W) : Sh.Ks W := by
  rw [MakeChecks.laidMetH_plain _ _ _ (by kernel_rfl)] at h
  obtain ⟨ps, ⟨g0, t0, cs0, f0, p0, q0, hg0, ht0, hv0, hd0, _, _⟩, _, _⟩ := h
  obtain rfl := Option.some.inj (gK.symm.trans hg0)
  obtain rfl := Option.some.inj (tK.symm.trans ht0)
  obtain ⟨xs, m1, rfl, hx1, hlen, hn3, hel⟩ := DataW.trod_array Tryz.underlying177 hd0
  have c90 : Tryz.prog.cellsOf 22 = 1 := by kernel_rfl
  have hl : (Rows.laid_clepsydra_sha_constants : DataW Unit) = .agg (Sh.kk.map fun x : Nat => .lit (.int .u32 (x : Int))) := rfl
  rw [hl] at hx1
  simp only [Prod.mk.injEq, DataW.agg.injEq] at hx1
  have hlt : 0 < W.heap.size := by
    have := World.var?_cell hg0 hv0 0
    have hcs : 0 < cs0.size := by
      have : cs0.toList.length = 64 := hlen.trans (by kernel_rfl)
      simp at this; omega
    rw [Array.getElem?_eq_getElem hcs] at this
    exact World.block_lt_of_cell? W _ this
  refine ⟨hlt, fun t ht => ?_⟩
  have h0 := hel t ht
  have htx : t < xs.length := by omega
  rw [c90, Nat.mul_one, List.getElem?_eq_getElem htx] at h0
  obtain ⟨k, e1, e2, _⟩ := DataW.trod_int Tryz.underlying22 h0
  have e3 : (xs.map fun x => x.fst)[t]? = some (.lit (.int .u32 k)) := by
    rw [List.getElem?_map, List.getElem?_eq_getElem htx, e2]; rfl
  rw [← hx1.1] at e3
  have e4 : (k : Int) = ((Sh.kk.getD t 0 : Nat) : Int) := by
    rw [List.getElem?_map] at e3
    have hk : t < Sh.kk.length := ht
    rw [List.getElem?_eq_getElem hk] at e3
    simp only [Option.map_some, Option.some.injEq, DataW.lit.injEq, Lit.int.injEq, true_and] at e3
    rw [← e3]
    simp [List.getD, List.getElem?_eq_getElem hk]
  have e5 := World.var?_cell hg0 hv0 t
  rw [e5, ← e4]
  have e6 : (List.take 1 (List.drop t cs0.toList))[0]? = some (.int .u32 k) := by rw [e1]; rfl
  rw [List.getElem?_take, if_pos (by omega), List.getElem?_drop] at e6
  simpa using e6

theorem nt_of_row {W : World} {x : Addr} {len cap : Nat} {zs : List Int} (hl : len ≤ cap) (hm : cap ≤ maxLen) (hz : zs.length = cap) (hcell : ∀ i, i < zs.length → W.cell? (x.add i) = some (.int .u64 (zs.getD i 0))) (hwz : ∀ n ∈ zs, (Lit.int .u64 n).wf = true) :
    Nt W W.heap.size (some x) len cap ((zs.take len).map Int.toNat) := by
  have hb : ∀ n ∈ zs, 0 ≤ n ∧ n ≤ 18446744073709551615 := fun n hn => bounds_u64 (hwz n hn)
  refine ⟨by simp; omega, hl, hm, ?_, ?_⟩
  · intro y hy
    simp only [List.mem_map] at hy
    obtain ⟨n, hn, rfl⟩ := hy
    have := hb n (List.mem_of_mem_take hn)
    omega
  · intro h0
    have hc := hcell 0 (by omega)
    obtain ⟨b, off, spot⟩ := x
    have hspot : spot = none := by simpa [Addr.add] using World.cell?_spot hc
    subst hspot
    have hlt := World.block_lt_of_cell? W _ hc
    refine ⟨b, off, rfl, by simpa [Addr.add] using hlt, fun j y hj => ?_⟩
    simp only [List.getElem?_map, Option.map_eq_some_iff, List.getElem?_take] at hj
    obtain ⟨n, hn, rfl⟩ := hj
    split at hn
    · have hj2 : j < zs.length := by
        rcases Nat.lt_or_ge j zs.length with h | h
        · exact h
        · rw [List.getElem?_eq_none h] at hn; cases hn
      have h1 := hcell j hj2
      have h2 : zs.getD j 0 = n := by simp [List.getD, hn]
      rw [h2] at h1
      have h3 := hb n (List.mem_of_getElem? hn)
      rw [show ((n.toNat : Nat) : Int) = n by omega]
      by_cases hj0 : j = 0
      · subst hj0; simpa [Addr.add] using h1
      · simpa [Addr.add, hj0] using h1
    · cases hn

theorem nb_of_row {W : World} {x : Addr} {len cap : Nat} {zs : List Int} (hl : len ≤ cap) (hm : cap ≤ maxLen) (hz : zs.length = cap) (hcell : ∀ i, i < zs.length → W.cell? (x.add i) = some (.int .u8 (zs.getD i 0))) (hwz : ∀ n ∈ zs, (Lit.int .u8 n).wf = true) :
    Nb W W.heap.size (some x) len cap ((zs.take len).map Int.toNat) := by
  have hb : ∀ n ∈ zs, 0 ≤ n ∧ n ≤ 255 := fun n hn => by
    have := hwz n hn
    simp [Lit.wf, IntKind.min, IntKind.max, IntKind.signed, IntKind.bits] at this
    omega
  refine ⟨by simp; omega, hl, hm, ?_, ?_⟩
  · intro y hy
    simp only [List.mem_map] at hy
    obtain ⟨n, hn, rfl⟩ := hy
    have := hb n (List.mem_of_mem_take hn)
    omega
  · intro h0
    have hc := hcell 0 (by omega)
    obtain ⟨b, off, spot⟩ := x
    have hspot : spot = none := by simpa [Addr.add] using World.cell?_spot hc
    subst hspot
    have hlt := World.block_lt_of_cell? W _ hc
    refine ⟨b, off, rfl, by simpa [Addr.add] using hlt, fun j y hj => ?_⟩
    simp only [List.getElem?_map, Option.map_eq_some_iff, List.getElem?_take] at hj
    obtain ⟨n, hn, rfl⟩ := hj
    split at hn
    · have hj2 : j < zs.length := by
        rcases Nat.lt_or_ge j zs.length with h | h
        · exact h
        · rw [List.getElem?_eq_none h] at hn; cases hn
      have h1 := hcell j hj2
      have h2 : zs.getD j 0 = n := by simp [List.getD, hn]
      rw [h2] at h1
      have h3 := hb n (List.mem_of_getElem? hn)
      rw [show ((n.toNat : Nat) : Int) = n by omega]
      by_cases hj0 : j = 0
      · subst hj0; simpa [Addr.add] using h1
      · simpa [Addr.add, hj0] using h1
    · cases hn


end Go.Proofs.YthipdagebijbiaaGreatDoor
namespace Go.Proofs.YthipdagebijbiaaGreatDoor.Sg
open Go.ChangeShapes Go.WideShapes Go.ChangeAt Go.RowKit
set_option linter.unusedVariables false
set_option maxRecDepth 100000
theorem u32_nat {a : Int} (w : (Lit.int .u32 a).wf = true) : ∃ y : Nat, a = (y : Int) ∧ y < 4294967296 := by
  simp [Lit.wf, IntKind.min, IntKind.max, IntKind.signed, IntKind.bits] at w
  exact ⟨a.toNat, by omega, by omega⟩
theorem bytes_open {H : Type} {enc : TypeId × Value → H} {W : World} {fuel : Nat} {c : List Value} {x : DataW H × List MemPlace} (hh : DataW.trod enc Tryz.prog W 0 (fun _ => true) true fuel 23 c = some x) :
    ∃ A n k zs, c = [.slice A n k] ∧ Wi.Nb W W.heap.size A n k zs := by
  rcases open_ints Tryz.underlying23 Tryz.underlying5 (by kernel_rfl) hh with ⟨hcs, _⟩ | ⟨x, l, c, zs, hcs, _, hl, hm, hz, hxx, hcell, hwz⟩
  · exact ⟨none, 0, 0, [], hcs, Wi.Nb.nil _ _ 0 (by omega) none⟩
  · have h := nb_of_row hl hm (by simpa using hz) hcell hwz
    exact ⟨some x, l, c, _, hcs, ⟨h.len, h.cap, h.rooms.2, h.lim, h.cell⟩⟩
theorem co25 : Tryz.prog.cellsOf 25 = 4 := by kernel_rfl
theorem co22 : Tryz.prog.cellsOf 22 = 1 := by kernel_rfl
theorem co23 : Tryz.prog.cellsOf 23 = 1 := by kernel_rfl
set_option maxHeartbeats 1000000 in
theorem val_parts {H : Type} {enc : TypeId × Value → H} {W : World} {cs : List Value} {fuel : Nat} {x : DataW H × List MemPlace} (hf : DataW.trod enc Tryz.prog W 0 (fun _ => true) true fuel 25 cs = some x) :
    ∃ (ts fs n c n2 c2 : Nat) (A A2 : Option Addr) (xs ys : List Nat), cs = [.int .u32 (ts : Int), .int .u32 (fs : Int), .slice A n c, .slice A2 n2 c2] ∧ ts < 4294967296 ∧ fs < 4294967296 ∧ Wi.Nb W W.heap.size A n c xs ∧ Wi.Nb W W.heap.size A2 n2 c2 ys := by
  obtain ⟨xs, n, _, rfl, hl, hlen, hff⟩ := DataW.trod_struct Tryz.underlying25 hf
  match xs, hlen with
  | [y0, y1, y2, y3], _ =>
    obtain ⟨t0, e0, _, w0⟩ := DataW.trod_int Tryz.underlying22 (hff 0 _ rfl)
    obtain ⟨t1, e1, _, w1⟩ := DataW.trod_int Tryz.underlying22 (hff 1 _ rfl)
    obtain ⟨A, m, k, zs, e2, hnb⟩ := bytes_open (hff 2 _ rfl)
    obtain ⟨A2, m2, k2, zs2, e3, hnb2⟩ := bytes_open (hff 3 _ rfl)
    obtain ⟨u0, rfl, l0⟩ := u32_nat w0
    obtain ⟨u1, rfl, l1⟩ := u32_nat w1
    refine ⟨u0, u1, m, k, m2, k2, A, A2, zs, zs2, ?_, l0, l1, hnb, hnb2⟩
    rw [co25] at hl
    match cs, hl with
    | [a, b, c, d], _ =>
      simp [co22, co23] at e0 e1 e2 e3
      simp [e0, e1, e2, e3]
end Go.Proofs.YthipdagebijbiaaGreatDoor.Sg
