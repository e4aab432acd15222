/- wire: packets that came in. -/
import Derived.Test.YtafpnpfiefbddaaDoorWiR16
import Derived.Test.YtafpnpfiefbddaaDoorWiR13
import Derived.Test.YtafpnpfiefbddaaDoorWiS4
import Derived.Test.YtafpnpfiefbddaaDoorRows
import Derived.ProofKit
import Derived.OpenShut
import Derived.ChangeOld
import Derived.Stop.Joined
import Derived.Lib.SmallJoins
import Derived.Deep.MidRow
import Derived.Deep.Slices
import Derived.SizedLaws
namespace Go.Proofs.YtafpnpfiefbddaaDoor.Wi
set_option linter.unusedSimpArgs false
set_option linter.unusedVariables false
open Go.ChangeShapes Go.WideShapes Go.ChangeAt Go.RowKit
set_option linter.unusedVariables false
set_option maxRecDepth 100000

theorem own : ownKnob Tryd.prog.godebug = none := by kernel_rfl
theorem nb_of_row {W : World} {x : Addr} {len cap : Nat} {zs : List Int} (hl : len ≤ cap) (hm : cap ≤ maxLen) (hz : zs.length = cap) (hcell : ∀ i, i < zs.length → W.cell? (x.add i) = some (.int .u8 (zs.getD i 0))) (hwz : ∀ n ∈ zs, (Lit.int .u8 n).wf = true) :
    Nb W W.heap.size (some x) len cap ((zs.take len).map Int.toNat) := by
  have hb : ∀ n ∈ zs, 0 ≤ n ∧ n ≤ 255 := fun n hn => by
    have := hwz n hn
    simp [Lit.wf, IntKind.min, IntKind.max, IntKind.signed, IntKind.bits] at this
    omega
  refine ⟨by simp; omega, hl, hm, ?_, ?_⟩
  · intro y hy
    simp only [List.mem_map] at hy
    obtain ⟨n, hn, rfl⟩ := hy
    have := hb n (List.mem_of_mem_take hn)
    omega
  · intro h0
    have hc := hcell 0 (by omega)
    obtain ⟨b, off, spot⟩ := x
    have hspot : spot = none := by simpa [Addr.add] using World.cell?_spot hc
    subst hspot
    have hlt := World.block_lt_of_cell? W _ hc
    refine ⟨b, off, rfl, by simpa [Addr.add] using hlt, fun j y hj => ?_⟩
    simp only [List.getElem?_map, Option.map_eq_some_iff, List.getElem?_take] at hj
    obtain ⟨n, hn, rfl⟩ := hj
    split at hn
    · have hj2 : j < zs.length := by
        rcases Nat.lt_or_ge j zs.length with h | h
        · exact h
        · rw [List.getElem?_eq_none h] at hn; cases hn
      have h1 := hcell j hj2
      have h2 : zs.getD j 0 = n := by simp [List.getD, hn]
      rw [h2] at h1
      have h3 := hb n (List.mem_of_getElem? hn)
      rw [show ((n.toNat : Nat) : Int) = n by omega]
      by_cases hj0 : j = 0
      · subst hj0; simpa [Addr.add] using h1
      · simpa [Addr.add, hj0] using h1
    · cases hn
theorem u32_nat {a : Int} (w : (Lit.int .u32 a).wf = true) : ∃ y : Nat, a = (y : Int) ∧ y < 4294967296 := by
  simp [Lit.wf, IntKind.min, IntKind.max, IntKind.signed, IntKind.bits] at w
  exact ⟨a.toNat, by omega, by omega⟩
theorem i64_lim {a : Int} (w : (Lit.int .i64 a).wf = true) : -9223372036854775808 ≤ a ∧ a ≤ 9223372036854775807 := by
  simp [Lit.wf, IntKind.min, IntKind.max, IntKind.signed, IntKind.bits] at w
  omega
theorem bytes_open {H : Type} {enc : TypeId × Value → H} {W : World} {fuel : Nat} {c : List Value} {x : DataW H × List MemPlace} (hh : DataW.trod enc Tryd.prog W 0 (fun _ => true) true fuel 25 c = some x) :
    ∃ A n k zs, c = [.slice A n k] ∧ Nb W W.heap.size A n k zs ∧ ∀ m, (∀ q ∈ x.1.weights Tryd.prog 25, q ≤ m) → n ≤ m := by
  rcases open_ints Tryd.underlying25 Tryd.underlying5 (by kernel_rfl) hh with ⟨hcs, _⟩ | ⟨x, l, c, zs, hcs, _, hl, hm, hz, hxx, hcell, hwz⟩
  · exact ⟨none, 0, 0, [], hcs, Nb.nil _ _ 0 (by omega) none, fun m _ => Nat.zero_le _⟩
  · refine ⟨some x, l, c, _, hcs, nb_of_row hl hm (by simpa using hz) hcell hwz, fun m h => ?_⟩
    subst hxx
    have := h (((lits (H := H) .u8 (zs.take l)).length + (lits (H := H) .u8 (zs.drop l)).length) * Tryd.prog.bytesOf 5) (by simp [DataW.weights, Tryd.underlying25])
    rw [show Tryd.prog.bytesOf 5 = 1 by kernel_rfl] at this
    simp [lits] at this hz
    omega
theorem u64_nat {a : Int} (w : (Lit.int .u64 a).wf = true) : ∃ y : Nat, a = (y : Int) ∧ y < 18446744073709551616 := by
  simp [Lit.wf, IntKind.min, IntKind.max, IntKind.signed, IntKind.bits] at w
  exact ⟨a.toNat, by omega, by omega⟩
theorem weights_all {H : Type} {P : Program} {e : TypeId} {d : DataW H} {q : Nat} : ∀ {l : List (DataW H)}, d ∈ l → q ∈ d.weights P e → q ∈ DataW.weightsAll P e l
  | a :: l, h, hq => by
    simp only [DataW.weightsAll, List.mem_append]
    rcases List.mem_cons.1 h with rfl | h
    · exact .inl hq
    · exact .inr (weights_all h hq)
theorem laidOut : laidOutB Tryd.prog = true := by kernel_rfl
theorem co47 : Tryd.prog.cellsOf 45 = 8 := by kernel_rfl
theorem co29 : Tryd.prog.cellsOf 29 = 17 := by kernel_rfl
theorem co27 : Tryd.prog.cellsOf 27 = 3 := by kernel_rfl
theorem co3 : Tryd.prog.cellsOf 3 = 1 := by kernel_rfl
theorem co4 : Tryd.prog.cellsOf 4 = 1 := by kernel_rfl
theorem co22 : Tryd.prog.cellsOf 22 = 1 := by kernel_rfl
theorem co23 : Tryd.prog.cellsOf 23 = 1 := by kernel_rfl
theorem co24 : Tryd.prog.cellsOf 24 = 1 := by kernel_rfl
theorem co25 : Tryd.prog.cellsOf 25 = 1 := by kernel_rfl
theorem ext_parts {H : Type} {enc : TypeId × Value → H} {W : World} {cs : List Value} {fuel : Nat} {x : DataW H × List MemPlace} (hf : DataW.trod enc Tryd.prog W 0 (fun _ => true) true fuel 45 cs = some x) :
    ∃ E : El, cs = E.cs ∧ E.ts < 4294967296 ∧ E.fs < 4294967296 ∧ Nb W W.heap.size E.A E.n E.c E.xs ∧ Nb W W.heap.size E.B E.m E.e E.ys := by
  obtain ⟨xs, n, _, rfl, hl, hlen, hff⟩ := DataW.trod_struct Tryd.underlying45 hf
  match xs, hlen with
  | [y0, y1, y2, y3, y4, y5, y6, y7], _ =>
    obtain ⟨t0, e0, _, w0⟩ := DataW.trod_int Tryd.underlying3 (hff 0 _ rfl)
    obtain ⟨t1, e1, _⟩ := DataW.trod_bool Tryd.underlying4 (hff 1 _ rfl)
    obtain ⟨t2, e2, _⟩ := DataW.trod_bool Tryd.underlying4 (hff 2 _ rfl)
    obtain ⟨t3, e3, _, w3⟩ := DataW.trod_int Tryd.underlying3 (hff 3 _ rfl)
    obtain ⟨t4, e4, _, w4⟩ := DataW.trod_int Tryd.underlying22 (hff 4 _ rfl)
    obtain ⟨t5, e5, _, w5⟩ := DataW.trod_int Tryd.underlying22 (hff 5 _ rfl)
    obtain ⟨A, m, k, zs, e6, hnb, hsz⟩ := bytes_open (hff 6 _ rfl)
    obtain ⟨B, m2, k2, zs2, e7, hnb2, hsz2⟩ := bytes_open (hff 7 _ rfl)
    obtain ⟨u4, rfl, l4⟩ := u32_nat w4
    obtain ⟨u5, rfl, l5⟩ := u32_nat w5
    refine ⟨⟨t0, t1, t2, t3, u4, u5, A, m, k, B, m2, k2, zs, zs2⟩, ?_, l4, l5, hnb, hnb2⟩
    rw [co47] at hl
    match cs, hl with
    | [a, b, c, d, e, f, g, h], _ =>
      simp [co3, co4, co22, co25] at e0 e1 e2 e3 e4 e5 e6 e7
      simp [El.cs, e0, e1, e2, e3, e4, e5, e6, e7]
instance : Inhabited El := ⟨e0⟩
theorem exts_open {H : Type} {enc : TypeId × Value → H} {W : World} {fuel : Nat} {cs : List Value} {x : DataW H × List MemPlace} (hf : DataW.trod enc Tryd.prog W 0 (fun _ => true) true fuel 24 cs = some x) :
    ∃ A n c, cs = [.slice A n c] ∧ ∃ E : List El, Es W W.heap.size A n E ∧ (∀ e ∈ E, e.ts < 4294967296 ∧ e.fs < 4294967296) ∧ ∀ M, (∀ q ∈ x.1.weights Tryd.prog 24, q ≤ M) → n ≤ M := by
  rcases Go.Deep.open_slice Tryd.underlying24 hf with ⟨h0, _⟩ | ⟨a, len, cap, m, k, D, Pl, hcs, hb, hl, hm, hmm, hxx, hx⟩
  · exact ⟨none, 0, 0, h0, [], ⟨rfl, (fun x hx => by cases hx), .inl rfl⟩, (fun e he => by cases he), fun M _ => Nat.zero_le _⟩
  · refine ⟨some a, len, cap, hcs, ?_⟩
    simp only [if_true] at hmm
    subst hmm
    have each : ∀ i, i < len → ∃ E : El, (∀ j v, E.cs[j]? = some v → W.cell? ((a.add (i * 8)).add j) = some v) ∧ E.ts < 4294967296 ∧ E.fs < 4294967296 ∧ Nb W W.heap.size E.A E.n E.c E.xs ∧ Nb W W.heap.size E.B E.m E.e E.ys := fun i hi => by
      obtain ⟨cs', h1, h2⟩ := hx i (by omega)
      rw [co47] at h1
      obtain ⟨_, hlen, hcell⟩ := World.cells?_some h1
      obtain ⟨E, rfl, hE⟩ := ext_parts h2
      refine ⟨E, fun j v hv => ?_, hE⟩
      have hj : j < 8 := by
        rcases Nat.lt_or_ge j 8 with h | h
        · exact h
        · rw [List.getElem?_eq_none (by simpa [El.cs] using h)] at hv; cases hv
      have := hcell j (by simpa using hj)
      rw [this, hv]
    obtain ⟨E, hE⟩ := Go.Deep.choose_lt each
    refine ⟨(List.range len).map E, ⟨by simp, fun e he => ?_, ?_⟩, fun e he => ?_, fun M hM => ?_⟩
    · simp only [List.mem_map, List.mem_range] at he
      obtain ⟨i, hi, rfl⟩ := he
      exact (hE i hi).2.2.2
    · rcases Nat.eq_zero_or_pos len with h0 | h0
      · exact .inl h0
      · have hc0 := (hE 0 h0).1 0 _ rfl
        obtain ⟨b, off, spot⟩ := a
        have hspot : spot = none := by simpa [Addr.add] using World.cell?_spot hc0
        subst hspot
        have hlt := World.block_lt_of_cell? W _ hc0
        refine .inr ⟨b, off, rfl, by simpa [Addr.add] using hlt, fun i s hi => ?_⟩
        obtain ⟨hi', rfl⟩ : i < len ∧ s = E i := by
          simp only [List.getElem?_map, Option.map_eq_some_iff] at hi
          obtain ⟨y, hy, rfl⟩ := hi
          have := List.getElem?_eq_some_iff.1 hy
          obtain ⟨h1, h2⟩ := this
          simp at h1 h2
          exact ⟨h1, by rw [h2]⟩
        have HH : ∀ j v, (E i).cs[j]? = some v → W.cell? ⟨b, off + i * 8 + j, none⟩ = some v := fun j v hv => by
          have := (hE i hi').1 j v hv
          rwa [Addr.add_mid, Addr.add_mid] at this
        exact ⟨HH 0 _ rfl, HH 1 _ rfl, HH 2 _ rfl, HH 3 _ rfl, HH 4 _ rfl, HH 5 _ rfl, HH 6 _ rfl, HH 7 _ rfl⟩
    · simp only [List.mem_map, List.mem_range] at he
      obtain ⟨i, hi, rfl⟩ := he
      exact ⟨(hE i hi).2.1, (hE i hi).2.2.1⟩
    · subst hxx
      have := hM (((List.range len).map D).length * Tryd.prog.bytesOf 45 + ((List.range (m - len)).map fun j => D (len + j)).length * Tryd.prog.bytesOf 45) (by simp only [DataW.weights, Tryd.underlying24, Nat.add_mul]; exact List.mem_cons_self)
      rw [show Tryd.prog.bytesOf 45 = 80 by kernel_rfl] at this
      simp at this
      omega
theorem mac_parts {H : Type} {enc : TypeId × Value → H} {W : World} {cs : List Value} {fuel : Nat} {x : DataW H × List MemPlace} (hf : DataW.trod enc Tryd.prog W 0 (fun _ => true) true fuel 27 cs = some x) :
    ∃ (m : Mc) (ms : List Nat), cs = [.bool m.has, .int .u32 (m.key : Int), .slice m.A m.n m.c] ∧ m.key < 4294967296 ∧ Nb W W.heap.size m.A m.n m.c ms := by
  obtain ⟨xs, n, _, rfl, hl, hlen, hff⟩ := DataW.trod_struct Tryd.underlying27 hf
  match xs, hlen with
  | [y0, y1, y2], _ =>
    obtain ⟨t0, e0, _⟩ := DataW.trod_bool Tryd.underlying4 (hff 0 _ rfl)
    obtain ⟨t1, e1, _, w1⟩ := DataW.trod_int Tryd.underlying22 (hff 1 _ rfl)
    obtain ⟨A, m, k, zs, e2, hnb, hsz⟩ := bytes_open (hff 2 _ rfl)
    obtain ⟨u1, rfl, l1⟩ := u32_nat w1
    refine ⟨⟨t0, u1, A, m, k⟩, zs, ?_, l1, hnb⟩
    rw [co27] at hl
    match cs, hl with
    | [a, b, c], _ =>
      simp [co4, co22, co25] at e0 e1 e2
      simp [e0, e1, e2]
set_option maxHeartbeats 1000000 in
theorem pk_parts {H : Type} {enc : TypeId × Value → H} {W : World} {cs : List Value} {fuel : Nat} {x : DataW H × List MemPlace} (hf : DataW.trod enc Tryd.prog W 0 (fun _ => true) true fuel 29 cs = some x) :
    ∃ (p : Pk) (l : List El) (ms : List Nat), cs = (pkC p).toList ∧ p.ok ∧ Es W W.heap.size p.A p.n l ∧ (∀ e ∈ l, e.ts < 4294967296 ∧ e.fs < 4294967296) ∧ Nb W W.heap.size p.m.A p.m.n p.m.c ms ∧ ∀ M, (∀ q ∈ x.1.weights Tryd.prog 29, q ≤ M) → p.n ≤ M := by
  obtain ⟨xs, n, _, rfl, hl, hlen, hff⟩ := DataW.trod_struct Tryd.underlying29 hf
  match xs, hlen with
  | [y0, y1, y2, y3, y4, y5, y6, y7, y8, y9, y10, y11, y12, y13, y14], _ =>
    obtain ⟨t0, e0, _, w0⟩ := DataW.trod_int Tryd.underlying3 (hff 0 _ rfl)
    obtain ⟨t1, e1, _, w1⟩ := DataW.trod_int Tryd.underlying3 (hff 1 _ rfl)
    obtain ⟨t2, e2, _, w2⟩ := DataW.trod_int Tryd.underlying3 (hff 2 _ rfl)
    obtain ⟨t3, e3, _, w3⟩ := DataW.trod_int Tryd.underlying3 (hff 3 _ rfl)
    obtain ⟨t4, e4, _, w4⟩ := DataW.trod_int Tryd.underlying3 (hff 4 _ rfl)
    obtain ⟨t5, e5, _, w5⟩ := DataW.trod_int Tryd.underlying3 (hff 5 _ rfl)
    obtain ⟨t6, e6, _, w6⟩ := DataW.trod_int Tryd.underlying22 (hff 6 _ rfl)
    obtain ⟨t7, e7, _, w7⟩ := DataW.trod_int Tryd.underlying22 (hff 7 _ rfl)
    obtain ⟨t8, e8, _, w8⟩ := DataW.trod_int Tryd.underlying22 (hff 8 _ rfl)
    obtain ⟨t9, e9, _, w9⟩ := DataW.trod_int Tryd.underlying23 (hff 9 _ rfl)
    obtain ⟨t10, e10, _, w10⟩ := DataW.trod_int Tryd.underlying23 (hff 10 _ rfl)
    obtain ⟨t11, e11, _, w11⟩ := DataW.trod_int Tryd.underlying23 (hff 11 _ rfl)
    obtain ⟨t12, e12, _, w12⟩ := DataW.trod_int Tryd.underlying23 (hff 12 _ rfl)
    obtain ⟨A, m, k, e13, l, hE, hts, hsz⟩ := exts_open (hff 13 _ rfl)
    obtain ⟨mc, ms, e14, hkey, hms⟩ := mac_parts (hff 14 _ rfl)
    obtain ⟨u6, rfl, l6⟩ := u32_nat w6
    obtain ⟨u7, rfl, l7⟩ := u32_nat w7
    obtain ⟨u8, rfl, l8⟩ := u32_nat w8
    obtain ⟨u9, rfl, l9⟩ := u64_nat w9
    obtain ⟨u10, rfl, l10⟩ := u64_nat w10
    obtain ⟨u11, rfl, l11⟩ := u64_nat w11
    obtain ⟨u12, rfl, l12⟩ := u64_nat w12
    refine ⟨⟨⟨t0, t1, t2, t3, t4, t5, u6, u7, u8, u9, u10, u11, u12⟩, A, m, k, mc⟩, l, ms, ?_, ⟨⟨⟨l6, l7, l8⟩, l9, l10, l11, l12⟩, hkey⟩, hE, hts, hms, fun M hM => hsz M fun q hq => hM q ?_⟩
    · rw [co29] at hl
      match cs, hl with
      | [c0, c1, c2, c3, c4, c5, c6, c7, c8, c9, c10, c11, c12, c13, c14, c15, c16], _ =>
        simp [co3, co22, co23, co24, co27] at e0 e1 e2 e3 e4 e5 e6 e7 e8 e9 e10 e11 e12 e13 e14
        obtain ⟨e14, e15, e16⟩ := e14
        simp [e0, e1, e2, e3, e4, e5, e6, e7, e8, e9, e10, e11, e12, e13, e14, e15, e16]
    · simp [DataW.weights, Tryd.underlying29, DataW.weightsEach]
      simp_all
end Go.Proofs.YtafpnpfiefbddaaDoor.Wi
