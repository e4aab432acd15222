/- keys.numbers: the iterator over key numbers. -/
import Derived.Test.YtonfpomgkgljiaaDoorK4
import Derived.Maps.OwnIn
namespace Go.Proofs.YtonfpomgkgljiaaDoor
open Go.RowKit Go.Shelf
set_option linter.unusedVariables false
set_option maxRecDepth 100000
attribute [local go_sem] Oper.semAt_some

def steps (a b d id n : Nat) : List (Nat × Nat) := (List.range n).map fun k => (k, hop a b d id k)
theorem steps_len (a b d id n : Nat) : (steps a b d id n).length = n := by simp [steps]
theorem steps_succ (a b d id n : Nat) : steps a b d id (n + 1) = steps a b d id n ++ [(n, hop a b d id n)] := by simp [steps, List.range_succ]
theorem steps_snd (a b d id n : Nat) : (steps a b d id n).map Prod.snd = lst a b d id n := by simp [steps, lst]
def enc2 (x : Nat × Nat) : Array Value := #[.int .i64 (x.1 : Int), .int .u32 (x.2 : Int)]

structure Boxes (W : World) (g a b c d n : Nat) : Prop where
  b0 : W.cell? ⟨g, 0, none⟩ = some (.int .u32 (a : Int))
  b1 : W.cell? ⟨g + 1, 0, none⟩ = some (.int .u32 (b : Int))
  b2 : W.cell? ⟨g + 2, 0, none⟩ = some (.int .u32 (c : Int))
  b3 : W.cell? ⟨g + 3, 0, none⟩ = some (.int .u32 (d : Int))
  b4 : W.cell? ⟨g + 4, 0, none⟩ = some (.int .i64 (n : Int))
/-- what a round keeps -/
def Kp (n0 g : Nat) (A B : World) : Prop := Below n0 A B ∧ ∀ i, g ≤ i → i < g + 5 → B.heap[i]? = A.heap[i]?
theorem Kp.refl (n0 g : Nat) (A : World) : Kp n0 g A A := ⟨Below.refl _ _, fun _ _ _ => rfl⟩
theorem Kp.trans {n0 g : Nat} {A B C : World} (h : Kp n0 g A B) (k : Kp n0 g B C) : Kp n0 g A C := ⟨h.1.trans k.1, fun i h1 h2 => (k.2 i h1 h2).trans (h.2 i h1 h2)⟩
theorem Kp.of {n0 g : Nat} {W W' : World} (h : Below W.heap.size W W') (h0 : n0 ≤ W.heap.size) (h1 : g + 5 ≤ W.heap.size) : Kp n0 g W W' := ⟨h.mono h0, fun i _ hi => h.block i (by omega)⟩
theorem Boxes.kp {n0 g a b c d n : Nat} {W W' : World} (h : Boxes W g a b c d n) (k : Kp n0 g W W') : Boxes W' g a b c d n :=
  ⟨(cell_of_block (k.2 _ (by omega) (by omega))).trans h.b0, (cell_of_block (k.2 _ (by omega) (by omega))).trans h.b1, (cell_of_block (k.2 _ (by omega) (by omega))).trans h.b2, (cell_of_block (k.2 _ (by omega) (by omega))).trans h.b3, (cell_of_block (k.2 _ (by omega) (by omega))).trans h.b4⟩

set_option maxHeartbeats 2000000 in
theorem numbers_stops {w : World} (hk : Ks w) (n0 g a b c d N : Nat) (ha : a < 4294967296) (hb : b < 4294967296) (hc : c < 4294967296) (hd : d < 4294967296) (hn0 : 0 < n0) (hn1 : n0 ≤ w.heap.size) (hg : g + 5 ≤ w.heap.size) (hx : Boxes w g a b c d N) (hN : N ≤ 1000) :
    SeqStopsK Fence.wide 8 Tryd.prog 53 #[.pointer (some ⟨g + 2, 0, none⟩), .pointer (some ⟨g + 4, 0, none⟩), .pointer (some ⟨g, 0, none⟩), .pointer (some ⟨g + 1, 0, none⟩), .pointer (some ⟨g + 3, 0, none⟩)] enc2 (Kp n0 g) (fun xs => xs = steps a b d c N) (fun pre => ∃ m, m < N ∧ pre = steps a b d c (m + 1)) N w := by
  intro l J Jx W hW hJ hJx hY h0
  have hWs := hW.size
  have hKW : Kp n0 g w W := Kp.of hW hn1 hg
  have hxW := hx.kp hKW
  have hkW := hk.below hKW.1 hn0
  have HY := Lib.hid hY
  have HJ := Lib.hid hJ
  have Hlen := Lib.hid (steps_len a b d c)
  have Hsucc := Lib.hid (steps_succ a b d c)
  have Hlim := Lib.hid (hop_lim a b d c hc)
  have Hnext := Lib.hid (fun (w' : World) (hk : Ks w') (id : Nat) (hid : id < 4294967296) => next_any hk a b id d ha hb hid hd)
  have Hh := Lib.hid (show ∀ k, nxt a b d (hop a b d c k) = hop a b d c (k + 1) from fun k => rfl)
  have hop0 : hop a b d c 0 = c := rfl
  obtain ⟨c0, c1, c2, c3, c4⟩ := hxW
  have Hbx := Lib.hid (show Boxes W g a b c d N from ⟨c0, c1, c2, c3, c4⟩)
  clear hW hx hk hY hJ hJx ha hb hc hd hKW
  refine callsIn_of_wp Tryd.func53 rfl trivial ?_ rfl
  simp only [Tryd.ntmps53, List.size_toArray, List.length_cons, List.length_nil, Nat.reduceAdd, Nat.reduceSub, Array.replicate_succ, Array.replicate_zero, List.push_toArray, List.append_toArray, List.nil_append, List.cons_append]
  gi_wp2_with fail
  clear c0 c1 c2 c3 c4
  gi_loopw [8, 7] (fun h i wr => ∃ k : Nat, k ≤ N ∧ h = .int .i64 (k : Int) ∧ i = .int .u32 ((hop a b d c k : Nat) : Int) ∧ J (steps a b d c k) wr ∧ Kp n0 g W wr) (fun h _ _ => N - (intOf h).toNat)
  case atStart => exact ⟨0, Nat.zero_le _, rfl, by rw [hop0], h0, Kp.refl _ _ _⟩
  case round =>
    obtain ⟨k, hk, rfl, rfl, hJk, hB⟩ := hrel
    obtain ⟨c0, c1, c2, c3, c4⟩ := Hbx.out.kp hB
    by_cases hlt : k < N
    · have q1 : (k : Int) < (N : Int) := by omega
      obtain ⟨fn, tmps, assign, body, hy', hR⟩ := HY.out (steps a b d c k) (k, hop a b d c k) wr hJk (by rw [Hlen.out]; exact hlt)
      change (Instr.yield l #[.int .i64 (k : Int), .int .u32 ((hop a b d c k : Nat) : Int)]).run Tryd.prog wr = _ at hy'
      gi_wp2_with fail
      refine hR.mono ?_
      rintro e w2 (⟨rfl, hJ2, hK2⟩ | ⟨rfl, hJ2⟩)
      · have hB2 := hB.trans hK2
        obtain ⟨d0, d1, d2, d3, d4⟩ := Hbx.out.kp hB2
        have hk2 := hkW.below hB2.1 hn0
        have hs2 := hB2.1.size
        have Hc := Lib.hid (Hnext.out w2 hk2 (hop a b d c k) (Hlim.out k))
        rw [Hh.out] at Hc
        clear c0 c1 c2 c3 c4 hy' hR
        gi_wp2_with fail
        refine ⟨trivial, (callsIn_wide.2 Hc.out).mono ?_⟩
        rintro e w3 ⟨rfl, b3⟩
        have hK3 := hB2.trans (Kp.of b3 (by omega) (by omega))
        gi_wp2
        go_roundw
        case rel => exact ⟨k + 1, by omega, by go_num, rfl, by rw [Hsucc.out]; exact HJ.out _ _ _ none hJ2 (below_grown b3) (fun _ e => by cases e), hK3⟩
        case measure => simp [intOf]; omega
      · clear hy' hR
        gi_wp2
        go_end0
        exact ⟨⟨_, rfl⟩, Or.inr ⟨_, ⟨k, hlt, rfl⟩, by rw [Hsucc.out]; exact hJ2⟩⟩
    · have q1 : (N : Int) ≤ (k : Int) := by omega
      have hf : k = N := by omega
      subst hf
      clear hlt
      gi_wp2
      refine ⟨(fun f e => by cases e), ?_⟩
      gi_wp2
      go_end0
      exact ⟨⟨_, rfl⟩, Or.inl ⟨_, rfl, hJk⟩⟩
end Go.Proofs.YtonfpomgkgljiaaDoor
