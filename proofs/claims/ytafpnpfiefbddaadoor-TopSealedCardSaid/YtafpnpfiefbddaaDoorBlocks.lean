/- sha.blocks: the blocks of two pieces come one by one. -/
import Derived.Test.YtafpnpfiefbddaaDoorLeft
import Derived.RangeFuncNested
import Derived.RangeFuncBound
import Derived.RangeFuncCalls
import Derived.RangeFuncLeaves
import Derived.Shelf.Abstract
import Derived.Shelf.RegionOpen
import Derived.OwnWalkIn
import Derived.TacticsInMore
import Derived.LoopNIn
import Derived.LoopIn
namespace Go.Proofs.YtafpnpfiefbddaaDoor
set_option linter.unusedSimpArgs false
set_option linter.unusedVariables false
open Go.RowKit Go.Shelf
set_option linter.unusedVariables false
set_option maxRecDepth 100000
attribute [local go_sem] Oper.semAt_some

theorem below_grown {W W' : World} (h : Below W.heap.size W W') : W.grownBy W' none := ⟨h.os, h.tape, h.output, h.size, fun i hi _ => h.block i hi⟩

/-- what a round keeps: all below a block, and two blocks more -/
structure Keeps (n0 B1 B2 : Nat) (W W' : World) : Prop where
  low : Below n0 W W'
  one : W'.heap[B1]? = W.heap[B1]?
  two : W'.heap[B2]? = W.heap[B2]?
theorem Keeps.refl (n0 B1 B2 : Nat) (W : World) : Keeps n0 B1 B2 W W := ⟨Below.refl _ _, rfl, rfl⟩
theorem Keeps.trans {n0 B1 B2 : Nat} {A B C : World} (h : Keeps n0 B1 B2 A B) (k : Keeps n0 B1 B2 B C) : Keeps n0 B1 B2 A C := ⟨h.low.trans k.low, k.one.trans h.one, k.two.trans h.two⟩
theorem Keeps.of {n0 B1 B2 : Nat} {W W' : World} (h : Below W.heap.size W W') (h0 : n0 ≤ W.heap.size) (h1 : B1 < W.heap.size) (h2 : B2 < W.heap.size) : Keeps n0 B1 B2 W W' := ⟨h.mono h0, h.block _ h1, h.block _ h2⟩
theorem cell_of_block {W W' : World} {b j : Nat} (h : W'.heap[b]? = W.heap[b]?) : W'.cell? ⟨b, j, none⟩ = W.cell? ⟨b, j, none⟩ := by unfold World.cell?; rw [h]
set_option maxHeartbeats 2000000 in
theorem blocks1_in (l B1 B2 n0 : Nat) {A1 A2 : Option Addr} {n c m c2 : Nat} {xs ys : List Nat} (hs : n + m ≤ 1099511627776) (J : Nat → World → Prop) (hJ : ∀ k A B, J k A → A.grownBy B none → J k B)
    (hY : ∀ k A' c' W, J k W → k < (n + m) / 64 → Nb W W.heap.size A' 64 c' (((xs ++ ys).drop (64 * k)).take 64) → YieldAt Fence.wide 7 Tryd.prog l #[.slice A' 64 c'] W fun e W' => e = .returned (.bool true) ∧ J (k + 1) W' ∧ Keeps n0 B1 B2 W W')
    (W : World) (hn0 : n0 ≤ W.heap.size) (hB1 : B1 < W.heap.size) (hB2 : B2 < W.heap.size) (hc1 : W.cell? ⟨B1, 0, none⟩ = some (.slice A1 n c)) (hc2 : W.cell? ⟨B2, 0, none⟩ = some (.slice A2 m c2)) (hx : Nb W n0 A1 n c xs) (hy : Nb W n0 A2 m c2 ys) (h0 : J 0 W) :
    CallsIn Fence.wide 8 Tryd.prog 65 #[.func (.yield l) #[] #[], .pointer (some ⟨B1, 0, none⟩), .pointer (some ⟨B2, 0, none⟩)] W fun e W' => (∃ v, e = .returned v) ∧ J ((n + m) / 64) W' := by
  obtain ⟨N, hN⟩ : ∃ N, (n + m) / 64 = N := ⟨_, rfl⟩
  rw [hN] at hY ⊢
  have hNb : 64 * N ≤ n + m := by omega
  have HN := Lib.hid hN
  have hW := whole_any A1 A2 n c m c2 (by omega) (by omega) W
  rw [hN] at hW
  have HW := Lib.hid hW
  have HY := Lib.hid hY
  have HJ := Lib.hid hJ
  clear hN hW hY hJ
  refine callsIn_of_wp Tryd.func65 rfl trivial ?_ rfl
  simp only [Tryd.ntmps65, List.size_toArray, List.length_cons, List.length_nil, Nat.reduceAdd, Nat.reduceSub, Array.replicate_succ, Array.replicate_zero, List.push_toArray, List.append_toArray, List.nil_append, List.cons_append]
  gi_wp2_with fail
  refine ⟨trivial, (callsIn_wide.2 HW.out).mono ?_⟩
  rintro e w1 ⟨rfl, rfl⟩
  gi_wp2
  gi_loopw [5] (fun i wr => ∃ k : Nat, k ≤ N ∧ i = .int .i64 ((64 * k : Nat) : Int) ∧ J k wr ∧ Keeps n0 B1 B2 W wr) (fun i _ => 64 * N - (intOf i).toNat)
  case atStart => exact ⟨0, Nat.zero_le _, rfl, h0, Keeps.refl _ _ _ _⟩
  case round =>
    obtain ⟨k, hk, rfl, hJk, hB⟩ := hrel
    by_cases hlt : k < N
    · have hb1 : wr.cell? ⟨B1, 0, none⟩ = some (.slice A1 n c) := (cell_of_block hB.one).trans hc1
      have hb2 : wr.cell? ⟨B2, 0, none⟩ = some (.slice A2 m c2) := (cell_of_block hB.two).trans hc2
      have hsz := hB.low.size
      have hpart := part_any ((hx.below hB.low).more (Nat.le_trans hn0 hsz)) ((hy.below hB.low).more (Nat.le_trans hn0 hsz)) hs (64 * k) (64 * k + 64) (by omega) (by omega)
      rw [show 64 * k + 64 - 64 * k = 64 by omega, show ((64 * k : Nat) : Int) = 64 * (k : Int) by omega, show ((64 * k + 64 : Nat) : Int) = 64 * (k : Int) + 64 by omega] at hpart
      have Hp := Lib.hid hpart
      have q1 : 64 * (k : Int) < 64 * (N : Int) := by omega
      clear hpart hc1 hc2
      gi_wp2_with fail
      refine ⟨trivial, (callsIn_wide.2 Hp.out).mono ?_⟩
      rintro e w1 ⟨A', c', rfl, hn', hb'⟩
      obtain ⟨fn, tmps, assign, body, hy', hR⟩ := HY.out k A' c' w1 (HJ.out k _ _ hJk (below_grown hb')) hlt hn'
      gi_wp2
      refine hR.mono ?_
      rintro e w2 ⟨rfl, hJ2, hB2'⟩
      have hBall : Keeps n0 B1 B2 W w2 := (hB.trans (Keeps.of hb' (Nat.le_trans hn0 hsz) (Nat.lt_of_lt_of_le hB1 hsz) (Nat.lt_of_lt_of_le hB2 hsz))).trans hB2'
      gi_wp2
      go_roundw
      case rel => exact ⟨k + 1, by omega, by congr 1, hJ2, hBall⟩
      case measure => simp [intOf]; omega
    · have q1 : 64 * (N : Int) ≤ 64 * (k : Int) := by omega
      have hf : J N wr := by rw [show N = k by omega]; exact hJk
      clear hlt
      gi_wp2
      go_end0
      exact ⟨⟨_, rfl⟩, hf⟩
end Go.Proofs.YtafpnpfiefbddaaDoor
