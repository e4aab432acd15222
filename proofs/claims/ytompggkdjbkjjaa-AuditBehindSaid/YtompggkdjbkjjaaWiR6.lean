/- wire.fields: the fields behind the head come one by one. -/
import Derived.Test.YtompggkdjbkjjaaWiR4
import Derived.RangeFuncNested
import Derived.RangeFuncBound
import Derived.RangeFuncCalls
import Derived.RangeFuncLeaves
import Derived.RangeFuncFrom
import Derived.Shelf.Abstract
import Derived.Shelf.RegionOpen
import Derived.OwnWalkIn
import Derived.TacticsInMore
import Derived.LoopNIn
import Derived.LoopIn
namespace Go.Proofs.Ytompggkdjbkjjaa.Wi
open Go.RowKit Go.Shelf
set_option linter.unusedVariables false
set_option maxRecDepth 100000
attribute [local go_sem] Oper.semAt_some
theorem below_grown {W W' : World} (h : RowKit.Below W.heap.size W W') : W.grownBy W' none := ⟨h.os, h.tape, h.output, h.size, fun i hi _ => h.block i hi⟩
/-- what a round keeps: all below a block, and one block more -/
structure Keeps (n0 B1 : Nat) (W W' : World) : Prop where
  low : RowKit.Below n0 W W'
  one : W'.heap[B1]? = W.heap[B1]?
theorem Keeps.refl (n0 B1 : Nat) (W : World) : Keeps n0 B1 W W := ⟨RowKit.Below.refl _ _, rfl⟩
theorem Keeps.trans {n0 B1 : Nat} {A B C : World} (h : Keeps n0 B1 A B) (k : Keeps n0 B1 B C) : Keeps n0 B1 A C := ⟨h.low.trans k.low, k.one.trans h.one⟩
theorem Keeps.of {n0 B1 : Nat} {W W' : World} (h : RowKit.Below W.heap.size W W') (h0 : n0 ≤ W.heap.size) (h1 : B1 < W.heap.size) : Keeps n0 B1 W W' := ⟨h.mono h0, h.block _ h1⟩
theorem cell_of_block {W W' : World} {b j : Nat} (h : W'.heap[b]? = W.heap[b]?) : W'.cell? ⟨b, j, none⟩ = W.cell? ⟨b, j, none⟩ := by unfold World.cell?; rw [h]
/-- may a field behind `at` have so many bytes? -/
def badB (n at_ s : Nat) : Bool := !(s % 4 == 0) || (decide (s < 24) || decide (n - at_ < s))
/-- where the fields begin, and how many bytes they have; 0: there is none -/
def fds (xs : List Nat) : Nat → Nat → List (Nat × Nat)
  | 0, _ => []
  | f + 1, at_ => if xs.length - at_ ≤ 20 then [] else if badB xs.length at_ (nm xs (at_ + 2) 2) = true then [(at_, 0)] else (at_, nm xs (at_ + 2) 2) :: fds xs f (at_ + nm xs (at_ + 2) 2)
def fdV (A : Option Addr) (c : Nat) (p : Nat × Nat) : Array Value := #[.int .i64 (p.1 : Int), if p.2 = 0 then .slice none 0 0 else .slice (pa A c p.1) p.2 (c - p.1)]
theorem rem4 (s : Nat) (h : s < 65536) : Int.tmod (s : Int) 4 = ((s % 4 : Nat) : Int) := by
  rw [show (4 : Int) = ((4 : Nat) : Int) from rfl, ← Int.ofNat_tmod]
theorem drop_cons {α : Type} {L rest : List α} {x : α} {k : Nat} (h : L.drop k = x :: rest) : k < L.length ∧ L[k]? = some x ∧ L.drop (k + 1) = rest := by
  have hk : k < L.length := by
    rcases Nat.lt_or_ge k L.length with h1 | h1
    · exact h1
    · rw [List.drop_eq_nil_of_le h1] at h; cases h
  refine ⟨hk, ?_, ?_⟩
  · have := congrArg List.head? h
    rw [List.head?_drop] at this
    exact this
  · have := congrArg List.tail h
    rw [List.tail_drop] at this
    exact this
theorem drop_nil {α : Type} {L : List α} {k : Nat} (h : L.drop k = []) (hk : k ≤ L.length) : k = L.length := by
  have := congrArg List.length h
  rw [List.length_drop] at this
  simp at this
  omega
theorem w64_in (a : Nat) (b : Nat) (h : a + b ≤ 4294967296) : wrap64 ((a : Int) + (b : Int)) = ((a + b : Nat) : Int) := by unfold wrap64; omega
set_option maxHeartbeats 2000000 in
theorem fields_in (l B1 n0 : Nat) {A : Option Addr} {n c : Nat} {xs : List Nat} (hn : 48 ≤ n ∧ n ≤ 1073741824) (L : List (Nat × Nat)) (hL : L = fds xs n 48) (J Jx : Nat → World → Prop)
    (hY : ∀ k p W, J k W → L[k]? = some p → YieldAt Fence.wide 7 Try.prog l (fdV A c p) W fun e W' => (e = .returned (.bool true) ∧ J (k + 1) W' ∧ Keeps n0 B1 W W') ∨ (e = .returned (.bool false) ∧ Jx k W'))
    (hJ : ∀ k A B, J k A → A.grownBy B none → J k B)
    (W : World) (hn0 : n0 ≤ W.heap.size) (hB1 : B1 < W.heap.size) (hc1 : W.cell? ⟨B1, 0, none⟩ = some (.slice A n c)) (hx : Nb W n0 A n c xs) (h0 : J 0 W) :
    CallsIn Fence.wide 8 Try.prog 55 #[.func (.yield l) #[] #[], .pointer (some ⟨B1, 0, none⟩)] W fun e W' => (∃ v, e = .returned v) ∧ (J L.length W' ∨ ∃ k, k < L.length ∧ Jx k W') := by
  have HY := Lib.hid hY
  have HJ := Lib.hid hJ
  have HL := Lib.hid hL
  have hlen := hx.len
  have hcap := hx.cap
  clear hY hJ hL
  refine callsIn_of_wp Try.func55 rfl trivial ?_ rfl
  simp only [Try.ntmps55, List.size_toArray, List.length_cons, List.length_nil, Nat.reduceAdd, Nat.reduceSub, Array.replicate_succ, Array.replicate_zero, List.push_toArray, List.append_toArray, List.nil_append, List.cons_append]
  gi_wp2_with fail
  gi_loopw [3] (fun i wr => ∃ k a f : Nat, k ≤ L.length ∧ a ≤ n ∧ n ≤ a + f ∧ L.drop k = fds xs f a ∧ i = .int .i64 (a : Int) ∧ J k wr ∧ Keeps n0 B1 W wr) (fun i _ => n - (intOf i).toNat)
  case atStart => exact ⟨0, 48, n, Nat.zero_le _, hn.1, by omega, by rw [HL.out]; rfl, rfl, h0, Keeps.refl _ _ _⟩
  case round =>
    obtain ⟨k, a, f, hk, ha, hf, hd, rfl, hJk, hB⟩ := hrel
    have hb1 : wr.cell? ⟨B1, 0, none⟩ = some (.slice A n c) := (cell_of_block hB.one).trans hc1
    have s1 : wrap64 ((n : Int) - (a : Int)) = ((n - a : Nat) : Int) := w64_sub ha (by omega)
    by_cases h20 : n - a ≤ 20
    · have hD : L.drop k = [] := by
        rw [hd]
        cases f with
        | zero => rfl
        | succ f => unfold fds; rw [if_pos (by rw [hlen]; exact h20)]
      have hkl := drop_nil hD hk
      have q1 : (n : Int) - (a : Int) ≤ 20 := by omega
      have hf : J L.length wr := by rw [← hkl]; exact hJk
      clear h20 s1
      gi_wp2
      go_end0
      exact ⟨⟨_, rfl⟩, .inl hf⟩
    · have q1 : (20 : Int) < (n : Int) - (a : Int) := by omega
      have hs : ∀ W, (Instr.slice 52 (.slice A n c) (some (.int .i64 ((a : Int) + 2))) (some (.int .i64 ((a : Int) + 4))) none).run Try.prog W = .ok (.slice (pa A c (a + 2)) 2 (c - (a + 2))) W := fun W => by
        have := sl_both A n c (a + 2) (a + 4) .i64 .i64 (by omega) (by omega) W
        rw [show a + 4 - (a + 2) = 2 by omega] at this
        exact this
      have hs' : ∀ W, (Instr.sliceAt 52 (.slice A n c) (some (.int .i64 ((a : Int) + 2))) (some (.int .i64 ((a : Int) + 4))) none).run Try.prog W = .ok (.slice (pa A c (a + 2)) 2 (c - (a + 2))) W := fun W => (sl_at _ _ _ _ _ W).trans (hs W)
      have hxw := hx.below hB.low
      have HC := Lib.hid (hxw.number (W := wr) (a + 2) 2 (by omega) (by omega) fun ad e => rfl)
      have hsl : nm xs (a + 2) 2 < 65536 := Nat.lt_of_lt_of_le (num_lt _ (fun x hx => hxw.lim x (List.mem_of_mem_drop (List.mem_of_mem_take hx)))) (Nat.le_trans (Nat.pow_le_pow_right (by omega) (by rw [List.length_take]; omega)) (by decide : 256 ^ 2 ≤ 65536))
      obtain ⟨f, rfl⟩ : ∃ g, f = g + 1 := ⟨f - 1, by omega⟩
      have HD := Lib.hid (show L.drop k = _ from hd.trans (by unfold fds; rw [if_neg (by rw [hlen]; exact h20), hlen]))
      generalize nm xs (a + 2) 2 = s at *
      generalize pa A c (a + 2) = A2 at *
      generalize c - (a + 2) = c2 at *
      have hw : IntKind.i64.wrap (s : Int) = (s : Int) := by rw [IntKind.wrap_i64]; omega
      have HB := Lib.hid hB
      have r4 := rem4 s hsl
      have HS := Lib.hid hsl
      obtain ⟨m, hm⟩ : ∃ m, m = s % 4 := ⟨_, rfl⟩
      rw [← hm] at r4
      clear hd h20 s1 hB hxw hsl
      by_cases hbad : badB n a s = true
      · have hD := HD.out
        rw [if_pos hbad] at hD
        obtain ⟨hk1, hk2, hk3⟩ := drop_cons hD
        have HDn := Lib.hid (show k < L.length ∧ k + 1 = L.length from ⟨hk1, drop_nil hk3 hk1⟩)
        have HY0 := Lib.hid (show YieldAt Fence.wide 7 Try.prog l #[.int .i64 (a : Int), .slice none 0 0] wr _ from HY.out k (a, 0) wr hJk hk2)
        have hb3 : m ≠ 0 ∨ (m = 0 ∧ s < 24) ∨ (m = 0 ∧ 24 ≤ s ∧ n - a < s) := by
          unfold badB at hbad
          rw [← hm] at hbad
          simp only [Bool.or_eq_true, Bool.not_eq_true', beq_eq_false_iff_ne, decide_eq_true_eq] at hbad
          omega
        clear hD hk1 hk2 hk3 hbad HD hs' hm
        rcases hb3 with h4 | ⟨h4, h5⟩ | ⟨h4, h5, h6⟩
        · have m1 : ((m : Int) != 0) = true := by simpa using h4
          have m2 : ((m : Int) == 0) = false := by simpa using h4
          have m3 : (m = 0) = False := by simp only [h4]
          gi_wp2_with fail
          refine ⟨trivial, (callsIn_wide.2 HC.out).mono ?_⟩
          rintro e w1 ⟨rfl, hw1⟩
          subst w1
          obtain ⟨fn, tmps, assign, body, hy', hR⟩ := HY0.out
          gi_wp2
          refine hR.mono ?_
          rintro e w2 (⟨rfl, hJ2, hB2⟩ | ⟨rfl, hX2⟩)
          · gi_wp2
            (try simp only [Exit.inBlock, Exit.then])
            refine bodyPost_ret (results_none rfl _ _ _) rfl ?_
            exact ⟨⟨_, rfl⟩, .inl (by rw [← HDn.out.2]; exact hJ2)⟩
          · gi_wp2
            (try simp only [Exit.inBlock, Exit.then])
            refine bodyPost_ret (results_none rfl _ _ _) rfl ?_
            exact ⟨⟨_, rfl⟩, .inr ⟨k, HDn.out.1, hX2⟩⟩
        · subst h4
          have m1 : (s : Int) < 24 := by omega
          gi_wp2_with fail
          refine ⟨trivial, (callsIn_wide.2 HC.out).mono ?_⟩
          rintro e w1 ⟨rfl, hw1⟩
          subst w1
          obtain ⟨fn, tmps, assign, body, hy', hR⟩ := HY0.out
          gi_wp2
          refine hR.mono ?_
          rintro e w2 (⟨rfl, hJ2, hB2⟩ | ⟨rfl, hX2⟩)
          · gi_wp2
            (try simp only [Exit.inBlock, Exit.then])
            refine bodyPost_ret (results_none rfl _ _ _) rfl ?_
            exact ⟨⟨_, rfl⟩, .inl (by rw [← HDn.out.2]; exact hJ2)⟩
          · gi_wp2
            (try simp only [Exit.inBlock, Exit.then])
            refine bodyPost_ret (results_none rfl _ _ _) rfl ?_
            exact ⟨⟨_, rfl⟩, .inr ⟨k, HDn.out.1, hX2⟩⟩
        · subst h4
          have m1 : (24 : Int) ≤ (s : Int) := by omega
          have m2 : (n : Int) - (a : Int) < (s : Int) := by omega
          gi_wp2_with fail
          refine ⟨trivial, (callsIn_wide.2 HC.out).mono ?_⟩
          rintro e w1 ⟨rfl, hw1⟩
          subst w1
          obtain ⟨fn, tmps, assign, body, hy', hR⟩ := HY0.out
          gi_wp2
          refine hR.mono ?_
          rintro e w2 (⟨rfl, hJ2, hB2⟩ | ⟨rfl, hX2⟩)
          · gi_wp2
            (try simp only [Exit.inBlock, Exit.then])
            refine bodyPost_ret (results_none rfl _ _ _) rfl ?_
            exact ⟨⟨_, rfl⟩, .inl (by rw [← HDn.out.2]; exact hJ2)⟩
          · gi_wp2
            (try simp only [Exit.inBlock, Exit.then])
            refine bodyPost_ret (results_none rfl _ _ _) rfl ?_
            exact ⟨⟨_, rfl⟩, .inr ⟨k, HDn.out.1, hX2⟩⟩
      · have hD := HD.out
        rw [if_neg hbad] at hD
        obtain ⟨hk1, hk2, hk3⟩ := drop_cons hD
        have hb3 : m = 0 ∧ 24 ≤ s ∧ s ≤ n - a := by
          unfold badB at hbad
          rw [← hm] at hbad
          simp only [Bool.or_eq_true, Bool.not_eq_true', beq_eq_false_iff_ne, decide_eq_true_eq] at hbad
          omega
        obtain ⟨h4, h5, h6⟩ := hb3
        have HY0 := Lib.hid (show YieldAt Fence.wide 7 Try.prog l #[.int .i64 (a : Int), .slice (pa A c a) s (c - a)] wr _ from by
          have := HY.out k (a, s) wr hJk hk2
          rw [show fdV A c (a, s) = #[.int .i64 (a : Int), .slice (pa A c a) s (c - a)] by unfold fdV; rw [if_neg (show ¬ (s = 0) by omega)]] at this
          exact this)
        have g1 : ∀ W, (Instr.slice 52 (.slice A n c) (some (.int .i64 (a : Int))) (some (.int .i64 ((a : Int) + (s : Int)))) none).run Try.prog W = .ok (.slice (pa A c a) s (c - a)) W := fun W => by
          have := sl_both A n c a (a + s) .i64 .i64 (by omega) (by omega) W
          rw [show a + s - a = s by omega] at this
          exact this
        generalize pa A c a = A3 at *
        generalize c - a = c3 at *
        have HDn := Lib.hid (show k + 1 ≤ L.length ∧ a + s ≤ n ∧ n ≤ a + s + f ∧ L.drop (k + 1) = fds xs f (a + s) from ⟨hk1, by omega, by omega, hk3⟩)
        have HK1 := Lib.hid hk1
        subst h4
        have m1 : (24 : Int) ≤ (s : Int) := by omega
        have m2 : (s : Int) ≤ (n : Int) - (a : Int) := by omega
        have HM := Lib.hid (show a + s ≤ n ∧ 24 ≤ s from ⟨by omega, h5⟩)
        clear hD hk1 hk2 hk3 hbad HD hs' hm h5 h6
        gi_wp2_with fail
        refine ⟨trivial, (callsIn_wide.2 HC.out).mono ?_⟩
        rintro e w1 ⟨rfl, hw1⟩
        subst w1
        obtain ⟨fn, tmps, assign, body, hy', hR⟩ := HY0.out
        gi_wp2
        refine hR.mono ?_
        rintro e w2 (⟨rfl, hJ2, hB2⟩ | ⟨rfl, hX2⟩)
        · gi_wp2
          go_roundw
          case rel => exact ⟨k + 1, a + s, f, HDn.out.1, HDn.out.2.1, HDn.out.2.2.1, HDn.out.2.2.2, by congr 1, hJ2, HB.out.trans hB2⟩
          case measure => have := HM.out; simp [intOf]; omega
        · gi_wp2
          (try simp only [Exit.inBlock, Exit.then])
          refine bodyPost_ret (results_none rfl _ _ _) rfl ?_
          exact ⟨⟨_, rfl⟩, .inr ⟨k, HK1.out, hX2⟩⟩
end Go.Proofs.Ytompggkdjbkjjaa.Wi
