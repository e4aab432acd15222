/- FilterLeast: the walk. -/
import Derived.Test.YtofieoklcegddaaG3
import Derived.Test.YtofieoklcegddaaG0
import Derived.Laws.StructEq
namespace Go.Proofs.Ytofieoklcegddaa
open Go.RowKit Go.Sort Go.Shelf Go.Lib
set_option linter.unusedVariables false
set_option linter.unusedSimpArgs false
set_option maxRecDepth 100000

def eqS (x y : S4) : Bool := x.o == y.o && x.d == y.d && x.p == y.p && x.a == y.a
theorem eqS_iff (x y : S4) : eqS x y = true ↔ x = y := by
  obtain ⟨o, d, p, a⟩ := x
  obtain ⟨o', d', p', a'⟩ := y
  simp [eqS, and_assoc]
theorem equalS (x y : S4) (w : World) : (Op.equalIn 10000 23 (.agg #[.int .i64 x.o, .int .i64 x.d, .int .i64 x.p, .int .i64 x.a]) (.agg #[.int .i64 y.o, .int .i64 y.d, .int .i64 y.p, .int .i64 y.a])).run Try.prog w = .ok (eqS x y) w := by
  have u2 := Try.underlying2
  have a2 := Try.isAgg2
  have z2 := Try.sizeOf2
  have hS : Try.prog.underlying 23 = some (.struct (Try.prog.fieldsOf 23)) := by kernel_rfl
  have hp : Try.prog.stoodInHeld 23 = false := by kernel_rfl
  rw [show (10000 : Nat) = 9999 + 1 from rfl, run_equalIn_agg w 9999 23 _ _ hS hp]
  simp only [Program.fieldsOf, Try.underlying23]
  unfold eqS
  go_simp
  by_cases h1 : x.o = y.o <;> by_cases h2 : x.d = y.d <;> by_cases h3 : x.p = y.p <;> by_cases h4 : x.a = y.a <;> simp [h1, h2, h3, h4]
theorem guardS : Try.prog.eqGuardType Try.prog.depth 23 = false := by kernel_rfl
theorem run_guardS (op : BinOp) (a b : Operand) (xs ys : Array Value) (w : World) : (eqGuard op 23 a b (.agg xs) (.agg ys)).run Try.prog w = .ok () w := run_eqGuard_agg w op 23 a b xs ys guardS
/-- is y among the first m? -/
def anyS (xs : List S4) (m : Nat) (y : S4) : Bool := (xs.take m).any fun x => eqS x y
theorem anyS_next {xs : List S4} {m : Nat} {x : S4} (h : xs[m]? = some x) (y : S4) : anyS xs (m + 1) y = (anyS xs m y || eqS x y) := by
  unfold anyS
  rw [List.take_add_one, h, List.any_append]
  simp
theorem anyS_mem {xs : List S4} {y : S4} (h : y ∈ xs) : anyS xs xs.length y = true := by
  unfold anyS
  rw [List.take_length, List.any_eq_true]
  exact ⟨y, h, (eqS_iff y y).2 rfl⟩
set_option maxHeartbeats 4000000 in
theorem least_any {w : World} {A : Option Addr} {n c : Nat} {xs : List S4} (now : Int) (h : Rd w w.heap.size A n xs) (hmx : n ≤ 9223372036854775807) :
    Calls Try.prog 5 #[.slice A n c, .int .i64 now] w (Yes w) := by
  have HR := Lib.hid h
  have HL := Lib.hid h.1
  have HFi := Lib.hid (filled_any (c := c) h (Nat.le_refl _))
  clear h
  go_enter Try.func5, Try.ntmps5
  go_wp2_with fail
  refine HFi.out.mono ?_
  rintro e w1 ⟨rfl, hf1, hb1⟩
  obtain ⟨L, hL⟩ : ∃ L, L = fillL [] (xs.take 100) := ⟨_, rfl⟩
  rw [← hL] at hf1
  have HRo := Lib.hid (row_any now (.inr ⟨w.heap.size, rfl, hf1⟩ : Pf w1 (some ⟨w.heap.size, 0, none⟩) L))
  have HF1 := Lib.hid hf1
  have HB1 := Lib.hid hb1
  have HLm := Lib.hid (show ∀ s ∈ L, s ∈ xs from fun s hs => by
    rw [hL] at hs
    rcases fillL_mem hs with h | ⟨h, _⟩
    · cases h
    · exact List.mem_of_mem_take h)
  clear hL hf1 hb1 HFi
  go_wp2_with fail
  refine HRo.out.mono ?_
  rintro e w2 ⟨A2, c2, rfl, hr2, hc2, hb2⟩
  obtain ⟨M, hM⟩ : ∃ M, M = sorted now L := ⟨_, rfl⟩
  have hsf := sorted_facts now L
  rw [← hM] at hr2 hsf
  have HM := Lib.hid hM
  have HSo := Lib.hid hsf
  have HF2 := Lib.hid (HF1.out.below hb2 HF1.out.lt)
  have HB2 := Lib.hid (HB1.out.trans (hb2.mono HB1.out.size))
  have HR2 := Lib.hid hr2
  have HX2 := Lib.hid ((HR.out.below HB2.out (Nat.le_refl _)).le HB2.out.size)
  have h8 : L.length ≤ 8 := (show Pf w1 (some ⟨w.heap.size, 0, none⟩) L from .inr ⟨w.heap.size, rfl, HF1.out⟩).ct
  obtain ⟨n2, hn2⟩ : ∃ n2, n2 = L.length := ⟨_, rfl⟩
  rw [← hn2] at h8 HR2 hc2 ⊢
  have HN2 := Lib.hid hn2
  clear hM hsf hr2 hb2 hn2 HRo
  go_wp2_with fail
  go_loopw [7] (fun i wr => ∃ j : Nat, j ≤ n2 ∧ i = .int .i64 (j : Int) ∧ RowKit.Below w2.heap.size w2 wr) (fun i _ => (n2 - (match i with | .int _ z => z.toNat | _ => 0)))
  case atStart => exact ⟨0, by omega, rfl, Below.refl _ _⟩
  case round =>
    obtain ⟨j, hjn, rfl, hb⟩ := hrel
    have HB := Lib.hid hb
    clear hb
    by_cases hj : j < n2
    · have e1 : decide ((j : Int) < (n2 : Int)) = true := by simp; omega
      obtain ⟨y, hy⟩ : ∃ y, M[j]? = some y := ⟨_, List.getElem?_eq_getElem (by have := HSo.out.1; have := HN2.out; omega)⟩
      obtain ⟨g2, off2, rfl, hg2, hc2'⟩ := HR2.out.cells (by omega)
      have HCy := Lib.hid (fun w' b => hc2' w' b j y hy)
      have HCy1 := Lib.hid (fun (y' : S4) (hy' : M[j - 1]? = some y') w' b => hc2' w' b (j - 1) y' hy')
      have HY := Lib.hid hy
      clear hc2' hy
      go_wp2_with fail
      go_loopw [9, 8] (fun k b wq => ∃ m : Nat, m ≤ n ∧ k = .int .i64 (m : Int) ∧ b = .bool (anyS xs m y) ∧ RowKit.Below w2.heap.size w2 wq) (fun k _ _ => (n - (match k with | .int _ z => z.toNat | _ => 0)))
      case atStart => exact ⟨0, by omega, rfl, rfl, HB.out⟩
      case round =>
        obtain ⟨m, hmn, rfl, rfl, hb⟩ := hrel
        have HBq := Lib.hid hb
        clear hb
        by_cases hm : m < n
        · have e2 : decide ((m : Int) < (n : Int)) = true := by simp; omega
          obtain ⟨x, hx⟩ : ∃ x, xs[m]? = some x := ⟨_, List.getElem?_eq_getElem (by have := HL.out; omega)⟩
          obtain ⟨g1, off1, rfl, hg1, hc1⟩ := HX2.out.cells (by omega)
          have HAn := Lib.hid (anyS_next hx y)
          obtain ⟨c0, c1, c2', c3⟩ := hc1 _ HBq.out m x hx
          obtain ⟨d0, d1, d2, d3⟩ := HCy.out _ HBq.out
          clear hc1 hx
          cases hin : anyS xs m y
          · rw [hin, Bool.false_or] at HAn
            have HQ := fun W => equalS x y W
            have HG := run_guardS
            go_upto_region 10 with fail
            go_quiet (fail)
            clear HQ HG
            go_wp2_with fail
            exact ⟨⟨m + 1, by omega, rfl, by rw [HAn.out], ⟨HBq.out.os, HBq.out.tape, HBq.out.output, HBq.out.size, HBq.out.block⟩⟩, by show n - ((m : Int) + 1).toNat < n - (m : Int).toNat; omega⟩
          · rw [hin, Bool.true_or] at HAn
            go_upto_region 10 with fail
            go_quiet (fail)
            go_wp2_with fail
            exact ⟨⟨m + 1, by omega, rfl, by rw [HAn.out], ⟨HBq.out.os, HBq.out.tape, HBq.out.output, HBq.out.size, HBq.out.block⟩⟩, by show n - ((m : Int) + 1).toNat < n - (m : Int).toNat; omega⟩
        · have e2 : ((m : Int) < (n : Int)) = False := by simp only [eq_iff_iff, iff_false]; omega
          have hmn' : m = n := by omega
          have hall : anyS xs m y = true := by
            rw [hmn', ← HL.out]
            exact anyS_mem (HLm.out y (HSo.out.2.1.mem_iff.1 (List.mem_of_getElem? HY.out)))
          rw [hall]
          clear hall
          obtain ⟨d0, d1, d2, d3⟩ := HCy.out _ HBq.out
          by_cases hj0 : j = 0
          · subst hj0
            go_upto_region 11 with fail
            go_quiet (fail)
            go_wp2_with fail
            exact ⟨⟨1, by omega, rfl, ⟨HBq.out.os, HBq.out.tape, HBq.out.output, HBq.out.size, HBq.out.block⟩⟩, by show n2 - (1 : Int).toNat < n2 - (0 : Int).toNat; omega⟩
          · have e3 : (0 : Int) < (j : Int) := by omega
            have e4 : 0 < j := by omega
            obtain ⟨y', hy'⟩ : ∃ y', M[j - 1]? = some y' := ⟨_, List.getElem?_eq_getElem (by have := HSo.out.1; have := HN2.out; omega)⟩
            have hle := HSo.out.2.2 (j - 1) j y' y (by omega) hy' HY.out
            obtain ⟨k, hk⟩ : ∃ k, k = j - 1 := ⟨_, rfl⟩
            obtain ⟨f0, f1, f2, f3⟩ := HCy1.out y' hy' _ HBq.out
            rw [← hk] at f0 f1 f2 f3
            have hkw : IntKind.i64.wrap ((j : Int) - 1) = (k : Int) := by rw [wr_i64 (by omega) (by omega)]; omega
            have hk9 : (k : Int) < (n2 : Int) := by omega
            have hk0 : (0 : Int) ≤ (k : Int) := by omega
            have HK := Lib.hid hk
            clear hk hy'
            have HX := Lib.hid (fun w => dist_any y now w)
            have HZ := Lib.hid (fun w => dist_any y' now w)
            unfold S4.val at HX HZ
            have hnl : (S4.dist now y < S4.dist now y') = False := by simp only [eq_iff_iff, iff_false]; omega
            generalize S4.dist now y = dy at *
            generalize S4.dist now y' = dz at *
            have hlt2 := HBq.out.size
            have G := fun (a : Addr) (v : Value) (ha : a.block < w2.heap.size) (hv : wr.cell? a = some v) (N : Nat) (os : Array Obj) => cell_grown (w := wr) (a := a) (v := v) (Nat.lt_of_lt_of_le ha hlt2) hv N os
            have D0 := G _ _ hg2 d0
            have D1 := G _ _ hg2 d1
            have D2 := G _ _ hg2 d2
            have D3 := G _ _ hg2 d3
            have F0 := G _ _ hg2 f0
            have F1 := G _ _ hg2 f1
            have F2 := G _ _ hg2 f2
            have F3 := G _ _ hg2 f3
            clear G d0 d1 d2 d3 f0 f1 f2 f3
            have mixed : Try.prog.follows .mixedOrders = true := by kernel_rfl
            go_upto_region 11 with fail
            go_quiet_grown (first
              | (go_at_call 10; with_reducible exact Calls.grown_of (HX.out _))
              | (go_at_call 10; with_reducible exact Calls.grown_of (HZ.out _)))
            go_wp2_with fail
            exact ⟨⟨j + 1, by omega, rfl, HBq.out.trans (below_of_grow HBq.out.size rfl)⟩, by show n2 - ((j : Int) + 1).toNat < n2 - (j : Int).toNat; omega⟩
    · have e1 : ((j : Int) < (n2 : Int)) = False := by simp only [eq_iff_iff, iff_false]; omega
      clear hj hjn
      have HBw := Lib.hid (bthen HB2.out HB.out (by exact Nat.le_refl _))
      have HFw := Lib.hid (HF2.out.below HB.out HF2.out.lt)
      have HBe := Lib.hid (best_any now (.inr ⟨w.heap.size, rfl, HFw.out⟩ : Pf wr (some ⟨w.heap.size, 0, none⟩) L))
      rw [← HM.out] at HBe
      go_wp2_with fail
      refine HBe.out.mono ?_
      rintro e w3 ⟨rfl, hb3⟩
      have HF3 := Lib.hid (HFw.out.below hb3 HFw.out.lt)
      have HB3 := Lib.hid (bthen HBw.out hb3 (Nat.le_refl _))
      have HC3 := Lib.hid (bthen HB.out hb3 (Nat.le_refl _))
      clear hb3 HBe HBw HFw HB
      by_cases hLe : L = []
      · have hn0 : n2 = 0 := by rw [HN2.out, hLe]; rfl
        have hM0 : M = [] := List.length_eq_zero_iff.1 (by rw [HSo.out.1, hLe]; rfl)
        rw [if_pos hLe, hM0, show (headS []).val = .agg #[.int .i64 0, .int .i64 0, .int .i64 0, .int .i64 0] from rfl]
        have hlen : (L.length : Int) = 0 := by rw [hLe]; rfl
        subst hn0
        obtain ⟨w4, hw4⟩ : ∃ w4, w4 = w3.alloc (.cells #[.int .i64 0, .int .i64 0, .int .i64 0, .int .i64 0] 23) := ⟨_, rfl⟩
        have HB4 := Lib.hid (show RowKit.Below w.heap.size w w4 by rw [hw4]; exact HB3.out.alloc HB3.out.size _)
        have HF4 := Lib.hid (show Flt w4 w.heap.size L by rw [hw4]; exact HF3.out.below ((Below.refl _ _).alloc (Nat.le_refl _) _) HF3.out.lt)
        have HW4 := Lib.hid hw4
        clear hw4
        go_upto_region 14 with fail
        rw [← HW4.out]
        have HB44 := Lib.hid (Below.refl w4.heap.size w4)
        have HAl := Lib.hid (fun p : Bel w4.heap.size w4 => Calls.bel (Nat.le_refl _) p (alive_any p.w))
        have HLe := Lib.hid (fun p : Bel w4.heap.size w4 => Calls.bel_same p (len_any (HF4.out.below p.h HF4.out.lt)))
        rw [hlen] at HLe
        clear hM0 hLe hlen
        refine wp_region_quiet_bel HB44.out (by kernel_rfl) (by kernel_rfl) ?_
        repeat (go_big_quiet_step (first | (go_at_call 9; with_reducible exact HAl.out _) | (go_at_call 16; with_reducible exact HLe.out _)))
        refine wpQuiet_nil ?_
        intro _ hw'
        obtain ⟨⟨w5, h5⟩, hw''⟩ := hw'
        subst hw''
        have HB5 := Lib.hid (bthen HB4.out h5 (Nat.le_refl _))
        go_wp2_with fail
        go_ret
        exact ⟨rfl, HB5.out⟩
      · have hnp : 0 < n2 := by
          have := HN2.out
          rcases Nat.eq_zero_or_pos n2 with h0 | h0
          · exact absurd (List.length_eq_zero_iff.1 (by omega)) hLe
          · exact h0
        obtain ⟨s, T, hM'⟩ : ∃ s T, M = s :: T := by
          cases hM : M with
          | nil => have := HSo.out.1; have := HN2.out; rw [hM] at *; simp at *; omega
          | cons s T => exact ⟨s, T, rfl⟩
        rw [if_neg hLe, hM', show (headS (s :: T)) = s from rfl, show s.val = .agg #[.int .i64 s.o, .int .i64 s.d, .int .i64 s.p, .int .i64 s.a] from rfl]
        have hlen : (L.length : Int) = (n2 : Int) := by rw [HN2.out]
        obtain ⟨w4, hw4⟩ : ∃ w4, w4 = w3.alloc (.cells #[.int .i64 s.o, .int .i64 s.d, .int .i64 s.p, .int .i64 s.a] 23) := ⟨_, rfl⟩
        have b34 : RowKit.Below w3.heap.size w3 w4 := by rw [hw4]; exact (Below.refl _ _).alloc (Nat.le_refl _) _
        have HB4 := Lib.hid (bthen HB3.out b34 (Nat.le_refl _))
        have HF4 := Lib.hid (show Flt w4 w.heap.size L from HF3.out.below b34 HF3.out.lt)
        have hX4 : Box w4 w3.heap.size s := by rw [hw4]; exact World.alloc_heap_new w3 _
        have hC4 := bthen HC3.out b34 (Nat.le_refl _)
        have HW4 := Lib.hid hw4
        obtain ⟨g2, off2, rfl, hg2, hcl⟩ := HR2.out.cells hnp
        have hBx : ∀ p : Bel w4.heap.size w4, Box p.w w3.heap.size s := fun p => (p.h.block _ hX4.lt).trans hX4
        have hRw := fun p : Bel w4.heap.size w4 => hcl p.w (hC4.trans (p.h.mono hC4.size)) 0 s (by rw [hM']; rfl)
        have c0 := fun p => (hBx p).cells.1
        have c1 := fun p => (hBx p).cells.2.1
        have c2' := fun p => (hBx p).cells.2.2.1
        have c3 := fun p => (hBx p).cells.2.2.2
        simp only [Nat.zero_mul, Nat.add_zero] at hRw
        have d0 := fun p => (hRw p).1
        have d1 := fun p => (hRw p).2.1
        have d2 := fun p => (hRw p).2.2.1
        have d3 := fun p => (hRw p).2.2.2
        have HAl := Lib.hid (fun p : Bel w4.heap.size w4 => Calls.bel (Nat.le_refl _) p (alive_any p.w))
        have HLe := Lib.hid (fun p : Bel w4.heap.size w4 => Calls.bel_same p (len_any (HF4.out.below p.h HF4.out.lt)))
        rw [hlen] at HLe
        have hq := fun W => equalS s s W
        rw [(eqS_iff s s).2 rfl] at hq
        have hgS := run_guardS
        have hnz : ((0 : Int) < (n2 : Int)) := by omega
        have hBw4 := Lib.hid (Below.refl w4.heap.size w4)
        clear hBx hRw hcl hX4 hC4 b34 hw4 hM' hLe hlen
        go_upto_region 14 with fail
        rw [← HW4.out]
        refine wp_region_quiet_bel hBw4.out (by kernel_rfl) (by kernel_rfl) ?_
        repeat (go_big_quiet_step (first | (go_at_call 9; with_reducible exact HAl.out _) | (go_at_call 16; with_reducible exact HLe.out _)))
        refine wpQuiet_nil ?_
        intro _ hw'
        obtain ⟨⟨w5, h5⟩, hw''⟩ := hw'
        subst hw''
        have HB5 := Lib.hid (bthen HB4.out h5 (Nat.le_refl _))
        clear c0 c1 c2' c3 d0 d1 d2 d3 hq hgS
        go_wp2_with fail
        go_ret
        exact ⟨rfl, HB5.out⟩
end Go.Proofs.Ytofieoklcegddaa
