/- disc: numbers held within bounds; a state that may be. -/
import Derived.Test.YtbkcoijcoacbaaaProg
import Derived.WalkKit
import Derived.Below
import Derived.Laws.CopyOwn
import Derived.Deep.QuietTactic
import Derived.BigQuiet
import Derived.Lib.Hide
import Derived.Deep.Cut
import Derived.Deep.RegionHeld3
import Derived.RangeFuncBox
namespace Go.Proofs.Ytbkcoijcoacbaaa.Di
open Go.RowKit
set_option linter.unusedVariables false
set_option linter.unusedSimpArgs false
set_option maxRecDepth 100000

def clamp (n b : Int) : Int := max (-b) (min n b)
theorem clamp_a {n b : Int} (h : -b < if b < n then b else n) (h2 : b < n) : clamp n b = b := by unfold clamp; rw [if_pos h2] at h; omega
theorem clamp_b {n b : Int} (h : -b < if b < n then b else n) (h2 : n ≤ b) : clamp n b = n := by unfold clamp; rw [if_neg (by omega)] at h; omega
theorem clamp_c {n b : Int} (h : (if b < n then b else n) ≤ -b) : clamp n b = -b := by unfold clamp; split at h <;> omega
theorem within_any (n b : Int) (hb : 0 ≤ b) (hb2 : b ≤ 1152921504606846976) (w : World) :
    Calls Try.prog 33 #[.int .i64 n, .int .i64 b] w fun e w' => e = .returned (.int .i64 (clamp n b)) ∧ w' = w := by
  go_enter Try.func33, Try.ntmps33
  go_wp2_with fail
  all_goals go_ret
  all_goals refine ⟨?_, rfl⟩
  all_goals first | (rw [clamp_a (by assumption) (by assumption)]; rfl) | (rw [clamp_b (by assumption) (by assumption)]; rfl) | (rw [clamp_c (by assumption)]; rfl)
def inB (b n : Int) : Prop := -b ≤ n ∧ n ≤ b
instance (b n : Int) : Decidable (inB b n) := by unfold inB; exact inferInstance
theorem inB_iff (b n : Int) (hb : 0 ≤ b) : inB b n ↔ clamp n b = n := by
  unfold inB clamp
  omega
theorem isWithin_any (n b : Int) (hb : 0 ≤ b) (hb2 : b ≤ 1152921504606846976) (w : World) :
    Calls Try.prog 32 #[.int .i64 n, .int .i64 b] w fun e w' => e = .returned (.bool (decide (inB b n))) ∧ w' = w := by
  have HI := Lib.hid (show (clamp n b == n) = decide (inB b n) by rw [Bool.eq_iff_iff]; simp [inB_iff b n hb])
  go_enter Try.func32, Try.ntmps32
  go_wp2_with fail
  refine (within_any n b hb hb2 w).mono ?_
  rintro e w1 ⟨rfl, rfl⟩
  go_wp2_with fail
  go_ret
  refine ⟨?_, rfl⟩
  show Ending.returned (.bool (clamp n b == n)) = _
  rw [HI.out]
theorem isW_yes {n b : Int} (h : inB b n) (hb2 : b ≤ 1152921504606846976) (w : World) : Calls Try.prog 32 #[.int .i64 n, .int .i64 b] w fun e w' => e = .returned (.bool true) ∧ w' = w := by
  refine (isWithin_any n b (by unfold inB at h; omega) hb2 w).mono ?_
  rintro e w1 ⟨rfl, rfl⟩
  exact ⟨by rw [decide_eq_true h], rfl⟩
theorem isW_no {n b : Int} (h : ¬ inB b n) (hb : 0 ≤ b) (hb2 : b ≤ 1152921504606846976) (w : World) : Calls Try.prog 32 #[.int .i64 n, .int .i64 b] w fun e w' => e = .returned (.bool false) ∧ w' = w := by
  refine (isWithin_any n b hb hb2 w).mono ?_
  rintro e w1 ⟨rfl, rfl⟩
  exact ⟨by rw [decide_eq_false h], rfl⟩
structure Ck where
  (f l a p : Int)
  s : Bool
instance : Inhabited Ck := ⟨⟨0, 0, 0, 0, false⟩⟩
def Ck.arr (c : Ck) : Array Value := #[.int .i64 c.f, .int .i64 c.l, .int .i64 c.a, .int .i64 c.p, .bool c.s]
def Ck.val (c : Ck) : Value := .agg #[.int .i64 c.f, .int .i64 c.l, .int .i64 c.a, .int .i64 c.p, .bool c.s]
def Ck.zero : Ck := ⟨0, 0, 0, 0, false⟩
def Ck.may (c : Ck) : Prop := inB 2147483 c.f ∧ inB 1152921504606846976 c.l ∧ inB 1152921504606846976 c.a ∧ 0 ≤ c.p ∧ c.p ≤ 17
instance (c : Ck) : Decidable c.may := by unfold Ck.may; exact inferInstance
def Box (w : World) (g : Nat) (c : Ck) : Prop := w.heap[g]? = some (.cells #[.int .i64 c.f, .int .i64 c.l, .int .i64 c.a, .int .i64 c.p, .bool c.s] 45 (0, 0))
theorem Box.cells {w : World} {g : Nat} {c : Ck} (h : Box w g c) : w.cell? ⟨g, 0, none⟩ = some (.int .i64 c.f) ∧ w.cell? ⟨g, 1, none⟩ = some (.int .i64 c.l) ∧ w.cell? ⟨g, 2, none⟩ = some (.int .i64 c.a) ∧ w.cell? ⟨g, 3, none⟩ = some (.int .i64 c.p) ∧ w.cell? ⟨g, 4, none⟩ = some (.bool c.s) := by
  have h' : w.heap[g]? = _ := h
  refine ⟨?_, ?_, ?_, ?_, ?_⟩ <;> simp [World.cell?, h']
theorem Box.lt {w : World} {g : Nat} {c : Ck} (h : Box w g c) : g < w.heap.size := (Array.getElem?_eq_some_iff.1 h).1
theorem may_any (c : Ck) (w : World) :
    Calls Try.prog 31 #[c.val] w fun e w' => e = .returned (.bool (decide c.may)) ∧ w' = w.alloc (.cells #[.int .i64 c.f, .int .i64 c.l, .int .i64 c.a, .int .i64 c.p, .bool c.s] 45) := by
  obtain ⟨w1, hw1⟩ : ∃ w1, w1 = w.alloc (.cells #[.int .i64 c.f, .int .i64 c.l, .int .i64 c.a, .int .i64 c.p, .bool c.s] 45) := ⟨_, rfl⟩
  have x1 : Box w1 w.heap.size c := by rw [hw1]; exact World.alloc_heap_new w _
  obtain ⟨c0, c1, c2, c3, c4⟩ := x1.cells
  have HW := Lib.hid hw1
  clear hw1 x1
  have HM := Lib.hid (show c.may = (inB 2147483 c.f ∧ inB 1152921504606846976 c.l ∧ inB 1152921504606846976 c.a ∧ 0 ≤ c.p ∧ c.p ≤ 17) from rfl)
  unfold Ck.val
  obtain ⟨q, hq⟩ : ∃ q, q = decide c.may := ⟨_, rfl⟩
  rw [← hq]
  have HQ := Lib.hid hq
  clear hq
  go_enter Try.func31, Try.ntmps31
  go_upto_region 1 with fail
  rw [← HW.out]
  by_cases h1 : inB 2147483 c.f
  · by_cases h2 : inB 1152921504606846976 c.l
    · by_cases h3 : inB 1152921504606846976 c.a
      · by_cases h4 : 0 ≤ c.p
        · by_cases h5 : c.p ≤ 17
          · go_wp2_with ((go_at_call 32; (first | refine (isW_yes (by assumption) (by omega) _).mono ?_ | refine (isW_no (by assumption) (by omega) (by omega) _).mono ?_); rintro e w2 ⟨rfl, hw2⟩; subst hw2))
            go_ret
            exact ⟨by first | (rw [HQ.out]; simp only [HM.out]; simp [*]; done) | (rw [HQ.out, decide_eq_false (by rw [HM.out]; omega)]), by rw [HW.out]⟩
          · have h5' : (c.p ≤ 17) = False := by simp only [h5]
            go_wp2_with ((go_at_call 32; (first | refine (isW_yes (by assumption) (by omega) _).mono ?_ | refine (isW_no (by assumption) (by omega) (by omega) _).mono ?_); rintro e w2 ⟨rfl, hw2⟩; subst hw2))
            go_ret
            exact ⟨by first | (rw [HQ.out]; simp only [HM.out]; simp [*]; done) | (rw [HQ.out, decide_eq_false (by rw [HM.out]; omega)]), by rw [HW.out]⟩
        · have h4' : (0 ≤ c.p) = False := by simp only [h4]
          go_wp2_with ((go_at_call 32; (first | refine (isW_yes (by assumption) (by omega) _).mono ?_ | refine (isW_no (by assumption) (by omega) (by omega) _).mono ?_); rintro e w2 ⟨rfl, hw2⟩; subst hw2))
          go_ret
          exact ⟨by first | (rw [HQ.out]; simp only [HM.out]; simp [*]; done) | (rw [HQ.out, decide_eq_false (by rw [HM.out]; omega)]), by rw [HW.out]⟩
      · go_wp2_with ((go_at_call 32; (first | refine (isW_yes (by assumption) (by omega) _).mono ?_ | refine (isW_no (by assumption) (by omega) (by omega) _).mono ?_); rintro e w2 ⟨rfl, hw2⟩; subst hw2))
        go_ret
        exact ⟨by first | (rw [HQ.out]; simp only [HM.out]; simp [*]; done) | (rw [HQ.out, decide_eq_false (by rw [HM.out]; omega)]), by rw [HW.out]⟩
    · go_wp2_with ((go_at_call 32; (first | refine (isW_yes (by assumption) (by omega) _).mono ?_ | refine (isW_no (by assumption) (by omega) (by omega) _).mono ?_); rintro e w2 ⟨rfl, hw2⟩; subst hw2))
      go_ret
      exact ⟨by first | (rw [HQ.out]; simp only [HM.out]; simp [*]; done) | (rw [HQ.out, decide_eq_false (by rw [HM.out]; omega)]), by rw [HW.out]⟩
  · go_wp2_with ((go_at_call 32; (first | refine (isW_yes (by assumption) (by omega) _).mono ?_ | refine (isW_no (by assumption) (by omega) (by omega) _).mono ?_); rintro e w2 ⟨rfl, hw2⟩; subst hw2))
    go_ret
    exact ⟨by first | (rw [HQ.out]; simp only [HM.out]; simp [*]; done) | (rw [HQ.out, decide_eq_false (by rw [HM.out]; omega)]), by rw [HW.out]⟩
end Go.Proofs.Ytbkcoijcoacbaaa.Di
