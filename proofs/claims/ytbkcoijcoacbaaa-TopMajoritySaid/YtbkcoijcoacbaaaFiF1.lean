/- filter: numbers held within bounds; a sample that may be; its age and its distance. -/
import Derived.Test.YtbkcoijcoacbaaaProg
import Derived.WalkKit
import Derived.Below
import Derived.Laws.CopyOwn
import Derived.Deep.QuietTactic
import Derived.BigQuiet
import Derived.Lib.Hide
import Derived.Deep.Cut
import Derived.Deep.RegionHeld3
import Derived.RangeFuncBox
namespace Go.Proofs.Ytbkcoijcoacbaaa.Fi
open Go.RowKit
set_option linter.unusedVariables false
set_option linter.unusedSimpArgs false
set_option maxRecDepth 100000

def clamp (n b : Int) : Int := max (-b) (min n b)
theorem clamp_a {n b : Int} (h : -b < if b < n then b else n) (h2 : b < n) : clamp n b = b := by unfold clamp; rw [if_pos h2] at h; omega
theorem clamp_b {n b : Int} (h : -b < if b < n then b else n) (h2 : n ≤ b) : clamp n b = n := by unfold clamp; rw [if_neg (by omega)] at h; omega
theorem clamp_c {n b : Int} (h : (if b < n then b else n) ≤ -b) : clamp n b = -b := by unfold clamp; split at h <;> omega
theorem within_any (n b : Int) (hb : 0 ≤ b) (hb2 : b ≤ 1152921504606846976) (w : World) :
    Calls Try.prog 61 #[.int .i64 n, .int .i64 b] w fun e w' => e = .returned (.int .i64 (clamp n b)) ∧ w' = w := by
  go_enter Try.func61, Try.ntmps61
  go_wp2_with fail
  all_goals go_ret
  all_goals refine ⟨?_, rfl⟩
  all_goals first | (rw [clamp_a (by assumption) (by assumption)]; rfl) | (rw [clamp_b (by assumption) (by assumption)]; rfl) | (rw [clamp_c (by assumption)]; rfl)
def inB (n : Int) : Prop := -1152921504606846976 ≤ n ∧ n ≤ 1152921504606846976
instance (n : Int) : Decidable (inB n) := by unfold inB; exact inferInstance
theorem inB_iff (n : Int) : inB n ↔ clamp n 1152921504606846976 = n := by
  unfold inB clamp
  omega
theorem isWithin_any (n : Int) (w : World) :
    Calls Try.prog 43 #[.int .i64 n] w fun e w' => e = .returned (.bool (decide (inB n))) ∧ w' = w := by
  have HI := Lib.hid (show (clamp n 1152921504606846976 == n) = decide (inB n) by rw [Bool.eq_iff_iff]; simp [inB_iff n])
  go_enter Try.func43, Try.ntmps43
  go_wp2_with fail
  refine (within_any n _ (by omega) (by omega) w).mono ?_
  rintro e w1 ⟨rfl, rfl⟩
  go_wp2_with fail
  go_ret
  refine ⟨?_, rfl⟩
  show Ending.returned (.bool (clamp n 1152921504606846976 == n)) = _
  rw [HI.out]
theorem isW_yes {n : Int} (h : inB n) (w : World) : Calls Try.prog 43 #[.int .i64 n] w fun e w' => e = .returned (.bool true) ∧ w' = w := by
  refine (isWithin_any n w).mono ?_
  rintro e w1 ⟨rfl, rfl⟩
  exact ⟨by rw [decide_eq_true h], rfl⟩
theorem isW_no {n : Int} (h : ¬ inB n) (w : World) : Calls Try.prog 43 #[.int .i64 n] w fun e w' => e = .returned (.bool false) ∧ w' = w := by
  refine (isWithin_any n w).mono ?_
  rintro e w1 ⟨rfl, rfl⟩
  exact ⟨by rw [decide_eq_false h], rfl⟩
structure S4 where
  (o d p a : Int)
instance : Inhabited S4 := ⟨⟨0, 0, 0, 0⟩⟩
def S4.cs (s : S4) : List Value := [.int .i64 s.o, .int .i64 s.d, .int .i64 s.p, .int .i64 s.a]
def S4.val (s : S4) : Value := .agg #[.int .i64 s.o, .int .i64 s.d, .int .i64 s.p, .int .i64 s.a]
def S4.may (s : S4) : Prop := inB s.o ∧ inB s.a ∧ inB s.d ∧ 0 ≤ s.d ∧ inB s.p ∧ 0 ≤ s.p
instance (s : S4) : Decidable s.may := by unfold S4.may; exact inferInstance
/-- a sample's cells in a block of their own -/
def Box (w : World) (g : Nat) (s : S4) : Prop := w.heap[g]? = some (.cells #[.int .i64 s.o, .int .i64 s.d, .int .i64 s.p, .int .i64 s.a] 34 (0, 0))
theorem Box.cells {w : World} {g : Nat} {s : S4} (h : Box w g s) : w.cell? ⟨g, 0, none⟩ = some (.int .i64 s.o) ∧ w.cell? ⟨g, 1, none⟩ = some (.int .i64 s.d) ∧ w.cell? ⟨g, 2, none⟩ = some (.int .i64 s.p) ∧ w.cell? ⟨g, 3, none⟩ = some (.int .i64 s.a) := by
  have h' : w.heap[g]? = _ := h
  refine ⟨?_, ?_, ?_, ?_⟩ <;> simp [World.cell?, h']
theorem Box.lt {w : World} {g : Nat} {s : S4} (h : Box w g s) : g < w.heap.size := (Array.getElem?_eq_some_iff.1 h).1
theorem may_any (s : S4) (w : World) :
    Calls Try.prog 24 #[s.val] w fun e w' => e = .returned (.bool (decide s.may)) ∧ w' = w.alloc (.cells #[.int .i64 s.o, .int .i64 s.d, .int .i64 s.p, .int .i64 s.a] 34) := by
  obtain ⟨w1, hw1⟩ : ∃ w1, w1 = w.alloc (.cells #[.int .i64 s.o, .int .i64 s.d, .int .i64 s.p, .int .i64 s.a] 34) := ⟨_, rfl⟩
  have x1 : Box w1 w.heap.size s := by rw [hw1]; exact World.alloc_heap_new w _
  obtain ⟨c0, c1, c2, c3⟩ := x1.cells
  have HW := Lib.hid hw1
  clear hw1 x1
  have HM := Lib.hid (show s.may = (inB s.o ∧ inB s.a ∧ inB s.d ∧ 0 ≤ s.d ∧ inB s.p ∧ 0 ≤ s.p) from rfl)
  unfold S4.val
  obtain ⟨q, hq⟩ : ∃ q, q = decide s.may := ⟨_, rfl⟩
  rw [← hq]
  have HQ := Lib.hid hq
  clear hq
  go_enter Try.func24, Try.ntmps24
  go_upto_region 1 with fail
  rw [← HW.out]
  by_cases h1 : inB s.o
  · by_cases h2 : inB s.a
    · by_cases h3 : inB s.d
      · by_cases h4 : 0 ≤ s.d
        · by_cases h5 : inB s.p
          · by_cases h6 : 0 ≤ s.p
            · go_wp2_with ((go_at_call 43; (first | refine (isW_yes (by assumption) _).mono ?_ | refine (isW_no (by assumption) _).mono ?_); rintro e w2 ⟨rfl, hw2⟩; subst hw2))
              go_ret
              exact ⟨by first | (rw [HQ.out]; simp only [HM.out]; simp [*]; done) | (rw [HQ.out, decide_eq_false (by rw [HM.out]; omega)]), by rw [HW.out]⟩
            · have h6' : (0 ≤ s.p) = False := by simp only [h6]
              go_wp2_with ((go_at_call 43; (first | refine (isW_yes (by assumption) _).mono ?_ | refine (isW_no (by assumption) _).mono ?_); rintro e w2 ⟨rfl, hw2⟩; subst hw2))
              go_ret
              exact ⟨by first | (rw [HQ.out]; simp only [HM.out]; simp [*]; done) | (rw [HQ.out, decide_eq_false (by rw [HM.out]; omega)]), by rw [HW.out]⟩
          · go_wp2_with ((go_at_call 43; (first | refine (isW_yes (by assumption) _).mono ?_ | refine (isW_no (by assumption) _).mono ?_); rintro e w2 ⟨rfl, hw2⟩; subst hw2))
            go_ret
            exact ⟨by first | (rw [HQ.out]; simp only [HM.out]; simp [*]; done) | (rw [HQ.out, decide_eq_false (by rw [HM.out]; omega)]), by rw [HW.out]⟩
        · have h4' : (0 ≤ s.d) = False := by simp only [h4]
          go_wp2_with ((go_at_call 43; (first | refine (isW_yes (by assumption) _).mono ?_ | refine (isW_no (by assumption) _).mono ?_); rintro e w2 ⟨rfl, hw2⟩; subst hw2))
          go_ret
          exact ⟨by first | (rw [HQ.out]; simp only [HM.out]; simp [*]; done) | (rw [HQ.out, decide_eq_false (by rw [HM.out]; omega)]), by rw [HW.out]⟩
      · go_wp2_with ((go_at_call 43; (first | refine (isW_yes (by assumption) _).mono ?_ | refine (isW_no (by assumption) _).mono ?_); rintro e w2 ⟨rfl, hw2⟩; subst hw2))
        go_ret
        exact ⟨by first | (rw [HQ.out]; simp only [HM.out]; simp [*]; done) | (rw [HQ.out, decide_eq_false (by rw [HM.out]; omega)]), by rw [HW.out]⟩
    · go_wp2_with ((go_at_call 43; (first | refine (isW_yes (by assumption) _).mono ?_ | refine (isW_no (by assumption) _).mono ?_); rintro e w2 ⟨rfl, hw2⟩; subst hw2))
      go_ret
      exact ⟨by first | (rw [HQ.out]; simp only [HM.out]; simp [*]; done) | (rw [HQ.out, decide_eq_false (by rw [HM.out]; omega)]), by rw [HW.out]⟩
  · go_wp2_with ((go_at_call 43; (first | refine (isW_yes (by assumption) _).mono ?_ | refine (isW_no (by assumption) _).mono ?_); rintro e w2 ⟨rfl, hw2⟩; subst hw2))
    go_ret
    exact ⟨by first | (rw [HQ.out]; simp only [HM.out]; simp [*]; done) | (rw [HQ.out, decide_eq_false (by rw [HM.out]; omega)]), by rw [HW.out]⟩
end Go.Proofs.Ytbkcoijcoacbaaa.Fi
