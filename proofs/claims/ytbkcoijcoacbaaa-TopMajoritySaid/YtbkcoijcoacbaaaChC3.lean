/- choose: how ends are held against each other. -/
import Derived.Test.YtbkcoijcoacbaaaChC2
import Derived.Shelf.SlSortCmp.InsertionK
namespace Go.Proofs.Ytbkcoijcoacbaaa.Ch
open Go.RowKit Go.Sort Go.Shelf Go.Lib
set_option linter.unusedVariables false
set_option linter.unusedSimpArgs false
set_option maxRecDepth 100000
theorem isNaN_any (n : Int) (w : World) : Calls Try.prog 64 #[.int .i64 n] w fun e w' => e = .returned (.bool false) ∧ w' = w := by
  go_enter Try.func64, Try.ntmps64
  go_wp2_with fail
  go_ret
  exact ⟨rfl, rfl⟩
theorem isNaN2_any (n : Int) (w : World) : Calls Try.prog 68 #[.int .i64 n] w fun e w' => e = .returned (.bool false) ∧ w' = w := by
  go_enter Try.func68, Try.ntmps68
  go_wp2_with fail
  go_ret
  exact ⟨rfl, rfl⟩
def cmpI (x y : Int) : Int := if x < y then -1 else if y < x then 1 else 0
theorem compare_any (x y : Int) (w : World) : Calls Try.prog 47 #[.int .i64 x, .int .i64 y] w fun e w' => e = .returned (.int .i64 (cmpI x y)) ∧ w' = w := by
  obtain ⟨r, hr⟩ : ∃ r, r = cmpI x y := ⟨_, rfl⟩
  rw [← hr]
  unfold cmpI at hr
  rcases Int.lt_trichotomy x y with h | h | h
  · rw [if_pos h] at hr
    subst hr
    go_enter Try.func47, Try.ntmps47
    go_wp2_with (go_at_call 64; refine (isNaN_any _ _).mono ?_; rintro e w2 ⟨rfl, rfl⟩)
    all_goals go_ret
    all_goals exact ⟨rfl, rfl⟩
  · rw [if_neg (by omega), if_neg (by omega)] at hr
    subst hr
    subst h
    go_enter Try.func47, Try.ntmps47
    go_wp2_with (go_at_call 64; refine (isNaN_any _ _).mono ?_; rintro e w2 ⟨rfl, rfl⟩)
    all_goals go_ret
    all_goals exact ⟨rfl, rfl⟩
  · rw [if_neg (by omega), if_pos h] at hr
    subst hr
    have h2 : (x < y) = False := by simp only [eq_iff_iff, iff_false]; omega
    go_enter Try.func47, Try.ntmps47
    go_wp2_with (go_at_call 64; refine (isNaN_any _ _).mono ?_; rintro e w2 ⟨rfl, rfl⟩)
    all_goals go_ret
    all_goals exact ⟨rfl, rfl⟩
theorem compare2_any (x y : Int) (w : World) : Calls Try.prog 53 #[.int .i64 x, .int .i64 y] w fun e w' => e = .returned (.int .i64 (cmpI x y)) ∧ w' = w := by
  obtain ⟨r, hr⟩ : ∃ r, r = cmpI x y := ⟨_, rfl⟩
  rw [← hr]
  unfold cmpI at hr
  rcases Int.lt_trichotomy x y with h | h | h
  · rw [if_pos h] at hr
    subst hr
    go_enter Try.func53, Try.ntmps53
    go_wp2_with (go_at_call 68; refine (isNaN2_any _ _).mono ?_; rintro e w2 ⟨rfl, rfl⟩)
    all_goals go_ret
    all_goals exact ⟨rfl, rfl⟩
  · rw [if_neg (by omega), if_neg (by omega)] at hr
    subst hr
    subst h
    go_enter Try.func53, Try.ntmps53
    go_wp2_with (go_at_call 68; refine (isNaN2_any _ _).mono ?_; rintro e w2 ⟨rfl, rfl⟩)
    all_goals go_ret
    all_goals exact ⟨rfl, rfl⟩
  · rw [if_neg (by omega), if_pos h] at hr
    subst hr
    have h2 : (x < y) = False := by simp only [eq_iff_iff, iff_false]; omega
    go_enter Try.func53, Try.ntmps53
    go_wp2_with (go_at_call 68; refine (isNaN2_any _ _).mono ?_; rintro e w2 ⟨rfl, rfl⟩)
    all_goals go_ret
    all_goals exact ⟨rfl, rfl⟩
def orI (x y : Int) : Int := if x = 0 then y else x
set_option maxHeartbeats 1000000 in
theorem or_any {w : World} {g : Nat} {x y : Int} (h0 : w.cell? ⟨g, 0, none⟩ = some (.int .i64 x)) (h1 : w.cell? ⟨g, 1, none⟩ = some (.int .i64 y)) :
    Calls Try.prog 52 #[.slice (some ⟨g, 0, none⟩) 2 2] w fun e w' => e = .returned (.int .i64 (orI x y)) ∧ w' = w := by
  obtain ⟨r, hr⟩ : ∃ r, r = orI x y := ⟨_, rfl⟩
  rw [← hr]
  have HR := Lib.hid hr
  clear hr
  go_enter Try.func52, Try.ntmps52
  go_wp2_with fail
  go_loopw [8] (fun i wr => ∃ j : Nat, j ≤ 2 ∧ i = .int .i64 (j : Int) ∧ Hid ((0 < j → x = 0) ∧ (1 < j → y = 0)) ∧ wr = w) (fun i _ => (2 - (match i with | .int _ z => z.toNat | _ => 0)))
  case atStart => exact ⟨0, by omega, rfl, ⟨fun h => absurd h (by omega), fun h => absurd h (by omega)⟩, rfl⟩
  case round =>
    obtain ⟨j, hj, rfl, HN, rfl⟩ := hrel
    have hj3 : j = 0 ∨ j = 1 ∨ j = 2 := by omega
    rcases hj3 with rfl | rfl | rfl
    · by_cases hx : x = 0
      · subst hx
        go_wp2_with fail
        exact ⟨⟨1, by omega, rfl, ⟨fun _ => by first | trivial | rfl, fun h => absurd h (by omega)⟩, by first | trivial | rfl⟩, by decide⟩
      · have hx1 : (x = 0) = False := by simp only [hx]
        have hx2 : (x == 0) = false := by simp only [beq_eq_false_iff_ne]; exact hx
        go_wp2_with fail
        go_ret
        exact ⟨by rw [HR.out]; unfold orI; rw [if_neg hx]; rfl, rfl⟩
    · by_cases hy : y = 0
      · subst hy
        go_wp2_with fail
        exact ⟨⟨2, by omega, rfl, ⟨fun _ => HN.out.1 (by omega), fun _ => by first | trivial | rfl⟩, by first | trivial | rfl⟩, by decide⟩
      · have hx1 : (y = 0) = False := by simp only [hy]
        have hx2 : (y == 0) = false := by simp only [beq_eq_false_iff_ne]; exact hy
        go_wp2_with fail
        go_ret
        exact ⟨by rw [HR.out]; unfold orI; rw [if_pos (HN.out.1 (by omega))]; rfl, rfl⟩
    · go_wp2_with fail
      go_ret
      exact ⟨by rw [HR.out]; unfold orI; rw [if_pos (HN.out.1 (by omega)), HN.out.2 (by omega)]; rfl, rfl⟩
theorem two_cells (w : World) (x y : Int) (t : TypeId) : (w.alloc (.cells #[.int .i64 x, .int .i64 y] t)).drew.cell? ⟨w.heap.size, 0, none⟩ = some (.int .i64 x) ∧ (w.alloc (.cells #[.int .i64 x, .int .i64 y] t)).drew.cell? ⟨w.heap.size, 1, none⟩ = some (.int .i64 y) := by
  have h : (w.alloc (.cells #[.int .i64 x, .int .i64 y] t)).drew.heap[w.heap.size]? = _ := World.alloc_heap_new w (.cells #[.int .i64 x, .int .i64 y] t)
  refine ⟨?_, ?_⟩ <;> (unfold World.cell?; simp only [h]; rfl)
def cfE (x y : Ev) : Int := orI (cmpI x.at_ y.at_) (cmpI y.more x.more)
def BoxE (w : World) (g : Nat) (c : Ev) : Prop := w.heap[g]? = some (.cells #[.int .i64 c.at_, .int .i64 c.more] 79 (0, 0))
theorem BoxE.cells {w : World} {g : Nat} {c : Ev} (h : BoxE w g c) : w.cell? ⟨g, 0, none⟩ = some (.int .i64 c.at_) ∧ w.cell? ⟨g, 1, none⟩ = some (.int .i64 c.more) := by
  have h' : w.heap[g]? = _ := h
  refine ⟨?_, ?_⟩ <;> simp [World.cell?, h']
theorem BoxE.lt {w : World} {g : Nat} {c : Ev} (h : BoxE w g c) : g < w.heap.size := (Array.getElem?_eq_some_iff.1 h).1
theorem BoxE.below {w w' : World} {g B : Nat} {c : Ev} (h : BoxE w g c) (b : Below B w w') (hg : g < B) : BoxE w' g c := (b.block g hg).trans h
set_option maxHeartbeats 2000000 in
theorem cmp_any (x y : Ev) (W : World) :
    Calls Try.prog 51 #[.agg #[.int .i64 x.at_, .int .i64 x.more], .agg #[.int .i64 y.at_, .int .i64 y.more]] W fun e w' => e = .returned (.int .i64 (cfE x y)) ∧ ∃ q os', w' = grow (W.drewN q) os' := by
  obtain ⟨w1, hw1⟩ : ∃ w1, w1 = W.alloc (.cells #[.int .i64 x.at_, .int .i64 x.more] 79) := ⟨_, rfl⟩
  have x1 : BoxE w1 W.heap.size x := by rw [hw1]; exact World.alloc_heap_new W _
  obtain ⟨w2, hw2⟩ : ∃ w2, w2 = w1.alloc (.cells #[.int .i64 y.at_, .int .i64 y.more] 79) := ⟨_, rfl⟩
  have x2 : BoxE w2 W.heap.size x := by rw [hw2]; exact (Below.heap_alloc _ _ _ x1.lt).trans x1
  have y2 : BoxE w2 (W.heap.size + 1) y := by rw [hw2, show W.heap.size + 1 = w1.heap.size by rw [hw1]; simp]; exact World.alloc_heap_new w1 _
  obtain ⟨c0, c1⟩ := x2.cells
  obtain ⟨d0, d1⟩ := y2.cells
  have HC1 := Lib.hid (fun w => compare_any x.at_ y.at_ w)
  have HC2 := Lib.hid (fun w => compare2_any y.more x.more w)
  have HW := Lib.hid (show ∃ os, w2 = grow W os from ⟨_, by rw [hw2, hw1, alloc_eq_grow, alloc_eq_grow, grow_grow]⟩)
  have HWw := Lib.hid (show w2 = (W.alloc (.cells #[.int .i64 x.at_, .int .i64 x.more] 79)).alloc (.cells #[.int .i64 y.at_, .int .i64 y.more] 79) by rw [hw2, hw1])
  have HX := Lib.hid x2
  have HY := Lib.hid y2
  clear hw1 hw2 x1 x2 y2
  unfold cfE
  generalize cmpI x.at_ y.at_ = r1 at *
  generalize cmpI y.more x.more = r2 at *
  go_enter Try.func51, Try.ntmps51
  go_upto_region 1 with fail
  rw [← HWw.out]
  go_region_held3 (fun w' => w'.cell? ⟨W.heap.size, 0, none⟩ = some (.int .i64 x.at_) ∧ w'.cell? ⟨W.heap.size, 1, none⟩ = some (.int .i64 x.more) ∧ w'.cell? ⟨W.heap.size + 1, 0, none⟩ = some (.int .i64 y.at_) ∧ w'.cell? ⟨W.heap.size + 1, 1, none⟩ = some (.int .i64 y.more))
    (first | assumption | go_keep)
    ((first
    | (go_at_call 47; (with_reducible refine (HC1.out _).mono ?_); rintro e w3 ⟨rfl, e3⟩; subst w3)
    | (go_at_call 53; (with_reducible refine (HC2.out _).mono ?_); rintro e w3 ⟨rfl, e3⟩; subst w3)
    | (go_at_call 52; refine (or_any (x := r1) (y := r2) (two_cells _ _ _ _).1 (two_cells _ _ _ _).2).mono ?_; rintro e w3 ⟨rfl, e3⟩; subst w3)))
  all_goals go_wp2_with fail
  all_goals go_ret
  obtain ⟨os, ho⟩ := HW.out
  refine ⟨rfl, 1, os ++ #[.cells #[.int .i64 r1, .int .i64 r2] 3], ?_⟩
  rw [ho, alloc_eq_grow, grow_grow]
  rfl
end Go.Proofs.Ytbkcoijcoacbaaa.Ch
