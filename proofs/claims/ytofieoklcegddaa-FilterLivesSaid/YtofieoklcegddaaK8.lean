/- The reference's Add; the filter's Reset. -/
import Derived.Test.YtofieoklcegddaaK7
namespace Go.Proofs.Ytofieoklcegddaa
open Go.RowKit Go.Sort Go.Shelf Go.Lib
set_option linter.unusedVariables false
set_option linter.unusedSimpArgs false
set_option maxRecDepth 100000

def Hb (w : World) (h : Nat) (v : Value) : Prop := w.heap[h]? = some (.cells #[v] 49 (0, 0))
theorem Hb.cell {w : World} {h : Nat} {v : Value} (k : Hb w h v) : w.cell? ⟨h, 0, none⟩ = some v := by
  have k' : w.heap[h]? = _ := k
  simp [World.cell?, k']
theorem Hb.fr {w : World} {h : Nat} {v : Value} (k : Hb w h v) : w.frozen? ⟨h, 0, none⟩ = false := by
  have k' : w.heap[h]? = _ := k
  simp [World.frozen?, k']
theorem Hb.lt {w : World} {h : Nat} {v : Value} (k : Hb w h v) : h < w.heap.size := (Array.getElem?_eq_some_iff.1 k).1
theorem Hb.set {w : World} {h : Nat} {v : Value} (k : Hb w h v) (v' : Value) : Hb (w.setCell ⟨h, 0, none⟩ v') h v' := set_cell k 0 v'
/-- the reference's filter at h, its rows in blocks behind it -/
def Rs (w : World) (h : Nat) (L : List S4) : Prop := ∃ A n c, Hb w h (.slice A n c) ∧ Ow w h h A n c L.reverse ∧ L.length ≤ 8
theorem Rs.rf {w : World} {h : Nat} {L : List S4} (k : Rs w h L) : Rf w (some ⟨h, 0, none⟩) L := by
  obtain ⟨A, n, c, hb, ho, h8⟩ := k
  exact ⟨h, A, n, c, rfl, hb.cell, ho.rd, h8⟩
theorem Rs.lt {w : World} {h : Nat} {L : List S4} (k : Rs w h L) : h < w.heap.size := by obtain ⟨_, _, _, hb, _⟩ := k; exact hb.lt
theorem Rs.below {w w' : World} {h : Nat} {L : List S4} (k : Rs w h L) (b : RowKit.Below w.heap.size w w') : Rs w' h L := by
  obtain ⟨A, n, c, hb, ho, h8⟩ := k
  exact ⟨A, n, c, (b.block h hb.lt).trans hb, ho.below b, h8⟩
theorem push_rev (s : S4) (L : List S4) (h8 : L.length ≤ 8) : (push s L).reverse = if L.length < 8 then L.reverse ++ [s] else (L.reverse ++ [s]).drop 1 := by
  unfold push
  by_cases h : L.length < 8
  · rw [if_pos h, List.take_of_length_le (by simp; omega), List.reverse_cons]
  · rw [if_neg h, ← List.reverse_cons, List.reverse_take, List.length_cons, show L.length + 1 - 8 = 1 by omega]
theorem push_len (s : S4) (L : List S4) : (push s L).length ≤ 8 := by unfold push; simp; omega
set_option maxHeartbeats 4000000 in
theorem radd_any {w : World} {h : Nat} {s : S4} {L : List S4} (hs : s.may) (k : Rs w h L) :
    Calls Try.prog 24 #[.pointer (some ⟨h, 0, none⟩), s.val] w fun e w' => e = .returned (.int .i64 0) ∧ Rs w' h (push s L) ∧ RowKit.Below h w w' := by
  obtain ⟨A, n, c, hb, ho, h8⟩ := k
  obtain ⟨w1, hw1⟩ : ∃ w1, w1 = w.alloc (.cells #[.int .i64 s.o, .int .i64 s.d, .int .i64 s.p, .int .i64 s.a] 23) := ⟨_, rfl⟩
  have hn : n = L.length := by have := ho.len; simpa using this.symm
  have b1 : RowKit.Below w.heap.size w w1 := by rw [hw1]; exact (Below.refl _ _).alloc (Nat.le_refl _) _
  have x1 : Box w1 w.heap.size s := by rw [hw1]; exact World.alloc_heap_new w _
  obtain ⟨w2, hw2⟩ : ∃ w2, w2 = w1.alloc (.cells #[.int .i64 s.o, .int .i64 s.d, .int .i64 s.p, .int .i64 s.a] 23) := ⟨_, rfl⟩
  have b2 : RowKit.Below w1.heap.size w1 w2 := by rw [hw2]; exact (Below.refl _ _).alloc (Nat.le_refl _) _
  have x2 : Box w2 w.heap.size s := (b2.block _ x1.lt).trans x1
  have b12 := bthen b1 b2 (Nat.le_refl _)
  have hb2 : Hb w2 h (.slice A n c) := (b12.block h hb.lt).trans hb
  have ho2 := ho.below b12
  obtain ⟨w3, hw3⟩ : ∃ w3, w3 = (w2.alloc (.cells #[.int .i64 s.o, .int .i64 s.d, .int .i64 s.p, .int .i64 s.a] 23)).drew := ⟨_, rfl⟩
  have b3 : RowKit.Below w2.heap.size w2 w3 := by rw [hw3]; exact ((Below.refl _ _).alloc (Nat.le_refl _) _).drew
  have x3 : Box w3 w2.heap.size s := by rw [hw3]; exact World.alloc_heap_new w2 _
  have b13 := bthen b12 b3 (Nat.le_refl _)
  have hb3 : Hb w3 h (.slice A n c) := (b3.block h hb2.lt).trans hb2
  have ho3 := ho2.below b3
  have HM := Lib.hid (fun w => rmay_any s w)
  rw [decide_eq_true hs] at HM
  obtain ⟨c0, c1, c2, c3⟩ := x1.cells
  have HW1 := Lib.hid hw1
  have HW2 := Lib.hid hw2
  have HW3 := Lib.hid hw3
  have HX2 := Lib.hid x2
  have HX3 := Lib.hid x3
  have HB2 := Lib.hid hb2
  have HB3 := Lib.hid hb3
  have HO3 := Lib.hid ho3
  have hlt3 := Lib.hid hb3.lt
  have HB13 := Lib.hid (b13.mono (show h ≤ w.heap.size from Nat.le_of_lt hb.lt))
  have hn8 : n ≤ 1000 := by omega
  have hn8' : n ≤ 8 := by omega
  have HLn := Lib.hid hn
  have hle := Lib.hid (show h ≤ w3.heap.size from Nat.le_of_lt hb3.lt)
  clear hw1 hw2 hw3 x1 x2 x3 hb hb2 hb3 ho ho2 ho3 b1 b2 b12 b3 b13 hs hn
  unfold S4.val at HM ⊢
  go_enter Try.func24, Try.ntmps24
  go_upto_region 1 with fail
  rw [← HW1.out]
  go_upto_region 3 with (go_at_call 21; refine (HM.out _).mono ?_; rintro e w4 ⟨rfl, hw4⟩; rw [← HW2.out] at hw4; subst hw4)
  clear c0 c1 c2 c3
  obtain ⟨d0, d1, d2, d3⟩ := HX2.out.cells
  have f0 := HB2.out.cell
  have f1 : (w4.alloc (.cells #[.int .i64 s.o, .int .i64 s.d, .int .i64 s.p, .int .i64 s.a] 23)).cell? ⟨h, 0, none⟩ = some (.slice A n c) := (World.cell?_of_block (Below.heap_alloc w4 _ h HB2.out.lt)).trans f0
  go_region_law ((try rw [← HW3.out]); refine step_app_one rfl (.tmp 12) (.tmp 14) rfl (by simp [Act.eval, Act.put]) HO3.out (by simp [Act.eval, Act.put]) HX3.out hn8 hle.out hlt3.out ?_; intro A' c' w5 hown5 hb5 hh5; have g0 := ((show Hb w5 h (.slice A n c) from hh5.trans HB3.out).cell); have g1 := ((show Hb w5 h (.slice A n c) from hh5.trans HB3.out).fr))
  all_goals (
    obtain ⟨w6, hw6⟩ : ∃ w6, w6 = w5.setCell ⟨h, 0, none⟩ (.slice A' (n + 1) c') := ⟨_, rfl⟩
    have hb6 : Hb w6 h (.slice A' (n + 1) c') := by rw [hw6]; exact (show Hb w5 h (.slice A n c) from hh5.trans HB3.out).set _
    have ho6 : Ow w6 h h A' (n + 1) c' (L.reverse ++ [s]) := by rw [hw6]; exact hown5.set 0 _
    have hw6b : RowKit.Below h w w6 := by rw [hw6]; exact below_set (HB13.out.trans hb5) (Nat.le_refl _) 0 _
    rw [← hw6]
    clear hw6 g0 g1 d0 d1 d2 d3 f0 f1 hown5 hh5 hb5
    have g0 := hb6.cell
    have HB6 := Lib.hid hb6
    have HO6 := Lib.hid ho6
    have HBw6 := Lib.hid hw6b
    clear hb6 ho6 hw6b
    by_cases h9 : n < 8
    · have e1 : ((8 : Int) < (n : Int) + 1) = False := by simp only [eq_iff_iff, iff_false]; omega
      have HF := Lib.hid (show Rs w6 h (push s L) from ⟨A', n + 1, c', HB6.out, by rw [push_rev s L h8, if_pos (by have := HLn.out; omega)]; exact HO6.out, push_len s L⟩)
      go_wp2_with fail
      go_ret
      exact ⟨rfl, HF.out, HBw6.out⟩
    · have hn9 : n = 8 := by omega
      subst hn9
      rcases HO6.out.lies with ⟨_, e0⟩ | ⟨g, off, rfl, _⟩
      · have := HO6.out.room; omega
      · have hr := HO6.out.room
        have ec1 : (c' = 1) = False := by simp only [eq_iff_iff, iff_false]; omega
        have ec2 : ((1 : Nat) = c') = False := by simp only [eq_iff_iff, iff_false]; omega
        have g1 := HB6.out.fr
        obtain ⟨x, xs, hxs⟩ : ∃ x xs, L.reverse ++ [s] = x :: xs := by
          cases hq : L.reverse ++ [s] with
          | nil => simp at hq
          | cons x xs => exact ⟨x, xs, rfl⟩
        have HXs := Lib.hid hxs
        have ho7 := HO6.out
        rw [hxs] at ho7
        have HO7 := Lib.hid ho7.rest
        clear hxs ho7
        go_wp2_with fail
        go_ret
        refine ⟨rfl, ⟨some ⟨g, off + 4, none⟩, 8, c' - 1, HB6.out.set _, ?_, push_len s L⟩, below_set HBw6.out (Nat.le_refl _) 0 _⟩
        rw [push_rev s L h8, if_neg (by have := HLn.out; omega), HXs.out]
        exact HO7.out.set 0 _)
theorem radd_not {w : World} {h : Nat} {s : S4} (hs : ¬ s.may) : Calls Try.prog 24 #[.pointer (some ⟨h, 0, none⟩), s.val] w fun e w' => e = .returned (.int .i64 1) ∧ RowKit.Below w.heap.size w w' := by
  obtain ⟨w1, hw1⟩ : ∃ w1, w1 = w.alloc (.cells #[.int .i64 s.o, .int .i64 s.d, .int .i64 s.p, .int .i64 s.a] 23) := ⟨_, rfl⟩
  have b1 : RowKit.Below w.heap.size w w1 := by rw [hw1]; exact (Below.refl _ _).alloc (Nat.le_refl _) _
  have x1 : Box w1 w.heap.size s := by rw [hw1]; exact World.alloc_heap_new w _
  obtain ⟨c0, c1, c2, c3⟩ := x1.cells
  have HW1 := Lib.hid hw1
  have HB1 := Lib.hid b1
  have HM := Lib.hid (fun w => may_below s w)
  rw [decide_eq_false hs] at HM
  clear hw1 b1 x1 hs
  unfold S4.val
  go_enter Try.func24, Try.ntmps24
  go_upto_region 1 with fail
  rw [← HW1.out]
  go_wp2_with fail
  refine (HM.out _).mono ?_
  rintro e w2 ⟨rfl, b2⟩
  have HB2 := Lib.hid (bthen HB1.out b2 (Nat.le_refl _))
  clear b2
  go_wp2_with fail
  go_ret
  exact ⟨rfl, HB2.out⟩
/-- the reference's Add, of any sample -/
theorem radd_all {w : World} {h : Nat} (s : S4) {L : List S4} (k : Rs w h L) :
    Calls Try.prog 24 #[.pointer (some ⟨h, 0, none⟩), .agg #[.int .i64 s.o, .int .i64 s.d, .int .i64 s.p, .int .i64 s.a]] w fun e w' => e = .returned (.int .i64 (if s.may then 0 else 1)) ∧ Rs w' h (add1 L s) ∧ RowKit.Below h w w' := by
  unfold add1
  by_cases hs : s.may
  · rw [if_pos hs, if_pos hs]
    exact radd_any hs k
  · rw [if_neg hs, if_neg hs]
    refine (radd_not hs).mono ?_
    rintro e w' ⟨rfl, b⟩
    exact ⟨rfl, k.below b, b.mono (Nat.le_of_lt k.lt)⟩
end Go.Proofs.Ytofieoklcegddaa
