/- choose: the fixed calls. -/
import Derived.Test.YtjagekagpgjoaaaC11
namespace Go.Proofs.Ytjagekagpgjoaaa
open Go.RowKit
set_option linter.unusedVariables false
set_option linter.unusedSimpArgs false
set_option maxRecDepth 100000
def three : List Sp := [⟨0, 2, 4⟩, ⟨2, 4, 6⟩, ⟨3, 5, 9⟩]
theorem three_cov (x : Int) : cov three x = (if 0 ≤ x ∧ x ≤ 4 then 1 else 0) + ((if 2 ≤ x ∧ x ≤ 6 then 1 else 0) + ((if 3 ≤ x ∧ x ≤ 9 then 1 else 0) + 0)) := by
  unfold three
  rw [cov_cons, cov_cons, cov_cons, cov_nil]
  rfl
theorem three_maj (x : Int) : Maj three x ↔ 2 ≤ x ∧ x ≤ 6 := by
  unfold Maj
  rw [three_cov]
  show (3 : Int) < _ ↔ _
  split <;> split <;> split <;> omega
theorem three_reg {lo hi er : Int} (h : RegIs three lo hi er) : lo = 2 ∧ hi = 6 ∧ er = 0 := by
  rcases h with ⟨h, _⟩ | ⟨_, _, ⟨⟨h1, h2, h3⟩, h4⟩ | ⟨h1, _⟩⟩
  · exact absurd ⟨by decide, by decide⟩ h
  · rw [three_maj] at h1 h2
    have a := h3 2 ((three_maj 2).2 (by omega))
    have b := h3 6 ((three_maj 6).2 (by omega))
    omega
  · exact absurd ((three_maj 2).2 (by omega)) (h1 2)
theorem nil_reg {lo hi er : Int} (h : RegIs [] lo hi er) : lo = 0 ∧ hi = 0 ∧ er = 150 := by
  rcases h with ⟨h, _⟩ | ⟨_, _, ⟨⟨h1, h2, h3⟩, h4⟩ | ⟨h1, h2⟩⟩
  · exact absurd ⟨by decide, by decide⟩ h
  · unfold Maj at h1
    rw [cov_nil] at h1
    exact absurd h1 (by decide)
  · exact h2
theorem three_new (w : World) : Rs (w.alloc (.cells #[.int .i64 0, .int .i64 2, .int .i64 4, .int .i64 2, .int .i64 4, .int .i64 6, .int .i64 3, .int .i64 5, .int .i64 9] 39)) (w.heap.size + 1) (some ⟨w.heap.size, 0, none⟩) 3 three := by
  have h := World.alloc_heap_new w (.cells #[.int .i64 0, .int .i64 2, .int .i64 4, .int .i64 2, .int .i64 4, .int .i64 6, .int .i64 3, .int .i64 5, .int .i64 9] 39)
  refine ⟨rfl, .inr ⟨w.heap.size, 0, rfl, by omega, fun i s hs => ?_⟩⟩
  have hi : i = 0 ∨ i = 1 ∨ i = 2 := by
    have := (List.getElem?_eq_some_iff.1 hs).1
    have e : three.length = 3 := rfl
    omega
  rcases hi with rfl | rfl | rfl <;> (cases hs; refine ⟨?_, ?_, ?_⟩ <;> (unfold World.cell?; simp only [Nat.zero_add, Nat.zero_mul, Nat.reduceMul, Nat.reduceAdd, h]; rfl))
theorem two_new (w : World) (a b : Int) : Ri (w.alloc (.cells #[.int .i64 a, .int .i64 b] 2)) (w.heap.size + 1) (some ⟨w.heap.size, 0, none⟩) 2 [a, b] := by
  have h := World.alloc_heap_new w (.cells #[.int .i64 a, .int .i64 b] 2)
  refine ⟨rfl, .inr ⟨w.heap.size, 0, rfl, by omega, fun i s hs => ?_⟩⟩
  have hi : i = 0 ∨ i = 1 := by
    have := (List.getElem?_eq_some_iff.1 hs).1
    have e : [a, b].length = 2 := rfl
    omega
  rcases hi with rfl | rfl <;> (cases hs; unfold World.cell?; simp only [Nat.zero_add, h]; rfl)
set_option maxHeartbeats 2000000 in
theorem alive_any (w : World) : Calls Try.prog 10 #[] w fun e w' => e = .returned (.bool true) ∧ RowKit.Below w.heap.size w w' := by
  obtain ⟨w1, e1⟩ : ∃ w1, w1 = w.alloc (.cells #[.int .i64 0, .int .i64 2, .int .i64 4, .int .i64 2, .int .i64 4, .int .i64 6, .int .i64 3, .int .i64 5, .int .i64 9] 39) := ⟨_, rfl⟩
  have r1 := three_new w
  rw [← e1] at r1
  have b1 : RowKit.Below w.heap.size w w1 := by rw [e1]; exact (Below.refl _ _).alloc (Nat.le_refl _) _
  have s1 : w1.heap.size = w.heap.size + 1 := by rw [e1]; exact World.size_alloc ..
  rw [← s1] at r1
  have HW := Lib.hid e1
  have HB1 := Lib.hid b1
  have HR1 := Lib.hid r1
  have HRg := Lib.hid (region_any (c := 3) r1 (Nat.le_refl _) (by omega))
  clear e1 b1 r1 s1
  go_enter Try.func10, Try.ntmps10
  go_upto_region 2 with fail
  rw [← HW.out]
  go_wp2_with fail
  refine HRg.out.mono ?_
  rintro e w2 ⟨⟨lo, hi, er, rfl, hrr⟩, b2⟩
  obtain ⟨rfl, rfl, rfl⟩ := three_reg hrr
  have HR2 := Lib.hid (HR1.out.below b2 (Nat.le_refl _))
  have HB2 := Lib.hid (bthen HB1.out b2 (Nat.le_refl _))
  have HS2 := Lib.hid b2.size
  clear hrr b2
  have a1 := two_new w2 10 20
  have a2 := two_new (w2.alloc (.cells #[.int .i64 10, .int .i64 20] 2)) 0 0
  have HCb := Lib.hid (comb_any (c1 := 2) (c2 := 2) ((a1.below (Below.refl _ _ |>.alloc (by rw [World.size_alloc]; exact Nat.le_refl _) (.cells #[.int .i64 0, .int .i64 0] 2)) (Nat.le_refl _)).le (by rw [World.size_alloc]; omega)) a2 (by omega) (by omega))
  rw [show comb [10, 20] [0, 0] = (15, 0) by decide +kernel] at HCb
  rw [World.size_alloc] at HCb
  clear a1 a2
  go_wp2_with fail
  refine HCb.out.mono ?_
  rintro e w3 ⟨rfl, e3⟩
  have b3 : RowKit.Below w2.heap.size w2 w3 := by rw [e3]; exact ((Below.refl _ _).alloc (Nat.le_refl _) _).alloc (by rw [World.size_alloc]; omega) _
  have HR3 := Lib.hid (HR2.out.below b3 HS2.out)
  have HB3 := Lib.hid (bthen HB2.out b3 (Nat.le_refl _))
  have HS3 := Lib.hid (Nat.le_trans HS2.out b3.size)
  have HN := Lib.hid (region_any (c := 0) (B := 0) (xs := []) (A := none) (n := 0) (w := w3) ⟨rfl, .inl rfl⟩ (Nat.zero_le _) (by omega))
  clear b3 e3
  go_wp2_with fail
  refine HN.out.mono ?_
  rintro e w4 ⟨⟨lo, hi, er, rfl, hrr⟩, b4⟩
  obtain ⟨rfl, rfl, rfl⟩ := nil_reg hrr
  have HR4 := Lib.hid (HR3.out.below b4 HS3.out)
  have HB4 := Lib.hid (bthen HB3.out b4 (Nat.le_refl _))
  have HS4 := Lib.hid (Nat.le_trans HS3.out b4.size)
  clear hrr b4
  have HV := Lib.hid (cover_any (c := 3) 3 HR4.out HS4.out (by omega))
  rw [show cov three 3 = 3 by rw [three_cov]; decide] at HV
  go_wp2_with fail
  refine HV.out.mono ?_
  rintro e w5 ⟨rfl, b5⟩
  have HB5 := Lib.hid (bthen HB4.out b5 (Nat.le_refl _))
  clear b5
  go_wp2_with fail
  go_ret
  exact ⟨rfl, HB5.out⟩
end Go.Proofs.Ytjagekagpgjoaaa
