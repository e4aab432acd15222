/- top08: the fixed calls. -/
import Derived.Test.YtbkcoijcoacbaaaT1
import Derived.Test.YtbkcoijcoacbaaaChC11
import Derived.Test.YtbkcoijcoacbaaaDiD5
import Derived.Test.YtbkcoijcoacbaaaPlX3
import Derived.Test.YtbkcoijcoacbaaaPlP3
namespace Go.Proofs.Ytbkcoijcoacbaaa
open Go.RowKit
set_option linter.unusedVariables false
set_option maxRecDepth 100000
theorem nil_reg {lo hi er : Int} (h : Ch.RegIs [] lo hi er) : lo = 0 ∧ hi = 0 ∧ er = 150 := by
  rcases h with ⟨h, _⟩ | ⟨_, _, ⟨⟨h1, h2, h3⟩, h4⟩ | ⟨h1, h2⟩⟩
  · exact absurd ⟨by decide, by decide⟩ h
  · unfold Ch.Maj at h1
    rw [Ch.cov_nil] at h1
    exact absurd h1 (by decide)
  · exact h2
theorem two_new (w : World) (a b : Int) : Ch.Ri (w.alloc (.cells #[.int .i64 a, .int .i64 b] 2)) (w.heap.size + 1) (some ⟨w.heap.size, 0, none⟩) 2 [a, b] := by
  have h := World.alloc_heap_new w (.cells #[.int .i64 a, .int .i64 b] 2)
  refine ⟨rfl, .inr ⟨w.heap.size, 0, rfl, by omega, fun i s hs => ?_⟩⟩
  have hi : i = 0 ∨ i = 1 := by
    have := (List.getElem?_eq_some_iff.1 hs).1
    have e : [a, b].length = 2 := rfl
    omega
  rcases hi with rfl | rfl <;> (cases hs; unfold World.cell?; simp only [Nat.zero_add, h]; rfl)
theorem k_far : Pl.farC 0 0 (floatOfInt .f64 3) (floatOfInt .f64 (-4)) = 4616189618054758400 := by decide +kernel
theorem k_n3 : ¬ Pl.isN 4616189618054758400 := by decide +kernel
theorem k_o : FloatKind.f64.format.order 4616189618054758400 4616189618054758400 = some .eq := by decide +kernel
theorem okF_eq {r c : Nat} (h : r < 18446744073709551616 ∧ Pl.al r c) (g : ¬ Pl.isN c) : r = c := by
  rcases h.2 with rfl | ⟨_, x⟩
  · rfl
  · exact absurd x g
theorem far_four (w : World) : Calls Try.prog 22 #[.complex .f64 0 0, .complex .f64 (floatOfInt .f64 3) (floatOfInt .f64 (-4))] w fun e w' => e = .returned (.float .f64 4616189618054758400) ∧ ∃ k, w' = w.drewN k := by
  refine (Pl.far_any _ _ _ _ w).mono ?_
  rintro e w' ⟨⟨r, rfl, h1, h2⟩, k, rfl⟩
  rw [k_far] at h2
  rw [okF_eq ⟨h1, h2⟩ k_n3]
  exact ⟨rfl, k, rfl⟩
theorem root_four (w : World) : Calls Try.prog 23 #[.int .u64 17] w fun e w' => e = .returned (.int .u64 4) ∧ w' = w := by
  refine (Fi.root_any 17 (by omega) w).mono ?_
  rintro e w' ⟨⟨r, rfl, h1, _⟩, rfl⟩
  obtain rfl : r = 4 := Fi.isRoot.eq h1 (by unfold Fi.isRoot; omega)
  exact ⟨rfl, rfl⟩
theorem bthen {B : Nat} {w0 w w' : World} (h : RowKit.Below B w0 w) (k : RowKit.Below w.heap.size w w') (hB : B ≤ w0.heap.size) : RowKit.Below B w0 w' := h.trans (k.mono (Nat.le_trans hB h.size))
set_option maxHeartbeats 2000000 in
theorem alive_any (w : World) : Calls Try.prog 6 #[] w fun e w' => e = .returned (.bool true) ∧ RowKit.Below w.heap.size w w' := by
  have HN := Lib.hid (Ch.region_any (c := 0) (B := 0) (xs := []) (A := none) (n := 0) (w := w) ⟨rfl, .inl rfl⟩ (Nat.zero_le _) (by omega))
  have KO := Lib.hid k_o
  go_enter Try.func6, Try.ntmps6
  go_wp2_with fail
  refine HN.out.mono ?_
  rintro e w2 ⟨⟨lo, hi, er, rfl, hrr⟩, b2⟩
  obtain ⟨rfl, rfl, rfl⟩ := nil_reg hrr
  have HB2 := Lib.hid b2
  clear hrr b2 HN
  have a1 := two_new w2 10 20
  have a2 := two_new (w2.alloc (.cells #[.int .i64 10, .int .i64 20] 2)) 0 0
  have HCb := Lib.hid (Ch.comb_any (c1 := 2) (c2 := 2) ((a1.below (Below.refl _ _ |>.alloc (by rw [World.size_alloc]; exact Nat.le_refl _) (.cells #[.int .i64 0, .int .i64 0] 2)) (Nat.le_refl _)).le (by rw [World.size_alloc]; omega)) a2 (by omega) (by omega))
  rw [show Ch.comb [10, 20] [0, 0] = (15, 0) by decide +kernel] at HCb
  rw [World.size_alloc] at HCb
  clear a1 a2
  go_wp2_with fail
  refine HCb.out.mono ?_
  rintro e w3 ⟨rfl, e3⟩
  have b3 : RowKit.Below w2.heap.size w2 w3 := by rw [e3]; exact ((Below.refl _ _).alloc (Nat.le_refl _) _).alloc (by rw [World.size_alloc]; omega) _
  have HB3 := Lib.hid (bthen HB2.out b3 (Nat.le_refl _))
  clear b3 e3 HB2 HCb
  go_wp2_with fail
  refine (Di.a3 _).mono ?_
  rintro e w4 ⟨rfl, b4⟩
  have HB4 := Lib.hid (bthen HB3.out b4 (Nat.le_refl _))
  clear b4 HB3
  go_wp2_with fail
  refine (Pl.point_any 3 (-4) _).mono ?_
  rintro e w5 ⟨rfl, rfl⟩
  go_wp2_with fail
  refine (far_four _).mono ?_
  rintro e w6 ⟨rfl, k, rfl⟩
  have K2 := KO.out
  clear KO
  go_wp2_with fail
  refine (root_four _).mono ?_
  rintro e w7 ⟨rfl, rfl⟩
  go_wp2_with fail
  go_ret
  exact ⟨rfl, below_drewN' (HB4.out.alloc HB4.out.size _) k⟩
end Go.Proofs.Ytbkcoijcoacbaaa
