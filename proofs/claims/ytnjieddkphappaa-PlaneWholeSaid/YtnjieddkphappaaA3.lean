/- plane: PlaneSums' walk. -/
import Derived.Test.YtnjieddkphappaaA2
namespace Go.Proofs.Ytnjieddkphappaa
open Go.RowKit
set_option maxRecDepth 100000
set_option linter.unusedVariables false
theorem own_read {w : World} {base e n c : Nat} {A : Option Addr} {vs : List Value} (hl : vs.length = n) (h : w.ownsRow base e 1 (.slice A n c) n vs) :
    n = 0 ∨ ∃ g, A = some ⟨g, 0, none⟩ ∧ g < w.heap.size ∧ ∀ i v, vs[i]? = some v → w.cell? ⟨g, 0 + i, none⟩ = some v := by
  rcases h.2 with ⟨h1, h2⟩ | ⟨g, cap, cur, hv, hb, hg, hnc, hcm, hcs, htk⟩
  · subst h2; left; rw [← hl]
  · right
    cases hv
    refine ⟨g, rfl, (Array.getElem?_eq_some_iff.1 hg).1, fun i v hi => ?_⟩
    have hi2 : i < n := by have := (List.getElem?_eq_some_iff.1 hi).1; omega
    rw [← htk, List.getElem?_take_of_lt (by omega)] at hi
    simp only [World.cell?, hg, Nat.zero_add]
    simpa using hi
theorem Gc.rd {w : World} {base n c : Nat} {A : Option Addr} {xs : List (Nat × Nat)} (h : Gc w base A n c xs) : Cx w w.heap.size A n xs := by
  refine ⟨h.1, ?_⟩
  rcases own_read (by rw [List.length_map]; exact h.1) h.2 with h0 | ⟨g, rfl, hg, hc⟩
  · exact .inl h0
  · exact .inr ⟨g, 0, rfl, hg, fun i z hz => hc i _ (by rw [List.getElem?_map, hz]; rfl)⟩
theorem Gf.rd {w : World} {base n c : Nat} {A : Option Addr} {xs : List Nat} (h : Gf w base A n c xs) : Fx w w.heap.size A n xs := by
  refine ⟨h.1, ?_⟩
  rcases own_read (by rw [List.length_map]; exact h.1) h.2 with h0 | ⟨g, rfl, hg, hc⟩
  · exact .inl h0
  · exact .inr ⟨g, 0, rfl, hg, fun i z hz => hc i _ (by rw [List.getElem?_map, hz]; rfl)⟩
/-- the mean, whatever comes -/
def mC (l : List Nat) (n : Nat) : Nat := if fitE n = 0 then meanC l else 0
theorem mean_all {w : World} {B n c : Nat} {A : Option Addr} {xs : List (Nat × Nat)} (h : Cx w B A n xs) (hB : B ≤ w.heap.size) (hn : n ≤ 1099511627776) :
    Calls Try.prog 22 #[.slice A n c] w fun e w' => (∃ r s, e = .returned (.tuple #[.complex .f64 r s, .int .i64 (fitE n)]) ∧ okF r (mC (xs.map (·.1)) n) ∧ okF s (mC (xs.map (·.2)) n)) ∧ RowKit.Below w.heap.size w w' := by
  unfold mC
  by_cases hf : fitE n = 0
  · rw [if_pos hf, if_pos hf, hf]
    exact mean_yes h hB hf
  · rw [if_neg hf, if_neg hf]
    refine (mean_no hf hn w).mono ?_
    rintro e w' ⟨rfl, rfl⟩
    exact ⟨⟨0, 0, rfl, ⟨by omega, .inl rfl⟩, ⟨by omega, .inl rfl⟩⟩, Below.refl _ _⟩
theorem rmean_all {w : World} {B n c C d : Nat} {A A2 : Option Addr} {xs ys : List Nat} (h : Fx w B A n xs) (h2 : Fx w C A2 n ys) :
    Calls Try.prog 23 #[.slice A n c, .slice A2 n d] w fun e w' => (∃ r s, e = .returned (.tuple #[.float .f64 r, .float .f64 s, .int .i64 (fitE n)]) ∧ okF r (mC xs n) ∧ okF s (mC ys n)) ∧ ∃ k, w' = w.drewN k := by
  unfold mC
  by_cases hf : fitE n = 0
  · rw [if_pos hf, if_pos hf, hf]
    exact rmean_yes h h2 hf
  · rw [if_neg hf, if_neg hf]
    refine (rmean_no hf w).mono ?_
    rintro e w' ⟨rfl, rfl⟩
    exact ⟨⟨0, 0, rfl, ⟨by omega, .inl rfl⟩, ⟨by omega, .inl rfl⟩⟩, 0, rfl⟩
theorem sums_law {w : World} {n c m d : Nat} {A A2 : Option Addr} {la lb : List Nat} (h : Ux w w.heap.size A n la) (h2 : Ux w w.heap.size A2 m lb) :
    Calls Try.prog 4 #[.slice A n c, .slice A2 m d] w fun e w' => e = .returned (.bool true) ∧ RowKit.Below w.heap.size w w' := by
  have HA := Lib.hid h
  have HB := Lib.hid h2
  clear h h2
  go_enter Try.func4, Try.ntmps4
  by_cases e1 : 2000 < (n : Int)
  · go_wp2_with fail
    refine (alive_any _).mono ?_
    rintro e w2 ⟨rfl, h5⟩
    have H5 := Lib.hid h5
    clear h5
    go_wp2_with fail
    go_ret
    exact ⟨rfl, H5.out⟩
  · have e1' : (2000 < (n : Int)) = False := by simp only [e1]
    go_wp2_with fail
    refine (points_any HA.out HB.out (Nat.le_refl _) (Nat.le_refl _) (by omega)).mono ?_
    rintro e w1 ⟨A1, c1, A4, c2, A3, c3, rfl, hT⟩
    have HT := Lib.hid hT
    have hla := HA.out.1
    obtain ⟨k, hk⟩ : ∃ k, k = (la.zip lb).length := ⟨_, rfl⟩
    have hkn : k ≤ 2000 := by rw [hk, List.length_zip]; omega
    have hG1 := hT.g1
    have hG2 := hT.g2
    have hG3 := hT.g3
    rw [List.length_map] at hG2 hG3
    rw [← hk] at hG1 hG2 hG3
    have R1 := Lib.hid hG1.rd
    have R2 := Lib.hid hG2.rd
    have R3 := Lib.hid hG3.rd
    rw [← hk]
    have HK := Lib.hid hk
    clear hT hG1 hG2 hG3 hk hla
    go_wp2_with fail
    refine (sum_any R1.out (Nat.le_refl _) (by omega)).mono ?_
    rintro e w2 ⟨⟨r, s, rfl, hr, hs⟩, hb⟩
    have HR := Lib.hid hr
    have HS := Lib.hid hs
    have HB2 := Lib.hid hb
    clear hr hs hb
    go_wp2_with fail
    refine (rSum_any (R2.out.below HB2.out (Nat.le_refl _)) (R3.out.below HB2.out (Nat.le_refl _)) (by omega) (by omega)).mono ?_
    rintro e w3 ⟨⟨x, y, rfl, hx, hy⟩, k3, rfl⟩
    have HX := Lib.hid hx
    have HY := Lib.hid hy
    have HB3 := Lib.hid (below_drewN HB2.out k3)
    clear hx hy
    go_wp2_with fail
    obtain ⟨F, hF⟩ : ∃ F, F = fitE k := ⟨_, rfl⟩
    refine (mean_all (R1.out.below HB3.out (Nat.le_refl _)) (show w1.heap.size ≤ (w2.drewN k3).heap.size from HB3.out.size) (by omega)).mono ?_
    rintro e w4 ⟨⟨r2, s2, rfl, hr, hs⟩, hb⟩
    rw [← hF]
    have HR2 := Lib.hid hr
    have HS2 := Lib.hid hs
    have HB4 := Lib.hid (HB3.out.trans (hb.mono HB3.out.size))
    clear hr hs hb
    go_wp2_with fail
    refine (rmean_all (R2.out.below HB4.out (Nat.le_refl _)) (R3.out.below HB4.out (Nat.le_refl _))).mono ?_
    rintro e w5 ⟨⟨x2, y2, rfl, hx, hy⟩, k5, rfl⟩
    rw [← hF]
    have L1 := Lib.hid (HR.out.2.trans HX.out.2.symm)
    have L2 := Lib.hid (HS.out.2.trans HY.out.2.symm)
    have L3 := Lib.hid (HR2.out.2.trans hx.2.symm)
    have L4 := Lib.hid (HS2.out.2.trans hy.2.symm)
    have HB5 := Lib.hid (below_drewN (HT.out.b.trans (HB4.out.mono HT.out.b.size)) k5)
    clear hx hy HR HX HS HY HR2 HS2 HB2 HB3 HB4 hF
    go_wp2_with fail
    refine (alive_any _).mono ?_
    rintro e w6 ⟨rfl, h5⟩
    have H6 := Lib.hid (HB5.out.trans (h5.mono HB5.out.size))
    clear h5 HB5
    go_wp2_with fail
    refine (like_yes L1.out _).mono ?_
    rintro e w7 ⟨rfl, rfl⟩
    go_wp2_with fail
    refine (like_yes L2.out _).mono ?_
    rintro e w7 ⟨rfl, rfl⟩
    go_wp2_with fail
    refine (like_yes L3.out _).mono ?_
    rintro e w7 ⟨rfl, rfl⟩
    go_wp2_with fail
    refine (like_yes L4.out _).mono ?_
    rintro e w7 ⟨rfl, rfl⟩
    go_wp2_with fail
    go_ret
    exact ⟨rfl, H6.out⟩
end Go.Proofs.Ytnjieddkphappaa
