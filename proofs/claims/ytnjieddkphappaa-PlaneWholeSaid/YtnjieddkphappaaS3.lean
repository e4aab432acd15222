/- plane: PlaneSpreads' walk. -/
import Derived.Test.YtnjieddkphappaaN3
import Derived.Test.YtnjieddkphappaaA3
namespace Go.Proofs.Ytnjieddkphappaa
open Go.RowKit
set_option maxRecDepth 100000
set_option linter.unusedVariables false
/-- the spread, whatever comes -/
def sC (l : List (Nat × Nat)) (n : Nat) : Nat := if fitE n = 0 then fc .quo (spC l (meanC (l.map (·.1)), meanC (l.map (·.2)))) (floatOfInt .f64 l.length) else 0
def nC (l : List (Nat × Nat)) (z : Nat × Nat) (n : Nat) : Nat := if fitE n = 0 then nearC l z n else 0
theorem spread_all {w : World} {B n c : Nat} {A : Option Addr} {xs : List (Nat × Nat)} (h : Cx w B A n xs) (hB : B ≤ w.heap.size) (hn : n ≤ 1099511627776) :
    Calls Try.prog 24 #[.slice A n c] w fun e w' => (∃ r, e = .returned (.tuple #[.float .f64 r, .int .i64 (fitE n)]) ∧ okF r (sC xs n)) ∧ RowKit.Below w.heap.size w w' := by
  unfold sC
  by_cases hf : fitE n = 0
  · rw [if_pos hf, hf]
    exact spread_yes h hB hf
  · rw [if_neg hf]
    refine (spread_no hf hn w).mono ?_
    rintro e w' ⟨rfl, hb⟩
    exact ⟨⟨0, rfl, ⟨by omega, .inl rfl⟩⟩, hb⟩
theorem rspread_no {A A2 : Option Addr} {n c d : Nat} (h : fitE n ≠ 0) (w : World) :
    Calls Try.prog 25 #[.slice A n c, .slice A2 n d] w fun e w' => e = .returned (.tuple #[.float .f64 0, .int .i64 (fitE n)]) ∧ w' = w := by
  have HM := Lib.hid (fun w => rmean_no (A := A) (A2 := A2) (c := c) (m := n) (d := d) h w)
  obtain ⟨q, hq⟩ : ∃ q, q = fitE n := ⟨_, rfl⟩
  rw [← hq] at h HM ⊢
  clear hq
  go_enter Try.func25, Try.ntmps25
  go_wp2_with fail
  refine (HM.out _).mono ?_
  rintro e w1 ⟨rfl, rfl⟩
  have h' : (q == 0) = false := by simpa using h
  go_wp2_with fail
  go_ret2
  exact ⟨rfl, rfl⟩
theorem rspread_all {w : World} {B n c C d : Nat} {A A2 : Option Addr} {l : List (Nat × Nat)} (h : Fx w B A n (l.map (·.1))) (h2 : Fx w C A2 n (l.map (·.2))) :
    Calls Try.prog 25 #[.slice A n c, .slice A2 n d] w fun e w' => (∃ r, e = .returned (.tuple #[.float .f64 r, .int .i64 (fitE n)]) ∧ okF r (sC l n)) ∧ ∃ k, w' = w.drewN k := by
  unfold sC
  by_cases hf : fitE n = 0
  · rw [if_pos hf, hf]
    exact rspread_yes h h2 hf
  · rw [if_neg hf]
    refine (rspread_no hf w).mono ?_
    rintro e w' ⟨rfl, rfl⟩
    exact ⟨⟨0, rfl, ⟨by omega, .inl rfl⟩⟩, 0, rfl⟩
theorem nearest_all {w : World} {B n c : Nat} {A : Option Addr} {xs : List (Nat × Nat)} (x y : Nat) (h : Cx w B A n xs) (hB : B ≤ w.heap.size) (hn : n ≤ 1099511627776) :
    Calls Try.prog 26 #[.slice A n c, .complex .f64 x y] w fun e w' => e = .returned (.tuple #[.int .i64 (nC xs (x, y) n : Nat), .int .i64 (fitE n)]) ∧ RowKit.Below w.heap.size w w' := by
  unfold nC
  by_cases hf : fitE n = 0
  · rw [if_pos hf, hf]
    exact nearest_yes x y h hB hf
  · rw [if_neg hf]
    exact nearest_no hf hn w
theorem rnearest_all {w : World} {B n c C d : Nat} {A A2 : Option Addr} {l : List (Nat × Nat)} (x y : Nat) (h : Fx w B A n (l.map (·.1))) (h2 : Fx w C A2 n (l.map (·.2))) (hn : n ≤ 1099511627776) :
    Calls Try.prog 27 #[.slice A n c, .slice A2 n d, .float .f64 x, .float .f64 y] w fun e w' => e = .returned (.tuple #[.int .i64 (nC l (x, y) n : Nat), .int .i64 (fitE n)]) ∧ ∃ k, w' = w.drewN k := by
  unfold nC
  by_cases hf : fitE n = 0
  · rw [if_pos hf, hf]
    exact rnearest_yes x y h h2 hf
  · rw [if_neg hf]
    exact rnearest_no hf hn w
theorem spreads_law {w : World} {n c m d : Nat} {A A2 : Option Addr} {la lb : List Nat} (h : Ux w w.heap.size A n la) (h2 : Ux w w.heap.size A2 m lb) (x y : Nat) :
    Calls Try.prog 5 #[.slice A n c, .slice A2 m d, .int .u64 (x : Int), .int .u64 (y : Int)] w fun e w' => e = .returned (.bool true) ∧ RowKit.Below w.heap.size w w' := by
  have HA := Lib.hid h
  have HB := Lib.hid h2
  clear h h2
  go_enter Try.func5, Try.ntmps5
  by_cases e1 : 2000 < (n : Int)
  · go_wp2_with fail
    refine (alive_any _).mono ?_
    rintro e w2 ⟨rfl, h5⟩
    have H5 := Lib.hid h5
    clear h5
    go_wp2_with fail
    go_ret
    exact ⟨rfl, H5.out⟩
  · have e1' : (2000 < (n : Int)) = False := by simp only [e1]
    go_wp2_with fail
    refine (points_any HA.out HB.out (Nat.le_refl _) (Nat.le_refl _) (by omega)).mono ?_
    rintro e w1 ⟨A1, c1, A4, c2, A3, c3, rfl, hT⟩
    have HT := Lib.hid hT
    have hla := HA.out.1
    obtain ⟨k, hk⟩ : ∃ k, k = (la.zip lb).length := ⟨_, rfl⟩
    have hkn : k ≤ 2000 := by rw [hk, List.length_zip]; omega
    have hG1 := hT.g1
    have hG2 := hT.g2
    have hG3 := hT.g3
    rw [List.length_map] at hG2 hG3
    rw [← hk] at hG1 hG2 hG3
    have R1 := Lib.hid hG1.rd
    have R2 := Lib.hid hG2.rd
    have R3 := Lib.hid hG3.rd
    rw [← hk]
    have HK := Lib.hid hk
    clear hT hG1 hG2 hG3 hk hla
    go_wp2_with fail
    obtain ⟨F, hF⟩ : ∃ F, F = fitE k := ⟨_, rfl⟩
    refine (spread_all R1.out (Nat.le_refl _) (by omega)).mono ?_
    rintro e w2 ⟨⟨r, rfl, hr⟩, hb⟩
    rw [← hF]
    have HR := Lib.hid hr
    have HB2 := Lib.hid hb
    clear hr hb
    go_wp2_with fail
    refine (rspread_all (R2.out.below HB2.out (Nat.le_refl _)) (R3.out.below HB2.out (Nat.le_refl _))).mono ?_
    rintro e w3 ⟨⟨s, rfl, hs⟩, k3, rfl⟩
    rw [← hF]
    have L1 := Lib.hid (HR.out.2.trans hs.2.symm)
    have HB3 := Lib.hid (below_drewN HB2.out k3)
    clear hs HR
    go_wp2_with fail
    refine (nearest_all x y (R1.out.below HB3.out (Nat.le_refl _)) (show w1.heap.size ≤ (w2.drewN k3).heap.size from HB3.out.size) (by omega)).mono ?_
    rintro e w4 ⟨rfl, hb⟩
    rw [← hF]
    have HB4 := Lib.hid (HB3.out.trans (hb.mono HB3.out.size))
    clear hb
    go_wp2_with fail
    refine (rnearest_all x y (R2.out.below HB4.out (Nat.le_refl _)) (R3.out.below HB4.out (Nat.le_refl _)) (by omega)).mono ?_
    rintro e w5 ⟨rfl, k5, rfl⟩
    rw [← hF]
    obtain ⟨N, hN⟩ : ∃ N, N = nC (la.zip lb) (x, y) k := ⟨_, rfl⟩
    rw [← hN]
    have HB5 := Lib.hid (below_drewN (HT.out.b.trans (HB4.out.mono HT.out.b.size)) k5)
    clear HB2 HB3 HB4 hF hN
    go_wp2_with fail
    refine (alive_any _).mono ?_
    rintro e w6 ⟨rfl, h5⟩
    have H6 := Lib.hid (HB5.out.trans (h5.mono HB5.out.size))
    clear h5 HB5
    go_wp2_with fail
    refine (like_yes L1.out _).mono ?_
    rintro e w7 ⟨rfl, rfl⟩
    go_wp2_with fail
    go_ret
    exact ⟨rfl, H6.out⟩
end Go.Proofs.Ytnjieddkphappaa
