/- The reference's Four and Expand. -/
import Derived.Test.YtonfpomgkgljiaaDoorRef4
namespace Go.Proofs.YtonfpomgkgljiaaDoor
open Go.RowKit
set_option linter.unusedVariables false
set_option maxRecDepth 100000

theorem four_any (x : Nat) (hx : x < 4294967296) (w : World) : Calls Tryd.prog 49 #[.int .u32 (x : Int)] w fun e w' => ∃ A' c', e = .returned (.slice A' 4 c') ∧ Nb w' w'.heap.size A' 4 c' (by4 x) ∧ Below w.heap.size w w' := by
  have gn := Gb.nil w w.heap.size
  go_enter Tryd.func49, Tryd.ntmps49
  go_wp2
  go_loopw [4, 3] (fun i v wr => ∃ j : Nat, j ≤ 4 ∧ i = .int .i64 (3 - (j : Int)) ∧ ∃ A c, v = .slice A j c ∧ Gb wr w.heap.size A j c ((by4 x).take j) ∧ Below w.heap.size w wr) (fun i _ _ => ((intOf i) + 1).toNat)
  case atStart => exact ⟨0, by omega, rfl, none, 0, rfl, by simpa using gn, Below.refl _ _⟩
  case round =>
    obtain ⟨j, hj, rfl, A5, c5, rfl, hG, hB⟩ := hrel
    have hs := hB.size
    by_cases h4 : j < 4
    · have Hn := Lib.hid (take_next (by4 x) j (by simp [by4]; omega))
      have e0 : (x : Int) / 16777216 = (((by4 x).getD 0 0 : Nat) : Int) := by simp only [by4, List.getD, List.getElem?_cons_zero, Option.getD_some]; omega
      have e1 : (x : Int) / 65536 % 256 = (((by4 x).getD 1 0 : Nat) : Int) := by simp only [by4, List.getD, List.getElem?_cons_zero, List.getElem?_cons_succ, Option.getD_some]; omega
      have e2 : (x : Int) / 256 % 256 = (((by4 x).getD 2 0 : Nat) : Int) := by simp only [by4, List.getD, List.getElem?_cons_zero, List.getElem?_cons_succ, Option.getD_some]; omega
      have e3 : (x : Int) % 256 = (((by4 x).getD 3 0 : Nat) : Int) := by simp only [by4, List.getD, List.getElem?_cons_zero, List.getElem?_cons_succ, Option.getD_some]; omega
      have hG' := hG.alloc (.cells #[.int .u8 (((by4 x).getD j 0 : Nat) : Int)] 5)
      have hB' := hB.alloc hs (.cells #[.int .u8 (((by4 x).getD j 0 : Nat) : Int)] 5)
      have hc := cell_new wr (.int .u8 (((by4 x).getD j 0 : Nat) : Int)) 5
      have hh : j = 0 ∨ j = 1 ∨ j = 2 ∨ j = 3 := by omega
      clear h4
      rcases hh with rfl | rfl | rfl | rfl
      · generalize (by4 x).getD 0 0 = y at *
        go_wp2_with (refine wpList_app_b _ rfl (.tmp 9) (.tmp 16) rfl rfl hG' rfl hc (by omega) hB' (by simp; omega) ?_; intro A7 c7 w7 hG7 hB7)
        go_roundw
        case rel => exact ⟨1, by omega, rfl, A7, c7, rfl, by rw [Hn.out]; exact hG7, hB7⟩
        case measure => simp [intOf]
      · generalize (by4 x).getD 1 0 = y at *
        go_wp2_with (refine wpList_app_b _ rfl (.tmp 9) (.tmp 16) rfl rfl hG' rfl hc (by omega) hB' (by simp; omega) ?_; intro A7 c7 w7 hG7 hB7)
        go_roundw
        case rel => exact ⟨2, by omega, rfl, A7, c7, rfl, by rw [Hn.out]; exact hG7, hB7⟩
        case measure => simp [intOf]
      · generalize (by4 x).getD 2 0 = y at *
        go_wp2_with (refine wpList_app_b _ rfl (.tmp 9) (.tmp 16) rfl rfl hG' rfl hc (by omega) hB' (by simp; omega) ?_; intro A7 c7 w7 hG7 hB7)
        go_roundw
        case rel => exact ⟨3, by omega, rfl, A7, c7, rfl, by rw [Hn.out]; exact hG7, hB7⟩
        case measure => simp [intOf]
      · generalize (by4 x).getD 3 0 = y at *
        go_wp2_with (refine wpList_app_b _ rfl (.tmp 9) (.tmp 16) rfl rfl hG' rfl hc (by omega) hB' (by simp; omega) ?_; intro A7 c7 w7 hG7 hB7)
        go_roundw
        case rel => exact ⟨4, by omega, rfl, A7, c7, rfl, by rw [Hn.out]; exact hG7, hB7⟩
        case measure => simp [intOf]
    · have e : j = 4 := by omega
      subst e
      rw [List.take_of_length_le (by simp [by4])] at hG
      have HNb := Lib.hid (hG.nb (by4_lim x))
      clear hG h4
      go_wp2
      go_ret
      exact ⟨_, _, rfl, HNb.out, hB⟩
theorem Gb.below {w w' : World} {base n c : Nat} {A : Option Addr} {xs : List Nat} (h : Gb w base A n c xs) (b : Below w.heap.size w w') : Gb w' base A n c xs := by
  refine ⟨h.1, h.2.1, ?_⟩
  rcases h.2.2 with h' | ⟨g, cap, cur, e, hg, hh, hr⟩
  · exact Or.inl h'
  · have hlt : g < w.heap.size := by
      rcases Nat.lt_or_ge g w.heap.size with hlt | hge
      · exact hlt
      · rw [Array.getElem?_eq_none hge] at hh; cases hh
    exact Or.inr ⟨g, cap, cur, e, hg, (b.block g hlt).trans hh, hr⟩
end Go.Proofs.YtonfpomgkgljiaaDoor
