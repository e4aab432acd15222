/- The reference's Four and Expand. -/
import Derived.Test.YtnkkjfkchmlogaaDoorRef4
namespace Go.Proofs.YtnkkjfkchmlogaaDoor
open Go.RowKit
set_option linter.unusedVariables false
set_option maxRecDepth 100000

theorem four_any (x : Nat) (hx : x < 4294967296) (w : World) : Calls Tryd.prog 40 #[.int .u32 (x : Int)] w fun e w' => ∃ A' c', e = .returned (.slice A' 4 c') ∧ Nb w' w'.heap.size A' 4 c' (by4 x) ∧ Below w.heap.size w w' := by
  have gn := Gb.nil w w.heap.size
  go_enter Tryd.func40, Tryd.ntmps40
  go_wp2
  go_loopw [4, 3] (fun i v wr => ∃ j : Nat, j ≤ 4 ∧ i = .int .i64 (3 - (j : Int)) ∧ ∃ A c, v = .slice A j c ∧ Gb wr w.heap.size A j c ((by4 x).take j) ∧ Below w.heap.size w wr) (fun i _ _ => ((intOf i) + 1).toNat)
  case atStart => exact ⟨0, by omega, rfl, none, 0, rfl, by simpa using gn, Below.refl _ _⟩
  case round =>
    obtain ⟨j, hj, rfl, A5, c5, rfl, hG, hB⟩ := hrel
    have hs := hB.size
    by_cases h4 : j < 4
    · have Hn := Lib.hid (take_next (by4 x) j (by simp [by4]; omega))
      have e0 : (x : Int) / 16777216 = (((by4 x).getD 0 0 : Nat) : Int) := by simp only [by4, List.getD, List.getElem?_cons_zero, Option.getD_some]; omega
      have e1 : (x : Int) / 65536 % 256 = (((by4 x).getD 1 0 : Nat) : Int) := by simp only [by4, List.getD, List.getElem?_cons_zero, List.getElem?_cons_succ, Option.getD_some]; omega
      have e2 : (x : Int) / 256 % 256 = (((by4 x).getD 2 0 : Nat) : Int) := by simp only [by4, List.getD, List.getElem?_cons_zero, List.getElem?_cons_succ, Option.getD_some]; omega
      have e3 : (x : Int) % 256 = (((by4 x).getD 3 0 : Nat) : Int) := by simp only [by4, List.getD, List.getElem?_cons_zero, List.getElem?_cons_succ, Option.getD_some]; omega
      have hG' := hG.alloc (.cells #[.int .u8 (((by4 x).getD j 0 : Nat) : Int)] 5)
      have hB' := hB.alloc hs (.cells #[.int .u8 (((by4 x).getD j 0 : Nat) : Int)] 5)
      have hc := cell_new wr (.int .u8 (((by4 x).getD j 0 : Nat) : Int)) 5
      have hh : j = 0 ∨ j = 1 ∨ j = 2 ∨ j = 3 := by omega
      clear h4
      rcases hh with rfl | rfl | rfl | rfl
      · generalize (by4 x).getD 0 0 = y at *
        go_wp2_with (refine wpList_app_b _ rfl (.tmp 9) (.tmp 16) rfl rfl hG' rfl hc (by omega) hB' (by simp; omega) ?_; intro A7 c7 w7 hG7 hB7)
        go_roundw
        case rel => exact ⟨1, by omega, rfl, A7, c7, rfl, by rw [Hn.out]; exact hG7, hB7⟩
        case measure => simp [intOf]
      · generalize (by4 x).getD 1 0 = y at *
        go_wp2_with (refine wpList_app_b _ rfl (.tmp 9) (.tmp 16) rfl rfl hG' rfl hc (by omega) hB' (by simp; omega) ?_; intro A7 c7 w7 hG7 hB7)
        go_roundw
        case rel => exact ⟨2, by omega, rfl, A7, c7, rfl, by rw [Hn.out]; exact hG7, hB7⟩
        case measure => simp [intOf]
      · generalize (by4 x).getD 2 0 = y at *
        go_wp2_with (refine wpList_app_b _ rfl (.tmp 9) (.tmp 16) rfl rfl hG' rfl hc (by omega) hB' (by simp; omega) ?_; intro A7 c7 w7 hG7 hB7)
        go_roundw
        case rel => exact ⟨3, by omega, rfl, A7, c7, rfl, by rw [Hn.out]; exact hG7, hB7⟩
        case measure => simp [intOf]
      · generalize (by4 x).getD 3 0 = y at *
        go_wp2_with (refine wpList_app_b _ rfl (.tmp 9) (.tmp 16) rfl rfl hG' rfl hc (by omega) hB' (by simp; omega) ?_; intro A7 c7 w7 hG7 hB7)
        go_roundw
        case rel => exact ⟨4, by omega, rfl, A7, c7, rfl, by rw [Hn.out]; exact hG7, hB7⟩
        case measure => simp [intOf]
    · have e : j = 4 := by omega
      subst e
      rw [List.take_of_length_le (by simp [by4])] at hG
      have HNb := Lib.hid (hG.nb (by4_lim x))
      clear hG h4
      go_wp2
      go_ret
      exact ⟨_, _, rfl, HNb.out, hB⟩
theorem Gb.below {w w' : World} {base n c : Nat} {A : Option Addr} {xs : List Nat} (h : Gb w base A n c xs) (b : Below w.heap.size w w') : Gb w' base A n c xs := by
  refine ⟨h.1, h.2.1, ?_⟩
  rcases h.2.2 with h' | ⟨g, cap, cur, e, hg, hh, hr⟩
  · exact Or.inl h'
  · have hlt : g < w.heap.size := by
      rcases Nat.lt_or_ge g w.heap.size with hlt | hge
      · exact hlt
      · rw [Array.getElem?_eq_none hge] at hh; cases hh
    exact Or.inr ⟨g, cap, cur, e, hg, (b.block g hlt).trans hh, hr⟩
theorem rexpand_neg (A : Option Addr) (l c : Nat) (n : Int) (hn : n < 0) (hn' : -9223372036854775808 ≤ n) (w : World) : Calls Tryd.prog 26 #[.slice A l c, .int .i64 n] w fun e w' => e = .returned (.tuple #[.slice none 0 0, .int .i64 1]) ∧ w = w' := by
  go_enter Tryd.func26, Tryd.ntmps26
  go_wp2
  go_ret2
  exact ⟨rfl, rfl⟩
theorem rexpand_long (A : Option Addr) (l c : Nat) (n : Int) (hn : 4096 < n) (hn' : n ≤ 9223372036854775807) (w : World) : Calls Tryd.prog 26 #[.slice A l c, .int .i64 n] w fun e w' => e = .returned (.tuple #[.slice none 0 0, .int .i64 2]) ∧ w = w' := by
  go_enter Tryd.func26, Tryd.ntmps26
  go_wp2
  go_ret2
  exact ⟨rfl, rfl⟩
set_option maxHeartbeats 1000000 in
theorem rexpand_in {w : World} {A : Option Addr} {l c : Nat} {seed : List Nat} (hx : Nb w w.heap.size A l c seed) (hl : l ≤ 100000) (n : Nat) (hn : n ≤ 4096) :
    Calls Tryd.prog 26 #[.slice A l c, .int .i64 (n : Int)] w fun e w' => ∃ A' c', e = .returned (.tuple #[.slice A' n c', .int .i64 0]) ∧ Nb w' w'.heap.size A' n c' (expand seed n) ∧ Below w.heap.size w w' := by
  have gn := Gb.nil w w.heap.size
  have hLs := hx.lim
  have Hx := Lib.hid hx
  clear hx
  go_enter Tryd.func26, Tryd.ntmps26
  go_wp2
  go_loopw [7, 6] (fun i v wr => ∃ k : Nat, 32 * k ≤ n + 31 ∧ i = .int .i64 k ∧ ∃ A c, v = .slice A (32 * k) c ∧ Gb wr w.heap.size A (32 * k) c (expN seed k) ∧ Below w.heap.size w wr) (fun i _ _ => n + 32 - 32 * (intOf i).toNat)
  case atStart => exact ⟨0, by omega, rfl, none, 0, rfl, by simpa [expN] using gn, Below.refl _ _⟩
  case round =>
    clear gn
    obtain ⟨k, hk, rfl, A5, c5, rfl, hG, hB⟩ := hrel
    have hs := hB.size
    by_cases hlt : 32 * k < n
    · have HN : Hid (expN seed (k + 1) = expN seed k ++ sha (seed ++ by4 k)) := Lib.hid rfl
      have hl32 := length_sha (seed ++ by4 k)
      have hL32 := sha_lim (seed ++ by4 k)
      have hjl : Lim 256 (seed ++ by4 k) := hLs.append (by4_lim k)
      have ek : IntKind.u32.wrap (k : Int) = (k : Int) := by rw [IntKind.wrap_u32']; omega
      have H4 := Lib.hid (fun w => four_any k (by omega) w)
      obtain ⟨D, hD⟩ : ∃ D, sha (seed ++ by4 k) = D := ⟨_, rfl⟩
      rw [hD] at HN hl32 hL32
      have HD := Lib.hid hD
      have H36 := Lib.hid (fun w => rslice_any D hl32 hL32 w)
      clear hD hl32 hL32
      go_wp2_with fail
      refine (H4.out _).mono ?_
      rintro e w1 ⟨A1, c1, rfl, n1, b1⟩
      have B1 := then_ hB b1
      have g1 := hG.below b1
      clear hG hB b1
      go_wp2_with fail
      refine (join_any (Hx.out.far B1) n1 (by omega)).mono ?_
      rintro e w2 ⟨A2, c2, rfl, j2, b2⟩
      have B2 := then_ B1 b2
      have g2 := g1.below b2
      clear g1 b2 B1 n1
      have hs3 := rsum_any (j2.nb hjl) (by omega)
      rw [HD.out] at hs3
      go_wp2_with fail
      refine hs3.mono ?_
      rintro e w3 ⟨rfl, b3⟩
      have B3 := then_ B2 b3
      have g3 := g2.below b3
      clear g2 b3 B2 j2 hs3
      go_wp2_with fail
      refine (H36.out _).mono ?_
      rintro e w4 ⟨A4, c4, rfl, n4, b4⟩
      have B4 := then_ B3 b4
      have g4 := g3.below b4
      have s4 := B4.size
      clear g3 b4 B3
      go_wp2_with (refine wpList_app_row_b _ rfl (.tmp 18) (.tmp 25) rfl rfl g4 rfl n4 (by omega) B4 s4 ?_; intro A7 c7 w7 hG7 hB7)
      go_roundw
      case rel => exact ⟨k + 1, by omega, by go_num, A7, c7, by rw [show 32 * (k + 1) = 32 * k + 32 by omega], by rw [HN.out, show 32 * (k + 1) = 32 * k + 32 by omega]; exact hG7, hB7⟩
      case measure => simp [intOf]; omega
    · have HE : Hid ((expN seed k).take n = expand seed n) := Lib.hid (by unfold expand; rw [show (n + 31) / 32 = k by omega])
      have hNb := hG.nb (expN_lim seed k)
      obtain ⟨A3, c3, q3, n3⟩ := cut_h hNb n (by omega)
      rw [HE.out] at n3
      have hge : (n : Int) ≤ 32 * (k : Int) := by omega
      clear hG hlt hNb
      go_wp2
      go_ret2
      exact ⟨_, _, rfl, n3, hB⟩
end Go.Proofs.YtnkkjfkchmlogaaDoor
