/- The reference's Slice, Keyed, Trunc. -/
import Derived.Test.YtonfpomgkgljiaaDoorText2
import Derived.Test.YtonfpomgkgljiaaDoorExpand
namespace Go.Proofs.YtonfpomgkgljiaaDoor
open Go.RowKit
set_option linter.unusedVariables false
set_option maxRecDepth 100000

theorem take_next (D : List Nat) (k : Nat) (h : k < D.length) : D.take (k + 1) = D.take k ++ [D.getD k 0] := by
  rw [List.take_succ_eq_append_getElem h]
  simp [List.getD, List.getElem?_eq_getElem h]
theorem rslice_any (D : List Nat) (hD : D.length = 32) (hL : Lim 256 D) (w : World) : Calls Tryd.prog 29 #[.agg (bs D).toArray] w fun e w' => ∃ A' c', e = .returned (.slice A' 32 c') ∧ Nb w' w'.heap.size A' 32 c' D ∧ Below w.heap.size w w' := by
  have x0 : Bb (w.alloc (Yb 45 D)) w.heap.size 45 D := alloc_bb w 45 D
  have b0 : Below w.heap.size w (w.alloc (Yb 45 D)) := (Below.refl _ _).alloc (Nat.le_refl _) _
  have s0 : (w.alloc (Yb 45 D)).heap.size = w.heap.size + 1 := by simp
  obtain ⟨w1, hw1⟩ : ∃ w1, w.alloc (Yb 45 D) = w1 := ⟨_, rfl⟩
  rw [hw1] at x0 b0 s0
  have gn := Gb.nil w1 w1.heap.size
  have HW := Lib.hid hw1
  have HD := Lib.hid hD
  have HN := Lib.hid (take_next D)
  have hlt : w.heap.size < w1.heap.size := by omega
  clear hw1 hD s0
  go_enter Tryd.func29, Tryd.ntmps29
  go_wp2
  change Code.wp _ _ _ _ (w.alloc (Yb 45 D))
  rw [HW.out]
  clear HW
  go_loopw [4, 3] (fun i v wr => ∃ k : Nat, k ≤ 32 ∧ i = .int .i64 k ∧ ∃ A c, v = .slice A k c ∧ Gb wr w1.heap.size A k c (D.take k) ∧ Below w1.heap.size w1 wr) (fun i _ _ => 32 - (intOf i).toNat)
  case atStart => exact ⟨0, by omega, rfl, none, 0, rfl, by simpa using gn, Below.refl _ _⟩
  case round =>
    obtain ⟨k, hk, rfl, A5, c5, rfl, hG, hB⟩ := hrel
    have hs := hB.size
    by_cases h32 : k < 32
    · have r1 := (x0.below hB hlt).cellD (j := k) (by rw [HD.out]; exact h32)
      have Hn := Lib.hid (HN.out k (by rw [HD.out]; exact h32))
      generalize D.getD k 0 = y at *
      have hG' := hG.alloc (.cells #[.int .u8 (y : Int)] 5)
      have hB' := hB.alloc hs (.cells #[.int .u8 (y : Int)] 5)
      have hc := cell_new wr (.int .u8 (y : Int)) 5
      go_wp2_with (refine wpList_app_b _ rfl (.tmp 9) (.tmp 13) rfl rfl hG' rfl hc (by omega) hB' (by simp; omega) ?_; intro A7 c7 w7 hG7 hB7)
      go_roundw
      case rel => exact ⟨k + 1, by omega, by go_num, A7, c7, rfl, by rw [Hn.out]; exact hG7, hB7⟩
      case measure => simp [intOf]; omega
    · have e : k = 32 := by omega
      subst e
      rw [List.take_of_length_le (Nat.le_of_eq HD.out)] at hG
      have HNb := Lib.hid (hG.nb hL)
      clear hG h32
      go_wp2
      go_ret
      exact ⟨_, _, rfl, HNb.out, b0.trans (hB.mono (by omega))⟩
theorem rkeyed_any {w : World} {A1 A2 : Option Addr} {n c m c2 : Nat} {xs ys : List Nat} (hx : Nb w w.heap.size A1 n c xs) (hy : Nb w w.heap.size A2 m c2 ys) (hs : n + m ≤ 1000000) :
    Calls Tryd.prog 37 #[.slice A1 n c, .slice A2 m c2] w fun e w' => e = .returned (.agg (bs (sha (xs ++ ys))).toArray) ∧ Below w.heap.size w w' := by
  have o1 : Bb (w.alloc (Yb 45 (List.replicate 32 0))) w.heap.size 45 (List.replicate 32 0) := alloc_bb w 45 _
  have b1 : Below w.heap.size w (w.alloc (Yb 45 (List.replicate 32 0))) := (Below.refl _ _).alloc (Nat.le_refl _) _
  obtain ⟨w1, hw1⟩ : ∃ w1, w.alloc (Yb 45 (List.replicate 32 0)) = w1 := ⟨_, rfl⟩
  rw [hw1] at o1 b1
  have HW := Lib.hid hw1
  have hL := hx.lim.append hy.lim
  have x1 := hx.far b1
  have y1 := hy.far b1
  have hl := length_sha (xs ++ ys)
  obtain ⟨D, hD⟩ : ∃ D, sha (xs ++ ys) = D := ⟨_, rfl⟩
  rw [hD] at hl ⊢
  have HD := Lib.hid hD
  have HDl : Hid ((bs D).length = 32) := Lib.hid (by rw [length_bs, hl])
  have Hj := Lib.hid (join_any x1 y1 (by omega))
  clear hw1 hD hl hx hy
  go_enter Tryd.func37, Tryd.ntmps37
  go_wp2_with fail
  change Calls _ _ _ (w.alloc (Yb 45 (List.replicate 32 0))) _
  rw [HW.out]
  refine Hj.out.mono ?_
  rintro e w2 ⟨A3, c3, rfl, g3, b2⟩
  have o2 := o1.below b2 o1.lt
  have B2 := then_ b1 b2
  have hs3 := rsum_any (g3.nb hL) (by omega)
  rw [HD.out] at hs3
  have HS3 := Lib.hid hs3
  clear g3 o1 b1 b2 hs3 Hj
  go_wp2_with fail
  refine HS3.out.mono ?_
  rintro e w4 ⟨rfl, b4⟩
  have o4 := o2.below b4 o2.lt
  have B4 := then_ B2 b4
  clear o2 b4 B2 HS3
  go_wp2_with (refine wpList_store_row rfl rfl 45 (.tmp 4) (.tmp 8) rfl w.heap.size rfl (bs D) rfl 45 _ o4 (bs_one _) (by rw [HDl.out]; simp [bs]) (by rw [HDl.out]; kernel_rfl) ?_)
  have hr1 := setRow_heap w4 w.heap.size _ (bs D).toArray 45 (0, 0) o4
  exact bodyPost_ret (v := .agg (bs D).toArray) (results_cell_row rfl _ _ w.heap.size 45 _ (0, 0) _ rfl hr1 Tryd.underlying45 rfl (by rw [List.size_toArray, HDl.out]; kernel_rfl)) rfl ⟨rfl, below_setRow B4 (Nat.le_refl _) _⟩
end Go.Proofs.YtonfpomgkgljiaaDoor
