/- Small words for the statements' walks; sha.Keyed. -/
import Derived.Test.YtonfpomgkgljiaaDoorEq
namespace Go.Proofs.YtonfpomgkgljiaaDoor
open Go.RowKit
set_option linter.unusedVariables false
set_option maxRecDepth 100000

theorem length_sha (b : List Nat) : (sha b).length = 32 := by rw [sha_is]; rfl
theorem below_write {n0 : Nat} {W0 w w' : World} {g : Nat} (B : Below n0 W0 w) (q : w.grownBy w' (some g)) (hg : n0 ≤ g) (hn : n0 ≤ W0.heap.size) : Below n0 W0 w' :=
  B.trans ⟨q.os, q.tape, q.output, q.size, fun i hi => q.block i (by have := B.size; omega) (by simp; omega)⟩
theorem Nb.far {W w : World} {A : Option Addr} {n c : Nat} {xs : List Nat} (h : Nb W W.heap.size A n c xs) (B : Below W.heap.size W w) : Nb w w.heap.size A n c xs := (h.below B).more B.size
theorem then_ {W w w' : World} (B : Below W.heap.size W w) (b : Below w.heap.size w w') : Below W.heap.size W w' := B.trans (b.mono B.size)

set_option maxHeartbeats 1000000 in
theorem keyed_any {w : World} (hk : Ks w) {A1 A2 : Option Addr} {n c m c2 : Nat} {xs ys : List Nat} (hx : Nb w w.heap.size A1 n c xs) (hy : Nb w w.heap.size A2 m c2 ys) (hs : n + m ≤ 1000000000) :
    Calls Tryd.prog 34 #[.slice A1 n c, .slice A2 m c2] w fun e w' => e = .returned (.agg (bs (sha (xs ++ ys))).toArray) ∧ Below w.heap.size w w' := by
  have hsz := hk.size
  have hxl := hx.len
  obtain ⟨D, hD⟩ : ∃ D, sha (xs ++ ys) = D := ⟨_, rfl⟩
  rw [hD]
  have hDl : (bs D).length = 32 := by rw [length_bs, ← hD, length_sha]
  have HD := Lib.hid hD
  have HDl := Lib.hid hDl
  have Hxl := Lib.hid hxl
  have h0 : Bb (w.alloc (Yb 45 (List.replicate 32 0))) w.heap.size 45 (List.replicate 32 0) := alloc_bb w _ _
  have b0 : Below w.heap.size w (w.alloc (Yb 45 (List.replicate 32 0))) := (Below.refl _ _).alloc (Nat.le_refl _) _
  clear hD hDl hxl
  go_enter Tryd.func34, Tryd.ntmps34
  go_wp2_with fail
  change Calls _ _ _ (w.alloc (Yb 45 (List.replicate 32 0))) _
  generalize w.alloc (Yb 45 (List.replicate 32 0)) = w0 at *
  refine (new_any w0).mono ?_
  rintro e w1 ⟨rfl, hh1, b1⟩
  have B1 := then_ b0 b1
  have g1 := h0.below b1 h0.lt
  have hlt := h0.lt
  have hg0 := b0.size
  generalize w0.heap.size = g at *
  clear h0 b0 b1
  go_wp2_with fail
  refine (write_any (hk.below B1 hsz) hh1 (hx.far B1) (by simp; omega) (by omega)).mono ?_
  rintro e w2 ⟨rfl, hh2, q2⟩
  have B2 := below_write B1 q2 (by omega) (Nat.le_refl _)
  have g2 : Bb w2 w.heap.size 45 (List.replicate 32 0) := (q2.block _ g1.lt (by simp; omega)).trans g1
  rw [List.nil_append] at hh2
  clear hh1 q2 g1
  go_wp2_with fail
  refine (write_any (hk.below B2 hsz) hh2 (hy.far B2) (by rw [Hxl.out]; omega) (by omega)).mono ?_
  rintro e w3 ⟨rfl, hh3, q3⟩
  have B3 := below_write B2 q3 (by omega) (Nat.le_refl _)
  have g3 : Bb w3 w.heap.size 45 (List.replicate 32 0) := (q3.block _ g2.lt (by simp; omega)).trans g2
  clear hh2 q3 g2
  go_wp2_with fail
  have hsum := sumOf_any (hk.below B3 hsz) hh3
  rw [HD.out] at hsum
  refine hsum.mono ?_
  rintro e w4 ⟨rfl, b4⟩
  have g4 := g3.below b4 g3.lt
  have B4 := then_ B3 b4
  go_wp2_with (refine wpList_store_row rfl rfl 45 (.tmp 4) (.tmp 14) rfl w.heap.size rfl (bs D) rfl 45 _ g4 (bs_one _) (by rw [HDl.out]; simp [bs]) (by rw [HDl.out]; kernel_rfl) ?_)
  have hr1 := setRow_heap w4 w.heap.size _ (bs D).toArray 45 (0, 0) g4
  exact bodyPost_ret (v := .agg (bs D).toArray) (results_cell_row rfl _ _ w.heap.size 45 _ (0, 0) _ rfl hr1 Tryd.underlying45 rfl (by rw [List.size_toArray, HDl.out]; kernel_rfl)) rfl ⟨rfl, below_setRow B4 (Nat.le_refl _) _⟩
end Go.Proofs.YtonfpomgkgljiaaDoor
