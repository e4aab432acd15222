/- Small words for the statements' walks; sha.Keyed. Parts of a slice of bytes, as a statement cuts them. -/
import Derived.Test.YtafpnpfiefbddaaDoorEq
namespace Go.Proofs.YtafpnpfiefbddaaDoor
set_option linter.unusedSimpArgs false
set_option linter.unusedVariables false
open Go.RowKit
set_option linter.unusedVariables false
set_option maxRecDepth 100000

theorem length_sha (b : List Nat) : (sha b).length = 32 := by rw [sha_is]; rfl
theorem below_write {n0 : Nat} {W0 w w' : World} {g : Nat} (B : Below n0 W0 w) (q : w.grownBy w' (some g)) (hg : n0 ≤ g) (hn : n0 ≤ W0.heap.size) : Below n0 W0 w' :=
  B.trans ⟨q.os, q.tape, q.output, q.size, fun i hi => q.block i (by have := B.size; omega) (by simp; omega)⟩
theorem Nb.far {W w : World} {A : Option Addr} {n c : Nat} {xs : List Nat} (h : Nb W W.heap.size A n c xs) (B : Below W.heap.size W w) : Nb w w.heap.size A n c xs := (h.below B).more B.size
theorem then_ {W w w' : World} (B : Below W.heap.size W w) (b : Below w.heap.size w w') : Below W.heap.size W w' := B.trans (b.mono B.size)

set_option maxHeartbeats 1000000 in
theorem keyed_any {w : World} (hk : Ks w) {A1 A2 : Option Addr} {n c m c2 : Nat} {xs ys : List Nat} (hx : Nb w w.heap.size A1 n c xs) (hy : Nb w w.heap.size A2 m c2 ys) (hs : n + m ≤ 1000000000) :
    Calls Tryd.prog 21 #[.slice A1 n c, .slice A2 m c2] w fun e w' => e = .returned (.agg (bs (sha (xs ++ ys))).toArray) ∧ Below w.heap.size w w' := by
  have hsz := hk.size
  have hxl := hx.len
  obtain ⟨D, hD⟩ : ∃ D, sha (xs ++ ys) = D := ⟨_, rfl⟩
  rw [hD]
  have hDl : (bs D).length = 32 := by rw [length_bs, ← hD, length_sha]
  have HD := Lib.hid hD
  have HDl := Lib.hid hDl
  have Hxl := Lib.hid hxl
  have h0 : Bb (w.alloc (Yb 60 (List.replicate 32 0))) w.heap.size 60 (List.replicate 32 0) := alloc_bb w _ _
  have b0 : Below w.heap.size w (w.alloc (Yb 60 (List.replicate 32 0))) := (Below.refl _ _).alloc (Nat.le_refl _) _
  clear hD hDl hxl
  go_enter Tryd.func21, Tryd.ntmps21
  go_wp2_with fail
  change Calls _ _ _ (w.alloc (Yb 60 (List.replicate 32 0))) _
  generalize w.alloc (Yb 60 (List.replicate 32 0)) = w0 at *
  refine (new_any w0).mono ?_
  rintro e w1 ⟨rfl, hh1, b1⟩
  have B1 := then_ b0 b1
  have g1 := h0.below b1 h0.lt
  have hlt := h0.lt
  have hg0 := b0.size
  generalize w0.heap.size = g at *
  clear h0 b0 b1
  go_wp2_with fail
  refine (write_any (hk.below B1 hsz) hh1 (hx.far B1) (by simp; omega) (by omega)).mono ?_
  rintro e w2 ⟨rfl, hh2, q2⟩
  have B2 := below_write B1 q2 (by omega) (Nat.le_refl _)
  have g2 : Bb w2 w.heap.size 60 (List.replicate 32 0) := (q2.block _ g1.lt (by simp; omega)).trans g1
  rw [List.nil_append] at hh2
  clear hh1 q2 g1
  go_wp2_with fail
  refine (write_any (hk.below B2 hsz) hh2 (hy.far B2) (by rw [Hxl.out]; omega) (by omega)).mono ?_
  rintro e w3 ⟨rfl, hh3, q3⟩
  have B3 := below_write B2 q3 (by omega) (Nat.le_refl _)
  have g3 : Bb w3 w.heap.size 60 (List.replicate 32 0) := (q3.block _ g2.lt (by simp; omega)).trans g2
  clear hh2 q3 g2
  go_wp2_with fail
  have hsum := sumOf_any (hk.below B3 hsz) hh3
  rw [HD.out] at hsum
  refine hsum.mono ?_
  rintro e w4 ⟨rfl, b4⟩
  have g4 := g3.below b4 g3.lt
  have B4 := then_ B3 b4
  go_wp2_with (refine wpList_store_row rfl rfl 60 (.tmp 4) (.tmp 14) rfl w.heap.size rfl (bs D) rfl 60 _ g4 (bs_one _) (by rw [HDl.out]; simp [bs]) (by rw [HDl.out]; kernel_rfl) ?_)
  have hr1 := setRow_heap w4 w.heap.size _ (bs D).toArray 60 (0, 0) g4
  exact bodyPost_ret (v := .agg (bs D).toArray) (results_cell_row rfl _ _ w.heap.size 60 _ (0, 0) _ rfl hr1 Tryd.underlying60 rfl (by rw [List.size_toArray, HDl.out]; kernel_rfl)) rfl ⟨rfl, below_setRow B4 (Nat.le_refl _) _⟩
end Go.Proofs.YtafpnpfiefbddaaDoor
namespace Go.Proofs.YtafpnpfiefbddaaDoor
open Go.RowKit
set_option linter.unusedVariables false
set_option maxRecDepth 100000

theorem elem22 : Tryd.prog.elem 25 = 5 := by kernel_rfl
theorem und22 : Tryd.prog.underlying 25 = some (.slice (Tryd.prog.elem 25)) := by rw [elem22]; exact Tryd.underlying25
theorem size5 (W : World) : (sizeOf (Tryd.prog.elem 25)).run Tryd.prog W = .ok 1 W := by rw [elem22]; kernel_rfl
theorem cut_nb {w : World} {B n c : Nat} {A : Option Addr} {xs : List Nat} (h : Nb w B A n c xs) (i k : Nat) (hik : i ≤ k) (hkn : k ≤ n) :
    Nb w B (if c = i then A else A.map (·.add (i * 1))) (k - i) (c - i) ((xs.drop i).take (k - i)) := by
  have hc := h.cap
  have hr := h.room
  by_cases h0 : k - i = 0
  · rw [h0, List.take_zero]
    exact Nb.nil w B (c - i) (by omega) _
  · obtain ⟨b, off, rfl, hb, -⟩ := h.cell (by omega)
    have := h.part rfl i (k - i) (c - i) (by omega) (by omega) (by omega)
    rw [if_neg (by omega)]
    by_cases hi : i = 0
    · subst hi; simpa [Addr.add] using this
    · simpa [Addr.add, hi] using this
theorem cut_lh {w : World} {B n c : Nat} {A : Option Addr} {xs : List Nat} (h : Nb w B A n c xs) (i k : Nat) (hik : i ≤ k) (hkn : k ≤ n) :
    ∃ A' c', (∀ W, (Instr.sliceAt 25 (.slice A n c) (some (.int .i64 (i : Int))) (some (.int .i64 (k : Int))) none).run Tryd.prog W = .ok (.slice A' (k - i) c') W) ∧ Nb w B A' (k - i) c' ((xs.drop i).take (k - i)) := by
  have hc := h.cap
  refine ⟨_, _, fun W => ?_, cut_nb h i k hik hkn⟩
  rw [run_sliceAt_slice W 25 _ _ _ _ und22, run_slice_lh W 25 A n c und22 .i64 .i64 i k (by omega) (by omega) (by omega), size5]
  simp [Result.andThen, sliced]
theorem cut_h {w : World} {B n c : Nat} {A : Option Addr} {xs : List Nat} (h : Nb w B A n c xs) (k : Nat) (hkn : k ≤ n) :
    ∃ A' c', (∀ W, (Instr.sliceAt 25 (.slice A n c) none (some (.int .i64 (k : Int))) none).run Tryd.prog W = .ok (.slice A' k c') W) ∧ Nb w B A' k c' (xs.take k) := by
  have hc := h.cap
  have hn := cut_nb h 0 k (by omega) hkn
  rw [Nat.sub_zero, List.drop_zero, Nat.sub_zero] at hn
  refine ⟨_, _, fun W => ?_, hn⟩
  rw [run_sliceAt_slice W 25 _ _ _ _ und22, run_slice_h W 25 A n c und22 .i64 k (by omega) (by omega), size5]
  simp [Result.andThen, sliced]
theorem cut_l {w : World} {B n c : Nat} {A : Option Addr} {xs : List Nat} (h : Nb w B A n c xs) (i : Nat) (hin : i ≤ n) :
    ∃ A' c', (∀ W, (Instr.sliceAt 25 (.slice A n c) (some (.int .i64 (i : Int))) none none).run Tryd.prog W = .ok (.slice A' (n - i) c') W) ∧ Nb w B A' (n - i) c' (xs.drop i) := by
  have hc := h.cap
  have hn := cut_nb h i n hin (Nat.le_refl _)
  rw [List.take_of_length_le (by rw [List.length_drop, h.len]; omega)] at hn
  refine ⟨_, _, fun W => ?_, hn⟩
  rw [run_sliceAt_slice W 25 _ _ _ _ und22, run_slice_l W 25 A n c und22 .i64 i (by omega) (by omega), size5]
  simp [Result.andThen, sliced]
end Go.Proofs.YtafpnpfiefbddaaDoor
