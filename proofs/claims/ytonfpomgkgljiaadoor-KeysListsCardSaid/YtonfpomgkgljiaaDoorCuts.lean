/- Parts of a slice of bytes, as a statement cuts them. -/
import Derived.Test.YtonfpomgkgljiaaDoorSteps
namespace Go.Proofs.YtonfpomgkgljiaaDoor
open Go.RowKit
set_option linter.unusedVariables false
set_option maxRecDepth 100000

theorem elem22 : Tryd.prog.elem 23 = 5 := by kernel_rfl
theorem und22 : Tryd.prog.underlying 23 = some (.slice (Tryd.prog.elem 23)) := by rw [elem22]; exact Tryd.underlying23
theorem size5 (W : World) : (sizeOf (Tryd.prog.elem 23)).run Tryd.prog W = .ok 1 W := by rw [elem22]; kernel_rfl
theorem cut_nb {w : World} {B n c : Nat} {A : Option Addr} {xs : List Nat} (h : Nb w B A n c xs) (i k : Nat) (hik : i ≤ k) (hkn : k ≤ n) :
    Nb w B (if c = i then A else A.map (·.add (i * 1))) (k - i) (c - i) ((xs.drop i).take (k - i)) := by
  have hc := h.cap
  have hr := h.room
  by_cases h0 : k - i = 0
  · rw [h0, List.take_zero]
    exact Nb.nil w B (c - i) (by omega) _
  · obtain ⟨b, off, rfl, hb, -⟩ := h.cell (by omega)
    have := h.part rfl i (k - i) (c - i) (by omega) (by omega) (by omega)
    rw [if_neg (by omega)]
    by_cases hi : i = 0
    · subst hi; simpa [Addr.add] using this
    · simpa [Addr.add, hi] using this
theorem cut_lh {w : World} {B n c : Nat} {A : Option Addr} {xs : List Nat} (h : Nb w B A n c xs) (i k : Nat) (hik : i ≤ k) (hkn : k ≤ n) :
    ∃ A' c', (∀ W, (Instr.sliceAt 23 (.slice A n c) (some (.int .i64 (i : Int))) (some (.int .i64 (k : Int))) none).run Tryd.prog W = .ok (.slice A' (k - i) c') W) ∧ Nb w B A' (k - i) c' ((xs.drop i).take (k - i)) := by
  have hc := h.cap
  refine ⟨_, _, fun W => ?_, cut_nb h i k hik hkn⟩
  rw [run_sliceAt_slice W 23 _ _ _ _ und22, run_slice_lh W 23 A n c und22 .i64 .i64 i k (by omega) (by omega) (by omega), size5]
  simp [Result.andThen, sliced]
theorem cut_h {w : World} {B n c : Nat} {A : Option Addr} {xs : List Nat} (h : Nb w B A n c xs) (k : Nat) (hkn : k ≤ n) :
    ∃ A' c', (∀ W, (Instr.sliceAt 23 (.slice A n c) none (some (.int .i64 (k : Int))) none).run Tryd.prog W = .ok (.slice A' k c') W) ∧ Nb w B A' k c' (xs.take k) := by
  have hc := h.cap
  have hn := cut_nb h 0 k (by omega) hkn
  rw [Nat.sub_zero, List.drop_zero, Nat.sub_zero] at hn
  refine ⟨_, _, fun W => ?_, hn⟩
  rw [run_sliceAt_slice W 23 _ _ _ _ und22, run_slice_h W 23 A n c und22 .i64 k (by omega) (by omega), size5]
  simp [Result.andThen, sliced]
theorem cut_l {w : World} {B n c : Nat} {A : Option Addr} {xs : List Nat} (h : Nb w B A n c xs) (i : Nat) (hin : i ≤ n) :
    ∃ A' c', (∀ W, (Instr.sliceAt 23 (.slice A n c) (some (.int .i64 (i : Int))) none none).run Tryd.prog W = .ok (.slice A' (n - i) c') W) ∧ Nb w B A' (n - i) c' (xs.drop i) := by
  have hc := h.cap
  have hn := cut_nb h i n hin (Nat.le_refl _)
  rw [List.take_of_length_le (by rw [List.length_drop, h.len]; omega)] at hn
  refine ⟨_, _, fun W => ?_, hn⟩
  rw [run_sliceAt_slice W 23 _ _ _ _ und22, run_slice_l W 23 A n c und22 .i64 i (by omega) (by omega), size5]
  simp [Result.andThen, sliced]
end Go.Proofs.YtonfpomgkgljiaaDoor
