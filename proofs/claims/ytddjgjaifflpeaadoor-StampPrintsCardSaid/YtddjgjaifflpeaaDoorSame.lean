/- Arrays of ten bytes are held against each other. -/
import Derived.Test.YtddjgjaifflpeaaDoorCut
import Derived.DeepKeys
namespace Go.Proofs.YtddjgjaifflpeaaDoor
open Go.RowKit
set_option linter.unusedVariables false
set_option maxRecDepth 100000
def lt8 (xs : List Nat) : List Lit := xs.map fun x : Nat => .int .u8 (x : Int)
theorem lt8_inj {xs ys : List Nat} : lt8 xs = lt8 ys ↔ xs = ys := by
  constructor
  · intro h
    unfold lt8 at h
    exact (List.map_inj_right (by intro a b h; simp only [Lit.int.injEq, true_and] at h; omega)).1 h
  · rintro rfl; rfl
theorem key_one (x : Nat) (h : x < 256) : Tryd.prog.keyLits 4 5 [.int .u8 (x : Int)] = some [.int .u8 (x : Int)] := by
  have hw : (Lit.int .u8 (x : Int)).wf = true := by simp [Lit.wf, IntKind.min, IntKind.max, IntKind.signed, IntKind.bits]; omega
  unfold Program.keyLits
  simp only [Tryd.underlying5]
  rw [if_pos ⟨trivial, hw⟩]
theorem key_ten (xs : List Nat) (h : xs.length = 10) (hL : Lim 256 xs) : (Value.agg (bs xs).toArray).formed Tryd.prog 51 = true ∧ Tryd.prog.keyLits 5 51 (Value.agg (bs xs).toArray).cells.toList = some (lt8 xs) := by
  have c1 : Tryd.prog.cellsOf 5 = 1 := by kernel_rfl
  have c2 : Tryd.prog.cellsOf 51 = 10 := by kernel_rfl
  match xs, h, hL with
  | [x0, x1, x2, x3, x4, x5, x6, x7, x8, x9], _, hL =>
    refine ⟨by kernel_rfl, ?_⟩
    have k0 := key_one x0 (hL x0 (by simp))
    have k1 := key_one x1 (hL x1 (by simp))
    have k2 := key_one x2 (hL x2 (by simp))
    have k3 := key_one x3 (hL x3 (by simp))
    have k4 := key_one x4 (hL x4 (by simp))
    have k5 := key_one x5 (hL x5 (by simp))
    have k6 := key_one x6 (hL x6 (by simp))
    have k7 := key_one x7 (hL x7 (by simp))
    have k8 := key_one x8 (hL x8 (by simp))
    have k9 := key_one x9 (hL x9 (by simp))
    show Tryd.prog.keyLits 5 51 [.int .u8 x0, .int .u8 x1, .int .u8 x2, .int .u8 x3, .int .u8 x4, .int .u8 x5, .int .u8 x6, .int .u8 x7, .int .u8 x8, .int .u8 x9] = _
    unfold Program.keyLits
    simp only [Tryd.underlying51, c1, c2]
    rw [if_pos (by rfl)]
    simp [List.range_succ, k0, k1, k2, k3, k4, k5, k6, k7, k8, k9, lt8]
theorem neq_ten (A B : List Nat) (hA : A.length = 10) (hB : B.length = 10) (mA : Lim 256 A) (mB : Lim 256 B) (W : World) : (binOp .neq 51 (.agg (bs A).toArray) (.agg (bs B).toArray)).run Tryd.prog W = .ok (.bool (decide (A ≠ B))) W := by
  obtain ⟨f1, k1⟩ := key_ten A hA mA
  obtain ⟨f2, k2⟩ := key_ten B hB mB
  obtain ⟨r, hr, hiff⟩ := run_equalIn_deep (P := Tryd.prog) 9995 5 51 (by kernel_rfl) W 5 5 _ _ _ _ f1 f2 k1 k2
  rw [lt8_inj] at hiff
  rw [run_neq_struct, hr]
  simp only [Result.andThen]
  congr 2
  cases r
  · have : A ≠ B := fun e => by have := hiff.2 e; cases this
    simp [this]
  · have : A = B := hiff.1 rfl
    simp [this]
theorem eql_ten (A B : List Nat) (hA : A.length = 10) (hB : B.length = 10) (mA : Lim 256 A) (mB : Lim 256 B) (W : World) : (binOp .eql 51 (.agg (bs A).toArray) (.agg (bs B).toArray)).run Tryd.prog W = .ok (.bool (decide (A = B))) W := by
  obtain ⟨f1, k1⟩ := key_ten A hA mA
  obtain ⟨f2, k2⟩ := key_ten B hB mB
  obtain ⟨r, hr, hiff⟩ := run_equalIn_deep (P := Tryd.prog) 9995 5 51 (by kernel_rfl) W 5 5 _ _ _ _ f1 f2 k1 k2
  rw [lt8_inj] at hiff
  rw [run_eql_struct, hr]
  simp only [Result.andThen]
  congr 2
  cases r
  · have : A ≠ B := fun e => by have := hiff.2 e; cases this
    simp [this]
  · have : A = B := hiff.1 rfl
    simp [this]
end Go.Proofs.YtddjgjaifflpeaaDoor
