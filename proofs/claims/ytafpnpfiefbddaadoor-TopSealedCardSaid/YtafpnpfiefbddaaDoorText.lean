/- Bytes told as a string; the beginning of a block. -/
import Derived.Test.YtafpnpfiefbddaaDoorSt
import Derived.Laws.BytesArg
namespace Go.Proofs.YtafpnpfiefbddaaDoor
set_option linter.unusedSimpArgs false
set_option linter.unusedVariables false
open Go.RowKit
set_option linter.unusedVariables false
set_option maxRecDepth 100000

/-- the text of some bytes -/
def bstr (xs : List Nat) : ByteArray := strOfNums (xs.map fun x : Nat => (x : Int))
theorem conv_bb {w : World} {g : Nat} {xs : List Nat} (h : Bb w g 5 xs) (n c : Nat) (hn : n ≤ xs.length) : (convert 25 9 (.slice (some ⟨g, 0, none⟩) n c)).run Tryd.prog w = .ok (.string (bstr (xs.take n))) w := by
  have h9 : Tryd.prog.underlying 9 = some .string := by kernel_rfl
  refine run_convert_bytes_arg w 25 5 Tryd.underlying25 Tryd.underlying5 g 0 n c ((xs.take n).map fun x : Nat => (x : Int)) (by simp; omega) (fun i hi => ?_) 9 h9
  have hc := h.cellD (j := i) (by omega)
  have hl : i < xs.length := by omega
  rw [Nat.zero_add, hc]
  simp [List.getD, hi, List.getElem?_eq_getElem hl]
theorem conv_nb {w : World} {B n c b off : Nat} {xs : List Nat} (h : Nb w B (some ⟨b, off, none⟩) n c xs) : (convert 25 9 (.slice (some ⟨b, off, none⟩) n c)).run Tryd.prog w = .ok (.string (bstr xs)) w := by
  have h9 : Tryd.prog.underlying 9 = some .string := by kernel_rfl
  refine run_convert_bytes_arg w 25 5 Tryd.underlying25 Tryd.underlying5 b off n c (xs.map fun x : Nat => (x : Int)) (by simp [h.len]) (fun i hi => ?_) 9 h9
  obtain ⟨b', off', e, _, hc⟩ := h.at_ hi
  cases e
  rw [hc]
  have : i < xs.length := by rw [h.len]; exact hi
  simp [List.getD, List.getElem?_eq_getElem this]
theorem cut_out (g n m : Nat) (hnm : n ≤ m) (hm : m ≤ 4096) (W : World) : (Instr.sliceAt 25 (.slice (some ⟨g, 0, none⟩) m m) none (some (.int .i64 (n : Int))) none).run Tryd.prog W = .ok (.slice (some ⟨g, 0, none⟩) n m) W := by
  rw [run_sliceAt_slice W 25 _ _ _ _ und22, run_slice_h W 25 _ m m und22 .i64 n (by omega) (by omega), size5]
  simp [Result.andThen, sliced, Addr.add]
end Go.Proofs.YtafpnpfiefbddaaDoor
