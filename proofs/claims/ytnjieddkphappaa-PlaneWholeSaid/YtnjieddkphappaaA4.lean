/- plane: words that came in. -/
import Derived.Test.YtnjieddkphappaaA3
import Derived.Test.YtnjieddkphappaaP9
namespace Go.Proofs.Ytnjieddkphappaa
open Go.ChangeShapes Go.WideShapes Go.ChangeAt Go.RowKit
set_option maxRecDepth 100000
set_option linter.unusedVariables false
theorem words_open {H : Type} {enc : TypeId × Value → H} {W : World} {A : Option Addr} {n c : Nat} {fuel : Nat} {x : DataW H × List MemPlace} (hf : DataW.trod enc Try.prog W 0 (fun _ => true) true fuel 37 [.slice A n c] = some x) :
    ∃ xs, Ux W W.heap.size A n xs := by
  rcases open_ints Try.underlying37 Try.underlying22 (by kernel_rfl) hf with ⟨hcs, _⟩ | ⟨x, l, c, zs, hcs, _, hl, hm, hz, _, hcell, hwz⟩
  · simp at hcs
    obtain ⟨rfl, rfl, rfl⟩ := hcs
    exact ⟨[], rfl, .inl rfl⟩
  · simp at hcs
    obtain ⟨rfl, rfl, rfl⟩ := hcs
    simp at hz
    refine ⟨(zs.take n).map Int.toNat, by simp; omega, ?_⟩
    rcases Nat.eq_zero_or_pos n with h0 | h0
    · exact .inl h0
    · have hc0 := hcell 0 (by omega)
      obtain ⟨b, off, spot⟩ := x
      have hspot : spot = none := by simpa [Addr.add] using World.cell?_spot hc0
      subst hspot
      have hlt := World.block_lt_of_cell? W _ hc0
      refine .inr ⟨b, off, rfl, by simpa [Addr.add] using hlt, fun j t hj => ?_⟩
      rw [List.getElem?_map, List.getElem?_take] at hj
      split at hj
      · rename_i hjn
        have hj2 : j < zs.length := by omega
        have h1 := hcell j hj2
        rw [List.getElem?_eq_getElem hj2] at hj
        have hj3 : (zs[j]).toNat = t := by simpa using hj
        have hw := hwz zs[j] (List.getElem_mem hj2)
        obtain ⟨y, hy, _⟩ := u64_nat hw
        have h2 : zs.getD j 0 = (t : Int) := by
          rw [List.getD_eq_getElem?_getD, List.getElem?_eq_getElem hj2]
          show zs[j] = _
          omega
        rw [h2, Addr.add_mid] at h1
        exact h1
      · cases hj
end Go.Proofs.Ytnjieddkphappaa
