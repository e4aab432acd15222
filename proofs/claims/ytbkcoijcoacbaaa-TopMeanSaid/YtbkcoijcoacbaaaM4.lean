/- top08: whole numbers that came in. -/
import Derived.Test.YtbkcoijcoacbaaaM2
import Derived.Test.YtbkcoijcoacbaaaT9
namespace Go.Proofs.Ytbkcoijcoacbaaa
open Go.ChangeShapes Go.WideShapes Go.ChangeAt Go.RowKit
set_option maxRecDepth 100000
set_option linter.unusedVariables false
theorem ints_open {H : Type} {enc : TypeId × Value → H} {W : World} {A : Option Addr} {n c : Nat} {fuel : Nat} {x : DataW H × List MemPlace} (hf : DataW.trod enc Try.prog W 0 (fun _ => true) true fuel 52 [.slice A n c] = some x) :
    ∃ xs, Ch.Ri W W.heap.size A n xs := by
  rcases open_ints Try.underlying52 Try.underlying2 (by kernel_rfl) hf with ⟨hcs, _⟩ | ⟨x, l, c, zs, hcs, _, hl, hm, hz, _, hcell, hwz⟩
  · simp at hcs
    obtain ⟨rfl, rfl, rfl⟩ := hcs
    exact ⟨[], rfl, .inl rfl⟩
  · simp at hcs
    obtain ⟨rfl, rfl, rfl⟩ := hcs
    simp at hz
    refine ⟨zs.take n, by simp; omega, ?_⟩
    rcases Nat.eq_zero_or_pos n with h0 | h0
    · exact .inl h0
    · have hc0 := hcell 0 (by omega)
      obtain ⟨b, off, spot⟩ := x
      have hspot : spot = none := by simpa [Addr.add] using World.cell?_spot hc0
      subst hspot
      have hlt := World.block_lt_of_cell? W _ hc0
      refine .inr ⟨b, off, rfl, by simpa [Addr.add] using hlt, fun j t hj => ?_⟩
      rw [List.getElem?_take] at hj
      split at hj
      · rename_i hjn
        have hj2 : j < zs.length := by omega
        have h1 := hcell j hj2
        have h2 : zs.getD j 0 = t := by rw [List.getD_eq_getElem?_getD, hj]; rfl
        rw [h2, Addr.add_mid] at h1
        exact h1
      · cases hj
end Go.Proofs.Ytbkcoijcoacbaaa
