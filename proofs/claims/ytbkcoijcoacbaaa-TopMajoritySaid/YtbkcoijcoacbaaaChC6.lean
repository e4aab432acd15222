/- choose: the ends of intervals, sorted; the region. -/
import Derived.Test.YtbkcoijcoacbaaaChC5
namespace Go.Proofs.Ytbkcoijcoacbaaa.Ch
open Go.RowKit Go.Sort Go.Shelf Go.Lib
set_option linter.unusedVariables false
set_option linter.unusedSimpArgs false
set_option maxRecDepth 100000
/-- a row of the call's own that has nothing -/
theorem Gs.empty {w : World} {base c : Nat} {A : Option Addr} {L : List Ev} (h : Gs w base A 0 c L) : L = [] := List.eq_nil_of_length_eq_zero h.1
theorem sorted_any {w : World} {base n c : Nat} {A : Option Addr} {L : List Ev} (h : Gs w base A n c L) (hn : n ≤ 1000) :
    Calls Try.prog 50 #[.slice A n c, .func (.func 51) #[] #[]] w fun e w' => e = .returned (.tuple #[]) ∧ ∃ E : List Ev, Re w' w'.heap.size A n E ∧ E.Perm L ∧ E.Pairwise Ev.le ∧ RowKit.Below base w w' := by
  rcases Nat.eq_zero_or_pos n with h0 | h0
  · subst h0
    have hL := h.empty
    subst hL
    rcases h.2.2 with ⟨e, _⟩ | ⟨g, cap, cur, e, hb, hg, _⟩
    · cases e
      refine (sort_none 0 w).mono ?_
      rintro e w' ⟨rfl, rfl⟩
      exact ⟨rfl, [], ⟨rfl, .inl rfl⟩, List.Perm.refl _, List.Pairwise.nil, Below.refl _ _⟩
    · cases e
      have hlt : g < w.heap.size := (Array.getElem?_eq_some_iff.1 hg).1
      have hH : HoldsK Ev.cs 2 w g 0 #[] := fun j hj => by simp [flatK] at hj
      have hc := sort_any (cap := c) (d := #[]) hH hlt (show 0 < 4611686018427387904 by omega)
      rw [show (#[] : Array Ev).size = 0 from rfl] at hc
      refine hc.mono ?_
      rintro e w' ⟨rfl, d', hp, hs, hr, hb'⟩
      exact ⟨rfl, d'.toList, hr, hp, hs, hb' base hb⟩
  · obtain ⟨g, rfl, hb, hlt, hH⟩ := h.holds h0
    have hl := h.1
    have hsz : L.toArray.size = n := by simpa using hl
    have := sort_any (cap := c) hH hlt (by rw [hsz]; omega)
    rw [hsz] at this
    refine this.mono ?_
    rintro e w' ⟨rfl, d', hp, hs, hr, hb'⟩
    exact ⟨rfl, d'.toList, hr, by simpa using hp, hs, hb' base hb⟩
end Go.Proofs.Ytbkcoijcoacbaaa.Ch
