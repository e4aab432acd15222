/- choose: the ends of intervals, sorted; the region. -/
import Derived.Test.YtbkcoijcoacbaaaChC6
namespace Go.Proofs.Ytbkcoijcoacbaaa.Ch
open Go.RowKit
set_option linter.unusedVariables false
set_option linter.unusedSimpArgs false
set_option maxRecDepth 100000
set_option maxHeartbeats 1000000 in
theorem ends_any {w : World} {A : Option Addr} {B n c : Nat} {xs : List Sp} (h : Rs w B A n xs) (hB : B ≤ w.heap.size) (hmx : n ≤ 64) :
    Calls Try.prog 30 #[.slice A n c] w fun e w' => ∃ A' c', ∃ E : List Ev, e = .returned (.slice A' (2 * n) c') ∧ Re w' w'.heap.size A' (2 * n) E ∧ E.Perm (endsOf xs) ∧ E.Pairwise Ev.le ∧ RowKit.Below w.heap.size w w' := by
  have HR := Lib.hid h
  have HL := Lib.hid h.1
  have HB := Lib.hid hB
  clear h hB
  go_enter Try.func30, Try.ntmps30
  go_wp2_with fail
  go_loopw [3, 8] (fun v i wr => ∃ j : Nat, ∃ A' c', j ≤ n ∧ i = .int .i64 (j : Int) ∧ v = .slice A' (2 * j) c' ∧ Gs wr w.heap.size A' (2 * j) c' (endsOf (xs.take j)) ∧ RowKit.Below w.heap.size w wr) (fun _ i _ => (n - (match i with | .int _ z => z.toNat | _ => 0)))
  case atStart => exact ⟨0, none, 0, by omega, rfl, rfl, Gs.nil _ _, Below.refl _ _⟩
  case round =>
    obtain ⟨j, A', c', hjn, rfl, rfl, hgs, hb⟩ := hrel
    have HBr := Lib.hid hb
    have HG := Lib.hid hgs
    clear hb hgs
    by_cases hj : j < n
    · have e1 : decide ((j : Int) < (n : Int)) = true := by simp; omega
      have e1' : (j : Int) < (n : Int) := by omega
      obtain ⟨s, hs⟩ : ∃ s, xs[j]? = some s := ⟨_, List.getElem?_eq_getElem (by have := HL.out; omega)⟩
      obtain ⟨g, off, rfl, hg, hc⟩ := HR.out.cells (by omega)
      obtain ⟨c0, c1, c2⟩ := hc wr (HBr.out.mono HB.out) j s hs
      have HS := Lib.hid hs
      clear hc hs
      go_upto_region 5 with fail
      obtain ⟨w2, e2⟩ : ∃ w2, w2 = wr.alloc (.cells #[.int .i64 s.lo, .int .i64 s.mid, .int .i64 s.hi] 28) := ⟨_, rfl⟩
      obtain ⟨b2, x2, s2⟩ := one_new e2
      rw [← e2]
      have HG2 := Lib.hid (HG.out.below b2)
      have HB2 := Lib.hid (bthen HBr.out b2 (Nat.le_refl _))
      obtain ⟨d0, d1, d2⟩ := x2.cells
      obtain ⟨g2, hg2⟩ : ∃ g2, g2 = wr.heap.size := ⟨_, rfl⟩
      rw [← hg2] at d0 d1 d2 ⊢
      clear c0 c1 c2 e2 b2 x2 s2 hg2
      have HB3 := Lib.hid (HB2.out.alloc HB2.out.size (.cells #[.int .i64 s.lo, .int .i64 1, .int .i64 s.hi, .int .i64 (-1)] 79))
      have HG3 := Lib.hid (HG2.out.below ((Below.refl _ _).alloc (Nat.le_refl _) (.cells #[.int .i64 s.lo, .int .i64 1, .int .i64 s.hi, .int .i64 (-1)] 79)))
      go_wp2_with (at_builtin; refine wpList_app_2 (ys := [⟨s.lo, 1⟩, ⟨s.hi, -1⟩]) _ rfl (.tmp 12) (.tmp 19) rfl rfl HG3.out rfl rfl (World.alloc_heap_new w2 _) (by omega) HB3.out HB3.out.size ?_; intro A2 c2 w3 hg3 hb3)
      have HG4 := Lib.hid hg3
      have HB4 := Lib.hid hb3
      clear hg3 hb3
      go_wp2_with fail
      refine ⟨⟨j + 1, A2, c2, by omega, rfl, rfl, ?_, HB4.out⟩, by show n - ((j : Int) + 1).toNat < n - (j : Int).toNat; omega⟩
      rw [endsOf_take HS.out]
      exact HG4.out
    · have e1' : ((j : Int) < (n : Int)) = False := by simp only [eq_iff_iff, iff_false]; omega
      have ej : j = n := by omega
      subst ej
      have HT := Lib.hid (show xs.take j = xs from List.take_of_length_le (by have := HL.out; omega))
      rw [HT.out] at HG
      clear hj hjn
      have HE := Lib.hid (show Calls Try.prog 50 #[.slice A' (2 * j) c', .func (.func 51) #[] #[]] wr fun e w' => e = .returned (.tuple #[]) ∧ ∃ E : List Ev, Re w' w'.heap.size A' (2 * j) E ∧ E.Perm (endsOf xs) ∧ E.Pairwise Ev.le ∧ RowKit.Below w.heap.size wr w' from sorted_any HG.out (by omega))
      go_wp2_with fail
      refine HE.out.mono ?_
      rintro e w2 ⟨rfl, E, h1, h2, h3, h4⟩
      have HH := Lib.hid (show Re w2 w2.heap.size A' (2 * j) E ∧ E.Perm (endsOf xs) ∧ E.Pairwise Ev.le from ⟨h1, h2, h3⟩)
      have HB2 := Lib.hid (HBr.out.trans h4)
      clear h1 h2 h3 h4
      go_wp2_with fail
      go_ret
      exact ⟨A', c', E, rfl, HH.out.1, HH.out.2.1, HH.out.2.2, HB2.out⟩
end Go.Proofs.Ytbkcoijcoacbaaa.Ch
