/- The reference's SameList of alike rows; what a filter has behind eight samples. -/
import Derived.Test.YtofieoklcegddaaJ2
namespace Go.Proofs.Ytofieoklcegddaa
open Go.RowKit Go.Sort Go.Shelf Go.Lib
set_option linter.unusedVariables false
set_option linter.unusedSimpArgs false
set_option maxRecDepth 100000

set_option maxHeartbeats 2000000 in
theorem same_any {w : World} {A A' : Option Addr} {n c c' : Nat} {xs : List S4} (h : Rd w w.heap.size A n xs) (h' : Rd w w.heap.size A' n xs) (hn : n ≤ 9223372036854775807) :
    Calls Try.prog 23 #[.slice A n c, .slice A' n c'] w fun e w' => e = .returned (.bool true) ∧ RowKit.Below w.heap.size w w' := by
  have HR := Lib.hid h
  have HR' := Lib.hid h'
  have HL := Lib.hid h.1
  clear h h'
  go_enter Try.func23, Try.ntmps23
  go_wp2_with fail
  go_loopw [5] (fun i wr => ∃ j : Nat, j ≤ n ∧ i = .int .i64 (j : Int) ∧ RowKit.Below w.heap.size w wr) (fun i _ => (n - (match i with | .int _ z => z.toNat | _ => 0)))
  case atStart => exact ⟨0, by omega, rfl, Below.refl _ _⟩
  case round =>
    obtain ⟨j, hjn, rfl, hb⟩ := hrel
    have HB := Lib.hid hb
    clear hb
    by_cases hj : j < n
    · have e1 : (j : Int) < (n : Int) := by omega
      obtain ⟨s, hs⟩ : ∃ s, xs[j]? = some s := ⟨_, List.getElem?_eq_getElem (by have := HL.out; omega)⟩
      obtain ⟨g, off, rfl, hg, hcl⟩ := HR.out.cells (by omega)
      obtain ⟨g', off', rfl, hg', hcl'⟩ := HR'.out.cells (by omega)
      obtain ⟨c0, c1, c2, c3⟩ := hcl wr HB.out j s hs
      obtain ⟨d0, d1, d2, d3⟩ := hcl' wr HB.out j s hs
      have hq := fun W => equalS s s W
      rw [(eqS_iff s s).2 rfl] at hq
      have hG := run_guardS
      clear hcl hcl' hs
      go_upto_region 6 with fail
      go_quiet (fail)
      clear hq hG c0 c1 c2 c3 d0 d1 d2 d3
      go_wp2_with fail
      exact ⟨⟨j + 1, by omega, rfl, ⟨HB.out.os, HB.out.tape, HB.out.output, HB.out.size, HB.out.block⟩⟩, by show n - ((j : Int) + 1).toNat < n - (j : Int).toNat; omega⟩
    · have e1 : ((j : Int) < (n : Int)) = False := by simp only [eq_iff_iff, iff_false]; omega
      go_wp2_with fail
      go_ret
      exact ⟨rfl, HB.out⟩
theorem fillL_eq (L xs : List S4) (h : L.length ≤ 8) : fillL L xs = ((xs.filter fun s => decide s.may).reverse ++ L).take 8 := by
  induction xs generalizing L with
  | nil => simp [fillL]; rw [List.take_of_length_le h]
  | cons x xs ih =>
    show fillL (add1 L x) xs = _
    unfold add1
    by_cases hx : x.may
    · rw [if_pos hx, ih _ (by unfold push; simp; omega), List.filter_cons, if_pos (by simpa using hx), List.reverse_cons, List.append_assoc]
      unfold push
      rw [List.take_append, List.take_append, List.take_take, Nat.min_eq_left (by omega)]
      rfl
    · rw [if_neg hx, ih _ h, List.filter_cons, if_neg (by simpa using hx)]
theorem fillL_full (L M xs : List S4) (h : L.length ≤ 8) (h' : M.length ≤ 8) (hc : 8 ≤ (xs.filter fun s => decide s.may).length) : fillL L xs = fillL M xs ∧ (fillL L xs).length = 8 := by
  rw [fillL_eq L xs h, fillL_eq M xs h', List.take_append_of_le_length (by simpa using hc), List.take_append_of_le_length (by simpa using hc)]
  refine ⟨rfl, ?_⟩
  rw [List.length_take, List.length_reverse]
  omega
theorem fillL_may {L xs : List S4} (h : ∀ s ∈ L, s.may) : ∀ s ∈ fillL L xs, s.may := fun s hs => by
  rcases fillL_mem hs with h1 | ⟨_, h1⟩
  · exact h s h1
  · exact h1
end Go.Proofs.Ytofieoklcegddaa
