/- choose: how many intervals have a point. -/
import Derived.Test.YtjagekagpgjoaaaC8
namespace Go.Proofs.Ytjagekagpgjoaaa
open Go.RowKit
set_option linter.unusedVariables false
set_option linter.unusedSimpArgs false
set_option maxRecDepth 100000
theorem cov_take {xs : List Sp} {j : Nat} {s : Sp} (h : xs[j]? = some s) (x : Int) : cov (xs.take (j + 1)) x = cov (xs.take j) x + (if s.has x then 1 else 0) := by
  rw [List.take_add_one, h]
  simp [cov]
set_option maxHeartbeats 1000000 in
theorem cover_any {w : World} {A : Option Addr} {B n c : Nat} {xs : List Sp} (x : Int) (h : Rs w B A n xs) (hB : B ≤ w.heap.size) (hmx : n ≤ 4611686018427387904) :
    Calls Try.prog 15 #[.slice A n c, .int .i64 x] w fun e w' => e = .returned (.int .i64 (cov xs x)) ∧ RowKit.Below w.heap.size w w' := by
  have HR := Lib.hid h
  have HL := Lib.hid h.1
  have HB := Lib.hid hB
  clear h hB
  go_enter Try.func15, Try.ntmps15
  go_wp2_with fail
  go_loopw [5, 10] (fun v i wr => ∃ j : Nat, j ≤ n ∧ i = .int .i64 (j : Int) ∧ v = .int .i64 (cov (xs.take j) x) ∧ RowKit.Below w.heap.size w wr) (fun _ i _ => (n - (match i with | .int _ z => z.toNat | _ => 0)))
  case atStart => exact ⟨0, by omega, rfl, rfl, Below.refl _ _⟩
  case round =>
    obtain ⟨j, hjn, rfl, rfl, hb⟩ := hrel
    have HBr := Lib.hid hb
    clear hb
    have hcl := cov_lim (xs.take j) x
    have hlen : (xs.take j).length ≤ j := by rw [List.length_take]; omega
    obtain ⟨C, hC⟩ : ∃ C, C = cov (xs.take j) x := ⟨_, rfl⟩
    rw [← hC] at hcl ⊢
    have HC := Lib.hid hC
    have hcl2 : 0 ≤ C ∧ C ≤ 4611686018427387904 := by omega
    clear hC hcl hlen
    by_cases hj : j < n
    · have e1 : decide ((j : Int) < (n : Int)) = true := by simp; omega
      have e1' : (j : Int) < (n : Int) := by omega
      obtain ⟨s, hs⟩ : ∃ s, xs[j]? = some s := ⟨_, List.getElem?_eq_getElem (by have := HL.out; omega)⟩
      obtain ⟨g, off, rfl, hg, hc⟩ := HR.out.cells (by omega)
      obtain ⟨c0, c1, c2⟩ := hc wr (HBr.out.mono HB.out) j s hs
      have HT := Lib.hid (cov_take hs x)
      have HH := Lib.hid (show s.has x ↔ s.lo ≤ x ∧ x ≤ s.hi from Iff.rfl)
      clear hc hs
      by_cases h1 : s.lo ≤ x
      · by_cases h2 : x ≤ s.hi
        · go_wp2_with fail
          refine ⟨⟨j + 1, by omega, rfl, ?_, HBr.out.alloc HBr.out.size _⟩, by show n - ((j : Int) + 1).toNat < n - (j : Int).toNat; omega⟩
          rw [HT.out, ← HC.out, if_pos (HH.out.2 ⟨h1, h2⟩)]
        · have h2' : (x ≤ s.hi) = False := by simp only [h2]
          go_wp2_with fail
          refine ⟨⟨j + 1, by omega, rfl, ?_, HBr.out.alloc HBr.out.size _⟩, by show n - ((j : Int) + 1).toNat < n - (j : Int).toNat; omega⟩
          rw [HT.out, ← HC.out, if_neg (fun z => h2 (HH.out.1 z).2), Int.add_zero]
      · have h1' : (s.lo ≤ x) = False := by simp only [h1]
        go_wp2_with fail
        refine ⟨⟨j + 1, by omega, rfl, ?_, HBr.out.alloc HBr.out.size _⟩, by show n - ((j : Int) + 1).toNat < n - (j : Int).toNat; omega⟩
        rw [HT.out, ← HC.out, if_neg (fun z => h1 (HH.out.1 z).1), Int.add_zero]
    · have e1' : ((j : Int) < (n : Int)) = False := by simp only [eq_iff_iff, iff_false]; omega
      have HE := Lib.hid (show C = cov xs x by rw [HC.out, List.take_of_length_le (by have := HL.out; omega)])
      go_wp2_with fail
      go_ret
      exact ⟨by rw [← HE.out]; rfl, HBr.out⟩
end Go.Proofs.Ytjagekagpgjoaaa
