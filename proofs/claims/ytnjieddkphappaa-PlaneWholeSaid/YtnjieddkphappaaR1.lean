/- plane: the reference's sums. -/
import Derived.Test.YtnjieddkphappaaP8
namespace Go.Proofs.Ytnjieddkphappaa
open Go.RowKit
set_option maxRecDepth 100000
set_option linter.unusedVariables false
/-- a row of floats that can be read -/
def Fx (w : World) (B : Nat) (A : Option Addr) (n : Nat) (xs : List Nat) : Prop :=
  xs.length = n ∧ (n = 0 ∨ ∃ g off, A = some ⟨g, off, none⟩ ∧ g < B ∧ ∀ i z, xs[i]? = some z → w.cell? ⟨g, off + i, none⟩ = some (.float .f64 z))
theorem Fx.below {w w' : World} {B C n : Nat} {A : Option Addr} {xs : List Nat} (h : Fx w B A n xs) (b : RowKit.Below C w w') (hB : B ≤ C) : Fx w' B A n xs := by
  refine ⟨h.1, h.2.imp id ?_⟩
  rintro ⟨g, off, rfl, hg, hc⟩
  exact ⟨g, off, rfl, hg, fun i z hz => by rw [b.cell (by show g < C; omega)]; exact hc i z hz⟩
theorem Fx.drewN {w : World} {B n : Nat} {A : Option Addr} {xs : List Nat} (h : Fx w B A n xs) (k : Nat) : Fx (w.drewN k) B A n xs := h
theorem addC_take (xs : List Nat) {j x : Nat} (h : xs[j]? = some x) : addC (xs.take (j + 1)) = fc .add (addC (xs.take j)) x := by
  rw [List.take_add_one, h]; exact addC_snoc _ _
set_option maxHeartbeats 1000000 in
theorem rsum_any {w : World} {B n c : Nat} {A : Option Addr} {xs : List Nat} (h : Fx w B A n xs) (hn : n ≤ 1099511627776) :
    Calls Try.prog 37 #[.slice A n c] w fun e w' => (∃ r, e = .returned (.float .f64 r) ∧ okF r (addC xs)) ∧ ∃ k, w' = w.drewN k := by
  have HH := Lib.hid h
  clear h
  go_enter Try.func37, Try.ntmps37
  go_wp2_with fail
  go_loopw [3, 4] (fun s i wr => ∃ j : Nat, ∃ r : Nat, j ≤ n ∧ i = .int .i64 (j : Int) ∧ s = .float .f64 r ∧ okF r (addC (xs.take j)) ∧ ∃ k, wr = w.drewN k) (fun s i _ => (n - (match i with | .int _ z => z.toNat | _ => 0)))
  case atStart => exact ⟨0, 0, by omega, rfl, rfl, ⟨by omega, .inl rfl⟩, 0, rfl⟩
  case round =>
    obtain ⟨j, r, hjn, rfl, rfl, hr, k, rfl⟩ := hrel
    have HR := Lib.hid hr
    clear hr
    have hl := HH.out.1
    by_cases e1 : (j : Int) < (n : Int)
    · obtain ⟨z, hz⟩ : ∃ z, xs[j]? = some z := ⟨_, List.getElem?_eq_getElem (by omega)⟩
      rcases HH.out.2 with h00 | ⟨g, off, rfl, hg, hc⟩
      · omega
      have hcell := hc j z hz
      have HT := Lib.hid (addC_take xs hz)
      clear hc hz
      go_wp2_with fail
      refine ⟨⟨j + 1, _, by omega, rfl, rfl, ?_, _, rfl⟩, by show n - ((j : Int) + 1).toNat < n - (j : Int).toNat; omega⟩
      rw [HT.out]
      exact okF_step _ HR.out _
    · have e1' : ((j : Int) < (n : Int)) = False := by simp only [e1]
      have hj : j = n := by omega
      subst hj
      have HR2 := Lib.hid (show okF r (addC xs) by have := HR.out; rwa [List.take_of_length_le (by omega)] at this)
      clear HR
      go_wp2_with fail
      go_ret
      exact ⟨⟨_, rfl, HR2.out⟩, _, rfl⟩
theorem rSum_any {w : World} {B n c C m d : Nat} {A A2 : Option Addr} {xs ys : List Nat} (h : Fx w B A n xs) (h2 : Fx w C A2 m ys) (hn : n ≤ 1099511627776) (hm : m ≤ 1099511627776) :
    Calls Try.prog 21 #[.slice A n c, .slice A2 m d] w fun e w' => (∃ r s, e = .returned (.tuple #[.float .f64 r, .float .f64 s]) ∧ okF r (addC xs) ∧ okF s (addC ys)) ∧ ∃ k, w' = w.drewN k := by
  have HH := Lib.hid h
  have HH2 := Lib.hid h2
  clear h h2
  go_enter Try.func21, Try.ntmps21
  go_wp2_with fail
  refine (rsum_any HH.out hn).mono ?_
  rintro e w1 ⟨⟨r, rfl, hr⟩, k, rfl⟩
  have HR := Lib.hid hr
  clear hr
  go_wp2_with fail
  refine (rsum_any (HH2.out.drewN k) hm).mono ?_
  rintro e w1 ⟨⟨s, rfl, hs⟩, k2, rfl⟩
  have HS := Lib.hid hs
  clear hs
  go_wp2_with fail
  go_ret2
  exact ⟨⟨_, _, rfl, HR.out, HS.out⟩, _, rfl⟩
theorem rfit_any (n : Nat) (w : World) :
    Calls Try.prog 40 #[.int .i64 (n : Int)] w fun e w' => e = .returned (.int .i64 (fitE n)) ∧ w' = w := by
  go_enter Try.func40, Try.ntmps40
  go_wp2_with fail
  all_goals go_ret
  all_goals refine ⟨?_, rfl⟩
  all_goals unfold fitE
  · rename_i h1
    rw [if_pos (by have := eq_of_beq h1; omega)]; rfl
  · have h1 : ((n : Int) == 0) = false := by assumption
    have h2 : 1024 < (n : Int) := by assumption
    have := ne_of_beq_false h1
    rw [if_neg (by omega), if_pos (by omega)]; rfl
  · rename_i h1 h2
    have := ne_of_beq_false h1
    rw [if_neg (by omega), if_neg (by omega)]; rfl
end Go.Proofs.Ytnjieddkphappaa
