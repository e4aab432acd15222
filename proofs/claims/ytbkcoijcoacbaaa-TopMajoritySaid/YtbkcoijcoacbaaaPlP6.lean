/- plane: the mean of points. -/
import Derived.Test.YtbkcoijcoacbaaaPlP5
namespace Go.Proofs.Ytbkcoijcoacbaaa.Pl
open Go.RowKit
set_option maxRecDepth 100000
set_option linter.unusedVariables false
def fitE (n : Nat) : Int := if n = 0 then 4 else if 1024 < n then 2 else 0
theorem countable_any (A : Option Addr) (n c : Nat) (hn : n ≤ 1099511627776) (w : World) :
    Calls Try.prog 38 #[.slice A n c] w fun e w' => e = .returned (.int .i64 (fitE n)) ∧ w' = w := by
  go_enter Try.func38, Try.ntmps38
  go_wp2_with fail
  all_goals go_ret
  all_goals refine ⟨?_, rfl⟩
  all_goals unfold fitE
  · rename_i h1
    rw [if_pos (by have := eq_of_beq h1; omega)]; rfl
  · have h1 : ((n : Int) == 0) = false := by assumption
    have h2 : 1024 < (n : Int) := by assumption
    have := ne_of_beq_false h1
    rw [if_neg (by omega), if_pos (by omega)]; rfl
  · rename_i h1 h2
    have := ne_of_beq_false h1
    rw [if_neg (by omega), if_neg (by omega)]; rfl
theorem fit_le {n : Nat} (h : fitE n = 0) : n ≠ 0 ∧ n ≤ 1024 := by unfold fitE at h; split at h; cases h; split at h; cases h; omega
theorem mean_no {A : Option Addr} {n c : Nat} (h : fitE n ≠ 0) (hn : n ≤ 1099511627776) (w : World) :
    Calls Try.prog 19 #[.slice A n c] w fun e w' => e = .returned (.tuple #[.complex .f64 0 0, .int .i64 (fitE n)]) ∧ w' = w := by
  obtain ⟨q, hq⟩ : ∃ q, q = fitE n := ⟨_, rfl⟩
  rw [← hq] at h ⊢
  have HQ := Lib.hid hq
  clear hq
  go_enter Try.func19, Try.ntmps19
  go_wp2_with fail
  refine (countable_any _ _ _ hn w).mono ?_
  rintro e w1 ⟨rfl, rfl⟩
  rw [← HQ.out]
  have h' : (q == 0) = false := by simpa using h
  go_wp2_with fail
  go_ret2
  exact ⟨rfl, rfl⟩
def meanC (l : List Nat) : Nat := fc .quo (addC l) (floatOfInt .f64 l.length)
theorem mean_yes {w : World} {B n c : Nat} {A : Option Addr} {xs : List (Nat × Nat)} (h : Cx w B A n xs) (hB : B ≤ w.heap.size) (hf : fitE n = 0) :
    Calls Try.prog 19 #[.slice A n c] w fun e w' => (∃ r s, e = .returned (.tuple #[.complex .f64 r s, .int .i64 0]) ∧ okF r (meanC (xs.map (·.1))) ∧ okF s (meanC (xs.map (·.2)))) ∧ RowKit.Below w.heap.size w w' := by
  have HH := Lib.hid h
  obtain ⟨hn0, hn1⟩ := fit_le hf
  have HF := Lib.hid hf
  clear h hf
  go_enter Try.func19, Try.ntmps19
  go_wp2_with fail
  refine (countable_any _ _ _ (by omega) w).mono ?_
  rintro e w1 ⟨rfl, rfl⟩
  rw [HF.out]
  go_wp2_with fail
  have e1 : (w1.alloc (Obj.cells #[Value.float FloatKind.f64 (floatOfInt FloatKind.f64 ↑n)] 64)).heap.size = w1.heap.size + 1 := by show (w1.heap.push _).size = _; simp
  have b1 : RowKit.Below w1.heap.size w1 (w1.alloc (Obj.cells #[Value.float FloatKind.f64 (floatOfInt FloatKind.f64 ↑n)] 64)) := (Below.refl _ _).alloc (Nat.le_refl _) _
  have x1 := Boxed.new w1 64 (Value.float FloatKind.f64 (floatOfInt FloatKind.f64 ↑n))
  refine (sum_any (HH.out.below b1 hB) (by omega) (by omega)).mono ?_
  rintro e w2 ⟨⟨r, s, rfl, hr, hs⟩, hb⟩
  have HR := Lib.hid hr
  have HS := Lib.hid hs
  have hc : w2.cell? ⟨w1.heap.size, 0, none⟩ = some (.float .f64 (floatOfInt FloatKind.f64 ↑n)) := by
    rw [hb.cell (by show w1.heap.size < _; omega)]; exact x1.cell
  have HB := Lib.hid (b1.trans (hb.mono (by omega)))
  clear hr hs hb x1 b1 e1
  go_wp2_with fail
  refine (both_any 41 ⟨w1.heap.size, 0, none⟩ _ (fun x => fc .quo x (floatOfInt FloatKind.f64 ↑n)) enter39 (fun x w hg => mean1_any x _ _ w hg) r s w2 hc).mono ?_
  rintro e w3 ⟨⟨r2, s2, rfl, hr, hs⟩, k, rfl⟩
  have hl := HH.out.1
  have g1 : okF r2 (meanC (xs.map (·.1))) := by
    have : fc .quo r (floatOfInt FloatKind.f64 ↑n) = meanC (xs.map (·.1)) := by
      unfold meanC
      rw [fc_al HR.out.2 (al.refl _)]; simp [hl]
    rw [← this]; exact hr
  have g2 : okF s2 (meanC (xs.map (·.2))) := by
    have : fc .quo s (floatOfInt FloatKind.f64 ↑n) = meanC (xs.map (·.2)) := by
      unfold meanC
      rw [fc_al HS.out.2 (al.refl _)]; simp [hl]
    rw [← this]; exact hs
  have G1 := Lib.hid g1
  have G2 := Lib.hid g2
  have HB3 := Lib.hid (below_drewN HB.out k)
  clear g1 g2 hr hs
  go_wp2_with fail
  go_ret2
  exact ⟨⟨_, _, rfl, G1.out, G2.out⟩, HB3.out⟩
end Go.Proofs.Ytbkcoijcoacbaaa.Pl
