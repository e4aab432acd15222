/- plane: the reference's mean. -/
import Derived.Test.YtnjieddkphappaaR1
namespace Go.Proofs.Ytnjieddkphappaa
open Go.RowKit
set_option maxRecDepth 100000
set_option linter.unusedVariables false
theorem rmean_no {A A2 : Option Addr} {n c m d : Nat} (h : fitE n ≠ 0) (w : World) :
    Calls Try.prog 23 #[.slice A n c, .slice A2 m d] w fun e w' => e = .returned (.tuple #[.float .f64 0, .float .f64 0, .int .i64 (fitE n)]) ∧ w' = w := by
  obtain ⟨q, hq⟩ : ∃ q, q = fitE n := ⟨_, rfl⟩
  rw [← hq] at h ⊢
  have HQ := Lib.hid hq
  clear hq
  go_enter Try.func23, Try.ntmps23
  go_wp2_with fail
  refine (rfit_any n w).mono ?_
  rintro e w1 ⟨rfl, rfl⟩
  rw [← HQ.out]
  have h' : (q == 0) = false := by simpa using h
  go_wp2_with fail
  go_ret3
  exact ⟨rfl, rfl⟩
theorem rmean_yes {w : World} {B n c C d : Nat} {A A2 : Option Addr} {xs ys : List Nat} (h : Fx w B A n xs) (h2 : Fx w C A2 n ys) (hf : fitE n = 0) :
    Calls Try.prog 23 #[.slice A n c, .slice A2 n d] w fun e w' => (∃ r s, e = .returned (.tuple #[.float .f64 r, .float .f64 s, .int .i64 0]) ∧ okF r (meanC xs) ∧ okF s (meanC ys)) ∧ ∃ k, w' = w.drewN k := by
  have HH := Lib.hid h
  have HH2 := Lib.hid h2
  obtain ⟨hn0, hn1⟩ := fit_le hf
  have HF := Lib.hid hf
  clear h h2 hf
  go_enter Try.func23, Try.ntmps23
  go_wp2_with fail
  refine (rfit_any n w).mono ?_
  rintro e w1 ⟨rfl, rfl⟩
  rw [HF.out]
  go_wp2_with fail
  refine (rSum_any HH.out HH2.out (by omega) (by omega)).mono ?_
  rintro e w2 ⟨⟨r, s, rfl, hr, hs⟩, k, rfl⟩
  have HR := Lib.hid hr
  have HS := Lib.hid hs
  clear hr hs
  go_wp2_with fail
  go_ret3
  have hl := HH.out.1
  have hl2 := HH2.out.1
  refine ⟨⟨_, _, rfl, ?_, ?_⟩, _, rfl⟩
  · unfold meanC; rw [hl]; exact okF_step _ HR.out _
  · unfold meanC; rw [hl2]; exact okF_step _ HS.out _
end Go.Proofs.Ytnjieddkphappaa
