/- plane: how far. -/
import Derived.Test.YtbkcoijcoacbaaaPlP2
namespace Go.Proofs.Ytbkcoijcoacbaaa.Pl
open Go.RowKit
set_option maxRecDepth 100000
set_option linter.unusedVariables false
def ab (a : Nat) : Nat := a % 9223372036854775808
theorem ab_lt (a : Nat) : ab a < 18446744073709551616 := by unfold ab; omega
theorem ab_al {a b : Nat} (h : al a b) : al (ab a) (ab b) := by
  rcases h with rfl | ⟨x, y⟩
  · exact .inl rfl
  · rw [isN_iff] at x y
    refine .inr ⟨?_, ?_⟩ <;> (rw [isN_iff]; unfold ab; omega)
/-- how far, of what is no number one for all -/
def farC (a b c d : Nat) : Nat := if od (ab (fc .sub a c)) (ab (fc .sub b d)) = some .gt then ab (fc .sub a c) else ab (fc .sub b d)
def FarPost (a b c d : Nat) (w : World) (e : Ending) (w' : World) : Prop := (∃ r, e = .returned (.float .f64 r) ∧ r < 18446744073709551616 ∧ al r (farC a b c d)) ∧ ∃ k, w' = w.drewN k
theorem farC_al {a b c d a' b' c' d' : Nat} (h1 : al a a') (h2 : al b b') (h3 : al c c') (h4 : al d d') : farC a b c d = farC a' b' c' d' := by
  unfold farC; rw [fc_al h1 h3, fc_al h2 h4]
theorem far_fin {x y a b c d : Nat} (hx : al x (fc .sub a c)) (hy : al y (fc .sub b d)) : al (if od (ab x) (ab y) = some .gt then ab x else ab y) (farC a b c d) := by
  unfold farC
  rw [od_al (ab_al hx) (ab_al hy)]
  split
  · exact ab_al hx
  · exact ab_al hy
theorem far_any (a b c d : Nat) (w : World) :
    Calls Try.prog 22 #[.complex .f64 a b, .complex .f64 c d] w (FarPost a b c d w) := by
  go_enter Try.func22, Try.ntmps22
  go_wp2_with fail
  obtain ⟨x, hx⟩ : ∃ x, x = fv .sub a c w := ⟨_, rfl⟩
  have HX := Lib.hid (hx ▸ fv_al .sub a c w)
  rw [← hx]
  clear hx
  refine (abs_any HX.out.1 _).mono ?_
  rintro e w1 ⟨rfl, rfl⟩
  go_wp2_with fail
  obtain ⟨y, hy⟩ : ∃ y, y = fv .sub b d (w.drewN (fk .sub a c)) := ⟨_, rfl⟩
  have HY := Lib.hid (hy ▸ fv_al .sub b d (w.drewN (fk .sub a c)))
  rw [← hy]
  clear hy
  refine (abs_any HY.out.1 _).mono ?_
  rintro e w1 ⟨rfl, rfl⟩
  go_wp2_with fail
  all_goals rename_i hh
  · go_ret
    refine ⟨⟨_, rfl, ab_lt x, ?_⟩, _, rfl⟩
    have h1 := far_fin HX.out.2 HY.out.2
    rw [if_pos (show od (ab x) (ab y) = some .gt from eq_of_beq hh)] at h1
    exact h1
  · go_ret
    refine ⟨⟨_, rfl, ab_lt y, ?_⟩, _, rfl⟩
    have h1 := far_fin HX.out.2 HY.out.2
    rw [if_neg (show ¬ od (ab x) (ab y) = some .gt from fun q => by rw [show (FloatKind.f64.format.order (x % 9223372036854775808) (y % 9223372036854775808)) = some Ordering.gt from q] at hh; cases hh)] at h1
    exact h1
end Go.Proofs.Ytbkcoijcoacbaaa.Pl
