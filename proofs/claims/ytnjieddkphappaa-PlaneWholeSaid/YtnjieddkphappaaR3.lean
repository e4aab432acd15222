/- plane: the reference's spread. -/
import Derived.Test.YtnjieddkphappaaA3
namespace Go.Proofs.Ytnjieddkphappaa
open Go.RowKit
set_option maxRecDepth 100000
set_option linter.unusedVariables false
/-- a point's part of a spread -/
def partC (z : Nat × Nat) (m : Nat × Nat) : Nat := fc .add (fc .mul (fc .sub z.1 m.1) (fc .sub z.1 m.1)) (fc .mul (fc .sub z.2 m.2) (fc .sub z.2 m.2))
def spC (l : List (Nat × Nat)) (m : Nat × Nat) : Nat := l.foldl (fun s z => fc .add s (partC z m)) 0
theorem spC_snoc (l : List (Nat × Nat)) (m z : Nat × Nat) : spC (l ++ [z]) m = fc .add (spC l m) (partC z m) := by unfold spC; rw [List.foldl_append]; rfl
theorem spC_take (l : List (Nat × Nat)) (m : Nat × Nat) {j : Nat} {z : Nat × Nat} (h : l[j]? = some z) : spC (l.take (j + 1)) m = fc .add (spC (l.take j) m) (partC z m) := by
  rw [List.take_add_one, h]; exact spC_snoc _ _ _
theorem fv_al2 {op : BinOp} {r a s b : Nat} (h : al r a) (g : al s b) (w : World) : al (fv op r s w) (fc op a b) := by
  have := fv_alc op r s w
  rwa [fc_al h g] at this
theorem part_al {x y m1 m2 m3 m4 : Nat} (h1 : al m1 m3) (h2 : al m2 m4) (wa wb wc wd we : World) :
    al (fv .add (fv .mul (fv .sub x m1 wa) (fv .sub x m1 wa) wb) (fv .mul (fv .sub y m2 wc) (fv .sub y m2 wc) wd) we) (partC (x, y) (m3, m4)) :=
  fv_al2 (fv_al2 (fv_al2 (al.refl x) h1 _) (fv_al2 (al.refl x) h1 _) _) (fv_al2 (fv_al2 (al.refl y) h2 _) (fv_al2 (al.refl y) h2 _) _) _
def spreadC (l : List (Nat × Nat)) (n : Nat) : Nat := if fitE n = 0 then fc .quo (spC l (meanC (l.map (·.1)), meanC (l.map (·.2)))) (floatOfInt .f64 l.length) else 0
set_option maxHeartbeats 1000000 in
theorem rspread_yes {w : World} {B n c C d : Nat} {A A2 : Option Addr} {l : List (Nat × Nat)} (h : Fx w B A n (l.map (·.1))) (h2 : Fx w C A2 n (l.map (·.2))) (hf : fitE n = 0) :
    Calls Try.prog 25 #[.slice A n c, .slice A2 n d] w fun e w' => (∃ r, e = .returned (.tuple #[.float .f64 r, .int .i64 0]) ∧ okF r (fc .quo (spC l (meanC (l.map (·.1)), meanC (l.map (·.2)))) (floatOfInt .f64 l.length))) ∧ ∃ k, w' = w.drewN k := by
  have HH := Lib.hid h
  have HH2 := Lib.hid h2
  obtain ⟨hn0, hn1⟩ := fit_le hf
  have HF := Lib.hid hf
  clear h h2 hf
  go_enter Try.func25, Try.ntmps25
  go_wp2_with fail
  refine (rmean_yes HH.out HH2.out HF.out).mono ?_
  rintro e w1 ⟨⟨m1, m2, rfl, hr, hs⟩, k, rfl⟩
  have HR := Lib.hid hr
  have HS := Lib.hid hs
  clear hr hs
  go_wp2_with fail
  go_loopw [9, 10] (fun s i wr => ∃ j : Nat, ∃ r : Nat, j ≤ n ∧ i = .int .i64 (j : Int) ∧ s = .float .f64 r ∧ okF r (spC (l.take j) (meanC (l.map (·.1)), meanC (l.map (·.2)))) ∧ ∃ k, wr = w.drewN k) (fun s i _ => (n - (match i with | .int _ z => z.toNat | _ => 0)))
  case atStart => exact ⟨0, 0, by omega, rfl, rfl, ⟨by omega, .inl rfl⟩, k, rfl⟩
  case round =>
    obtain ⟨j, r, hjn, rfl, rfl, hr, k2, rfl⟩ := hrel
    have HQ := Lib.hid hr
    clear hr
    have hl : l.length = n := by have := HH.out.1; rwa [List.length_map] at this
    by_cases e1 : (j : Int) < (n : Int)
    · obtain ⟨z, hz⟩ : ∃ z, l[j]? = some z := ⟨_, List.getElem?_eq_getElem (by omega)⟩
      rcases HH.out.2 with h00 | ⟨g, off, rfl, hg, hc⟩
      · omega
      rcases HH2.out.2 with h00 | ⟨g2, off2, rfl, hg2, hc2⟩
      · omega
      have hcx := hc j z.1 (by rw [List.getElem?_map, hz]; rfl)
      have hcy := hc2 j z.2 (by rw [List.getElem?_map, hz]; rfl)
      have HT := Lib.hid (spC_take l (meanC (l.map (·.1)), meanC (l.map (·.2))) hz)
      clear hc hc2 hz
      go_wp2_with fail
      refine ⟨⟨j + 1, _, by omega, rfl, rfl, ⟨fv_lt _ _ _ _, ?_⟩, _, rfl⟩, by show n - ((j : Int) + 1).toNat < n - (j : Int).toNat; omega⟩
      rw [HT.out]
      exact fv_al2 HQ.out.2 (part_al HR.out.2 HS.out.2 _ _ _ _ _) _
    · have e1' : ((j : Int) < (n : Int)) = False := by simp only [e1]
      have hj : j = n := by omega
      subst hj
      have HQ2 := Lib.hid (show okF r (spC l (meanC (l.map (·.1)), meanC (l.map (·.2)))) by have := HQ.out; rwa [List.take_of_length_le (by omega)] at this)
      clear HQ
      go_wp2_with fail
      go_ret2
      refine ⟨⟨_, rfl, ?_⟩, _, rfl⟩
      exact okF_step _ HQ2.out _
end Go.Proofs.Ytnjieddkphappaa
