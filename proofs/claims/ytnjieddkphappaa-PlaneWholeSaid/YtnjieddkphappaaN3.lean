/- plane: the reference's nearest point. -/
import Derived.Test.YtnjieddkphappaaN2
namespace Go.Proofs.Ytnjieddkphappaa
open Go.RowKit
set_option maxRecDepth 100000
set_option linter.unusedVariables false
theorem rfar_two (a b c d : Nat) (w : World) : Calls Try.prog 17 #[.float .f64 a, .float .f64 b, .float .f64 c, .float .f64 d] w fun e w' => (∃ r, e = .returned (.float .f64 r) ∧ r < 18446744073709551616 ∧ al r (farC a b c d)) ∧ ∃ k, w' = w.drewN k := rfar_any a b c d w
theorem rnearest_no {A A2 : Option Addr} {n c d x y : Nat} (h : fitE n ≠ 0) (hn : n ≤ 1099511627776) (w : World) :
    Calls Try.prog 27 #[.slice A n c, .slice A2 n d, .float .f64 x, .float .f64 y] w fun e w' => e = .returned (.tuple #[.int .i64 0, .int .i64 (fitE n)]) ∧ ∃ k, w' = w.drewN k := by
  obtain ⟨q, hq⟩ : ∃ q, q = fitE n := ⟨_, rfl⟩
  rw [← hq] at h ⊢
  have HQ := Lib.hid hq
  clear hq
  go_enter Try.func27, Try.ntmps27
  go_wp2_with fail
  refine (rfit_any _ _).mono ?_
  rintro e w1 ⟨rfl, rfl⟩
  rw [← HQ.out]
  have h' : (q == 0) = false := by simpa using h
  go_wp2_with fail
  go_ret2
  exact ⟨rfl, 0, rfl⟩
set_option maxHeartbeats 4000000 in
theorem rnearest_yes {w : World} {B n c C d : Nat} {A A2 : Option Addr} {l : List (Nat × Nat)} (x y : Nat) (h : Fx w B A n (l.map (·.1))) (h2 : Fx w C A2 n (l.map (·.2))) (hf : fitE n = 0) :
    Calls Try.prog 27 #[.slice A n c, .slice A2 n d, .float .f64 x, .float .f64 y] w fun e w' => e = .returned (.tuple #[.int .i64 (nearC l (x, y) n : Nat), .int .i64 0]) ∧ ∃ k, w' = w.drewN k := by
  have HH := Lib.hid h
  have HH2 := Lib.hid h2
  obtain ⟨hn0, hn1⟩ := fit_le hf
  have HF := Lib.hid hf
  clear h h2 hf
  go_enter Try.func27, Try.ntmps27
  go_wp2_with fail
  refine (rfit_any n w).mono ?_
  rintro e w1 ⟨rfl, rfl⟩
  rw [HF.out]
  go_wp2_with fail
  have hl : l.length = n := by have := HH.out.1; rwa [List.length_map] at this
  obtain ⟨g, off, rfl, hg, hc⟩ := HH.out.2.resolve_left hn0
  obtain ⟨g2, off2, rfl, hg2, hc2⟩ := HH2.out.2.resolve_left hn0
  have HC := Lib.hid hc
  have HC2 := Lib.hid hc2
  clear hc hc2 HH HH2 hg hg2
  go_loopw [11, 12] (fun s i wr => ∃ j : Nat, 0 < j ∧ j ≤ n ∧ i = .int .i64 (j : Int) ∧ s = .int .i64 (nearC l (x, y) j : Nat) ∧ ∃ k, wr = w1.drewN k) (fun s i _ => (n - (match i with | .int _ z => z.toNat | _ => 0)))
  case atStart =>
    refine ⟨1, by omega, by omega, rfl, ?_, 0, rfl⟩
    have : nearC l (x, y) 1 = 0 := by have := nearC_le l (x, y) 1; omega
    rw [this]; rfl
  case round =>
    obtain ⟨j, hj0, hjn, rfl, rfl, k2, rfl⟩ := hrel
    have HJ := Lib.hid hj0
    clear hj0
    by_cases e1 : (j : Int) < (n : Int)
    · have hkn : nearC l (x, y) j < n := by have := nearC_le l (x, y) j; omega
      obtain ⟨k, hk⟩ : ∃ k, k = nearC l (x, y) j := ⟨_, rfl⟩
      obtain ⟨z, hz⟩ : ∃ z, l[j]? = some z := ⟨_, List.getElem?_eq_getElem (by omega)⟩
      obtain ⟨v, hv⟩ : ∃ v, l[k]? = some v := ⟨_, List.getElem?_eq_getElem (by omega)⟩
      have hs : nearC l (x, y) (j + 1) = if ltF (farC z.1 z.2 x y) (farC v.1 v.2 x y) then j else k := by
        have k1 : l.getD j (0, 0) = z := by rw [List.getD_eq_getElem?_getD, hz]; rfl
        have k2 : l.getD k (0, 0) = v := by rw [List.getD_eq_getElem?_getD, hv]; rfl
        rw [← k1, ← k2, hk]; rfl
      have hcx := HC.out j z.1 (by rw [List.getElem?_map, hz]; rfl)
      have hcy := HC2.out j z.2 (by rw [List.getElem?_map, hz]; rfl)
      have hdx := HC.out k v.1 (by rw [List.getElem?_map, hv]; rfl)
      have hdy := HC2.out k v.2 (by rw [List.getElem?_map, hv]; rfl)
      rw [← hk] at hkn ⊢
      have HSx := Lib.hid hs
      obtain ⟨z1, z2⟩ := z
      obtain ⟨v1, v2⟩ := v
      have i0 : (0 : Int) ≤ (k : Int) := by omega
      have i1 : (k : Int) < (n : Int) := by omega
      have E0 : Ex w1 (w1.drewN k2).drew := ⟨k2 + 1, rfl⟩
      clear hk hz hv hs HC HC2
      go_wp2_with fail
      go_region_held3 (fun w' => w'.cell? ⟨g, off + j, none⟩ = some (.float .f64 z1) ∧ w'.cell? ⟨g2, off2 + j, none⟩ = some (.float .f64 z2) ∧ w'.cell? ⟨g, off + k, none⟩ = some (.float .f64 v1) ∧ w'.cell? ⟨g2, off2 + k, none⟩ = some (.float .f64 v2) ∧ Ex w1 w')
        (first | exact ⟨hcx, hcy, hdx, hdy, E0⟩ | (go_split_ands; refine ⟨?_, ?_, ?_, ?_, ?_⟩ <;> first | assumption | (rw [World.cell?_drewN]; assumption) | exact Ex.of _ _ | exact Ex.more (Ex.of _ _) _ | exact Ex.more (by assumption) _))
        (first
        | (go_at_call 17; with_reducible refine (rfar_two z1 z2 _ _ _).mono ?_; rintro e wn ⟨⟨r1, rfl, hr1, ha1⟩, kn, rfl⟩; dsimp only)
        | (go_at_call 17; with_reducible refine (rfar_two v1 v2 _ _ _).mono ?_; rintro e wn ⟨⟨r2, rfl, hr2, ha2⟩, kn, rfl⟩; dsimp only))
      rename_i ks hH
      obtain ⟨b, hb⟩ : ∃ b, b = ltF (farC z1 z2 x y) (farC v1 v2 x y) := ⟨_, rfl⟩
      have h1 : (FloatKind.f64.format.order r1 r2 == some Ordering.lt) = b := by
        show ltF r1 r2 = b
        rw [ltF_al ha1 ha2]; exact hb.symm
      have hs := HSx.out
      rw [← hb] at hs
      clear hH ha1 ha2 hb HSx
      rw [h1]
      clear h1
      cases b
      · have HS2 := Lib.hid (show nearC l (x, y) (j + 1) = k from hs)
        clear hs
        go_wp2_with fail
        refine ⟨⟨j + 1, by omega, by omega, rfl, by rw [HS2.out], _, rfl⟩, by show n - ((j : Int) + 1).toNat < n - (j : Int).toNat; omega⟩
      · have HS2 := Lib.hid (show nearC l (x, y) (j + 1) = j from hs)
        clear hs
        go_wp2_with fail
        refine ⟨⟨j + 1, by omega, by omega, rfl, by rw [HS2.out], _, rfl⟩, by show n - ((j : Int) + 1).toNat < n - (j : Int).toNat; omega⟩
    · have e1' : ((j : Int) < (n : Int)) = False := by simp only [e1]
      have hj : j = n := by omega
      subst hj
      go_wp2_with fail
      go_ret2
      exact ⟨rfl, _, rfl⟩
end Go.Proofs.Ytnjieddkphappaa
