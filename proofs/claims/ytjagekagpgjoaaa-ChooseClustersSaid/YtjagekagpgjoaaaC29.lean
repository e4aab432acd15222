/- choose: the document's own: how strange an offset is. -/
import Derived.Test.YtjagekagpgjoaaaC26
namespace Go.Proofs.Ytjagekagpgjoaaa
open Go.RowKit
set_option linter.unusedVariables false
set_option linter.unusedSimpArgs false
set_option maxRecDepth 100000
theorem dif_abs (a b : Int) : (a - b < 0 → dif a b = -(a - b)) ∧ (¬ a - b < 0 → dif a b = a - b) := by unfold dif; omega
set_option maxHeartbeats 2000000 in
theorem rstr_any {w : World} {A1 A2 : Option Addr} {B n c1 m c2 t i : Nat} {os : List Int} {L : List Nat} (h1 : Ri w B A1 n os) (h2 : Ri w B A2 m (ints L)) (hO : okO os) (hL : ∀ j ∈ L, j < n) (ht : L[t]? = some i) (hm : m ≤ 64) :
    Calls Try.prog 33 #[.slice A1 n c1, .slice A2 m c2, .int .i64 (t : Int)] w fun e w' => e = .returned (.int .i64 (str os L i)) ∧ ∃ k, w' = w.drewN k := by
  have hi : i < n := hL i (List.mem_of_getElem? ht)
  have HR1 := Lib.hid h1
  have HR2 := Lib.hid h2
  have HL1 := Lib.hid h1.1
  have hlm : L.length = m := by have := h2.1; rwa [ints_len] at this
  have HL2 := Lib.hid hlm
  have htm : t < m := by rw [← hlm]; exact (List.getElem?_eq_some_iff.1 ht).1
  have HO := Lib.hid hO
  have HLt := Lib.hid hL
  obtain ⟨g1, off1, rfl, hg1, hc1⟩ := h1.cells (by omega)
  obtain ⟨g2, off2, rfl, hg2, hc2⟩ := h2.cells (by omega)
  have t0 := hc2 w (Below.refl _ _) t _ (ints_get ht)
  have a0 : os[i]? = some (os.getD i 0) := by
    rw [List.getD_eq_getElem?_getD, List.getElem?_eq_getElem (by rw [h1.1]; exact hi)]
    rfl
  have b0 := hc1 w (Below.refl _ _) i _ a0
  have HC1 := Lib.hid (hc1 w (Below.refl _ _))
  have HC2 := Lib.hid (hc2 w (Below.refl _ _))
  have hOi := getD_ok hO i
  obtain ⟨a, ha⟩ : ∃ a, a = os.getD i 0 := ⟨_, rfl⟩
  rw [← ha] at b0 hOi
  have HA := Lib.hid ha
  clear h1 h2 hO hL hc1 hc2 a0 ha ht hlm
  go_enter Try.func33, Try.ntmps33
  go_wp2_with fail
  go_loopw [7, 8] (fun sv iv wr => ∃ j : Nat, j ≤ m ∧ iv = .int .i64 (j : Int) ∧ sv = .int .i64 (str os (L.take j) i) ∧ ∃ k, wr = w.drewN k) (fun _ iv _ => (m - (match iv with | .int _ z => z.toNat | _ => 0)))
  case atStart => exact ⟨0, by omega, rfl, rfl, 0, rfl⟩
  case round =>
    obtain ⟨j, hj, rfl, rfl, k0, rfl⟩ := hrel
    have hsl := str_lim HO.out (L.take j) i
    have hlen : (L.take j).length ≤ j := by rw [List.length_take]; omega
    obtain ⟨S, hS⟩ : ∃ S, S = str os (L.take j) i := ⟨_, rfl⟩
    rw [← hS] at hsl ⊢
    have HS := Lib.hid hS
    have hS2 : 0 ≤ S ∧ S ≤ 1000000000000000 := by omega
    clear hS hsl hlen
    by_cases hjm : j < m
    · have e1 : decide ((j : Int) < (m : Int)) = true := by simp; omega
      have e1' : (j : Int) < (m : Int) := by omega
      obtain ⟨q, hq⟩ : ∃ q, L[j]? = some q := ⟨_, List.getElem?_eq_getElem (by have := HL2.out; omega)⟩
      have hqn : q < n := HLt.out q (List.mem_of_getElem? hq)
      have b2 := HC2.out j _ (ints_get hq)
      have b3 := HC1.out q (os.getD q 0) (by
        rw [List.getD_eq_getElem?_getD, List.getElem?_eq_getElem (by rw [HL1.out]; exact hqn)]
        rfl)
      have hOq := getD_ok HO.out q
      have HT := Lib.hid (str_take (os := os) i hq)
      obtain ⟨b, hb⟩ : ∃ b, b = os.getD q 0 := ⟨_, rfl⟩
      rw [← hb] at b3 hOq
      have HB := Lib.hid hb
      have HDa := Lib.hid (dif_abs a b)
      clear hq hb
      by_cases hab : a - b < 0
      · have HM := Lib.hid (HDa.out.1 hab)
        go_wp2_with fail
        go_quiet (fail)
        go_wp2_with fail
        exact ⟨⟨j + 1, by omega, rfl, by rw [HT.out, ← HS.out, ← HA.out, ← HB.out, HM.out], k0 + nq, by first | rfl | exact World.drewN_drewN ..⟩, by show m - ((j : Int) + 1).toNat < m - (j : Int).toNat; omega⟩
      · have hab' : (a - b < 0) = False := by simp only [hab]
        have HM := Lib.hid (HDa.out.2 hab)
        go_wp2_with fail
        go_quiet (fail)
        go_wp2_with fail
        exact ⟨⟨j + 1, by omega, rfl, by rw [HT.out, ← HS.out, ← HA.out, ← HB.out, HM.out], k0 + nq, by first | rfl | exact World.drewN_drewN ..⟩, by show m - ((j : Int) + 1).toNat < m - (j : Int).toNat; omega⟩
    · have e1' : ((j : Int) < (m : Int)) = False := by simp only [eq_iff_iff, iff_false]; omega
      have HE := Lib.hid (show S = str os L i by rw [HS.out, List.take_of_length_le (by have := HL2.out; omega)])
      go_wp2_with fail
      go_ret
      exact ⟨by rw [← HE.out]; rfl, k0, rfl⟩
end Go.Proofs.Ytjagekagpgjoaaa
